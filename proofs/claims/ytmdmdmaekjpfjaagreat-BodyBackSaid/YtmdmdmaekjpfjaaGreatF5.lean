import Derived.Test.YtmdmdmaekjpfjaaGreatF4
namespace Go.Proofs.YtmdmdmaekjpfjaaGreat
open Go.RowKit
set_option linter.unusedVariables false
set_option linter.unnecessarySimpa false
set_option linter.unusedSimpArgs false
set_option maxRecDepth 20000

noncomputable def fn_ref19_Take (xa : (List UInt8)) : Option ((Int × Int × Int × (List Int) × (List Int) × (List Int) × Int × Int)) :=
  (fn_ref02_Take xa).bind fun (i266, i267, i268) => cond (!decide (i268 = 0)) (some ((0, 0, 0, [], [], [], 0, i268))) (cond ((decide (i266 < 1)) || (decide (4 < i266))) (some ((0, 0, 0, [], [], [], 0, 3))) ((cond (decide (i266 = 1)) (some (1)) (some (0)) : Option Int).bind fun i283 => (cond (decide (i266 = 4)) (some (3)) (some (i283)) : Option Int).bind fun i290 => (subL xa i267 (((xa.length : Nat) : Int))).bind fun y296 => (fn_ref19_numbers y296 i290).bind fun (l300, i301, i302) => cond (!decide (i302 = 0)) (some ((0, 0, 0, [], [], [], 0, i302))) ((cond (decide (i266 = 1)) (some (l300)) (some ([])) : Option (List Int)).bind fun l323 => (cond (decide (i266 = 4)) ((getI l300 0).bind fun x366 => (getI l300 1).bind fun x375 => (subL l300 2 (((l300.length : Nat) : Int))).bind fun y384 => some ((x366, x375, y384))) (some ((0, 0, l323))) : Option ((Int × Int × (List Int)))).bind fun (i357, i358, l359) => (cond ((decide (i266 = 2)) || (decide (i266 = 4))) ((subL xa (IntKind.wrap .i64 (i267 + i301)) (((xa.length : Nat) : Int))).bind fun y468 => (fn_ref19_taken y468).bind fun (l472, i473, i474) => cond (!decide (i474 = 0)) (some (.inr ((0, 0, 0, [], [], [], 0, i474)))) (cond ((decide (i266 = 2)) && (decide ((((l472.length : Nat) : Int)) = 0))) (some (.inr ((0, 0, 0, [], [], [], 0, 3)))) ((subL xa (IntKind.wrap .i64 ((IntKind.wrap .i64 (i267 + i301)) + i473)) (((xa.length : Nat) : Int))).bind fun y491 => (fn_ref19_taken y491).bind fun (l495, i496, i497) => cond (!decide (i497 = 0)) (some (.inr ((0, 0, 0, [], [], [], 0, i497)))) (cond (decide (i266 = 2)) (some (.inl ((IntKind.wrap .i64 ((IntKind.wrap .i64 ((IntKind.wrap .i64 (i267 + i301)) + i473)) + i496), l472, l495, [])))) (some (.inl ((IntKind.wrap .i64 ((IntKind.wrap .i64 ((IntKind.wrap .i64 (i267 + i301)) + i473)) + i496), l359, l495, l472)))))))) (some (.inl ((IntKind.wrap .i64 (i267 + i301), l359, [], [])))) : Option ((Int × (List Int) × (List Int) × (List Int)) ⊕ (Int × Int × Int × (List Int) × (List Int) × (List Int) × Int × Int))).bind fun o => match o with | .inr r => some r | .inl (i447, l448, l452, l457) => some ((i266, i357, i358, l448, l452, l457, i447, 0)))))
set_option maxRecDepth 100000 in
set_option maxHeartbeats 4000000 in
theorem ref19_Take_ok {K : Hp} {xa : (List UInt8)}   {r : (Int × Int × Int × (List Int) × (List Int) × (List Int) × Int × Int)} (h : fn_ref19_Take xa = some r) :
    Tr Tryz.prog 103 #[.string ⟨xa.toArray⟩] K [] (fun v K' L' => (∃ (i244 : Int) (i245 : Int) (i246 : Int) (l247 : (List Int)) (l251 : (List Int)) (l256 : (List Int)) (i261 : Int) (i262 : Int) (ad248 : Option Addr) (cp249 : Nat) (ad252 : Option Addr) (cp253 : Nat) (ad257 : Option Addr) (cp258 : Nat), (i244, i245, i246, l247, l251, l256, i261, i262) = r ∧ .tuple #[.agg #[ii i244, ii i245, ii i246, .slice ad248 l247.length cp249, .slice ad252 l251.length cp253, .slice ad257 l256.length cp258], ii i261, ii i262] = v ∧ Is K' (.sl (.int .i64)) [.slice ad248 l247.length cp249] l247 ∧ L' = [Row Hp.nil 3 (.int .i64) (.slice ad252 l251.length cp253) l251, Row Hp.nil 3 (.int .i64) (.slice ad257 l256.length cp258) l256])) := by
 refine Tr.of Tryz.func103 rfl Tryz.ntmps103 rfl fun E F => ?_
 unfold fn_ref19_Take at h
 refine cr <| jal inf68 [ii 0, ii 0, ii 0, nos, nos, nos] rfl fun b263 => ja (ii 0) rfl <| ja (ii 0) rfl <| J.nil <| CJ.seq ?_
 refine CJ.region <| jm (.string ⟨xa.toArray⟩) rfl ?_
 obtain ⟨r264, hr265, h⟩ := ob h
 refine J.op rfl (A.call (L1 := []) Tryz.call79 rfl (ref02_Take_ok hr265) rfl rfl) ?_
 rintro _ _ _ ⟨v269, _, rfl, ⟨⟨i266, i267, i268, rfl, rfl, rfl⟩, rfl⟩, _, rfl⟩
 refine jm (.tuple #[ii i266, ii i267, ii i268]) rfl <| jx (ii i266) rfl rfl <| jx (ii i267) rfl rfl <| jx (ii i268) rfl rfl <| ja (ii i266) rfl <| ja (ii i267) rfl <| ja (ii i268) rfl ?_
 refine J.nil <| CJ.seq <| cr <| jm (ii i268) rfl <| jv (.bool (!decide (i268 = 0))) (V.neq rfl rfl) <| J.nil ?_
 refine cc rfl h (fun hc272 h => ?_) fun hc272 h => ?_
 · refine cr <| jv (.agg #[ii 0, ii 0, ii 0, nos, nos, nos]) (V.build inf68 places68 rfl rfl) <| jm (ii i268) rfl <| js [ii 0, ii 0, ii 0, nos, nos, nos] sz68 rfl rfl rfl rfl rfl rfl <| ja (ii 0) rfl <| ja (ii i268) rfl ?_
   refine J.nil <| CJ.by (fun w hs => Sep.rowNil (e := 3) (t := (.int .i64)) hs) <| CJ.by (fun w hs => Sep.rowNil (e := 3) (t := (.int .i64)) hs) <| CJ.ret ?_
   obtain rfl := si h
   exact ⟨_, _, Res.three rfl ⟨_, _, rfl, Ld.agg (cs := [ii 0, ii 0, ii 0, nos, nos, nos]) Tryz.underlying68 sz68 rfl (Rd.cls 2 0 rfl rfl)⟩ rfl rfl, ⟨0, 0, 0, [], [], [], 0, i268, none, 0, none, 0, none, 0, rfl, rfl, isNil, rfl⟩, (Hp.le_refl _), fun w hs => (Sep.front 1 rfl (Sep.dropAt 2 rfl hs))⟩
 refine CJ.skip <| cr <| jm (ii i266) rfl <| jv (.agg #[ii i266, ii 0, ii 0, nos, nos, nos]) (V.build inf68 places68 rfl rfl) <| jal inf68 [ii 0, ii 0, ii 0, nos, nos, nos] rfl fun b275 => js [ii i266, ii 0, ii 0, nos, nos, nos] sz68 rfl rfl rfl rfl rfl rfl ?_
 refine J.nil <| CJ.seq <| cr <| jm (ii i266) rfl <| jv (.bool (decide (i266 < 1))) (V.lss rfl rfl) <| jm (.bool (decide (i266 < 1))) rfl ?_
 refine J.cut 3 <| jmeet [(36, .bool ((decide (i266 < 1)) || (decide (4 < i266)))), (0, .string ⟨xa.toArray⟩), (2, .pointer (some ⟨b263, 0, none⟩)), (5, ii i266), (6, ii i267), (8, .pointer (some ⟨b275, 0, none⟩))] ?_ ?_
 · rcases bt (decide (i266 < 1)) with hc278 | hc278
   · refine J.skip rfl rfl rfl rfl hc278 <| J.skip rfl rfl rfl rfl hc278 <| jv (.bool true) (V.pickT rfl hc278 rfl) <| J.nil ?_
     exact ⟨rfl, ⟨(by simp only [hc278]; rfl), rfl, rfl, rfl, rfl, rfl, trivial⟩, rfl, rfl⟩
   refine J.run rfl rfl rfl hc278 <| jm (ii i266) rfl <| J.run rfl rfl rfl hc278 <| jv (.bool (decide (4 < i266))) (V.gtr rfl rfl) <| jv (.bool (decide (4 < i266))) (V.pickF rfl hc278 rfl) <| J.nil ?_
   exact ⟨rfl, ⟨(by simp only [hc278]; rfl), rfl, rfl, rfl, rfl, rfl, trivial⟩, rfl, rfl⟩
 intro ρ
 refine J.nil <| cc rfl h (fun hc279 h => ?_) fun hc279 h => ?_
 · refine cr <| jv (.agg #[ii 0, ii 0, ii 0, nos, nos, nos]) (V.build inf68 places68 rfl rfl) <| J.front 1 rfl <| js [ii 0, ii 0, ii 0, nos, nos, nos] sz68 rfl rfl rfl rfl rfl rfl <| ja (ii 0) rfl <| ja (ii 3) rfl ?_
   refine J.nil <| CJ.by (fun w hs => Sep.rowNil (e := 3) (t := (.int .i64)) hs) <| CJ.by (fun w hs => Sep.rowNil (e := 3) (t := (.int .i64)) hs) <| CJ.ret ?_
   obtain rfl := si h
   exact ⟨_, _, Res.three rfl ⟨_, _, rfl, Ld.agg (cs := [ii 0, ii 0, ii 0, nos, nos, nos]) Tryz.underlying68 sz68 rfl (Rd.cls 2 0 rfl rfl)⟩ rfl rfl, ⟨0, 0, 0, [], [], [], 0, 3, none, 0, none, 0, none, 0, rfl, rfl, isNil, rfl⟩, (Hp.le_refl _), fun w hs => (Sep.front 1 rfl (Sep.dropAt 2 rfl (Sep.dropAt 2 rfl hs)))⟩
 refine CJ.skip <| cr <| ja (ii 0) rfl <| J.nil <| CJ.seq ?_
 obtain ⟨o284, ho285, h⟩ := ob h
 refine CJ.meetN (fun ρ K' L' => ∃ (i283 : Int), i283 = o284 ∧ Fits [(0, .string ⟨xa.toArray⟩), (2, .pointer (some ⟨b263, 0, none⟩)), (5, ii i266), (6, ii i267), (8, .pointer (some ⟨b275, 0, none⟩)), (9, ii i283)] ρ ∧ K = K' ∧ L' = Cl b263 68 [ii 0, ii 0, ii 0, nos, nos, nos] :: Cl b275 68 [ii i266, ii 0, ii 0, nos, nos, nos] :: F) ?_ ?_
 · refine cr <| jm (ii i266) rfl <| jv (.bool (decide (i266 = 1))) (V.eql rfl rfl) <| J.nil <| cc rfl ho285 (fun hc286 ho285 => ?_) fun hc286 ho285 => ?_
   · refine CJ.region <| ja (ii 1) rfl <| J.front 1 rfl <| J.nil ?_
     obtain rfl := si ho285
     exact ⟨rfl, ⟨1, rfl, ⟨rfl, rfl, rfl, rfl, rfl, rfl, trivial⟩, rfl, rfl⟩⟩
   refine CJ.front 1 rfl <| CJ.skip ?_
   obtain rfl := si ho285
   exact ⟨rfl, ⟨0, rfl, ⟨rfl, rfl, rfl, rfl, rfl, rfl, trivial⟩, rfl, rfl⟩⟩
 rintro ρ _ _ ⟨i283, rfl, hf287, rfl, rfl⟩
 obtain ⟨ρ, rfl⟩ := hf287.ex
 refine PJ.done <| CJ.seq ?_
 obtain ⟨o291, ho292, h⟩ := ob h
 refine CJ.meetN (fun ρ K' L' => ∃ (i290 : Int), i290 = o291 ∧ Fits [(0, .string ⟨xa.toArray⟩), (2, .pointer (some ⟨b263, 0, none⟩)), (5, ii i266), (6, ii i267), (8, .pointer (some ⟨b275, 0, none⟩)), (9, ii i290)] ρ ∧ K = K' ∧ L' = Cl b263 68 [ii 0, ii 0, ii 0, nos, nos, nos] :: Cl b275 68 [ii i266, ii 0, ii 0, nos, nos, nos] :: F) ?_ ?_
 · refine cr <| jm (ii i266) rfl <| jv (.bool (decide (i266 = 4))) (V.eql rfl rfl) <| J.nil <| cc rfl ho292 (fun hc293 ho292 => ?_) fun hc293 ho292 => ?_
   · refine CJ.region <| ja (ii 3) rfl <| J.nil ?_
     obtain rfl := si ho292
     exact ⟨rfl, ⟨3, rfl, ⟨rfl, rfl, rfl, rfl, rfl, rfl, trivial⟩, rfl, rfl⟩⟩
   refine CJ.skip ?_
   obtain rfl := si ho292
   exact ⟨rfl, ⟨i283, rfl, ⟨rfl, rfl, rfl, rfl, rfl, rfl, trivial⟩, rfl, rfl⟩⟩
 rintro ρ _ _ ⟨i290, rfl, hf294, rfl, rfl⟩
 obtain ⟨ρ, rfl⟩ := hf294.ex
 refine PJ.done <| cr <| jm (.string ⟨xa.toArray⟩) rfl <| jm (ii i267) rfl ?_
 obtain ⟨y296, hy297, h⟩ := ob h
 refine jv (.string ⟨y296.toArray⟩) (V.subs Tryz.underlying9 rfl (fun _ h => by cases h; exact ⟨_, rfl⟩) nofun nofun (fun _ => rfl) hy297) <| jm (ii i290) rfl ?_
 obtain ⟨r298, hr299, h⟩ := ob h
 refine J.op rfl (A.call (L1 := []) Tryz.call116 rfl (ref19_numbers_ok hr299) rfl rfl) ?_
 rintro _ _ _ ⟨v306, _, rfl, ⟨⟨l300, i301, i302, ad303, cp304, rfl, rfl, rfl⟩, rfl⟩, _, rfl⟩
 refine J.wit Row.hn fun hn305 => jm (.tuple #[.slice ad303 l300.length cp304, ii i301, ii i302]) rfl <| jx (.slice ad303 l300.length cp304) rfl rfl <| jx (ii i301) rfl rfl <| jx (ii i302) rfl rfl <| ja (.slice ad303 l300.length cp304) rfl <| ja (ii i301) rfl ?_
 refine ja (ii i302) rfl <| J.nil <| CJ.seq <| cr <| jm (ii i302) rfl <| jv (.bool (!decide (i302 = 0))) (V.neq rfl rfl) ?_
 refine J.nil <| cc rfl h (fun hc310 h => ?_) fun hc310 h => ?_
 · refine cr <| jv (.agg #[ii 0, ii 0, ii 0, nos, nos, nos]) (V.build inf68 places68 rfl rfl) <| jm (ii i302) rfl <| J.front 1 rfl <| js [ii 0, ii 0, ii 0, nos, nos, nos] sz68 rfl rfl rfl rfl rfl rfl <| ja (ii 0) rfl ?_
   refine ja (ii i302) rfl <| J.nil <| CJ.by (fun w hs => Sep.rowNil (e := 3) (t := (.int .i64)) hs) <| CJ.by (fun w hs => Sep.rowNil (e := 3) (t := (.int .i64)) hs) <| CJ.ret ?_
   obtain rfl := si h
   exact ⟨_, _, Res.three rfl ⟨_, _, rfl, Ld.agg (cs := [ii 0, ii 0, ii 0, nos, nos, nos]) Tryz.underlying68 sz68 rfl (Rd.cls 2 0 rfl rfl)⟩ rfl rfl, ⟨0, 0, 0, [], [], [], 0, i302, none, 0, none, 0, none, 0, rfl, rfl, isNil, rfl⟩, (Hp.le_refl _), fun w hs => (Sep.front 1 rfl (Sep.dropAt 2 rfl (Sep.dropAt 2 rfl (Sep.dropAt 2 rfl hs))))⟩
 refine CJ.skip <| cr <| jm (ii i267) rfl <| jm (ii i301) rfl <| jv (ii (IntKind.wrap .i64 (i267 + i301))) (V.add rfl rfl) <| ja (ii (IntKind.wrap .i64 (i267 + i301))) rfl ?_
 refine J.nil <| CJ.seq <| CJ.persist (Hp.nil_le _) (by decide) fun K319 hK320 f321 => ?_
 obtain ⟨o327, ho328, h⟩ := ob h
 refine CJ.meetN (fun ρ K' L' => ∃ (l323 : (List Int)) (ad324 : Option Addr) (cp325 : Nat), l323 = o327 ∧ Fits [(0, .string ⟨xa.toArray⟩), (2, .pointer (some ⟨b263, 0, none⟩)), (5, ii i266), (6, ii (IntKind.wrap .i64 (i267 + i301))), (8, .pointer (some ⟨b275, 0, none⟩)), (10, .slice ad303 l300.length cp304)] ρ ∧ K319 = K' ∧ Is K319 (.sl (.int .i64)) [.slice ad324 l323.length cp325] l323 ∧ L' = Cl b263 68 [ii 0, ii 0, ii 0, nos, nos, nos] :: Cl b275 68 [ii i266, ii 0, ii 0, .slice ad324 l323.length cp325, nos, nos] :: F) ?_ ?_
 · refine cr <| jm (ii i266) rfl <| jv (.bool (decide (i266 = 1))) (V.eql rfl rfl) <| J.nil <| cc rfl ho328 (fun hc329 ho328 => ?_) fun hc329 ho328 => ?_
   · refine CJ.region <| jm (.slice ad303 l300.length cp304) rfl <| jv _ (V.fad Tryz.underlying68 rfl nz66 rfl) <| J.front 1 rfl <| js1 [ii i266, ii 0, ii 0, .slice ad303 l300.length cp304, nos, nos] sz66 rfl rfl rfl rfl rfl rfl <| J.front 1 rfl <| J.nil ?_
     obtain rfl := si ho328
     exact ⟨rfl, ⟨l300, ad303, cp304, rfl, ⟨rfl, rfl, rfl, rfl, rfl, rfl, trivial⟩, rfl, f321, rfl⟩⟩
   refine CJ.skip ?_
   obtain rfl := si ho328
   exact ⟨rfl, ⟨[], none, 0, rfl, ⟨rfl, rfl, rfl, rfl, rfl, rfl, trivial⟩, rfl, isNil, rfl⟩⟩
 rintro ρ _ _ ⟨l323, ad324, cp325, rfl, hf330, rfl, f326, rfl⟩
 obtain ⟨ρ, rfl⟩ := hf330.ex
 refine PJ.done <| CJ.seq ?_
 obtain ⟨o363, ho364, h⟩ := ob h
 refine CJ.meetN (fun ρ K' L' => ∃ (i357 : Int) (i358 : Int) (l359 : (List Int)) (ad360 : Option Addr) (cp361 : Nat), (i357, i358, l359) = o363 ∧ Fits [(0, .string ⟨xa.toArray⟩), (2, .pointer (some ⟨b263, 0, none⟩)), (5, ii i266), (6, ii (IntKind.wrap .i64 (i267 + i301))), (8, .pointer (some ⟨b275, 0, none⟩))] ρ ∧ K319 = K' ∧ Is K319 (.sl (.int .i64)) [.slice ad360 l359.length cp361] l359 ∧ L' = Cl b263 68 [ii 0, ii 0, ii 0, nos, nos, nos] :: Cl b275 68 [ii i266, ii i357, ii i358, .slice ad360 l359.length cp361, nos, nos] :: F) ?_ ?_
 · refine cr <| jm (ii i266) rfl <| jv (.bool (decide (i266 = 4))) (V.eql rfl rfl) <| J.nil <| cc rfl ho364 (fun hc365 ho364 => ?_) fun hc365 ho364 => ?_
   · refine cr <| jm (.slice ad303 l300.length cp304) rfl ?_
     obtain ⟨x366, hx367, ho364⟩ := ob ho364
     obtain ⟨p368, p369, p370⟩ := getI_some hx367
     obtain ⟨b371, o372, e373, a374⟩ := (f321).at p369
     refine jv _ (V.iad Tryz.underlying66 sz3 rfl e373 rfl p368 p370) <| jv (ii x366) (V.ld rfl (Ld.sc sc3 (Rd.k (a374).int (Hp.le_refl _)))) <| jv _ (V.fad Tryz.underlying68 rfl nz3 rfl) <| J.front 1 rfl <| js1 [ii i266, ii x366, ii 0, .slice ad324 l323.length cp325, nos, nos] sz3 rfl rfl rfl rfl rfl rfl <| J.nil <| CJ.seq ?_
     refine CJ.region <| jm (.slice ad303 l300.length cp304) rfl ?_
     obtain ⟨x375, hx376, ho364⟩ := ob ho364
     obtain ⟨p377, p378, p379⟩ := getI_some hx376
     obtain ⟨b380, o381, e382, a383⟩ := (f321).at p378
     refine jv _ (V.iad Tryz.underlying66 sz3 rfl e382 rfl p377 p379) <| jv (ii x375) (V.ld rfl (Ld.sc sc3 (Rd.k (a383).int (Hp.le_refl _)))) <| jv _ (V.fad Tryz.underlying68 rfl nz3 rfl) <| js1 [ii i266, ii x366, ii x375, .slice ad324 l323.length cp325, nos, nos] sz3 rfl rfl rfl rfl rfl rfl <| J.nil <| CJ.region <| jm (.slice ad303 l300.length cp304) rfl ?_
     obtain ⟨y384, hy385, ho364⟩ := ob ho364
     obtain ⟨ad386, cp387, hv388, f389⟩ := V.subI (tp := (.int .i64)) Tryz.underlying66 sz3 f321 hy385
     refine jv (.slice ad386 y384.length cp387) (hv388 rfl (fun _ h => by cases h; exact ⟨_, rfl⟩) nofun nofun (fun _ => rfl)) <| jv _ (V.fad Tryz.underlying68 rfl nz66 rfl) <| js1 [ii i266, ii x366, ii x375, .slice ad386 y384.length cp387, nos, nos] sz66 rfl rfl rfl rfl rfl rfl <| J.front 1 rfl <| J.nil ?_
     obtain rfl := si ho364
     exact ⟨rfl, ⟨x366, x375, y384, ad386, cp387, rfl, ⟨rfl, rfl, rfl, rfl, rfl, trivial⟩, rfl, f389, rfl⟩⟩
   refine CJ.skip ?_
   obtain rfl := si ho364
   exact ⟨rfl, ⟨0, 0, l323, ad324, cp325, rfl, ⟨rfl, rfl, rfl, rfl, rfl, trivial⟩, rfl, f326, rfl⟩⟩
 rintro ρ _ _ ⟨i357, i358, l359, ad360, cp361, rfl, hf390, rfl, f362, rfl⟩
 obtain ⟨ρ, rfl⟩ := hf390.ex
 refine PJ.done <| CJ.seq ?_
 obtain ⟨o462, ho463, h⟩ := ob h
 refine CJ.joinN (o := o462) (fun s ρ K' L' => ∃ (i447 : Int) (l448 : (List Int)) (l452 : (List Int)) (l457 : (List Int)) (ad449 : Option Addr) (cp450 : Nat) (ad453 : Option Addr) (cp454 : Nat) (ad458 : Option Addr) (cp459 : Nat), (i447, l448, l452, l457) = s ∧ Fits [(2, .pointer (some ⟨b263, 0, none⟩)), (6, ii i447), (8, .pointer (some ⟨b275, 0, none⟩))] ρ ∧ Hp.le K319 K' ∧ Is K' (.sl (.int .i64)) [.slice ad449 l448.length cp450] l448 ∧ L' = Cl b263 68 [ii 0, ii 0, ii 0, nos, nos, nos] :: Cl b275 68 [ii i266, ii i357, ii i358, .slice ad449 l448.length cp450, .slice ad453 l452.length cp454, .slice ad458 l457.length cp459] :: Row Hp.nil 3 (.int .i64) (.slice ad453 l452.length cp454) l452 :: Row Hp.nil 3 (.int .i64) (.slice ad458 l457.length cp459) l457 :: F) ?_ ?_
 · refine cr <| jm (ii i266) rfl <| jv (.bool (decide (i266 = 2))) (V.eql rfl rfl) <| jm (.bool (decide (i266 = 2))) rfl <| J.cut 3 <| jmeet [(80, .bool ((decide (i266 = 2)) || (decide (i266 = 4)))), (0, .string ⟨xa.toArray⟩), (2, .pointer (some ⟨b263, 0, none⟩)), (5, ii i266), (6, ii (IntKind.wrap .i64 (i267 + i301))), (8, .pointer (some ⟨b275, 0, none⟩))] ?_ ?_
   · rcases bt (decide (i266 = 2)) with hc466 | hc466
     · refine J.skip rfl rfl rfl rfl hc466 <| J.skip rfl rfl rfl rfl hc466 <| jv (.bool true) (V.pickT rfl hc466 rfl) <| J.nil ?_
       exact ⟨rfl, ⟨(by simp only [hc466]; rfl), rfl, rfl, rfl, rfl, rfl, trivial⟩, rfl, rfl⟩
     refine J.run rfl rfl rfl hc466 <| jm (ii i266) rfl <| J.run rfl rfl rfl hc466 <| jv (.bool (decide (i266 = 4))) (V.eql rfl rfl) <| jv (.bool (decide (i266 = 4))) (V.pickF rfl hc466 rfl) <| J.nil ?_
     exact ⟨rfl, ⟨(by simp only [hc466]; rfl), rfl, rfl, rfl, rfl, rfl, trivial⟩, rfl, rfl⟩
   intro ρ
   refine J.nil <| cc rfl ho463 (fun hc467 ho463 => ?_) fun hc467 ho463 => ?_
   · refine cr <| jm (.string ⟨xa.toArray⟩) rfl <| jm (ii (IntKind.wrap .i64 (i267 + i301))) rfl ?_
     obtain ⟨y468, hy469, ho463⟩ := ob ho463
     refine jv (.string ⟨y468.toArray⟩) (V.subs Tryz.underlying9 rfl (fun _ h => by cases h; exact ⟨_, rfl⟩) nofun nofun (fun _ => rfl) hy469) ?_
     obtain ⟨r470, hr471, ho463⟩ := ob ho463
     refine J.op rfl (A.call (L1 := []) Tryz.call117 rfl (ref19_taken_ok hr471) rfl rfl) ?_
     rintro _ _ _ ⟨v478, _, rfl, ⟨⟨l472, i473, i474, ad475, cp476, rfl, rfl, rfl⟩, rfl⟩, _, rfl⟩
     refine J.wit Row.hn fun hn477 => jm (.tuple #[.slice ad475 l472.length cp476, ii i473, ii i474]) rfl <| jx (.slice ad475 l472.length cp476) rfl rfl <| jx (ii i473) rfl rfl <| jx (ii i474) rfl rfl <| ja (.slice ad475 l472.length cp476) rfl <| ja (ii i473) rfl ?_
     refine ja (ii i474) rfl <| J.nil <| CJ.seq <| cr <| jm (ii i474) rfl <| jv (.bool (!decide (i474 = 0))) (V.neq rfl rfl) ?_
     refine J.nil <| cc rfl ho463 (fun hc482 ho463 => ?_) fun hc482 ho463 => ?_
     · refine cr <| jv (.agg #[ii 0, ii 0, ii 0, nos, nos, nos]) (V.build inf68 places68 rfl rfl) <| jm (ii i474) rfl <| J.front 1 rfl <| js [ii 0, ii 0, ii 0, nos, nos, nos] sz68 rfl rfl rfl rfl rfl rfl <| ja (ii 0) rfl ?_
       refine ja (ii i474) rfl <| J.nil <| CJ.by (fun w hs => Sep.rowNil (e := 3) (t := (.int .i64)) hs) <| CJ.by (fun w hs => Sep.rowNil (e := 3) (t := (.int .i64)) hs) <| CJ.ret ?_
       obtain rfl := si ho463
       refine .inr ⟨nofun, ?_⟩
       obtain rfl := si h
       exact ⟨_, _, Res.three rfl ⟨_, _, rfl, Ld.agg (cs := [ii 0, ii 0, ii 0, nos, nos, nos]) Tryz.underlying68 sz68 rfl (Rd.cls 2 0 rfl rfl)⟩ rfl rfl, ⟨0, 0, 0, [], [], [], 0, i474, none, 0, none, 0, none, 0, rfl, rfl, isNil, rfl⟩, hK320, fun w hs => (Sep.front 1 rfl (Sep.dropAt 2 rfl (Sep.dropAt 2 rfl (Sep.dropAt 2 rfl hs))))⟩
     refine CJ.skip <| CJ.seq <| cr <| jm (ii i266) rfl <| jv (.bool (decide (i266 = 2))) (V.eql rfl rfl) <| jm (.bool (decide (i266 = 2))) rfl ?_
     refine J.cut 4 <| jmeet [(99, .bool ((decide (i266 = 2)) && (decide ((((l472.length : Nat) : Int)) = 0)))), (0, .string ⟨xa.toArray⟩), (2, .pointer (some ⟨b263, 0, none⟩)), (5, ii i266), (6, ii (IntKind.wrap .i64 (i267 + i301))), (8, .pointer (some ⟨b275, 0, none⟩)), (13, .slice ad475 l472.length cp476), (14, ii i473)] ?_ ?_
     · rcases bt (decide (i266 = 2)) with hc487 | hc487
       · refine J.run rfl rfl rfl hc487 <| jm (.slice ad475 l472.length cp476) rfl <| J.run rfl rfl rfl hc487 <| jv (ii (((l472.length : Nat) : Int))) (V.len Tryz.underlying66 rfl) <| J.run rfl rfl rfl hc487 <| jv (.bool (decide ((((l472.length : Nat) : Int)) = 0))) (V.eql rfl rfl) <| jv (.bool (decide ((((l472.length : Nat) : Int)) = 0))) (V.pickT rfl hc487 rfl) ?_
         refine J.nil ?_
         exact ⟨rfl, ⟨(by simp only [hc487]; rfl), rfl, rfl, rfl, rfl, rfl, rfl, rfl, trivial⟩, rfl, rfl⟩
       refine J.skip rfl rfl rfl rfl hc487 <| J.skip rfl rfl rfl rfl hc487 <| J.skip rfl rfl rfl rfl hc487 <| jv (.bool false) (V.pickF rfl hc487 rfl) <| J.nil ?_
       exact ⟨rfl, ⟨(by simp only [hc487]; rfl), rfl, rfl, rfl, rfl, rfl, rfl, rfl, trivial⟩, rfl, rfl⟩
     intro ρ
     refine J.nil <| cc rfl ho463 (fun hc488 ho463 => ?_) fun hc488 ho463 => ?_
     · refine cr <| jv (.agg #[ii 0, ii 0, ii 0, nos, nos, nos]) (V.build inf68 places68 rfl rfl) <| J.front 1 rfl <| js [ii 0, ii 0, ii 0, nos, nos, nos] sz68 rfl rfl rfl rfl rfl rfl <| ja (ii 0) rfl <| ja (ii 3) rfl ?_
       refine J.nil <| CJ.by (fun w hs => Sep.rowNil (e := 3) (t := (.int .i64)) hs) <| CJ.by (fun w hs => Sep.rowNil (e := 3) (t := (.int .i64)) hs) <| CJ.ret ?_
       obtain rfl := si ho463
       refine .inr ⟨nofun, ?_⟩
       obtain rfl := si h
       exact ⟨_, _, Res.three rfl ⟨_, _, rfl, Ld.agg (cs := [ii 0, ii 0, ii 0, nos, nos, nos]) Tryz.underlying68 sz68 rfl (Rd.cls 2 0 rfl rfl)⟩ rfl rfl, ⟨0, 0, 0, [], [], [], 0, 3, none, 0, none, 0, none, 0, rfl, rfl, isNil, rfl⟩, hK320, fun w hs => (Sep.front 1 rfl (Sep.dropAt 2 rfl (Sep.dropAt 2 rfl (Sep.dropAt 2 rfl hs))))⟩
     refine CJ.skip <| cr <| jm (ii (IntKind.wrap .i64 (i267 + i301))) rfl <| jm (ii i473) rfl <| jv (ii (IntKind.wrap .i64 ((IntKind.wrap .i64 (i267 + i301)) + i473))) (V.add rfl rfl) <| ja (ii (IntKind.wrap .i64 ((IntKind.wrap .i64 (i267 + i301)) + i473))) rfl ?_
     refine J.nil <| cr <| jm (.string ⟨xa.toArray⟩) rfl <| jm (ii (IntKind.wrap .i64 ((IntKind.wrap .i64 (i267 + i301)) + i473))) rfl ?_
     obtain ⟨y491, hy492, ho463⟩ := ob ho463
     refine jv (.string ⟨y491.toArray⟩) (V.subs Tryz.underlying9 rfl (fun _ h => by cases h; exact ⟨_, rfl⟩) nofun nofun (fun _ => rfl) hy492) ?_
     obtain ⟨r493, hr494, ho463⟩ := ob ho463
     refine J.op rfl (A.call (L1 := []) Tryz.call117 rfl (ref19_taken_ok hr494) rfl rfl) ?_
     rintro _ _ _ ⟨v501, _, rfl, ⟨⟨l495, i496, i497, ad498, cp499, rfl, rfl, rfl⟩, rfl⟩, _, rfl⟩
     refine J.wit Row.hn fun hn500 => jm (.tuple #[.slice ad498 l495.length cp499, ii i496, ii i497]) rfl <| jx (.slice ad498 l495.length cp499) rfl rfl <| jx (ii i496) rfl rfl <| jx (ii i497) rfl rfl <| ja (.slice ad498 l495.length cp499) rfl <| ja (ii i496) rfl ?_
     refine ja (ii i497) rfl <| J.nil <| CJ.seq <| cr <| jm (ii i497) rfl <| jv (.bool (!decide (i497 = 0))) (V.neq rfl rfl) ?_
     refine J.nil <| cc rfl ho463 (fun hc505 ho463 => ?_) fun hc505 ho463 => ?_
     · refine cr <| jv (.agg #[ii 0, ii 0, ii 0, nos, nos, nos]) (V.build inf68 places68 rfl rfl) <| jm (ii i497) rfl <| J.front 2 rfl <| js [ii 0, ii 0, ii 0, nos, nos, nos] sz68 rfl rfl rfl rfl rfl rfl <| ja (ii 0) rfl ?_
       refine ja (ii i497) rfl <| J.nil <| CJ.by (fun w hs => Sep.rowNil (e := 3) (t := (.int .i64)) hs) <| CJ.by (fun w hs => Sep.rowNil (e := 3) (t := (.int .i64)) hs) <| CJ.ret ?_
       obtain rfl := si ho463
       refine .inr ⟨nofun, ?_⟩
       obtain rfl := si h
       exact ⟨_, _, Res.three rfl ⟨_, _, rfl, Ld.agg (cs := [ii 0, ii 0, ii 0, nos, nos, nos]) Tryz.underlying68 sz68 rfl (Rd.cls 2 0 rfl rfl)⟩ rfl rfl, ⟨0, 0, 0, [], [], [], 0, i497, none, 0, none, 0, none, 0, rfl, rfl, isNil, rfl⟩, hK320, fun w hs => (Sep.front 1 rfl (Sep.dropAt 2 rfl (Sep.dropAt 2 rfl (Sep.dropAt 2 rfl (Sep.dropAt 2 rfl hs)))))⟩
     refine CJ.skip <| cr <| jm (ii (IntKind.wrap .i64 ((IntKind.wrap .i64 (i267 + i301)) + i473))) rfl <| jm (ii i496) rfl <| jv (ii (IntKind.wrap .i64 ((IntKind.wrap .i64 ((IntKind.wrap .i64 (i267 + i301)) + i473)) + i496))) (V.add rfl rfl) <| ja (ii (IntKind.wrap .i64 ((IntKind.wrap .i64 ((IntKind.wrap .i64 (i267 + i301)) + i473)) + i496))) rfl ?_
     refine J.nil <| cr <| jm (.slice ad498 l495.length cp499) rfl <| jv _ (V.fad Tryz.underlying68 rfl nz66 rfl) <| J.front 3 rfl <| js1 [ii i266, ii i357, ii i358, .slice ad360 l359.length cp361, .slice ad498 l495.length cp499, nos] sz66 rfl rfl rfl rfl rfl rfl ?_
     refine J.nil <| cr <| jm (ii i266) rfl <| jv (.bool (decide (i266 = 2))) (V.eql rfl rfl) <| J.nil <| cc rfl ho463 (fun hc508 ho463 => ?_) fun hc508 ho463 => ?_
     · refine CJ.region <| jm (.slice ad475 l472.length cp476) rfl <| jv _ (V.fad Tryz.underlying68 rfl nz66 rfl) <| js1 [ii i266, ii i357, ii i358, .slice ad475 l472.length cp476, .slice ad498 l495.length cp499, nos] sz66 rfl rfl rfl rfl rfl rfl <| J.front 2 rfl <| J.persist (Hp.nil_le _) (by decide) fun K509 hK510 f511 => J.by (fun w hs => Sep.rowNil (e := 3) (t := (.int .i64)) hs) ?_
       refine J.front 2 rfl <| J.front 2 rfl <| J.front 3 rfl <| J.nil ?_
       obtain rfl := si ho463
       exact .inl ⟨rfl, _, rfl, ⟨IntKind.wrap .i64 ((IntKind.wrap .i64 ((IntKind.wrap .i64 (i267 + i301)) + i473)) + i496), l472, l495, [], ad475, cp476, ad498, cp499, none, 0, rfl, ⟨rfl, rfl, rfl, trivial⟩, hK510, f511, rfl⟩⟩
     refine CJ.region <| jm (.slice ad475 l472.length cp476) rfl <| jv _ (V.fad Tryz.underlying68 rfl nz66 rfl) <| js1 [ii i266, ii i357, ii i358, .slice ad360 l359.length cp361, .slice ad498 l495.length cp499, .slice ad475 l472.length cp476] sz66 rfl rfl rfl rfl rfl rfl <| J.front 2 rfl <| J.front 2 rfl <| J.front 2 rfl ?_
     refine J.front 3 rfl <| J.nil ?_
     obtain rfl := si ho463
     exact .inl ⟨rfl, _, rfl, ⟨IntKind.wrap .i64 ((IntKind.wrap .i64 ((IntKind.wrap .i64 (i267 + i301)) + i473)) + i496), l359, l495, l472, ad360, cp361, ad498, cp499, ad475, cp476, rfl, ⟨rfl, rfl, rfl, trivial⟩, (Hp.le_refl _), f362, rfl⟩⟩
   refine CJ.by (fun w hs => Sep.rowNil (e := 3) (t := (.int .i64)) hs) <| CJ.by (fun w hs => Sep.rowNil (e := 3) (t := (.int .i64)) hs) <| CJ.front 1 rfl <| CJ.front 3 rfl <| CJ.front 3 rfl <| CJ.skip ?_
   obtain rfl := si ho463
   exact .inl ⟨rfl, _, rfl, ⟨IntKind.wrap .i64 (i267 + i301), l359, [], [], ad360, cp361, none, 0, none, 0, rfl, ⟨rfl, rfl, rfl, trivial⟩, (Hp.le_refl _), f362, rfl⟩⟩
 rintro s ρ K446 _ ho515 ⟨i447, l448, l452, l457, ad449, cp450, ad453, cp454, ad458, cp459, rfl, hf516, hk517, f451, rfl⟩
 subst ho515
 obtain ⟨ρ, rfl⟩ := hf516.ex
 refine PJ.front 2 rfl <| PJ.wit Row.hn fun hn456 => PJ.front 3 rfl <| PJ.wit Row.hn fun hn461 => PJ.done <| CJ.seq <| CJ.region ?_
 refine jv (.agg #[ii i266, ii i357, ii i358, .slice ad449 l448.length cp450, .slice ad453 l452.length cp454, .slice ad458 l457.length cp459]) (V.ld rfl (Ld.agg (cs := [ii i266, ii i357, ii i358, .slice ad449 l448.length cp450, .slice ad453 l452.length cp454, .slice ad458 l457.length cp459]) Tryz.underlying68 sz68 rfl (Rd.cls 3 0 rfl rfl))) <| jm (ii i447) rfl <| J.front 2 rfl <| js [ii i266, ii i357, ii i358, .slice ad449 l448.length cp450, .slice ad453 l452.length cp454, .slice ad458 l457.length cp459] sz68 rfl rfl rfl rfl rfl rfl <| ja (ii i447) rfl <| ja (ii 0) rfl <| J.nil ?_
 refine CJ.ret ?_
 obtain rfl := si h
 exact ⟨_, _, Res.three rfl ⟨_, _, rfl, Ld.agg (cs := [ii i266, ii i357, ii i358, .slice ad449 l448.length cp450, .slice ad453 l452.length cp454, .slice ad458 l457.length cp459]) Tryz.underlying68 sz68 rfl (Rd.cls 0 0 rfl rfl)⟩ rfl rfl, ⟨i266, i357, i358, l448, l452, l457, i447, 0, ad449, cp450, ad453, cp454, ad458, cp459, rfl, rfl, f451, rfl⟩, (hK320.trans hk517), fun w hs => (Sep.front 1 rfl (Sep.dropAt 2 rfl (Sep.dropAt 0 rfl hs)))⟩
noncomputable def fn_ref20_block_l1 (i310 : Int) : (List UInt8 × Int × Int × (List (Int × Int × Int × Int × Bool))) → Option ((List UInt8 × Int × Int × (List (Int × Int × Int × Int × Bool))) ⊕ (List UInt8 × Int × (List (Int × Int × Int × Int × Bool)))) := fun ((s479, i480, i481, l482) : (List UInt8 × Int × Int × (List (Int × Int × Int × Int × Bool)))) => cond ((decide (i481 < i310)) && (decide (i480 = 0))) ((fn_ref18_Take s479).bind fun (i534, i535, i536, i537, t538, i539, i540) => (subL s479 i539 (((s479.length : Nat) : Int))).bind fun y545 => (app l482 (([(i534, i535, i536, i537, t538)] : List (Int × Int × Int × Int × Bool)))).bind fun z550 => some (.inl ((y545, i540, IntKind.wrap .i64 (i481 + 1), z550)))) (some (.inr (((s479, i480, l482)))))
noncomputable def fn_ref20_block (xa : (List UInt8)) : Option (((List (Int × Int × Int × Int × Bool)) × Int × Int × Int × (List Int) × (List Int) × (List Int) × List UInt8 × Int)) :=
  (fn_ref20_count xa).bind fun (i310, s311, i312) => (loop (fn_ref20_block_l1 i310) (s311, i312, 0, []) : Option ((List UInt8 × Int × (List (Int × Int × Int × Int × Bool))))).bind fun (s432, i433, l434) => cond (!decide (i433 = 0)) (some (([], 0, 0, 0, [], [], [], xa, i433))) ((fn_ref19_Take s432).bind fun (i564, i565, i566, l567, l568, l569, i570, i571) => (subL s432 i570 (((s432.length : Nat) : Int))).bind fun y589 => some ((l434, i564, i565, i566, l567, l568, l569, y589, i571)))
set_option maxRecDepth 100000 in
set_option maxHeartbeats 4000000 in
theorem ref20_block_ok {K : Hp} {xa : (List UInt8)}   {r : ((List (Int × Int × Int × Int × Bool)) × Int × Int × Int × (List Int) × (List Int) × (List Int) × List UInt8 × Int)} (h : fn_ref20_block xa = some r) :
    Tr Tryz.prog 81 #[.string ⟨xa.toArray⟩] K [] (fun v K' L' => (∃ (l283 : (List (Int × Int × Int × Int × Bool))) (i288 : Int) (i289 : Int) (i290 : Int) (l291 : (List Int)) (l295 : (List Int)) (l300 : (List Int)) (s305 : List UInt8) (i306 : Int) (ad284 : Option Addr) (cp285 : Nat) (ad292 : Option Addr) (cp293 : Nat) (ad296 : Option Addr) (cp297 : Nat) (ad301 : Option Addr) (cp302 : Nat), (l283, i288, i289, i290, l291, l295, l300, s305, i306) = r ∧ .tuple #[.agg #[.slice ad284 l283.length cp285, ii i288, ii i289, ii i290, .slice ad292 l291.length cp293, .slice ad296 l295.length cp297, .slice ad301 l300.length cp302], .string ⟨s305.toArray⟩, ii i306] = v ∧ Is K' (.sl (.int .i64)) [.slice ad292 l291.length cp293] l291 ∧ L' = [Row Hp.nil 73 (.cons (.int .i64) (.cons (.int .i64) (.cons (.int .i64) (.cons (.int .i64) (.one .bool))))) (.slice ad284 l283.length cp285) l283, Row Hp.nil 3 (.int .i64) (.slice ad296 l295.length cp297) l295, Row Hp.nil 3 (.int .i64) (.slice ad301 l300.length cp302) l300])) := by
 refine Tr.of Tryz.func81 rfl Tryz.ntmps81 rfl fun E F => ?_
 unfold fn_ref20_block at h
 refine cr <| jal inf70 [nos, ii 0, ii 0, ii 0, nos, nos, nos] rfl fun b307 => ja (.string ⟨([] : List UInt8).toArray⟩) rfl <| ja (ii 0) rfl <| J.nil <| CJ.seq ?_
 refine CJ.region <| jm (.string ⟨xa.toArray⟩) rfl ?_
 obtain ⟨r308, hr309, h⟩ := ob h
 refine J.op rfl (A.call (L1 := []) Tryz.call30 rfl (ref20_count_ok hr309) rfl rfl) ?_
 rintro _ _ _ ⟨v313, _, rfl, ⟨⟨i310, s311, i312, rfl, rfl, rfl⟩, rfl⟩, _, rfl⟩
 refine jm (.tuple #[ii i310, .string ⟨s311.toArray⟩, ii i312]) rfl <| jx (ii i310) rfl rfl <| jx (.string ⟨s311.toArray⟩) rfl rfl <| jx (ii i312) rfl rfl <| ja (ii i310) rfl <| ja (.string ⟨s311.toArray⟩) rfl <| ja (ii i312) rfl ?_
 refine J.nil <| cr <| jv (.agg #[nos, ii 0, ii 0, ii 0, nos, nos, nos]) (V.build inf70 places70 rfl rfl) <| jal inf70 [nos, ii 0, ii 0, ii 0, nos, nos, nos] rfl fun b316 => js [nos, ii 0, ii 0, ii 0, nos, nos, nos] sz70 rfl rfl rfl rfl rfl rfl <| J.nil ?_
 refine CJ.seq <| cr <| ja (ii 0) rfl <| J.nil ?_
 obtain ⟨o439, ho440, h⟩ := ob h
 refine CJ.meetN (fun ρ K' L' => ∃ (s432 : List UInt8) (i433 : Int) (l434 : (List (Int × Int × Int × Int × Bool))) (ad435 : Option Addr) (cp436 : Nat), (s432, i433, l434) = o439 ∧ Fits [(0, .string ⟨xa.toArray⟩), (2, .pointer (some ⟨b307, 0, none⟩)), (6, .string ⟨s432.toArray⟩), (7, ii i433), (8, .pointer (some ⟨b316, 0, none⟩))] ρ ∧ K = K' ∧ L' = Cl b307 70 [nos, ii 0, ii 0, ii 0, nos, nos, nos] :: Cl b316 70 [.slice ad435 l434.length cp436, ii 0, ii 0, ii 0, nos, nos, nos] :: Row Hp.nil 73 (.cons (.int .i64) (.cons (.int .i64) (.cons (.int .i64) (.cons (.int .i64) (.one .bool))))) (.slice ad435 l434.length cp436) l434 :: F) ?_ ?_
 · refine CJ.block <| CJ.by (fun w hs => Sep.rowNil (e := 73) (t := (.cons (.int .i64) (.cons (.int .i64) (.cons (.int .i64) (.cons (.int .i64) (.one .bool)))))) hs) <| CJ.front 1 rfl <| CJ.front 2 rfl <| CJ.loop (fun s ρ K' L' => ∃ (s479 : List UInt8) (i480 : Int) (i481 : Int) (l482 : (List (Int × Int × Int × Int × Bool))) (ad483 : Option Addr) (cp484 : Nat), (s479, i480, i481, l482) = s ∧ Fits [(0, .string ⟨xa.toArray⟩), (2, .pointer (some ⟨b307, 0, none⟩)), (5, ii i310), (6, .string ⟨s479.toArray⟩), (7, ii i480), (8, .pointer (some ⟨b316, 0, none⟩)), (9, ii i481)] ρ ∧ K = K' ∧ L' = Cl b307 70 [nos, ii 0, ii 0, ii 0, nos, nos, nos] :: Cl b316 70 [.slice ad483 l482.length cp484, ii 0, ii 0, ii 0, nos, nos, nos] :: Row Hp.nil 73 (.cons (.int .i64) (.cons (.int .i64) (.cons (.int .i64) (.cons (.int .i64) (.one .bool))))) (.slice ad483 l482.length cp484) l482 :: F) ho440 ⟨s311, i312, 0, [], none, 0, rfl, ⟨rfl, rfl, rfl, rfl, rfl, rfl, rfl, trivial⟩, rfl, rfl⟩ ?_
   rintro s ρ _ _ r527 ⟨s479, i480, i481, l482, ad483, cp484, rfl, hf525, rfl, rfl⟩ h523
   obtain ⟨ρ, rfl⟩ := hf525.ex
   refine CJ.front 2 rfl <| CJ.wit Row.hn fun hn486 => CJ.seq <| cr <| jm (ii i481) rfl <| jm (ii i310) rfl ?_
   refine jv (.bool (decide (i481 < i310))) (V.lss rfl rfl) <| jm (.bool (decide (i481 < i310))) rfl <| J.cut 3 <| jmeet [(29, .bool ((decide (i481 < i310)) && (decide (i480 = 0)))), (0, .string ⟨xa.toArray⟩), (2, .pointer (some ⟨b307, 0, none⟩)), (5, ii i310), (6, .string ⟨s479.toArray⟩), (7, ii i480), (8, .pointer (some ⟨b316, 0, none⟩)), (9, ii i481)] ?_ ?_
   · rcases bt (decide (i481 < i310)) with hc530 | hc530
     · refine J.run rfl rfl rfl hc530 <| jm (ii i480) rfl <| J.run rfl rfl rfl hc530 <| jv (.bool (decide (i480 = 0))) (V.eql rfl rfl) <| jv (.bool (decide (i480 = 0))) (V.pickT rfl hc530 rfl) <| J.nil ?_
       exact ⟨rfl, ⟨(by simp only [hc530]; rfl), rfl, rfl, rfl, rfl, rfl, rfl, rfl, trivial⟩, rfl, rfl⟩
     refine J.skip rfl rfl rfl rfl hc530 <| J.skip rfl rfl rfl rfl hc530 <| jv (.bool false) (V.pickF rfl hc530 rfl) <| J.nil ?_
     exact ⟨rfl, ⟨(by simp only [hc530]; rfl), rfl, rfl, rfl, rfl, rfl, rfl, rfl, trivial⟩, rfl, rfl⟩
   intro ρ
   refine J.nil <| cc rfl h523 (fun hc531 h523 => ?_) fun hc531 h523 => ?_
   · refine CJ.skip <| CJ.seq <| CJ.block <| cr <| jm (.string ⟨s479.toArray⟩) rfl ?_
     obtain ⟨r532, hr533, h523⟩ := ob h523
     refine J.op rfl (A.call (L1 := []) Tryz.call102 rfl (ref18_Take_ok hr533) rfl rfl) ?_
     rintro _ _ _ ⟨v541, _, rfl, ⟨⟨i534, i535, i536, i537, t538, i539, i540, rfl, rfl, rfl⟩, rfl⟩, _, rfl⟩
     refine jm (.tuple #[.agg #[ii i534, ii i535, ii i536, ii i537, .bool t538], ii i539, ii i540]) rfl <| jx (.agg #[ii i534, ii i535, ii i536, ii i537, .bool t538]) rfl rfl <| jx (ii i539) rfl rfl <| jx (ii i540) rfl rfl <| jal inf73 [ii 0, ii 0, ii 0, ii 0, .bool false] rfl fun b544 => js [ii i534, ii i535, ii i536, ii i537, .bool t538] sz73 rfl rfl rfl rfl rfl rfl <| ja (ii i539) rfl ?_
     refine ja (ii i540) rfl <| J.nil <| cr <| jm (ii i540) rfl <| ja (ii i540) rfl <| J.nil ?_
     refine cr <| jm (.string ⟨s479.toArray⟩) rfl <| jm (ii i539) rfl ?_
     obtain ⟨y545, hy546, h523⟩ := ob h523
     refine jv (.string ⟨y545.toArray⟩) (V.subs Tryz.underlying9 rfl (fun _ h => by cases h; exact ⟨_, rfl⟩) nofun nofun (fun _ => rfl) hy546) <| ja (.string ⟨y545.toArray⟩) rfl <| J.nil <| CJ.region <| jv _ (V.fad Tryz.underlying70 rfl nz65 rfl) <| jv (.slice ad483 l482.length cp484) (V.ld rfl (Ld.sc sc65 (Rd.cl 3 rfl rfl))) <| jv (.agg #[ii i534, ii i535, ii i536, ii i537, .bool t538]) (V.ld rfl (Ld.agg (cs := [ii i534, ii i535, ii i536, ii i537, .bool t538]) Tryz.underlying73 sz73 rfl (Rd.cls 0 0 rfl rfl))) ?_
     refine J.op rfl (A.lit (K0 := Hp.nil) (ty := (.cons (.int .i64) (.cons (.int .i64) (.cons (.int .i64) (.cons (.int .i64) (.one .bool)))))) (xs := ([(i534, i535, i536, i537, t538)] : List (Int × Int × Int × Int × Bool))) Tryz.underlying65 inf73 rfl (by decide) rfl rfl rfl ⟨_, _, rfl, ⟨_, _, rfl, rfl, rfl, ⟨_, _, rfl, rfl, rfl, ⟨_, _, rfl, rfl, rfl, ⟨_, _, rfl, rfl, rfl, rfl⟩⟩⟩⟩, rfl⟩ rfl (by decide)) ?_
     rintro _ _ _ ⟨b547, rfl, rfl, rfl⟩
     have hn548 : ([(i534, i535, i536, i537, t538)] : List (Int × Int × Int × Int × Bool)) ≠ [] → ∃ g, (some ⟨b547, 0, none⟩ : Option Addr) = some ⟨g, 0, none⟩ := fun _ => ⟨b547, rfl⟩
     obtain ⟨z550, hz551, h523⟩ := ob h523
     refine J.front 2 rfl <| J.op rfl (A.appR (Kr := Hp.nil) Tryz.underlying65 inf73 rfl rfl (by decide) (by decide) rfl rfl (Els.flat rfl) (Els.flat rfl) hz551) ?_
     rintro _ _ _ ⟨v552, rfl, rfl, rfl⟩
     refine J.wit Row.form ?_
     rintro ⟨ad553, cp554, rfl, _, _, hn555⟩
     refine jv _ (V.fad Tryz.underlying70 rfl nz65 rfl) <| J.front 3 rfl <| js1 [.slice ad553 z550.length cp554, ii 0, ii 0, ii 0, nos, nos, nos] sz65 rfl rfl rfl rfl rfl rfl <| J.nil <| CJ.region <| jm (ii i481) rfl <| jv (ii (IntKind.wrap .i64 (i481 + 1))) (V.add rfl rfl) ?_
     refine ja (ii (IntKind.wrap .i64 (i481 + 1))) rfl <| J.dropAt 2 rfl <| J.front 1 rfl <| J.front 1 rfl <| J.front 2 rfl <| J.nil ?_
     obtain rfl := si h523
     exact ⟨rfl, ⟨y545, i540, IntKind.wrap .i64 (i481 + 1), z550, ad553, cp554, rfl, ⟨rfl, rfl, rfl, rfl, rfl, rfl, rfl, trivial⟩, rfl, rfl⟩⟩
   refine CJ.front 2 rfl <| CJ.front 2 rfl <| CJ.exit ?_
   obtain rfl := si h523
   refine ⟨nofun, fun e => ?_⟩
   subst e
   exact ⟨rfl, ⟨s479, i480, l482, ad483, cp484, rfl, ⟨rfl, rfl, rfl, rfl, rfl, trivial⟩, rfl, rfl⟩⟩
 rintro ρ _ _ ⟨s432, i433, l434, ad435, cp436, rfl, hf556, rfl, rfl⟩
 obtain ⟨ρ, rfl⟩ := hf556.ex
 refine PJ.front 2 rfl <| PJ.wit Row.hn fun hn438 => PJ.done <| CJ.seq <| cr <| jm (ii i433) rfl ?_
 refine jv (.bool (!decide (i433 = 0))) (V.neq rfl rfl) <| J.nil <| cc rfl h (fun hc558 h => ?_) fun hc558 h => ?_
 · refine cr <| jv (.agg #[nos, ii 0, ii 0, ii 0, nos, nos, nos]) (V.build inf70 places70 rfl rfl) <| jm (.string ⟨xa.toArray⟩) rfl <| jm (ii i433) rfl <| J.front 1 rfl <| js [nos, ii 0, ii 0, ii 0, nos, nos, nos] sz70 rfl rfl rfl rfl rfl rfl ?_
   refine ja (.string ⟨xa.toArray⟩) rfl <| ja (ii i433) rfl <| J.nil <| CJ.by (fun w hs => Sep.rowNil (e := 73) (t := (.cons (.int .i64) (.cons (.int .i64) (.cons (.int .i64) (.cons (.int .i64) (.one .bool)))))) hs) <| CJ.by (fun w hs => Sep.rowNil (e := 3) (t := (.int .i64)) hs) <| CJ.by (fun w hs => Sep.rowNil (e := 3) (t := (.int .i64)) hs) <| CJ.ret ?_
   obtain rfl := si h
   exact ⟨_, _, Res.three rfl ⟨_, _, rfl, Ld.agg (cs := [nos, ii 0, ii 0, ii 0, nos, nos, nos]) Tryz.underlying70 sz70 rfl (Rd.cls 3 0 rfl rfl)⟩ rfl rfl, ⟨[], 0, 0, 0, [], [], [], xa, i433, none, 0, none, 0, none, 0, none, 0, rfl, rfl, isNil, rfl⟩, (Hp.le_refl _), fun w hs => (Sep.front 2 rfl (Sep.front 1 rfl (Sep.dropAt 3 rfl (Sep.dropAt 3 rfl (Sep.dropAt 3 rfl hs)))))⟩
 refine CJ.skip <| cr <| jm (.string ⟨s432.toArray⟩) rfl ?_
 obtain ⟨r562, hr563, h⟩ := ob h
 refine J.op rfl (A.call (L1 := []) Tryz.call103 rfl (ref19_Take_ok hr563) rfl rfl) ?_
 rintro _ K582 _ ⟨v581, _, rfl, ⟨i564, i565, i566, l567, l568, l569, i570, i571, ad572, cp573, ad574, cp575, ad576, cp577, rfl, rfl, f578, rfl⟩, hK583, rfl⟩
 refine J.wit Row.hn fun hn579 => J.front 1 rfl <| J.wit Row.hn fun hn580 => jm (.tuple #[.agg #[ii i564, ii i565, ii i566, .slice ad572 l567.length cp573, .slice ad574 l568.length cp575, .slice ad576 l569.length cp577], ii i570, ii i571]) rfl <| jx (.agg #[ii i564, ii i565, ii i566, .slice ad572 l567.length cp573, .slice ad574 l568.length cp575, .slice ad576 l569.length cp577]) rfl rfl <| jx (ii i570) rfl rfl <| jx (ii i571) rfl rfl ?_
 refine jal inf68 [ii 0, ii 0, ii 0, nos, nos, nos] rfl fun b586 => js [ii i564, ii i565, ii i566, .slice ad572 l567.length cp573, .slice ad574 l568.length cp575, .slice ad576 l569.length cp577] sz68 rfl rfl rfl rfl rfl rfl <| ja (ii i570) rfl <| ja (ii i571) rfl <| J.nil <| CJ.seq <| CJ.region ?_
 refine jv (.agg #[ii i564, ii i565, ii i566, .slice ad572 l567.length cp573, .slice ad574 l568.length cp575, .slice ad576 l569.length cp577]) (V.ld rfl (Ld.agg (cs := [ii i564, ii i565, ii i566, .slice ad572 l567.length cp573, .slice ad574 l568.length cp575, .slice ad576 l569.length cp577]) Tryz.underlying68 sz68 rfl (Rd.cls 0 0 rfl rfl))) <| jv _ (V.fad Tryz.underlying70 rfl nz68 rfl) <| J.front 5 rfl <| js [.slice ad435 l434.length cp436, ii i564, ii i565, ii i566, .slice ad572 l567.length cp573, .slice ad574 l568.length cp575, .slice ad576 l569.length cp577] sz68 rfl rfl rfl rfl rfl rfl <| J.nil <| CJ.seq <| CJ.mix [Cl b316 70 [.slice ad435 l434.length cp436, ii i564, ii i565, ii i566, .slice ad572 l567.length cp573, .slice ad574 l568.length cp575, .slice ad576 l569.length cp577], Cl b586 68 [ii i564, ii i565, ii i566, .slice ad572 l567.length cp573, .slice ad574 l568.length cp575, .slice ad576 l569.length cp577], Row Hp.nil 3 (.int .i64) (.slice ad576 l569.length cp577) l569, Row Hp.nil 3 (.int .i64) (.slice ad574 l568.length cp575) l568, Row Hp.nil 73 (.cons (.int .i64) (.cons (.int .i64) (.cons (.int .i64) (.cons (.int .i64) (.one .bool))))) (.slice ad435 l434.length cp436) l434] [([0, 1, 2, 3, 4], 5)] [6, 7] [] mixO (by decide +kernel) ⟨0, rfl, 0, rfl, 0, rfl, 0, rfl, 0, rfl, trivial⟩ rfl rfl rfl ?_
 refine JM.cons <| qv (.agg #[.slice ad435 l434.length cp436, ii i564, ii i565, ii i566, .slice ad572 l567.length cp573, .slice ad574 l568.length cp575, .slice ad576 l569.length cp577]) (V.ld rfl (Ld.agg (cs := [.slice ad435 l434.length cp436, ii i564, ii i565, ii i566, .slice ad572 l567.length cp573, .slice ad574 l568.length cp575, .slice ad576 l569.length cp577]) Tryz.underlying70 sz70 rfl (Rd.cls 0 0 rfl rfl))) <| qm (.string ⟨s432.toArray⟩) rfl <| qm (ii i570) rfl ?_
 obtain ⟨y589, hy590, h⟩ := ob h
 refine qv (.string ⟨y589.toArray⟩) (V.subs Tryz.underlying9 rfl (fun _ h => by cases h; exact ⟨_, rfl⟩) nofun nofun (fun _ => rfl) hy590) <| qm (ii i571) rfl <| JQ.nil <| JA.front 5 rfl <| JA.op rfl (A.store (v := .agg #[.slice ad435 l434.length cp436, ii i564, ii i565, ii i566, .slice ad572 l567.length cp573, .slice ad574 l568.length cp575, .slice ad576 l569.length cp577]) (cs' := [.slice ad435 l434.length cp436, ii i564, ii i565, ii i566, .slice ad572 l567.length cp573, .slice ad574 l568.length cp575, .slice ad576 l569.length cp577]) sz70 rfl rfl rfl rfl rfl rfl) ?_
 rintro _ _ _ ⟨rfl, rfl, rfl⟩
 refine ⟨fun w hs => Hold.sub (Hp.le_refl _) ⟨1, rfl, 1, rfl, 1, rfl, 1, rfl, 1, rfl, trivial⟩ hs, ?_⟩
 refine JM.nil <| qa (.string ⟨y589.toArray⟩) rfl <| qa (ii i571) rfl <| JQ.nil <| J.nil <| CJ.ret ?_
 obtain rfl := si h
 exact ⟨_, _, Res.three rfl ⟨_, _, rfl, Ld.agg (cs := [.slice ad435 l434.length cp436, ii i564, ii i565, ii i566, .slice ad572 l567.length cp573, .slice ad574 l568.length cp575, .slice ad576 l569.length cp577]) Tryz.underlying70 sz70 rfl (Rd.cls 0 0 rfl rfl)⟩ rfl rfl, ⟨l434, i564, i565, i566, l567, l568, l569, y589, i571, ad435, cp436, ad572, cp573, ad574, cp575, ad576, cp577, rfl, rfl, f578, rfl⟩, hK583, fun w hs => (Sep.front 2 rfl (Sep.front 1 rfl (Sep.dropAt 0 rfl (Sep.dropAt 0 rfl (Sep.dropAt 0 rfl hs)))))⟩
noncomputable def fn_ref20_blocks_l1 (i405 : Int) : (List UInt8 × Int × (List ((List (Int × Int × Int × Int × Bool)) × (Int × Int × Int × (List Int) × (List Int) × (List Int)))) × Int) → Option ((List UInt8 × Int × (List ((List (Int × Int × Int × Int × Bool)) × (Int × Int × Int × (List Int) × (List Int) × (List Int)))) × Int) ⊕ (List UInt8 × Int × (List ((List (Int × Int × Int × Int × Bool)) × (Int × Int × Int × (List Int) × (List Int) × (List Int)))))) := fun ((s671, i672, l673, i678) : (List UInt8 × Int × (List ((List (Int × Int × Int × Int × Bool)) × (Int × Int × Int × (List Int) × (List Int) × (List Int)))) × Int)) => cond ((decide (i678 < i405)) && (decide (i672 = 0))) ((fn_ref20_block s671).bind fun (l750, i751, i752, i753, l754, l755, l756, s757, i758) => (app l673 (([(l750, (i751, i752, i753, l754, l755, l756))] : List ((List (Int × Int × Int × Int × Bool)) × (Int × Int × Int × (List Int) × (List Int) × (List Int)))))).bind fun z790 => some (.inl ((s757, i758, z790, IntKind.wrap .i64 (i678 + 1))))) (some (.inr (((s671, i672, l673)))))
noncomputable def fn_ref20_blocks (xa : (List UInt8)) : Option (((List ((List (Int × Int × Int × Int × Bool)) × (Int × Int × Int × (List Int) × (List Int) × (List Int)))) × List UInt8 × Int)) :=
  (fn_ref20_count xa).bind fun (i405, s406, i407) => (loop (fn_ref20_blocks_l1 i405) ((s406, i407, ([] : List ((List (Int × Int × Int × Int × Bool)) × (Int × Int × Int × (List Int) × (List Int) × (List Int)))), 0)) : Option ((List UInt8 × Int × (List ((List (Int × Int × Int × Int × Bool)) × (Int × Int × Int × (List Int) × (List Int) × (List Int))))))).bind fun (s601, i602, l603) => some ((l603, s601, i602))
set_option maxRecDepth 100000 in
set_option maxHeartbeats 4000000 in
theorem ref20_blocks_ok {K : Hp} {xa : (List UInt8)}   {r : ((List ((List (Int × Int × Int × Int × Bool)) × (Int × Int × Int × (List Int) × (List Int) × (List Int)))) × List UInt8 × Int)} (h : fn_ref20_blocks xa = some r) :
    Tr Tryz.prog 35 #[.string ⟨xa.toArray⟩] K [] (fun v K' L' => (∃ (l396 : (List ((List (Int × Int × Int × Int × Bool)) × (Int × Int × Int × (List Int) × (List Int) × (List Int))))) (s401 : List UInt8) (i402 : Int) (ad397 : Option Addr) (cp398 : Nat), (l396, s401, i402) = r ∧ .tuple #[.slice ad397 l396.length cp398, .string ⟨s401.toArray⟩, ii i402] = v ∧ L' = [Row K' 70 (.cons (.sl (.cons (.int .i64) (.cons (.int .i64) (.cons (.int .i64) (.cons (.int .i64) (.one .bool)))))) (.one (.cons (.int .i64) (.cons (.int .i64) (.cons (.int .i64) (.cons (.sl (.int .i64)) (.cons (.sl (.int .i64)) (.one (.sl (.int .i64)))))))))) (.slice ad397 l396.length cp398) l396])) := by
 refine Tr.of Tryz.func35 rfl Tryz.ntmps35 rfl fun E F => ?_
 unfold fn_ref20_blocks at h
 refine cr <| ja (nos) rfl <| ja (.string ⟨([] : List UInt8).toArray⟩) rfl <| ja (ii 0) rfl <| J.nil <| CJ.seq ?_
 refine CJ.region <| jm (.string ⟨xa.toArray⟩) rfl ?_
 obtain ⟨r403, hr404, h⟩ := ob h
 refine J.op rfl (A.call (L1 := []) Tryz.call30 rfl (ref20_count_ok hr404) rfl rfl) ?_
 rintro _ _ _ ⟨v408, _, rfl, ⟨⟨i405, s406, i407, rfl, rfl, rfl⟩, rfl⟩, _, rfl⟩
 refine jm (.tuple #[ii i405, .string ⟨s406.toArray⟩, ii i407]) rfl <| jx (ii i405) rfl rfl <| jx (.string ⟨s406.toArray⟩) rfl rfl <| jx (ii i407) rfl rfl <| ja (ii i405) rfl <| ja (.string ⟨s406.toArray⟩) rfl <| ja (ii i407) rfl ?_
 refine J.nil <| CJ.seq <| CJ.region ?_
 refine J.op rfl (A.lit (K0 := K) (ty := (.cons (.sl (.cons (.int .i64) (.cons (.int .i64) (.cons (.int .i64) (.cons (.int .i64) (.one .bool)))))) (.one (.cons (.int .i64) (.cons (.int .i64) (.cons (.int .i64) (.cons (.sl (.int .i64)) (.cons (.sl (.int .i64)) (.one (.sl (.int .i64))))))))))) (xs := ([] : List ((List (Int × Int × Int × Int × Bool)) × (Int × Int × Int × (List Int) × (List Int) × (List Int))))) Tryz.underlying32 inf70 rfl (by decide) rfl rfl rfl rfl rfl (by decide)) ?_
 rintro _ _ _ ⟨b411, rfl, rfl, rfl⟩
 have hn412 : ([] : List ((List (Int × Int × Int × Int × Bool)) × (Int × Int × Int × (List Int) × (List Int) × (List Int)))) ≠ [] → ∃ g, (some ⟨b411, 0, none⟩ : Option Addr) = some ⟨g, 0, none⟩ := fun _ => ⟨b411, rfl⟩
 refine ja (.slice (some ⟨b411, 0, none⟩) ((([] : List ((List (Int × Int × Int × Int × Bool)) × (Int × Int × Int × (List Int) × (List Int) × (List Int))))).length) 0) rfl <| J.nil <| CJ.seq <| cr <| ja (ii 0) rfl <| J.nil ?_
 obtain ⟨o608, ho609, h⟩ := ob h
 refine CJ.meetN (fun ρ K' L' => ∃ (s601 : List UInt8) (i602 : Int) (l603 : (List ((List (Int × Int × Int × Int × Bool)) × (Int × Int × Int × (List Int) × (List Int) × (List Int))))) (ad604 : Option Addr) (cp605 : Nat), (s601, i602, l603) = o608 ∧ Fits [(6, .string ⟨s601.toArray⟩), (7, ii i602), (8, .slice ad604 l603.length cp605)] ρ ∧ Hp.le K K' ∧ L' = Row K' 70 (.cons (.sl (.cons (.int .i64) (.cons (.int .i64) (.cons (.int .i64) (.cons (.int .i64) (.one .bool)))))) (.one (.cons (.int .i64) (.cons (.int .i64) (.cons (.int .i64) (.cons (.sl (.int .i64)) (.cons (.sl (.int .i64)) (.one (.sl (.int .i64)))))))))) (.slice ad604 l603.length cp605) l603 :: F) ?_ ?_
 · refine CJ.block <| CJ.loop (fun s ρ K' L' => ∃ (s671 : List UInt8) (i672 : Int) (l673 : (List ((List (Int × Int × Int × Int × Bool)) × (Int × Int × Int × (List Int) × (List Int) × (List Int))))) (i678 : Int) (ad674 : Option Addr) (cp675 : Nat), (s671, i672, l673, i678) = s ∧ Fits [(5, ii i405), (6, .string ⟨s671.toArray⟩), (7, ii i672), (8, .slice ad674 l673.length cp675), (9, ii i678)] ρ ∧ Hp.le K K' ∧ L' = Row K' 70 (.cons (.sl (.cons (.int .i64) (.cons (.int .i64) (.cons (.int .i64) (.cons (.int .i64) (.one .bool)))))) (.one (.cons (.int .i64) (.cons (.int .i64) (.cons (.int .i64) (.cons (.sl (.int .i64)) (.cons (.sl (.int .i64)) (.one (.sl (.int .i64)))))))))) (.slice ad674 l673.length cp675) l673 :: F) ho609 ⟨s406, i407, ([] : List ((List (Int × Int × Int × Int × Bool)) × (Int × Int × Int × (List Int) × (List Int) × (List Int)))), 0, (some ⟨b411, 0, none⟩), 0, rfl, ⟨rfl, rfl, rfl, rfl, rfl, trivial⟩, (Hp.le_refl _), rfl⟩ ?_
   rintro s ρ K670 _ r743 ⟨s671, i672, l673, i678, ad674, cp675, rfl, hf741, hk742, rfl⟩ h740
   obtain ⟨ρ, rfl⟩ := hf741.ex
   refine CJ.wit Row.hn fun hn677 => CJ.seq <| cr <| jm (ii i678) rfl <| jm (ii i405) rfl <| jv (.bool (decide (i678 < i405))) (V.lss rfl rfl) ?_
   refine jm (.bool (decide (i678 < i405))) rfl <| J.cut 3 <| jmeet [(26, .bool ((decide (i678 < i405)) && (decide (i672 = 0)))), (5, ii i405), (6, .string ⟨s671.toArray⟩), (7, ii i672), (8, .slice ad674 l673.length cp675), (9, ii i678)] ?_ ?_
   · rcases bt (decide (i678 < i405)) with hc746 | hc746
     · refine J.run rfl rfl rfl hc746 <| jm (ii i672) rfl <| J.run rfl rfl rfl hc746 <| jv (.bool (decide (i672 = 0))) (V.eql rfl rfl) <| jv (.bool (decide (i672 = 0))) (V.pickT rfl hc746 rfl) <| J.nil ?_
       exact ⟨rfl, ⟨(by simp only [hc746]; rfl), rfl, rfl, rfl, rfl, rfl, trivial⟩, rfl, rfl⟩
     refine J.skip rfl rfl rfl rfl hc746 <| J.skip rfl rfl rfl rfl hc746 <| jv (.bool false) (V.pickF rfl hc746 rfl) <| J.nil ?_
     exact ⟨rfl, ⟨(by simp only [hc746]; rfl), rfl, rfl, rfl, rfl, rfl, trivial⟩, rfl, rfl⟩
   intro ρ
   refine J.nil <| cc rfl h740 (fun hc747 h740 => ?_) fun hc747 h740 => ?_
   · refine CJ.skip <| CJ.seq <| CJ.block <| cr <| jm (.string ⟨s671.toArray⟩) rfl ?_
     obtain ⟨r748, hr749, h740⟩ := ob h740
     refine J.op rfl (A.call (L1 := []) Tryz.call81 rfl (ref20_block_ok hr749) rfl rfl) ?_
     rintro _ K772 _ ⟨v771, _, rfl, ⟨l750, i751, i752, i753, l754, l755, l756, s757, i758, ad759, cp760, ad761, cp762, ad763, cp764, ad765, cp766, rfl, rfl, f767, rfl⟩, hK773, rfl⟩
     refine J.wit Row.hn fun hn768 => J.front 1 rfl <| J.wit Row.hn fun hn769 => J.front 2 rfl <| J.wit Row.hn fun hn770 => jm (.tuple #[.agg #[.slice ad759 l750.length cp760, ii i751, ii i752, ii i753, .slice ad761 l754.length cp762, .slice ad763 l755.length cp764, .slice ad765 l756.length cp766], .string ⟨s757.toArray⟩, ii i758]) rfl <| jx (.agg #[.slice ad759 l750.length cp760, ii i751, ii i752, ii i753, .slice ad761 l754.length cp762, .slice ad763 l755.length cp764, .slice ad765 l756.length cp766]) rfl rfl ?_
     refine jx (.string ⟨s757.toArray⟩) rfl rfl <| jx (ii i758) rfl rfl <| jal inf70 [nos, ii 0, ii 0, ii 0, nos, nos, nos] rfl fun b777 => js [.slice ad759 l750.length cp760, ii i751, ii i752, ii i753, .slice ad761 l754.length cp762, .slice ad763 l755.length cp764, .slice ad765 l756.length cp766] sz70 rfl rfl rfl rfl rfl rfl <| ja (.string ⟨s757.toArray⟩) rfl <| ja (ii i758) rfl <| J.nil ?_
     refine cr <| jm (ii i758) rfl <| ja (ii i758) rfl <| J.nil <| CJ.seq <| CJ.region ?_
     refine jm (.string ⟨s757.toArray⟩) rfl <| ja (.string ⟨s757.toArray⟩) rfl <| J.nil <| CJ.region <| jm (.slice ad674 l673.length cp675) rfl <| jv (.agg #[.slice ad759 l750.length cp760, ii i751, ii i752, ii i753, .slice ad761 l754.length cp762, .slice ad763 l755.length cp764, .slice ad765 l756.length cp766]) (V.ld rfl (Ld.agg (cs := [.slice ad759 l750.length cp760, ii i751, ii i752, ii i753, .slice ad761 l754.length cp762, .slice ad763 l755.length cp764, .slice ad765 l756.length cp766]) Tryz.underlying70 sz70 rfl (Rd.cls 0 0 rfl rfl))) <| J.front 3 rfl ?_
     refine J.persist (Hp.nil_le _) (by decide) fun K778 hK779 f780 => J.front 2 rfl <| J.persist (Hp.nil_le _) (by decide) fun K781 hK782 f783 => J.front 1 rfl <| J.persist (Hp.nil_le _) (by decide) fun K784 hK785 f786 => ?_
     refine J.op rfl (A.lit (K0 := K784) (ty := (.cons (.sl (.cons (.int .i64) (.cons (.int .i64) (.cons (.int .i64) (.cons (.int .i64) (.one .bool)))))) (.one (.cons (.int .i64) (.cons (.int .i64) (.cons (.int .i64) (.cons (.sl (.int .i64)) (.cons (.sl (.int .i64)) (.one (.sl (.int .i64))))))))))) (xs := ([(l750, (i751, i752, i753, l754, l755, l756))] : List ((List (Int × Int × Int × Int × Bool)) × (Int × Int × Int × (List Int) × (List Int) × (List Int))))) Tryz.underlying32 inf70 rfl (by decide) rfl rfl rfl ⟨_, _, rfl, ⟨_, _, rfl, rfl, (f780.mono (hK782.trans hK785)), ⟨_, _, rfl, rfl, rfl, ⟨_, _, rfl, rfl, rfl, ⟨_, _, rfl, rfl, rfl, ⟨_, _, rfl, rfl, (f767.mono ((hK779.trans hK782).trans hK785)), ⟨_, _, rfl, rfl, (f783.mono hK785), f786⟩⟩⟩⟩⟩⟩, rfl⟩ rfl (by decide)) ?_
     rintro _ _ _ ⟨b787, rfl, rfl, rfl⟩
     have hn788 : ([(l750, (i751, i752, i753, l754, l755, l756))] : List ((List (Int × Int × Int × Int × Bool)) × (Int × Int × Int × (List Int) × (List Int) × (List Int)))) ≠ [] → ∃ g, (some ⟨b787, 0, none⟩ : Option Addr) = some ⟨g, 0, none⟩ := fun _ => ⟨b787, rfl⟩
     obtain ⟨z790, hz791, h740⟩ := ob h740
     refine J.front 2 rfl <| J.op rfl (A.appR (Kr := K784) Tryz.underlying32 inf70 rfl rfl (by decide) (by decide) rfl rfl (Els.mono (((hK773.trans hK779).trans hK782).trans hK785)) (Els.mono (Hp.le_refl _)) hz791) ?_
     rintro _ _ _ ⟨v792, rfl, rfl, rfl⟩
     refine J.wit Row.form ?_
     rintro ⟨ad793, cp794, rfl, _, _, hn795⟩
     refine ja (.slice ad793 z790.length cp794) rfl <| J.nil <| CJ.region <| jm (ii i678) rfl <| jv (ii (IntKind.wrap .i64 (i678 + 1))) (V.add rfl rfl) <| ja (ii (IntKind.wrap .i64 (i678 + 1))) rfl <| J.dropAt 1 rfl ?_
     refine J.nil ?_
     obtain rfl := si h740
     exact ⟨rfl, ⟨s757, i758, z790, IntKind.wrap .i64 (i678 + 1), ad793, cp794, rfl, ⟨rfl, rfl, rfl, rfl, rfl, trivial⟩, ((((hk742.trans hK773).trans hK779).trans hK782).trans hK785), rfl⟩⟩
   refine CJ.exit ?_
   obtain rfl := si h740
   refine ⟨nofun, fun e => ?_⟩
   subst e
   exact ⟨rfl, ⟨s671, i672, l673, ad674, cp675, rfl, ⟨rfl, rfl, rfl, trivial⟩, hk742, rfl⟩⟩
 rintro ρ K600 _ ⟨s601, i602, l603, ad604, cp605, rfl, hf796, hk797, rfl⟩
 obtain ⟨ρ, rfl⟩ := hf796.ex
 refine PJ.wit Row.hn fun hn607 => PJ.done <| cr <| jm (.slice ad604 l603.length cp605) rfl <| jm (.string ⟨s601.toArray⟩) rfl <| jm (ii i602) rfl ?_
 refine ja (.slice ad604 l603.length cp605) rfl <| ja (.string ⟨s601.toArray⟩) rfl <| ja (ii i602) rfl <| J.nil <| CJ.ret ?_
 obtain rfl := si h
 exact ⟨_, _, Res.three rfl rfl rfl rfl, ⟨l603, s601, i602, ad604, cp605, rfl, rfl, rfl⟩, hk797, fun w hs => hs⟩

noncomputable def fn_ref20_Take (xa : (List UInt8)) : Option ((Int × Int × (List (Int × Int)) × (List (List (Int × Bool))) × (List (Int × Bool)) × (List (Int × (List (Int × Int)) × (List (List (Int × Bool))) × (List (Int × Bool)))) × (List ((List (Int × Int × Int × Int × Bool)) × (Int × Int × Int × (List Int) × (List Int) × (List Int)))) × Int)) :=
  (cond (decide ((((xa.length : Nat) : Int)) < 4)) (some (true)) ((subL xa 0 4).bind fun y140 => some (!decide (y140 = ([109, 105, 114, 1] : List UInt8))))).bind fun t137 => cond (t137) (some ((0, 0, [], [], [], [], [], 12))) ((subL xa 4 (((xa.length : Nat) : Int))).bind fun y149 => (fn_ref20_count y149).bind fun (i153, s154, i155) => cond (!decide (i155 = 0)) (some ((0, 0, [], [], [], [], [], i155))) ((fn_ref20_count s154).bind fun (i167, s168, i169) => cond (!decide (i169 = 0)) (some ((0, 0, [], [], [], [], [], i169))) ((fn_ref17_TakeBounds s168 65536).bind fun (l181, i182, i183) => cond (!decide (i183 = 0)) (some ((0, 0, [], [], [], [], [], i183))) ((subL s168 i182 (((s168.length : Nat) : Int))).bind fun y197 => (fn_ref20_locals y197).bind fun (l201, s202, i203) => cond (!decide (i203 = 0)) (some ((0, 0, [], [], [], [], [], i203))) ((fn_ref17_TakeType s202).bind fun (l219, i220, i221) => cond (!decide (i221 = 0)) (some ((0, 0, [], [], [], [], [], i221))) ((subL s202 i220 (((s202.length : Nat) : Int))).bind fun y236 => (fn_ref20_sigs y236).bind fun (l240, s241, i242) => cond (!decide (i242 = 0)) (some ((0, 0, [], [], [], [], [], i242))) ((fn_ref20_blocks s241).bind fun (l258, s259, i260) => cond (!decide (i260 = 0)) (some ((0, 0, [], [], [], [], [], i260))) (cond (!decide (s259 = ([] : List UInt8))) (some ((0, 0, [], [], [], [], [], 13))) (some ((i153, i167, l181, l201, l219, l240, l258, 0)))))))))))
set_option maxRecDepth 100000 in
set_option maxHeartbeats 4000000 in
theorem ref20_Take_ok {K : Hp} {xa : (List UInt8)}   {r : (Int × Int × (List (Int × Int)) × (List (List (Int × Bool))) × (List (Int × Bool)) × (List (Int × (List (Int × Int)) × (List (List (Int × Bool))) × (List (Int × Bool)))) × (List ((List (Int × Int × Int × Int × Bool)) × (Int × Int × Int × (List Int) × (List Int) × (List Int)))) × Int)} (h : fn_ref20_Take xa = some r) :
    Tr Tryz.prog 7 #[.string ⟨xa.toArray⟩] K [] (fun v K' L' => (∃ (i105 : Int) (i106 : Int) (l107 : (List (Int × Int))) (l112 : (List (List (Int × Bool)))) (l117 : (List (Int × Bool))) (l122 : (List (Int × (List (Int × Int)) × (List (List (Int × Bool))) × (List (Int × Bool))))) (l127 : (List ((List (Int × Int × Int × Int × Bool)) × (Int × Int × Int × (List Int) × (List Int) × (List Int))))) (i132 : Int) (ad108 : Option Addr) (cp109 : Nat) (ad113 : Option Addr) (cp114 : Nat) (ad118 : Option Addr) (cp119 : Nat) (ad123 : Option Addr) (cp124 : Nat) (ad128 : Option Addr) (cp129 : Nat), (i105, i106, l107, l112, l117, l122, l127, i132) = r ∧ .tuple #[.agg #[ii i105, ii i106, .slice ad108 l107.length cp109, .slice ad113 l112.length cp114, .slice ad118 l117.length cp119, .slice ad123 l122.length cp124, .slice ad128 l127.length cp129], ii i132] = v ∧ L' = [Row Hp.nil 95 (.cons (.int .i64) (.one (.int .i64))) (.slice ad108 l107.length cp109) l107, Row K' 30 (.one (.sl (.cons (.int .i64) (.one .bool)))) (.slice ad113 l112.length cp114) l112, Row Hp.nil 146 (.cons (.int .i64) (.one .bool)) (.slice ad118 l117.length cp119) l117, Row K' 63 (.cons (.int .i64) (.cons (.sl (.cons (.int .i64) (.one (.int .i64)))) (.cons (.sl (.one (.sl (.cons (.int .i64) (.one .bool))))) (.one (.one (.sl (.cons (.int .i64) (.one .bool)))))))) (.slice ad123 l122.length cp124) l122, Row K' 70 (.cons (.sl (.cons (.int .i64) (.cons (.int .i64) (.cons (.int .i64) (.cons (.int .i64) (.one .bool)))))) (.one (.cons (.int .i64) (.cons (.int .i64) (.cons (.int .i64) (.cons (.sl (.int .i64)) (.cons (.sl (.int .i64)) (.one (.sl (.int .i64)))))))))) (.slice ad128 l127.length cp129) l127])) := by
 refine Tr.of Tryz.func7 rfl Tryz.ntmps7 rfl fun E F => ?_
 unfold fn_ref20_Take at h
 refine cr <| jal inf34 [ii 0, ii 0, nos, nos, nos, nos, nos] rfl fun b133 => ja (ii 0) rfl <| J.nil <| CJ.seq <| CJ.seq ?_
 refine CJ.region <| jm (.string ⟨xa.toArray⟩) rfl <| jv (ii (((xa.length : Nat) : Int))) (V.lens Tryz.underlying9 rfl) <| jv (.bool (decide ((((xa.length : Nat) : Int)) < 4))) (V.lss rfl rfl) <| jm (.bool (decide ((((xa.length : Nat) : Int)) < 4))) rfl <| J.cut 4 ?_
 obtain ⟨t137, ht138, h⟩ := ob h
 refine jmeet [(25, .bool t137), (0, .string ⟨xa.toArray⟩), (2, .pointer (some ⟨b133, 0, none⟩))] ?_ ?_
 · rcases bt (decide ((((xa.length : Nat) : Int)) < 4)) with hc139 | hc139
   · have ht138 := ct hc139 ht138
     refine J.skip rfl rfl rfl rfl hc139 <| J.skip rfl rfl rfl rfl hc139 <| J.skip rfl rfl rfl rfl hc139 <| jv (.bool true) (V.pickT rfl hc139 rfl) <| J.nil ?_
     obtain rfl := si ht138
     exact ⟨rfl, ⟨rfl, rfl, rfl, trivial⟩, rfl, rfl⟩
   have ht138 := cf hc139 ht138
   refine J.run rfl rfl rfl hc139 <| jm (.string ⟨xa.toArray⟩) rfl <| J.run rfl rfl rfl hc139 ?_
   obtain ⟨y140, hy141, ht138⟩ := ob ht138
   refine jv (.string ⟨y140.toArray⟩) (V.subs Tryz.underlying9 rfl nofun (fun _ => rfl) (fun _ h => by cases h; exact ⟨_, rfl⟩) nofun hy141) <| J.run rfl rfl rfl hc139 <| jv (.bool (!decide (y140 = ([109, 105, 114, 1] : List UInt8)))) (V.nes rfl rfl) <| jv (.bool (!decide (y140 = ([109, 105, 114, 1] : List UInt8)))) (V.pickF rfl hc139 rfl) <| J.nil ?_
   obtain rfl := si ht138
   exact ⟨rfl, ⟨rfl, rfl, rfl, trivial⟩, rfl, rfl⟩
 intro ρ
 refine J.nil <| cc rfl h (fun hc142 h => ?_) fun hc142 h => ?_
 · refine cr <| jv (.agg #[ii 0, ii 0, nos, nos, nos, nos, nos]) (V.build inf34 places34 rfl rfl) <| js [ii 0, ii 0, nos, nos, nos, nos, nos] sz34 rfl rfl rfl rfl rfl rfl <| ja (ii 12) rfl <| J.nil <| CJ.by (fun w hs => Sep.rowNil (e := 95) (t := (.cons (.int .i64) (.one (.int .i64)))) hs) ?_
   refine CJ.by (fun w hs => Sep.rowNil (e := 30) (t := (.one (.sl (.cons (.int .i64) (.one .bool))))) hs) <| CJ.by (fun w hs => Sep.rowNil (e := 146) (t := (.cons (.int .i64) (.one .bool))) hs) <| CJ.by (fun w hs => Sep.rowNil (e := 63) (t := (.cons (.int .i64) (.cons (.sl (.cons (.int .i64) (.one (.int .i64)))) (.cons (.sl (.one (.sl (.cons (.int .i64) (.one .bool))))) (.one (.one (.sl (.cons (.int .i64) (.one .bool))))))))) hs) <| CJ.by (fun w hs => Sep.rowNil (e := 70) (t := (.cons (.sl (.cons (.int .i64) (.cons (.int .i64) (.cons (.int .i64) (.cons (.int .i64) (.one .bool)))))) (.one (.cons (.int .i64) (.cons (.int .i64) (.cons (.int .i64) (.cons (.sl (.int .i64)) (.cons (.sl (.int .i64)) (.one (.sl (.int .i64))))))))))) hs) <| CJ.ret ?_
   obtain rfl := si h
   exact ⟨_, _, Res.two rfl ⟨_, _, rfl, Ld.agg (cs := [ii 0, ii 0, nos, nos, nos, nos, nos]) Tryz.underlying34 sz34 rfl (Rd.cls 5 0 rfl rfl)⟩ rfl, ⟨0, 0, [], [], [], [], [], 12, none, 0, none, 0, none, 0, none, 0, none, 0, rfl, rfl, rfl⟩, (Hp.le_refl _), fun w hs => (Sep.front 4 rfl (Sep.front 3 rfl (Sep.front 2 rfl (Sep.front 1 rfl (Sep.dropAt 5 rfl hs)))))⟩
 refine CJ.skip <| cr <| jv (.agg #[ii 0, ii 0, nos, nos, nos, nos, nos]) (V.build inf34 places34 rfl rfl) <| jal inf34 [ii 0, ii 0, nos, nos, nos, nos, nos] rfl fun b148 => js [ii 0, ii 0, nos, nos, nos, nos, nos] sz34 rfl rfl rfl rfl rfl rfl <| J.nil ?_
 refine cr <| jm (.string ⟨xa.toArray⟩) rfl ?_
 obtain ⟨y149, hy150, h⟩ := ob h
 refine jv (.string ⟨y149.toArray⟩) (V.subs Tryz.underlying9 rfl (fun _ h => by cases h; exact ⟨_, rfl⟩) nofun nofun (fun _ => rfl) hy150) ?_
 obtain ⟨r151, hr152, h⟩ := ob h
 refine J.op rfl (A.call (L1 := []) Tryz.call30 rfl (ref20_count_ok hr152) rfl rfl) ?_
 rintro _ _ _ ⟨v156, _, rfl, ⟨⟨i153, s154, i155, rfl, rfl, rfl⟩, rfl⟩, _, rfl⟩
 refine jm (.tuple #[ii i153, .string ⟨s154.toArray⟩, ii i155]) rfl <| jx (ii i153) rfl rfl <| jx (.string ⟨s154.toArray⟩) rfl rfl <| jx (ii i155) rfl rfl <| ja (ii i153) rfl <| ja (.string ⟨s154.toArray⟩) rfl <| ja (ii i155) rfl ?_
 refine J.nil <| CJ.seq <| cr <| jm (ii i155) rfl <| jv (.bool (!decide (i155 = 0))) (V.neq rfl rfl) <| J.nil ?_
 refine cc rfl h (fun hc159 h => ?_) fun hc159 h => ?_
 · refine cr <| jv (.agg #[ii 0, ii 0, nos, nos, nos, nos, nos]) (V.build inf34 places34 rfl rfl) <| jm (ii i155) rfl <| J.front 1 rfl <| js [ii 0, ii 0, nos, nos, nos, nos, nos] sz34 rfl rfl rfl rfl rfl rfl <| ja (ii i155) rfl ?_
   refine J.nil <| CJ.by (fun w hs => Sep.rowNil (e := 95) (t := (.cons (.int .i64) (.one (.int .i64)))) hs) <| CJ.by (fun w hs => Sep.rowNil (e := 30) (t := (.one (.sl (.cons (.int .i64) (.one .bool))))) hs) <| CJ.by (fun w hs => Sep.rowNil (e := 146) (t := (.cons (.int .i64) (.one .bool))) hs) <| CJ.by (fun w hs => Sep.rowNil (e := 63) (t := (.cons (.int .i64) (.cons (.sl (.cons (.int .i64) (.one (.int .i64)))) (.cons (.sl (.one (.sl (.cons (.int .i64) (.one .bool))))) (.one (.one (.sl (.cons (.int .i64) (.one .bool))))))))) hs) <| CJ.by (fun w hs => Sep.rowNil (e := 70) (t := (.cons (.sl (.cons (.int .i64) (.cons (.int .i64) (.cons (.int .i64) (.cons (.int .i64) (.one .bool)))))) (.one (.cons (.int .i64) (.cons (.int .i64) (.cons (.int .i64) (.cons (.sl (.int .i64)) (.cons (.sl (.int .i64)) (.one (.sl (.int .i64))))))))))) hs) <| CJ.ret ?_
   obtain rfl := si h
   exact ⟨_, _, Res.two rfl ⟨_, _, rfl, Ld.agg (cs := [ii 0, ii 0, nos, nos, nos, nos, nos]) Tryz.underlying34 sz34 rfl (Rd.cls 5 0 rfl rfl)⟩ rfl, ⟨0, 0, [], [], [], [], [], i155, none, 0, none, 0, none, 0, none, 0, none, 0, rfl, rfl, rfl⟩, (Hp.le_refl _), fun w hs => (Sep.front 4 rfl (Sep.front 3 rfl (Sep.front 2 rfl (Sep.front 1 rfl (Sep.dropAt 5 rfl (Sep.dropAt 5 rfl hs))))))⟩
 refine CJ.skip <| cr <| jm (.string ⟨s154.toArray⟩) rfl ?_
 obtain ⟨r165, hr166, h⟩ := ob h
 refine J.op rfl (A.call (L1 := []) Tryz.call30 rfl (ref20_count_ok hr166) rfl rfl) ?_
 rintro _ _ _ ⟨v170, _, rfl, ⟨⟨i167, s168, i169, rfl, rfl, rfl⟩, rfl⟩, _, rfl⟩
 refine jm (.tuple #[ii i167, .string ⟨s168.toArray⟩, ii i169]) rfl <| jx (ii i167) rfl rfl <| jx (.string ⟨s168.toArray⟩) rfl rfl <| jx (ii i169) rfl rfl <| ja (ii i167) rfl <| ja (.string ⟨s168.toArray⟩) rfl <| ja (ii i169) rfl ?_
 refine J.nil <| CJ.seq <| cr <| jm (ii i169) rfl <| jv (.bool (!decide (i169 = 0))) (V.neq rfl rfl) <| J.nil ?_
 refine cc rfl h (fun hc173 h => ?_) fun hc173 h => ?_
 · refine cr <| jv (.agg #[ii 0, ii 0, nos, nos, nos, nos, nos]) (V.build inf34 places34 rfl rfl) <| jm (ii i169) rfl <| J.front 1 rfl <| js [ii 0, ii 0, nos, nos, nos, nos, nos] sz34 rfl rfl rfl rfl rfl rfl <| ja (ii i169) rfl ?_
   refine J.nil <| CJ.by (fun w hs => Sep.rowNil (e := 95) (t := (.cons (.int .i64) (.one (.int .i64)))) hs) <| CJ.by (fun w hs => Sep.rowNil (e := 30) (t := (.one (.sl (.cons (.int .i64) (.one .bool))))) hs) <| CJ.by (fun w hs => Sep.rowNil (e := 146) (t := (.cons (.int .i64) (.one .bool))) hs) <| CJ.by (fun w hs => Sep.rowNil (e := 63) (t := (.cons (.int .i64) (.cons (.sl (.cons (.int .i64) (.one (.int .i64)))) (.cons (.sl (.one (.sl (.cons (.int .i64) (.one .bool))))) (.one (.one (.sl (.cons (.int .i64) (.one .bool))))))))) hs) <| CJ.by (fun w hs => Sep.rowNil (e := 70) (t := (.cons (.sl (.cons (.int .i64) (.cons (.int .i64) (.cons (.int .i64) (.cons (.int .i64) (.one .bool)))))) (.one (.cons (.int .i64) (.cons (.int .i64) (.cons (.int .i64) (.cons (.sl (.int .i64)) (.cons (.sl (.int .i64)) (.one (.sl (.int .i64))))))))))) hs) <| CJ.ret ?_
   obtain rfl := si h
   exact ⟨_, _, Res.two rfl ⟨_, _, rfl, Ld.agg (cs := [ii 0, ii 0, nos, nos, nos, nos, nos]) Tryz.underlying34 sz34 rfl (Rd.cls 5 0 rfl rfl)⟩ rfl, ⟨0, 0, [], [], [], [], [], i169, none, 0, none, 0, none, 0, none, 0, none, 0, rfl, rfl, rfl⟩, (Hp.le_refl _), fun w hs => (Sep.front 4 rfl (Sep.front 3 rfl (Sep.front 2 rfl (Sep.front 1 rfl (Sep.dropAt 5 rfl (Sep.dropAt 5 rfl hs))))))⟩
 refine CJ.skip <| cr <| jm (.string ⟨s168.toArray⟩) rfl ?_
 obtain ⟨r179, hr180, h⟩ := ob h
 refine J.op rfl (A.call (L1 := []) Tryz.call31 rfl (ref17_TakeBounds_ok hr180) rfl rfl) ?_
 rintro _ _ _ ⟨v187, _, rfl, ⟨⟨l181, i182, i183, ad184, cp185, rfl, rfl, rfl⟩, rfl⟩, _, rfl⟩
 refine J.wit Row.hn fun hn186 => jm (.tuple #[.slice ad184 l181.length cp185, ii i182, ii i183]) rfl <| jx (.slice ad184 l181.length cp185) rfl rfl <| jx (ii i182) rfl rfl <| jx (ii i183) rfl rfl <| ja (.slice ad184 l181.length cp185) rfl <| ja (ii i182) rfl ?_
 refine ja (ii i183) rfl <| J.nil <| CJ.seq <| cr <| jm (ii i183) rfl <| jv (.bool (!decide (i183 = 0))) (V.neq rfl rfl) ?_
 refine J.nil <| cc rfl h (fun hc191 h => ?_) fun hc191 h => ?_
 · refine cr <| jv (.agg #[ii 0, ii 0, nos, nos, nos, nos, nos]) (V.build inf34 places34 rfl rfl) <| jm (ii i183) rfl <| J.front 2 rfl <| js [ii 0, ii 0, nos, nos, nos, nos, nos] sz34 rfl rfl rfl rfl rfl rfl <| ja (ii i183) rfl ?_
   refine J.nil <| CJ.by (fun w hs => Sep.rowNil (e := 95) (t := (.cons (.int .i64) (.one (.int .i64)))) hs) <| CJ.by (fun w hs => Sep.rowNil (e := 30) (t := (.one (.sl (.cons (.int .i64) (.one .bool))))) hs) <| CJ.by (fun w hs => Sep.rowNil (e := 146) (t := (.cons (.int .i64) (.one .bool))) hs) <| CJ.by (fun w hs => Sep.rowNil (e := 63) (t := (.cons (.int .i64) (.cons (.sl (.cons (.int .i64) (.one (.int .i64)))) (.cons (.sl (.one (.sl (.cons (.int .i64) (.one .bool))))) (.one (.one (.sl (.cons (.int .i64) (.one .bool))))))))) hs) <| CJ.by (fun w hs => Sep.rowNil (e := 70) (t := (.cons (.sl (.cons (.int .i64) (.cons (.int .i64) (.cons (.int .i64) (.cons (.int .i64) (.one .bool)))))) (.one (.cons (.int .i64) (.cons (.int .i64) (.cons (.int .i64) (.cons (.sl (.int .i64)) (.cons (.sl (.int .i64)) (.one (.sl (.int .i64))))))))))) hs) <| CJ.ret ?_
   obtain rfl := si h
   exact ⟨_, _, Res.two rfl ⟨_, _, rfl, Ld.agg (cs := [ii 0, ii 0, nos, nos, nos, nos, nos]) Tryz.underlying34 sz34 rfl (Rd.cls 5 0 rfl rfl)⟩ rfl, ⟨0, 0, [], [], [], [], [], i183, none, 0, none, 0, none, 0, none, 0, none, 0, rfl, rfl, rfl⟩, (Hp.le_refl _), fun w hs => (Sep.front 4 rfl (Sep.front 3 rfl (Sep.front 2 rfl (Sep.front 1 rfl (Sep.dropAt 5 rfl (Sep.dropAt 5 rfl (Sep.dropAt 5 rfl hs)))))))⟩
 refine CJ.skip <| cr <| jm (.string ⟨s168.toArray⟩) rfl <| jm (ii i182) rfl ?_
 obtain ⟨y197, hy198, h⟩ := ob h
 refine jv (.string ⟨y197.toArray⟩) (V.subs Tryz.underlying9 rfl (fun _ h => by cases h; exact ⟨_, rfl⟩) nofun nofun (fun _ => rfl) hy198) ?_
 obtain ⟨r199, hr200, h⟩ := ob h
 refine J.op rfl (A.call (L1 := []) Tryz.call32 rfl (ref20_locals_ok hr200) rfl rfl) ?_
 rintro _ K208 _ ⟨v207, _, rfl, ⟨l201, s202, i203, ad204, cp205, rfl, rfl, rfl⟩, hK209, rfl⟩
 refine J.wit Row.hn fun hn206 => jm (.tuple #[.slice ad204 l201.length cp205, .string ⟨s202.toArray⟩, ii i203]) rfl <| jx (.slice ad204 l201.length cp205) rfl rfl <| jx (.string ⟨s202.toArray⟩) rfl rfl <| jx (ii i203) rfl rfl <| ja (.slice ad204 l201.length cp205) rfl <| ja (.string ⟨s202.toArray⟩) rfl ?_
 refine ja (ii i203) rfl <| J.nil <| CJ.seq <| cr <| jm (ii i203) rfl <| jv (.bool (!decide (i203 = 0))) (V.neq rfl rfl) ?_
 refine J.nil <| cc rfl h (fun hc211 h => ?_) fun hc211 h => ?_
 · refine cr <| jv (.agg #[ii 0, ii 0, nos, nos, nos, nos, nos]) (V.build inf34 places34 rfl rfl) <| jm (ii i203) rfl <| J.front 3 rfl <| js [ii 0, ii 0, nos, nos, nos, nos, nos] sz34 rfl rfl rfl rfl rfl rfl <| ja (ii i203) rfl ?_
   refine J.nil <| CJ.by (fun w hs => Sep.rowNil (e := 95) (t := (.cons (.int .i64) (.one (.int .i64)))) hs) <| CJ.by (fun w hs => Sep.rowNil (e := 30) (t := (.one (.sl (.cons (.int .i64) (.one .bool))))) hs) <| CJ.by (fun w hs => Sep.rowNil (e := 146) (t := (.cons (.int .i64) (.one .bool))) hs) <| CJ.by (fun w hs => Sep.rowNil (e := 63) (t := (.cons (.int .i64) (.cons (.sl (.cons (.int .i64) (.one (.int .i64)))) (.cons (.sl (.one (.sl (.cons (.int .i64) (.one .bool))))) (.one (.one (.sl (.cons (.int .i64) (.one .bool))))))))) hs) <| CJ.by (fun w hs => Sep.rowNil (e := 70) (t := (.cons (.sl (.cons (.int .i64) (.cons (.int .i64) (.cons (.int .i64) (.cons (.int .i64) (.one .bool)))))) (.one (.cons (.int .i64) (.cons (.int .i64) (.cons (.int .i64) (.cons (.sl (.int .i64)) (.cons (.sl (.int .i64)) (.one (.sl (.int .i64))))))))))) hs) <| CJ.ret ?_
   obtain rfl := si h
   exact ⟨_, _, Res.two rfl ⟨_, _, rfl, Ld.agg (cs := [ii 0, ii 0, nos, nos, nos, nos, nos]) Tryz.underlying34 sz34 rfl (Rd.cls 5 0 rfl rfl)⟩ rfl, ⟨0, 0, [], [], [], [], [], i203, none, 0, none, 0, none, 0, none, 0, none, 0, rfl, rfl, rfl⟩, hK209, fun w hs => (Sep.front 4 rfl (Sep.front 3 rfl (Sep.front 2 rfl (Sep.front 1 rfl (Sep.dropAt 5 rfl (Sep.dropAt 5 rfl (Sep.dropAt 5 rfl (Sep.dropAt 5 rfl hs))))))))⟩
 refine CJ.skip <| cr <| jm (.string ⟨s202.toArray⟩) rfl ?_
 obtain ⟨r217, hr218, h⟩ := ob h
 refine J.op rfl (A.call (L1 := []) Tryz.call33 rfl (ref17_TakeType_ok hr218) rfl rfl) ?_
 rintro _ _ _ ⟨v225, _, rfl, ⟨⟨l219, i220, i221, ad222, cp223, rfl, rfl, rfl⟩, rfl⟩, _, rfl⟩
 refine J.wit Row.hn fun hn224 => jm (.tuple #[.agg #[.slice ad222 l219.length cp223], ii i220, ii i221]) rfl <| jx (.agg #[.slice ad222 l219.length cp223]) rfl rfl <| jx (ii i220) rfl rfl <| jx (ii i221) rfl rfl <| jal inf30 [nos] rfl fun b229 => js [.slice ad222 l219.length cp223] sz30 rfl rfl rfl rfl rfl rfl ?_
 refine ja (ii i220) rfl <| ja (ii i221) rfl <| J.nil <| CJ.seq <| cr <| jm (ii i221) rfl ?_
 refine jv (.bool (!decide (i221 = 0))) (V.neq rfl rfl) <| J.nil <| cc rfl h (fun hc230 h => ?_) fun hc230 h => ?_
 · refine cr <| jv (.agg #[ii 0, ii 0, nos, nos, nos, nos, nos]) (V.build inf34 places34 rfl rfl) <| jm (ii i221) rfl <| J.front 5 rfl <| js [ii 0, ii 0, nos, nos, nos, nos, nos] sz34 rfl rfl rfl rfl rfl rfl <| ja (ii i221) rfl ?_
   refine J.nil <| CJ.by (fun w hs => Sep.rowNil (e := 95) (t := (.cons (.int .i64) (.one (.int .i64)))) hs) <| CJ.by (fun w hs => Sep.rowNil (e := 30) (t := (.one (.sl (.cons (.int .i64) (.one .bool))))) hs) <| CJ.by (fun w hs => Sep.rowNil (e := 146) (t := (.cons (.int .i64) (.one .bool))) hs) <| CJ.by (fun w hs => Sep.rowNil (e := 63) (t := (.cons (.int .i64) (.cons (.sl (.cons (.int .i64) (.one (.int .i64)))) (.cons (.sl (.one (.sl (.cons (.int .i64) (.one .bool))))) (.one (.one (.sl (.cons (.int .i64) (.one .bool))))))))) hs) <| CJ.by (fun w hs => Sep.rowNil (e := 70) (t := (.cons (.sl (.cons (.int .i64) (.cons (.int .i64) (.cons (.int .i64) (.cons (.int .i64) (.one .bool)))))) (.one (.cons (.int .i64) (.cons (.int .i64) (.cons (.int .i64) (.cons (.sl (.int .i64)) (.cons (.sl (.int .i64)) (.one (.sl (.int .i64))))))))))) hs) <| CJ.ret ?_
   obtain rfl := si h
   exact ⟨_, _, Res.two rfl ⟨_, _, rfl, Ld.agg (cs := [ii 0, ii 0, nos, nos, nos, nos, nos]) Tryz.underlying34 sz34 rfl (Rd.cls 5 0 rfl rfl)⟩ rfl, ⟨0, 0, [], [], [], [], [], i221, none, 0, none, 0, none, 0, none, 0, none, 0, rfl, rfl, rfl⟩, hK209, fun w hs => (Sep.front 4 rfl (Sep.front 3 rfl (Sep.front 2 rfl (Sep.front 1 rfl (Sep.dropAt 5 rfl (Sep.dropAt 5 rfl (Sep.dropAt 5 rfl (Sep.dropAt 5 rfl (Sep.dropAt 5 rfl (Sep.dropAt 5 rfl hs))))))))))⟩
 refine CJ.skip <| cr <| jm (.string ⟨s202.toArray⟩) rfl <| jm (ii i220) rfl ?_
 obtain ⟨y236, hy237, h⟩ := ob h
 refine jv (.string ⟨y236.toArray⟩) (V.subs Tryz.underlying9 rfl (fun _ h => by cases h; exact ⟨_, rfl⟩) nofun nofun (fun _ => rfl) hy237) ?_
 obtain ⟨r238, hr239, h⟩ := ob h
 refine J.op rfl (A.call (L1 := []) Tryz.call34 rfl (ref20_sigs_ok hr239) rfl rfl) ?_
 rintro _ K247 _ ⟨v246, _, rfl, ⟨l240, s241, i242, ad243, cp244, rfl, rfl, rfl⟩, hK248, rfl⟩
 refine J.wit Row.hn fun hn245 => jm (.tuple #[.slice ad243 l240.length cp244, .string ⟨s241.toArray⟩, ii i242]) rfl <| jx (.slice ad243 l240.length cp244) rfl rfl <| jx (.string ⟨s241.toArray⟩) rfl rfl <| jx (ii i242) rfl rfl <| ja (.slice ad243 l240.length cp244) rfl <| ja (.string ⟨s241.toArray⟩) rfl ?_
 refine ja (ii i242) rfl <| J.nil <| CJ.seq <| cr <| jm (ii i242) rfl <| jv (.bool (!decide (i242 = 0))) (V.neq rfl rfl) ?_
 refine J.nil <| cc rfl h (fun hc250 h => ?_) fun hc250 h => ?_
 · refine cr <| jv (.agg #[ii 0, ii 0, nos, nos, nos, nos, nos]) (V.build inf34 places34 rfl rfl) <| jm (ii i242) rfl <| J.front 6 rfl <| js [ii 0, ii 0, nos, nos, nos, nos, nos] sz34 rfl rfl rfl rfl rfl rfl <| ja (ii i242) rfl ?_
   refine J.nil <| CJ.by (fun w hs => Sep.rowNil (e := 95) (t := (.cons (.int .i64) (.one (.int .i64)))) hs) <| CJ.by (fun w hs => Sep.rowNil (e := 30) (t := (.one (.sl (.cons (.int .i64) (.one .bool))))) hs) <| CJ.by (fun w hs => Sep.rowNil (e := 146) (t := (.cons (.int .i64) (.one .bool))) hs) <| CJ.by (fun w hs => Sep.rowNil (e := 63) (t := (.cons (.int .i64) (.cons (.sl (.cons (.int .i64) (.one (.int .i64)))) (.cons (.sl (.one (.sl (.cons (.int .i64) (.one .bool))))) (.one (.one (.sl (.cons (.int .i64) (.one .bool))))))))) hs) <| CJ.by (fun w hs => Sep.rowNil (e := 70) (t := (.cons (.sl (.cons (.int .i64) (.cons (.int .i64) (.cons (.int .i64) (.cons (.int .i64) (.one .bool)))))) (.one (.cons (.int .i64) (.cons (.int .i64) (.cons (.int .i64) (.cons (.sl (.int .i64)) (.cons (.sl (.int .i64)) (.one (.sl (.int .i64))))))))))) hs) <| CJ.ret ?_
   obtain rfl := si h
   exact ⟨_, _, Res.two rfl ⟨_, _, rfl, Ld.agg (cs := [ii 0, ii 0, nos, nos, nos, nos, nos]) Tryz.underlying34 sz34 rfl (Rd.cls 5 0 rfl rfl)⟩ rfl, ⟨0, 0, [], [], [], [], [], i242, none, 0, none, 0, none, 0, none, 0, none, 0, rfl, rfl, rfl⟩, (hK209.trans hK248), fun w hs => (Sep.front 4 rfl (Sep.front 3 rfl (Sep.front 2 rfl (Sep.front 1 rfl (Sep.dropAt 5 rfl (Sep.dropAt 5 rfl (Sep.dropAt 5 rfl (Sep.dropAt 5 rfl (Sep.dropAt 5 rfl (Sep.dropAt 5 rfl (Sep.dropAt 5 rfl hs)))))))))))⟩
 refine CJ.skip <| cr <| jm (.string ⟨s241.toArray⟩) rfl ?_
 obtain ⟨r256, hr257, h⟩ := ob h
 refine J.op rfl (A.call (L1 := []) Tryz.call35 rfl (ref20_blocks_ok hr257) rfl rfl) ?_
 rintro _ K265 _ ⟨v264, _, rfl, ⟨l258, s259, i260, ad261, cp262, rfl, rfl, rfl⟩, hK266, rfl⟩
 refine J.wit Row.hn fun hn263 => jm (.tuple #[.slice ad261 l258.length cp262, .string ⟨s259.toArray⟩, ii i260]) rfl <| jx (.slice ad261 l258.length cp262) rfl rfl <| jx (.string ⟨s259.toArray⟩) rfl rfl <| jx (ii i260) rfl rfl <| ja (.slice ad261 l258.length cp262) rfl <| ja (.string ⟨s259.toArray⟩) rfl ?_
 refine ja (ii i260) rfl <| J.nil <| CJ.seq <| cr <| jm (ii i260) rfl <| jv (.bool (!decide (i260 = 0))) (V.neq rfl rfl) ?_
 refine J.nil <| cc rfl h (fun hc268 h => ?_) fun hc268 h => ?_
 · refine cr <| jv (.agg #[ii 0, ii 0, nos, nos, nos, nos, nos]) (V.build inf34 places34 rfl rfl) <| jm (ii i260) rfl <| J.front 7 rfl <| js [ii 0, ii 0, nos, nos, nos, nos, nos] sz34 rfl rfl rfl rfl rfl rfl <| ja (ii i260) rfl ?_
   refine J.nil <| CJ.by (fun w hs => Sep.rowNil (e := 95) (t := (.cons (.int .i64) (.one (.int .i64)))) hs) <| CJ.by (fun w hs => Sep.rowNil (e := 30) (t := (.one (.sl (.cons (.int .i64) (.one .bool))))) hs) <| CJ.by (fun w hs => Sep.rowNil (e := 146) (t := (.cons (.int .i64) (.one .bool))) hs) <| CJ.by (fun w hs => Sep.rowNil (e := 63) (t := (.cons (.int .i64) (.cons (.sl (.cons (.int .i64) (.one (.int .i64)))) (.cons (.sl (.one (.sl (.cons (.int .i64) (.one .bool))))) (.one (.one (.sl (.cons (.int .i64) (.one .bool))))))))) hs) <| CJ.by (fun w hs => Sep.rowNil (e := 70) (t := (.cons (.sl (.cons (.int .i64) (.cons (.int .i64) (.cons (.int .i64) (.cons (.int .i64) (.one .bool)))))) (.one (.cons (.int .i64) (.cons (.int .i64) (.cons (.int .i64) (.cons (.sl (.int .i64)) (.cons (.sl (.int .i64)) (.one (.sl (.int .i64))))))))))) hs) <| CJ.ret ?_
   obtain rfl := si h
   exact ⟨_, _, Res.two rfl ⟨_, _, rfl, Ld.agg (cs := [ii 0, ii 0, nos, nos, nos, nos, nos]) Tryz.underlying34 sz34 rfl (Rd.cls 5 0 rfl rfl)⟩ rfl, ⟨0, 0, [], [], [], [], [], i260, none, 0, none, 0, none, 0, none, 0, none, 0, rfl, rfl, rfl⟩, ((hK209.trans hK248).trans hK266), fun w hs => (Sep.front 4 rfl (Sep.front 3 rfl (Sep.front 2 rfl (Sep.front 1 rfl (Sep.dropAt 5 rfl (Sep.dropAt 5 rfl (Sep.dropAt 5 rfl (Sep.dropAt 5 rfl (Sep.dropAt 5 rfl (Sep.dropAt 5 rfl (Sep.dropAt 5 rfl (Sep.dropAt 5 rfl hs))))))))))))⟩
 refine CJ.skip <| CJ.seq <| cr <| jm (.string ⟨s259.toArray⟩) rfl <| jv (.bool (!decide (s259 = ([] : List UInt8)))) (V.nes rfl rfl) <| J.nil ?_
 refine cc rfl h (fun hc274 h => ?_) fun hc274 h => ?_
 · refine cr <| jv (.agg #[ii 0, ii 0, nos, nos, nos, nos, nos]) (V.build inf34 places34 rfl rfl) <| J.front 7 rfl <| js [ii 0, ii 0, nos, nos, nos, nos, nos] sz34 rfl rfl rfl rfl rfl rfl <| ja (ii 13) rfl <| J.nil ?_
   refine CJ.by (fun w hs => Sep.rowNil (e := 95) (t := (.cons (.int .i64) (.one (.int .i64)))) hs) <| CJ.by (fun w hs => Sep.rowNil (e := 30) (t := (.one (.sl (.cons (.int .i64) (.one .bool))))) hs) <| CJ.by (fun w hs => Sep.rowNil (e := 146) (t := (.cons (.int .i64) (.one .bool))) hs) <| CJ.by (fun w hs => Sep.rowNil (e := 63) (t := (.cons (.int .i64) (.cons (.sl (.cons (.int .i64) (.one (.int .i64)))) (.cons (.sl (.one (.sl (.cons (.int .i64) (.one .bool))))) (.one (.one (.sl (.cons (.int .i64) (.one .bool))))))))) hs) <| CJ.by (fun w hs => Sep.rowNil (e := 70) (t := (.cons (.sl (.cons (.int .i64) (.cons (.int .i64) (.cons (.int .i64) (.cons (.int .i64) (.one .bool)))))) (.one (.cons (.int .i64) (.cons (.int .i64) (.cons (.int .i64) (.cons (.sl (.int .i64)) (.cons (.sl (.int .i64)) (.one (.sl (.int .i64))))))))))) hs) <| CJ.ret ?_
   obtain rfl := si h
   exact ⟨_, _, Res.two rfl ⟨_, _, rfl, Ld.agg (cs := [ii 0, ii 0, nos, nos, nos, nos, nos]) Tryz.underlying34 sz34 rfl (Rd.cls 5 0 rfl rfl)⟩ rfl, ⟨0, 0, [], [], [], [], [], 13, none, 0, none, 0, none, 0, none, 0, none, 0, rfl, rfl, rfl⟩, ((hK209.trans hK248).trans hK266), fun w hs => (Sep.front 4 rfl (Sep.front 3 rfl (Sep.front 2 rfl (Sep.front 1 rfl (Sep.dropAt 5 rfl (Sep.dropAt 5 rfl (Sep.dropAt 5 rfl (Sep.dropAt 5 rfl (Sep.dropAt 5 rfl (Sep.dropAt 5 rfl (Sep.dropAt 5 rfl (Sep.dropAt 5 rfl hs))))))))))))⟩
 refine CJ.skip <| cr <| jm (ii i153) rfl <| jv _ (V.fad Tryz.underlying34 rfl nz3 rfl) <| J.front 6 rfl <| js1 [ii i153, ii 0, nos, nos, nos, nos, nos] sz3 rfl rfl rfl rfl rfl rfl ?_
 refine J.nil <| cr <| jm (ii i167) rfl <| jv _ (V.fad Tryz.underlying34 rfl nz3 rfl) <| js1 [ii i153, ii i167, nos, nos, nos, nos, nos] sz3 rfl rfl rfl rfl rfl rfl <| J.nil ?_
 refine cr <| jm (.slice ad184 l181.length cp185) rfl <| jv _ (V.fad Tryz.underlying34 rfl nz26 rfl) <| js1 [ii i153, ii i167, .slice ad184 l181.length cp185, nos, nos, nos, nos] sz26 rfl rfl rfl rfl rfl rfl <| J.nil <| CJ.seq ?_
 refine CJ.region <| jm (.slice ad204 l201.length cp205) rfl <| jv _ (V.fad Tryz.underlying34 rfl nz27 rfl) <| js1 [ii i153, ii i167, .slice ad184 l181.length cp185, .slice ad204 l201.length cp205, nos, nos, nos] sz27 rfl rfl rfl rfl rfl rfl <| J.nil <| CJ.seq <| CJ.region ?_
 refine jv (.agg #[.slice ad222 l219.length cp223]) (V.ld rfl (Ld.agg (cs := [.slice ad222 l219.length cp223]) Tryz.underlying30 sz30 rfl (Rd.cls 3 0 rfl rfl))) <| jv _ (V.fad Tryz.underlying34 rfl nz30 rfl) <| js [ii i153, ii i167, .slice ad184 l181.length cp185, .slice ad204 l201.length cp205, .slice ad222 l219.length cp223, nos, nos] sz30 rfl rfl rfl rfl rfl rfl <| J.nil <| cr <| jm (.slice ad243 l240.length cp244) rfl ?_
 refine jv _ (V.fad Tryz.underlying34 rfl nz31 rfl) <| js1 [ii i153, ii i167, .slice ad184 l181.length cp185, .slice ad204 l201.length cp205, .slice ad222 l219.length cp223, .slice ad243 l240.length cp244, nos] sz31 rfl rfl rfl rfl rfl rfl <| J.nil <| cr <| jm (.slice ad261 l258.length cp262) rfl <| jv _ (V.fad Tryz.underlying34 rfl nz32 rfl) ?_
 refine js1 [ii i153, ii i167, .slice ad184 l181.length cp185, .slice ad204 l201.length cp205, .slice ad222 l219.length cp223, .slice ad243 l240.length cp244, .slice ad261 l258.length cp262] sz32 rfl rfl rfl rfl rfl rfl <| J.nil <| cr <| jv (.agg #[ii i153, ii i167, .slice ad184 l181.length cp185, .slice ad204 l201.length cp205, .slice ad222 l219.length cp223, .slice ad243 l240.length cp244, .slice ad261 l258.length cp262]) (V.ld rfl (Ld.agg (cs := [ii i153, ii i167, .slice ad184 l181.length cp185, .slice ad204 l201.length cp205, .slice ad222 l219.length cp223, .slice ad243 l240.length cp244, .slice ad261 l258.length cp262]) Tryz.underlying34 sz34 rfl (Rd.cls 0 0 rfl rfl))) <| J.front 7 rfl <| js [ii i153, ii i167, .slice ad184 l181.length cp185, .slice ad204 l201.length cp205, .slice ad222 l219.length cp223, .slice ad243 l240.length cp244, .slice ad261 l258.length cp262] sz34 rfl rfl rfl rfl rfl rfl ?_
 refine ja (ii 0) rfl <| J.nil <| CJ.front 6 rfl <| CJ.by (fun w hs => hs.mono (Row.mono (hK248.trans hK266))) <| CJ.front 4 rfl <| CJ.by (fun w hs => hs.mono (Row.mono hK266)) <| CJ.ret ?_
 obtain rfl := si h
 exact ⟨_, _, Res.two rfl ⟨_, _, rfl, Ld.agg (cs := [ii i153, ii i167, .slice ad184 l181.length cp185, .slice ad204 l201.length cp205, .slice ad222 l219.length cp223, .slice ad243 l240.length cp244, .slice ad261 l258.length cp262]) Tryz.underlying34 sz34 rfl (Rd.cls 2 0 rfl rfl)⟩ rfl, ⟨i153, i167, l181, l201, l219, l240, l258, 0, ad184, cp185, ad204, cp205, ad222, cp223, ad243, cp244, ad261, cp262, rfl, rfl, rfl⟩, ((hK209.trans hK248).trans hK266), fun w hs => (Sep.front 4 rfl (Sep.front 3 rfl (Sep.front 3 rfl (Sep.front 1 rfl (Sep.front 2 rfl (Sep.dropAt 3 rfl (Sep.dropAt 2 rfl (Sep.dropAt 2 rfl hs))))))))⟩

noncomputable def fn_law20_plain (xa : (Int × Int × (List (Int × Int)) × (List (List (Int × Bool))) × (List (Int × Bool)) × (List (Int × (List (Int × Int)) × (List (List (Int × Bool))) × (List (Int × Bool)))) × (List ((List (Int × Int × Int × Int × Bool)) × (Int × Int × Int × (List Int) × (List Int) × (List Int)))))) : Option Bool :=
  (fn_ref20_Put (xa.1, xa.2.1, xa.2.2.1, xa.2.2.2.1, xa.2.2.2.2.1, xa.2.2.2.2.2.1, xa.2.2.2.2.2.2)).bind fun (s94, i95) => cond (!decide (i95 = 0)) (some (true)) ((fn_ref20_Take s94).bind fun (i102, i103, l104, l105, l106, l107, l108, i109) => (cond (decide (i109 = 0)) ((fn_ref20_Same (xa.1, xa.2.1, xa.2.2.1, xa.2.2.2.1, xa.2.2.2.2.1, xa.2.2.2.2.2.1, xa.2.2.2.2.2.2) (i102, i103, l104, l105, l106, l107, l108)).bind fun t176 => some (t176)) (some (false))).bind fun t156 => some (t156))
set_option maxRecDepth 100000 in
set_option maxHeartbeats 4000000 in
theorem law20_plain_ok {K : Hp} {xa : (Int × Int × (List (Int × Int)) × (List (List (Int × Bool))) × (List (Int × Bool)) × (List (Int × (List (Int × Int)) × (List (List (Int × Bool))) × (List (Int × Bool)))) × (List ((List (Int × Int × Int × Int × Bool)) × (Int × Int × Int × (List Int) × (List Int) × (List Int)))))} {adxa_2 : Option Addr} {cpxa_2 : Nat} {adxa_3 : Option Addr} {cpxa_3 : Nat} {adxa_4 : Option Addr} {cpxa_4 : Nat} {adxa_5 : Option Addr} {cpxa_5 : Nat} {adxa_6 : Option Addr} {cpxa_6 : Nat} (fxa_2 : Is K (.sl (.cons (.int .i64) (.one (.int .i64)))) [.slice adxa_2 xa.2.2.1.length cpxa_2] xa.2.2.1) (fxa_3 : Is K (.sl (.one (.sl (.cons (.int .i64) (.one .bool))))) [.slice adxa_3 xa.2.2.2.1.length cpxa_3] xa.2.2.2.1) (fxa_4 : Is K (.sl (.cons (.int .i64) (.one .bool))) [.slice adxa_4 xa.2.2.2.2.1.length cpxa_4] xa.2.2.2.2.1) (fxa_5 : Is K (.sl (.cons (.int .i64) (.cons (.sl (.cons (.int .i64) (.one (.int .i64)))) (.cons (.sl (.one (.sl (.cons (.int .i64) (.one .bool))))) (.one (.one (.sl (.cons (.int .i64) (.one .bool))))))))) [.slice adxa_5 xa.2.2.2.2.2.1.length cpxa_5] xa.2.2.2.2.2.1) (fxa_6 : Is K (.sl (.cons (.sl (.cons (.int .i64) (.cons (.int .i64) (.cons (.int .i64) (.cons (.int .i64) (.one .bool)))))) (.one (.cons (.int .i64) (.cons (.int .i64) (.cons (.int .i64) (.cons (.sl (.int .i64)) (.cons (.sl (.int .i64)) (.one (.sl (.int .i64))))))))))) [.slice adxa_6 xa.2.2.2.2.2.2.length cpxa_6] xa.2.2.2.2.2.2) {r : Bool} (h : fn_law20_plain xa = some r) :
    Tr Tryz.prog 14 #[.agg #[ii xa.1, ii xa.2.1, .slice adxa_2 xa.2.2.1.length cpxa_2, .slice adxa_3 xa.2.2.2.1.length cpxa_3, .slice adxa_4 xa.2.2.2.2.1.length cpxa_4, .slice adxa_5 xa.2.2.2.2.2.1.length cpxa_5, .slice adxa_6 xa.2.2.2.2.2.2.length cpxa_6]] K [] (fun v K' L' => (∃ (t90 : Bool), t90 = r ∧ .bool t90 = v ∧ L' = []) ∧ K = K') := by
 refine Tr.k <| Tr.of Tryz.func14 rfl Tryz.ntmps14 rfl fun E F => ?_
 unfold fn_law20_plain at h
 refine cr <| jbx [ii xa.1, ii xa.2.1, .slice adxa_2 xa.2.2.1.length cpxa_2, .slice adxa_3 xa.2.2.2.1.length cpxa_3, .slice adxa_4 xa.2.2.2.2.1.length cpxa_4, .slice adxa_5 xa.2.2.2.2.2.1.length cpxa_5, .slice adxa_6 xa.2.2.2.2.2.2.length cpxa_6] rfl rfl fun b91 => ja (.bool false) rfl <| J.nil <| CJ.seq <| CJ.region ?_
 refine jv (.agg #[ii xa.1, ii xa.2.1, .slice adxa_2 xa.2.2.1.length cpxa_2, .slice adxa_3 xa.2.2.2.1.length cpxa_3, .slice adxa_4 xa.2.2.2.2.1.length cpxa_4, .slice adxa_5 xa.2.2.2.2.2.1.length cpxa_5, .slice adxa_6 xa.2.2.2.2.2.2.length cpxa_6]) (V.ld rfl (Ld.agg (cs := [ii xa.1, ii xa.2.1, .slice adxa_2 xa.2.2.1.length cpxa_2, .slice adxa_3 xa.2.2.2.1.length cpxa_3, .slice adxa_4 xa.2.2.2.2.1.length cpxa_4, .slice adxa_5 xa.2.2.2.2.2.1.length cpxa_5, .slice adxa_6 xa.2.2.2.2.2.2.length cpxa_6]) Tryz.underlying34 sz34 rfl (Rd.cls 0 0 rfl rfl))) ?_
 obtain ⟨r92, hr93, h⟩ := ob h
 refine J.op rfl (A.call (L1 := []) Tryz.call60 rfl (ref20_Put_ok fxa_2 fxa_3 fxa_4 fxa_5 fxa_6 hr93) rfl rfl) ?_
 rintro _ _ _ ⟨v96, _, rfl, ⟨⟨s94, i95, rfl, rfl, rfl⟩, rfl⟩, _, rfl⟩
 refine jm (.tuple #[.string ⟨s94.toArray⟩, ii i95]) rfl <| jx (.string ⟨s94.toArray⟩) rfl rfl <| jx (ii i95) rfl rfl <| ja (.string ⟨s94.toArray⟩) rfl <| ja (ii i95) rfl <| J.nil <| CJ.seq ?_
 refine cr <| jm (ii i95) rfl <| jv (.bool (!decide (i95 = 0))) (V.neq rfl rfl) <| J.nil <| cc rfl h (fun hc99 h => ?_) fun hc99 h => ?_
 · refine cr <| ja (.bool true) rfl <| J.nil <| CJ.ret ?_
   obtain rfl := si h
   exact ⟨_, _, Res.one rfl rfl, ⟨true, rfl, rfl, rfl⟩, (Hp.le_refl _), fun w hs => (Sep.dropAt 0 rfl hs)⟩
 refine CJ.skip <| cr <| jm (.string ⟨s94.toArray⟩) rfl ?_
 obtain ⟨r100, hr101, h⟩ := ob h
 refine J.op rfl (A.call (L1 := []) Tryz.call7 rfl (ref20_Take_ok hr101) rfl rfl) ?_
 rintro _ K126 _ ⟨v125, _, rfl, ⟨i102, i103, l104, l105, l106, l107, l108, i109, ad110, cp111, ad112, cp113, ad114, cp115, ad116, cp117, ad118, cp119, rfl, rfl, rfl⟩, hK127, rfl⟩
 refine J.wit Row.hn fun hn120 => J.front 1 rfl <| J.wit Row.hn fun hn121 => J.front 2 rfl <| J.wit Row.hn fun hn122 => J.front 3 rfl <| J.wit Row.hn fun hn123 => ?_
 refine J.front 4 rfl <| J.wit Row.hn fun hn124 => jm (.tuple #[.agg #[ii i102, ii i103, .slice ad110 l104.length cp111, .slice ad112 l105.length cp113, .slice ad114 l106.length cp115, .slice ad116 l107.length cp117, .slice ad118 l108.length cp119], ii i109]) rfl <| jx (.agg #[ii i102, ii i103, .slice ad110 l104.length cp111, .slice ad112 l105.length cp113, .slice ad114 l106.length cp115, .slice ad116 l107.length cp117, .slice ad118 l108.length cp119]) rfl rfl <| jx (ii i109) rfl rfl <| jal inf34 [ii 0, ii 0, nos, nos, nos, nos, nos] rfl fun b133 => js [ii i102, ii i103, .slice ad110 l104.length cp111, .slice ad112 l105.length cp113, .slice ad114 l106.length cp115, .slice ad116 l107.length cp117, .slice ad118 l108.length cp119] sz34 rfl rfl rfl rfl rfl rfl ?_
 refine ja (ii i109) rfl <| J.nil <| cr <| jm (ii i109) rfl <| jv (.bool (decide (i109 = 0))) (V.eql rfl rfl) <| jm (.bool (decide (i109 = 0))) rfl ?_
 refine J.cut 4 ?_
 obtain ⟨t156, ht157, h⟩ := ob h
 refine jmeet [(25, .bool t156)] ?_ ?_
 · rcases bt (decide (i109 = 0)) with hc158 | hc158
   · have ht157 := ct hc158 ht157
     refine J.run rfl rfl rfl hc158 <| jv (.agg #[ii xa.1, ii xa.2.1, .slice adxa_2 xa.2.2.1.length cpxa_2, .slice adxa_3 xa.2.2.2.1.length cpxa_3, .slice adxa_4 xa.2.2.2.2.1.length cpxa_4, .slice adxa_5 xa.2.2.2.2.2.1.length cpxa_5, .slice adxa_6 xa.2.2.2.2.2.2.length cpxa_6]) (V.ld rfl (Ld.agg (cs := [ii xa.1, ii xa.2.1, .slice adxa_2 xa.2.2.1.length cpxa_2, .slice adxa_3 xa.2.2.2.1.length cpxa_3, .slice adxa_4 xa.2.2.2.2.1.length cpxa_4, .slice adxa_5 xa.2.2.2.2.2.1.length cpxa_5, .slice adxa_6 xa.2.2.2.2.2.2.length cpxa_6]) Tryz.underlying34 sz34 rfl (Rd.cls 6 0 rfl rfl))) <| J.run rfl rfl rfl hc158 <| jv (.agg #[ii i102, ii i103, .slice ad110 l104.length cp111, .slice ad112 l105.length cp113, .slice ad114 l106.length cp115, .slice ad116 l107.length cp117, .slice ad118 l108.length cp119]) (V.ld rfl (Ld.agg (cs := [ii i102, ii i103, .slice ad110 l104.length cp111, .slice ad112 l105.length cp113, .slice ad114 l106.length cp115, .slice ad116 l107.length cp117, .slice ad118 l108.length cp119]) Tryz.underlying34 sz34 rfl (Rd.cls 0 0 rfl rfl))) <| J.run rfl rfl rfl hc158 ?_
     obtain ⟨r159, hr160, ht157⟩ := ob ht157
     refine J.front 1 rfl <| J.front 2 rfl <| J.front 3 rfl <| J.front 4 rfl <| J.front 5 rfl <| J.op rfl (A.call (L1 := [Row Hp.nil 95 (.cons (.int .i64) (.one (.int .i64))) (.slice ad110 l104.length cp111) l104, Row K126 30 (.one (.sl (.cons (.int .i64) (.one .bool)))) (.slice ad112 l105.length cp113) l105, Row Hp.nil 146 (.cons (.int .i64) (.one .bool)) (.slice ad114 l106.length cp115) l106, Row K126 63 (.cons (.int .i64) (.cons (.sl (.cons (.int .i64) (.one (.int .i64)))) (.cons (.sl (.one (.sl (.cons (.int .i64) (.one .bool))))) (.one (.one (.sl (.cons (.int .i64) (.one .bool)))))))) (.slice ad116 l107.length cp117) l107, Row K126 70 (.cons (.sl (.cons (.int .i64) (.cons (.int .i64) (.cons (.int .i64) (.cons (.int .i64) (.one .bool)))))) (.one (.cons (.int .i64) (.cons (.int .i64) (.cons (.int .i64) (.cons (.sl (.int .i64)) (.cons (.sl (.int .i64)) (.one (.sl (.int .i64)))))))))) (.slice ad118 l108.length cp119) l108]) Tryz.call8 rfl (Tr.lend (Hp.nil_le _) (by decide) (fun K161 hK162 f163 => Tr.lend (Hp.le.trans (Hp.le_refl _) hK162) (by decide) (fun K164 hK165 f166 => Tr.lend (Hp.nil_le _) (by decide) (fun K167 hK168 f169 => Tr.lend (Hp.le.trans (Hp.le.trans (Hp.le.trans (Hp.le_refl _) hK162) hK165) hK168) (by decide) (fun K170 hK171 f172 => Tr.lend (Hp.le.trans (Hp.le.trans (Hp.le.trans (Hp.le.trans (Hp.le_refl _) hK162) hK165) hK168) hK171) (by decide) (fun K173 hK174 f175 => ref20_Same_ok ((((((fxa_2.mono hK127).mono hK162).mono hK165).mono hK168).mono hK171).mono hK174) ((((((fxa_3.mono hK127).mono hK162).mono hK165).mono hK168).mono hK171).mono hK174) ((((((fxa_4.mono hK127).mono hK162).mono hK165).mono hK168).mono hK171).mono hK174) ((((((fxa_5.mono hK127).mono hK162).mono hK165).mono hK168).mono hK171).mono hK174) ((((((fxa_6.mono hK127).mono hK162).mono hK165).mono hK168).mono hK171).mono hK174) ((((f163.mono hK165).mono hK168).mono hK171).mono hK174) (((f166.mono hK168).mono hK171).mono hK174) ((f169.mono hK171).mono hK174) (f172.mono hK174) f175 hr160)))))) rfl rfl) ?_
     rintro _ _ _ ⟨v177, _, rfl, ⟨⟨_, ⟨_, ⟨_, ⟨_, ⟨_, ⟨t176, rfl, rfl, rfl⟩, rfl⟩, rfl⟩, rfl⟩, rfl⟩, rfl⟩, rfl⟩, _, rfl⟩
     refine jv (.bool t176) (V.pickT rfl hc158 rfl) <| J.front 6 rfl <| J.front 1 rfl <| J.front 2 rfl <| J.front 3 rfl <| J.front 4 rfl <| J.front 5 rfl ?_
     refine J.front 6 rfl <| J.nil ?_
     obtain rfl := si ht157
     exact ⟨rfl, ⟨rfl, trivial⟩, rfl, rfl⟩
   have ht157 := cf hc158 ht157
   refine J.skip rfl rfl rfl rfl hc158 <| J.skip rfl rfl rfl rfl hc158 <| J.skip rfl rfl rfl rfl hc158 <| jv (.bool false) (V.pickF rfl hc158 rfl) <| J.nil ?_
   obtain rfl := si ht157
   exact ⟨rfl, ⟨rfl, trivial⟩, rfl, rfl⟩
 intro ρ
 refine ja (.bool t156) rfl <| J.nil <| CJ.ret ?_
 obtain rfl := si h
 exact ⟨_, _, Res.one rfl rfl, ⟨t156, rfl, rfl, rfl⟩, hK127, fun w hs => (Sep.dropAt 0 rfl (Sep.dropAt 0 rfl (Sep.dropAt 0 rfl (Sep.dropAt 0 rfl (Sep.dropAt 0 rfl (Sep.dropAt 0 rfl (Sep.dropAt 0 rfl hs)))))))⟩

noncomputable def fn_law20_BodyBack (xa : (Int × Int × (List (Int × Int)) × (List (List (Int × Bool))) × (List (Int × Bool)) × (List (Int × (List (Int × Int)) × (List (List (Int × Bool))) × (List (Int × Bool)))) × (List ((List (Int × Int × Int × Int × Bool)) × (Int × Int × Int × (List Int) × (List Int) × (List Int)))))) (xb : (Int × Int × (List (Int × Int)) × (List (List (Int × Bool))) × (List (Int × Bool)) × (List (Int × (List (Int × Int)) × (List (List (Int × Bool))) × (List (Int × Bool)))) × (List ((List (Int × Int × Int × Int × Bool)) × (Int × Int × Int × (List Int) × (List Int) × (List Int)))))) (xc : (List UInt8)) (xd : Int) : Option Bool :=
  (fn_ref20_Small (xa.1, xa.2.1, xa.2.2.1, xa.2.2.2.1, xa.2.2.2.2.1, xa.2.2.2.2.2.1, xa.2.2.2.2.2.2)).bind fun t403 => (cond (!t403) (some (true)) ((fn_ref20_Small (xb.1, xb.2.1, xb.2.2.1, xb.2.2.2.1, xb.2.2.2.2.1, xb.2.2.2.2.2.1, xb.2.2.2.2.2.2)).bind fun t419 => some (!t419))).bind fun t414 => cond (t414 || (decide (500 < (((xc.length : Nat) : Int))))) ((fn_law20_awake).bind fun t429 => some (t429)) ((fn_body_Take_sz xc).bind fun (i435, i436, l437, l438, l439, l440, l441, i442) => (cond (decide (i442 = 0)) ((fn_body_Put (i435, i436, l437, l438, l439, l440, l441)).bind fun (s556, i557) => cond ((!decide (s556 = xc)) || (!decide (i557 = 0))) (some (.inr (false))) (cond ((decide (0 ≤ xd)) && (decide (xd < (((xc.length : Nat) : Int))))) ((subL xc 0 xd).bind fun y569 => (fn_body_Take_sz y569).bind fun (i573, i574, l575, l576, l577, l578, l579, i580) => cond (decide (i580 = 0)) (some (.inr (false))) (some (.inl ()))) (some (.inl ())))) (some (.inl ())) : Option (Unit ⊕ Bool)).bind fun o => match o with | .inr r => some r | .inl () => (fn_law20_plain (xa.1, xa.2.1, xa.2.2.1, xa.2.2.2.1, xa.2.2.2.2.1, xa.2.2.2.2.2.1, xa.2.2.2.2.2.2)).bind fun t611 => (cond (!t611) (some (true)) ((fn_law20_plain (xb.1, xb.2.1, xb.2.2.1, xb.2.2.2.1, xb.2.2.2.2.1, xb.2.2.2.2.2.1, xb.2.2.2.2.2.2)).bind fun t627 => some (!t627))).bind fun t622 => cond (t622) ((fn_law20_awake).bind fun t634 => some (t634)) ((fn_body_Put (xa.1, xa.2.1, xa.2.2.1, xa.2.2.2.1, xa.2.2.2.2.1, xa.2.2.2.2.2.1, xa.2.2.2.2.2.2)).bind fun (s640, i641) => (fn_body_Put (xb.1, xb.2.1, xb.2.2.1, xb.2.2.2.1, xb.2.2.2.2.1, xb.2.2.2.2.2.1, xb.2.2.2.2.2.2)).bind fun (s647, i648) => cond ((!decide (i641 = 0)) || (!decide (i648 = 0))) ((cond (((decide (s640 = ([] : List UInt8))) || (decide (i641 = 0))) && ((decide (s647 = ([] : List UInt8))) || (decide (i648 = 0)))) ((fn_law20_awake).bind fun t680 => some (t680)) (some (false))).bind fun t675 => some (t675)) ((fn_body_Take_sz s640).bind fun (i686, i687, l688, l689, l690, l691, l692, i693) => (cond (decide (i693 = 0)) ((fn_ref20_Same (i686, i687, l688, l689, l690, l691, l692) (xa.1, xa.2.1, xa.2.2.1, xa.2.2.2.1, xa.2.2.2.2.1, xa.2.2.2.2.2.1, xa.2.2.2.2.2.2)).bind fun t760 => some (t760)) (some (false))).bind fun t740 => (cond (t740) ((fn_ref20_Same (xa.1, xa.2.1, xa.2.2.1, xa.2.2.2.1, xa.2.2.2.2.1, xa.2.2.2.2.2.1, xa.2.2.2.2.2.2) (xb.1, xb.2.1, xb.2.2.1, xb.2.2.2.1, xb.2.2.2.2.1, xb.2.2.2.2.2.1, xb.2.2.2.2.2.2)).bind fun t776 => some ((decide (s640 = s647)) == t776)) (some (false))).bind fun t771 => (cond (t771) ((fn_law20_awake).bind fun t792 => some (t792)) (some (false))).bind fun t787 => some (t787))))
set_option maxRecDepth 100000 in
set_option maxHeartbeats 4000000 in
theorem law20_BodyBack_ok {K : Hp} {xa : (Int × Int × (List (Int × Int)) × (List (List (Int × Bool))) × (List (Int × Bool)) × (List (Int × (List (Int × Int)) × (List (List (Int × Bool))) × (List (Int × Bool)))) × (List ((List (Int × Int × Int × Int × Bool)) × (Int × Int × Int × (List Int) × (List Int) × (List Int)))))} {xb : (Int × Int × (List (Int × Int)) × (List (List (Int × Bool))) × (List (Int × Bool)) × (List (Int × (List (Int × Int)) × (List (List (Int × Bool))) × (List (Int × Bool)))) × (List ((List (Int × Int × Int × Int × Bool)) × (Int × Int × Int × (List Int) × (List Int) × (List Int)))))} {xc : (List UInt8)} {xd : Int} {adxa_2 : Option Addr} {cpxa_2 : Nat} {adxa_3 : Option Addr} {cpxa_3 : Nat} {adxa_4 : Option Addr} {cpxa_4 : Nat} {adxa_5 : Option Addr} {cpxa_5 : Nat} {adxa_6 : Option Addr} {cpxa_6 : Nat} {adxb_2 : Option Addr} {cpxb_2 : Nat} {adxb_3 : Option Addr} {cpxb_3 : Nat} {adxb_4 : Option Addr} {cpxb_4 : Nat} {adxb_5 : Option Addr} {cpxb_5 : Nat} {adxb_6 : Option Addr} {cpxb_6 : Nat} (fxa_2 : Is K (.sl (.cons (.int .i64) (.one (.int .i64)))) [.slice adxa_2 xa.2.2.1.length cpxa_2] xa.2.2.1) (fxa_3 : Is K (.sl (.one (.sl (.cons (.int .i64) (.one .bool))))) [.slice adxa_3 xa.2.2.2.1.length cpxa_3] xa.2.2.2.1) (fxa_4 : Is K (.sl (.cons (.int .i64) (.one .bool))) [.slice adxa_4 xa.2.2.2.2.1.length cpxa_4] xa.2.2.2.2.1) (fxa_5 : Is K (.sl (.cons (.int .i64) (.cons (.sl (.cons (.int .i64) (.one (.int .i64)))) (.cons (.sl (.one (.sl (.cons (.int .i64) (.one .bool))))) (.one (.one (.sl (.cons (.int .i64) (.one .bool))))))))) [.slice adxa_5 xa.2.2.2.2.2.1.length cpxa_5] xa.2.2.2.2.2.1) (fxa_6 : Is K (.sl (.cons (.sl (.cons (.int .i64) (.cons (.int .i64) (.cons (.int .i64) (.cons (.int .i64) (.one .bool)))))) (.one (.cons (.int .i64) (.cons (.int .i64) (.cons (.int .i64) (.cons (.sl (.int .i64)) (.cons (.sl (.int .i64)) (.one (.sl (.int .i64))))))))))) [.slice adxa_6 xa.2.2.2.2.2.2.length cpxa_6] xa.2.2.2.2.2.2) (fxb_2 : Is K (.sl (.cons (.int .i64) (.one (.int .i64)))) [.slice adxb_2 xb.2.2.1.length cpxb_2] xb.2.2.1) (fxb_3 : Is K (.sl (.one (.sl (.cons (.int .i64) (.one .bool))))) [.slice adxb_3 xb.2.2.2.1.length cpxb_3] xb.2.2.2.1) (fxb_4 : Is K (.sl (.cons (.int .i64) (.one .bool))) [.slice adxb_4 xb.2.2.2.2.1.length cpxb_4] xb.2.2.2.2.1) (fxb_5 : Is K (.sl (.cons (.int .i64) (.cons (.sl (.cons (.int .i64) (.one (.int .i64)))) (.cons (.sl (.one (.sl (.cons (.int .i64) (.one .bool))))) (.one (.one (.sl (.cons (.int .i64) (.one .bool))))))))) [.slice adxb_5 xb.2.2.2.2.2.1.length cpxb_5] xb.2.2.2.2.2.1) (fxb_6 : Is K (.sl (.cons (.sl (.cons (.int .i64) (.cons (.int .i64) (.cons (.int .i64) (.cons (.int .i64) (.one .bool)))))) (.one (.cons (.int .i64) (.cons (.int .i64) (.cons (.int .i64) (.cons (.sl (.int .i64)) (.cons (.sl (.int .i64)) (.one (.sl (.int .i64))))))))))) [.slice adxb_6 xb.2.2.2.2.2.2.length cpxb_6] xb.2.2.2.2.2.2) {r : Bool} (h : fn_law20_BodyBack xa xb xc xd = some r) :
    Tr Tryz.prog 4 #[.agg #[ii xa.1, ii xa.2.1, .slice adxa_2 xa.2.2.1.length cpxa_2, .slice adxa_3 xa.2.2.2.1.length cpxa_3, .slice adxa_4 xa.2.2.2.2.1.length cpxa_4, .slice adxa_5 xa.2.2.2.2.2.1.length cpxa_5, .slice adxa_6 xa.2.2.2.2.2.2.length cpxa_6], .agg #[ii xb.1, ii xb.2.1, .slice adxb_2 xb.2.2.1.length cpxb_2, .slice adxb_3 xb.2.2.2.1.length cpxb_3, .slice adxb_4 xb.2.2.2.2.1.length cpxb_4, .slice adxb_5 xb.2.2.2.2.2.1.length cpxb_5, .slice adxb_6 xb.2.2.2.2.2.2.length cpxb_6], .string ⟨xc.toArray⟩, ii xd] K [] (fun v K' L' => (∃ (t398 : Bool), t398 = r ∧ .bool t398 = v ∧ L' = []) ∧ K = K') := by
 refine Tr.k <| Tr.of Tryz.func4 rfl Tryz.ntmps4 rfl fun E F => ?_
 unfold fn_law20_BodyBack at h
 refine cr <| jbx [ii xa.1, ii xa.2.1, .slice adxa_2 xa.2.2.1.length cpxa_2, .slice adxa_3 xa.2.2.2.1.length cpxa_3, .slice adxa_4 xa.2.2.2.2.1.length cpxa_4, .slice adxa_5 xa.2.2.2.2.2.1.length cpxa_5, .slice adxa_6 xa.2.2.2.2.2.2.length cpxa_6] rfl rfl fun b399 => jbx [ii xb.1, ii xb.2.1, .slice adxb_2 xb.2.2.1.length cpxb_2, .slice adxb_3 xb.2.2.2.1.length cpxb_3, .slice adxb_4 xb.2.2.2.2.1.length cpxb_4, .slice adxb_5 xb.2.2.2.2.2.1.length cpxb_5, .slice adxb_6 xb.2.2.2.2.2.2.length cpxb_6] rfl rfl fun b400 => ja (.bool false) rfl <| J.nil <| CJ.seq ?_
 refine cr <| jv (.agg #[ii xa.1, ii xa.2.1, .slice adxa_2 xa.2.2.1.length cpxa_2, .slice adxa_3 xa.2.2.2.1.length cpxa_3, .slice adxa_4 xa.2.2.2.2.1.length cpxa_4, .slice adxa_5 xa.2.2.2.2.2.1.length cpxa_5, .slice adxa_6 xa.2.2.2.2.2.2.length cpxa_6]) (V.ld rfl (Ld.agg (cs := [ii xa.1, ii xa.2.1, .slice adxa_2 xa.2.2.1.length cpxa_2, .slice adxa_3 xa.2.2.2.1.length cpxa_3, .slice adxa_4 xa.2.2.2.2.1.length cpxa_4, .slice adxa_5 xa.2.2.2.2.2.1.length cpxa_5, .slice adxa_6 xa.2.2.2.2.2.2.length cpxa_6]) Tryz.underlying34 sz34 rfl (Rd.cls 1 0 rfl rfl))) ?_
 obtain ⟨r401, hr402, h⟩ := ob h
 refine J.op rfl (A.call (L1 := []) Tryz.call12 rfl (ref20_Small_ok fxa_2 fxa_3 fxa_4 fxa_5 fxa_6 hr402) rfl rfl) ?_
 rintro _ _ _ ⟨v404, _, rfl, ⟨⟨t403, rfl, rfl, rfl⟩, rfl⟩, _, rfl⟩
 refine jv (.bool (!t403)) (V.not rfl) <| jm (.bool (!t403)) rfl <| J.cut 4 ?_
 obtain ⟨t414, ht415, h⟩ := ob h
 refine jmeet [(28, .bool t414), (2, .string ⟨xc.toArray⟩), (3, ii xd), (4, .pointer (some ⟨b399, 0, none⟩)), (5, .pointer (some ⟨b400, 0, none⟩))] ?_ ?_
 · rcases bt (!t403) with hc416 | hc416
   · have ht415 := ct hc416 ht415
     refine J.skip rfl rfl rfl rfl hc416 <| J.skip rfl rfl rfl rfl hc416 <| J.skip rfl rfl rfl rfl hc416 <| jv (.bool true) (V.pickT rfl hc416 rfl) <| J.nil ?_
     obtain rfl := si ht415
     exact ⟨rfl, ⟨rfl, rfl, rfl, rfl, rfl, trivial⟩, rfl, rfl⟩
   have ht415 := cf hc416 ht415
   refine J.run rfl rfl rfl hc416 <| jv (.agg #[ii xb.1, ii xb.2.1, .slice adxb_2 xb.2.2.1.length cpxb_2, .slice adxb_3 xb.2.2.2.1.length cpxb_3, .slice adxb_4 xb.2.2.2.2.1.length cpxb_4, .slice adxb_5 xb.2.2.2.2.2.1.length cpxb_5, .slice adxb_6 xb.2.2.2.2.2.2.length cpxb_6]) (V.ld rfl (Ld.agg (cs := [ii xb.1, ii xb.2.1, .slice adxb_2 xb.2.2.1.length cpxb_2, .slice adxb_3 xb.2.2.2.1.length cpxb_3, .slice adxb_4 xb.2.2.2.2.1.length cpxb_4, .slice adxb_5 xb.2.2.2.2.2.1.length cpxb_5, .slice adxb_6 xb.2.2.2.2.2.2.length cpxb_6]) Tryz.underlying34 sz34 rfl (Rd.cls 0 0 rfl rfl))) <| J.run rfl rfl rfl hc416 ?_
   obtain ⟨r417, hr418, ht415⟩ := ob ht415
   refine J.op rfl (A.call (L1 := []) Tryz.call12 rfl (ref20_Small_ok fxb_2 fxb_3 fxb_4 fxb_5 fxb_6 hr418) rfl rfl) ?_
   rintro _ _ _ ⟨v420, _, rfl, ⟨⟨t419, rfl, rfl, rfl⟩, rfl⟩, _, rfl⟩
   refine J.run rfl rfl rfl hc416 <| jv (.bool (!t419)) (V.not rfl) <| jv (.bool (!t419)) (V.pickF rfl hc416 rfl) <| J.nil ?_
   obtain rfl := si ht415
   exact ⟨rfl, ⟨rfl, rfl, rfl, rfl, rfl, trivial⟩, rfl, rfl⟩
 intro ρ
 refine jm (.bool t414) rfl <| J.cut 4 <| jmeet [(33, .bool (t414 || (decide (500 < (((xc.length : Nat) : Int)))))), (2, .string ⟨xc.toArray⟩), (3, ii xd), (4, .pointer (some ⟨b399, 0, none⟩)), (5, .pointer (some ⟨b400, 0, none⟩))] ?_ ?_
 · rcases bt (t414) with hc425 | hc425
   · refine J.skip rfl rfl rfl rfl hc425 <| J.skip rfl rfl rfl rfl hc425 <| J.skip rfl rfl rfl rfl hc425 <| jv (.bool true) (V.pickT rfl hc425 rfl) <| J.nil ?_
     exact ⟨rfl, ⟨(by simp only [hc425]; rfl), rfl, rfl, rfl, rfl, trivial⟩, rfl, rfl⟩
   refine J.run rfl rfl rfl hc425 <| jm (.string ⟨xc.toArray⟩) rfl <| J.run rfl rfl rfl hc425 <| jv (ii (((xc.length : Nat) : Int))) (V.lens Tryz.underlying9 rfl) <| J.run rfl rfl rfl hc425 <| jv (.bool (decide (500 < (((xc.length : Nat) : Int))))) (V.gtr rfl rfl) <| jv (.bool (decide (500 < (((xc.length : Nat) : Int))))) (V.pickF rfl hc425 rfl) ?_
   refine J.nil ?_
   exact ⟨rfl, ⟨(by simp only [hc425]; rfl), rfl, rfl, rfl, rfl, trivial⟩, rfl, rfl⟩
 intro ρ
 refine J.nil <| cc rfl h (fun hc426 h => ?_) fun hc426 h => ?_
 · refine CJ.seq <| CJ.region ?_
   obtain ⟨r427, hr428, h⟩ := ob h
   refine J.op rfl (A.call (L1 := []) Tryz.call5 rfl (law20_awake_ok hr428) rfl rfl) ?_
   rintro _ _ _ ⟨v430, _, rfl, ⟨⟨t429, rfl, rfl, rfl⟩, rfl⟩, _, rfl⟩
   refine ja (.bool t429) rfl <| J.nil <| CJ.ret ?_
   obtain rfl := si h
   exact ⟨_, _, Res.one rfl rfl, ⟨t429, rfl, rfl, rfl⟩, (Hp.le_refl _), fun w hs => (Sep.dropAt 0 rfl (Sep.dropAt 0 rfl hs))⟩
 refine CJ.skip <| cr <| jm (.string ⟨xc.toArray⟩) rfl ?_
 obtain ⟨r433, hr434, h⟩ := ob h
 refine J.op rfl (A.call (L1 := []) Tryz.call6 rfl (body_Take_sz_ok hr434) rfl rfl) ?_
 rintro _ K459 _ ⟨v458, _, rfl, ⟨i435, i436, l437, l438, l439, l440, l441, i442, ad443, cp444, ad445, cp446, ad447, cp448, ad449, cp450, ad451, cp452, rfl, rfl, rfl⟩, hK460, rfl⟩
 refine J.wit Row.hn fun hn453 => J.front 1 rfl <| J.wit Row.hn fun hn454 => J.front 2 rfl <| J.wit Row.hn fun hn455 => J.front 3 rfl <| J.wit Row.hn fun hn456 => ?_
 refine J.front 4 rfl <| J.wit Row.hn fun hn457 => jm (.tuple #[.agg #[ii i435, ii i436, .slice ad443 l437.length cp444, .slice ad445 l438.length cp446, .slice ad447 l439.length cp448, .slice ad449 l440.length cp450, .slice ad451 l441.length cp452], ii i442]) rfl <| jx (.agg #[ii i435, ii i436, .slice ad443 l437.length cp444, .slice ad445 l438.length cp446, .slice ad447 l439.length cp448, .slice ad449 l440.length cp450, .slice ad451 l441.length cp452]) rfl rfl <| jx (ii i442) rfl rfl <| jal inf34 [ii 0, ii 0, nos, nos, nos, nos, nos] rfl fun b466 => js [ii i435, ii i436, .slice ad443 l437.length cp444, .slice ad445 l438.length cp446, .slice ad447 l439.length cp448, .slice ad449 l440.length cp450, .slice ad451 l441.length cp452] sz34 rfl rfl rfl rfl rfl rfl ?_
 refine ja (ii i442) rfl <| J.nil <| CJ.seq ?_
 obtain ⟨o536, ho537, h⟩ := ob h
 refine CJ.joinN (o := o536) (fun s ρ K' L' => () = s ∧ Fits [(4, .pointer (some ⟨b399, 0, none⟩)), (5, .pointer (some ⟨b400, 0, none⟩))] ρ ∧ Hp.le K459 K' ∧ L' = Cl b399 34 [ii xa.1, ii xa.2.1, .slice adxa_2 xa.2.2.1.length cpxa_2, .slice adxa_3 xa.2.2.2.1.length cpxa_3, .slice adxa_4 xa.2.2.2.2.1.length cpxa_4, .slice adxa_5 xa.2.2.2.2.2.1.length cpxa_5, .slice adxa_6 xa.2.2.2.2.2.2.length cpxa_6] :: Cl b400 34 [ii xb.1, ii xb.2.1, .slice adxb_2 xb.2.2.1.length cpxb_2, .slice adxb_3 xb.2.2.2.1.length cpxb_3, .slice adxb_4 xb.2.2.2.2.1.length cpxb_4, .slice adxb_5 xb.2.2.2.2.2.1.length cpxb_5, .slice adxb_6 xb.2.2.2.2.2.2.length cpxb_6] :: F) ?_ ?_
 · refine cr <| jm (ii i442) rfl <| jv (.bool (decide (i442 = 0))) (V.eql rfl rfl) <| J.nil <| cc rfl ho537 (fun hc538 ho537 => ?_) fun hc538 ho537 => ?_
   · refine cr <| jv (.agg #[ii i435, ii i436, .slice ad443 l437.length cp444, .slice ad445 l438.length cp446, .slice ad447 l439.length cp448, .slice ad449 l440.length cp450, .slice ad451 l441.length cp452]) (V.ld rfl (Ld.agg (cs := [ii i435, ii i436, .slice ad443 l437.length cp444, .slice ad445 l438.length cp446, .slice ad447 l439.length cp448, .slice ad449 l440.length cp450, .slice ad451 l441.length cp452]) Tryz.underlying34 sz34 rfl (Rd.cls 0 0 rfl rfl))) ?_
     obtain ⟨r539, hr540, ho537⟩ := ob ho537
     refine J.front 1 rfl <| J.front 2 rfl <| J.front 3 rfl <| J.front 4 rfl <| J.front 5 rfl <| J.op rfl (A.call (L1 := [Row Hp.nil 95 (.cons (.int .i64) (.one (.int .i64))) (.slice ad443 l437.length cp444) l437, Row K459 30 (.one (.sl (.cons (.int .i64) (.one .bool)))) (.slice ad445 l438.length cp446) l438, Row Hp.nil 146 (.cons (.int .i64) (.one .bool)) (.slice ad447 l439.length cp448) l439, Row K459 63 (.cons (.int .i64) (.cons (.sl (.cons (.int .i64) (.one (.int .i64)))) (.cons (.sl (.one (.sl (.cons (.int .i64) (.one .bool))))) (.one (.one (.sl (.cons (.int .i64) (.one .bool)))))))) (.slice ad449 l440.length cp450) l440, Row K459 70 (.cons (.sl (.cons (.int .i64) (.cons (.int .i64) (.cons (.int .i64) (.cons (.int .i64) (.one .bool)))))) (.one (.cons (.int .i64) (.cons (.int .i64) (.cons (.int .i64) (.cons (.sl (.int .i64)) (.cons (.sl (.int .i64)) (.one (.sl (.int .i64)))))))))) (.slice ad451 l441.length cp452) l441]) Tryz.call13 rfl (Tr.lend (Hp.nil_le _) (by decide) (fun K541 hK542 f543 => Tr.lend (Hp.le.trans (Hp.le_refl _) hK542) (by decide) (fun K544 hK545 f546 => Tr.lend (Hp.nil_le _) (by decide) (fun K547 hK548 f549 => Tr.lend (Hp.le.trans (Hp.le.trans (Hp.le.trans (Hp.le_refl _) hK542) hK545) hK548) (by decide) (fun K550 hK551 f552 => Tr.lend (Hp.le.trans (Hp.le.trans (Hp.le.trans (Hp.le.trans (Hp.le_refl _) hK542) hK545) hK548) hK551) (by decide) (fun K553 hK554 f555 => body_Put_ok ((((f543.mono hK545).mono hK548).mono hK551).mono hK554) (((f546.mono hK548).mono hK551).mono hK554) ((f549.mono hK551).mono hK554) (f552.mono hK554) f555 hr540)))))) rfl rfl) ?_
     rintro _ _ _ ⟨v558, _, rfl, ⟨⟨_, ⟨_, ⟨_, ⟨_, ⟨_, ⟨s556, i557, rfl, rfl, rfl⟩, rfl⟩, rfl⟩, rfl⟩, rfl⟩, rfl⟩, rfl⟩, _, rfl⟩
     refine jm (.tuple #[.string ⟨s556.toArray⟩, ii i557]) rfl <| jx (.string ⟨s556.toArray⟩) rfl rfl <| jx (ii i557) rfl rfl <| ja (.string ⟨s556.toArray⟩) rfl <| ja (ii i557) rfl <| J.nil <| CJ.seq ?_
     refine cr <| jm (.string ⟨s556.toArray⟩) rfl <| jm (.string ⟨xc.toArray⟩) rfl <| jv (.bool (!decide (s556 = xc))) (V.nes rfl rfl) <| jm (.bool (!decide (s556 = xc))) rfl <| J.cut 3 ?_
     refine jmeet [(53, .bool ((!decide (s556 = xc)) || (!decide (i557 = 0)))), (2, .string ⟨xc.toArray⟩), (3, ii xd), (4, .pointer (some ⟨b399, 0, none⟩)), (5, .pointer (some ⟨b400, 0, none⟩))] ?_ ?_
     · rcases bt (!decide (s556 = xc)) with hc563 | hc563
       · refine J.skip rfl rfl rfl rfl hc563 <| J.skip rfl rfl rfl rfl hc563 <| jv (.bool true) (V.pickT rfl hc563 rfl) <| J.nil ?_
         exact ⟨rfl, ⟨(by simp only [hc563]; rfl), rfl, rfl, rfl, rfl, trivial⟩, rfl, rfl⟩
       refine J.run rfl rfl rfl hc563 <| jm (ii i557) rfl <| J.run rfl rfl rfl hc563 <| jv (.bool (!decide (i557 = 0))) (V.neq rfl rfl) <| jv (.bool (!decide (i557 = 0))) (V.pickF rfl hc563 rfl) <| J.nil ?_
       exact ⟨rfl, ⟨(by simp only [hc563]; rfl), rfl, rfl, rfl, rfl, trivial⟩, rfl, rfl⟩
     intro ρ
     refine J.nil <| cc rfl ho537 (fun hc564 ho537 => ?_) fun hc564 ho537 => ?_
     · refine cr <| ja (.bool false) rfl <| J.nil <| CJ.ret ?_
       obtain rfl := si ho537
       refine .inr ⟨nofun, ?_⟩
       obtain rfl := si h
       exact ⟨_, _, Res.one rfl rfl, ⟨false, rfl, rfl, rfl⟩, hK460, fun w hs => (Sep.dropAt 0 rfl (Sep.dropAt 0 rfl (Sep.dropAt 0 rfl (Sep.dropAt 0 rfl (Sep.dropAt 0 rfl (Sep.dropAt 0 rfl (Sep.dropAt 0 rfl (Sep.dropAt 0 rfl hs))))))))⟩
     refine CJ.skip <| cr <| jm (ii xd) rfl <| jv (.bool (decide (0 ≤ xd))) (V.geq rfl rfl) <| jm (.bool (decide (0 ≤ xd))) rfl <| J.cut 5 ?_
     refine jmeet [(61, .bool ((decide (0 ≤ xd)) && (decide (xd < (((xc.length : Nat) : Int)))))), (2, .string ⟨xc.toArray⟩), (3, ii xd), (4, .pointer (some ⟨b399, 0, none⟩)), (5, .pointer (some ⟨b400, 0, none⟩))] ?_ ?_
     · rcases bt (decide (0 ≤ xd)) with hc567 | hc567
       · refine J.run rfl rfl rfl hc567 <| jm (ii xd) rfl <| J.run rfl rfl rfl hc567 <| jm (.string ⟨xc.toArray⟩) rfl <| J.run rfl rfl rfl hc567 <| jv (ii (((xc.length : Nat) : Int))) (V.lens Tryz.underlying9 rfl) <| J.run rfl rfl rfl hc567 ?_
         refine jv (.bool (decide (xd < (((xc.length : Nat) : Int))))) (V.lss rfl rfl) <| jv (.bool (decide (xd < (((xc.length : Nat) : Int))))) (V.pickT rfl hc567 rfl) <| J.nil ?_
         exact ⟨rfl, ⟨(by simp only [hc567]; rfl), rfl, rfl, rfl, rfl, trivial⟩, rfl, rfl⟩
       refine J.skip rfl rfl rfl rfl hc567 <| J.skip rfl rfl rfl rfl hc567 <| J.skip rfl rfl rfl rfl hc567 <| J.skip rfl rfl rfl rfl hc567 <| jv (.bool false) (V.pickF rfl hc567 rfl) <| J.nil ?_
       exact ⟨rfl, ⟨(by simp only [hc567]; rfl), rfl, rfl, rfl, rfl, trivial⟩, rfl, rfl⟩
     intro ρ
     refine J.nil <| cc rfl ho537 (fun hc568 ho537 => ?_) fun hc568 ho537 => ?_
     · refine cr <| jm (.string ⟨xc.toArray⟩) rfl <| jm (ii xd) rfl ?_
       obtain ⟨y569, hy570, ho537⟩ := ob ho537
       refine jv (.string ⟨y569.toArray⟩) (V.subs Tryz.underlying9 rfl nofun (fun _ => rfl) (fun _ h => by cases h; exact ⟨_, rfl⟩) nofun hy570) ?_
       obtain ⟨r571, hr572, ho537⟩ := ob ho537
       refine J.op rfl (A.call (L1 := []) Tryz.call6 rfl (body_Take_sz_ok hr572) rfl rfl) ?_
       rintro _ K597 _ ⟨v596, _, rfl, ⟨i573, i574, l575, l576, l577, l578, l579, i580, ad581, cp582, ad583, cp584, ad585, cp586, ad587, cp588, ad589, cp590, rfl, rfl, rfl⟩, hK598, rfl⟩
       refine J.wit Row.hn fun hn591 => J.front 1 rfl <| J.wit Row.hn fun hn592 => J.front 2 rfl <| J.wit Row.hn fun hn593 => J.front 3 rfl <| J.wit Row.hn fun hn594 => ?_
       refine J.front 4 rfl <| J.wit Row.hn fun hn595 => jm (.tuple #[.agg #[ii i573, ii i574, .slice ad581 l575.length cp582, .slice ad583 l576.length cp584, .slice ad585 l577.length cp586, .slice ad587 l578.length cp588, .slice ad589 l579.length cp590], ii i580]) rfl <| jx (.agg #[ii i573, ii i574, .slice ad581 l575.length cp582, .slice ad583 l576.length cp584, .slice ad585 l577.length cp586, .slice ad587 l578.length cp588, .slice ad589 l579.length cp590]) rfl rfl <| jx (ii i580) rfl rfl <| jal inf34 [ii 0, ii 0, nos, nos, nos, nos, nos] rfl fun b604 => js [ii i573, ii i574, .slice ad581 l575.length cp582, .slice ad583 l576.length cp584, .slice ad585 l577.length cp586, .slice ad587 l578.length cp588, .slice ad589 l579.length cp590] sz34 rfl rfl rfl rfl rfl rfl ?_
       refine ja (ii i580) rfl <| J.nil <| cr <| jm (ii i580) rfl <| jv (.bool (decide (i580 = 0))) (V.eql rfl rfl) <| J.nil ?_
       refine cc rfl ho537 (fun hc605 ho537 => ?_) fun hc605 ho537 => ?_
       · refine cr <| ja (.bool false) rfl <| J.nil <| CJ.ret ?_
         obtain rfl := si ho537
         refine .inr ⟨nofun, ?_⟩
         obtain rfl := si h
         exact ⟨_, _, Res.one rfl rfl, ⟨false, rfl, rfl, rfl⟩, (hK460.trans hK598), fun w hs => (Sep.dropAt 0 rfl (Sep.dropAt 0 rfl (Sep.dropAt 0 rfl (Sep.dropAt 0 rfl (Sep.dropAt 0 rfl (Sep.dropAt 0 rfl (Sep.dropAt 0 rfl (Sep.dropAt 0 rfl (Sep.dropAt 0 rfl (Sep.dropAt 0 rfl (Sep.dropAt 0 rfl (Sep.dropAt 0 rfl (Sep.dropAt 0 rfl (Sep.dropAt 0 rfl hs))))))))))))))⟩
       refine CJ.dropAt 0 rfl <| CJ.dropAt 0 rfl <| CJ.dropAt 0 rfl <| CJ.dropAt 0 rfl <| CJ.dropAt 0 rfl <| CJ.dropAt 0 rfl <| CJ.dropAt 0 rfl ?_
       refine CJ.dropAt 0 rfl <| CJ.dropAt 0 rfl <| CJ.dropAt 0 rfl <| CJ.dropAt 0 rfl <| CJ.dropAt 0 rfl <| CJ.front 1 rfl <| CJ.skip ?_
       obtain rfl := si ho537
       exact .inl ⟨rfl, _, rfl, ⟨rfl, ⟨rfl, rfl, trivial⟩, hK598, rfl⟩⟩
     refine CJ.dropAt 0 rfl <| CJ.dropAt 0 rfl <| CJ.dropAt 0 rfl <| CJ.dropAt 0 rfl <| CJ.dropAt 0 rfl <| CJ.dropAt 0 rfl <| CJ.front 1 rfl ?_
     refine CJ.skip ?_
     obtain rfl := si ho537
     exact .inl ⟨rfl, _, rfl, ⟨rfl, ⟨rfl, rfl, trivial⟩, (Hp.le_refl _), rfl⟩⟩
   refine CJ.dropAt 0 rfl <| CJ.dropAt 0 rfl <| CJ.dropAt 0 rfl <| CJ.dropAt 0 rfl <| CJ.dropAt 0 rfl <| CJ.dropAt 0 rfl <| CJ.front 1 rfl ?_
   refine CJ.skip ?_
   obtain rfl := si ho537
   exact .inl ⟨rfl, _, rfl, ⟨rfl, ⟨rfl, rfl, trivial⟩, (Hp.le_refl _), rfl⟩⟩
 rintro s ρ K535 _ ho606 ⟨rfl, hf607, hk608, rfl⟩
 subst ho606
 obtain ⟨ρ, rfl⟩ := hf607.ex
 refine PJ.done <| CJ.seq <| cr <| jv (.agg #[ii xa.1, ii xa.2.1, .slice adxa_2 xa.2.2.1.length cpxa_2, .slice adxa_3 xa.2.2.2.1.length cpxa_3, .slice adxa_4 xa.2.2.2.2.1.length cpxa_4, .slice adxa_5 xa.2.2.2.2.2.1.length cpxa_5, .slice adxa_6 xa.2.2.2.2.2.2.length cpxa_6]) (V.ld rfl (Ld.agg (cs := [ii xa.1, ii xa.2.1, .slice adxa_2 xa.2.2.1.length cpxa_2, .slice adxa_3 xa.2.2.2.1.length cpxa_3, .slice adxa_4 xa.2.2.2.2.1.length cpxa_4, .slice adxa_5 xa.2.2.2.2.2.1.length cpxa_5, .slice adxa_6 xa.2.2.2.2.2.2.length cpxa_6]) Tryz.underlying34 sz34 rfl (Rd.cls 0 0 rfl rfl))) ?_
 obtain ⟨r609, hr610, h⟩ := ob h
 refine J.op rfl (A.call (L1 := []) Tryz.call14 rfl (law20_plain_ok (fxa_2.mono (hK460.trans hk608)) (fxa_3.mono (hK460.trans hk608)) (fxa_4.mono (hK460.trans hk608)) (fxa_5.mono (hK460.trans hk608)) (fxa_6.mono (hK460.trans hk608)) hr610) rfl rfl) ?_
 rintro _ _ _ ⟨v612, _, rfl, ⟨⟨t611, rfl, rfl, rfl⟩, rfl⟩, _, rfl⟩
 refine jv (.bool (!t611)) (V.not rfl) <| jm (.bool (!t611)) rfl <| J.cut 4 ?_
 obtain ⟨t622, ht623, h⟩ := ob h
 refine jmeet [(78, .bool t622), (4, .pointer (some ⟨b399, 0, none⟩)), (5, .pointer (some ⟨b400, 0, none⟩))] ?_ ?_
 · rcases bt (!t611) with hc624 | hc624
   · have ht623 := ct hc624 ht623
     refine J.skip rfl rfl rfl rfl hc624 <| J.skip rfl rfl rfl rfl hc624 <| J.skip rfl rfl rfl rfl hc624 <| jv (.bool true) (V.pickT rfl hc624 rfl) <| J.nil ?_
     obtain rfl := si ht623
     exact ⟨rfl, ⟨rfl, rfl, rfl, trivial⟩, rfl, rfl⟩
   have ht623 := cf hc624 ht623
   refine J.run rfl rfl rfl hc624 <| jv (.agg #[ii xb.1, ii xb.2.1, .slice adxb_2 xb.2.2.1.length cpxb_2, .slice adxb_3 xb.2.2.2.1.length cpxb_3, .slice adxb_4 xb.2.2.2.2.1.length cpxb_4, .slice adxb_5 xb.2.2.2.2.2.1.length cpxb_5, .slice adxb_6 xb.2.2.2.2.2.2.length cpxb_6]) (V.ld rfl (Ld.agg (cs := [ii xb.1, ii xb.2.1, .slice adxb_2 xb.2.2.1.length cpxb_2, .slice adxb_3 xb.2.2.2.1.length cpxb_3, .slice adxb_4 xb.2.2.2.2.1.length cpxb_4, .slice adxb_5 xb.2.2.2.2.2.1.length cpxb_5, .slice adxb_6 xb.2.2.2.2.2.2.length cpxb_6]) Tryz.underlying34 sz34 rfl (Rd.cls 1 0 rfl rfl))) <| J.run rfl rfl rfl hc624 ?_
   obtain ⟨r625, hr626, ht623⟩ := ob ht623
   refine J.op rfl (A.call (L1 := []) Tryz.call14 rfl (law20_plain_ok (fxb_2.mono (hK460.trans hk608)) (fxb_3.mono (hK460.trans hk608)) (fxb_4.mono (hK460.trans hk608)) (fxb_5.mono (hK460.trans hk608)) (fxb_6.mono (hK460.trans hk608)) hr626) rfl rfl) ?_
   rintro _ _ _ ⟨v628, _, rfl, ⟨⟨t627, rfl, rfl, rfl⟩, rfl⟩, _, rfl⟩
   refine J.run rfl rfl rfl hc624 <| jv (.bool (!t627)) (V.not rfl) <| jv (.bool (!t627)) (V.pickF rfl hc624 rfl) <| J.nil ?_
   obtain rfl := si ht623
   exact ⟨rfl, ⟨rfl, rfl, rfl, trivial⟩, rfl, rfl⟩
 intro ρ
 refine J.nil <| cc rfl h (fun hc631 h => ?_) fun hc631 h => ?_
 · refine CJ.seq <| CJ.region ?_
   obtain ⟨r632, hr633, h⟩ := ob h
   refine J.op rfl (A.call (L1 := []) Tryz.call5 rfl (law20_awake_ok hr633) rfl rfl) ?_
   rintro _ _ _ ⟨v635, _, rfl, ⟨⟨t634, rfl, rfl, rfl⟩, rfl⟩, _, rfl⟩
   refine ja (.bool t634) rfl <| J.nil <| CJ.ret ?_
   obtain rfl := si h
   exact ⟨_, _, Res.one rfl rfl, ⟨t634, rfl, rfl, rfl⟩, (hK460.trans hk608), fun w hs => (Sep.dropAt 0 rfl (Sep.dropAt 0 rfl hs))⟩
 refine CJ.skip <| cr <| jv (.agg #[ii xa.1, ii xa.2.1, .slice adxa_2 xa.2.2.1.length cpxa_2, .slice adxa_3 xa.2.2.2.1.length cpxa_3, .slice adxa_4 xa.2.2.2.2.1.length cpxa_4, .slice adxa_5 xa.2.2.2.2.2.1.length cpxa_5, .slice adxa_6 xa.2.2.2.2.2.2.length cpxa_6]) (V.ld rfl (Ld.agg (cs := [ii xa.1, ii xa.2.1, .slice adxa_2 xa.2.2.1.length cpxa_2, .slice adxa_3 xa.2.2.2.1.length cpxa_3, .slice adxa_4 xa.2.2.2.2.1.length cpxa_4, .slice adxa_5 xa.2.2.2.2.2.1.length cpxa_5, .slice adxa_6 xa.2.2.2.2.2.2.length cpxa_6]) Tryz.underlying34 sz34 rfl (Rd.cls 0 0 rfl rfl))) ?_
 obtain ⟨r638, hr639, h⟩ := ob h
 refine J.op rfl (A.call (L1 := []) Tryz.call13 rfl (body_Put_ok (fxa_2.mono (hK460.trans hk608)) (fxa_3.mono (hK460.trans hk608)) (fxa_4.mono (hK460.trans hk608)) (fxa_5.mono (hK460.trans hk608)) (fxa_6.mono (hK460.trans hk608)) hr639) rfl rfl) ?_
 rintro _ _ _ ⟨v642, _, rfl, ⟨⟨s640, i641, rfl, rfl, rfl⟩, rfl⟩, _, rfl⟩
 refine jm (.tuple #[.string ⟨s640.toArray⟩, ii i641]) rfl <| jx (.string ⟨s640.toArray⟩) rfl rfl <| jx (ii i641) rfl rfl <| ja (.string ⟨s640.toArray⟩) rfl <| ja (ii i641) rfl <| J.nil <| CJ.seq ?_
 refine CJ.region <| jv (.agg #[ii xb.1, ii xb.2.1, .slice adxb_2 xb.2.2.1.length cpxb_2, .slice adxb_3 xb.2.2.2.1.length cpxb_3, .slice adxb_4 xb.2.2.2.2.1.length cpxb_4, .slice adxb_5 xb.2.2.2.2.2.1.length cpxb_5, .slice adxb_6 xb.2.2.2.2.2.2.length cpxb_6]) (V.ld rfl (Ld.agg (cs := [ii xb.1, ii xb.2.1, .slice adxb_2 xb.2.2.1.length cpxb_2, .slice adxb_3 xb.2.2.2.1.length cpxb_3, .slice adxb_4 xb.2.2.2.2.1.length cpxb_4, .slice adxb_5 xb.2.2.2.2.2.1.length cpxb_5, .slice adxb_6 xb.2.2.2.2.2.2.length cpxb_6]) Tryz.underlying34 sz34 rfl (Rd.cls 1 0 rfl rfl))) ?_
 obtain ⟨r645, hr646, h⟩ := ob h
 refine J.op rfl (A.call (L1 := []) Tryz.call13 rfl (body_Put_ok (fxb_2.mono (hK460.trans hk608)) (fxb_3.mono (hK460.trans hk608)) (fxb_4.mono (hK460.trans hk608)) (fxb_5.mono (hK460.trans hk608)) (fxb_6.mono (hK460.trans hk608)) hr646) rfl rfl) ?_
 rintro _ _ _ ⟨v649, _, rfl, ⟨⟨s647, i648, rfl, rfl, rfl⟩, rfl⟩, _, rfl⟩
 refine jm (.tuple #[.string ⟨s647.toArray⟩, ii i648]) rfl <| jx (.string ⟨s647.toArray⟩) rfl rfl <| jx (ii i648) rfl rfl <| ja (.string ⟨s647.toArray⟩) rfl <| ja (ii i648) rfl <| J.nil <| CJ.seq ?_
 refine cr <| jm (ii i641) rfl <| jv (.bool (!decide (i641 = 0))) (V.neq rfl rfl) <| jm (.bool (!decide (i641 = 0))) rfl <| J.cut 3 <| jmeet [(95, .bool ((!decide (i641 = 0)) || (!decide (i648 = 0)))), (4, .pointer (some ⟨b399, 0, none⟩)), (5, .pointer (some ⟨b400, 0, none⟩)), (15, .string ⟨s640.toArray⟩), (16, ii i641), (17, .string ⟨s647.toArray⟩), (18, ii i648)] ?_ ?_
 · rcases bt (!decide (i641 = 0)) with hc654 | hc654
   · refine J.skip rfl rfl rfl rfl hc654 <| J.skip rfl rfl rfl rfl hc654 <| jv (.bool true) (V.pickT rfl hc654 rfl) <| J.nil ?_
     exact ⟨rfl, ⟨(by simp only [hc654]; rfl), rfl, rfl, rfl, rfl, rfl, rfl, trivial⟩, rfl, rfl⟩
   refine J.run rfl rfl rfl hc654 <| jm (ii i648) rfl <| J.run rfl rfl rfl hc654 <| jv (.bool (!decide (i648 = 0))) (V.neq rfl rfl) <| jv (.bool (!decide (i648 = 0))) (V.pickF rfl hc654 rfl) <| J.nil ?_
   exact ⟨rfl, ⟨(by simp only [hc654]; rfl), rfl, rfl, rfl, rfl, rfl, rfl, trivial⟩, rfl, rfl⟩
 intro ρ
 refine J.nil <| cc rfl h (fun hc655 h => ?_) fun hc655 h => ?_
 · refine cr <| jm (.string ⟨s640.toArray⟩) rfl <| jv (.bool (decide (s640 = ([] : List UInt8)))) (V.eqs rfl rfl) <| jm (.bool (decide (s640 = ([] : List UInt8)))) rfl <| J.cut 3 <| jmeet [(101, .bool ((decide (s640 = ([] : List UInt8))) || (decide (i641 = 0)))), (17, .string ⟨s647.toArray⟩), (18, ii i648)] ?_ ?_
   · rcases bt (decide (s640 = ([] : List UInt8))) with hc658 | hc658
     · refine J.skip rfl rfl rfl rfl hc658 <| J.skip rfl rfl rfl rfl hc658 <| jv (.bool true) (V.pickT rfl hc658 rfl) <| J.nil ?_
       exact ⟨rfl, ⟨(by simp only [hc658]; rfl), rfl, rfl, trivial⟩, rfl, rfl⟩
     refine J.run rfl rfl rfl hc658 <| jm (ii i641) rfl <| J.run rfl rfl rfl hc658 <| jv (.bool (decide (i641 = 0))) (V.eql rfl rfl) <| jv (.bool (decide (i641 = 0))) (V.pickF rfl hc658 rfl) <| J.nil ?_
     exact ⟨rfl, ⟨(by simp only [hc658]; rfl), rfl, rfl, trivial⟩, rfl, rfl⟩
   intro ρ
   refine jm (.bool ((decide (s640 = ([] : List UInt8))) || (decide (i641 = 0)))) rfl <| J.cut 7 <| jmeet [(109, .bool (((decide (s640 = ([] : List UInt8))) || (decide (i641 = 0))) && ((decide (s647 = ([] : List UInt8))) || (decide (i648 = 0)))))] ?_ ?_
   · rcases bt ((decide (s640 = ([] : List UInt8))) || (decide (i641 = 0))) with hc664 | hc664
     · refine J.run rfl rfl rfl hc664 <| jm (.string ⟨s647.toArray⟩) rfl <| J.run rfl rfl rfl hc664 <| jv (.bool (decide (s647 = ([] : List UInt8)))) (V.eqs rfl rfl) <| J.run rfl rfl rfl hc664 <| jm (.bool (decide (s647 = ([] : List UInt8)))) rfl <| J.cut 3 ?_
       refine jmeet [(108, .bool ((decide (s647 = ([] : List UInt8))) || (decide (i648 = 0)))), (102, .bool ((decide (s640 = ([] : List UInt8))) || (decide (i641 = 0))))] ?_ ?_
       · rcases bt (decide (s647 = ([] : List UInt8))) with hc667 | hc667
         · refine J.skip rfl rfl rfl rfl hc667 <| J.skip rfl rfl rfl rfl hc667 <| J.run rfl rfl rfl hc664 <| jv (.bool true) (V.pickT rfl hc667 rfl) <| J.nil ?_
           exact ⟨rfl, ⟨(by simp only [hc667]; rfl), rfl, trivial⟩, rfl, rfl⟩
         refine J.run rfl rfl rfl hc667 <| jm (ii i648) rfl <| J.run rfl rfl rfl hc667 <| jv (.bool (decide (i648 = 0))) (V.eql rfl rfl) <| J.run rfl rfl rfl hc664 <| jv (.bool (decide (i648 = 0))) (V.pickF rfl hc667 rfl) <| J.nil ?_
         exact ⟨rfl, ⟨(by simp only [hc667]; rfl), rfl, trivial⟩, rfl, rfl⟩
       intro ρ
       refine jv (.bool ((decide (s647 = ([] : List UInt8))) || (decide (i648 = 0)))) (V.pickT rfl hc664 rfl) <| J.nil ?_
       exact ⟨rfl, ⟨(by simp only [hc664]; rfl), trivial⟩, rfl, rfl⟩
     refine J.skip rfl rfl rfl rfl hc664 <| J.skip rfl rfl rfl rfl hc664 <| J.skip rfl rfl rfl rfl hc664 <| J.skipu rfl rfl rfl rfl <| J.skipu rfl rfl rfl rfl <| J.skip rfl rfl rfl rfl hc664 <| jv (.bool false) (V.pickF rfl hc664 rfl) ?_
     refine J.nil ?_
     exact ⟨rfl, ⟨(by simp only [hc664]; rfl), trivial⟩, rfl, rfl⟩
   intro ρ
   refine jm (.bool (((decide (s640 = ([] : List UInt8))) || (decide (i641 = 0))) && ((decide (s647 = ([] : List UInt8))) || (decide (i648 = 0))))) rfl <| J.cut 2 ?_
   obtain ⟨t675, ht676, h⟩ := ob h
   refine jmeet [(112, .bool t675)] ?_ ?_
   · rcases bt (((decide (s640 = ([] : List UInt8))) || (decide (i641 = 0))) && ((decide (s647 = ([] : List UInt8))) || (decide (i648 = 0)))) with hc677 | hc677
     · have ht676 := ct hc677 ht676
       refine J.run rfl rfl rfl hc677 ?_
       obtain ⟨r678, hr679, ht676⟩ := ob ht676
       refine J.op rfl (A.call (L1 := []) Tryz.call5 rfl (law20_awake_ok hr679) rfl rfl) ?_
       rintro _ _ _ ⟨v681, _, rfl, ⟨⟨t680, rfl, rfl, rfl⟩, rfl⟩, _, rfl⟩
       refine jv (.bool t680) (V.pickT rfl hc677 rfl) <| J.nil ?_
       obtain rfl := si ht676
       exact ⟨rfl, ⟨rfl, trivial⟩, rfl, rfl⟩
     have ht676 := cf hc677 ht676
     refine J.skip rfl rfl rfl rfl hc677 <| jv (.bool false) (V.pickF rfl hc677 rfl) <| J.nil ?_
     obtain rfl := si ht676
     exact ⟨rfl, ⟨rfl, trivial⟩, rfl, rfl⟩
   intro ρ
   refine ja (.bool t675) rfl <| J.nil <| CJ.ret ?_
   obtain rfl := si h
   exact ⟨_, _, Res.one rfl rfl, ⟨t675, rfl, rfl, rfl⟩, (hK460.trans hk608), fun w hs => (Sep.dropAt 0 rfl (Sep.dropAt 0 rfl hs))⟩
 refine CJ.skip <| cr <| jm (.string ⟨s640.toArray⟩) rfl ?_
 obtain ⟨r684, hr685, h⟩ := ob h
 refine J.op rfl (A.call (L1 := []) Tryz.call6 rfl (body_Take_sz_ok hr685) rfl rfl) ?_
 rintro _ K710 _ ⟨v709, _, rfl, ⟨i686, i687, l688, l689, l690, l691, l692, i693, ad694, cp695, ad696, cp697, ad698, cp699, ad700, cp701, ad702, cp703, rfl, rfl, rfl⟩, hK711, rfl⟩
 refine J.wit Row.hn fun hn704 => J.front 1 rfl <| J.wit Row.hn fun hn705 => J.front 2 rfl <| J.wit Row.hn fun hn706 => J.front 3 rfl <| J.wit Row.hn fun hn707 => ?_
 refine J.front 4 rfl <| J.wit Row.hn fun hn708 => jm (.tuple #[.agg #[ii i686, ii i687, .slice ad694 l688.length cp695, .slice ad696 l689.length cp697, .slice ad698 l690.length cp699, .slice ad700 l691.length cp701, .slice ad702 l692.length cp703], ii i693]) rfl <| jx (.agg #[ii i686, ii i687, .slice ad694 l688.length cp695, .slice ad696 l689.length cp697, .slice ad698 l690.length cp699, .slice ad700 l691.length cp701, .slice ad702 l692.length cp703]) rfl rfl <| jx (ii i693) rfl rfl <| jal inf34 [ii 0, ii 0, nos, nos, nos, nos, nos] rfl fun b717 => js [ii i686, ii i687, .slice ad694 l688.length cp695, .slice ad696 l689.length cp697, .slice ad698 l690.length cp699, .slice ad700 l691.length cp701, .slice ad702 l692.length cp703] sz34 rfl rfl rfl rfl rfl rfl ?_
 refine ja (ii i693) rfl <| J.nil <| cr <| jm (ii i693) rfl <| jv (.bool (decide (i693 = 0))) (V.eql rfl rfl) <| jm (.bool (decide (i693 = 0))) rfl ?_
 refine J.cut 4 ?_
 obtain ⟨t740, ht741, h⟩ := ob h
 refine jmeet [(124, .bool t740), (4, .pointer (some ⟨b399, 0, none⟩)), (5, .pointer (some ⟨b400, 0, none⟩)), (15, .string ⟨s640.toArray⟩), (17, .string ⟨s647.toArray⟩)] ?_ ?_
 · rcases bt (decide (i693 = 0)) with hc742 | hc742
   · have ht741 := ct hc742 ht741
     refine J.run rfl rfl rfl hc742 <| jv (.agg #[ii i686, ii i687, .slice ad694 l688.length cp695, .slice ad696 l689.length cp697, .slice ad698 l690.length cp699, .slice ad700 l691.length cp701, .slice ad702 l692.length cp703]) (V.ld rfl (Ld.agg (cs := [ii i686, ii i687, .slice ad694 l688.length cp695, .slice ad696 l689.length cp697, .slice ad698 l690.length cp699, .slice ad700 l691.length cp701, .slice ad702 l692.length cp703]) Tryz.underlying34 sz34 rfl (Rd.cls 0 0 rfl rfl))) <| J.run rfl rfl rfl hc742 <| jv (.agg #[ii xa.1, ii xa.2.1, .slice adxa_2 xa.2.2.1.length cpxa_2, .slice adxa_3 xa.2.2.2.1.length cpxa_3, .slice adxa_4 xa.2.2.2.2.1.length cpxa_4, .slice adxa_5 xa.2.2.2.2.2.1.length cpxa_5, .slice adxa_6 xa.2.2.2.2.2.2.length cpxa_6]) (V.ld rfl (Ld.agg (cs := [ii xa.1, ii xa.2.1, .slice adxa_2 xa.2.2.1.length cpxa_2, .slice adxa_3 xa.2.2.2.1.length cpxa_3, .slice adxa_4 xa.2.2.2.2.1.length cpxa_4, .slice adxa_5 xa.2.2.2.2.2.1.length cpxa_5, .slice adxa_6 xa.2.2.2.2.2.2.length cpxa_6]) Tryz.underlying34 sz34 rfl (Rd.cls 6 0 rfl rfl))) <| J.run rfl rfl rfl hc742 ?_
     obtain ⟨r743, hr744, ht741⟩ := ob ht741
     refine J.front 1 rfl <| J.front 2 rfl <| J.front 3 rfl <| J.front 4 rfl <| J.front 5 rfl <| J.op rfl (A.call (L1 := [Row Hp.nil 95 (.cons (.int .i64) (.one (.int .i64))) (.slice ad694 l688.length cp695) l688, Row K710 30 (.one (.sl (.cons (.int .i64) (.one .bool)))) (.slice ad696 l689.length cp697) l689, Row Hp.nil 146 (.cons (.int .i64) (.one .bool)) (.slice ad698 l690.length cp699) l690, Row K710 63 (.cons (.int .i64) (.cons (.sl (.cons (.int .i64) (.one (.int .i64)))) (.cons (.sl (.one (.sl (.cons (.int .i64) (.one .bool))))) (.one (.one (.sl (.cons (.int .i64) (.one .bool)))))))) (.slice ad700 l691.length cp701) l691, Row K710 70 (.cons (.sl (.cons (.int .i64) (.cons (.int .i64) (.cons (.int .i64) (.cons (.int .i64) (.one .bool)))))) (.one (.cons (.int .i64) (.cons (.int .i64) (.cons (.int .i64) (.cons (.sl (.int .i64)) (.cons (.sl (.int .i64)) (.one (.sl (.int .i64)))))))))) (.slice ad702 l692.length cp703) l692]) Tryz.call8 rfl (Tr.lend (Hp.nil_le _) (by decide) (fun K745 hK746 f747 => Tr.lend (Hp.le.trans (Hp.le_refl _) hK746) (by decide) (fun K748 hK749 f750 => Tr.lend (Hp.nil_le _) (by decide) (fun K751 hK752 f753 => Tr.lend (Hp.le.trans (Hp.le.trans (Hp.le.trans (Hp.le_refl _) hK746) hK749) hK752) (by decide) (fun K754 hK755 f756 => Tr.lend (Hp.le.trans (Hp.le.trans (Hp.le.trans (Hp.le.trans (Hp.le_refl _) hK746) hK749) hK752) hK755) (by decide) (fun K757 hK758 f759 => ref20_Same_ok ((((f747.mono hK749).mono hK752).mono hK755).mono hK758) (((f750.mono hK752).mono hK755).mono hK758) ((f753.mono hK755).mono hK758) (f756.mono hK758) f759 ((((((fxa_2.mono ((hK460.trans hk608).trans hK711)).mono hK746).mono hK749).mono hK752).mono hK755).mono hK758) ((((((fxa_3.mono ((hK460.trans hk608).trans hK711)).mono hK746).mono hK749).mono hK752).mono hK755).mono hK758) ((((((fxa_4.mono ((hK460.trans hk608).trans hK711)).mono hK746).mono hK749).mono hK752).mono hK755).mono hK758) ((((((fxa_5.mono ((hK460.trans hk608).trans hK711)).mono hK746).mono hK749).mono hK752).mono hK755).mono hK758) ((((((fxa_6.mono ((hK460.trans hk608).trans hK711)).mono hK746).mono hK749).mono hK752).mono hK755).mono hK758) hr744)))))) rfl rfl) ?_
     rintro _ _ _ ⟨v761, _, rfl, ⟨⟨_, ⟨_, ⟨_, ⟨_, ⟨_, ⟨t760, rfl, rfl, rfl⟩, rfl⟩, rfl⟩, rfl⟩, rfl⟩, rfl⟩, rfl⟩, _, rfl⟩
     refine jv (.bool t760) (V.pickT rfl hc742 rfl) <| J.front 7 rfl <| J.front 7 rfl <| J.front 2 rfl <| J.front 3 rfl <| J.front 4 rfl <| J.front 5 rfl ?_
     refine J.front 6 rfl <| J.front 7 rfl <| J.nil ?_
     obtain rfl := si ht741
     exact ⟨rfl, ⟨rfl, rfl, rfl, rfl, rfl, trivial⟩, rfl, rfl⟩
   have ht741 := cf hc742 ht741
   refine J.skip rfl rfl rfl rfl hc742 <| J.skip rfl rfl rfl rfl hc742 <| J.skip rfl rfl rfl rfl hc742 <| jv (.bool false) (V.pickF rfl hc742 rfl) <| J.nil ?_
   obtain rfl := si ht741
   exact ⟨rfl, ⟨rfl, rfl, rfl, rfl, rfl, trivial⟩, rfl, rfl⟩
 intro ρ
 refine jm (.bool t740) rfl <| J.cut 8 ?_
 obtain ⟨t771, ht772, h⟩ := ob h
 refine jmeet [(133, .bool t771)] ?_ ?_
 · rcases bt (t740) with hc773 | hc773
   · have ht772 := ct hc773 ht772
     refine J.run rfl rfl rfl hc773 <| jm (.string ⟨s640.toArray⟩) rfl <| J.run rfl rfl rfl hc773 <| jm (.string ⟨s647.toArray⟩) rfl <| J.run rfl rfl rfl hc773 <| jv (.bool (decide (s640 = s647))) (V.eqs rfl rfl) <| J.run rfl rfl rfl hc773 ?_
     refine jv (.agg #[ii xa.1, ii xa.2.1, .slice adxa_2 xa.2.2.1.length cpxa_2, .slice adxa_3 xa.2.2.2.1.length cpxa_3, .slice adxa_4 xa.2.2.2.2.1.length cpxa_4, .slice adxa_5 xa.2.2.2.2.2.1.length cpxa_5, .slice adxa_6 xa.2.2.2.2.2.2.length cpxa_6]) (V.ld rfl (Ld.agg (cs := [ii xa.1, ii xa.2.1, .slice adxa_2 xa.2.2.1.length cpxa_2, .slice adxa_3 xa.2.2.2.1.length cpxa_3, .slice adxa_4 xa.2.2.2.2.1.length cpxa_4, .slice adxa_5 xa.2.2.2.2.2.1.length cpxa_5, .slice adxa_6 xa.2.2.2.2.2.2.length cpxa_6]) Tryz.underlying34 sz34 rfl (Rd.cls 6 0 rfl rfl))) <| J.run rfl rfl rfl hc773 <| jv (.agg #[ii xb.1, ii xb.2.1, .slice adxb_2 xb.2.2.1.length cpxb_2, .slice adxb_3 xb.2.2.2.1.length cpxb_3, .slice adxb_4 xb.2.2.2.2.1.length cpxb_4, .slice adxb_5 xb.2.2.2.2.2.1.length cpxb_5, .slice adxb_6 xb.2.2.2.2.2.2.length cpxb_6]) (V.ld rfl (Ld.agg (cs := [ii xb.1, ii xb.2.1, .slice adxb_2 xb.2.2.1.length cpxb_2, .slice adxb_3 xb.2.2.2.1.length cpxb_3, .slice adxb_4 xb.2.2.2.2.1.length cpxb_4, .slice adxb_5 xb.2.2.2.2.2.1.length cpxb_5, .slice adxb_6 xb.2.2.2.2.2.2.length cpxb_6]) Tryz.underlying34 sz34 rfl (Rd.cls 7 0 rfl rfl))) <| J.run rfl rfl rfl hc773 ?_
     obtain ⟨r774, hr775, ht772⟩ := ob ht772
     refine J.op rfl (A.call (L1 := []) Tryz.call8 rfl (ref20_Same_ok (fxa_2.mono ((hK460.trans hk608).trans hK711)) (fxa_3.mono ((hK460.trans hk608).trans hK711)) (fxa_4.mono ((hK460.trans hk608).trans hK711)) (fxa_5.mono ((hK460.trans hk608).trans hK711)) (fxa_6.mono ((hK460.trans hk608).trans hK711)) (fxb_2.mono ((hK460.trans hk608).trans hK711)) (fxb_3.mono ((hK460.trans hk608).trans hK711)) (fxb_4.mono ((hK460.trans hk608).trans hK711)) (fxb_5.mono ((hK460.trans hk608).trans hK711)) (fxb_6.mono ((hK460.trans hk608).trans hK711)) hr775) rfl rfl) ?_
     rintro _ _ _ ⟨v777, _, rfl, ⟨⟨t776, rfl, rfl, rfl⟩, rfl⟩, _, rfl⟩
     refine J.run rfl rfl rfl hc773 <| jv (.bool ((decide (s640 = s647)) == t776)) (V.eqb Tryz.underlying4 rfl rfl) <| jv (.bool ((decide (s640 = s647)) == t776)) (V.pickT rfl hc773 rfl) <| J.nil ?_
     obtain rfl := si ht772
     exact ⟨rfl, ⟨rfl, trivial⟩, rfl, rfl⟩
   have ht772 := cf hc773 ht772
   refine J.skip rfl rfl rfl rfl hc773 <| J.skip rfl rfl rfl rfl hc773 <| J.skip rfl rfl rfl rfl hc773 <| J.skip rfl rfl rfl rfl hc773 <| J.skip rfl rfl rfl rfl hc773 <| J.skip rfl rfl rfl rfl hc773 <| J.skip rfl rfl rfl rfl hc773 ?_
   refine jv (.bool false) (V.pickF rfl hc773 rfl) <| J.nil ?_
   obtain rfl := si ht772
   exact ⟨rfl, ⟨rfl, trivial⟩, rfl, rfl⟩
 intro ρ
 refine jm (.bool t771) rfl <| J.cut 2 ?_
 obtain ⟨t787, ht788, h⟩ := ob h
 refine jmeet [(136, .bool t787)] ?_ ?_
 · rcases bt (t771) with hc789 | hc789
   · have ht788 := ct hc789 ht788
     refine J.run rfl rfl rfl hc789 ?_
     obtain ⟨r790, hr791, ht788⟩ := ob ht788
     refine J.op rfl (A.call (L1 := []) Tryz.call5 rfl (law20_awake_ok hr791) rfl rfl) ?_
     rintro _ _ _ ⟨v793, _, rfl, ⟨⟨t792, rfl, rfl, rfl⟩, rfl⟩, _, rfl⟩
     refine jv (.bool t792) (V.pickT rfl hc789 rfl) <| J.nil ?_
     obtain rfl := si ht788
     exact ⟨rfl, ⟨rfl, trivial⟩, rfl, rfl⟩
   have ht788 := cf hc789 ht788
   refine J.skip rfl rfl rfl rfl hc789 <| jv (.bool false) (V.pickF rfl hc789 rfl) <| J.nil ?_
   obtain rfl := si ht788
   exact ⟨rfl, ⟨rfl, trivial⟩, rfl, rfl⟩
 intro ρ
 refine ja (.bool t787) rfl <| J.nil <| CJ.ret ?_
 obtain rfl := si h
 exact ⟨_, _, Res.one rfl rfl, ⟨t787, rfl, rfl, rfl⟩, ((hK460.trans hk608).trans hK711), fun w hs => (Sep.dropAt 0 rfl (Sep.dropAt 0 rfl (Sep.dropAt 0 rfl (Sep.dropAt 0 rfl (Sep.dropAt 0 rfl (Sep.dropAt 0 rfl (Sep.dropAt 0 rfl (Sep.dropAt 0 rfl hs))))))))⟩
end Go.Proofs.YtmdmdmaekjpfjaaGreat
