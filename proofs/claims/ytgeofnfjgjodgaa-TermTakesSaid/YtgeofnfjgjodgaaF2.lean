/- What Go functions answer: generated. -/
import Derived.Test.YtgeofnfjgjodgaaF1
namespace Go.Proofs.Ytgeofnfjgjodgaa
open Go.RowKit
set_option linter.unusedVariables false
set_option linter.unnecessarySimpa false
set_option linter.unusedSimpArgs false
set_option maxRecDepth 20000

noncomputable def fn_ref19_Take (xa : (List UInt8)) : Option ((Int × Int × Int × (List Int) × (List Int) × (List Int) × Int × Int)) :=
  (fn_ref02_Take xa).bind fun (i292, i293, i294) => cond (!decide (i294 = 0)) (some ((0, 0, 0, [], [], [], 0, i294))) (cond ((decide (i292 < 1)) || (decide (4 < i292))) (some ((0, 0, 0, [], [], [], 0, 3))) ((cond (decide (i292 = 1)) (some (1)) (some (0)) : Option Int).bind fun i309 => (cond (decide (i292 = 4)) (some (3)) (some (i309)) : Option Int).bind fun i316 => (subL xa i293 (((xa.length : Nat) : Int))).bind fun y322 => (fn_ref19_numbers y322 i316).bind fun (l326, i327, i328) => cond (!decide (i328 = 0)) (some ((0, 0, 0, [], [], [], 0, i328))) ((cond (decide (i292 = 1)) (some (l326)) (some ([])) : Option (List Int)).bind fun l349 => (cond (decide (i292 = 4)) ((getI l326 0).bind fun x392 => (getI l326 1).bind fun x401 => (subL l326 2 (((l326.length : Nat) : Int))).bind fun y410 => some ((x392, x401, y410))) (some ((0, 0, l349))) : Option ((Int × Int × (List Int)))).bind fun (i383, i384, l385) => (cond ((decide (i292 = 2)) || (decide (i292 = 4))) ((subL xa (IntKind.wrap .i64 (i293 + i327)) (((xa.length : Nat) : Int))).bind fun y494 => (fn_ref19_taken y494).bind fun (l498, i499, i500) => cond (!decide (i500 = 0)) (some (.inr ((0, 0, 0, [], [], [], 0, i500)))) (cond ((decide (i292 = 2)) && (decide ((((l498.length : Nat) : Int)) = 0))) (some (.inr ((0, 0, 0, [], [], [], 0, 3)))) ((subL xa (IntKind.wrap .i64 ((IntKind.wrap .i64 (i293 + i327)) + i499)) (((xa.length : Nat) : Int))).bind fun y517 => (fn_ref19_taken y517).bind fun (l521, i522, i523) => cond (!decide (i523 = 0)) (some (.inr ((0, 0, 0, [], [], [], 0, i523)))) (cond (decide (i292 = 2)) (some (.inl ((IntKind.wrap .i64 ((IntKind.wrap .i64 ((IntKind.wrap .i64 (i293 + i327)) + i499)) + i522), l498, l521, [])))) (some (.inl ((IntKind.wrap .i64 ((IntKind.wrap .i64 ((IntKind.wrap .i64 (i293 + i327)) + i499)) + i522), l385, l521, l498)))))))) (some (.inl ((IntKind.wrap .i64 (i293 + i327), l385, [], [])))) : Option ((Int × (List Int) × (List Int) × (List Int)) ⊕ (Int × Int × Int × (List Int) × (List Int) × (List Int) × Int × Int))).bind fun o => match o with | .inr r => some r | .inl (i473, l474, l478, l483) => some ((i292, i383, i384, l474, l478, l483, i473, 0)))))
set_option maxRecDepth 100000 in
set_option maxHeartbeats 4000000 in
theorem ref19_Take_ok {K : Hp} {xa : (List UInt8)}   {r : (Int × Int × Int × (List Int) × (List Int) × (List Int) × Int × Int)} (h : fn_ref19_Take xa = some r) :
    Tr Try.prog 14 #[.string ⟨xa.toArray⟩] K [] (fun v K' L' => (∃ (i270 : Int) (i271 : Int) (i272 : Int) (l273 : (List Int)) (l277 : (List Int)) (l282 : (List Int)) (i287 : Int) (i288 : Int) (ad274 : Option Addr) (cp275 : Nat) (ad278 : Option Addr) (cp279 : Nat) (ad283 : Option Addr) (cp284 : Nat), (i270, i271, i272, l273, l277, l282, i287, i288) = r ∧ .tuple #[.agg #[.int .i64 i270, .int .i64 i271, .int .i64 i272, .slice ad274 l273.length cp275, .slice ad278 l277.length cp279, .slice ad283 l282.length cp284], .int .i64 i287, .int .i64 i288] = v ∧ Is K' (.sl (.int .i64)) [.slice ad274 l273.length cp275] l273 ∧ L' = [Row Hp.nil 3 (.int .i64) (.slice ad278 l277.length cp279) l277, Row Hp.nil 3 (.int .i64) (.slice ad283 l282.length cp284) l282])) := by
  refine Tr.of Try.func14 rfl Try.ntmps14 rfl (fun E F => ?_)
  unfold fn_ref19_Take at h
  refine CJ.seq ?_
  refine CJ.region ?_
  refine J.op rfl (A.alloc (cs := [.int .i64 0, .int .i64 0, .int .i64 0, .slice none 0 0, .slice none 0 0, .slice none 0 0]) inf24 rfl) ?_
  rintro _ _ _ ⟨b289, rfl, rfl, rfl⟩
  refine J.val (v := .int .i64 0) rfl rfl (V.as rfl) ?_
  refine J.val (v := .int .i64 0) rfl rfl (V.as rfl) ?_
  refine J.nil ?_
  refine CJ.seq ?_
  refine CJ.region ?_
  refine J.val (v := .string ⟨xa.toArray⟩) rfl rfl (V.mv rfl) ?_
  obtain ⟨r290, hr291, h⟩ := ob h
  refine J.op rfl (A.call (L1 := []) Try.call32 rfl (ref02_Take_ok hr291) rfl rfl) ?_
  rintro _ _ _ ⟨v295, _, rfl, ⟨⟨i292, i293, i294, rfl, rfl, rfl⟩, rfl⟩, _, rfl⟩
  refine J.val (v := .tuple #[.int .i64 i292, .int .i64 i293, .int .i64 i294]) rfl rfl (V.mv rfl) ?_
  refine J.val (v := .int .i64 i292) rfl rfl (V.ext rfl rfl) ?_
  refine J.val (v := .int .i64 i293) rfl rfl (V.ext rfl rfl) ?_
  refine J.val (v := .int .i64 i294) rfl rfl (V.ext rfl rfl) ?_
  refine J.val (v := .int .i64 i292) rfl rfl (V.as rfl) ?_
  refine J.val (v := .int .i64 i293) rfl rfl (V.as rfl) ?_
  refine J.val (v := .int .i64 i294) rfl rfl (V.as rfl) ?_
  refine J.nil ?_
  refine CJ.seq ?_
  refine CJ.seq ?_
  refine CJ.region ?_
  refine J.val (v := .int .i64 i294) rfl rfl (V.mv rfl) ?_
  refine J.val (v := .bool (!decide (i294 = 0))) rfl rfl (V.neq rfl rfl) ?_
  refine J.nil ?_
  refine CJ.cond rfl (fun hc298 => ?_) (fun hc298 => ?_)
  · have h := ct hc298 h
    refine CJ.seq ?_
    refine CJ.region ?_
    refine J.val (v := .agg #[.int .i64 0, .int .i64 0, .int .i64 0, .slice none 0 0, .slice none 0 0, .slice none 0 0]) rfl rfl (V.build inf24 places24 rfl rfl) ?_
    refine J.val (v := .int .i64 i294) rfl rfl (V.mv rfl) ?_
    refine J.op rfl (A.store (v := .agg #[.int .i64 0, .int .i64 0, .int .i64 0, .slice none 0 0, .slice none 0 0, .slice none 0 0]) (cs' := [.int .i64 0, .int .i64 0, .int .i64 0, .slice none 0 0, .slice none 0 0, .slice none 0 0]) sz24 rfl rfl rfl rfl rfl rfl) ?_
    rintro _ _ _ ⟨rfl, rfl, rfl⟩
    refine J.val (v := .int .i64 0) rfl rfl (V.as rfl) ?_
    refine J.val (v := .int .i64 i294) rfl rfl (V.as rfl) ?_
    refine J.nil ?_
    refine CJ.by (fun w hs => Sep.rowNil (e := 3) (t := (.int .i64)) hs) ?_
    refine CJ.by (fun w hs => Sep.rowNil (e := 3) (t := (.int .i64)) hs) ?_
    refine CJ.ret ?_
    have e := Option.some.inj h
    subst e
    exact ⟨_, [Row Hp.nil 3 (.int .i64) (.slice none (([] : List Int).length) 0) ([] : List Int), Row Hp.nil 3 (.int .i64) (.slice none (([] : List Int).length) 0) ([] : List Int)], Res.three rfl ⟨_, _, rfl, Ld.agg (cs := [.int .i64 0, .int .i64 0, .int .i64 0, .slice none 0 0, .slice none 0 0, .slice none 0 0]) Try.underlying24 sz24 rfl (Rd.cls 2 0 rfl rfl)⟩ rfl rfl, ⟨0, 0, 0, [], [], [], 0, i294, none, 0, none, 0, none, 0, rfl, rfl, isNil, rfl⟩, (Hp.le_refl _), fun w hs => (Sep.front 1 rfl (Sep.dropAt 2 rfl hs))⟩
  · have h := cf hc298 h
    refine CJ.skip ?_
    refine CJ.seq ?_
    refine CJ.region ?_
    refine J.val (v := .int .i64 i292) rfl rfl (V.mv rfl) ?_
    refine J.val (v := .agg #[.int .i64 i292, .int .i64 0, .int .i64 0, .slice none 0 0, .slice none 0 0, .slice none 0 0]) rfl rfl (V.build inf24 places24 rfl rfl) ?_
    refine J.op rfl (A.alloc (cs := [.int .i64 0, .int .i64 0, .int .i64 0, .slice none 0 0, .slice none 0 0, .slice none 0 0]) inf24 rfl) ?_
    rintro _ _ _ ⟨b301, rfl, rfl, rfl⟩
    refine J.op rfl (A.store (v := .agg #[.int .i64 i292, .int .i64 0, .int .i64 0, .slice none 0 0, .slice none 0 0, .slice none 0 0]) (cs' := [.int .i64 i292, .int .i64 0, .int .i64 0, .slice none 0 0, .slice none 0 0, .slice none 0 0]) sz24 rfl rfl rfl rfl rfl rfl) ?_
    rintro _ _ _ ⟨rfl, rfl, rfl⟩
    refine J.nil ?_
    refine CJ.seq ?_
    refine CJ.seq ?_
    refine CJ.region ?_
    refine J.val (v := .int .i64 i292) rfl rfl (V.mv rfl) ?_
    refine J.val (v := .bool (decide (i292 < 1))) rfl rfl (V.lss rfl rfl) ?_
    refine J.val (v := .bool (decide (i292 < 1))) rfl rfl (V.mv rfl) ?_
    refine J.cut 3 ?_
    refine @J.meet _ _ _ _ _ _ _ _ _ _ (fun ρ K' L' => Fits [(36, .bool ((decide (i292 < 1)) || (decide (4 < i292)))), (0, .string ⟨xa.toArray⟩), (2, .pointer (some ⟨b289, 0, none⟩)), (5, .int .i64 i292), (6, .int .i64 i293), (8, .pointer (some ⟨b301, 0, none⟩))] ρ ∧ K = K' ∧ L' = Cl b301 24 [.int .i64 i292, .int .i64 0, .int .i64 0, .slice none 0 0, .slice none 0 0, .slice none 0 0] :: Cl b289 24 [.int .i64 0, .int .i64 0, .int .i64 0, .slice none 0 0, .slice none 0 0, .slice none 0 0] :: F) ?_ ?_
    · skip
      rcases bt (decide (i292 < 1)) with hc304 | hc304
      · skip
        refine J.skip rfl rfl rfl rfl hc304 ?_
        refine J.skip rfl rfl rfl rfl hc304 ?_
        refine J.val (v := .bool true) rfl rfl (V.pickT rfl hc304 rfl) ?_
        refine J.nil ?_
        exact ⟨rfl, ⟨(by simp only [hc304]; rfl), rfl, rfl, rfl, rfl, rfl, trivial⟩, rfl, rfl⟩
      · skip
        refine J.run rfl rfl rfl hc304 ?_
        refine J.val (v := .int .i64 i292) rfl rfl (V.mv rfl) ?_
        refine J.run rfl rfl rfl hc304 ?_
        refine J.val (v := .bool (decide (4 < i292))) rfl rfl (V.gtr rfl rfl) ?_
        refine J.val (v := .bool (decide (4 < i292))) rfl rfl (V.pickF rfl hc304 rfl) ?_
        refine J.nil ?_
        exact ⟨rfl, ⟨(by simp only [hc304]; rfl), rfl, rfl, rfl, rfl, rfl, trivial⟩, rfl, rfl⟩
    · rintro ρ _ _ ⟨hf, rfl, rfl⟩
      obtain ⟨ρ, rfl⟩ := hf.ex
      refine J.nil ?_
      refine CJ.cond rfl (fun hc305 => ?_) (fun hc305 => ?_)
      · have h := ct hc305 h
        refine CJ.seq ?_
        refine CJ.region ?_
        refine J.val (v := .agg #[.int .i64 0, .int .i64 0, .int .i64 0, .slice none 0 0, .slice none 0 0, .slice none 0 0]) rfl rfl (V.build inf24 places24 rfl rfl) ?_
        refine J.front 1 rfl ?_
        refine J.op rfl (A.store (v := .agg #[.int .i64 0, .int .i64 0, .int .i64 0, .slice none 0 0, .slice none 0 0, .slice none 0 0]) (cs' := [.int .i64 0, .int .i64 0, .int .i64 0, .slice none 0 0, .slice none 0 0, .slice none 0 0]) sz24 rfl rfl rfl rfl rfl rfl) ?_
        rintro _ _ _ ⟨rfl, rfl, rfl⟩
        refine J.val (v := .int .i64 0) rfl rfl (V.as rfl) ?_
        refine J.val (v := .int .i64 3) rfl rfl (V.as rfl) ?_
        refine J.nil ?_
        refine CJ.by (fun w hs => Sep.rowNil (e := 3) (t := (.int .i64)) hs) ?_
        refine CJ.by (fun w hs => Sep.rowNil (e := 3) (t := (.int .i64)) hs) ?_
        refine CJ.ret ?_
        have e := Option.some.inj h
        subst e
        exact ⟨_, [Row Hp.nil 3 (.int .i64) (.slice none (([] : List Int).length) 0) ([] : List Int), Row Hp.nil 3 (.int .i64) (.slice none (([] : List Int).length) 0) ([] : List Int)], Res.three rfl ⟨_, _, rfl, Ld.agg (cs := [.int .i64 0, .int .i64 0, .int .i64 0, .slice none 0 0, .slice none 0 0, .slice none 0 0]) Try.underlying24 sz24 rfl (Rd.cls 2 0 rfl rfl)⟩ rfl rfl, ⟨0, 0, 0, [], [], [], 0, 3, none, 0, none, 0, none, 0, rfl, rfl, isNil, rfl⟩, (Hp.le_refl _), fun w hs => (Sep.front 1 rfl (Sep.dropAt 2 rfl (Sep.dropAt 2 rfl hs)))⟩
      · have h := cf hc305 h
        refine CJ.skip ?_
        refine CJ.seq ?_
        refine CJ.region ?_
        refine J.val (v := .int .i64 0) rfl rfl (V.as rfl) ?_
        refine J.nil ?_
        refine CJ.seq ?_
        obtain ⟨o310, ho311, h⟩ := ob h
        refine CJ.meetN (fun ρ K' L' => ∃ (i309 : Int), i309 = o310 ∧ Fits [(0, .string ⟨xa.toArray⟩), (2, .pointer (some ⟨b289, 0, none⟩)), (5, .int .i64 i292), (6, .int .i64 i293), (8, .pointer (some ⟨b301, 0, none⟩)), (9, .int .i64 i309)] ρ ∧ K = K' ∧ L' = Cl b289 24 [.int .i64 0, .int .i64 0, .int .i64 0, .slice none 0 0, .slice none 0 0, .slice none 0 0] :: Cl b301 24 [.int .i64 i292, .int .i64 0, .int .i64 0, .slice none 0 0, .slice none 0 0, .slice none 0 0] :: F) ?_ ?_
        · skip
          refine CJ.seq ?_
          refine CJ.region ?_
          refine J.val (v := .int .i64 i292) rfl rfl (V.mv rfl) ?_
          refine J.val (v := .bool (decide (i292 = 1))) rfl rfl (V.eql rfl rfl) ?_
          refine J.nil ?_
          refine CJ.cond rfl (fun hc312 => ?_) (fun hc312 => ?_)
          · have ho311 := ct hc312 ho311
            refine CJ.region ?_
            refine J.val (v := .int .i64 1) rfl rfl (V.as rfl) ?_
            refine J.front 1 rfl ?_
            refine J.nil ?_
            have e := Option.some.inj ho311
            subst e
            exact ⟨rfl, ⟨1, rfl, ⟨rfl, rfl, rfl, rfl, rfl, rfl, trivial⟩, rfl, rfl⟩⟩
          · have ho311 := cf hc312 ho311
            refine CJ.front 1 rfl ?_
            refine CJ.skip ?_
            have e := Option.some.inj ho311
            subst e
            exact ⟨rfl, ⟨0, rfl, ⟨rfl, rfl, rfl, rfl, rfl, rfl, trivial⟩, rfl, rfl⟩⟩
        · rintro ρ _ _ ⟨i309, rfl, hf313, rfl, rfl⟩
          obtain ⟨ρ, rfl⟩ := hf313.ex
          refine PJ.done ?_
          refine CJ.seq ?_
          obtain ⟨o317, ho318, h⟩ := ob h
          refine CJ.meetN (fun ρ K' L' => ∃ (i316 : Int), i316 = o317 ∧ Fits [(0, .string ⟨xa.toArray⟩), (2, .pointer (some ⟨b289, 0, none⟩)), (5, .int .i64 i292), (6, .int .i64 i293), (8, .pointer (some ⟨b301, 0, none⟩)), (9, .int .i64 i316)] ρ ∧ K = K' ∧ L' = Cl b289 24 [.int .i64 0, .int .i64 0, .int .i64 0, .slice none 0 0, .slice none 0 0, .slice none 0 0] :: Cl b301 24 [.int .i64 i292, .int .i64 0, .int .i64 0, .slice none 0 0, .slice none 0 0, .slice none 0 0] :: F) ?_ ?_
          · skip
            refine CJ.seq ?_
            refine CJ.region ?_
            refine J.val (v := .int .i64 i292) rfl rfl (V.mv rfl) ?_
            refine J.val (v := .bool (decide (i292 = 4))) rfl rfl (V.eql rfl rfl) ?_
            refine J.nil ?_
            refine CJ.cond rfl (fun hc319 => ?_) (fun hc319 => ?_)
            · have ho318 := ct hc319 ho318
              refine CJ.region ?_
              refine J.val (v := .int .i64 3) rfl rfl (V.as rfl) ?_
              refine J.nil ?_
              have e := Option.some.inj ho318
              subst e
              exact ⟨rfl, ⟨3, rfl, ⟨rfl, rfl, rfl, rfl, rfl, rfl, trivial⟩, rfl, rfl⟩⟩
            · have ho318 := cf hc319 ho318
              refine CJ.skip ?_
              have e := Option.some.inj ho318
              subst e
              exact ⟨rfl, ⟨i309, rfl, ⟨rfl, rfl, rfl, rfl, rfl, rfl, trivial⟩, rfl, rfl⟩⟩
          · rintro ρ _ _ ⟨i316, rfl, hf320, rfl, rfl⟩
            obtain ⟨ρ, rfl⟩ := hf320.ex
            refine PJ.done ?_
            refine CJ.seq ?_
            refine CJ.region ?_
            refine J.val (v := .string ⟨xa.toArray⟩) rfl rfl (V.mv rfl) ?_
            refine J.val (v := .int .i64 i293) rfl rfl (V.mv rfl) ?_
            obtain ⟨y322, hy323, h⟩ := ob h
            refine J.val (v := .string ⟨y322.toArray⟩) rfl rfl (V.subs Try.underlying9 rfl (fun _ h => by cases h; exact ⟨_, rfl⟩) nofun nofun (fun _ => rfl) hy323) ?_
            refine J.val (v := .int .i64 i316) rfl rfl (V.mv rfl) ?_
            obtain ⟨r324, hr325, h⟩ := ob h
            refine J.op rfl (A.call (L1 := []) Try.call33 rfl (ref19_numbers_ok hr325) rfl rfl) ?_
            rintro _ _ _ ⟨v332, _, rfl, ⟨⟨l326, i327, i328, ad329, cp330, rfl, rfl, rfl⟩, rfl⟩, _, rfl⟩
            refine J.wit Row.hn (fun hn331 => ?_)
            refine J.val (v := .tuple #[.slice ad329 l326.length cp330, .int .i64 i327, .int .i64 i328]) rfl rfl (V.mv rfl) ?_
            refine J.val (v := .slice ad329 l326.length cp330) rfl rfl (V.ext rfl rfl) ?_
            refine J.val (v := .int .i64 i327) rfl rfl (V.ext rfl rfl) ?_
            refine J.val (v := .int .i64 i328) rfl rfl (V.ext rfl rfl) ?_
            refine J.val (v := .slice ad329 l326.length cp330) rfl rfl (V.as rfl) ?_
            refine J.val (v := .int .i64 i327) rfl rfl (V.as rfl) ?_
            refine J.val (v := .int .i64 i328) rfl rfl (V.as rfl) ?_
            refine J.nil ?_
            refine CJ.seq ?_
            refine CJ.seq ?_
            refine CJ.region ?_
            refine J.val (v := .int .i64 i328) rfl rfl (V.mv rfl) ?_
            refine J.val (v := .bool (!decide (i328 = 0))) rfl rfl (V.neq rfl rfl) ?_
            refine J.nil ?_
            refine CJ.cond rfl (fun hc336 => ?_) (fun hc336 => ?_)
            · have h := ct hc336 h
              refine CJ.seq ?_
              refine CJ.region ?_
              refine J.val (v := .agg #[.int .i64 0, .int .i64 0, .int .i64 0, .slice none 0 0, .slice none 0 0, .slice none 0 0]) rfl rfl (V.build inf24 places24 rfl rfl) ?_
              refine J.val (v := .int .i64 i328) rfl rfl (V.mv rfl) ?_
              refine J.front 1 rfl ?_
              refine J.op rfl (A.store (v := .agg #[.int .i64 0, .int .i64 0, .int .i64 0, .slice none 0 0, .slice none 0 0, .slice none 0 0]) (cs' := [.int .i64 0, .int .i64 0, .int .i64 0, .slice none 0 0, .slice none 0 0, .slice none 0 0]) sz24 rfl rfl rfl rfl rfl rfl) ?_
              rintro _ _ _ ⟨rfl, rfl, rfl⟩
              refine J.val (v := .int .i64 0) rfl rfl (V.as rfl) ?_
              refine J.val (v := .int .i64 i328) rfl rfl (V.as rfl) ?_
              refine J.nil ?_
              refine CJ.by (fun w hs => Sep.rowNil (e := 3) (t := (.int .i64)) hs) ?_
              refine CJ.by (fun w hs => Sep.rowNil (e := 3) (t := (.int .i64)) hs) ?_
              refine CJ.ret ?_
              have e := Option.some.inj h
              subst e
              exact ⟨_, [Row Hp.nil 3 (.int .i64) (.slice none (([] : List Int).length) 0) ([] : List Int), Row Hp.nil 3 (.int .i64) (.slice none (([] : List Int).length) 0) ([] : List Int)], Res.three rfl ⟨_, _, rfl, Ld.agg (cs := [.int .i64 0, .int .i64 0, .int .i64 0, .slice none 0 0, .slice none 0 0, .slice none 0 0]) Try.underlying24 sz24 rfl (Rd.cls 2 0 rfl rfl)⟩ rfl rfl, ⟨0, 0, 0, [], [], [], 0, i328, none, 0, none, 0, none, 0, rfl, rfl, isNil, rfl⟩, (Hp.le_refl _), fun w hs => (Sep.front 1 rfl (Sep.dropAt 2 rfl (Sep.dropAt 2 rfl (Sep.dropAt 2 rfl hs))))⟩
            · have h := cf hc336 h
              refine CJ.skip ?_
              refine CJ.seq ?_
              refine CJ.region ?_
              refine J.val (v := .int .i64 i293) rfl rfl (V.mv rfl) ?_
              refine J.val (v := .int .i64 i327) rfl rfl (V.mv rfl) ?_
              refine J.val (v := .int .i64 (IntKind.wrap .i64 (i293 + i327))) rfl rfl (V.add rfl rfl) ?_
              refine J.val (v := .int .i64 (IntKind.wrap .i64 (i293 + i327))) rfl rfl (V.as rfl) ?_
              refine J.nil ?_
              refine CJ.seq ?_
              refine CJ.persist (Hp.nil_le _) (by decide) (fun K345 hK346 f347 => ?_)
              obtain ⟨o353, ho354, h⟩ := ob h
              refine CJ.meetN (fun ρ K' L' => ∃ (l349 : (List Int)) (ad350 : Option Addr) (cp351 : Nat), l349 = o353 ∧ Fits [(0, .string ⟨xa.toArray⟩), (2, .pointer (some ⟨b289, 0, none⟩)), (5, .int .i64 i292), (6, .int .i64 (IntKind.wrap .i64 (i293 + i327))), (8, .pointer (some ⟨b301, 0, none⟩)), (10, .slice ad329 l326.length cp330)] ρ ∧ K345 = K' ∧ Is K345 (.sl (.int .i64)) [.slice ad350 l349.length cp351] l349 ∧ L' = Cl b289 24 [.int .i64 0, .int .i64 0, .int .i64 0, .slice none 0 0, .slice none 0 0, .slice none 0 0] :: Cl b301 24 [.int .i64 i292, .int .i64 0, .int .i64 0, .slice ad350 l349.length cp351, .slice none 0 0, .slice none 0 0] :: F) ?_ ?_
              · skip
                refine CJ.seq ?_
                refine CJ.region ?_
                refine J.val (v := .int .i64 i292) rfl rfl (V.mv rfl) ?_
                refine J.val (v := .bool (decide (i292 = 1))) rfl rfl (V.eql rfl rfl) ?_
                refine J.nil ?_
                refine CJ.cond rfl (fun hc355 => ?_) (fun hc355 => ?_)
                · have ho354 := ct hc355 ho354
                  refine CJ.region ?_
                  refine J.val (v := .slice ad329 l326.length cp330) rfl rfl (V.mv rfl) ?_
                  refine J.val rfl rfl (V.fad Try.underlying24 rfl nz22 rfl) ?_
                  refine J.front 1 rfl ?_
                  refine J.op rfl (A.store1 (v := .slice ad329 l326.length cp330) (cs' := [.int .i64 i292, .int .i64 0, .int .i64 0, .slice ad329 l326.length cp330, .slice none 0 0, .slice none 0 0]) sz22 rfl rfl rfl rfl rfl rfl) ?_
                  rintro _ _ _ ⟨rfl, rfl, rfl⟩
                  refine J.front 1 rfl ?_
                  refine J.nil ?_
                  have e := Option.some.inj ho354
                  subst e
                  exact ⟨rfl, ⟨l326, ad329, cp330, rfl, ⟨rfl, rfl, rfl, rfl, rfl, rfl, trivial⟩, rfl, f347, rfl⟩⟩
                · have ho354 := cf hc355 ho354
                  refine CJ.skip ?_
                  have e := Option.some.inj ho354
                  subst e
                  exact ⟨rfl, ⟨[], none, 0, rfl, ⟨rfl, rfl, rfl, rfl, rfl, rfl, trivial⟩, rfl, isNil, rfl⟩⟩
              · rintro ρ _ _ ⟨l349, ad350, cp351, rfl, hf356, rfl, f352, rfl⟩
                obtain ⟨ρ, rfl⟩ := hf356.ex
                refine PJ.done ?_
                refine CJ.seq ?_
                obtain ⟨o389, ho390, h⟩ := ob h
                refine CJ.meetN (fun ρ K' L' => ∃ (i383 : Int) (i384 : Int) (l385 : (List Int)) (ad386 : Option Addr) (cp387 : Nat), (i383, i384, l385) = o389 ∧ Fits [(0, .string ⟨xa.toArray⟩), (2, .pointer (some ⟨b289, 0, none⟩)), (5, .int .i64 i292), (6, .int .i64 (IntKind.wrap .i64 (i293 + i327))), (8, .pointer (some ⟨b301, 0, none⟩))] ρ ∧ K345 = K' ∧ Is K345 (.sl (.int .i64)) [.slice ad386 l385.length cp387] l385 ∧ L' = Cl b289 24 [.int .i64 0, .int .i64 0, .int .i64 0, .slice none 0 0, .slice none 0 0, .slice none 0 0] :: Cl b301 24 [.int .i64 i292, .int .i64 i383, .int .i64 i384, .slice ad386 l385.length cp387, .slice none 0 0, .slice none 0 0] :: F) ?_ ?_
                · skip
                  refine CJ.seq ?_
                  refine CJ.region ?_
                  refine J.val (v := .int .i64 i292) rfl rfl (V.mv rfl) ?_
                  refine J.val (v := .bool (decide (i292 = 4))) rfl rfl (V.eql rfl rfl) ?_
                  refine J.nil ?_
                  refine CJ.cond rfl (fun hc391 => ?_) (fun hc391 => ?_)
                  · have ho390 := ct hc391 ho390
                    refine CJ.seq ?_
                    refine CJ.region ?_
                    refine J.val (v := .slice ad329 l326.length cp330) rfl rfl (V.mv rfl) ?_
                    obtain ⟨x392, hx393, ho390⟩ := ob ho390
                    obtain ⟨p394, p395, p396⟩ := getI_some hx393
                    obtain ⟨b397, o398, e399, a400⟩ := (f347).at p395
                    refine J.val rfl rfl (V.iad Try.underlying22 sz3 rfl e399 rfl p394 p396) ?_
                    refine J.val (v := .int .i64 x392) rfl rfl (V.ld rfl (Ld.sc sc3 (Rd.k (a400).int (Hp.le_refl _)))) ?_
                    refine J.val rfl rfl (V.fad Try.underlying24 rfl nz3 rfl) ?_
                    refine J.front 1 rfl ?_
                    refine J.op rfl (A.store1 (v := .int .i64 x392) (cs' := [.int .i64 i292, .int .i64 x392, .int .i64 0, .slice ad350 l349.length cp351, .slice none 0 0, .slice none 0 0]) sz3 rfl rfl rfl rfl rfl rfl) ?_
                    rintro _ _ _ ⟨rfl, rfl, rfl⟩
                    refine J.nil ?_
                    refine CJ.seq ?_
                    refine CJ.region ?_
                    refine J.val (v := .slice ad329 l326.length cp330) rfl rfl (V.mv rfl) ?_
                    obtain ⟨x401, hx402, ho390⟩ := ob ho390
                    obtain ⟨p403, p404, p405⟩ := getI_some hx402
                    obtain ⟨b406, o407, e408, a409⟩ := (f347).at p404
                    refine J.val rfl rfl (V.iad Try.underlying22 sz3 rfl e408 rfl p403 p405) ?_
                    refine J.val (v := .int .i64 x401) rfl rfl (V.ld rfl (Ld.sc sc3 (Rd.k (a409).int (Hp.le_refl _)))) ?_
                    refine J.val rfl rfl (V.fad Try.underlying24 rfl nz3 rfl) ?_
                    refine J.op rfl (A.store1 (v := .int .i64 x401) (cs' := [.int .i64 i292, .int .i64 x392, .int .i64 x401, .slice ad350 l349.length cp351, .slice none 0 0, .slice none 0 0]) sz3 rfl rfl rfl rfl rfl rfl) ?_
                    rintro _ _ _ ⟨rfl, rfl, rfl⟩
                    refine J.nil ?_
                    refine CJ.region ?_
                    refine J.val (v := .slice ad329 l326.length cp330) rfl rfl (V.mv rfl) ?_
                    obtain ⟨y410, hy411, ho390⟩ := ob ho390
                    obtain ⟨ad412, cp413, hv414, f415⟩ := V.subI (tp := (.int .i64)) Try.underlying22 sz3 f347 hy411
                    refine J.val (v := .slice ad412 y410.length cp413) rfl rfl (hv414 rfl (fun _ h => by cases h; exact ⟨_, rfl⟩) nofun nofun (fun _ => rfl)) ?_
                    refine J.val rfl rfl (V.fad Try.underlying24 rfl nz22 rfl) ?_
                    refine J.op rfl (A.store1 (v := .slice ad412 y410.length cp413) (cs' := [.int .i64 i292, .int .i64 x392, .int .i64 x401, .slice ad412 y410.length cp413, .slice none 0 0, .slice none 0 0]) sz22 rfl rfl rfl rfl rfl rfl) ?_
                    rintro _ _ _ ⟨rfl, rfl, rfl⟩
                    refine J.front 1 rfl ?_
                    refine J.nil ?_
                    have e := Option.some.inj ho390
                    subst e
                    exact ⟨rfl, ⟨x392, x401, y410, ad412, cp413, rfl, ⟨rfl, rfl, rfl, rfl, rfl, trivial⟩, rfl, f415, rfl⟩⟩
                  · have ho390 := cf hc391 ho390
                    refine CJ.skip ?_
                    have e := Option.some.inj ho390
                    subst e
                    exact ⟨rfl, ⟨0, 0, l349, ad350, cp351, rfl, ⟨rfl, rfl, rfl, rfl, rfl, trivial⟩, rfl, f352, rfl⟩⟩
                · rintro ρ _ _ ⟨i383, i384, l385, ad386, cp387, rfl, hf416, rfl, f388, rfl⟩
                  obtain ⟨ρ, rfl⟩ := hf416.ex
                  refine PJ.done ?_
                  refine CJ.seq ?_
                  obtain ⟨o488, ho489, h⟩ := ob h
                  refine CJ.joinN (o := o488) (fun s ρ K' L' => ∃ (i473 : Int) (l474 : (List Int)) (l478 : (List Int)) (l483 : (List Int)) (ad475 : Option Addr) (cp476 : Nat) (ad479 : Option Addr) (cp480 : Nat) (ad484 : Option Addr) (cp485 : Nat), (i473, l474, l478, l483) = s ∧ Fits [(2, .pointer (some ⟨b289, 0, none⟩)), (6, .int .i64 i473), (8, .pointer (some ⟨b301, 0, none⟩))] ρ ∧ Hp.le K345 K' ∧ Is K' (.sl (.int .i64)) [.slice ad475 l474.length cp476] l474 ∧ L' = Cl b289 24 [.int .i64 0, .int .i64 0, .int .i64 0, .slice none 0 0, .slice none 0 0, .slice none 0 0] :: Cl b301 24 [.int .i64 i292, .int .i64 i383, .int .i64 i384, .slice ad475 l474.length cp476, .slice ad479 l478.length cp480, .slice ad484 l483.length cp485] :: Row Hp.nil 3 (.int .i64) (.slice ad479 l478.length cp480) l478 :: Row Hp.nil 3 (.int .i64) (.slice ad484 l483.length cp485) l483 :: F) ?_ ?_
                  · skip
                    refine CJ.seq ?_
                    refine CJ.region ?_
                    refine J.val (v := .int .i64 i292) rfl rfl (V.mv rfl) ?_
                    refine J.val (v := .bool (decide (i292 = 2))) rfl rfl (V.eql rfl rfl) ?_
                    refine J.val (v := .bool (decide (i292 = 2))) rfl rfl (V.mv rfl) ?_
                    refine J.cut 3 ?_
                    refine @J.meet _ _ _ _ _ _ _ _ _ _ (fun ρ K' L' => Fits [(80, .bool ((decide (i292 = 2)) || (decide (i292 = 4)))), (0, .string ⟨xa.toArray⟩), (2, .pointer (some ⟨b289, 0, none⟩)), (5, .int .i64 i292), (6, .int .i64 (IntKind.wrap .i64 (i293 + i327))), (8, .pointer (some ⟨b301, 0, none⟩))] ρ ∧ K345 = K' ∧ L' = Cl b289 24 [.int .i64 0, .int .i64 0, .int .i64 0, .slice none 0 0, .slice none 0 0, .slice none 0 0] :: Cl b301 24 [.int .i64 i292, .int .i64 i383, .int .i64 i384, .slice ad386 l385.length cp387, .slice none 0 0, .slice none 0 0] :: F) ?_ ?_
                    · skip
                      rcases bt (decide (i292 = 2)) with hc492 | hc492
                      · skip
                        refine J.skip rfl rfl rfl rfl hc492 ?_
                        refine J.skip rfl rfl rfl rfl hc492 ?_
                        refine J.val (v := .bool true) rfl rfl (V.pickT rfl hc492 rfl) ?_
                        refine J.nil ?_
                        exact ⟨rfl, ⟨(by simp only [hc492]; rfl), rfl, rfl, rfl, rfl, rfl, trivial⟩, rfl, rfl⟩
                      · skip
                        refine J.run rfl rfl rfl hc492 ?_
                        refine J.val (v := .int .i64 i292) rfl rfl (V.mv rfl) ?_
                        refine J.run rfl rfl rfl hc492 ?_
                        refine J.val (v := .bool (decide (i292 = 4))) rfl rfl (V.eql rfl rfl) ?_
                        refine J.val (v := .bool (decide (i292 = 4))) rfl rfl (V.pickF rfl hc492 rfl) ?_
                        refine J.nil ?_
                        exact ⟨rfl, ⟨(by simp only [hc492]; rfl), rfl, rfl, rfl, rfl, rfl, trivial⟩, rfl, rfl⟩
                    · rintro ρ _ _ ⟨hf, rfl, rfl⟩
                      obtain ⟨ρ, rfl⟩ := hf.ex
                      refine J.nil ?_
                      refine CJ.cond rfl (fun hc493 => ?_) (fun hc493 => ?_)
                      · have ho489 := ct hc493 ho489
                        refine CJ.seq ?_
                        refine CJ.region ?_
                        refine J.val (v := .string ⟨xa.toArray⟩) rfl rfl (V.mv rfl) ?_
                        refine J.val (v := .int .i64 (IntKind.wrap .i64 (i293 + i327))) rfl rfl (V.mv rfl) ?_
                        obtain ⟨y494, hy495, ho489⟩ := ob ho489
                        refine J.val (v := .string ⟨y494.toArray⟩) rfl rfl (V.subs Try.underlying9 rfl (fun _ h => by cases h; exact ⟨_, rfl⟩) nofun nofun (fun _ => rfl) hy495) ?_
                        obtain ⟨r496, hr497, ho489⟩ := ob ho489
                        refine J.op rfl (A.call (L1 := []) Try.call34 rfl (ref19_taken_ok hr497) rfl rfl) ?_
                        rintro _ _ _ ⟨v504, _, rfl, ⟨⟨l498, i499, i500, ad501, cp502, rfl, rfl, rfl⟩, rfl⟩, _, rfl⟩
                        refine J.wit Row.hn (fun hn503 => ?_)
                        refine J.val (v := .tuple #[.slice ad501 l498.length cp502, .int .i64 i499, .int .i64 i500]) rfl rfl (V.mv rfl) ?_
                        refine J.val (v := .slice ad501 l498.length cp502) rfl rfl (V.ext rfl rfl) ?_
                        refine J.val (v := .int .i64 i499) rfl rfl (V.ext rfl rfl) ?_
                        refine J.val (v := .int .i64 i500) rfl rfl (V.ext rfl rfl) ?_
                        refine J.val (v := .slice ad501 l498.length cp502) rfl rfl (V.as rfl) ?_
                        refine J.val (v := .int .i64 i499) rfl rfl (V.as rfl) ?_
                        refine J.val (v := .int .i64 i500) rfl rfl (V.as rfl) ?_
                        refine J.nil ?_
                        refine CJ.seq ?_
                        refine CJ.seq ?_
                        refine CJ.region ?_
                        refine J.val (v := .int .i64 i500) rfl rfl (V.mv rfl) ?_
                        refine J.val (v := .bool (!decide (i500 = 0))) rfl rfl (V.neq rfl rfl) ?_
                        refine J.nil ?_
                        refine CJ.cond rfl (fun hc508 => ?_) (fun hc508 => ?_)
                        · have ho489 := ct hc508 ho489
                          refine CJ.seq ?_
                          refine CJ.region ?_
                          refine J.val (v := .agg #[.int .i64 0, .int .i64 0, .int .i64 0, .slice none 0 0, .slice none 0 0, .slice none 0 0]) rfl rfl (V.build inf24 places24 rfl rfl) ?_
                          refine J.val (v := .int .i64 i500) rfl rfl (V.mv rfl) ?_
                          refine J.front 1 rfl ?_
                          refine J.op rfl (A.store (v := .agg #[.int .i64 0, .int .i64 0, .int .i64 0, .slice none 0 0, .slice none 0 0, .slice none 0 0]) (cs' := [.int .i64 0, .int .i64 0, .int .i64 0, .slice none 0 0, .slice none 0 0, .slice none 0 0]) sz24 rfl rfl rfl rfl rfl rfl) ?_
                          rintro _ _ _ ⟨rfl, rfl, rfl⟩
                          refine J.val (v := .int .i64 0) rfl rfl (V.as rfl) ?_
                          refine J.val (v := .int .i64 i500) rfl rfl (V.as rfl) ?_
                          refine J.nil ?_
                          refine CJ.by (fun w hs => Sep.rowNil (e := 3) (t := (.int .i64)) hs) ?_
                          refine CJ.by (fun w hs => Sep.rowNil (e := 3) (t := (.int .i64)) hs) ?_
                          refine CJ.ret ?_
                          have e := Option.some.inj ho489
                          subst e
                          refine .inr ⟨nofun, ?_⟩
                          have e := Option.some.inj h
                          subst e
                          exact ⟨_, [Row Hp.nil 3 (.int .i64) (.slice none (([] : List Int).length) 0) ([] : List Int), Row Hp.nil 3 (.int .i64) (.slice none (([] : List Int).length) 0) ([] : List Int)], Res.three rfl ⟨_, _, rfl, Ld.agg (cs := [.int .i64 0, .int .i64 0, .int .i64 0, .slice none 0 0, .slice none 0 0, .slice none 0 0]) Try.underlying24 sz24 rfl (Rd.cls 2 0 rfl rfl)⟩ rfl rfl, ⟨0, 0, 0, [], [], [], 0, i500, none, 0, none, 0, none, 0, rfl, rfl, isNil, rfl⟩, hK346, fun w hs => (Sep.front 1 rfl (Sep.dropAt 2 rfl (Sep.dropAt 2 rfl (Sep.dropAt 2 rfl hs))))⟩
                        · have ho489 := cf hc508 ho489
                          refine CJ.skip ?_
                          refine CJ.seq ?_
                          refine CJ.seq ?_
                          refine CJ.region ?_
                          refine J.val (v := .int .i64 i292) rfl rfl (V.mv rfl) ?_
                          refine J.val (v := .bool (decide (i292 = 2))) rfl rfl (V.eql rfl rfl) ?_
                          refine J.val (v := .bool (decide (i292 = 2))) rfl rfl (V.mv rfl) ?_
                          refine J.cut 4 ?_
                          refine @J.meet _ _ _ _ _ _ _ _ _ _ (fun ρ K' L' => Fits [(99, .bool ((decide (i292 = 2)) && (decide ((((l498.length : Nat) : Int)) = 0)))), (0, .string ⟨xa.toArray⟩), (2, .pointer (some ⟨b289, 0, none⟩)), (5, .int .i64 i292), (6, .int .i64 (IntKind.wrap .i64 (i293 + i327))), (8, .pointer (some ⟨b301, 0, none⟩)), (13, .slice ad501 l498.length cp502), (14, .int .i64 i499)] ρ ∧ K345 = K' ∧ L' = Row Hp.nil 3 (.int .i64) (.slice ad501 l498.length cp502) l498 :: Cl b289 24 [.int .i64 0, .int .i64 0, .int .i64 0, .slice none 0 0, .slice none 0 0, .slice none 0 0] :: Cl b301 24 [.int .i64 i292, .int .i64 i383, .int .i64 i384, .slice ad386 l385.length cp387, .slice none 0 0, .slice none 0 0] :: F) ?_ ?_
                          · skip
                            rcases bt (decide (i292 = 2)) with hc513 | hc513
                            · skip
                              refine J.run rfl rfl rfl hc513 ?_
                              refine J.val (v := .slice ad501 l498.length cp502) rfl rfl (V.mv rfl) ?_
                              refine J.run rfl rfl rfl hc513 ?_
                              refine J.val (v := .int .i64 (((l498.length : Nat) : Int))) rfl rfl (V.len Try.underlying22 rfl) ?_
                              refine J.run rfl rfl rfl hc513 ?_
                              refine J.val (v := .bool (decide ((((l498.length : Nat) : Int)) = 0))) rfl rfl (V.eql rfl rfl) ?_
                              refine J.val (v := .bool (decide ((((l498.length : Nat) : Int)) = 0))) rfl rfl (V.pickT rfl hc513 rfl) ?_
                              refine J.nil ?_
                              exact ⟨rfl, ⟨(by simp only [hc513]; rfl), rfl, rfl, rfl, rfl, rfl, rfl, rfl, trivial⟩, rfl, rfl⟩
                            · skip
                              refine J.skip rfl rfl rfl rfl hc513 ?_
                              refine J.skip rfl rfl rfl rfl hc513 ?_
                              refine J.skip rfl rfl rfl rfl hc513 ?_
                              refine J.val (v := .bool false) rfl rfl (V.pickF rfl hc513 rfl) ?_
                              refine J.nil ?_
                              exact ⟨rfl, ⟨(by simp only [hc513]; rfl), rfl, rfl, rfl, rfl, rfl, rfl, rfl, trivial⟩, rfl, rfl⟩
                          · rintro ρ _ _ ⟨hf, rfl, rfl⟩
                            obtain ⟨ρ, rfl⟩ := hf.ex
                            refine J.nil ?_
                            refine CJ.cond rfl (fun hc514 => ?_) (fun hc514 => ?_)
                            · have ho489 := ct hc514 ho489
                              refine CJ.seq ?_
                              refine CJ.region ?_
                              refine J.val (v := .agg #[.int .i64 0, .int .i64 0, .int .i64 0, .slice none 0 0, .slice none 0 0, .slice none 0 0]) rfl rfl (V.build inf24 places24 rfl rfl) ?_
                              refine J.front 1 rfl ?_
                              refine J.op rfl (A.store (v := .agg #[.int .i64 0, .int .i64 0, .int .i64 0, .slice none 0 0, .slice none 0 0, .slice none 0 0]) (cs' := [.int .i64 0, .int .i64 0, .int .i64 0, .slice none 0 0, .slice none 0 0, .slice none 0 0]) sz24 rfl rfl rfl rfl rfl rfl) ?_
                              rintro _ _ _ ⟨rfl, rfl, rfl⟩
                              refine J.val (v := .int .i64 0) rfl rfl (V.as rfl) ?_
                              refine J.val (v := .int .i64 3) rfl rfl (V.as rfl) ?_
                              refine J.nil ?_
                              refine CJ.by (fun w hs => Sep.rowNil (e := 3) (t := (.int .i64)) hs) ?_
                              refine CJ.by (fun w hs => Sep.rowNil (e := 3) (t := (.int .i64)) hs) ?_
                              refine CJ.ret ?_
                              have e := Option.some.inj ho489
                              subst e
                              refine .inr ⟨nofun, ?_⟩
                              have e := Option.some.inj h
                              subst e
                              exact ⟨_, [Row Hp.nil 3 (.int .i64) (.slice none (([] : List Int).length) 0) ([] : List Int), Row Hp.nil 3 (.int .i64) (.slice none (([] : List Int).length) 0) ([] : List Int)], Res.three rfl ⟨_, _, rfl, Ld.agg (cs := [.int .i64 0, .int .i64 0, .int .i64 0, .slice none 0 0, .slice none 0 0, .slice none 0 0]) Try.underlying24 sz24 rfl (Rd.cls 2 0 rfl rfl)⟩ rfl rfl, ⟨0, 0, 0, [], [], [], 0, 3, none, 0, none, 0, none, 0, rfl, rfl, isNil, rfl⟩, hK346, fun w hs => (Sep.front 1 rfl (Sep.dropAt 2 rfl (Sep.dropAt 2 rfl (Sep.dropAt 2 rfl hs))))⟩
                            · have ho489 := cf hc514 ho489
                              refine CJ.skip ?_
                              refine CJ.seq ?_
                              refine CJ.region ?_
                              refine J.val (v := .int .i64 (IntKind.wrap .i64 (i293 + i327))) rfl rfl (V.mv rfl) ?_
                              refine J.val (v := .int .i64 i499) rfl rfl (V.mv rfl) ?_
                              refine J.val (v := .int .i64 (IntKind.wrap .i64 ((IntKind.wrap .i64 (i293 + i327)) + i499))) rfl rfl (V.add rfl rfl) ?_
                              refine J.val (v := .int .i64 (IntKind.wrap .i64 ((IntKind.wrap .i64 (i293 + i327)) + i499))) rfl rfl (V.as rfl) ?_
                              refine J.nil ?_
                              refine CJ.seq ?_
                              refine CJ.region ?_
                              refine J.val (v := .string ⟨xa.toArray⟩) rfl rfl (V.mv rfl) ?_
                              refine J.val (v := .int .i64 (IntKind.wrap .i64 ((IntKind.wrap .i64 (i293 + i327)) + i499))) rfl rfl (V.mv rfl) ?_
                              obtain ⟨y517, hy518, ho489⟩ := ob ho489
                              refine J.val (v := .string ⟨y517.toArray⟩) rfl rfl (V.subs Try.underlying9 rfl (fun _ h => by cases h; exact ⟨_, rfl⟩) nofun nofun (fun _ => rfl) hy518) ?_
                              obtain ⟨r519, hr520, ho489⟩ := ob ho489
                              refine J.op rfl (A.call (L1 := []) Try.call34 rfl (ref19_taken_ok hr520) rfl rfl) ?_
                              rintro _ _ _ ⟨v527, _, rfl, ⟨⟨l521, i522, i523, ad524, cp525, rfl, rfl, rfl⟩, rfl⟩, _, rfl⟩
                              refine J.wit Row.hn (fun hn526 => ?_)
                              refine J.val (v := .tuple #[.slice ad524 l521.length cp525, .int .i64 i522, .int .i64 i523]) rfl rfl (V.mv rfl) ?_
                              refine J.val (v := .slice ad524 l521.length cp525) rfl rfl (V.ext rfl rfl) ?_
                              refine J.val (v := .int .i64 i522) rfl rfl (V.ext rfl rfl) ?_
                              refine J.val (v := .int .i64 i523) rfl rfl (V.ext rfl rfl) ?_
                              refine J.val (v := .slice ad524 l521.length cp525) rfl rfl (V.as rfl) ?_
                              refine J.val (v := .int .i64 i522) rfl rfl (V.as rfl) ?_
                              refine J.val (v := .int .i64 i523) rfl rfl (V.as rfl) ?_
                              refine J.nil ?_
                              refine CJ.seq ?_
                              refine CJ.seq ?_
                              refine CJ.region ?_
                              refine J.val (v := .int .i64 i523) rfl rfl (V.mv rfl) ?_
                              refine J.val (v := .bool (!decide (i523 = 0))) rfl rfl (V.neq rfl rfl) ?_
                              refine J.nil ?_
                              refine CJ.cond rfl (fun hc531 => ?_) (fun hc531 => ?_)
                              · have ho489 := ct hc531 ho489
                                refine CJ.seq ?_
                                refine CJ.region ?_
                                refine J.val (v := .agg #[.int .i64 0, .int .i64 0, .int .i64 0, .slice none 0 0, .slice none 0 0, .slice none 0 0]) rfl rfl (V.build inf24 places24 rfl rfl) ?_
                                refine J.val (v := .int .i64 i523) rfl rfl (V.mv rfl) ?_
                                refine J.front 2 rfl ?_
                                refine J.op rfl (A.store (v := .agg #[.int .i64 0, .int .i64 0, .int .i64 0, .slice none 0 0, .slice none 0 0, .slice none 0 0]) (cs' := [.int .i64 0, .int .i64 0, .int .i64 0, .slice none 0 0, .slice none 0 0, .slice none 0 0]) sz24 rfl rfl rfl rfl rfl rfl) ?_
                                rintro _ _ _ ⟨rfl, rfl, rfl⟩
                                refine J.val (v := .int .i64 0) rfl rfl (V.as rfl) ?_
                                refine J.val (v := .int .i64 i523) rfl rfl (V.as rfl) ?_
                                refine J.nil ?_
                                refine CJ.by (fun w hs => Sep.rowNil (e := 3) (t := (.int .i64)) hs) ?_
                                refine CJ.by (fun w hs => Sep.rowNil (e := 3) (t := (.int .i64)) hs) ?_
                                refine CJ.ret ?_
                                have e := Option.some.inj ho489
                                subst e
                                refine .inr ⟨nofun, ?_⟩
                                have e := Option.some.inj h
                                subst e
                                exact ⟨_, [Row Hp.nil 3 (.int .i64) (.slice none (([] : List Int).length) 0) ([] : List Int), Row Hp.nil 3 (.int .i64) (.slice none (([] : List Int).length) 0) ([] : List Int)], Res.three rfl ⟨_, _, rfl, Ld.agg (cs := [.int .i64 0, .int .i64 0, .int .i64 0, .slice none 0 0, .slice none 0 0, .slice none 0 0]) Try.underlying24 sz24 rfl (Rd.cls 2 0 rfl rfl)⟩ rfl rfl, ⟨0, 0, 0, [], [], [], 0, i523, none, 0, none, 0, none, 0, rfl, rfl, isNil, rfl⟩, hK346, fun w hs => (Sep.front 1 rfl (Sep.dropAt 2 rfl (Sep.dropAt 2 rfl (Sep.dropAt 2 rfl (Sep.dropAt 2 rfl hs)))))⟩
                              · have ho489 := cf hc531 ho489
                                refine CJ.skip ?_
                                refine CJ.seq ?_
                                refine CJ.region ?_
                                refine J.val (v := .int .i64 (IntKind.wrap .i64 ((IntKind.wrap .i64 (i293 + i327)) + i499))) rfl rfl (V.mv rfl) ?_
                                refine J.val (v := .int .i64 i522) rfl rfl (V.mv rfl) ?_
                                refine J.val (v := .int .i64 (IntKind.wrap .i64 ((IntKind.wrap .i64 ((IntKind.wrap .i64 (i293 + i327)) + i499)) + i522))) rfl rfl (V.add rfl rfl) ?_
                                refine J.val (v := .int .i64 (IntKind.wrap .i64 ((IntKind.wrap .i64 ((IntKind.wrap .i64 (i293 + i327)) + i499)) + i522))) rfl rfl (V.as rfl) ?_
                                refine J.nil ?_
                                refine CJ.seq ?_
                                refine CJ.region ?_
                                refine J.val (v := .slice ad524 l521.length cp525) rfl rfl (V.mv rfl) ?_
                                refine J.val rfl rfl (V.fad Try.underlying24 rfl nz22 rfl) ?_
                                refine J.front 3 rfl ?_
                                refine J.op rfl (A.store1 (v := .slice ad524 l521.length cp525) (cs' := [.int .i64 i292, .int .i64 i383, .int .i64 i384, .slice ad386 l385.length cp387, .slice ad524 l521.length cp525, .slice none 0 0]) sz22 rfl rfl rfl rfl rfl rfl) ?_
                                rintro _ _ _ ⟨rfl, rfl, rfl⟩
                                refine J.nil ?_
                                refine CJ.seq ?_
                                refine CJ.region ?_
                                refine J.val (v := .int .i64 i292) rfl rfl (V.mv rfl) ?_
                                refine J.val (v := .bool (decide (i292 = 2))) rfl rfl (V.eql rfl rfl) ?_
                                refine J.nil ?_
                                refine CJ.cond rfl (fun hc534 => ?_) (fun hc534 => ?_)
                                · have ho489 := ct hc534 ho489
                                  refine CJ.region ?_
                                  refine J.val (v := .slice ad501 l498.length cp502) rfl rfl (V.mv rfl) ?_
                                  refine J.val rfl rfl (V.fad Try.underlying24 rfl nz22 rfl) ?_
                                  refine J.op rfl (A.store1 (v := .slice ad501 l498.length cp502) (cs' := [.int .i64 i292, .int .i64 i383, .int .i64 i384, .slice ad501 l498.length cp502, .slice ad524 l521.length cp525, .slice none 0 0]) sz22 rfl rfl rfl rfl rfl rfl) ?_
                                  rintro _ _ _ ⟨rfl, rfl, rfl⟩
                                  refine J.front 2 rfl ?_
                                  refine J.persist (Hp.nil_le _) (by decide) (fun K535 hK536 f537 => ?_)
                                  refine J.by (fun w hs => Sep.rowNil (e := 3) (t := (.int .i64)) hs) ?_
                                  refine J.front 2 rfl ?_
                                  refine J.front 2 rfl ?_
                                  refine J.front 3 rfl ?_
                                  refine J.nil ?_
                                  have e := Option.some.inj ho489
                                  subst e
                                  exact .inl ⟨rfl, _, rfl, ⟨IntKind.wrap .i64 ((IntKind.wrap .i64 ((IntKind.wrap .i64 (i293 + i327)) + i499)) + i522), l498, l521, [], ad501, cp502, ad524, cp525, none, 0, rfl, ⟨rfl, rfl, rfl, trivial⟩, hK536, f537, rfl⟩⟩
                                · have ho489 := cf hc534 ho489
                                  refine CJ.region ?_
                                  refine J.val (v := .slice ad501 l498.length cp502) rfl rfl (V.mv rfl) ?_
                                  refine J.val rfl rfl (V.fad Try.underlying24 rfl nz22 rfl) ?_
                                  refine J.op rfl (A.store1 (v := .slice ad501 l498.length cp502) (cs' := [.int .i64 i292, .int .i64 i383, .int .i64 i384, .slice ad386 l385.length cp387, .slice ad524 l521.length cp525, .slice ad501 l498.length cp502]) sz22 rfl rfl rfl rfl rfl rfl) ?_
                                  rintro _ _ _ ⟨rfl, rfl, rfl⟩
                                  refine J.front 2 rfl ?_
                                  refine J.front 2 rfl ?_
                                  refine J.front 2 rfl ?_
                                  refine J.front 3 rfl ?_
                                  refine J.nil ?_
                                  have e := Option.some.inj ho489
                                  subst e
                                  exact .inl ⟨rfl, _, rfl, ⟨IntKind.wrap .i64 ((IntKind.wrap .i64 ((IntKind.wrap .i64 (i293 + i327)) + i499)) + i522), l385, l521, l498, ad386, cp387, ad524, cp525, ad501, cp502, rfl, ⟨rfl, rfl, rfl, trivial⟩, (Hp.le_refl _), f388, rfl⟩⟩
                      · have ho489 := cf hc493 ho489
                        refine CJ.by (fun w hs => Sep.rowNil (e := 3) (t := (.int .i64)) hs) ?_
                        refine CJ.by (fun w hs => Sep.rowNil (e := 3) (t := (.int .i64)) hs) ?_
                        refine CJ.front 1 rfl ?_
                        refine CJ.front 3 rfl ?_
                        refine CJ.front 3 rfl ?_
                        refine CJ.skip ?_
                        have e := Option.some.inj ho489
                        subst e
                        exact .inl ⟨rfl, _, rfl, ⟨IntKind.wrap .i64 (i293 + i327), l385, [], [], ad386, cp387, none, 0, none, 0, rfl, ⟨rfl, rfl, rfl, trivial⟩, (Hp.le_refl _), f388, rfl⟩⟩
                  · rintro s ρ K472 _ ho541 ⟨i473, l474, l478, l483, ad475, cp476, ad479, cp480, ad484, cp485, rfl, hf542, hk543, f477, rfl⟩
                    subst ho541
                    obtain ⟨ρ, rfl⟩ := hf542.ex
                    refine PJ.front 2 rfl ?_
                    refine PJ.wit Row.hn (fun hn482 => ?_)
                    refine PJ.front 3 rfl ?_
                    refine PJ.wit Row.hn (fun hn487 => ?_)
                    refine PJ.done ?_
                    refine CJ.seq ?_
                    refine CJ.region ?_
                    refine J.val (v := .agg #[.int .i64 i292, .int .i64 i383, .int .i64 i384, .slice ad475 l474.length cp476, .slice ad479 l478.length cp480, .slice ad484 l483.length cp485]) rfl rfl (V.ld rfl (Ld.agg (cs := [.int .i64 i292, .int .i64 i383, .int .i64 i384, .slice ad475 l474.length cp476, .slice ad479 l478.length cp480, .slice ad484 l483.length cp485]) Try.underlying24 sz24 rfl (Rd.cls 3 0 rfl rfl))) ?_
                    refine J.val (v := .int .i64 i473) rfl rfl (V.mv rfl) ?_
                    refine J.front 2 rfl ?_
                    refine J.op rfl (A.store (v := .agg #[.int .i64 i292, .int .i64 i383, .int .i64 i384, .slice ad475 l474.length cp476, .slice ad479 l478.length cp480, .slice ad484 l483.length cp485]) (cs' := [.int .i64 i292, .int .i64 i383, .int .i64 i384, .slice ad475 l474.length cp476, .slice ad479 l478.length cp480, .slice ad484 l483.length cp485]) sz24 rfl rfl rfl rfl rfl rfl) ?_
                    rintro _ _ _ ⟨rfl, rfl, rfl⟩
                    refine J.val (v := .int .i64 i473) rfl rfl (V.as rfl) ?_
                    refine J.val (v := .int .i64 0) rfl rfl (V.as rfl) ?_
                    refine J.nil ?_
                    refine CJ.ret ?_
                    have e := Option.some.inj h
                    subst e
                    exact ⟨_, [Row Hp.nil 3 (.int .i64) (.slice ad479 l478.length cp480) l478, Row Hp.nil 3 (.int .i64) (.slice ad484 l483.length cp485) l483], Res.three rfl ⟨_, _, rfl, Ld.agg (cs := [.int .i64 i292, .int .i64 i383, .int .i64 i384, .slice ad475 l474.length cp476, .slice ad479 l478.length cp480, .slice ad484 l483.length cp485]) Try.underlying24 sz24 rfl (Rd.cls 0 0 rfl rfl)⟩ rfl rfl, ⟨i292, i383, i384, l474, l478, l483, i473, 0, ad475, cp476, ad479, cp480, ad484, cp485, rfl, rfl, f477, rfl⟩, (hK346.trans hk543), fun w hs => (Sep.front 1 rfl (Sep.dropAt 2 rfl (Sep.dropAt 0 rfl hs)))⟩
noncomputable def fn_ref01_Same_l1 (xa : (List Int)) (xb : (List Int)) : Int → Option (Int ⊕ (Unit ⊕ Bool)) := fun (i413 : Int) => cond (decide (i413 < (((xa.length : Nat) : Int)))) ((getI xa i413).bind fun x476 => (getI xb i413).bind fun x485 => cond (!decide (x476 = x485)) (some (.inr ((.inr (false))))) (some (.inl (IntKind.wrap .i64 (i413 + 1))))) (some (.inr ((.inl ()))))
noncomputable def fn_ref01_Same (xa : (List Int)) (xb : (List Int)) : Option Bool :=
  cond (!decide ((((xa.length : Nat) : Int)) = (((xb.length : Nat) : Int)))) (some (false)) ((loop (fn_ref01_Same_l1 xa xb) 0 : Option (Unit ⊕ Bool)).bind fun o => match o with | .inr r => some r | .inl () => some (true))
set_option maxRecDepth 100000 in
set_option maxHeartbeats 4000000 in
theorem ref01_Same_ok {K : Hp} {xa : (List Int)} {xb : (List Int)} {adxa_0 : Option Addr} {cpxa_0 : Nat} {adxb_0 : Option Addr} {cpxb_0 : Nat} (fxa_0 : Is K (.sl (.int .i64)) [.slice adxa_0 xa.length cpxa_0] xa) (fxb_0 : Is K (.sl (.int .i64)) [.slice adxb_0 xb.length cpxb_0] xb) {r : Bool} (h : fn_ref01_Same xa xb = some r) :
    Tr Try.prog 35 #[.slice adxa_0 xa.length cpxa_0, .slice adxb_0 xb.length cpxb_0] K [] (fun v K' L' => (∃ (t249 : Bool), t249 = r ∧ .bool t249 = v ∧ L' = []) ∧ K = K') := by
  refine Tr.k ?_
  refine Tr.of Try.func35 rfl Try.ntmps35 rfl (fun E F => ?_)
  unfold fn_ref01_Same at h
  refine CJ.seq ?_
  refine CJ.region ?_
  refine J.val (v := .bool false) rfl rfl (V.as rfl) ?_
  refine J.nil ?_
  refine CJ.seq ?_
  refine CJ.seq ?_
  refine CJ.region ?_
  refine J.val (v := .slice adxa_0 xa.length cpxa_0) rfl rfl (V.mv rfl) ?_
  refine J.val (v := .int .i64 (((xa.length : Nat) : Int))) rfl rfl (V.len Try.underlying22 rfl) ?_
  refine J.val (v := .slice adxb_0 xb.length cpxb_0) rfl rfl (V.mv rfl) ?_
  refine J.val (v := .int .i64 (((xb.length : Nat) : Int))) rfl rfl (V.len Try.underlying22 rfl) ?_
  refine J.val (v := .bool (!decide ((((xa.length : Nat) : Int)) = (((xb.length : Nat) : Int))))) rfl rfl (V.neq rfl rfl) ?_
  refine J.nil ?_
  refine CJ.cond rfl (fun hc250 => ?_) (fun hc250 => ?_)
  · have h := ct hc250 h
    refine CJ.seq ?_
    refine CJ.region ?_
    refine J.val (v := .bool false) rfl rfl (V.as rfl) ?_
    refine J.nil ?_
    refine CJ.ret ?_
    have e := Option.some.inj h
    subst e
    exact ⟨_, [], Res.one rfl rfl, ⟨false, rfl, rfl, rfl⟩, (Hp.le_refl _), fun w hs => hs⟩
  · have h := cf hc250 h
    refine CJ.skip ?_
    refine CJ.seq ?_
    refine CJ.seq ?_
    refine CJ.region ?_
    refine J.val (v := .int .i64 0) rfl rfl (V.as rfl) ?_
    refine J.nil ?_
    obtain ⟨o372, ho373, h⟩ := ob h
    refine CJ.joinN (o := o372) (fun s ρ K' L' => () = s ∧ Fits [] ρ ∧ K = K' ∧ F = L') ?_ ?_
    · skip
      refine CJ.block ?_
      refine CJ.loop (fun s ρ K' L' => ∃ (i413 : Int), i413 = s ∧ Fits [(0, .slice adxa_0 xa.length cpxa_0), (1, .slice adxb_0 xb.length cpxb_0), (5, .int .i64 i413)] ρ ∧ K = K' ∧ F = L') ho373 ⟨0, rfl, ⟨rfl, rfl, rfl, trivial⟩, rfl, rfl⟩ ?_
      rintro s ρ _ _ r456 ⟨i413, rfl, hf454, rfl, rfl⟩ h453
      obtain ⟨ρ, rfl⟩ := hf454.ex
      refine CJ.seq ?_
      refine CJ.seq ?_
      refine CJ.region ?_
      refine J.val (v := .int .i64 i413) rfl rfl (V.mv rfl) ?_
      refine J.val (v := .slice adxa_0 xa.length cpxa_0) rfl rfl (V.mv rfl) ?_
      refine J.val (v := .int .i64 (((xa.length : Nat) : Int))) rfl rfl (V.len Try.underlying22 rfl) ?_
      refine J.val (v := .bool (decide (i413 < (((xa.length : Nat) : Int))))) rfl rfl (V.lss rfl rfl) ?_
      refine J.nil ?_
      refine CJ.cond rfl (fun hc457 => ?_) (fun hc457 => ?_)
      · have h453 := ct hc457 h453
        refine CJ.skip ?_
        refine CJ.seq ?_
        refine CJ.block ?_
        refine CJ.seq ?_
        refine CJ.mix [] [] [0, 1, 2, 3, 4, 5, 6, 7, 8] [] mixO (by decide +kernel) trivial rfl rfl rfl ?_
        refine JM.nil ?_
        refine JQ.val (v := .slice adxa_0 xa.length cpxa_0) rfl rfl (V.mv rfl) ?_
        refine JQ.val (v := .int .i64 i413) rfl rfl (V.mv rfl) ?_
        obtain ⟨x476, hx477, h453⟩ := ob h453
        obtain ⟨p478, p479, p480⟩ := getI_some hx477
        obtain ⟨b481, o482, e483, a484⟩ := (fxa_0).at p479
        refine JQ.val rfl rfl (V.iad Try.underlying22 sz3 rfl e483 rfl p478 p480) ?_
        refine JQ.val (v := .int .i64 x476) rfl rfl (V.ld rfl (Ld.sc sc3 (Rd.k (a484).int (Hp.le_refl _)))) ?_
        refine JQ.val (v := .slice adxb_0 xb.length cpxb_0) rfl rfl (V.mv rfl) ?_
        refine JQ.val (v := .int .i64 i413) rfl rfl (V.mv rfl) ?_
        obtain ⟨x485, hx486, h453⟩ := ob h453
        obtain ⟨p487, p488, p489⟩ := getI_some hx486
        obtain ⟨b490, o491, e492, a493⟩ := (fxb_0).at p488
        refine JQ.val rfl rfl (V.iad Try.underlying22 sz3 rfl e492 rfl p487 p489) ?_
        refine JQ.val (v := .int .i64 x485) rfl rfl (V.ld rfl (Ld.sc sc3 (Rd.k (a493).int (Hp.le_refl _)))) ?_
        refine JQ.val (v := .bool (!decide (x476 = x485))) rfl rfl (V.neq rfl rfl) ?_
        refine JQ.nil ?_
        refine J.nil ?_
        refine CJ.cond rfl (fun hc494 => ?_) (fun hc494 => ?_)
        · have h453 := ct hc494 h453
          refine CJ.seq ?_
          refine CJ.region ?_
          refine J.val (v := .bool false) rfl rfl (V.as rfl) ?_
          refine J.nil ?_
          refine CJ.ret ?_
          have e := Option.some.inj h453
          subst e
          refine ⟨nofun, fun e => ?_⟩
          subst e
          refine .inr ⟨nofun, ?_⟩
          have e := Option.some.inj h
          subst e
          exact ⟨_, [], Res.one rfl rfl, ⟨false, rfl, rfl, rfl⟩, (Hp.le_refl _), fun w hs => hs⟩
        · have h453 := cf hc494 h453
          refine CJ.skip ?_
          refine CJ.region ?_
          refine J.val (v := .int .i64 i413) rfl rfl (V.mv rfl) ?_
          refine J.val (v := .int .i64 (IntKind.wrap .i64 (i413 + 1))) rfl rfl (V.add rfl rfl) ?_
          refine J.val (v := .int .i64 (IntKind.wrap .i64 (i413 + 1))) rfl rfl (V.as rfl) ?_
          refine J.nil ?_
          have e := Option.some.inj h453
          subst e
          exact ⟨rfl, ⟨IntKind.wrap .i64 (i413 + 1), rfl, ⟨rfl, rfl, rfl, trivial⟩, rfl, rfl⟩⟩
      · have h453 := cf hc457 h453
        refine CJ.exit ?_
        have e := Option.some.inj h453
        subst e
        refine ⟨nofun, fun e => ?_⟩
        subst e
        exact .inl ⟨rfl, _, rfl, ⟨rfl, trivial, rfl, rfl⟩⟩
    · rintro s ρ _ _ ho495 ⟨rfl, hf496, rfl, rfl⟩
      subst ho495
      obtain ⟨ρ, rfl⟩ := hf496.ex
      refine PJ.done ?_
      refine CJ.seq ?_
      refine CJ.region ?_
      refine J.val (v := .bool true) rfl rfl (V.as rfl) ?_
      refine J.nil ?_
      refine CJ.ret ?_
      have e := Option.some.inj h
      subst e
      exact ⟨_, [], Res.one rfl rfl, ⟨true, rfl, rfl, rfl⟩, (Hp.le_refl _), fun w hs => hs⟩

noncomputable def fn_ref19_Same (xa : (Int × Int × Int × (List Int) × (List Int) × (List Int))) (xb : (Int × Int × Int × (List Int) × (List Int) × (List Int))) : Option Bool :=
  (cond (((decide (xa.1 = xb.1)) && (decide (xa.2.1 = xb.2.1))) && (decide (xa.2.2.1 = xb.2.2.1))) ((fn_ref01_Same xa.2.2.2.1 xb.2.2.2.1).bind fun t78 => some (t78)) (some (false))).bind fun t73 => (cond (t73) ((fn_ref01_Same xa.2.2.2.2.1 xb.2.2.2.2.1).bind fun t94 => some (t94)) (some (false))).bind fun t89 => (cond (t89) ((fn_ref01_Same xa.2.2.2.2.2 xb.2.2.2.2.2).bind fun t110 => some (t110)) (some (false))).bind fun t105 => some (t105)
set_option maxRecDepth 100000 in
set_option maxHeartbeats 4000000 in
theorem ref19_Same_ok {K : Hp} {xa : (Int × Int × Int × (List Int) × (List Int) × (List Int))} {xb : (Int × Int × Int × (List Int) × (List Int) × (List Int))} {adxa_3 : Option Addr} {cpxa_3 : Nat} {adxa_4 : Option Addr} {cpxa_4 : Nat} {adxa_5 : Option Addr} {cpxa_5 : Nat} {adxb_3 : Option Addr} {cpxb_3 : Nat} {adxb_4 : Option Addr} {cpxb_4 : Nat} {adxb_5 : Option Addr} {cpxb_5 : Nat} (fxa_3 : Is K (.sl (.int .i64)) [.slice adxa_3 xa.2.2.2.1.length cpxa_3] xa.2.2.2.1) (fxa_4 : Is K (.sl (.int .i64)) [.slice adxa_4 xa.2.2.2.2.1.length cpxa_4] xa.2.2.2.2.1) (fxa_5 : Is K (.sl (.int .i64)) [.slice adxa_5 xa.2.2.2.2.2.length cpxa_5] xa.2.2.2.2.2) (fxb_3 : Is K (.sl (.int .i64)) [.slice adxb_3 xb.2.2.2.1.length cpxb_3] xb.2.2.2.1) (fxb_4 : Is K (.sl (.int .i64)) [.slice adxb_4 xb.2.2.2.2.1.length cpxb_4] xb.2.2.2.2.1) (fxb_5 : Is K (.sl (.int .i64)) [.slice adxb_5 xb.2.2.2.2.2.length cpxb_5] xb.2.2.2.2.2) {r : Bool} (h : fn_ref19_Same xa xb = some r) :
    Tr Try.prog 15 #[.agg #[.int .i64 xa.1, .int .i64 xa.2.1, .int .i64 xa.2.2.1, .slice adxa_3 xa.2.2.2.1.length cpxa_3, .slice adxa_4 xa.2.2.2.2.1.length cpxa_4, .slice adxa_5 xa.2.2.2.2.2.length cpxa_5], .agg #[.int .i64 xb.1, .int .i64 xb.2.1, .int .i64 xb.2.2.1, .slice adxb_3 xb.2.2.2.1.length cpxb_3, .slice adxb_4 xb.2.2.2.2.1.length cpxb_4, .slice adxb_5 xb.2.2.2.2.2.length cpxb_5]] K [] (fun v K' L' => (∃ (t57 : Bool), t57 = r ∧ .bool t57 = v ∧ L' = []) ∧ K = K') := by
  refine Tr.k ?_
  refine Tr.of Try.func15 rfl Try.ntmps15 rfl (fun E F => ?_)
  unfold fn_ref19_Same at h
  refine CJ.seq ?_
  refine CJ.region ?_
  refine J.op rfl (A.box (v := .agg #[.int .i64 xa.1, .int .i64 xa.2.1, .int .i64 xa.2.2.1, .slice adxa_3 xa.2.2.2.1.length cpxa_3, .slice adxa_4 xa.2.2.2.2.1.length cpxa_4, .slice adxa_5 xa.2.2.2.2.2.length cpxa_5]) (cs := [.int .i64 xa.1, .int .i64 xa.2.1, .int .i64 xa.2.2.1, .slice adxa_3 xa.2.2.2.1.length cpxa_3, .slice adxa_4 xa.2.2.2.2.1.length cpxa_4, .slice adxa_5 xa.2.2.2.2.2.length cpxa_5]) rfl rfl) ?_
  rintro _ _ _ ⟨b58, rfl, rfl, rfl⟩
  refine J.op rfl (A.box (v := .agg #[.int .i64 xb.1, .int .i64 xb.2.1, .int .i64 xb.2.2.1, .slice adxb_3 xb.2.2.2.1.length cpxb_3, .slice adxb_4 xb.2.2.2.2.1.length cpxb_4, .slice adxb_5 xb.2.2.2.2.2.length cpxb_5]) (cs := [.int .i64 xb.1, .int .i64 xb.2.1, .int .i64 xb.2.2.1, .slice adxb_3 xb.2.2.2.1.length cpxb_3, .slice adxb_4 xb.2.2.2.2.1.length cpxb_4, .slice adxb_5 xb.2.2.2.2.2.length cpxb_5]) rfl rfl) ?_
  rintro _ _ _ ⟨b59, rfl, rfl, rfl⟩
  refine J.val (v := .bool false) rfl rfl (V.as rfl) ?_
  refine J.nil ?_
  refine CJ.seq ?_
  refine CJ.region ?_
  refine J.val rfl rfl (V.fad Try.underlying24 rfl nz3 rfl) ?_
  refine J.val (v := .int .i64 xa.1) rfl rfl (V.ld rfl (Ld.sc sc3 (Rd.cl 1 rfl rfl))) ?_
  refine J.val rfl rfl (V.fad Try.underlying24 rfl nz3 rfl) ?_
  refine J.val (v := .int .i64 xb.1) rfl rfl (V.ld rfl (Ld.sc sc3 (Rd.cl 0 rfl rfl))) ?_
  refine J.val (v := .bool (decide (xa.1 = xb.1))) rfl rfl (V.eql rfl rfl) ?_
  refine J.val (v := .bool (decide (xa.1 = xb.1))) rfl rfl (V.mv rfl) ?_
  refine J.cut 6 ?_
  refine @J.meet _ _ _ _ _ _ _ _ _ _ (fun ρ K' L' => Fits [(16, .bool ((decide (xa.1 = xb.1)) && (decide (xa.2.1 = xb.2.1)))), (2, .pointer (some ⟨b58, 0, none⟩)), (3, .pointer (some ⟨b59, 0, none⟩))] ρ ∧ K = K' ∧ L' = Cl b59 24 [.int .i64 xb.1, .int .i64 xb.2.1, .int .i64 xb.2.2.1, .slice adxb_3 xb.2.2.2.1.length cpxb_3, .slice adxb_4 xb.2.2.2.2.1.length cpxb_4, .slice adxb_5 xb.2.2.2.2.2.length cpxb_5] :: Cl b58 24 [.int .i64 xa.1, .int .i64 xa.2.1, .int .i64 xa.2.2.1, .slice adxa_3 xa.2.2.2.1.length cpxa_3, .slice adxa_4 xa.2.2.2.2.1.length cpxa_4, .slice adxa_5 xa.2.2.2.2.2.length cpxa_5] :: F) ?_ ?_
  · skip
    rcases bt (decide (xa.1 = xb.1)) with hc62 | hc62
    · skip
      refine J.run rfl rfl rfl hc62 ?_
      refine J.val rfl rfl (V.fad Try.underlying24 rfl nz3 rfl) ?_
      refine J.run rfl rfl rfl hc62 ?_
      refine J.val (v := .int .i64 xa.2.1) rfl rfl (V.ld rfl (Ld.sc sc3 (Rd.cl 1 rfl rfl))) ?_
      refine J.run rfl rfl rfl hc62 ?_
      refine J.val rfl rfl (V.fad Try.underlying24 rfl nz3 rfl) ?_
      refine J.run rfl rfl rfl hc62 ?_
      refine J.val (v := .int .i64 xb.2.1) rfl rfl (V.ld rfl (Ld.sc sc3 (Rd.cl 0 rfl rfl))) ?_
      refine J.run rfl rfl rfl hc62 ?_
      refine J.val (v := .bool (decide (xa.2.1 = xb.2.1))) rfl rfl (V.eql rfl rfl) ?_
      refine J.val (v := .bool (decide (xa.2.1 = xb.2.1))) rfl rfl (V.pickT rfl hc62 rfl) ?_
      refine J.nil ?_
      exact ⟨rfl, ⟨(by simp only [hc62]; rfl), rfl, rfl, trivial⟩, rfl, rfl⟩
    · skip
      refine J.skip rfl rfl rfl rfl hc62 ?_
      refine J.skip rfl rfl rfl rfl hc62 ?_
      refine J.skip rfl rfl rfl rfl hc62 ?_
      refine J.skip rfl rfl rfl rfl hc62 ?_
      refine J.skip rfl rfl rfl rfl hc62 ?_
      refine J.val (v := .bool false) rfl rfl (V.pickF rfl hc62 rfl) ?_
      refine J.nil ?_
      exact ⟨rfl, ⟨(by simp only [hc62]; rfl), rfl, rfl, trivial⟩, rfl, rfl⟩
  · rintro ρ _ _ ⟨hf, rfl, rfl⟩
    obtain ⟨ρ, rfl⟩ := hf.ex
    refine J.val (v := .bool ((decide (xa.1 = xb.1)) && (decide (xa.2.1 = xb.2.1)))) rfl rfl (V.mv rfl) ?_
    refine J.cut 6 ?_
    refine @J.meet _ _ _ _ _ _ _ _ _ _ (fun ρ K' L' => Fits [(23, .bool (((decide (xa.1 = xb.1)) && (decide (xa.2.1 = xb.2.1))) && (decide (xa.2.2.1 = xb.2.2.1)))), (2, .pointer (some ⟨b58, 0, none⟩)), (3, .pointer (some ⟨b59, 0, none⟩))] ρ ∧ K = K' ∧ L' = Cl b59 24 [.int .i64 xb.1, .int .i64 xb.2.1, .int .i64 xb.2.2.1, .slice adxb_3 xb.2.2.2.1.length cpxb_3, .slice adxb_4 xb.2.2.2.2.1.length cpxb_4, .slice adxb_5 xb.2.2.2.2.2.length cpxb_5] :: Cl b58 24 [.int .i64 xa.1, .int .i64 xa.2.1, .int .i64 xa.2.2.1, .slice adxa_3 xa.2.2.2.1.length cpxa_3, .slice adxa_4 xa.2.2.2.2.1.length cpxa_4, .slice adxa_5 xa.2.2.2.2.2.length cpxa_5] :: F) ?_ ?_
    · skip
      rcases bt ((decide (xa.1 = xb.1)) && (decide (xa.2.1 = xb.2.1))) with hc65 | hc65
      · skip
        refine J.run rfl rfl rfl hc65 ?_
        refine J.val rfl rfl (V.fad Try.underlying24 rfl nz3 rfl) ?_
        refine J.run rfl rfl rfl hc65 ?_
        refine J.val (v := .int .i64 xa.2.2.1) rfl rfl (V.ld rfl (Ld.sc sc3 (Rd.cl 1 rfl rfl))) ?_
        refine J.run rfl rfl rfl hc65 ?_
        refine J.val rfl rfl (V.fad Try.underlying24 rfl nz3 rfl) ?_
        refine J.run rfl rfl rfl hc65 ?_
        refine J.val (v := .int .i64 xb.2.2.1) rfl rfl (V.ld rfl (Ld.sc sc3 (Rd.cl 0 rfl rfl))) ?_
        refine J.run rfl rfl rfl hc65 ?_
        refine J.val (v := .bool (decide (xa.2.2.1 = xb.2.2.1))) rfl rfl (V.eql rfl rfl) ?_
        refine J.val (v := .bool (decide (xa.2.2.1 = xb.2.2.1))) rfl rfl (V.pickT rfl hc65 rfl) ?_
        refine J.nil ?_
        exact ⟨rfl, ⟨(by simp only [hc65]; rfl), rfl, rfl, trivial⟩, rfl, rfl⟩
      · skip
        refine J.skip rfl rfl rfl rfl hc65 ?_
        refine J.skip rfl rfl rfl rfl hc65 ?_
        refine J.skip rfl rfl rfl rfl hc65 ?_
        refine J.skip rfl rfl rfl rfl hc65 ?_
        refine J.skip rfl rfl rfl rfl hc65 ?_
        refine J.val (v := .bool false) rfl rfl (V.pickF rfl hc65 rfl) ?_
        refine J.nil ?_
        exact ⟨rfl, ⟨(by simp only [hc65]; rfl), rfl, rfl, trivial⟩, rfl, rfl⟩
    · rintro ρ _ _ ⟨hf, rfl, rfl⟩
      obtain ⟨ρ, rfl⟩ := hf.ex
      refine J.val (v := .bool (((decide (xa.1 = xb.1)) && (decide (xa.2.1 = xb.2.1))) && (decide (xa.2.2.1 = xb.2.2.1)))) rfl rfl (V.mv rfl) ?_
      refine J.cut 6 ?_
      obtain ⟨t73, ht74, h⟩ := ob h
      refine @J.meet _ _ _ _ _ _ _ _ _ _ (fun ρ K' L' => Fits [(30, .bool t73), (2, .pointer (some ⟨b58, 0, none⟩)), (3, .pointer (some ⟨b59, 0, none⟩))] ρ ∧ K = K' ∧ L' = Cl b59 24 [.int .i64 xb.1, .int .i64 xb.2.1, .int .i64 xb.2.2.1, .slice adxb_3 xb.2.2.2.1.length cpxb_3, .slice adxb_4 xb.2.2.2.2.1.length cpxb_4, .slice adxb_5 xb.2.2.2.2.2.length cpxb_5] :: Cl b58 24 [.int .i64 xa.1, .int .i64 xa.2.1, .int .i64 xa.2.2.1, .slice adxa_3 xa.2.2.2.1.length cpxa_3, .slice adxa_4 xa.2.2.2.2.1.length cpxa_4, .slice adxa_5 xa.2.2.2.2.2.length cpxa_5] :: F) ?_ ?_
      · skip
        rcases bt (((decide (xa.1 = xb.1)) && (decide (xa.2.1 = xb.2.1))) && (decide (xa.2.2.1 = xb.2.2.1))) with hc75 | hc75
        · have ht74 := ct hc75 ht74
          refine J.run rfl rfl rfl hc75 ?_
          refine J.val rfl rfl (V.fad Try.underlying24 rfl nz22 rfl) ?_
          refine J.run rfl rfl rfl hc75 ?_
          refine J.val (v := .slice adxa_3 xa.2.2.2.1.length cpxa_3) rfl rfl (V.ld rfl (Ld.sc sc22 (Rd.cl 1 rfl rfl))) ?_
          refine J.run rfl rfl rfl hc75 ?_
          refine J.val rfl rfl (V.fad Try.underlying24 rfl nz22 rfl) ?_
          refine J.run rfl rfl rfl hc75 ?_
          refine J.val (v := .slice adxb_3 xb.2.2.2.1.length cpxb_3) rfl rfl (V.ld rfl (Ld.sc sc22 (Rd.cl 0 rfl rfl))) ?_
          refine J.run rfl rfl rfl hc75 ?_
          obtain ⟨r76, hr77, ht74⟩ := ob ht74
          refine J.op rfl (A.call (L1 := []) Try.call35 rfl (ref01_Same_ok fxa_3 fxb_3 hr77) rfl rfl) ?_
          rintro _ _ _ ⟨v79, _, rfl, ⟨⟨t78, rfl, rfl, rfl⟩, rfl⟩, _, rfl⟩
          refine J.val (v := .bool t78) rfl rfl (V.pickT rfl hc75 rfl) ?_
          refine J.nil ?_
          have e := Option.some.inj ht74
          subst e
          exact ⟨rfl, ⟨rfl, rfl, rfl, trivial⟩, rfl, rfl⟩
        · have ht74 := cf hc75 ht74
          refine J.skip rfl rfl rfl rfl hc75 ?_
          refine J.skip rfl rfl rfl rfl hc75 ?_
          refine J.skip rfl rfl rfl rfl hc75 ?_
          refine J.skip rfl rfl rfl rfl hc75 ?_
          refine J.skip rfl rfl rfl rfl hc75 ?_
          refine J.val (v := .bool false) rfl rfl (V.pickF rfl hc75 rfl) ?_
          refine J.nil ?_
          have e := Option.some.inj ht74
          subst e
          exact ⟨rfl, ⟨rfl, rfl, rfl, trivial⟩, rfl, rfl⟩
      · rintro ρ _ _ ⟨hf, rfl, rfl⟩
        obtain ⟨ρ, rfl⟩ := hf.ex
        refine J.val (v := .bool t73) rfl rfl (V.mv rfl) ?_
        refine J.cut 6 ?_
        obtain ⟨t89, ht90, h⟩ := ob h
        refine @J.meet _ _ _ _ _ _ _ _ _ _ (fun ρ K' L' => Fits [(37, .bool t89), (2, .pointer (some ⟨b58, 0, none⟩)), (3, .pointer (some ⟨b59, 0, none⟩))] ρ ∧ K = K' ∧ L' = Cl b59 24 [.int .i64 xb.1, .int .i64 xb.2.1, .int .i64 xb.2.2.1, .slice adxb_3 xb.2.2.2.1.length cpxb_3, .slice adxb_4 xb.2.2.2.2.1.length cpxb_4, .slice adxb_5 xb.2.2.2.2.2.length cpxb_5] :: Cl b58 24 [.int .i64 xa.1, .int .i64 xa.2.1, .int .i64 xa.2.2.1, .slice adxa_3 xa.2.2.2.1.length cpxa_3, .slice adxa_4 xa.2.2.2.2.1.length cpxa_4, .slice adxa_5 xa.2.2.2.2.2.length cpxa_5] :: F) ?_ ?_
        · skip
          rcases bt (t73) with hc91 | hc91
          · have ht90 := ct hc91 ht90
            refine J.run rfl rfl rfl hc91 ?_
            refine J.val rfl rfl (V.fad Try.underlying24 rfl nz22 rfl) ?_
            refine J.run rfl rfl rfl hc91 ?_
            refine J.val (v := .slice adxa_4 xa.2.2.2.2.1.length cpxa_4) rfl rfl (V.ld rfl (Ld.sc sc22 (Rd.cl 1 rfl rfl))) ?_
            refine J.run rfl rfl rfl hc91 ?_
            refine J.val rfl rfl (V.fad Try.underlying24 rfl nz22 rfl) ?_
            refine J.run rfl rfl rfl hc91 ?_
            refine J.val (v := .slice adxb_4 xb.2.2.2.2.1.length cpxb_4) rfl rfl (V.ld rfl (Ld.sc sc22 (Rd.cl 0 rfl rfl))) ?_
            refine J.run rfl rfl rfl hc91 ?_
            obtain ⟨r92, hr93, ht90⟩ := ob ht90
            refine J.op rfl (A.call (L1 := []) Try.call35 rfl (ref01_Same_ok fxa_4 fxb_4 hr93) rfl rfl) ?_
            rintro _ _ _ ⟨v95, _, rfl, ⟨⟨t94, rfl, rfl, rfl⟩, rfl⟩, _, rfl⟩
            refine J.val (v := .bool t94) rfl rfl (V.pickT rfl hc91 rfl) ?_
            refine J.nil ?_
            have e := Option.some.inj ht90
            subst e
            exact ⟨rfl, ⟨rfl, rfl, rfl, trivial⟩, rfl, rfl⟩
          · have ht90 := cf hc91 ht90
            refine J.skip rfl rfl rfl rfl hc91 ?_
            refine J.skip rfl rfl rfl rfl hc91 ?_
            refine J.skip rfl rfl rfl rfl hc91 ?_
            refine J.skip rfl rfl rfl rfl hc91 ?_
            refine J.skip rfl rfl rfl rfl hc91 ?_
            refine J.val (v := .bool false) rfl rfl (V.pickF rfl hc91 rfl) ?_
            refine J.nil ?_
            have e := Option.some.inj ht90
            subst e
            exact ⟨rfl, ⟨rfl, rfl, rfl, trivial⟩, rfl, rfl⟩
        · rintro ρ _ _ ⟨hf, rfl, rfl⟩
          obtain ⟨ρ, rfl⟩ := hf.ex
          refine J.val (v := .bool t89) rfl rfl (V.mv rfl) ?_
          refine J.cut 6 ?_
          obtain ⟨t105, ht106, h⟩ := ob h
          refine @J.meet _ _ _ _ _ _ _ _ _ _ (fun ρ K' L' => Fits [(44, .bool t105)] ρ ∧ K = K' ∧ L' = Cl b59 24 [.int .i64 xb.1, .int .i64 xb.2.1, .int .i64 xb.2.2.1, .slice adxb_3 xb.2.2.2.1.length cpxb_3, .slice adxb_4 xb.2.2.2.2.1.length cpxb_4, .slice adxb_5 xb.2.2.2.2.2.length cpxb_5] :: Cl b58 24 [.int .i64 xa.1, .int .i64 xa.2.1, .int .i64 xa.2.2.1, .slice adxa_3 xa.2.2.2.1.length cpxa_3, .slice adxa_4 xa.2.2.2.2.1.length cpxa_4, .slice adxa_5 xa.2.2.2.2.2.length cpxa_5] :: F) ?_ ?_
          · skip
            rcases bt (t89) with hc107 | hc107
            · have ht106 := ct hc107 ht106
              refine J.run rfl rfl rfl hc107 ?_
              refine J.val rfl rfl (V.fad Try.underlying24 rfl nz22 rfl) ?_
              refine J.run rfl rfl rfl hc107 ?_
              refine J.val (v := .slice adxa_5 xa.2.2.2.2.2.length cpxa_5) rfl rfl (V.ld rfl (Ld.sc sc22 (Rd.cl 1 rfl rfl))) ?_
              refine J.run rfl rfl rfl hc107 ?_
              refine J.val rfl rfl (V.fad Try.underlying24 rfl nz22 rfl) ?_
              refine J.run rfl rfl rfl hc107 ?_
              refine J.val (v := .slice adxb_5 xb.2.2.2.2.2.length cpxb_5) rfl rfl (V.ld rfl (Ld.sc sc22 (Rd.cl 0 rfl rfl))) ?_
              refine J.run rfl rfl rfl hc107 ?_
              obtain ⟨r108, hr109, ht106⟩ := ob ht106
              refine J.op rfl (A.call (L1 := []) Try.call35 rfl (ref01_Same_ok fxa_5 fxb_5 hr109) rfl rfl) ?_
              rintro _ _ _ ⟨v111, _, rfl, ⟨⟨t110, rfl, rfl, rfl⟩, rfl⟩, _, rfl⟩
              refine J.val (v := .bool t110) rfl rfl (V.pickT rfl hc107 rfl) ?_
              refine J.nil ?_
              have e := Option.some.inj ht106
              subst e
              exact ⟨rfl, ⟨rfl, trivial⟩, rfl, rfl⟩
            · have ht106 := cf hc107 ht106
              refine J.skip rfl rfl rfl rfl hc107 ?_
              refine J.skip rfl rfl rfl rfl hc107 ?_
              refine J.skip rfl rfl rfl rfl hc107 ?_
              refine J.skip rfl rfl rfl rfl hc107 ?_
              refine J.skip rfl rfl rfl rfl hc107 ?_
              refine J.val (v := .bool false) rfl rfl (V.pickF rfl hc107 rfl) ?_
              refine J.nil ?_
              have e := Option.some.inj ht106
              subst e
              exact ⟨rfl, ⟨rfl, trivial⟩, rfl, rfl⟩
          · rintro ρ _ _ ⟨hf, rfl, rfl⟩
            obtain ⟨ρ, rfl⟩ := hf.ex
            refine J.val (v := .bool t105) rfl rfl (V.as rfl) ?_
            refine J.nil ?_
            refine CJ.ret ?_
            have e := Option.some.inj h
            subst e
            exact ⟨_, [], Res.one rfl rfl, ⟨t105, rfl, rfl, rfl⟩, (Hp.le_refl _), fun w hs => (Sep.dropAt 0 rfl (Sep.dropAt 0 rfl hs))⟩
noncomputable def fn_slices_Equal_int_int_l1 (xa : (List Int)) (xb : (List Int)) : Int → Option (Int ⊕ (Unit ⊕ Bool)) := fun (i413 : Int) => cond (decide (i413 < (((xa.length : Nat) : Int)))) ((getI xa i413).bind fun x476 => (getI xb i413).bind fun x485 => cond (!decide (x476 = x485)) (some (.inr ((.inr (false))))) (some (.inl (IntKind.wrap .i64 (i413 + 1))))) (some (.inr ((.inl ()))))
noncomputable def fn_slices_Equal_int_int (xa : (List Int)) (xb : (List Int)) : Option Bool :=
  cond (!decide ((((xa.length : Nat) : Int)) = (((xb.length : Nat) : Int)))) (some (false)) ((loop (fn_slices_Equal_int_int_l1 xa xb) 0 : Option (Unit ⊕ Bool)).bind fun o => match o with | .inr r => some r | .inl () => some (true))
set_option maxRecDepth 100000 in
set_option maxHeartbeats 4000000 in
theorem slices_Equal_int_int_ok {K : Hp} {xa : (List Int)} {xb : (List Int)} {adxa_0 : Option Addr} {cpxa_0 : Nat} {adxb_0 : Option Addr} {cpxb_0 : Nat} (fxa_0 : Is K (.sl (.int .i64)) [.slice adxa_0 xa.length cpxa_0] xa) (fxb_0 : Is K (.sl (.int .i64)) [.slice adxb_0 xb.length cpxb_0] xb) {r : Bool} (h : fn_slices_Equal_int_int xa xb = some r) :
    Tr Try.prog 36 #[.slice adxa_0 xa.length cpxa_0, .slice adxb_0 xb.length cpxb_0] K [] (fun v K' L' => (∃ (t249 : Bool), t249 = r ∧ .bool t249 = v ∧ L' = []) ∧ K = K') := by
  refine Tr.k ?_
  refine Tr.of Try.func36 rfl Try.ntmps36 rfl (fun E F => ?_)
  unfold fn_slices_Equal_int_int at h
  refine CJ.seq ?_
  refine CJ.region ?_
  refine J.val (v := .bool false) rfl rfl (V.as rfl) ?_
  refine J.nil ?_
  refine CJ.seq ?_
  refine CJ.seq ?_
  refine CJ.region ?_
  refine J.val (v := .slice adxa_0 xa.length cpxa_0) rfl rfl (V.mv rfl) ?_
  refine J.val (v := .int .i64 (((xa.length : Nat) : Int))) rfl rfl (V.len Try.underlying22 rfl) ?_
  refine J.val (v := .slice adxb_0 xb.length cpxb_0) rfl rfl (V.mv rfl) ?_
  refine J.val (v := .int .i64 (((xb.length : Nat) : Int))) rfl rfl (V.len Try.underlying22 rfl) ?_
  refine J.val (v := .bool (!decide ((((xa.length : Nat) : Int)) = (((xb.length : Nat) : Int))))) rfl rfl (V.neq rfl rfl) ?_
  refine J.nil ?_
  refine CJ.cond rfl (fun hc250 => ?_) (fun hc250 => ?_)
  · have h := ct hc250 h
    refine CJ.seq ?_
    refine CJ.region ?_
    refine J.val (v := .bool false) rfl rfl (V.as rfl) ?_
    refine J.nil ?_
    refine CJ.ret ?_
    have e := Option.some.inj h
    subst e
    exact ⟨_, [], Res.one rfl rfl, ⟨false, rfl, rfl, rfl⟩, (Hp.le_refl _), fun w hs => hs⟩
  · have h := cf hc250 h
    refine CJ.skip ?_
    refine CJ.seq ?_
    refine CJ.seq ?_
    refine CJ.region ?_
    refine J.val (v := .slice adxa_0 xa.length cpxa_0) rfl rfl (V.mv rfl) ?_
    refine J.val (v := .int .i64 (((xa.length : Nat) : Int))) rfl rfl (V.len Try.underlying22 rfl) ?_
    refine J.val (v := .int .i64 0) rfl rfl (V.mv rfl) ?_
    refine J.nil ?_
    obtain ⟨o372, ho373, h⟩ := ob h
    refine CJ.joinN (o := o372) (fun s ρ K' L' => () = s ∧ Fits [] ρ ∧ K = K' ∧ F = L') ?_ ?_
    · skip
      refine CJ.block ?_
      refine CJ.loop (fun s ρ K' L' => ∃ (i413 : Int), i413 = s ∧ Fits [(0, .slice adxa_0 xa.length cpxa_0), (1, .slice adxb_0 xb.length cpxb_0), (12, .int .i64 (((xa.length : Nat) : Int))), (13, .int .i64 i413)] ρ ∧ K = K' ∧ F = L') ho373 ⟨0, rfl, ⟨rfl, rfl, rfl, rfl, trivial⟩, rfl, rfl⟩ ?_
      rintro s ρ _ _ r456 ⟨i413, rfl, hf454, rfl, rfl⟩ h453
      obtain ⟨ρ, rfl⟩ := hf454.ex
      refine CJ.seq ?_
      refine CJ.region ?_
      refine J.val (v := .bool (decide (i413 < (((xa.length : Nat) : Int))))) rfl rfl (V.lss rfl rfl) ?_
      refine J.nil ?_
      refine CJ.seq ?_
      refine CJ.cond rfl (fun hc457 => ?_) (fun hc457 => ?_)
      · have h453 := ct hc457 h453
        refine CJ.skip ?_
        refine CJ.seq ?_
        refine CJ.block ?_
        refine CJ.seq ?_
        refine CJ.region ?_
        refine J.val (v := .int .i64 i413) rfl rfl (V.mv rfl) ?_
        refine J.val (v := .int .i64 i413) rfl rfl (V.as rfl) ?_
        refine J.nil ?_
        refine CJ.seq ?_
        refine CJ.mix [] [] [0, 1, 2, 3, 4, 5, 6, 7, 8] [] mixO (by decide +kernel) trivial rfl rfl rfl ?_
        refine JM.nil ?_
        refine JQ.val (v := .slice adxa_0 xa.length cpxa_0) rfl rfl (V.mv rfl) ?_
        refine JQ.val (v := .int .i64 i413) rfl rfl (V.mv rfl) ?_
        obtain ⟨x476, hx477, h453⟩ := ob h453
        obtain ⟨p478, p479, p480⟩ := getI_some hx477
        obtain ⟨b481, o482, e483, a484⟩ := (fxa_0).at p479
        refine JQ.val rfl rfl (V.iad Try.underlying22 sz3 rfl e483 rfl p478 p480) ?_
        refine JQ.val (v := .int .i64 x476) rfl rfl (V.ld rfl (Ld.sc sc3 (Rd.k (a484).int (Hp.le_refl _)))) ?_
        refine JQ.val (v := .slice adxb_0 xb.length cpxb_0) rfl rfl (V.mv rfl) ?_
        refine JQ.val (v := .int .i64 i413) rfl rfl (V.mv rfl) ?_
        obtain ⟨x485, hx486, h453⟩ := ob h453
        obtain ⟨p487, p488, p489⟩ := getI_some hx486
        obtain ⟨b490, o491, e492, a493⟩ := (fxb_0).at p488
        refine JQ.val rfl rfl (V.iad Try.underlying22 sz3 rfl e492 rfl p487 p489) ?_
        refine JQ.val (v := .int .i64 x485) rfl rfl (V.ld rfl (Ld.sc sc3 (Rd.k (a493).int (Hp.le_refl _)))) ?_
        refine JQ.val (v := .bool (!decide (x476 = x485))) rfl rfl (V.neq rfl rfl) ?_
        refine JQ.nil ?_
        refine J.nil ?_
        refine CJ.cond rfl (fun hc494 => ?_) (fun hc494 => ?_)
        · have h453 := ct hc494 h453
          refine CJ.seq ?_
          refine CJ.region ?_
          refine J.val (v := .bool false) rfl rfl (V.as rfl) ?_
          refine J.nil ?_
          refine CJ.ret ?_
          have e := Option.some.inj h453
          subst e
          refine ⟨nofun, fun e => ?_⟩
          subst e
          refine .inr ⟨nofun, ?_⟩
          have e := Option.some.inj h
          subst e
          exact ⟨_, [], Res.one rfl rfl, ⟨false, rfl, rfl, rfl⟩, (Hp.le_refl _), fun w hs => hs⟩
        · have h453 := cf hc494 h453
          refine CJ.skip ?_
          refine CJ.region ?_
          refine J.val (v := .int .i64 (IntKind.wrap .i64 (i413 + 1))) rfl rfl (V.add rfl rfl) ?_
          refine J.val (v := .int .i64 (IntKind.wrap .i64 (i413 + 1))) rfl rfl (V.mv rfl) ?_
          refine J.nil ?_
          have e := Option.some.inj h453
          subst e
          exact ⟨rfl, ⟨IntKind.wrap .i64 (i413 + 1), rfl, ⟨rfl, rfl, rfl, rfl, trivial⟩, rfl, rfl⟩⟩
      · have h453 := cf hc457 h453
        refine CJ.exit ?_
        have e := Option.some.inj h453
        subst e
        refine ⟨nofun, fun e => ?_⟩
        subst e
        exact .inl ⟨rfl, _, rfl, ⟨rfl, trivial, rfl, rfl⟩⟩
    · rintro s ρ _ _ ho495 ⟨rfl, hf496, rfl, rfl⟩
      subst ho495
      obtain ⟨ρ, rfl⟩ := hf496.ex
      refine PJ.done ?_
      refine CJ.seq ?_
      refine CJ.region ?_
      refine J.val (v := .bool true) rfl rfl (V.as rfl) ?_
      refine J.nil ?_
      refine CJ.ret ?_
      have e := Option.some.inj h
      subst e
      exact ⟨_, [], Res.one rfl rfl, ⟨true, rfl, rfl, rfl⟩, (Hp.le_refl _), fun w hs => hs⟩

noncomputable def fn_term_Same (xa : (Int × Int × Int × (List Int) × (List Int) × (List Int))) (xb : (Int × Int × Int × (List Int) × (List Int) × (List Int))) : Option Bool :=
  (cond (((decide (xa.1 = xb.1)) && (decide (xa.2.1 = xb.2.1))) && (decide (xa.2.2.1 = xb.2.2.1))) ((fn_slices_Equal_int_int xa.2.2.2.1 xb.2.2.2.1).bind fun t78 => some (t78)) (some (false))).bind fun t73 => (cond (t73) ((fn_slices_Equal_int_int xa.2.2.2.2.1 xb.2.2.2.2.1).bind fun t94 => some (t94)) (some (false))).bind fun t89 => (cond (t89) ((fn_slices_Equal_int_int xa.2.2.2.2.2 xb.2.2.2.2.2).bind fun t110 => some (t110)) (some (false))).bind fun t105 => some (t105)
set_option maxRecDepth 100000 in
set_option maxHeartbeats 4000000 in
theorem term_Same_ok {K : Hp} {xa : (Int × Int × Int × (List Int) × (List Int) × (List Int))} {xb : (Int × Int × Int × (List Int) × (List Int) × (List Int))} {adxa_3 : Option Addr} {cpxa_3 : Nat} {adxa_4 : Option Addr} {cpxa_4 : Nat} {adxa_5 : Option Addr} {cpxa_5 : Nat} {adxb_3 : Option Addr} {cpxb_3 : Nat} {adxb_4 : Option Addr} {cpxb_4 : Nat} {adxb_5 : Option Addr} {cpxb_5 : Nat} (fxa_3 : Is K (.sl (.int .i64)) [.slice adxa_3 xa.2.2.2.1.length cpxa_3] xa.2.2.2.1) (fxa_4 : Is K (.sl (.int .i64)) [.slice adxa_4 xa.2.2.2.2.1.length cpxa_4] xa.2.2.2.2.1) (fxa_5 : Is K (.sl (.int .i64)) [.slice adxa_5 xa.2.2.2.2.2.length cpxa_5] xa.2.2.2.2.2) (fxb_3 : Is K (.sl (.int .i64)) [.slice adxb_3 xb.2.2.2.1.length cpxb_3] xb.2.2.2.1) (fxb_4 : Is K (.sl (.int .i64)) [.slice adxb_4 xb.2.2.2.2.1.length cpxb_4] xb.2.2.2.2.1) (fxb_5 : Is K (.sl (.int .i64)) [.slice adxb_5 xb.2.2.2.2.2.length cpxb_5] xb.2.2.2.2.2) {r : Bool} (h : fn_term_Same xa xb = some r) :
    Tr Try.prog 16 #[.agg #[.int .i64 xa.1, .int .i64 xa.2.1, .int .i64 xa.2.2.1, .slice adxa_3 xa.2.2.2.1.length cpxa_3, .slice adxa_4 xa.2.2.2.2.1.length cpxa_4, .slice adxa_5 xa.2.2.2.2.2.length cpxa_5], .agg #[.int .i64 xb.1, .int .i64 xb.2.1, .int .i64 xb.2.2.1, .slice adxb_3 xb.2.2.2.1.length cpxb_3, .slice adxb_4 xb.2.2.2.2.1.length cpxb_4, .slice adxb_5 xb.2.2.2.2.2.length cpxb_5]] K [] (fun v K' L' => (∃ (t57 : Bool), t57 = r ∧ .bool t57 = v ∧ L' = []) ∧ K = K') := by
  refine Tr.k ?_
  refine Tr.of Try.func16 rfl Try.ntmps16 rfl (fun E F => ?_)
  unfold fn_term_Same at h
  refine CJ.seq ?_
  refine CJ.region ?_
  refine J.op rfl (A.box (v := .agg #[.int .i64 xa.1, .int .i64 xa.2.1, .int .i64 xa.2.2.1, .slice adxa_3 xa.2.2.2.1.length cpxa_3, .slice adxa_4 xa.2.2.2.2.1.length cpxa_4, .slice adxa_5 xa.2.2.2.2.2.length cpxa_5]) (cs := [.int .i64 xa.1, .int .i64 xa.2.1, .int .i64 xa.2.2.1, .slice adxa_3 xa.2.2.2.1.length cpxa_3, .slice adxa_4 xa.2.2.2.2.1.length cpxa_4, .slice adxa_5 xa.2.2.2.2.2.length cpxa_5]) rfl rfl) ?_
  rintro _ _ _ ⟨b58, rfl, rfl, rfl⟩
  refine J.op rfl (A.box (v := .agg #[.int .i64 xb.1, .int .i64 xb.2.1, .int .i64 xb.2.2.1, .slice adxb_3 xb.2.2.2.1.length cpxb_3, .slice adxb_4 xb.2.2.2.2.1.length cpxb_4, .slice adxb_5 xb.2.2.2.2.2.length cpxb_5]) (cs := [.int .i64 xb.1, .int .i64 xb.2.1, .int .i64 xb.2.2.1, .slice adxb_3 xb.2.2.2.1.length cpxb_3, .slice adxb_4 xb.2.2.2.2.1.length cpxb_4, .slice adxb_5 xb.2.2.2.2.2.length cpxb_5]) rfl rfl) ?_
  rintro _ _ _ ⟨b59, rfl, rfl, rfl⟩
  refine J.val (v := .bool false) rfl rfl (V.as rfl) ?_
  refine J.nil ?_
  refine CJ.seq ?_
  refine CJ.region ?_
  refine J.val rfl rfl (V.fad Try.underlying24 rfl nz3 rfl) ?_
  refine J.val (v := .int .i64 xa.1) rfl rfl (V.ld rfl (Ld.sc sc3 (Rd.cl 1 rfl rfl))) ?_
  refine J.val rfl rfl (V.fad Try.underlying24 rfl nz3 rfl) ?_
  refine J.val (v := .int .i64 xb.1) rfl rfl (V.ld rfl (Ld.sc sc3 (Rd.cl 0 rfl rfl))) ?_
  refine J.val (v := .bool (decide (xa.1 = xb.1))) rfl rfl (V.eql rfl rfl) ?_
  refine J.val (v := .bool (decide (xa.1 = xb.1))) rfl rfl (V.mv rfl) ?_
  refine J.cut 6 ?_
  refine @J.meet _ _ _ _ _ _ _ _ _ _ (fun ρ K' L' => Fits [(16, .bool ((decide (xa.1 = xb.1)) && (decide (xa.2.1 = xb.2.1)))), (2, .pointer (some ⟨b58, 0, none⟩)), (3, .pointer (some ⟨b59, 0, none⟩))] ρ ∧ K = K' ∧ L' = Cl b59 24 [.int .i64 xb.1, .int .i64 xb.2.1, .int .i64 xb.2.2.1, .slice adxb_3 xb.2.2.2.1.length cpxb_3, .slice adxb_4 xb.2.2.2.2.1.length cpxb_4, .slice adxb_5 xb.2.2.2.2.2.length cpxb_5] :: Cl b58 24 [.int .i64 xa.1, .int .i64 xa.2.1, .int .i64 xa.2.2.1, .slice adxa_3 xa.2.2.2.1.length cpxa_3, .slice adxa_4 xa.2.2.2.2.1.length cpxa_4, .slice adxa_5 xa.2.2.2.2.2.length cpxa_5] :: F) ?_ ?_
  · skip
    rcases bt (decide (xa.1 = xb.1)) with hc62 | hc62
    · skip
      refine J.run rfl rfl rfl hc62 ?_
      refine J.val rfl rfl (V.fad Try.underlying24 rfl nz3 rfl) ?_
      refine J.run rfl rfl rfl hc62 ?_
      refine J.val (v := .int .i64 xa.2.1) rfl rfl (V.ld rfl (Ld.sc sc3 (Rd.cl 1 rfl rfl))) ?_
      refine J.run rfl rfl rfl hc62 ?_
      refine J.val rfl rfl (V.fad Try.underlying24 rfl nz3 rfl) ?_
      refine J.run rfl rfl rfl hc62 ?_
      refine J.val (v := .int .i64 xb.2.1) rfl rfl (V.ld rfl (Ld.sc sc3 (Rd.cl 0 rfl rfl))) ?_
      refine J.run rfl rfl rfl hc62 ?_
      refine J.val (v := .bool (decide (xa.2.1 = xb.2.1))) rfl rfl (V.eql rfl rfl) ?_
      refine J.val (v := .bool (decide (xa.2.1 = xb.2.1))) rfl rfl (V.pickT rfl hc62 rfl) ?_
      refine J.nil ?_
      exact ⟨rfl, ⟨(by simp only [hc62]; rfl), rfl, rfl, trivial⟩, rfl, rfl⟩
    · skip
      refine J.skip rfl rfl rfl rfl hc62 ?_
      refine J.skip rfl rfl rfl rfl hc62 ?_
      refine J.skip rfl rfl rfl rfl hc62 ?_
      refine J.skip rfl rfl rfl rfl hc62 ?_
      refine J.skip rfl rfl rfl rfl hc62 ?_
      refine J.val (v := .bool false) rfl rfl (V.pickF rfl hc62 rfl) ?_
      refine J.nil ?_
      exact ⟨rfl, ⟨(by simp only [hc62]; rfl), rfl, rfl, trivial⟩, rfl, rfl⟩
  · rintro ρ _ _ ⟨hf, rfl, rfl⟩
    obtain ⟨ρ, rfl⟩ := hf.ex
    refine J.val (v := .bool ((decide (xa.1 = xb.1)) && (decide (xa.2.1 = xb.2.1)))) rfl rfl (V.mv rfl) ?_
    refine J.cut 6 ?_
    refine @J.meet _ _ _ _ _ _ _ _ _ _ (fun ρ K' L' => Fits [(23, .bool (((decide (xa.1 = xb.1)) && (decide (xa.2.1 = xb.2.1))) && (decide (xa.2.2.1 = xb.2.2.1)))), (2, .pointer (some ⟨b58, 0, none⟩)), (3, .pointer (some ⟨b59, 0, none⟩))] ρ ∧ K = K' ∧ L' = Cl b59 24 [.int .i64 xb.1, .int .i64 xb.2.1, .int .i64 xb.2.2.1, .slice adxb_3 xb.2.2.2.1.length cpxb_3, .slice adxb_4 xb.2.2.2.2.1.length cpxb_4, .slice adxb_5 xb.2.2.2.2.2.length cpxb_5] :: Cl b58 24 [.int .i64 xa.1, .int .i64 xa.2.1, .int .i64 xa.2.2.1, .slice adxa_3 xa.2.2.2.1.length cpxa_3, .slice adxa_4 xa.2.2.2.2.1.length cpxa_4, .slice adxa_5 xa.2.2.2.2.2.length cpxa_5] :: F) ?_ ?_
    · skip
      rcases bt ((decide (xa.1 = xb.1)) && (decide (xa.2.1 = xb.2.1))) with hc65 | hc65
      · skip
        refine J.run rfl rfl rfl hc65 ?_
        refine J.val rfl rfl (V.fad Try.underlying24 rfl nz3 rfl) ?_
        refine J.run rfl rfl rfl hc65 ?_
        refine J.val (v := .int .i64 xa.2.2.1) rfl rfl (V.ld rfl (Ld.sc sc3 (Rd.cl 1 rfl rfl))) ?_
        refine J.run rfl rfl rfl hc65 ?_
        refine J.val rfl rfl (V.fad Try.underlying24 rfl nz3 rfl) ?_
        refine J.run rfl rfl rfl hc65 ?_
        refine J.val (v := .int .i64 xb.2.2.1) rfl rfl (V.ld rfl (Ld.sc sc3 (Rd.cl 0 rfl rfl))) ?_
        refine J.run rfl rfl rfl hc65 ?_
        refine J.val (v := .bool (decide (xa.2.2.1 = xb.2.2.1))) rfl rfl (V.eql rfl rfl) ?_
        refine J.val (v := .bool (decide (xa.2.2.1 = xb.2.2.1))) rfl rfl (V.pickT rfl hc65 rfl) ?_
        refine J.nil ?_
        exact ⟨rfl, ⟨(by simp only [hc65]; rfl), rfl, rfl, trivial⟩, rfl, rfl⟩
      · skip
        refine J.skip rfl rfl rfl rfl hc65 ?_
        refine J.skip rfl rfl rfl rfl hc65 ?_
        refine J.skip rfl rfl rfl rfl hc65 ?_
        refine J.skip rfl rfl rfl rfl hc65 ?_
        refine J.skip rfl rfl rfl rfl hc65 ?_
        refine J.val (v := .bool false) rfl rfl (V.pickF rfl hc65 rfl) ?_
        refine J.nil ?_
        exact ⟨rfl, ⟨(by simp only [hc65]; rfl), rfl, rfl, trivial⟩, rfl, rfl⟩
    · rintro ρ _ _ ⟨hf, rfl, rfl⟩
      obtain ⟨ρ, rfl⟩ := hf.ex
      refine J.val (v := .bool (((decide (xa.1 = xb.1)) && (decide (xa.2.1 = xb.2.1))) && (decide (xa.2.2.1 = xb.2.2.1)))) rfl rfl (V.mv rfl) ?_
      refine J.cut 6 ?_
      obtain ⟨t73, ht74, h⟩ := ob h
      refine @J.meet _ _ _ _ _ _ _ _ _ _ (fun ρ K' L' => Fits [(30, .bool t73), (2, .pointer (some ⟨b58, 0, none⟩)), (3, .pointer (some ⟨b59, 0, none⟩))] ρ ∧ K = K' ∧ L' = Cl b59 24 [.int .i64 xb.1, .int .i64 xb.2.1, .int .i64 xb.2.2.1, .slice adxb_3 xb.2.2.2.1.length cpxb_3, .slice adxb_4 xb.2.2.2.2.1.length cpxb_4, .slice adxb_5 xb.2.2.2.2.2.length cpxb_5] :: Cl b58 24 [.int .i64 xa.1, .int .i64 xa.2.1, .int .i64 xa.2.2.1, .slice adxa_3 xa.2.2.2.1.length cpxa_3, .slice adxa_4 xa.2.2.2.2.1.length cpxa_4, .slice adxa_5 xa.2.2.2.2.2.length cpxa_5] :: F) ?_ ?_
      · skip
        rcases bt (((decide (xa.1 = xb.1)) && (decide (xa.2.1 = xb.2.1))) && (decide (xa.2.2.1 = xb.2.2.1))) with hc75 | hc75
        · have ht74 := ct hc75 ht74
          refine J.run rfl rfl rfl hc75 ?_
          refine J.val rfl rfl (V.fad Try.underlying24 rfl nz22 rfl) ?_
          refine J.run rfl rfl rfl hc75 ?_
          refine J.val (v := .slice adxa_3 xa.2.2.2.1.length cpxa_3) rfl rfl (V.ld rfl (Ld.sc sc22 (Rd.cl 1 rfl rfl))) ?_
          refine J.run rfl rfl rfl hc75 ?_
          refine J.val rfl rfl (V.fad Try.underlying24 rfl nz22 rfl) ?_
          refine J.run rfl rfl rfl hc75 ?_
          refine J.val (v := .slice adxb_3 xb.2.2.2.1.length cpxb_3) rfl rfl (V.ld rfl (Ld.sc sc22 (Rd.cl 0 rfl rfl))) ?_
          refine J.run rfl rfl rfl hc75 ?_
          obtain ⟨r76, hr77, ht74⟩ := ob ht74
          refine J.op rfl (A.call (L1 := []) Try.call36 rfl (slices_Equal_int_int_ok fxa_3 fxb_3 hr77) rfl rfl) ?_
          rintro _ _ _ ⟨v79, _, rfl, ⟨⟨t78, rfl, rfl, rfl⟩, rfl⟩, _, rfl⟩
          refine J.val (v := .bool t78) rfl rfl (V.pickT rfl hc75 rfl) ?_
          refine J.nil ?_
          have e := Option.some.inj ht74
          subst e
          exact ⟨rfl, ⟨rfl, rfl, rfl, trivial⟩, rfl, rfl⟩
        · have ht74 := cf hc75 ht74
          refine J.skip rfl rfl rfl rfl hc75 ?_
          refine J.skip rfl rfl rfl rfl hc75 ?_
          refine J.skip rfl rfl rfl rfl hc75 ?_
          refine J.skip rfl rfl rfl rfl hc75 ?_
          refine J.skip rfl rfl rfl rfl hc75 ?_
          refine J.val (v := .bool false) rfl rfl (V.pickF rfl hc75 rfl) ?_
          refine J.nil ?_
          have e := Option.some.inj ht74
          subst e
          exact ⟨rfl, ⟨rfl, rfl, rfl, trivial⟩, rfl, rfl⟩
      · rintro ρ _ _ ⟨hf, rfl, rfl⟩
        obtain ⟨ρ, rfl⟩ := hf.ex
        refine J.val (v := .bool t73) rfl rfl (V.mv rfl) ?_
        refine J.cut 6 ?_
        obtain ⟨t89, ht90, h⟩ := ob h
        refine @J.meet _ _ _ _ _ _ _ _ _ _ (fun ρ K' L' => Fits [(37, .bool t89), (2, .pointer (some ⟨b58, 0, none⟩)), (3, .pointer (some ⟨b59, 0, none⟩))] ρ ∧ K = K' ∧ L' = Cl b59 24 [.int .i64 xb.1, .int .i64 xb.2.1, .int .i64 xb.2.2.1, .slice adxb_3 xb.2.2.2.1.length cpxb_3, .slice adxb_4 xb.2.2.2.2.1.length cpxb_4, .slice adxb_5 xb.2.2.2.2.2.length cpxb_5] :: Cl b58 24 [.int .i64 xa.1, .int .i64 xa.2.1, .int .i64 xa.2.2.1, .slice adxa_3 xa.2.2.2.1.length cpxa_3, .slice adxa_4 xa.2.2.2.2.1.length cpxa_4, .slice adxa_5 xa.2.2.2.2.2.length cpxa_5] :: F) ?_ ?_
        · skip
          rcases bt (t73) with hc91 | hc91
          · have ht90 := ct hc91 ht90
            refine J.run rfl rfl rfl hc91 ?_
            refine J.val rfl rfl (V.fad Try.underlying24 rfl nz22 rfl) ?_
            refine J.run rfl rfl rfl hc91 ?_
            refine J.val (v := .slice adxa_4 xa.2.2.2.2.1.length cpxa_4) rfl rfl (V.ld rfl (Ld.sc sc22 (Rd.cl 1 rfl rfl))) ?_
            refine J.run rfl rfl rfl hc91 ?_
            refine J.val rfl rfl (V.fad Try.underlying24 rfl nz22 rfl) ?_
            refine J.run rfl rfl rfl hc91 ?_
            refine J.val (v := .slice adxb_4 xb.2.2.2.2.1.length cpxb_4) rfl rfl (V.ld rfl (Ld.sc sc22 (Rd.cl 0 rfl rfl))) ?_
            refine J.run rfl rfl rfl hc91 ?_
            obtain ⟨r92, hr93, ht90⟩ := ob ht90
            refine J.op rfl (A.call (L1 := []) Try.call36 rfl (slices_Equal_int_int_ok fxa_4 fxb_4 hr93) rfl rfl) ?_
            rintro _ _ _ ⟨v95, _, rfl, ⟨⟨t94, rfl, rfl, rfl⟩, rfl⟩, _, rfl⟩
            refine J.val (v := .bool t94) rfl rfl (V.pickT rfl hc91 rfl) ?_
            refine J.nil ?_
            have e := Option.some.inj ht90
            subst e
            exact ⟨rfl, ⟨rfl, rfl, rfl, trivial⟩, rfl, rfl⟩
          · have ht90 := cf hc91 ht90
            refine J.skip rfl rfl rfl rfl hc91 ?_
            refine J.skip rfl rfl rfl rfl hc91 ?_
            refine J.skip rfl rfl rfl rfl hc91 ?_
            refine J.skip rfl rfl rfl rfl hc91 ?_
            refine J.skip rfl rfl rfl rfl hc91 ?_
            refine J.val (v := .bool false) rfl rfl (V.pickF rfl hc91 rfl) ?_
            refine J.nil ?_
            have e := Option.some.inj ht90
            subst e
            exact ⟨rfl, ⟨rfl, rfl, rfl, trivial⟩, rfl, rfl⟩
        · rintro ρ _ _ ⟨hf, rfl, rfl⟩
          obtain ⟨ρ, rfl⟩ := hf.ex
          refine J.val (v := .bool t89) rfl rfl (V.mv rfl) ?_
          refine J.cut 6 ?_
          obtain ⟨t105, ht106, h⟩ := ob h
          refine @J.meet _ _ _ _ _ _ _ _ _ _ (fun ρ K' L' => Fits [(44, .bool t105)] ρ ∧ K = K' ∧ L' = Cl b59 24 [.int .i64 xb.1, .int .i64 xb.2.1, .int .i64 xb.2.2.1, .slice adxb_3 xb.2.2.2.1.length cpxb_3, .slice adxb_4 xb.2.2.2.2.1.length cpxb_4, .slice adxb_5 xb.2.2.2.2.2.length cpxb_5] :: Cl b58 24 [.int .i64 xa.1, .int .i64 xa.2.1, .int .i64 xa.2.2.1, .slice adxa_3 xa.2.2.2.1.length cpxa_3, .slice adxa_4 xa.2.2.2.2.1.length cpxa_4, .slice adxa_5 xa.2.2.2.2.2.length cpxa_5] :: F) ?_ ?_
          · skip
            rcases bt (t89) with hc107 | hc107
            · have ht106 := ct hc107 ht106
              refine J.run rfl rfl rfl hc107 ?_
              refine J.val rfl rfl (V.fad Try.underlying24 rfl nz22 rfl) ?_
              refine J.run rfl rfl rfl hc107 ?_
              refine J.val (v := .slice adxa_5 xa.2.2.2.2.2.length cpxa_5) rfl rfl (V.ld rfl (Ld.sc sc22 (Rd.cl 1 rfl rfl))) ?_
              refine J.run rfl rfl rfl hc107 ?_
              refine J.val rfl rfl (V.fad Try.underlying24 rfl nz22 rfl) ?_
              refine J.run rfl rfl rfl hc107 ?_
              refine J.val (v := .slice adxb_5 xb.2.2.2.2.2.length cpxb_5) rfl rfl (V.ld rfl (Ld.sc sc22 (Rd.cl 0 rfl rfl))) ?_
              refine J.run rfl rfl rfl hc107 ?_
              obtain ⟨r108, hr109, ht106⟩ := ob ht106
              refine J.op rfl (A.call (L1 := []) Try.call36 rfl (slices_Equal_int_int_ok fxa_5 fxb_5 hr109) rfl rfl) ?_
              rintro _ _ _ ⟨v111, _, rfl, ⟨⟨t110, rfl, rfl, rfl⟩, rfl⟩, _, rfl⟩
              refine J.val (v := .bool t110) rfl rfl (V.pickT rfl hc107 rfl) ?_
              refine J.nil ?_
              have e := Option.some.inj ht106
              subst e
              exact ⟨rfl, ⟨rfl, trivial⟩, rfl, rfl⟩
            · have ht106 := cf hc107 ht106
              refine J.skip rfl rfl rfl rfl hc107 ?_
              refine J.skip rfl rfl rfl rfl hc107 ?_
              refine J.skip rfl rfl rfl rfl hc107 ?_
              refine J.skip rfl rfl rfl rfl hc107 ?_
              refine J.skip rfl rfl rfl rfl hc107 ?_
              refine J.val (v := .bool false) rfl rfl (V.pickF rfl hc107 rfl) ?_
              refine J.nil ?_
              have e := Option.some.inj ht106
              subst e
              exact ⟨rfl, ⟨rfl, trivial⟩, rfl, rfl⟩
          · rintro ρ _ _ ⟨hf, rfl, rfl⟩
            obtain ⟨ρ, rfl⟩ := hf.ex
            refine J.val (v := .bool t105) rfl rfl (V.as rfl) ?_
            refine J.nil ?_
            refine CJ.ret ?_
            have e := Option.some.inj h
            subst e
            exact ⟨_, [], Res.one rfl rfl, ⟨t105, rfl, rfl, rfl⟩, (Hp.le_refl _), fun w hs => (Sep.dropAt 0 rfl (Sep.dropAt 0 rfl hs))⟩
noncomputable def fn_ref19_within_l1 (xa : (List Int)) (xb : Int) : Int → Option (Int ⊕ (Unit ⊕ Bool)) := fun (i361 : Int) => cond (decide (i361 < (((xa.length : Nat) : Int)))) ((getI xa i361).bind fun x401 => (cond (decide (x401 < 0)) (some (true)) ((getI xa i361).bind fun x423 => some (decide (xb ≤ x423)))).bind fun t420 => cond (t420) (some (.inr ((.inr (false))))) (some (.inl (IntKind.wrap .i64 (i361 + 1))))) (some (.inr ((.inl ()))))
noncomputable def fn_ref19_within (xa : (List Int)) (xb : Int) : Option Bool :=
  (loop (fn_ref19_within_l1 xa xb) 0 : Option (Unit ⊕ Bool)).bind fun o => match o with | .inr r => some r | .inl () => some (true)
set_option maxRecDepth 100000 in
set_option maxHeartbeats 4000000 in
theorem ref19_within_ok {K : Hp} {xa : (List Int)} {xb : Int} {adxa_0 : Option Addr} {cpxa_0 : Nat} (fxa_0 : Is K (.sl (.int .i64)) [.slice adxa_0 xa.length cpxa_0] xa) {r : Bool} (h : fn_ref19_within xa xb = some r) :
    Tr Try.prog 27 #[.slice adxa_0 xa.length cpxa_0, .int .i64 xb] K [] (fun v K' L' => (∃ (t218 : Bool), t218 = r ∧ .bool t218 = v ∧ L' = []) ∧ K = K') := by
  refine Tr.k ?_
  refine Tr.of Try.func27 rfl Try.ntmps27 rfl (fun E F => ?_)
  unfold fn_ref19_within at h
  refine CJ.seq ?_
  refine CJ.region ?_
  refine J.val (v := .bool false) rfl rfl (V.as rfl) ?_
  refine J.nil ?_
  refine CJ.seq ?_
  refine CJ.seq ?_
  refine CJ.region ?_
  refine J.val (v := .int .i64 0) rfl rfl (V.as rfl) ?_
  refine J.nil ?_
  obtain ⟨o325, ho326, h⟩ := ob h
  refine CJ.joinN (o := o325) (fun s ρ K' L' => () = s ∧ Fits [] ρ ∧ K = K' ∧ F = L') ?_ ?_
  · skip
    refine CJ.block ?_
    refine CJ.loop (fun s ρ K' L' => ∃ (i361 : Int), i361 = s ∧ Fits [(0, .slice adxa_0 xa.length cpxa_0), (1, .int .i64 xb), (5, .int .i64 i361)] ρ ∧ K = K' ∧ F = L') ho326 ⟨0, rfl, ⟨rfl, rfl, rfl, trivial⟩, rfl, rfl⟩ ?_
    rintro s ρ _ _ r399 ⟨i361, rfl, hf397, rfl, rfl⟩ h396
    obtain ⟨ρ, rfl⟩ := hf397.ex
    refine CJ.seq ?_
    refine CJ.seq ?_
    refine CJ.region ?_
    refine J.val (v := .int .i64 i361) rfl rfl (V.mv rfl) ?_
    refine J.val (v := .slice adxa_0 xa.length cpxa_0) rfl rfl (V.mv rfl) ?_
    refine J.val (v := .int .i64 (((xa.length : Nat) : Int))) rfl rfl (V.len Try.underlying22 rfl) ?_
    refine J.val (v := .bool (decide (i361 < (((xa.length : Nat) : Int))))) rfl rfl (V.lss rfl rfl) ?_
    refine J.nil ?_
    refine CJ.cond rfl (fun hc400 => ?_) (fun hc400 => ?_)
    · have h396 := ct hc400 h396
      refine CJ.skip ?_
      refine CJ.seq ?_
      refine CJ.block ?_
      refine CJ.seq ?_
      refine CJ.region ?_
      refine J.val (v := .slice adxa_0 xa.length cpxa_0) rfl rfl (V.mv rfl) ?_
      refine J.val (v := .int .i64 i361) rfl rfl (V.mv rfl) ?_
      obtain ⟨x401, hx402, h396⟩ := ob h396
      obtain ⟨p403, p404, p405⟩ := getI_some hx402
      obtain ⟨b406, o407, e408, a409⟩ := (fxa_0).at p404
      refine J.val rfl rfl (V.iad Try.underlying22 sz3 rfl e408 rfl p403 p405) ?_
      refine J.val (v := .int .i64 x401) rfl rfl (V.ld rfl (Ld.sc sc3 (Rd.k (a409).int (Hp.le_refl _)))) ?_
      refine J.val (v := .bool (decide (x401 < 0))) rfl rfl (V.lss rfl rfl) ?_
      refine J.val (v := .bool (decide (x401 < 0))) rfl rfl (V.mv rfl) ?_
      refine J.cut 7 ?_
      obtain ⟨t420, ht421, h396⟩ := ob h396
      refine @J.meet _ _ _ _ _ _ _ _ _ _ (fun ρ K' L' => Fits [(24, .bool t420), (0, .slice adxa_0 xa.length cpxa_0), (1, .int .i64 xb), (5, .int .i64 i361)] ρ ∧ K = K' ∧ F = L') ?_ ?_
      · skip
        rcases bt (decide (x401 < 0)) with hc422 | hc422
        · have ht421 := ct hc422 ht421
          refine J.skip rfl rfl rfl rfl hc422 ?_
          refine J.skip rfl rfl rfl rfl hc422 ?_
          refine J.skip rfl rfl rfl rfl hc422 ?_
          refine J.skip rfl rfl rfl rfl hc422 ?_
          refine J.skip rfl rfl rfl rfl hc422 ?_
          refine J.skip rfl rfl rfl rfl hc422 ?_
          refine J.val (v := .bool true) rfl rfl (V.pickT rfl hc422 rfl) ?_
          refine J.nil ?_
          have e := Option.some.inj ht421
          subst e
          exact ⟨rfl, ⟨rfl, rfl, rfl, rfl, trivial⟩, rfl, rfl⟩
        · have ht421 := cf hc422 ht421
          refine J.run rfl rfl rfl hc422 ?_
          refine J.val (v := .slice adxa_0 xa.length cpxa_0) rfl rfl (V.mv rfl) ?_
          refine J.run rfl rfl rfl hc422 ?_
          refine J.val (v := .int .i64 i361) rfl rfl (V.mv rfl) ?_
          refine J.run rfl rfl rfl hc422 ?_
          obtain ⟨x423, hx424, ht421⟩ := ob ht421
          obtain ⟨p425, p426, p427⟩ := getI_some hx424
          obtain ⟨b428, o429, e430, a431⟩ := (fxa_0).at p426
          refine J.val rfl rfl (V.iad Try.underlying22 sz3 rfl e430 rfl p425 p427) ?_
          refine J.run rfl rfl rfl hc422 ?_
          refine J.val (v := .int .i64 x423) rfl rfl (V.ld rfl (Ld.sc sc3 (Rd.k (a431).int (Hp.le_refl _)))) ?_
          refine J.run rfl rfl rfl hc422 ?_
          refine J.val (v := .int .i64 xb) rfl rfl (V.mv rfl) ?_
          refine J.run rfl rfl rfl hc422 ?_
          refine J.val (v := .bool (decide (xb ≤ x423))) rfl rfl (V.geq rfl rfl) ?_
          refine J.val (v := .bool (decide (xb ≤ x423))) rfl rfl (V.pickF rfl hc422 rfl) ?_
          refine J.nil ?_
          have e := Option.some.inj ht421
          subst e
          exact ⟨rfl, ⟨rfl, rfl, rfl, rfl, trivial⟩, rfl, rfl⟩
      · rintro ρ _ _ ⟨hf, rfl, rfl⟩
        obtain ⟨ρ, rfl⟩ := hf.ex
        refine J.nil ?_
        refine CJ.cond rfl (fun hc432 => ?_) (fun hc432 => ?_)
        · have h396 := ct hc432 h396
          refine CJ.seq ?_
          refine CJ.region ?_
          refine J.val (v := .bool false) rfl rfl (V.as rfl) ?_
          refine J.nil ?_
          refine CJ.ret ?_
          have e := Option.some.inj h396
          subst e
          refine ⟨nofun, fun e => ?_⟩
          subst e
          refine .inr ⟨nofun, ?_⟩
          have e := Option.some.inj h
          subst e
          exact ⟨_, [], Res.one rfl rfl, ⟨false, rfl, rfl, rfl⟩, (Hp.le_refl _), fun w hs => hs⟩
        · have h396 := cf hc432 h396
          refine CJ.skip ?_
          refine CJ.region ?_
          refine J.val (v := .int .i64 i361) rfl rfl (V.mv rfl) ?_
          refine J.val (v := .int .i64 (IntKind.wrap .i64 (i361 + 1))) rfl rfl (V.add rfl rfl) ?_
          refine J.val (v := .int .i64 (IntKind.wrap .i64 (i361 + 1))) rfl rfl (V.as rfl) ?_
          refine J.nil ?_
          have e := Option.some.inj h396
          subst e
          exact ⟨rfl, ⟨IntKind.wrap .i64 (i361 + 1), rfl, ⟨rfl, rfl, rfl, trivial⟩, rfl, rfl⟩⟩
    · have h396 := cf hc400 h396
      refine CJ.exit ?_
      have e := Option.some.inj h396
      subst e
      refine ⟨nofun, fun e => ?_⟩
      subst e
      exact .inl ⟨rfl, _, rfl, ⟨rfl, trivial, rfl, rfl⟩⟩
  · rintro s ρ _ _ ho433 ⟨rfl, hf434, rfl, rfl⟩
    subst ho433
    obtain ⟨ρ, rfl⟩ := hf434.ex
    refine PJ.done ?_
    refine CJ.seq ?_
    refine CJ.region ?_
    refine J.val (v := .bool true) rfl rfl (V.as rfl) ?_
    refine J.nil ?_
    refine CJ.ret ?_
    have e := Option.some.inj h
    subst e
    exact ⟨_, [], Res.one rfl rfl, ⟨true, rfl, rfl, rfl⟩, (Hp.le_refl _), fun w hs => hs⟩

noncomputable def fn_ref19_Plain (xa : (Int × Int × Int × (List Int) × (List Int) × (List Int))) : Option Bool :=
  (cond (((decide ((((xa.2.2.2.1.length : Nat) : Int)) ≤ 20)) && (decide ((((xa.2.2.2.2.1.length : Nat) : Int)) ≤ 20))) && (decide ((((xa.2.2.2.2.2.length : Nat) : Int)) ≤ 20))) ((fn_ref19_within xa.2.2.2.1 2147483648).bind fun t105 => some (t105)) (some (false))).bind fun t100 => (cond (t100) ((fn_ref19_within xa.2.2.2.2.1 2147483648).bind fun t121 => some (t121)) (some (false))).bind fun t116 => (cond (t116) ((fn_ref19_within xa.2.2.2.2.2 2147483648).bind fun t137 => some (t137)) (some (false))).bind fun t132 => (cond (t132) ((fn_ref19_within ([xa.2.1, xa.2.2.1] : List Int) 2147483648).bind fun t165 => some (t165)) (some (false))).bind fun t154 => some (t154)
set_option maxRecDepth 100000 in
set_option maxHeartbeats 4000000 in
theorem ref19_Plain_ok {K : Hp} {xa : (Int × Int × Int × (List Int) × (List Int) × (List Int))} {adxa_3 : Option Addr} {cpxa_3 : Nat} {adxa_4 : Option Addr} {cpxa_4 : Nat} {adxa_5 : Option Addr} {cpxa_5 : Nat} (fxa_3 : Is K (.sl (.int .i64)) [.slice adxa_3 xa.2.2.2.1.length cpxa_3] xa.2.2.2.1) (fxa_4 : Is K (.sl (.int .i64)) [.slice adxa_4 xa.2.2.2.2.1.length cpxa_4] xa.2.2.2.2.1) (fxa_5 : Is K (.sl (.int .i64)) [.slice adxa_5 xa.2.2.2.2.2.length cpxa_5] xa.2.2.2.2.2) {r : Bool} (h : fn_ref19_Plain xa = some r) :
    Tr Try.prog 17 #[.agg #[.int .i64 xa.1, .int .i64 xa.2.1, .int .i64 xa.2.2.1, .slice adxa_3 xa.2.2.2.1.length cpxa_3, .slice adxa_4 xa.2.2.2.2.1.length cpxa_4, .slice adxa_5 xa.2.2.2.2.2.length cpxa_5]] K [] (fun v K' L' => (∃ (t85 : Bool), t85 = r ∧ .bool t85 = v ∧ L' = []) ∧ K = K') := by
  refine Tr.k ?_
  refine Tr.of Try.func17 rfl Try.ntmps17 rfl (fun E F => ?_)
  unfold fn_ref19_Plain at h
  refine CJ.seq ?_
  refine CJ.region ?_
  refine J.op rfl (A.box (v := .agg #[.int .i64 xa.1, .int .i64 xa.2.1, .int .i64 xa.2.2.1, .slice adxa_3 xa.2.2.2.1.length cpxa_3, .slice adxa_4 xa.2.2.2.2.1.length cpxa_4, .slice adxa_5 xa.2.2.2.2.2.length cpxa_5]) (cs := [.int .i64 xa.1, .int .i64 xa.2.1, .int .i64 xa.2.2.1, .slice adxa_3 xa.2.2.2.1.length cpxa_3, .slice adxa_4 xa.2.2.2.2.1.length cpxa_4, .slice adxa_5 xa.2.2.2.2.2.length cpxa_5]) rfl rfl) ?_
  rintro _ _ _ ⟨b86, rfl, rfl, rfl⟩
  refine J.val (v := .bool false) rfl rfl (V.as rfl) ?_
  refine J.nil ?_
  refine CJ.seq ?_
  refine CJ.region ?_
  refine J.val rfl rfl (V.fad Try.underlying24 rfl nz22 rfl) ?_
  refine J.val (v := .slice adxa_3 xa.2.2.2.1.length cpxa_3) rfl rfl (V.ld rfl (Ld.sc sc22 (Rd.cl 0 rfl rfl))) ?_
  refine J.val (v := .int .i64 (((xa.2.2.2.1.length : Nat) : Int))) rfl rfl (V.len Try.underlying22 rfl) ?_
  refine J.val (v := .bool (decide ((((xa.2.2.2.1.length : Nat) : Int)) ≤ 20))) rfl rfl (V.leq rfl rfl) ?_
  refine J.val (v := .bool (decide ((((xa.2.2.2.1.length : Nat) : Int)) ≤ 20))) rfl rfl (V.mv rfl) ?_
  refine J.cut 5 ?_
  refine @J.meet _ _ _ _ _ _ _ _ _ _ (fun ρ K' L' => Fits [(12, .bool ((decide ((((xa.2.2.2.1.length : Nat) : Int)) ≤ 20)) && (decide ((((xa.2.2.2.2.1.length : Nat) : Int)) ≤ 20)))), (1, .pointer (some ⟨b86, 0, none⟩))] ρ ∧ K = K' ∧ L' = Cl b86 24 [.int .i64 xa.1, .int .i64 xa.2.1, .int .i64 xa.2.2.1, .slice adxa_3 xa.2.2.2.1.length cpxa_3, .slice adxa_4 xa.2.2.2.2.1.length cpxa_4, .slice adxa_5 xa.2.2.2.2.2.length cpxa_5] :: F) ?_ ?_
  · skip
    rcases bt (decide ((((xa.2.2.2.1.length : Nat) : Int)) ≤ 20)) with hc89 | hc89
    · skip
      refine J.run rfl rfl rfl hc89 ?_
      refine J.val rfl rfl (V.fad Try.underlying24 rfl nz22 rfl) ?_
      refine J.run rfl rfl rfl hc89 ?_
      refine J.val (v := .slice adxa_4 xa.2.2.2.2.1.length cpxa_4) rfl rfl (V.ld rfl (Ld.sc sc22 (Rd.cl 0 rfl rfl))) ?_
      refine J.run rfl rfl rfl hc89 ?_
      refine J.val (v := .int .i64 (((xa.2.2.2.2.1.length : Nat) : Int))) rfl rfl (V.len Try.underlying22 rfl) ?_
      refine J.run rfl rfl rfl hc89 ?_
      refine J.val (v := .bool (decide ((((xa.2.2.2.2.1.length : Nat) : Int)) ≤ 20))) rfl rfl (V.leq rfl rfl) ?_
      refine J.val (v := .bool (decide ((((xa.2.2.2.2.1.length : Nat) : Int)) ≤ 20))) rfl rfl (V.pickT rfl hc89 rfl) ?_
      refine J.nil ?_
      exact ⟨rfl, ⟨(by simp only [hc89]; rfl), rfl, trivial⟩, rfl, rfl⟩
    · skip
      refine J.skip rfl rfl rfl rfl hc89 ?_
      refine J.skip rfl rfl rfl rfl hc89 ?_
      refine J.skip rfl rfl rfl rfl hc89 ?_
      refine J.skip rfl rfl rfl rfl hc89 ?_
      refine J.val (v := .bool false) rfl rfl (V.pickF rfl hc89 rfl) ?_
      refine J.nil ?_
      exact ⟨rfl, ⟨(by simp only [hc89]; rfl), rfl, trivial⟩, rfl, rfl⟩
  · rintro ρ _ _ ⟨hf, rfl, rfl⟩
    obtain ⟨ρ, rfl⟩ := hf.ex
    refine J.val (v := .bool ((decide ((((xa.2.2.2.1.length : Nat) : Int)) ≤ 20)) && (decide ((((xa.2.2.2.2.1.length : Nat) : Int)) ≤ 20)))) rfl rfl (V.mv rfl) ?_
    refine J.cut 5 ?_
    refine @J.meet _ _ _ _ _ _ _ _ _ _ (fun ρ K' L' => Fits [(18, .bool (((decide ((((xa.2.2.2.1.length : Nat) : Int)) ≤ 20)) && (decide ((((xa.2.2.2.2.1.length : Nat) : Int)) ≤ 20))) && (decide ((((xa.2.2.2.2.2.length : Nat) : Int)) ≤ 20)))), (1, .pointer (some ⟨b86, 0, none⟩))] ρ ∧ K = K' ∧ L' = Cl b86 24 [.int .i64 xa.1, .int .i64 xa.2.1, .int .i64 xa.2.2.1, .slice adxa_3 xa.2.2.2.1.length cpxa_3, .slice adxa_4 xa.2.2.2.2.1.length cpxa_4, .slice adxa_5 xa.2.2.2.2.2.length cpxa_5] :: F) ?_ ?_
    · skip
      rcases bt ((decide ((((xa.2.2.2.1.length : Nat) : Int)) ≤ 20)) && (decide ((((xa.2.2.2.2.1.length : Nat) : Int)) ≤ 20))) with hc92 | hc92
      · skip
        refine J.run rfl rfl rfl hc92 ?_
        refine J.val rfl rfl (V.fad Try.underlying24 rfl nz22 rfl) ?_
        refine J.run rfl rfl rfl hc92 ?_
        refine J.val (v := .slice adxa_5 xa.2.2.2.2.2.length cpxa_5) rfl rfl (V.ld rfl (Ld.sc sc22 (Rd.cl 0 rfl rfl))) ?_
        refine J.run rfl rfl rfl hc92 ?_
        refine J.val (v := .int .i64 (((xa.2.2.2.2.2.length : Nat) : Int))) rfl rfl (V.len Try.underlying22 rfl) ?_
        refine J.run rfl rfl rfl hc92 ?_
        refine J.val (v := .bool (decide ((((xa.2.2.2.2.2.length : Nat) : Int)) ≤ 20))) rfl rfl (V.leq rfl rfl) ?_
        refine J.val (v := .bool (decide ((((xa.2.2.2.2.2.length : Nat) : Int)) ≤ 20))) rfl rfl (V.pickT rfl hc92 rfl) ?_
        refine J.nil ?_
        exact ⟨rfl, ⟨(by simp only [hc92]; rfl), rfl, trivial⟩, rfl, rfl⟩
      · skip
        refine J.skip rfl rfl rfl rfl hc92 ?_
        refine J.skip rfl rfl rfl rfl hc92 ?_
        refine J.skip rfl rfl rfl rfl hc92 ?_
        refine J.skip rfl rfl rfl rfl hc92 ?_
        refine J.val (v := .bool false) rfl rfl (V.pickF rfl hc92 rfl) ?_
        refine J.nil ?_
        exact ⟨rfl, ⟨(by simp only [hc92]; rfl), rfl, trivial⟩, rfl, rfl⟩
    · rintro ρ _ _ ⟨hf, rfl, rfl⟩
      obtain ⟨ρ, rfl⟩ := hf.ex
      refine J.val (v := .bool (((decide ((((xa.2.2.2.1.length : Nat) : Int)) ≤ 20)) && (decide ((((xa.2.2.2.2.1.length : Nat) : Int)) ≤ 20))) && (decide ((((xa.2.2.2.2.2.length : Nat) : Int)) ≤ 20)))) rfl rfl (V.mv rfl) ?_
      refine J.cut 4 ?_
      obtain ⟨t100, ht101, h⟩ := ob h
      refine @J.meet _ _ _ _ _ _ _ _ _ _ (fun ρ K' L' => Fits [(23, .bool t100), (1, .pointer (some ⟨b86, 0, none⟩))] ρ ∧ K = K' ∧ L' = Cl b86 24 [.int .i64 xa.1, .int .i64 xa.2.1, .int .i64 xa.2.2.1, .slice adxa_3 xa.2.2.2.1.length cpxa_3, .slice adxa_4 xa.2.2.2.2.1.length cpxa_4, .slice adxa_5 xa.2.2.2.2.2.length cpxa_5] :: F) ?_ ?_
      · skip
        rcases bt (((decide ((((xa.2.2.2.1.length : Nat) : Int)) ≤ 20)) && (decide ((((xa.2.2.2.2.1.length : Nat) : Int)) ≤ 20))) && (decide ((((xa.2.2.2.2.2.length : Nat) : Int)) ≤ 20))) with hc102 | hc102
        · have ht101 := ct hc102 ht101
          refine J.run rfl rfl rfl hc102 ?_
          refine J.val rfl rfl (V.fad Try.underlying24 rfl nz22 rfl) ?_
          refine J.run rfl rfl rfl hc102 ?_
          refine J.val (v := .slice adxa_3 xa.2.2.2.1.length cpxa_3) rfl rfl (V.ld rfl (Ld.sc sc22 (Rd.cl 0 rfl rfl))) ?_
          refine J.run rfl rfl rfl hc102 ?_
          obtain ⟨r103, hr104, ht101⟩ := ob ht101
          refine J.op rfl (A.call (L1 := []) Try.call27 rfl (ref19_within_ok fxa_3 hr104) rfl rfl) ?_
          rintro _ _ _ ⟨v106, _, rfl, ⟨⟨t105, rfl, rfl, rfl⟩, rfl⟩, _, rfl⟩
          refine J.val (v := .bool t105) rfl rfl (V.pickT rfl hc102 rfl) ?_
          refine J.nil ?_
          have e := Option.some.inj ht101
          subst e
          exact ⟨rfl, ⟨rfl, rfl, trivial⟩, rfl, rfl⟩
        · have ht101 := cf hc102 ht101
          refine J.skip rfl rfl rfl rfl hc102 ?_
          refine J.skip rfl rfl rfl rfl hc102 ?_
          refine J.skip rfl rfl rfl rfl hc102 ?_
          refine J.val (v := .bool false) rfl rfl (V.pickF rfl hc102 rfl) ?_
          refine J.nil ?_
          have e := Option.some.inj ht101
          subst e
          exact ⟨rfl, ⟨rfl, rfl, trivial⟩, rfl, rfl⟩
      · rintro ρ _ _ ⟨hf, rfl, rfl⟩
        obtain ⟨ρ, rfl⟩ := hf.ex
        refine J.val (v := .bool t100) rfl rfl (V.mv rfl) ?_
        refine J.cut 4 ?_
        obtain ⟨t116, ht117, h⟩ := ob h
        refine @J.meet _ _ _ _ _ _ _ _ _ _ (fun ρ K' L' => Fits [(28, .bool t116), (1, .pointer (some ⟨b86, 0, none⟩))] ρ ∧ K = K' ∧ L' = Cl b86 24 [.int .i64 xa.1, .int .i64 xa.2.1, .int .i64 xa.2.2.1, .slice adxa_3 xa.2.2.2.1.length cpxa_3, .slice adxa_4 xa.2.2.2.2.1.length cpxa_4, .slice adxa_5 xa.2.2.2.2.2.length cpxa_5] :: F) ?_ ?_
        · skip
          rcases bt (t100) with hc118 | hc118
          · have ht117 := ct hc118 ht117
            refine J.run rfl rfl rfl hc118 ?_
            refine J.val rfl rfl (V.fad Try.underlying24 rfl nz22 rfl) ?_
            refine J.run rfl rfl rfl hc118 ?_
            refine J.val (v := .slice adxa_4 xa.2.2.2.2.1.length cpxa_4) rfl rfl (V.ld rfl (Ld.sc sc22 (Rd.cl 0 rfl rfl))) ?_
            refine J.run rfl rfl rfl hc118 ?_
            obtain ⟨r119, hr120, ht117⟩ := ob ht117
            refine J.op rfl (A.call (L1 := []) Try.call27 rfl (ref19_within_ok fxa_4 hr120) rfl rfl) ?_
            rintro _ _ _ ⟨v122, _, rfl, ⟨⟨t121, rfl, rfl, rfl⟩, rfl⟩, _, rfl⟩
            refine J.val (v := .bool t121) rfl rfl (V.pickT rfl hc118 rfl) ?_
            refine J.nil ?_
            have e := Option.some.inj ht117
            subst e
            exact ⟨rfl, ⟨rfl, rfl, trivial⟩, rfl, rfl⟩
          · have ht117 := cf hc118 ht117
            refine J.skip rfl rfl rfl rfl hc118 ?_
            refine J.skip rfl rfl rfl rfl hc118 ?_
            refine J.skip rfl rfl rfl rfl hc118 ?_
            refine J.val (v := .bool false) rfl rfl (V.pickF rfl hc118 rfl) ?_
            refine J.nil ?_
            have e := Option.some.inj ht117
            subst e
            exact ⟨rfl, ⟨rfl, rfl, trivial⟩, rfl, rfl⟩
        · rintro ρ _ _ ⟨hf, rfl, rfl⟩
          obtain ⟨ρ, rfl⟩ := hf.ex
          refine J.val (v := .bool t116) rfl rfl (V.mv rfl) ?_
          refine J.cut 4 ?_
          obtain ⟨t132, ht133, h⟩ := ob h
          refine @J.meet _ _ _ _ _ _ _ _ _ _ (fun ρ K' L' => Fits [(33, .bool t132), (1, .pointer (some ⟨b86, 0, none⟩))] ρ ∧ K = K' ∧ L' = Cl b86 24 [.int .i64 xa.1, .int .i64 xa.2.1, .int .i64 xa.2.2.1, .slice adxa_3 xa.2.2.2.1.length cpxa_3, .slice adxa_4 xa.2.2.2.2.1.length cpxa_4, .slice adxa_5 xa.2.2.2.2.2.length cpxa_5] :: F) ?_ ?_
          · skip
            rcases bt (t116) with hc134 | hc134
            · have ht133 := ct hc134 ht133
              refine J.run rfl rfl rfl hc134 ?_
              refine J.val rfl rfl (V.fad Try.underlying24 rfl nz22 rfl) ?_
              refine J.run rfl rfl rfl hc134 ?_
              refine J.val (v := .slice adxa_5 xa.2.2.2.2.2.length cpxa_5) rfl rfl (V.ld rfl (Ld.sc sc22 (Rd.cl 0 rfl rfl))) ?_
              refine J.run rfl rfl rfl hc134 ?_
              obtain ⟨r135, hr136, ht133⟩ := ob ht133
              refine J.op rfl (A.call (L1 := []) Try.call27 rfl (ref19_within_ok fxa_5 hr136) rfl rfl) ?_
              rintro _ _ _ ⟨v138, _, rfl, ⟨⟨t137, rfl, rfl, rfl⟩, rfl⟩, _, rfl⟩
              refine J.val (v := .bool t137) rfl rfl (V.pickT rfl hc134 rfl) ?_
              refine J.nil ?_
              have e := Option.some.inj ht133
              subst e
              exact ⟨rfl, ⟨rfl, rfl, trivial⟩, rfl, rfl⟩
            · have ht133 := cf hc134 ht133
              refine J.skip rfl rfl rfl rfl hc134 ?_
              refine J.skip rfl rfl rfl rfl hc134 ?_
              refine J.skip rfl rfl rfl rfl hc134 ?_
              refine J.val (v := .bool false) rfl rfl (V.pickF rfl hc134 rfl) ?_
              refine J.nil ?_
              have e := Option.some.inj ht133
              subst e
              exact ⟨rfl, ⟨rfl, rfl, trivial⟩, rfl, rfl⟩
          · rintro ρ _ _ ⟨hf, rfl, rfl⟩
            obtain ⟨ρ, rfl⟩ := hf.ex
            refine J.val (v := .bool t132) rfl rfl (V.mv rfl) ?_
            refine J.cut 7 ?_
            obtain ⟨t154, ht155, h⟩ := ob h
            refine @J.meet _ _ _ _ _ _ _ _ _ _ (fun ρ K' L' => Fits [(41, .bool t154)] ρ ∧ K = K' ∧ L' = Cl b86 24 [.int .i64 xa.1, .int .i64 xa.2.1, .int .i64 xa.2.2.1, .slice adxa_3 xa.2.2.2.1.length cpxa_3, .slice adxa_4 xa.2.2.2.2.1.length cpxa_4, .slice adxa_5 xa.2.2.2.2.2.length cpxa_5] :: F) ?_ ?_
            · skip
              rcases bt (t132) with hc156 | hc156
              · have ht155 := ct hc156 ht155
                refine J.run rfl rfl rfl hc156 ?_
                refine J.val rfl rfl (V.fad Try.underlying24 rfl nz3 rfl) ?_
                refine J.run rfl rfl rfl hc156 ?_
                refine J.val (v := .int .i64 xa.2.1) rfl rfl (V.ld rfl (Ld.sc sc3 (Rd.cl 0 rfl rfl))) ?_
                refine J.run rfl rfl rfl hc156 ?_
                refine J.val rfl rfl (V.fad Try.underlying24 rfl nz3 rfl) ?_
                refine J.run rfl rfl rfl hc156 ?_
                refine J.val (v := .int .i64 xa.2.2.1) rfl rfl (V.ld rfl (Ld.sc sc3 (Rd.cl 0 rfl rfl))) ?_
                refine J.run rfl rfl rfl hc156 ?_
                refine J.op rfl (A.lit (K0 := Hp.nil) (ty := (.int .i64)) (xs := ([xa.2.1, xa.2.2.1] : List Int)) Try.underlying22 inf3 rfl (by decide) rfl rfl rfl ⟨_, _, rfl, rfl, ⟨_, _, rfl, rfl, rfl⟩⟩ rfl (by decide)) ?_
                rintro _ _ _ ⟨b157, rfl, rfl, rfl⟩
                have hn158 : ([xa.2.1, xa.2.2.1] : List Int) ≠ [] → ∃ g, (some ⟨b157, 0, none⟩ : Option Addr) = some ⟨g, 0, none⟩ := fun _ => ⟨b157, rfl⟩
                refine J.run rfl rfl rfl hc156 ?_
                obtain ⟨r160, hr161, ht155⟩ := ob ht155
                refine J.op rfl (A.call (L1 := [Row Hp.nil 3 (.int .i64) (.slice (some ⟨b157, 0, none⟩) (([xa.2.1, xa.2.2.1] : List Int).length) 2) ([xa.2.1, xa.2.2.1] : List Int)]) Try.call27 rfl (Tr.lend (Hp.nil_le _) (by decide) (fun K162 hK163 f164 => ref19_within_ok f164 hr161)) rfl rfl) ?_
                rintro _ _ _ ⟨v166, _, rfl, ⟨⟨_, ⟨t165, rfl, rfl, rfl⟩, rfl⟩, rfl⟩, _, rfl⟩
                refine J.val (v := .bool t165) rfl rfl (V.pickT rfl hc156 rfl) ?_
                refine J.dropAt 0 rfl ?_
                refine J.nil ?_
                have e := Option.some.inj ht155
                subst e
                exact ⟨rfl, ⟨rfl, trivial⟩, rfl, rfl⟩
              · have ht155 := cf hc156 ht155
                refine J.skip rfl rfl rfl rfl hc156 ?_
                refine J.skip rfl rfl rfl rfl hc156 ?_
                refine J.skip rfl rfl rfl rfl hc156 ?_
                refine J.skip rfl rfl rfl rfl hc156 ?_
                refine J.skip rfl rfl rfl rfl hc156 ?_
                refine J.skip rfl rfl rfl rfl hc156 ?_
                refine J.val (v := .bool false) rfl rfl (V.pickF rfl hc156 rfl) ?_
                refine J.nil ?_
                have e := Option.some.inj ht155
                subst e
                exact ⟨rfl, ⟨rfl, trivial⟩, rfl, rfl⟩
            · rintro ρ _ _ ⟨hf, rfl, rfl⟩
              obtain ⟨ρ, rfl⟩ := hf.ex
              refine J.val (v := .bool t154) rfl rfl (V.as rfl) ?_
              refine J.nil ?_
              refine CJ.ret ?_
              have e := Option.some.inj h
              subst e
              exact ⟨_, [], Res.one rfl rfl, ⟨t154, rfl, rfl, rfl⟩, (Hp.le_refl _), fun w hs => (Sep.dropAt 0 rfl hs)⟩

noncomputable def fn_ref19_Form (xa : (Int × Int × Int × (List Int) × (List Int) × (List Int))) : Option Int :=
  cond ((decide (xa.1 < 1)) || (decide (4 < xa.1))) (some (3)) (cond (((((decide (xa.1 = 1)) || (decide (xa.1 = 4))) && (!decide ((((xa.2.2.2.1.length : Nat) : Int)) = 1))) || ((decide (xa.1 = 2)) && (decide ((((xa.2.2.2.1.length : Nat) : Int)) = 0)))) || ((decide (xa.1 = 3)) && (!decide ((((xa.2.2.2.1.length : Nat) : Int)) = 0)))) (some (3)) (cond ((!decide (xa.1 = 4)) && (((!decide (xa.2.1 = 0)) || (!decide (xa.2.2.1 = 0))) || (!decide ((((xa.2.2.2.2.2.length : Nat) : Int)) = 0)))) (some (3)) (cond (((decide (xa.1 = 1)) || (decide (xa.1 = 3))) && (!decide ((((xa.2.2.2.2.1.length : Nat) : Int)) = 0))) (some (3)) (cond (((decide (16 < (((xa.2.2.2.1.length : Nat) : Int)))) || (decide (16 < (((xa.2.2.2.2.1.length : Nat) : Int))))) || (decide (16 < (((xa.2.2.2.2.2.length : Nat) : Int))))) (some (6)) (some (0))))))
set_option maxRecDepth 100000 in
set_option maxHeartbeats 4000000 in
theorem ref19_Form_ok {K : Hp} {xa : (Int × Int × Int × (List Int) × (List Int) × (List Int))} {adxa_3 : Option Addr} {cpxa_3 : Nat} {adxa_4 : Option Addr} {cpxa_4 : Nat} {adxa_5 : Option Addr} {cpxa_5 : Nat} (fxa_3 : Is K (.sl (.int .i64)) [.slice adxa_3 xa.2.2.2.1.length cpxa_3] xa.2.2.2.1) (fxa_4 : Is K (.sl (.int .i64)) [.slice adxa_4 xa.2.2.2.2.1.length cpxa_4] xa.2.2.2.2.1) (fxa_5 : Is K (.sl (.int .i64)) [.slice adxa_5 xa.2.2.2.2.2.length cpxa_5] xa.2.2.2.2.2) {r : Int} (h : fn_ref19_Form xa = some r) :
    Tr Try.prog 26 #[.agg #[.int .i64 xa.1, .int .i64 xa.2.1, .int .i64 xa.2.2.1, .slice adxa_3 xa.2.2.2.1.length cpxa_3, .slice adxa_4 xa.2.2.2.2.1.length cpxa_4, .slice adxa_5 xa.2.2.2.2.2.length cpxa_5]] K [] (fun v K' L' => (∃ (i61 : Int), i61 = r ∧ .int .i64 i61 = v ∧ L' = []) ∧ K = K') := by
  refine Tr.k ?_
  refine Tr.of Try.func26 rfl Try.ntmps26 rfl (fun E F => ?_)
  unfold fn_ref19_Form at h
  refine CJ.seq ?_
  refine CJ.region ?_
  refine J.op rfl (A.box (v := .agg #[.int .i64 xa.1, .int .i64 xa.2.1, .int .i64 xa.2.2.1, .slice adxa_3 xa.2.2.2.1.length cpxa_3, .slice adxa_4 xa.2.2.2.2.1.length cpxa_4, .slice adxa_5 xa.2.2.2.2.2.length cpxa_5]) (cs := [.int .i64 xa.1, .int .i64 xa.2.1, .int .i64 xa.2.2.1, .slice adxa_3 xa.2.2.2.1.length cpxa_3, .slice adxa_4 xa.2.2.2.2.1.length cpxa_4, .slice adxa_5 xa.2.2.2.2.2.length cpxa_5]) rfl rfl) ?_
  rintro _ _ _ ⟨b62, rfl, rfl, rfl⟩
  refine J.val (v := .int .i64 0) rfl rfl (V.as rfl) ?_
  refine J.nil ?_
  refine CJ.seq ?_
  refine CJ.seq ?_
  refine CJ.region ?_
  refine J.val rfl rfl (V.fad Try.underlying24 rfl nz3 rfl) ?_
  refine J.val (v := .int .i64 xa.1) rfl rfl (V.ld rfl (Ld.sc sc3 (Rd.cl 0 rfl rfl))) ?_
  refine J.val (v := .bool (decide (xa.1 < 1))) rfl rfl (V.lss rfl rfl) ?_
  refine J.val (v := .bool (decide (xa.1 < 1))) rfl rfl (V.mv rfl) ?_
  refine J.cut 4 ?_
  refine @J.meet _ _ _ _ _ _ _ _ _ _ (fun ρ K' L' => Fits [(10, .bool ((decide (xa.1 < 1)) || (decide (4 < xa.1)))), (1, .pointer (some ⟨b62, 0, none⟩))] ρ ∧ K = K' ∧ L' = Cl b62 24 [.int .i64 xa.1, .int .i64 xa.2.1, .int .i64 xa.2.2.1, .slice adxa_3 xa.2.2.2.1.length cpxa_3, .slice adxa_4 xa.2.2.2.2.1.length cpxa_4, .slice adxa_5 xa.2.2.2.2.2.length cpxa_5] :: F) ?_ ?_
  · skip
    rcases bt (decide (xa.1 < 1)) with hc65 | hc65
    · skip
      refine J.skip rfl rfl rfl rfl hc65 ?_
      refine J.skip rfl rfl rfl rfl hc65 ?_
      refine J.skip rfl rfl rfl rfl hc65 ?_
      refine J.val (v := .bool true) rfl rfl (V.pickT rfl hc65 rfl) ?_
      refine J.nil ?_
      exact ⟨rfl, ⟨(by simp only [hc65]; rfl), rfl, trivial⟩, rfl, rfl⟩
    · skip
      refine J.run rfl rfl rfl hc65 ?_
      refine J.val rfl rfl (V.fad Try.underlying24 rfl nz3 rfl) ?_
      refine J.run rfl rfl rfl hc65 ?_
      refine J.val (v := .int .i64 xa.1) rfl rfl (V.ld rfl (Ld.sc sc3 (Rd.cl 0 rfl rfl))) ?_
      refine J.run rfl rfl rfl hc65 ?_
      refine J.val (v := .bool (decide (4 < xa.1))) rfl rfl (V.gtr rfl rfl) ?_
      refine J.val (v := .bool (decide (4 < xa.1))) rfl rfl (V.pickF rfl hc65 rfl) ?_
      refine J.nil ?_
      exact ⟨rfl, ⟨(by simp only [hc65]; rfl), rfl, trivial⟩, rfl, rfl⟩
  · rintro ρ _ _ ⟨hf, rfl, rfl⟩
    obtain ⟨ρ, rfl⟩ := hf.ex
    refine J.nil ?_
    refine CJ.cond rfl (fun hc66 => ?_) (fun hc66 => ?_)
    · have h := ct hc66 h
      refine CJ.seq ?_
      refine CJ.region ?_
      refine J.val (v := .int .i64 3) rfl rfl (V.as rfl) ?_
      refine J.nil ?_
      refine CJ.ret ?_
      have e := Option.some.inj h
      subst e
      exact ⟨_, [], Res.one rfl rfl, ⟨3, rfl, rfl, rfl⟩, (Hp.le_refl _), fun w hs => (Sep.dropAt 0 rfl hs)⟩
    · have h := cf hc66 h
      refine CJ.skip ?_
      refine CJ.seq ?_
      refine CJ.seq ?_
      refine CJ.region ?_
      refine J.val rfl rfl (V.fad Try.underlying24 rfl nz3 rfl) ?_
      refine J.val (v := .int .i64 xa.1) rfl rfl (V.ld rfl (Ld.sc sc3 (Rd.cl 0 rfl rfl))) ?_
      refine J.val (v := .bool (decide (xa.1 = 1))) rfl rfl (V.eql rfl rfl) ?_
      refine J.val (v := .bool (decide (xa.1 = 1))) rfl rfl (V.mv rfl) ?_
      refine J.cut 4 ?_
      refine @J.meet _ _ _ _ _ _ _ _ _ _ (fun ρ K' L' => Fits [(18, .bool ((decide (xa.1 = 1)) || (decide (xa.1 = 4)))), (1, .pointer (some ⟨b62, 0, none⟩))] ρ ∧ K = K' ∧ L' = Cl b62 24 [.int .i64 xa.1, .int .i64 xa.2.1, .int .i64 xa.2.2.1, .slice adxa_3 xa.2.2.2.1.length cpxa_3, .slice adxa_4 xa.2.2.2.2.1.length cpxa_4, .slice adxa_5 xa.2.2.2.2.2.length cpxa_5] :: F) ?_ ?_
      · skip
        rcases bt (decide (xa.1 = 1)) with hc69 | hc69
        · skip
          refine J.skip rfl rfl rfl rfl hc69 ?_
          refine J.skip rfl rfl rfl rfl hc69 ?_
          refine J.skip rfl rfl rfl rfl hc69 ?_
          refine J.val (v := .bool true) rfl rfl (V.pickT rfl hc69 rfl) ?_
          refine J.nil ?_
          exact ⟨rfl, ⟨(by simp only [hc69]; rfl), rfl, trivial⟩, rfl, rfl⟩
        · skip
          refine J.run rfl rfl rfl hc69 ?_
          refine J.val rfl rfl (V.fad Try.underlying24 rfl nz3 rfl) ?_
          refine J.run rfl rfl rfl hc69 ?_
          refine J.val (v := .int .i64 xa.1) rfl rfl (V.ld rfl (Ld.sc sc3 (Rd.cl 0 rfl rfl))) ?_
          refine J.run rfl rfl rfl hc69 ?_
          refine J.val (v := .bool (decide (xa.1 = 4))) rfl rfl (V.eql rfl rfl) ?_
          refine J.val (v := .bool (decide (xa.1 = 4))) rfl rfl (V.pickF rfl hc69 rfl) ?_
          refine J.nil ?_
          exact ⟨rfl, ⟨(by simp only [hc69]; rfl), rfl, trivial⟩, rfl, rfl⟩
      · rintro ρ _ _ ⟨hf, rfl, rfl⟩
        obtain ⟨ρ, rfl⟩ := hf.ex
        refine J.val (v := .bool ((decide (xa.1 = 1)) || (decide (xa.1 = 4)))) rfl rfl (V.mv rfl) ?_
        refine J.cut 5 ?_
        refine @J.meet _ _ _ _ _ _ _ _ _ _ (fun ρ K' L' => Fits [(24, .bool (((decide (xa.1 = 1)) || (decide (xa.1 = 4))) && (!decide ((((xa.2.2.2.1.length : Nat) : Int)) = 1)))), (1, .pointer (some ⟨b62, 0, none⟩))] ρ ∧ K = K' ∧ L' = Cl b62 24 [.int .i64 xa.1, .int .i64 xa.2.1, .int .i64 xa.2.2.1, .slice adxa_3 xa.2.2.2.1.length cpxa_3, .slice adxa_4 xa.2.2.2.2.1.length cpxa_4, .slice adxa_5 xa.2.2.2.2.2.length cpxa_5] :: F) ?_ ?_
        · skip
          rcases bt ((decide (xa.1 = 1)) || (decide (xa.1 = 4))) with hc72 | hc72
          · skip
            refine J.run rfl rfl rfl hc72 ?_
            refine J.val rfl rfl (V.fad Try.underlying24 rfl nz22 rfl) ?_
            refine J.run rfl rfl rfl hc72 ?_
            refine J.val (v := .slice adxa_3 xa.2.2.2.1.length cpxa_3) rfl rfl (V.ld rfl (Ld.sc sc22 (Rd.cl 0 rfl rfl))) ?_
            refine J.run rfl rfl rfl hc72 ?_
            refine J.val (v := .int .i64 (((xa.2.2.2.1.length : Nat) : Int))) rfl rfl (V.len Try.underlying22 rfl) ?_
            refine J.run rfl rfl rfl hc72 ?_
            refine J.val (v := .bool (!decide ((((xa.2.2.2.1.length : Nat) : Int)) = 1))) rfl rfl (V.neq rfl rfl) ?_
            refine J.val (v := .bool (!decide ((((xa.2.2.2.1.length : Nat) : Int)) = 1))) rfl rfl (V.pickT rfl hc72 rfl) ?_
            refine J.nil ?_
            exact ⟨rfl, ⟨(by simp only [hc72]; rfl), rfl, trivial⟩, rfl, rfl⟩
          · skip
            refine J.skip rfl rfl rfl rfl hc72 ?_
            refine J.skip rfl rfl rfl rfl hc72 ?_
            refine J.skip rfl rfl rfl rfl hc72 ?_
            refine J.skip rfl rfl rfl rfl hc72 ?_
            refine J.val (v := .bool false) rfl rfl (V.pickF rfl hc72 rfl) ?_
            refine J.nil ?_
            exact ⟨rfl, ⟨(by simp only [hc72]; rfl), rfl, trivial⟩, rfl, rfl⟩
        · rintro ρ _ _ ⟨hf, rfl, rfl⟩
          obtain ⟨ρ, rfl⟩ := hf.ex
          refine J.val (v := .bool (((decide (xa.1 = 1)) || (decide (xa.1 = 4))) && (!decide ((((xa.2.2.2.1.length : Nat) : Int)) = 1)))) rfl rfl (V.mv rfl) ?_
          refine J.cut 10 ?_
          refine @J.meet _ _ _ _ _ _ _ _ _ _ (fun ρ K' L' => Fits [(35, .bool ((((decide (xa.1 = 1)) || (decide (xa.1 = 4))) && (!decide ((((xa.2.2.2.1.length : Nat) : Int)) = 1))) || ((decide (xa.1 = 2)) && (decide ((((xa.2.2.2.1.length : Nat) : Int)) = 0))))), (1, .pointer (some ⟨b62, 0, none⟩))] ρ ∧ K = K' ∧ L' = Cl b62 24 [.int .i64 xa.1, .int .i64 xa.2.1, .int .i64 xa.2.2.1, .slice adxa_3 xa.2.2.2.1.length cpxa_3, .slice adxa_4 xa.2.2.2.2.1.length cpxa_4, .slice adxa_5 xa.2.2.2.2.2.length cpxa_5] :: F) ?_ ?_
          · skip
            rcases bt (((decide (xa.1 = 1)) || (decide (xa.1 = 4))) && (!decide ((((xa.2.2.2.1.length : Nat) : Int)) = 1))) with hc78 | hc78
            · skip
              refine J.skip rfl rfl rfl rfl hc78 ?_
              refine J.skip rfl rfl rfl rfl hc78 ?_
              refine J.skip rfl rfl rfl rfl hc78 ?_
              refine J.skip rfl rfl rfl rfl hc78 ?_
              refine J.skipu rfl rfl rfl rfl ?_
              refine J.skipu rfl rfl rfl rfl ?_
              refine J.skipu rfl rfl rfl rfl ?_
              refine J.skipu rfl rfl rfl rfl ?_
              refine J.skip rfl rfl rfl rfl hc78 ?_
              refine J.val (v := .bool true) rfl rfl (V.pickT rfl hc78 rfl) ?_
              refine J.nil ?_
              exact ⟨rfl, ⟨(by simp only [hc78]; rfl), rfl, trivial⟩, rfl, rfl⟩
            · skip
              refine J.run rfl rfl rfl hc78 ?_
              refine J.val rfl rfl (V.fad Try.underlying24 rfl nz3 rfl) ?_
              refine J.run rfl rfl rfl hc78 ?_
              refine J.val (v := .int .i64 xa.1) rfl rfl (V.ld rfl (Ld.sc sc3 (Rd.cl 0 rfl rfl))) ?_
              refine J.run rfl rfl rfl hc78 ?_
              refine J.val (v := .bool (decide (xa.1 = 2))) rfl rfl (V.eql rfl rfl) ?_
              refine J.run rfl rfl rfl hc78 ?_
              refine J.val (v := .bool (decide (xa.1 = 2))) rfl rfl (V.mv rfl) ?_
              refine J.cut 5 ?_
              refine @J.meet _ _ _ _ _ _ _ _ _ _ (fun ρ K' L' => Fits [(34, .bool ((decide (xa.1 = 2)) && (decide ((((xa.2.2.2.1.length : Nat) : Int)) = 0)))), (1, .pointer (some ⟨b62, 0, none⟩)), (25, .bool (((decide (xa.1 = 1)) || (decide (xa.1 = 4))) && (!decide ((((xa.2.2.2.1.length : Nat) : Int)) = 1))))] ρ ∧ K = K' ∧ L' = Cl b62 24 [.int .i64 xa.1, .int .i64 xa.2.1, .int .i64 xa.2.2.1, .slice adxa_3 xa.2.2.2.1.length cpxa_3, .slice adxa_4 xa.2.2.2.2.1.length cpxa_4, .slice adxa_5 xa.2.2.2.2.2.length cpxa_5] :: F) ?_ ?_
              · skip
                rcases bt (decide (xa.1 = 2)) with hc81 | hc81
                · skip
                  refine J.run rfl rfl rfl hc81 ?_
                  refine J.val rfl rfl (V.fad Try.underlying24 rfl nz22 rfl) ?_
                  refine J.run rfl rfl rfl hc81 ?_
                  refine J.val (v := .slice adxa_3 xa.2.2.2.1.length cpxa_3) rfl rfl (V.ld rfl (Ld.sc sc22 (Rd.cl 0 rfl rfl))) ?_
                  refine J.run rfl rfl rfl hc81 ?_
                  refine J.val (v := .int .i64 (((xa.2.2.2.1.length : Nat) : Int))) rfl rfl (V.len Try.underlying22 rfl) ?_
                  refine J.run rfl rfl rfl hc81 ?_
                  refine J.val (v := .bool (decide ((((xa.2.2.2.1.length : Nat) : Int)) = 0))) rfl rfl (V.eql rfl rfl) ?_
                  refine J.run rfl rfl rfl hc78 ?_
                  refine J.val (v := .bool (decide ((((xa.2.2.2.1.length : Nat) : Int)) = 0))) rfl rfl (V.pickT rfl hc81 rfl) ?_
                  refine J.nil ?_
                  exact ⟨rfl, ⟨(by simp only [hc81]; rfl), rfl, rfl, trivial⟩, rfl, rfl⟩
                · skip
                  refine J.skip rfl rfl rfl rfl hc81 ?_
                  refine J.skip rfl rfl rfl rfl hc81 ?_
                  refine J.skip rfl rfl rfl rfl hc81 ?_
                  refine J.skip rfl rfl rfl rfl hc81 ?_
                  refine J.run rfl rfl rfl hc78 ?_
                  refine J.val (v := .bool false) rfl rfl (V.pickF rfl hc81 rfl) ?_
                  refine J.nil ?_
                  exact ⟨rfl, ⟨(by simp only [hc81]; rfl), rfl, rfl, trivial⟩, rfl, rfl⟩
              · rintro ρ _ _ ⟨hf, rfl, rfl⟩
                obtain ⟨ρ, rfl⟩ := hf.ex
                refine J.val (v := .bool ((decide (xa.1 = 2)) && (decide ((((xa.2.2.2.1.length : Nat) : Int)) = 0)))) rfl rfl (V.pickF rfl hc78 rfl) ?_
                refine J.nil ?_
                exact ⟨rfl, ⟨(by simp only [hc78]; rfl), rfl, trivial⟩, rfl, rfl⟩
          · rintro ρ _ _ ⟨hf, rfl, rfl⟩
            obtain ⟨ρ, rfl⟩ := hf.ex
            refine J.val (v := .bool ((((decide (xa.1 = 1)) || (decide (xa.1 = 4))) && (!decide ((((xa.2.2.2.1.length : Nat) : Int)) = 1))) || ((decide (xa.1 = 2)) && (decide ((((xa.2.2.2.1.length : Nat) : Int)) = 0))))) rfl rfl (V.mv rfl) ?_
            refine J.cut 10 ?_
            refine @J.meet _ _ _ _ _ _ _ _ _ _ (fun ρ K' L' => Fits [(46, .bool (((((decide (xa.1 = 1)) || (decide (xa.1 = 4))) && (!decide ((((xa.2.2.2.1.length : Nat) : Int)) = 1))) || ((decide (xa.1 = 2)) && (decide ((((xa.2.2.2.1.length : Nat) : Int)) = 0)))) || ((decide (xa.1 = 3)) && (!decide ((((xa.2.2.2.1.length : Nat) : Int)) = 0))))), (1, .pointer (some ⟨b62, 0, none⟩))] ρ ∧ K = K' ∧ L' = Cl b62 24 [.int .i64 xa.1, .int .i64 xa.2.1, .int .i64 xa.2.2.1, .slice adxa_3 xa.2.2.2.1.length cpxa_3, .slice adxa_4 xa.2.2.2.2.1.length cpxa_4, .slice adxa_5 xa.2.2.2.2.2.length cpxa_5] :: F) ?_ ?_
            · skip
              rcases bt ((((decide (xa.1 = 1)) || (decide (xa.1 = 4))) && (!decide ((((xa.2.2.2.1.length : Nat) : Int)) = 1))) || ((decide (xa.1 = 2)) && (decide ((((xa.2.2.2.1.length : Nat) : Int)) = 0)))) with hc87 | hc87
              · skip
                refine J.skip rfl rfl rfl rfl hc87 ?_
                refine J.skip rfl rfl rfl rfl hc87 ?_
                refine J.skip rfl rfl rfl rfl hc87 ?_
                refine J.skip rfl rfl rfl rfl hc87 ?_
                refine J.skipu rfl rfl rfl rfl ?_
                refine J.skipu rfl rfl rfl rfl ?_
                refine J.skipu rfl rfl rfl rfl ?_
                refine J.skipu rfl rfl rfl rfl ?_
                refine J.skip rfl rfl rfl rfl hc87 ?_
                refine J.val (v := .bool true) rfl rfl (V.pickT rfl hc87 rfl) ?_
                refine J.nil ?_
                exact ⟨rfl, ⟨(by simp only [hc87]; rfl), rfl, trivial⟩, rfl, rfl⟩
              · skip
                refine J.run rfl rfl rfl hc87 ?_
                refine J.val rfl rfl (V.fad Try.underlying24 rfl nz3 rfl) ?_
                refine J.run rfl rfl rfl hc87 ?_
                refine J.val (v := .int .i64 xa.1) rfl rfl (V.ld rfl (Ld.sc sc3 (Rd.cl 0 rfl rfl))) ?_
                refine J.run rfl rfl rfl hc87 ?_
                refine J.val (v := .bool (decide (xa.1 = 3))) rfl rfl (V.eql rfl rfl) ?_
                refine J.run rfl rfl rfl hc87 ?_
                refine J.val (v := .bool (decide (xa.1 = 3))) rfl rfl (V.mv rfl) ?_
                refine J.cut 5 ?_
                refine @J.meet _ _ _ _ _ _ _ _ _ _ (fun ρ K' L' => Fits [(45, .bool ((decide (xa.1 = 3)) && (!decide ((((xa.2.2.2.1.length : Nat) : Int)) = 0)))), (1, .pointer (some ⟨b62, 0, none⟩)), (36, .bool ((((decide (xa.1 = 1)) || (decide (xa.1 = 4))) && (!decide ((((xa.2.2.2.1.length : Nat) : Int)) = 1))) || ((decide (xa.1 = 2)) && (decide ((((xa.2.2.2.1.length : Nat) : Int)) = 0)))))] ρ ∧ K = K' ∧ L' = Cl b62 24 [.int .i64 xa.1, .int .i64 xa.2.1, .int .i64 xa.2.2.1, .slice adxa_3 xa.2.2.2.1.length cpxa_3, .slice adxa_4 xa.2.2.2.2.1.length cpxa_4, .slice adxa_5 xa.2.2.2.2.2.length cpxa_5] :: F) ?_ ?_
                · skip
                  rcases bt (decide (xa.1 = 3)) with hc90 | hc90
                  · skip
                    refine J.run rfl rfl rfl hc90 ?_
                    refine J.val rfl rfl (V.fad Try.underlying24 rfl nz22 rfl) ?_
                    refine J.run rfl rfl rfl hc90 ?_
                    refine J.val (v := .slice adxa_3 xa.2.2.2.1.length cpxa_3) rfl rfl (V.ld rfl (Ld.sc sc22 (Rd.cl 0 rfl rfl))) ?_
                    refine J.run rfl rfl rfl hc90 ?_
                    refine J.val (v := .int .i64 (((xa.2.2.2.1.length : Nat) : Int))) rfl rfl (V.len Try.underlying22 rfl) ?_
                    refine J.run rfl rfl rfl hc90 ?_
                    refine J.val (v := .bool (!decide ((((xa.2.2.2.1.length : Nat) : Int)) = 0))) rfl rfl (V.neq rfl rfl) ?_
                    refine J.run rfl rfl rfl hc87 ?_
                    refine J.val (v := .bool (!decide ((((xa.2.2.2.1.length : Nat) : Int)) = 0))) rfl rfl (V.pickT rfl hc90 rfl) ?_
                    refine J.nil ?_
                    exact ⟨rfl, ⟨(by simp only [hc90]; rfl), rfl, rfl, trivial⟩, rfl, rfl⟩
                  · skip
                    refine J.skip rfl rfl rfl rfl hc90 ?_
                    refine J.skip rfl rfl rfl rfl hc90 ?_
                    refine J.skip rfl rfl rfl rfl hc90 ?_
                    refine J.skip rfl rfl rfl rfl hc90 ?_
                    refine J.run rfl rfl rfl hc87 ?_
                    refine J.val (v := .bool false) rfl rfl (V.pickF rfl hc90 rfl) ?_
                    refine J.nil ?_
                    exact ⟨rfl, ⟨(by simp only [hc90]; rfl), rfl, rfl, trivial⟩, rfl, rfl⟩
                · rintro ρ _ _ ⟨hf, rfl, rfl⟩
                  obtain ⟨ρ, rfl⟩ := hf.ex
                  refine J.val (v := .bool ((decide (xa.1 = 3)) && (!decide ((((xa.2.2.2.1.length : Nat) : Int)) = 0)))) rfl rfl (V.pickF rfl hc87 rfl) ?_
                  refine J.nil ?_
                  exact ⟨rfl, ⟨(by simp only [hc87]; rfl), rfl, trivial⟩, rfl, rfl⟩
            · rintro ρ _ _ ⟨hf, rfl, rfl⟩
              obtain ⟨ρ, rfl⟩ := hf.ex
              refine J.nil ?_
              refine CJ.cond rfl (fun hc91 => ?_) (fun hc91 => ?_)
              · have h := ct hc91 h
                refine CJ.seq ?_
                refine CJ.region ?_
                refine J.val (v := .int .i64 3) rfl rfl (V.as rfl) ?_
                refine J.nil ?_
                refine CJ.ret ?_
                have e := Option.some.inj h
                subst e
                exact ⟨_, [], Res.one rfl rfl, ⟨3, rfl, rfl, rfl⟩, (Hp.le_refl _), fun w hs => (Sep.dropAt 0 rfl hs)⟩
              · have h := cf hc91 h
                refine CJ.skip ?_
                refine CJ.seq ?_
                refine CJ.seq ?_
                refine CJ.region ?_
                refine J.val rfl rfl (V.fad Try.underlying24 rfl nz3 rfl) ?_
                refine J.val (v := .int .i64 xa.1) rfl rfl (V.ld rfl (Ld.sc sc3 (Rd.cl 0 rfl rfl))) ?_
                refine J.val (v := .bool (!decide (xa.1 = 4))) rfl rfl (V.neq rfl rfl) ?_
                refine J.val (v := .bool (!decide (xa.1 = 4))) rfl rfl (V.mv rfl) ?_
                refine J.cut 15 ?_
                refine @J.meet _ _ _ _ _ _ _ _ _ _ (fun ρ K' L' => Fits [(65, .bool ((!decide (xa.1 = 4)) && (((!decide (xa.2.1 = 0)) || (!decide (xa.2.2.1 = 0))) || (!decide ((((xa.2.2.2.2.2.length : Nat) : Int)) = 0))))), (1, .pointer (some ⟨b62, 0, none⟩))] ρ ∧ K = K' ∧ L' = Cl b62 24 [.int .i64 xa.1, .int .i64 xa.2.1, .int .i64 xa.2.2.1, .slice adxa_3 xa.2.2.2.1.length cpxa_3, .slice adxa_4 xa.2.2.2.2.1.length cpxa_4, .slice adxa_5 xa.2.2.2.2.2.length cpxa_5] :: F) ?_ ?_
                · skip
                  rcases bt (!decide (xa.1 = 4)) with hc100 | hc100
                  · skip
                    refine J.run rfl rfl rfl hc100 ?_
                    refine J.val rfl rfl (V.fad Try.underlying24 rfl nz3 rfl) ?_
                    refine J.run rfl rfl rfl hc100 ?_
                    refine J.val (v := .int .i64 xa.2.1) rfl rfl (V.ld rfl (Ld.sc sc3 (Rd.cl 0 rfl rfl))) ?_
                    refine J.run rfl rfl rfl hc100 ?_
                    refine J.val (v := .bool (!decide (xa.2.1 = 0))) rfl rfl (V.neq rfl rfl) ?_
                    refine J.run rfl rfl rfl hc100 ?_
                    refine J.val (v := .bool (!decide (xa.2.1 = 0))) rfl rfl (V.mv rfl) ?_
                    refine J.cut 4 ?_
                    refine @J.meet _ _ _ _ _ _ _ _ _ _ (fun ρ K' L' => Fits [(58, .bool ((!decide (xa.2.1 = 0)) || (!decide (xa.2.2.1 = 0)))), (1, .pointer (some ⟨b62, 0, none⟩)), (50, .bool (!decide (xa.1 = 4)))] ρ ∧ K = K' ∧ L' = Cl b62 24 [.int .i64 xa.1, .int .i64 xa.2.1, .int .i64 xa.2.2.1, .slice adxa_3 xa.2.2.2.1.length cpxa_3, .slice adxa_4 xa.2.2.2.2.1.length cpxa_4, .slice adxa_5 xa.2.2.2.2.2.length cpxa_5] :: F) ?_ ?_
                    · skip
                      rcases bt (!decide (xa.2.1 = 0)) with hc103 | hc103
                      · skip
                        refine J.skip rfl rfl rfl rfl hc103 ?_
                        refine J.skip rfl rfl rfl rfl hc103 ?_
                        refine J.skip rfl rfl rfl rfl hc103 ?_
                        refine J.run rfl rfl rfl hc100 ?_
                        refine J.val (v := .bool true) rfl rfl (V.pickT rfl hc103 rfl) ?_
                        refine J.nil ?_
                        exact ⟨rfl, ⟨(by simp only [hc103]; rfl), rfl, rfl, trivial⟩, rfl, rfl⟩
                      · skip
                        refine J.run rfl rfl rfl hc103 ?_
                        refine J.val rfl rfl (V.fad Try.underlying24 rfl nz3 rfl) ?_
                        refine J.run rfl rfl rfl hc103 ?_
                        refine J.val (v := .int .i64 xa.2.2.1) rfl rfl (V.ld rfl (Ld.sc sc3 (Rd.cl 0 rfl rfl))) ?_
                        refine J.run rfl rfl rfl hc103 ?_
                        refine J.val (v := .bool (!decide (xa.2.2.1 = 0))) rfl rfl (V.neq rfl rfl) ?_
                        refine J.run rfl rfl rfl hc100 ?_
                        refine J.val (v := .bool (!decide (xa.2.2.1 = 0))) rfl rfl (V.pickF rfl hc103 rfl) ?_
                        refine J.nil ?_
                        exact ⟨rfl, ⟨(by simp only [hc103]; rfl), rfl, rfl, trivial⟩, rfl, rfl⟩
                    · rintro ρ _ _ ⟨hf, rfl, rfl⟩
                      obtain ⟨ρ, rfl⟩ := hf.ex
                      refine J.run rfl rfl rfl hc100 ?_
                      refine J.val (v := .bool ((!decide (xa.2.1 = 0)) || (!decide (xa.2.2.1 = 0)))) rfl rfl (V.mv rfl) ?_
                      refine J.cut 5 ?_
                      refine @J.meet _ _ _ _ _ _ _ _ _ _ (fun ρ K' L' => Fits [(64, .bool (((!decide (xa.2.1 = 0)) || (!decide (xa.2.2.1 = 0))) || (!decide ((((xa.2.2.2.2.2.length : Nat) : Int)) = 0)))), (1, .pointer (some ⟨b62, 0, none⟩)), (50, .bool (!decide (xa.1 = 4)))] ρ ∧ K = K' ∧ L' = Cl b62 24 [.int .i64 xa.1, .int .i64 xa.2.1, .int .i64 xa.2.2.1, .slice adxa_3 xa.2.2.2.1.length cpxa_3, .slice adxa_4 xa.2.2.2.2.1.length cpxa_4, .slice adxa_5 xa.2.2.2.2.2.length cpxa_5] :: F) ?_ ?_
                      · skip
                        rcases bt ((!decide (xa.2.1 = 0)) || (!decide (xa.2.2.1 = 0))) with hc106 | hc106
                        · skip
                          refine J.skip rfl rfl rfl rfl hc106 ?_
                          refine J.skip rfl rfl rfl rfl hc106 ?_
                          refine J.skip rfl rfl rfl rfl hc106 ?_
                          refine J.skip rfl rfl rfl rfl hc106 ?_
                          refine J.run rfl rfl rfl hc100 ?_
                          refine J.val (v := .bool true) rfl rfl (V.pickT rfl hc106 rfl) ?_
                          refine J.nil ?_
                          exact ⟨rfl, ⟨(by simp only [hc106]; rfl), rfl, rfl, trivial⟩, rfl, rfl⟩
                        · skip
                          refine J.run rfl rfl rfl hc106 ?_
                          refine J.val rfl rfl (V.fad Try.underlying24 rfl nz22 rfl) ?_
                          refine J.run rfl rfl rfl hc106 ?_
                          refine J.val (v := .slice adxa_5 xa.2.2.2.2.2.length cpxa_5) rfl rfl (V.ld rfl (Ld.sc sc22 (Rd.cl 0 rfl rfl))) ?_
                          refine J.run rfl rfl rfl hc106 ?_
                          refine J.val (v := .int .i64 (((xa.2.2.2.2.2.length : Nat) : Int))) rfl rfl (V.len Try.underlying22 rfl) ?_
                          refine J.run rfl rfl rfl hc106 ?_
                          refine J.val (v := .bool (!decide ((((xa.2.2.2.2.2.length : Nat) : Int)) = 0))) rfl rfl (V.neq rfl rfl) ?_
                          refine J.run rfl rfl rfl hc100 ?_
                          refine J.val (v := .bool (!decide ((((xa.2.2.2.2.2.length : Nat) : Int)) = 0))) rfl rfl (V.pickF rfl hc106 rfl) ?_
                          refine J.nil ?_
                          exact ⟨rfl, ⟨(by simp only [hc106]; rfl), rfl, rfl, trivial⟩, rfl, rfl⟩
                      · rintro ρ _ _ ⟨hf, rfl, rfl⟩
                        obtain ⟨ρ, rfl⟩ := hf.ex
                        refine J.val (v := .bool (((!decide (xa.2.1 = 0)) || (!decide (xa.2.2.1 = 0))) || (!decide ((((xa.2.2.2.2.2.length : Nat) : Int)) = 0)))) rfl rfl (V.pickT rfl hc100 rfl) ?_
                        refine J.nil ?_
                        exact ⟨rfl, ⟨(by simp only [hc100]; rfl), rfl, trivial⟩, rfl, rfl⟩
                  · skip
                    refine J.skip rfl rfl rfl rfl hc100 ?_
                    refine J.skip rfl rfl rfl rfl hc100 ?_
                    refine J.skip rfl rfl rfl rfl hc100 ?_
                    refine J.skip rfl rfl rfl rfl hc100 ?_
                    refine J.skipu rfl rfl rfl rfl ?_
                    refine J.skipu rfl rfl rfl rfl ?_
                    refine J.skipu rfl rfl rfl rfl ?_
                    refine J.skip rfl rfl rfl rfl hc100 ?_
                    refine J.skip rfl rfl rfl rfl hc100 ?_
                    refine J.skipu rfl rfl rfl rfl ?_
                    refine J.skipu rfl rfl rfl rfl ?_
                    refine J.skipu rfl rfl rfl rfl ?_
                    refine J.skipu rfl rfl rfl rfl ?_
                    refine J.skip rfl rfl rfl rfl hc100 ?_
                    refine J.val (v := .bool false) rfl rfl (V.pickF rfl hc100 rfl) ?_
                    refine J.nil ?_
                    exact ⟨rfl, ⟨(by simp only [hc100]; rfl), rfl, trivial⟩, rfl, rfl⟩
                · rintro ρ _ _ ⟨hf, rfl, rfl⟩
                  obtain ⟨ρ, rfl⟩ := hf.ex
                  refine J.nil ?_
                  refine CJ.cond rfl (fun hc107 => ?_) (fun hc107 => ?_)
                  · have h := ct hc107 h
                    refine CJ.seq ?_
                    refine CJ.region ?_
                    refine J.val (v := .int .i64 3) rfl rfl (V.as rfl) ?_
                    refine J.nil ?_
                    refine CJ.ret ?_
                    have e := Option.some.inj h
                    subst e
                    exact ⟨_, [], Res.one rfl rfl, ⟨3, rfl, rfl, rfl⟩, (Hp.le_refl _), fun w hs => (Sep.dropAt 0 rfl hs)⟩
                  · have h := cf hc107 h
                    refine CJ.skip ?_
                    refine CJ.seq ?_
                    refine CJ.seq ?_
                    refine CJ.region ?_
                    refine J.val rfl rfl (V.fad Try.underlying24 rfl nz3 rfl) ?_
                    refine J.val (v := .int .i64 xa.1) rfl rfl (V.ld rfl (Ld.sc sc3 (Rd.cl 0 rfl rfl))) ?_
                    refine J.val (v := .bool (decide (xa.1 = 1))) rfl rfl (V.eql rfl rfl) ?_
                    refine J.val (v := .bool (decide (xa.1 = 1))) rfl rfl (V.mv rfl) ?_
                    refine J.cut 4 ?_
                    refine @J.meet _ _ _ _ _ _ _ _ _ _ (fun ρ K' L' => Fits [(73, .bool ((decide (xa.1 = 1)) || (decide (xa.1 = 3)))), (1, .pointer (some ⟨b62, 0, none⟩))] ρ ∧ K = K' ∧ L' = Cl b62 24 [.int .i64 xa.1, .int .i64 xa.2.1, .int .i64 xa.2.2.1, .slice adxa_3 xa.2.2.2.1.length cpxa_3, .slice adxa_4 xa.2.2.2.2.1.length cpxa_4, .slice adxa_5 xa.2.2.2.2.2.length cpxa_5] :: F) ?_ ?_
                    · skip
                      rcases bt (decide (xa.1 = 1)) with hc110 | hc110
                      · skip
                        refine J.skip rfl rfl rfl rfl hc110 ?_
                        refine J.skip rfl rfl rfl rfl hc110 ?_
                        refine J.skip rfl rfl rfl rfl hc110 ?_
                        refine J.val (v := .bool true) rfl rfl (V.pickT rfl hc110 rfl) ?_
                        refine J.nil ?_
                        exact ⟨rfl, ⟨(by simp only [hc110]; rfl), rfl, trivial⟩, rfl, rfl⟩
                      · skip
                        refine J.run rfl rfl rfl hc110 ?_
                        refine J.val rfl rfl (V.fad Try.underlying24 rfl nz3 rfl) ?_
                        refine J.run rfl rfl rfl hc110 ?_
                        refine J.val (v := .int .i64 xa.1) rfl rfl (V.ld rfl (Ld.sc sc3 (Rd.cl 0 rfl rfl))) ?_
                        refine J.run rfl rfl rfl hc110 ?_
                        refine J.val (v := .bool (decide (xa.1 = 3))) rfl rfl (V.eql rfl rfl) ?_
                        refine J.val (v := .bool (decide (xa.1 = 3))) rfl rfl (V.pickF rfl hc110 rfl) ?_
                        refine J.nil ?_
                        exact ⟨rfl, ⟨(by simp only [hc110]; rfl), rfl, trivial⟩, rfl, rfl⟩
                    · rintro ρ _ _ ⟨hf, rfl, rfl⟩
                      obtain ⟨ρ, rfl⟩ := hf.ex
                      refine J.val (v := .bool ((decide (xa.1 = 1)) || (decide (xa.1 = 3)))) rfl rfl (V.mv rfl) ?_
                      refine J.cut 5 ?_
                      refine @J.meet _ _ _ _ _ _ _ _ _ _ (fun ρ K' L' => Fits [(79, .bool (((decide (xa.1 = 1)) || (decide (xa.1 = 3))) && (!decide ((((xa.2.2.2.2.1.length : Nat) : Int)) = 0)))), (1, .pointer (some ⟨b62, 0, none⟩))] ρ ∧ K = K' ∧ L' = Cl b62 24 [.int .i64 xa.1, .int .i64 xa.2.1, .int .i64 xa.2.2.1, .slice adxa_3 xa.2.2.2.1.length cpxa_3, .slice adxa_4 xa.2.2.2.2.1.length cpxa_4, .slice adxa_5 xa.2.2.2.2.2.length cpxa_5] :: F) ?_ ?_
                      · skip
                        rcases bt ((decide (xa.1 = 1)) || (decide (xa.1 = 3))) with hc113 | hc113
                        · skip
                          refine J.run rfl rfl rfl hc113 ?_
                          refine J.val rfl rfl (V.fad Try.underlying24 rfl nz22 rfl) ?_
                          refine J.run rfl rfl rfl hc113 ?_
                          refine J.val (v := .slice adxa_4 xa.2.2.2.2.1.length cpxa_4) rfl rfl (V.ld rfl (Ld.sc sc22 (Rd.cl 0 rfl rfl))) ?_
                          refine J.run rfl rfl rfl hc113 ?_
                          refine J.val (v := .int .i64 (((xa.2.2.2.2.1.length : Nat) : Int))) rfl rfl (V.len Try.underlying22 rfl) ?_
                          refine J.run rfl rfl rfl hc113 ?_
                          refine J.val (v := .bool (!decide ((((xa.2.2.2.2.1.length : Nat) : Int)) = 0))) rfl rfl (V.neq rfl rfl) ?_
                          refine J.val (v := .bool (!decide ((((xa.2.2.2.2.1.length : Nat) : Int)) = 0))) rfl rfl (V.pickT rfl hc113 rfl) ?_
                          refine J.nil ?_
                          exact ⟨rfl, ⟨(by simp only [hc113]; rfl), rfl, trivial⟩, rfl, rfl⟩
                        · skip
                          refine J.skip rfl rfl rfl rfl hc113 ?_
                          refine J.skip rfl rfl rfl rfl hc113 ?_
                          refine J.skip rfl rfl rfl rfl hc113 ?_
                          refine J.skip rfl rfl rfl rfl hc113 ?_
                          refine J.val (v := .bool false) rfl rfl (V.pickF rfl hc113 rfl) ?_
                          refine J.nil ?_
                          exact ⟨rfl, ⟨(by simp only [hc113]; rfl), rfl, trivial⟩, rfl, rfl⟩
                      · rintro ρ _ _ ⟨hf, rfl, rfl⟩
                        obtain ⟨ρ, rfl⟩ := hf.ex
                        refine J.nil ?_
                        refine CJ.cond rfl (fun hc114 => ?_) (fun hc114 => ?_)
                        · have h := ct hc114 h
                          refine CJ.seq ?_
                          refine CJ.region ?_
                          refine J.val (v := .int .i64 3) rfl rfl (V.as rfl) ?_
                          refine J.nil ?_
                          refine CJ.ret ?_
                          have e := Option.some.inj h
                          subst e
                          exact ⟨_, [], Res.one rfl rfl, ⟨3, rfl, rfl, rfl⟩, (Hp.le_refl _), fun w hs => (Sep.dropAt 0 rfl hs)⟩
                        · have h := cf hc114 h
                          refine CJ.skip ?_
                          refine CJ.seq ?_
                          refine CJ.seq ?_
                          refine CJ.region ?_
                          refine J.val rfl rfl (V.fad Try.underlying24 rfl nz22 rfl) ?_
                          refine J.val (v := .slice adxa_3 xa.2.2.2.1.length cpxa_3) rfl rfl (V.ld rfl (Ld.sc sc22 (Rd.cl 0 rfl rfl))) ?_
                          refine J.val (v := .int .i64 (((xa.2.2.2.1.length : Nat) : Int))) rfl rfl (V.len Try.underlying22 rfl) ?_
                          refine J.val (v := .bool (decide (16 < (((xa.2.2.2.1.length : Nat) : Int))))) rfl rfl (V.gtr rfl rfl) ?_
                          refine J.val (v := .bool (decide (16 < (((xa.2.2.2.1.length : Nat) : Int))))) rfl rfl (V.mv rfl) ?_
                          refine J.cut 5 ?_
                          refine @J.meet _ _ _ _ _ _ _ _ _ _ (fun ρ K' L' => Fits [(89, .bool ((decide (16 < (((xa.2.2.2.1.length : Nat) : Int)))) || (decide (16 < (((xa.2.2.2.2.1.length : Nat) : Int)))))), (1, .pointer (some ⟨b62, 0, none⟩))] ρ ∧ K = K' ∧ L' = Cl b62 24 [.int .i64 xa.1, .int .i64 xa.2.1, .int .i64 xa.2.2.1, .slice adxa_3 xa.2.2.2.1.length cpxa_3, .slice adxa_4 xa.2.2.2.2.1.length cpxa_4, .slice adxa_5 xa.2.2.2.2.2.length cpxa_5] :: F) ?_ ?_
                          · skip
                            rcases bt (decide (16 < (((xa.2.2.2.1.length : Nat) : Int)))) with hc117 | hc117
                            · skip
                              refine J.skip rfl rfl rfl rfl hc117 ?_
                              refine J.skip rfl rfl rfl rfl hc117 ?_
                              refine J.skip rfl rfl rfl rfl hc117 ?_
                              refine J.skip rfl rfl rfl rfl hc117 ?_
                              refine J.val (v := .bool true) rfl rfl (V.pickT rfl hc117 rfl) ?_
                              refine J.nil ?_
                              exact ⟨rfl, ⟨(by simp only [hc117]; rfl), rfl, trivial⟩, rfl, rfl⟩
                            · skip
                              refine J.run rfl rfl rfl hc117 ?_
                              refine J.val rfl rfl (V.fad Try.underlying24 rfl nz22 rfl) ?_
                              refine J.run rfl rfl rfl hc117 ?_
                              refine J.val (v := .slice adxa_4 xa.2.2.2.2.1.length cpxa_4) rfl rfl (V.ld rfl (Ld.sc sc22 (Rd.cl 0 rfl rfl))) ?_
                              refine J.run rfl rfl rfl hc117 ?_
                              refine J.val (v := .int .i64 (((xa.2.2.2.2.1.length : Nat) : Int))) rfl rfl (V.len Try.underlying22 rfl) ?_
                              refine J.run rfl rfl rfl hc117 ?_
                              refine J.val (v := .bool (decide (16 < (((xa.2.2.2.2.1.length : Nat) : Int))))) rfl rfl (V.gtr rfl rfl) ?_
                              refine J.val (v := .bool (decide (16 < (((xa.2.2.2.2.1.length : Nat) : Int))))) rfl rfl (V.pickF rfl hc117 rfl) ?_
                              refine J.nil ?_
                              exact ⟨rfl, ⟨(by simp only [hc117]; rfl), rfl, trivial⟩, rfl, rfl⟩
                          · rintro ρ _ _ ⟨hf, rfl, rfl⟩
                            obtain ⟨ρ, rfl⟩ := hf.ex
                            refine J.val (v := .bool ((decide (16 < (((xa.2.2.2.1.length : Nat) : Int)))) || (decide (16 < (((xa.2.2.2.2.1.length : Nat) : Int)))))) rfl rfl (V.mv rfl) ?_
                            refine J.cut 5 ?_
                            refine @J.meet _ _ _ _ _ _ _ _ _ _ (fun ρ K' L' => Fits [(95, .bool (((decide (16 < (((xa.2.2.2.1.length : Nat) : Int)))) || (decide (16 < (((xa.2.2.2.2.1.length : Nat) : Int))))) || (decide (16 < (((xa.2.2.2.2.2.length : Nat) : Int))))))] ρ ∧ K = K' ∧ L' = Cl b62 24 [.int .i64 xa.1, .int .i64 xa.2.1, .int .i64 xa.2.2.1, .slice adxa_3 xa.2.2.2.1.length cpxa_3, .slice adxa_4 xa.2.2.2.2.1.length cpxa_4, .slice adxa_5 xa.2.2.2.2.2.length cpxa_5] :: F) ?_ ?_
                            · skip
                              rcases bt ((decide (16 < (((xa.2.2.2.1.length : Nat) : Int)))) || (decide (16 < (((xa.2.2.2.2.1.length : Nat) : Int))))) with hc120 | hc120
                              · skip
                                refine J.skip rfl rfl rfl rfl hc120 ?_
                                refine J.skip rfl rfl rfl rfl hc120 ?_
                                refine J.skip rfl rfl rfl rfl hc120 ?_
                                refine J.skip rfl rfl rfl rfl hc120 ?_
                                refine J.val (v := .bool true) rfl rfl (V.pickT rfl hc120 rfl) ?_
                                refine J.nil ?_
                                exact ⟨rfl, ⟨(by simp only [hc120]; rfl), trivial⟩, rfl, rfl⟩
                              · skip
                                refine J.run rfl rfl rfl hc120 ?_
                                refine J.val rfl rfl (V.fad Try.underlying24 rfl nz22 rfl) ?_
                                refine J.run rfl rfl rfl hc120 ?_
                                refine J.val (v := .slice adxa_5 xa.2.2.2.2.2.length cpxa_5) rfl rfl (V.ld rfl (Ld.sc sc22 (Rd.cl 0 rfl rfl))) ?_
                                refine J.run rfl rfl rfl hc120 ?_
                                refine J.val (v := .int .i64 (((xa.2.2.2.2.2.length : Nat) : Int))) rfl rfl (V.len Try.underlying22 rfl) ?_
                                refine J.run rfl rfl rfl hc120 ?_
                                refine J.val (v := .bool (decide (16 < (((xa.2.2.2.2.2.length : Nat) : Int))))) rfl rfl (V.gtr rfl rfl) ?_
                                refine J.val (v := .bool (decide (16 < (((xa.2.2.2.2.2.length : Nat) : Int))))) rfl rfl (V.pickF rfl hc120 rfl) ?_
                                refine J.nil ?_
                                exact ⟨rfl, ⟨(by simp only [hc120]; rfl), trivial⟩, rfl, rfl⟩
                            · rintro ρ _ _ ⟨hf, rfl, rfl⟩
                              obtain ⟨ρ, rfl⟩ := hf.ex
                              refine J.nil ?_
                              refine CJ.cond rfl (fun hc121 => ?_) (fun hc121 => ?_)
                              · have h := ct hc121 h
                                refine CJ.seq ?_
                                refine CJ.region ?_
                                refine J.val (v := .int .i64 6) rfl rfl (V.as rfl) ?_
                                refine J.nil ?_
                                refine CJ.ret ?_
                                have e := Option.some.inj h
                                subst e
                                exact ⟨_, [], Res.one rfl rfl, ⟨6, rfl, rfl, rfl⟩, (Hp.le_refl _), fun w hs => (Sep.dropAt 0 rfl hs)⟩
                              · have h := cf hc121 h
                                refine CJ.skip ?_
                                refine CJ.seq ?_
                                refine CJ.region ?_
                                refine J.val (v := .int .i64 0) rfl rfl (V.as rfl) ?_
                                refine J.nil ?_
                                refine CJ.ret ?_
                                have e := Option.some.inj h
                                subst e
                                exact ⟨_, [], Res.one rfl rfl, ⟨0, rfl, rfl, rfl⟩, (Hp.le_refl _), fun w hs => (Sep.dropAt 0 rfl hs)⟩
noncomputable def fn_ref19_list_l1 (xa : (List Int)) : (List UInt8 × Int) → Option ((List UInt8 × Int) ⊕ List UInt8) := fun ((s234, i235) : (List UInt8 × Int)) => cond (decide (i235 < (((xa.length : Nat) : Int)))) ((getI xa i235).bind fun x261 => (fn_ref02_Put x261).bind fun s272 => (app s234 s272).bind fun z276 => some (.inl ((z276, IntKind.wrap .i64 (i235 + 1))))) (some (.inr (s234)))
noncomputable def fn_ref19_list (xa : (List Int)) : Option (List UInt8) :=
  (fn_ref02_Put (((xa.length : Nat) : Int))).bind fun s143 => (loop (fn_ref19_list_l1 xa) (s143, 0) : Option (List UInt8)).bind fun s211 => some (s211)
set_option maxRecDepth 100000 in
set_option maxHeartbeats 4000000 in
theorem ref19_list_ok {K : Hp} {xa : (List Int)} {adxa_0 : Option Addr} {cpxa_0 : Nat} (fxa_0 : Is K (.sl (.int .i64)) [.slice adxa_0 xa.length cpxa_0] xa) {r : List UInt8} (h : fn_ref19_list xa = some r) :
    Tr Try.prog 43 #[.slice adxa_0 xa.length cpxa_0] K [] (fun v K' L' => (∃ (s140 : List UInt8), s140 = r ∧ .string ⟨s140.toArray⟩ = v ∧ L' = []) ∧ K = K') := by
  refine Tr.k ?_
  refine Tr.of Try.func43 rfl Try.ntmps43 rfl (fun E F => ?_)
  unfold fn_ref19_list at h
  refine CJ.seq ?_
  refine CJ.region ?_
  refine J.val (v := .string ⟨([] : List UInt8).toArray⟩) rfl rfl (V.as rfl) ?_
  refine J.nil ?_
  refine CJ.seq ?_
  refine CJ.region ?_
  refine J.val (v := .slice adxa_0 xa.length cpxa_0) rfl rfl (V.mv rfl) ?_
  refine J.val (v := .int .i64 (((xa.length : Nat) : Int))) rfl rfl (V.len Try.underlying22 rfl) ?_
  obtain ⟨r141, hr142, h⟩ := ob h
  refine J.op rfl (A.call (L1 := []) Try.call42 rfl (ref02_Put_ok hr142) rfl rfl) ?_
  rintro _ _ _ ⟨v144, _, rfl, ⟨⟨s143, rfl, rfl, rfl⟩, rfl⟩, _, rfl⟩
  refine J.val (v := .string ⟨s143.toArray⟩) rfl rfl (V.as rfl) ?_
  refine J.nil ?_
  refine CJ.seq ?_
  refine CJ.seq ?_
  refine CJ.region ?_
  refine J.val (v := .int .i64 0) rfl rfl (V.as rfl) ?_
  refine J.nil ?_
  obtain ⟨o212, ho213, h⟩ := ob h
  refine CJ.meetN (fun ρ K' L' => ∃ (s211 : List UInt8), s211 = o212 ∧ Fits [(3, .string ⟨s211.toArray⟩)] ρ ∧ K = K' ∧ F = L') ?_ ?_
  · skip
    refine CJ.block ?_
    refine CJ.loop (fun s ρ K' L' => ∃ (s234 : List UInt8) (i235 : Int), (s234, i235) = s ∧ Fits [(0, .slice adxa_0 xa.length cpxa_0), (3, .string ⟨s234.toArray⟩), (4, .int .i64 i235)] ρ ∧ K = K' ∧ F = L') ho213 ⟨s143, 0, rfl, ⟨rfl, rfl, rfl, trivial⟩, rfl, rfl⟩ ?_
    rintro s ρ _ _ r259 ⟨s234, i235, rfl, hf257, rfl, rfl⟩ h256
    obtain ⟨ρ, rfl⟩ := hf257.ex
    refine CJ.seq ?_
    refine CJ.seq ?_
    refine CJ.region ?_
    refine J.val (v := .int .i64 i235) rfl rfl (V.mv rfl) ?_
    refine J.val (v := .slice adxa_0 xa.length cpxa_0) rfl rfl (V.mv rfl) ?_
    refine J.val (v := .int .i64 (((xa.length : Nat) : Int))) rfl rfl (V.len Try.underlying22 rfl) ?_
    refine J.val (v := .bool (decide (i235 < (((xa.length : Nat) : Int))))) rfl rfl (V.lss rfl rfl) ?_
    refine J.nil ?_
    refine CJ.cond rfl (fun hc260 => ?_) (fun hc260 => ?_)
    · have h256 := ct hc260 h256
      refine CJ.skip ?_
      refine CJ.seq ?_
      refine CJ.block ?_
      refine CJ.region ?_
      refine J.val (v := .string ⟨s234.toArray⟩) rfl rfl (V.mv rfl) ?_
      refine J.val (v := .slice adxa_0 xa.length cpxa_0) rfl rfl (V.mv rfl) ?_
      refine J.val (v := .int .i64 i235) rfl rfl (V.mv rfl) ?_
      obtain ⟨x261, hx262, h256⟩ := ob h256
      obtain ⟨p263, p264, p265⟩ := getI_some hx262
      obtain ⟨b266, o267, e268, a269⟩ := (fxa_0).at p264
      refine J.val rfl rfl (V.iad Try.underlying22 sz3 rfl e268 rfl p263 p265) ?_
      refine J.val (v := .int .i64 x261) rfl rfl (V.ld rfl (Ld.sc sc3 (Rd.k (a269).int (Hp.le_refl _)))) ?_
      obtain ⟨r270, hr271, h256⟩ := ob h256
      refine J.op rfl (A.call (L1 := []) Try.call42 rfl (ref02_Put_ok hr271) rfl rfl) ?_
      rintro _ _ _ ⟨v273, _, rfl, ⟨⟨s272, rfl, rfl, rfl⟩, rfl⟩, _, rfl⟩
      obtain ⟨z276, hz277, h256⟩ := ob h256
      refine J.val (v := .string ⟨z276.toArray⟩) rfl rfl (V.cat rfl rfl hz277) ?_
      refine J.val (v := .string ⟨z276.toArray⟩) rfl rfl (V.as rfl) ?_
      refine J.nil ?_
      refine CJ.region ?_
      refine J.val (v := .int .i64 i235) rfl rfl (V.mv rfl) ?_
      refine J.val (v := .int .i64 (IntKind.wrap .i64 (i235 + 1))) rfl rfl (V.add rfl rfl) ?_
      refine J.val (v := .int .i64 (IntKind.wrap .i64 (i235 + 1))) rfl rfl (V.as rfl) ?_
      refine J.nil ?_
      have e := Option.some.inj h256
      subst e
      exact ⟨rfl, ⟨z276, IntKind.wrap .i64 (i235 + 1), rfl, ⟨rfl, rfl, rfl, trivial⟩, rfl, rfl⟩⟩
    · have h256 := cf hc260 h256
      refine CJ.exit ?_
      have e := Option.some.inj h256
      subst e
      refine ⟨nofun, fun e => ?_⟩
      subst e
      exact ⟨rfl, ⟨s234, rfl, ⟨rfl, trivial⟩, rfl, rfl⟩⟩
  · rintro ρ _ _ ⟨s211, rfl, hf278, rfl, rfl⟩
    obtain ⟨ρ, rfl⟩ := hf278.ex
    refine PJ.done ?_
    refine CJ.seq ?_
    refine CJ.region ?_
    refine J.val (v := .string ⟨s211.toArray⟩) rfl rfl (V.mv rfl) ?_
    refine J.val (v := .string ⟨s211.toArray⟩) rfl rfl (V.as rfl) ?_
    refine J.nil ?_
    refine CJ.ret ?_
    have e := Option.some.inj h
    subst e
    exact ⟨_, [], Res.one rfl rfl, ⟨s211, rfl, rfl, rfl⟩, (Hp.le_refl _), fun w hs => hs⟩

noncomputable def fn_ref19_Put (xa : (Int × Int × Int × (List Int) × (List Int) × (List Int))) : Option (List UInt8 × Int) :=
  (fn_ref19_Form (xa.1, xa.2.1, xa.2.2.1, xa.2.2.2.1, xa.2.2.2.2.1, xa.2.2.2.2.2)).bind fun i237 => cond (!decide (i237 = 0)) (some ((([] : List UInt8), i237))) ((fn_ref02_Put xa.1).bind fun s244 => (cond (decide (xa.1 = 1)) ((getI xa.2.2.2.1 0).bind fun x270 => (fn_ref02_Put x270).bind fun s281 => (app s244 s281).bind fun z285 => some (z285)) (some (s244)) : Option (List UInt8)).bind fun s266 => (cond (decide (xa.1 = 2)) ((fn_ref19_list xa.2.2.2.1).bind fun s344 => (app s266 s344).bind fun z348 => (fn_ref19_list xa.2.2.2.2.1).bind fun s352 => (app z348 s352).bind fun z356 => some (z356)) (some (s266)) : Option (List UInt8)).bind fun s322 => cond (decide (xa.1 = 4)) ((getI xa.2.2.2.1 0).bind fun x410 => (fn_ref02_Put xa.2.1).bind fun s421 => (app s322 s421).bind fun z425 => (fn_ref02_Put xa.2.2.1).bind fun s429 => (app z425 s429).bind fun z433 => (fn_ref02_Put x410).bind fun s437 => (app z433 s437).bind fun z441 => (fn_ref19_list xa.2.2.2.2.2).bind fun s445 => (app z441 s445).bind fun z449 => (fn_ref19_list xa.2.2.2.2.1).bind fun s453 => (app z449 s453).bind fun z457 => some ((z457, 0))) (some ((s322, 0))))
set_option maxRecDepth 100000 in
set_option maxHeartbeats 4000000 in
theorem ref19_Put_ok {K : Hp} {xa : (Int × Int × Int × (List Int) × (List Int) × (List Int))} {adxa_3 : Option Addr} {cpxa_3 : Nat} {adxa_4 : Option Addr} {cpxa_4 : Nat} {adxa_5 : Option Addr} {cpxa_5 : Nat} (fxa_3 : Is K (.sl (.int .i64)) [.slice adxa_3 xa.2.2.2.1.length cpxa_3] xa.2.2.2.1) (fxa_4 : Is K (.sl (.int .i64)) [.slice adxa_4 xa.2.2.2.2.1.length cpxa_4] xa.2.2.2.2.1) (fxa_5 : Is K (.sl (.int .i64)) [.slice adxa_5 xa.2.2.2.2.2.length cpxa_5] xa.2.2.2.2.2) {r : (List UInt8 × Int)} (h : fn_ref19_Put xa = some r) :
    Tr Try.prog 19 #[.agg #[.int .i64 xa.1, .int .i64 xa.2.1, .int .i64 xa.2.2.1, .slice adxa_3 xa.2.2.2.1.length cpxa_3, .slice adxa_4 xa.2.2.2.2.1.length cpxa_4, .slice adxa_5 xa.2.2.2.2.2.length cpxa_5]] K [] (fun v K' L' => (∃ (s232 : List UInt8) (i233 : Int), (s232, i233) = r ∧ .tuple #[.string ⟨s232.toArray⟩, .int .i64 i233] = v ∧ L' = []) ∧ K = K') := by
  refine Tr.k ?_
  refine Tr.of Try.func19 rfl Try.ntmps19 rfl (fun E F => ?_)
  unfold fn_ref19_Put at h
  refine CJ.seq ?_
  refine CJ.region ?_
  refine J.op rfl (A.box (v := .agg #[.int .i64 xa.1, .int .i64 xa.2.1, .int .i64 xa.2.2.1, .slice adxa_3 xa.2.2.2.1.length cpxa_3, .slice adxa_4 xa.2.2.2.2.1.length cpxa_4, .slice adxa_5 xa.2.2.2.2.2.length cpxa_5]) (cs := [.int .i64 xa.1, .int .i64 xa.2.1, .int .i64 xa.2.2.1, .slice adxa_3 xa.2.2.2.1.length cpxa_3, .slice adxa_4 xa.2.2.2.2.1.length cpxa_4, .slice adxa_5 xa.2.2.2.2.2.length cpxa_5]) rfl rfl) ?_
  rintro _ _ _ ⟨b234, rfl, rfl, rfl⟩
  refine J.val (v := .string ⟨([] : List UInt8).toArray⟩) rfl rfl (V.as rfl) ?_
  refine J.val (v := .int .i64 0) rfl rfl (V.as rfl) ?_
  refine J.nil ?_
  refine CJ.seq ?_
  refine CJ.region ?_
  refine J.val (v := .agg #[.int .i64 xa.1, .int .i64 xa.2.1, .int .i64 xa.2.2.1, .slice adxa_3 xa.2.2.2.1.length cpxa_3, .slice adxa_4 xa.2.2.2.2.1.length cpxa_4, .slice adxa_5 xa.2.2.2.2.2.length cpxa_5]) rfl rfl (V.ld rfl (Ld.agg (cs := [.int .i64 xa.1, .int .i64 xa.2.1, .int .i64 xa.2.2.1, .slice adxa_3 xa.2.2.2.1.length cpxa_3, .slice adxa_4 xa.2.2.2.2.1.length cpxa_4, .slice adxa_5 xa.2.2.2.2.2.length cpxa_5]) Try.underlying24 sz24 rfl (Rd.cls 0 0 rfl rfl))) ?_
  obtain ⟨r235, hr236, h⟩ := ob h
  refine J.op rfl (A.call (L1 := []) Try.call26 rfl (ref19_Form_ok fxa_3 fxa_4 fxa_5 hr236) rfl rfl) ?_
  rintro _ _ _ ⟨v238, _, rfl, ⟨⟨i237, rfl, rfl, rfl⟩, rfl⟩, _, rfl⟩
  refine J.val (v := .int .i64 i237) rfl rfl (V.as rfl) ?_
  refine J.nil ?_
  refine CJ.seq ?_
  refine CJ.seq ?_
  refine CJ.region ?_
  refine J.val (v := .int .i64 i237) rfl rfl (V.mv rfl) ?_
  refine J.val (v := .bool (!decide (i237 = 0))) rfl rfl (V.neq rfl rfl) ?_
  refine J.nil ?_
  refine CJ.cond rfl (fun hc241 => ?_) (fun hc241 => ?_)
  · have h := ct hc241 h
    refine CJ.seq ?_
    refine CJ.region ?_
    refine J.val (v := .int .i64 i237) rfl rfl (V.mv rfl) ?_
    refine J.val (v := .string ⟨([] : List UInt8).toArray⟩) rfl rfl (V.as rfl) ?_
    refine J.val (v := .int .i64 i237) rfl rfl (V.as rfl) ?_
    refine J.nil ?_
    refine CJ.ret ?_
    have e := Option.some.inj h
    subst e
    exact ⟨_, [], Res.two rfl rfl rfl, ⟨([] : List UInt8), i237, rfl, rfl, rfl⟩, (Hp.le_refl _), fun w hs => (Sep.dropAt 0 rfl hs)⟩
  · have h := cf hc241 h
    refine CJ.skip ?_
    refine CJ.seq ?_
    refine CJ.region ?_
    refine J.val rfl rfl (V.fad Try.underlying24 rfl nz3 rfl) ?_
    refine J.val (v := .int .i64 xa.1) rfl rfl (V.ld rfl (Ld.sc sc3 (Rd.cl 0 rfl rfl))) ?_
    obtain ⟨r242, hr243, h⟩ := ob h
    refine J.op rfl (A.call (L1 := []) Try.call42 rfl (ref02_Put_ok hr243) rfl rfl) ?_
    rintro _ _ _ ⟨v245, _, rfl, ⟨⟨s244, rfl, rfl, rfl⟩, rfl⟩, _, rfl⟩
    refine J.val (v := .string ⟨s244.toArray⟩) rfl rfl (V.as rfl) ?_
    refine J.nil ?_
    refine CJ.seq ?_
    obtain ⟨o267, ho268, h⟩ := ob h
    refine CJ.meetN (fun ρ K' L' => ∃ (s266 : List UInt8), s266 = o267 ∧ Fits [(1, .pointer (some ⟨b234, 0, none⟩)), (5, .string ⟨s266.toArray⟩)] ρ ∧ K = K' ∧ L' = Cl b234 24 [.int .i64 xa.1, .int .i64 xa.2.1, .int .i64 xa.2.2.1, .slice adxa_3 xa.2.2.2.1.length cpxa_3, .slice adxa_4 xa.2.2.2.2.1.length cpxa_4, .slice adxa_5 xa.2.2.2.2.2.length cpxa_5] :: F) ?_ ?_
    · skip
      refine CJ.seq ?_
      refine CJ.region ?_
      refine J.val rfl rfl (V.fad Try.underlying24 rfl nz3 rfl) ?_
      refine J.val (v := .int .i64 xa.1) rfl rfl (V.ld rfl (Ld.sc sc3 (Rd.cl 0 rfl rfl))) ?_
      refine J.val (v := .bool (decide (xa.1 = 1))) rfl rfl (V.eql rfl rfl) ?_
      refine J.nil ?_
      refine CJ.cond rfl (fun hc269 => ?_) (fun hc269 => ?_)
      · have ho268 := ct hc269 ho268
        refine CJ.region ?_
        refine J.val (v := .string ⟨s244.toArray⟩) rfl rfl (V.mv rfl) ?_
        refine J.val rfl rfl (V.fad Try.underlying24 rfl nz22 rfl) ?_
        refine J.val (v := .slice adxa_3 xa.2.2.2.1.length cpxa_3) rfl rfl (V.ld rfl (Ld.sc sc22 (Rd.cl 0 rfl rfl))) ?_
        obtain ⟨x270, hx271, ho268⟩ := ob ho268
        obtain ⟨p272, p273, p274⟩ := getI_some hx271
        obtain ⟨b275, o276, e277, a278⟩ := (fxa_3).at p273
        refine J.val rfl rfl (V.iad Try.underlying22 sz3 rfl e277 rfl p272 p274) ?_
        refine J.val (v := .int .i64 x270) rfl rfl (V.ld rfl (Ld.sc sc3 (Rd.k (a278).int (Hp.le_refl _)))) ?_
        obtain ⟨r279, hr280, ho268⟩ := ob ho268
        refine J.op rfl (A.call (L1 := []) Try.call42 rfl (ref02_Put_ok hr280) rfl rfl) ?_
        rintro _ _ _ ⟨v282, _, rfl, ⟨⟨s281, rfl, rfl, rfl⟩, rfl⟩, _, rfl⟩
        obtain ⟨z285, hz286, ho268⟩ := ob ho268
        refine J.val (v := .string ⟨z285.toArray⟩) rfl rfl (V.cat rfl rfl hz286) ?_
        refine J.val (v := .string ⟨z285.toArray⟩) rfl rfl (V.as rfl) ?_
        refine J.nil ?_
        have e := Option.some.inj ho268
        subst e
        exact ⟨rfl, ⟨z285, rfl, ⟨rfl, rfl, trivial⟩, rfl, rfl⟩⟩
      · have ho268 := cf hc269 ho268
        refine CJ.skip ?_
        have e := Option.some.inj ho268
        subst e
        exact ⟨rfl, ⟨s244, rfl, ⟨rfl, rfl, trivial⟩, rfl, rfl⟩⟩
    · rintro ρ _ _ ⟨s266, rfl, hf287, rfl, rfl⟩
      obtain ⟨ρ, rfl⟩ := hf287.ex
      refine PJ.done ?_
      refine CJ.seq ?_
      obtain ⟨o323, ho324, h⟩ := ob h
      refine CJ.meetN (fun ρ K' L' => ∃ (s322 : List UInt8), s322 = o323 ∧ Fits [(1, .pointer (some ⟨b234, 0, none⟩)), (5, .string ⟨s322.toArray⟩)] ρ ∧ K = K' ∧ L' = Cl b234 24 [.int .i64 xa.1, .int .i64 xa.2.1, .int .i64 xa.2.2.1, .slice adxa_3 xa.2.2.2.1.length cpxa_3, .slice adxa_4 xa.2.2.2.2.1.length cpxa_4, .slice adxa_5 xa.2.2.2.2.2.length cpxa_5] :: F) ?_ ?_
      · skip
        refine CJ.seq ?_
        refine CJ.region ?_
        refine J.val rfl rfl (V.fad Try.underlying24 rfl nz3 rfl) ?_
        refine J.val (v := .int .i64 xa.1) rfl rfl (V.ld rfl (Ld.sc sc3 (Rd.cl 0 rfl rfl))) ?_
        refine J.val (v := .bool (decide (xa.1 = 2))) rfl rfl (V.eql rfl rfl) ?_
        refine J.nil ?_
        refine CJ.cond rfl (fun hc325 => ?_) (fun hc325 => ?_)
        · have ho324 := ct hc325 ho324
          refine CJ.mix [Cl b234 24 [.int .i64 xa.1, .int .i64 xa.2.1, .int .i64 xa.2.2.1, .slice adxa_3 xa.2.2.2.1.length cpxa_3, .slice adxa_4 xa.2.2.2.2.1.length cpxa_4, .slice adxa_5 xa.2.2.2.2.2.length cpxa_5]] [([0, 1, 2, 5, 6], 3), ([4], 7)] [8, 9] [] mixO (by decide +kernel) ⟨0, rfl, trivial⟩ rfl rfl rfl ?_
          refine JM.cons ?_
          refine JQ.val (v := .string ⟨s266.toArray⟩) rfl rfl (V.mv rfl) ?_
          refine JQ.val rfl rfl (V.fad Try.underlying24 rfl nz22 rfl) ?_
          refine JQ.val (v := .slice adxa_3 xa.2.2.2.1.length cpxa_3) rfl rfl (V.ld rfl (Ld.sc sc22 (Rd.cl 0 rfl rfl))) ?_
          refine JQ.val rfl rfl (V.fad Try.underlying24 rfl nz22 rfl) ?_
          refine JQ.val (v := .slice adxa_4 xa.2.2.2.2.1.length cpxa_4) rfl rfl (V.ld rfl (Ld.sc sc22 (Rd.cl 0 rfl rfl))) ?_
          refine JQ.nil ?_
          obtain ⟨r342, hr343, ho324⟩ := ob ho324
          refine JA.op rfl (A.call (L1 := []) Try.call43 rfl (ref19_list_ok fxa_3 hr343) rfl rfl) ?_
          rintro _ _ _ ⟨v345, _, rfl, ⟨⟨s344, rfl, rfl, rfl⟩, rfl⟩, _, rfl⟩
          refine ⟨fun w hs => Hold.sub (Hp.le_refl _) ⟨0, rfl, trivial⟩ hs, ?_⟩
          refine JM.cons ?_
          obtain ⟨z348, hz349, ho324⟩ := ob ho324
          refine JQ.val (v := .string ⟨z348.toArray⟩) rfl rfl (V.cat rfl rfl hz349) ?_
          refine JQ.nil ?_
          obtain ⟨r350, hr351, ho324⟩ := ob ho324
          refine JA.op rfl (A.call (L1 := []) Try.call43 rfl (ref19_list_ok fxa_4 hr351) rfl rfl) ?_
          rintro _ _ _ ⟨v353, _, rfl, ⟨⟨s352, rfl, rfl, rfl⟩, rfl⟩, _, rfl⟩
          refine ⟨fun w hs => Hold.sub (Hp.le_refl _) ⟨0, rfl, trivial⟩ hs, ?_⟩
          refine JM.nil ?_
          obtain ⟨z356, hz357, ho324⟩ := ob ho324
          refine JQ.val (v := .string ⟨z356.toArray⟩) rfl rfl (V.cat rfl rfl hz357) ?_
          refine JQ.val (v := .string ⟨z356.toArray⟩) rfl rfl (V.as rfl) ?_
          refine JQ.nil ?_
          refine J.nil ?_
          have e := Option.some.inj ho324
          subst e
          exact ⟨rfl, ⟨z356, rfl, ⟨rfl, rfl, trivial⟩, rfl, rfl⟩⟩
        · have ho324 := cf hc325 ho324
          refine CJ.skip ?_
          have e := Option.some.inj ho324
          subst e
          exact ⟨rfl, ⟨s266, rfl, ⟨rfl, rfl, trivial⟩, rfl, rfl⟩⟩
      · rintro ρ _ _ ⟨s322, rfl, hf358, rfl, rfl⟩
        obtain ⟨ρ, rfl⟩ := hf358.ex
        refine PJ.done ?_
        refine CJ.seq ?_
        refine CJ.seq ?_
        refine CJ.region ?_
        refine J.val rfl rfl (V.fad Try.underlying24 rfl nz3 rfl) ?_
        refine J.val (v := .int .i64 xa.1) rfl rfl (V.ld rfl (Ld.sc sc3 (Rd.cl 0 rfl rfl))) ?_
        refine J.val (v := .bool (decide (xa.1 = 4))) rfl rfl (V.eql rfl rfl) ?_
        refine J.nil ?_
        refine CJ.cond rfl (fun hc360 => ?_) (fun hc360 => ?_)
        · have h := ct hc360 h
          refine CJ.mix [Cl b234 24 [.int .i64 xa.1, .int .i64 xa.2.1, .int .i64 xa.2.2.1, .slice adxa_3 xa.2.2.2.1.length cpxa_3, .slice adxa_4 xa.2.2.2.2.1.length cpxa_4, .slice adxa_5 xa.2.2.2.2.2.length cpxa_5]] [([0, 1, 2, 5, 6, 9, 10, 11, 12, 15, 16, 19, 20], 3), ([4], 7), ([8], 13), ([14], 17), ([18], 21)] [22, 23] [] mixO (by decide +kernel) ⟨0, rfl, trivial⟩ rfl rfl rfl ?_
          refine JM.cons ?_
          refine JQ.val (v := .string ⟨s322.toArray⟩) rfl rfl (V.mv rfl) ?_
          refine JQ.val rfl rfl (V.fad Try.underlying24 rfl nz3 rfl) ?_
          refine JQ.val (v := .int .i64 xa.2.1) rfl rfl (V.ld rfl (Ld.sc sc3 (Rd.cl 0 rfl rfl))) ?_
          refine JQ.val rfl rfl (V.fad Try.underlying24 rfl nz3 rfl) ?_
          refine JQ.val (v := .int .i64 xa.2.2.1) rfl rfl (V.ld rfl (Ld.sc sc3 (Rd.cl 0 rfl rfl))) ?_
          refine JQ.val rfl rfl (V.fad Try.underlying24 rfl nz22 rfl) ?_
          refine JQ.val (v := .slice adxa_3 xa.2.2.2.1.length cpxa_3) rfl rfl (V.ld rfl (Ld.sc sc22 (Rd.cl 0 rfl rfl))) ?_
          obtain ⟨x410, hx411, h⟩ := ob h
          obtain ⟨p412, p413, p414⟩ := getI_some hx411
          obtain ⟨b415, o416, e417, a418⟩ := (fxa_3).at p413
          refine JQ.val rfl rfl (V.iad Try.underlying22 sz3 rfl e417 rfl p412 p414) ?_
          refine JQ.val (v := .int .i64 x410) rfl rfl (V.ld rfl (Ld.sc sc3 (Rd.k (a418).int (Hp.le_refl _)))) ?_
          refine JQ.val rfl rfl (V.fad Try.underlying24 rfl nz22 rfl) ?_
          refine JQ.val (v := .slice adxa_5 xa.2.2.2.2.2.length cpxa_5) rfl rfl (V.ld rfl (Ld.sc sc22 (Rd.cl 0 rfl rfl))) ?_
          refine JQ.val rfl rfl (V.fad Try.underlying24 rfl nz22 rfl) ?_
          refine JQ.val (v := .slice adxa_4 xa.2.2.2.2.1.length cpxa_4) rfl rfl (V.ld rfl (Ld.sc sc22 (Rd.cl 0 rfl rfl))) ?_
          refine JQ.nil ?_
          obtain ⟨r419, hr420, h⟩ := ob h
          refine JA.op rfl (A.call (L1 := []) Try.call42 rfl (ref02_Put_ok hr420) rfl rfl) ?_
          rintro _ _ _ ⟨v422, _, rfl, ⟨⟨s421, rfl, rfl, rfl⟩, rfl⟩, _, rfl⟩
          refine ⟨fun w hs => Hold.sub (Hp.le_refl _) ⟨0, rfl, trivial⟩ hs, ?_⟩
          refine JM.cons ?_
          obtain ⟨z425, hz426, h⟩ := ob h
          refine JQ.val (v := .string ⟨z425.toArray⟩) rfl rfl (V.cat rfl rfl hz426) ?_
          refine JQ.nil ?_
          obtain ⟨r427, hr428, h⟩ := ob h
          refine JA.op rfl (A.call (L1 := []) Try.call42 rfl (ref02_Put_ok hr428) rfl rfl) ?_
          rintro _ _ _ ⟨v430, _, rfl, ⟨⟨s429, rfl, rfl, rfl⟩, rfl⟩, _, rfl⟩
          refine ⟨fun w hs => Hold.sub (Hp.le_refl _) ⟨0, rfl, trivial⟩ hs, ?_⟩
          refine JM.cons ?_
          obtain ⟨z433, hz434, h⟩ := ob h
          refine JQ.val (v := .string ⟨z433.toArray⟩) rfl rfl (V.cat rfl rfl hz434) ?_
          refine JQ.nil ?_
          obtain ⟨r435, hr436, h⟩ := ob h
          refine JA.op rfl (A.call (L1 := []) Try.call42 rfl (ref02_Put_ok hr436) rfl rfl) ?_
          rintro _ _ _ ⟨v438, _, rfl, ⟨⟨s437, rfl, rfl, rfl⟩, rfl⟩, _, rfl⟩
          refine ⟨fun w hs => Hold.sub (Hp.le_refl _) ⟨0, rfl, trivial⟩ hs, ?_⟩
          refine JM.cons ?_
          obtain ⟨z441, hz442, h⟩ := ob h
          refine JQ.val (v := .string ⟨z441.toArray⟩) rfl rfl (V.cat rfl rfl hz442) ?_
          refine JQ.nil ?_
          obtain ⟨r443, hr444, h⟩ := ob h
          refine JA.op rfl (A.call (L1 := []) Try.call43 rfl (ref19_list_ok fxa_5 hr444) rfl rfl) ?_
          rintro _ _ _ ⟨v446, _, rfl, ⟨⟨s445, rfl, rfl, rfl⟩, rfl⟩, _, rfl⟩
          refine ⟨fun w hs => Hold.sub (Hp.le_refl _) ⟨0, rfl, trivial⟩ hs, ?_⟩
          refine JM.cons ?_
          obtain ⟨z449, hz450, h⟩ := ob h
          refine JQ.val (v := .string ⟨z449.toArray⟩) rfl rfl (V.cat rfl rfl hz450) ?_
          refine JQ.nil ?_
          obtain ⟨r451, hr452, h⟩ := ob h
          refine JA.op rfl (A.call (L1 := []) Try.call43 rfl (ref19_list_ok fxa_4 hr452) rfl rfl) ?_
          rintro _ _ _ ⟨v454, _, rfl, ⟨⟨s453, rfl, rfl, rfl⟩, rfl⟩, _, rfl⟩
          refine ⟨fun w hs => Hold.sub (Hp.le_refl _) ⟨0, rfl, trivial⟩ hs, ?_⟩
          refine JM.nil ?_
          obtain ⟨z457, hz458, h⟩ := ob h
          refine JQ.val (v := .string ⟨z457.toArray⟩) rfl rfl (V.cat rfl rfl hz458) ?_
          refine JQ.val (v := .string ⟨z457.toArray⟩) rfl rfl (V.as rfl) ?_
          refine JQ.nil ?_
          refine J.nil ?_
          refine CJ.seq ?_
          refine CJ.region ?_
          refine J.val (v := .string ⟨z457.toArray⟩) rfl rfl (V.mv rfl) ?_
          refine J.val (v := .string ⟨z457.toArray⟩) rfl rfl (V.as rfl) ?_
          refine J.val (v := .int .i64 0) rfl rfl (V.as rfl) ?_
          refine J.nil ?_
          refine CJ.ret ?_
          have e := Option.some.inj h
          subst e
          exact ⟨_, [], Res.two rfl rfl rfl, ⟨z457, 0, rfl, rfl, rfl⟩, (Hp.le_refl _), fun w hs => (Sep.dropAt 0 rfl hs)⟩
        · have h := cf hc360 h
          refine CJ.skip ?_
          refine CJ.seq ?_
          refine CJ.region ?_
          refine J.val (v := .string ⟨s322.toArray⟩) rfl rfl (V.mv rfl) ?_
          refine J.val (v := .string ⟨s322.toArray⟩) rfl rfl (V.as rfl) ?_
          refine J.val (v := .int .i64 0) rfl rfl (V.as rfl) ?_
          refine J.nil ?_
          refine CJ.ret ?_
          have e := Option.some.inj h
          subst e
          exact ⟨_, [], Res.two rfl rfl rfl, ⟨s322, 0, rfl, rfl, rfl⟩, (Hp.le_refl _), fun w hs => (Sep.dropAt 0 rfl hs)⟩
end Go.Proofs.Ytgeofnfjgjodgaa
