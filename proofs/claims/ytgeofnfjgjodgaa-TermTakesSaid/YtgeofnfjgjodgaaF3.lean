/- What Go functions answer: generated. -/
import Derived.Test.YtgeofnfjgjodgaaF2
namespace Go.Proofs.Ytgeofnfjgjodgaa
open Go.RowKit
set_option linter.unusedVariables false
set_option linter.unnecessarySimpa false
set_option linter.unusedSimpArgs false
set_option maxRecDepth 20000

noncomputable def fn_law19_TermTakes (xa : (List UInt8)) (xb : (Int × Int × Int × (List Int) × (List Int) × (List Int))) : Option Bool :=
  cond (decide (300 < (((xa.length : Nat) : Int)))) ((fn_law19_awake).bind fun t245 => some (t245)) ((fn_term_Take xa).bind fun (i251, i252, i253, l254, l255, l256, i257, i258) => (fn_ref19_Take xa).bind fun (i277, i278, i279, l280, l281, l282, i283, i284) => (fn_ref19_Same (i251, i252, i253, l254, l255, l256) (i277, i278, i279, l280, l281, l282)).bind fun t317 => (cond (((!t317) || (!decide (i257 = i283))) || (!decide (i258 = i284))) (some (true)) ((fn_term_Same (i251, i252, i253, l254, l255, l256) (i277, i278, i279, l280, l281, l282)).bind fun t369 => some (!t369))).bind fun t349 => cond (t349) (some (false)) ((fn_ref19_Plain (xb.1, xb.2.1, xb.2.2.1, xb.2.2.2.1, xb.2.2.2.2.1, xb.2.2.2.2.2)).bind fun t376 => cond (!t376) ((fn_law19_awake).bind fun t383 => some (t383)) ((fn_term_Put (xb.1, xb.2.1, xb.2.2.1, xb.2.2.2.1, xb.2.2.2.2.1, xb.2.2.2.2.2)).bind fun (s389, i390) => (fn_ref19_Put (xb.1, xb.2.1, xb.2.2.1, xb.2.2.2.1, xb.2.2.2.2.1, xb.2.2.2.2.2)).bind fun (s396, i397) => cond (decide (s389 = s396)) (cond (decide (i390 = i397)) ((fn_term_Same (xb.1, xb.2.1, xb.2.2.1, xb.2.2.2.1, xb.2.2.2.2.1, xb.2.2.2.2.2) (i251, i252, i253, l254, l255, l256)).bind fun t453 => (fn_ref19_Same (xb.1, xb.2.1, xb.2.2.1, xb.2.2.2.1, xb.2.2.2.2.1, xb.2.2.2.2.2) (i251, i252, i253, l254, l255, l256)).bind fun t468 => cond (t453 == t468) ((fn_law19_awake).bind fun t475 => some (t475)) (some (false))) (some (false))) (some (false)))))
set_option maxRecDepth 100000 in
set_option maxHeartbeats 4000000 in
theorem law19_TermTakes_ok {K : Hp} {xa : (List UInt8)} {xb : (Int × Int × Int × (List Int) × (List Int) × (List Int))} {adxb_3 : Option Addr} {cpxb_3 : Nat} {adxb_4 : Option Addr} {cpxb_4 : Nat} {adxb_5 : Option Addr} {cpxb_5 : Nat} (fxb_3 : Is K (.sl (.int .i64)) [.slice adxb_3 xb.2.2.2.1.length cpxb_3] xb.2.2.2.1) (fxb_4 : Is K (.sl (.int .i64)) [.slice adxb_4 xb.2.2.2.2.1.length cpxb_4] xb.2.2.2.2.1) (fxb_5 : Is K (.sl (.int .i64)) [.slice adxb_5 xb.2.2.2.2.2.length cpxb_5] xb.2.2.2.2.2) {r : Bool} (h : fn_law19_TermTakes xa xb = some r) :
    Tr Try.prog 4 #[.string ⟨xa.toArray⟩, .agg #[.int .i64 xb.1, .int .i64 xb.2.1, .int .i64 xb.2.2.1, .slice adxb_3 xb.2.2.2.1.length cpxb_3, .slice adxb_4 xb.2.2.2.2.1.length cpxb_4, .slice adxb_5 xb.2.2.2.2.2.length cpxb_5]] K [] (fun v K' L' => (∃ (t240 : Bool), t240 = r ∧ .bool t240 = v ∧ L' = []) ∧ K = K') := by
  refine Tr.k ?_
  refine Tr.of Try.func4 rfl Try.ntmps4 rfl (fun E F => ?_)
  unfold fn_law19_TermTakes at h
  refine CJ.seq ?_
  refine CJ.region ?_
  refine J.op rfl (A.box (v := .agg #[.int .i64 xb.1, .int .i64 xb.2.1, .int .i64 xb.2.2.1, .slice adxb_3 xb.2.2.2.1.length cpxb_3, .slice adxb_4 xb.2.2.2.2.1.length cpxb_4, .slice adxb_5 xb.2.2.2.2.2.length cpxb_5]) (cs := [.int .i64 xb.1, .int .i64 xb.2.1, .int .i64 xb.2.2.1, .slice adxb_3 xb.2.2.2.1.length cpxb_3, .slice adxb_4 xb.2.2.2.2.1.length cpxb_4, .slice adxb_5 xb.2.2.2.2.2.length cpxb_5]) rfl rfl) ?_
  rintro _ _ _ ⟨b241, rfl, rfl, rfl⟩
  refine J.val (v := .bool false) rfl rfl (V.as rfl) ?_
  refine J.nil ?_
  refine CJ.seq ?_
  refine CJ.seq ?_
  refine CJ.region ?_
  refine J.val (v := .string ⟨xa.toArray⟩) rfl rfl (V.mv rfl) ?_
  refine J.val (v := .int .i64 (((xa.length : Nat) : Int))) rfl rfl (V.lens Try.underlying9 rfl) ?_
  refine J.val (v := .bool (decide (300 < (((xa.length : Nat) : Int))))) rfl rfl (V.gtr rfl rfl) ?_
  refine J.nil ?_
  refine CJ.cond rfl (fun hc242 => ?_) (fun hc242 => ?_)
  · have h := ct hc242 h
    refine CJ.seq ?_
    refine CJ.region ?_
    obtain ⟨r243, hr244, h⟩ := ob h
    refine J.op rfl (A.call (L1 := []) Try.call7 rfl (law19_awake_ok hr244) rfl rfl) ?_
    rintro _ _ _ ⟨v246, _, rfl, ⟨⟨t245, rfl, rfl, rfl⟩, rfl⟩, _, rfl⟩
    refine J.val (v := .bool t245) rfl rfl (V.as rfl) ?_
    refine J.nil ?_
    refine CJ.ret ?_
    have e := Option.some.inj h
    subst e
    exact ⟨_, [], Res.one rfl rfl, ⟨t245, rfl, rfl, rfl⟩, (Hp.le_refl _), fun w hs => (Sep.dropAt 0 rfl hs)⟩
  · have h := cf hc242 h
    refine CJ.skip ?_
    refine CJ.seq ?_
    refine CJ.region ?_
    refine J.val (v := .string ⟨xa.toArray⟩) rfl rfl (V.mv rfl) ?_
    obtain ⟨r249, hr250, h⟩ := ob h
    refine J.op rfl (A.call (L1 := []) Try.call13 rfl (term_Take_ok hr250) rfl rfl) ?_
    rintro _ _ _ ⟨v268, _, rfl, ⟨⟨i251, i252, i253, l254, l255, l256, i257, i258, ad259, cp260, ad261, cp262, ad263, cp264, rfl, rfl, rfl⟩, rfl⟩, _, rfl⟩
    refine J.wit Row.hn (fun hn265 => ?_)
    refine J.front 1 rfl ?_
    refine J.wit Row.hn (fun hn266 => ?_)
    refine J.front 2 rfl ?_
    refine J.wit Row.hn (fun hn267 => ?_)
    refine J.val (v := .tuple #[.agg #[.int .i64 i251, .int .i64 i252, .int .i64 i253, .slice ad259 l254.length cp260, .slice ad261 l255.length cp262, .slice ad263 l256.length cp264], .int .i64 i257, .int .i64 i258]) rfl rfl (V.mv rfl) ?_
    refine J.val (v := .agg #[.int .i64 i251, .int .i64 i252, .int .i64 i253, .slice ad259 l254.length cp260, .slice ad261 l255.length cp262, .slice ad263 l256.length cp264]) rfl rfl (V.ext rfl rfl) ?_
    refine J.val (v := .int .i64 i257) rfl rfl (V.ext rfl rfl) ?_
    refine J.val (v := .int .i64 i258) rfl rfl (V.ext rfl rfl) ?_
    refine J.op rfl (A.alloc (cs := [.int .i64 0, .int .i64 0, .int .i64 0, .slice none 0 0, .slice none 0 0, .slice none 0 0]) inf24 rfl) ?_
    rintro _ _ _ ⟨b274, rfl, rfl, rfl⟩
    refine J.op rfl (A.store (v := .agg #[.int .i64 i251, .int .i64 i252, .int .i64 i253, .slice ad259 l254.length cp260, .slice ad261 l255.length cp262, .slice ad263 l256.length cp264]) (cs' := [.int .i64 i251, .int .i64 i252, .int .i64 i253, .slice ad259 l254.length cp260, .slice ad261 l255.length cp262, .slice ad263 l256.length cp264]) sz24 rfl rfl rfl rfl rfl rfl) ?_
    rintro _ _ _ ⟨rfl, rfl, rfl⟩
    refine J.val (v := .int .i64 i257) rfl rfl (V.as rfl) ?_
    refine J.val (v := .int .i64 i258) rfl rfl (V.as rfl) ?_
    refine J.nil ?_
    refine CJ.seq ?_
    refine CJ.region ?_
    refine J.val (v := .string ⟨xa.toArray⟩) rfl rfl (V.mv rfl) ?_
    obtain ⟨r275, hr276, h⟩ := ob h
    refine J.op rfl (A.call (L1 := []) Try.call14 rfl (ref19_Take_ok hr276) rfl rfl) ?_
    rintro _ K295 _ ⟨v294, _, rfl, ⟨i277, i278, i279, l280, l281, l282, i283, i284, ad285, cp286, ad287, cp288, ad289, cp290, rfl, rfl, f291, rfl⟩, hK296, rfl⟩
    refine J.wit Row.hn (fun hn292 => ?_)
    refine J.front 1 rfl ?_
    refine J.wit Row.hn (fun hn293 => ?_)
    refine J.val (v := .tuple #[.agg #[.int .i64 i277, .int .i64 i278, .int .i64 i279, .slice ad285 l280.length cp286, .slice ad287 l281.length cp288, .slice ad289 l282.length cp290], .int .i64 i283, .int .i64 i284]) rfl rfl (V.mv rfl) ?_
    refine J.val (v := .agg #[.int .i64 i277, .int .i64 i278, .int .i64 i279, .slice ad285 l280.length cp286, .slice ad287 l281.length cp288, .slice ad289 l282.length cp290]) rfl rfl (V.ext rfl rfl) ?_
    refine J.val (v := .int .i64 i283) rfl rfl (V.ext rfl rfl) ?_
    refine J.val (v := .int .i64 i284) rfl rfl (V.ext rfl rfl) ?_
    refine J.op rfl (A.alloc (cs := [.int .i64 0, .int .i64 0, .int .i64 0, .slice none 0 0, .slice none 0 0, .slice none 0 0]) inf24 rfl) ?_
    rintro _ _ _ ⟨b299, rfl, rfl, rfl⟩
    refine J.op rfl (A.store (v := .agg #[.int .i64 i277, .int .i64 i278, .int .i64 i279, .slice ad285 l280.length cp286, .slice ad287 l281.length cp288, .slice ad289 l282.length cp290]) (cs' := [.int .i64 i277, .int .i64 i278, .int .i64 i279, .slice ad285 l280.length cp286, .slice ad287 l281.length cp288, .slice ad289 l282.length cp290]) sz24 rfl rfl rfl rfl rfl rfl) ?_
    rintro _ _ _ ⟨rfl, rfl, rfl⟩
    refine J.val (v := .int .i64 i283) rfl rfl (V.as rfl) ?_
    refine J.val (v := .int .i64 i284) rfl rfl (V.as rfl) ?_
    refine J.nil ?_
    refine CJ.seq ?_
    refine CJ.seq ?_
    refine CJ.region ?_
    refine J.val (v := .agg #[.int .i64 i251, .int .i64 i252, .int .i64 i253, .slice ad259 l254.length cp260, .slice ad261 l255.length cp262, .slice ad263 l256.length cp264]) rfl rfl (V.ld rfl (Ld.agg (cs := [.int .i64 i251, .int .i64 i252, .int .i64 i253, .slice ad259 l254.length cp260, .slice ad261 l255.length cp262, .slice ad263 l256.length cp264]) Try.underlying24 sz24 rfl (Rd.cls 3 0 rfl rfl))) ?_
    refine J.val (v := .agg #[.int .i64 i277, .int .i64 i278, .int .i64 i279, .slice ad285 l280.length cp286, .slice ad287 l281.length cp288, .slice ad289 l282.length cp290]) rfl rfl (V.ld rfl (Ld.agg (cs := [.int .i64 i277, .int .i64 i278, .int .i64 i279, .slice ad285 l280.length cp286, .slice ad287 l281.length cp288, .slice ad289 l282.length cp290]) Try.underlying24 sz24 rfl (Rd.cls 0 0 rfl rfl))) ?_
    obtain ⟨r300, hr301, h⟩ := ob h
    refine J.front 1 rfl ?_
    refine J.front 2 rfl ?_
    refine J.front 4 rfl ?_
    refine J.front 5 rfl ?_
    refine J.front 6 rfl ?_
    refine J.op rfl (A.call (L1 := [Row Hp.nil 3 (.int .i64) (.slice ad259 l254.length cp260) l254, Row Hp.nil 3 (.int .i64) (.slice ad261 l255.length cp262) l255, Row Hp.nil 3 (.int .i64) (.slice ad263 l256.length cp264) l256, Row Hp.nil 3 (.int .i64) (.slice ad287 l281.length cp288) l281, Row Hp.nil 3 (.int .i64) (.slice ad289 l282.length cp290) l282]) Try.call15 rfl (Tr.lend (Hp.nil_le _) (by decide) (fun K302 hK303 f304 => Tr.lend (Hp.nil_le _) (by decide) (fun K305 hK306 f307 => Tr.lend (Hp.nil_le _) (by decide) (fun K308 hK309 f310 => Tr.lend (Hp.nil_le _) (by decide) (fun K311 hK312 f313 => Tr.lend (Hp.nil_le _) (by decide) (fun K314 hK315 f316 => ref19_Same_ok ((((f304.mono hK306).mono hK309).mono hK312).mono hK315) (((f307.mono hK309).mono hK312).mono hK315) ((f310.mono hK312).mono hK315) (((((f291.mono hK303).mono hK306).mono hK309).mono hK312).mono hK315) (f313.mono hK315) f316 hr301)))))) rfl rfl) ?_
    rintro _ _ _ ⟨v318, _, rfl, ⟨⟨_, ⟨_, ⟨_, ⟨_, ⟨_, ⟨t317, rfl, rfl, rfl⟩, rfl⟩, rfl⟩, rfl⟩, rfl⟩, rfl⟩, rfl⟩, _, rfl⟩
    refine J.val (v := .bool (!t317)) rfl rfl (V.not rfl) ?_
    refine J.val (v := .bool (!t317)) rfl rfl (V.mv rfl) ?_
    refine J.cut 4 ?_
    refine @J.meet _ _ _ _ _ _ _ _ _ _ (fun ρ K' L' => Fits [(39, .bool ((!t317) || (!decide (i257 = i283)))), (3, .pointer (some ⟨b241, 0, none⟩)), (5, .pointer (some ⟨b274, 0, none⟩)), (7, .int .i64 i258), (8, .pointer (some ⟨b299, 0, none⟩)), (10, .int .i64 i284)] ρ ∧ K295 = K' ∧ L' = Row Hp.nil 3 (.int .i64) (.slice ad259 l254.length cp260) l254 :: Row Hp.nil 3 (.int .i64) (.slice ad261 l255.length cp262) l255 :: Row Hp.nil 3 (.int .i64) (.slice ad263 l256.length cp264) l256 :: Row Hp.nil 3 (.int .i64) (.slice ad287 l281.length cp288) l281 :: Row Hp.nil 3 (.int .i64) (.slice ad289 l282.length cp290) l282 :: Cl b299 24 [.int .i64 i277, .int .i64 i278, .int .i64 i279, .slice ad285 l280.length cp286, .slice ad287 l281.length cp288, .slice ad289 l282.length cp290] :: Cl b274 24 [.int .i64 i251, .int .i64 i252, .int .i64 i253, .slice ad259 l254.length cp260, .slice ad261 l255.length cp262, .slice ad263 l256.length cp264] :: Cl b241 24 [.int .i64 xb.1, .int .i64 xb.2.1, .int .i64 xb.2.2.1, .slice adxb_3 xb.2.2.2.1.length cpxb_3, .slice adxb_4 xb.2.2.2.2.1.length cpxb_4, .slice adxb_5 xb.2.2.2.2.2.length cpxb_5] :: F) ?_ ?_
    · skip
      rcases bt (!t317) with hc323 | hc323
      · skip
        refine J.skip rfl rfl rfl rfl hc323 ?_
        refine J.skip rfl rfl rfl rfl hc323 ?_
        refine J.skip rfl rfl rfl rfl hc323 ?_
        refine J.val (v := .bool true) rfl rfl (V.pickT rfl hc323 rfl) ?_
        refine J.nil ?_
        exact ⟨rfl, ⟨(by simp only [hc323]; rfl), rfl, rfl, rfl, rfl, rfl, trivial⟩, rfl, rfl⟩
      · skip
        refine J.run rfl rfl rfl hc323 ?_
        refine J.val (v := .int .i64 i257) rfl rfl (V.mv rfl) ?_
        refine J.run rfl rfl rfl hc323 ?_
        refine J.val (v := .int .i64 i283) rfl rfl (V.mv rfl) ?_
        refine J.run rfl rfl rfl hc323 ?_
        refine J.val (v := .bool (!decide (i257 = i283))) rfl rfl (V.neq rfl rfl) ?_
        refine J.val (v := .bool (!decide (i257 = i283))) rfl rfl (V.pickF rfl hc323 rfl) ?_
        refine J.nil ?_
        exact ⟨rfl, ⟨(by simp only [hc323]; rfl), rfl, rfl, rfl, rfl, rfl, trivial⟩, rfl, rfl⟩
    · rintro ρ _ _ ⟨hf, rfl, rfl⟩
      obtain ⟨ρ, rfl⟩ := hf.ex
      refine J.val (v := .bool ((!t317) || (!decide (i257 = i283)))) rfl rfl (V.mv rfl) ?_
      refine J.cut 4 ?_
      refine @J.meet _ _ _ _ _ _ _ _ _ _ (fun ρ K' L' => Fits [(44, .bool (((!t317) || (!decide (i257 = i283))) || (!decide (i258 = i284)))), (3, .pointer (some ⟨b241, 0, none⟩)), (5, .pointer (some ⟨b274, 0, none⟩)), (8, .pointer (some ⟨b299, 0, none⟩))] ρ ∧ K295 = K' ∧ L' = Row Hp.nil 3 (.int .i64) (.slice ad259 l254.length cp260) l254 :: Row Hp.nil 3 (.int .i64) (.slice ad261 l255.length cp262) l255 :: Row Hp.nil 3 (.int .i64) (.slice ad263 l256.length cp264) l256 :: Row Hp.nil 3 (.int .i64) (.slice ad287 l281.length cp288) l281 :: Row Hp.nil 3 (.int .i64) (.slice ad289 l282.length cp290) l282 :: Cl b299 24 [.int .i64 i277, .int .i64 i278, .int .i64 i279, .slice ad285 l280.length cp286, .slice ad287 l281.length cp288, .slice ad289 l282.length cp290] :: Cl b274 24 [.int .i64 i251, .int .i64 i252, .int .i64 i253, .slice ad259 l254.length cp260, .slice ad261 l255.length cp262, .slice ad263 l256.length cp264] :: Cl b241 24 [.int .i64 xb.1, .int .i64 xb.2.1, .int .i64 xb.2.2.1, .slice adxb_3 xb.2.2.2.1.length cpxb_3, .slice adxb_4 xb.2.2.2.2.1.length cpxb_4, .slice adxb_5 xb.2.2.2.2.2.length cpxb_5] :: F) ?_ ?_
      · skip
        rcases bt ((!t317) || (!decide (i257 = i283))) with hc326 | hc326
        · skip
          refine J.skip rfl rfl rfl rfl hc326 ?_
          refine J.skip rfl rfl rfl rfl hc326 ?_
          refine J.skip rfl rfl rfl rfl hc326 ?_
          refine J.val (v := .bool true) rfl rfl (V.pickT rfl hc326 rfl) ?_
          refine J.nil ?_
          exact ⟨rfl, ⟨(by simp only [hc326]; rfl), rfl, rfl, rfl, trivial⟩, rfl, rfl⟩
        · skip
          refine J.run rfl rfl rfl hc326 ?_
          refine J.val (v := .int .i64 i258) rfl rfl (V.mv rfl) ?_
          refine J.run rfl rfl rfl hc326 ?_
          refine J.val (v := .int .i64 i284) rfl rfl (V.mv rfl) ?_
          refine J.run rfl rfl rfl hc326 ?_
          refine J.val (v := .bool (!decide (i258 = i284))) rfl rfl (V.neq rfl rfl) ?_
          refine J.val (v := .bool (!decide (i258 = i284))) rfl rfl (V.pickF rfl hc326 rfl) ?_
          refine J.nil ?_
          exact ⟨rfl, ⟨(by simp only [hc326]; rfl), rfl, rfl, rfl, trivial⟩, rfl, rfl⟩
      · rintro ρ _ _ ⟨hf, rfl, rfl⟩
        obtain ⟨ρ, rfl⟩ := hf.ex
        refine J.val (v := .bool (((!t317) || (!decide (i257 = i283))) || (!decide (i258 = i284)))) rfl rfl (V.mv rfl) ?_
        refine J.cut 5 ?_
        obtain ⟨t349, ht350, h⟩ := ob h
        refine @J.meet _ _ _ _ _ _ _ _ _ _ (fun ρ K' L' => Fits [(50, .bool t349), (3, .pointer (some ⟨b241, 0, none⟩)), (5, .pointer (some ⟨b274, 0, none⟩))] ρ ∧ K295 = K' ∧ L' = Row Hp.nil 3 (.int .i64) (.slice ad259 l254.length cp260) l254 :: Row Hp.nil 3 (.int .i64) (.slice ad261 l255.length cp262) l255 :: Row Hp.nil 3 (.int .i64) (.slice ad263 l256.length cp264) l256 :: Row Hp.nil 3 (.int .i64) (.slice ad287 l281.length cp288) l281 :: Row Hp.nil 3 (.int .i64) (.slice ad289 l282.length cp290) l282 :: Cl b299 24 [.int .i64 i277, .int .i64 i278, .int .i64 i279, .slice ad285 l280.length cp286, .slice ad287 l281.length cp288, .slice ad289 l282.length cp290] :: Cl b274 24 [.int .i64 i251, .int .i64 i252, .int .i64 i253, .slice ad259 l254.length cp260, .slice ad261 l255.length cp262, .slice ad263 l256.length cp264] :: Cl b241 24 [.int .i64 xb.1, .int .i64 xb.2.1, .int .i64 xb.2.2.1, .slice adxb_3 xb.2.2.2.1.length cpxb_3, .slice adxb_4 xb.2.2.2.2.1.length cpxb_4, .slice adxb_5 xb.2.2.2.2.2.length cpxb_5] :: F) ?_ ?_
        · skip
          rcases bt (((!t317) || (!decide (i257 = i283))) || (!decide (i258 = i284))) with hc351 | hc351
          · have ht350 := ct hc351 ht350
            refine J.skip rfl rfl rfl rfl hc351 ?_
            refine J.skip rfl rfl rfl rfl hc351 ?_
            refine J.skip rfl rfl rfl rfl hc351 ?_
            refine J.skip rfl rfl rfl rfl hc351 ?_
            refine J.val (v := .bool true) rfl rfl (V.pickT rfl hc351 rfl) ?_
            refine J.nil ?_
            have e := Option.some.inj ht350
            subst e
            exact ⟨rfl, ⟨rfl, rfl, rfl, trivial⟩, rfl, rfl⟩
          · have ht350 := cf hc351 ht350
            refine J.run rfl rfl rfl hc351 ?_
            refine J.val (v := .agg #[.int .i64 i251, .int .i64 i252, .int .i64 i253, .slice ad259 l254.length cp260, .slice ad261 l255.length cp262, .slice ad263 l256.length cp264]) rfl rfl (V.ld rfl (Ld.agg (cs := [.int .i64 i251, .int .i64 i252, .int .i64 i253, .slice ad259 l254.length cp260, .slice ad261 l255.length cp262, .slice ad263 l256.length cp264]) Try.underlying24 sz24 rfl (Rd.cls 6 0 rfl rfl))) ?_
            refine J.run rfl rfl rfl hc351 ?_
            refine J.val (v := .agg #[.int .i64 i277, .int .i64 i278, .int .i64 i279, .slice ad285 l280.length cp286, .slice ad287 l281.length cp288, .slice ad289 l282.length cp290]) rfl rfl (V.ld rfl (Ld.agg (cs := [.int .i64 i277, .int .i64 i278, .int .i64 i279, .slice ad285 l280.length cp286, .slice ad287 l281.length cp288, .slice ad289 l282.length cp290]) Try.underlying24 sz24 rfl (Rd.cls 5 0 rfl rfl))) ?_
            refine J.run rfl rfl rfl hc351 ?_
            obtain ⟨r352, hr353, ht350⟩ := ob ht350
            refine J.op rfl (A.call (L1 := [Row Hp.nil 3 (.int .i64) (.slice ad259 l254.length cp260) l254, Row Hp.nil 3 (.int .i64) (.slice ad261 l255.length cp262) l255, Row Hp.nil 3 (.int .i64) (.slice ad263 l256.length cp264) l256, Row Hp.nil 3 (.int .i64) (.slice ad287 l281.length cp288) l281, Row Hp.nil 3 (.int .i64) (.slice ad289 l282.length cp290) l282]) Try.call16 rfl (Tr.lend (Hp.nil_le _) (by decide) (fun K354 hK355 f356 => Tr.lend (Hp.nil_le _) (by decide) (fun K357 hK358 f359 => Tr.lend (Hp.nil_le _) (by decide) (fun K360 hK361 f362 => Tr.lend (Hp.nil_le _) (by decide) (fun K363 hK364 f365 => Tr.lend (Hp.nil_le _) (by decide) (fun K366 hK367 f368 => term_Same_ok ((((f356.mono hK358).mono hK361).mono hK364).mono hK367) (((f359.mono hK361).mono hK364).mono hK367) ((f362.mono hK364).mono hK367) (((((f291.mono hK355).mono hK358).mono hK361).mono hK364).mono hK367) (f365.mono hK367) f368 hr353)))))) rfl rfl) ?_
            rintro _ _ _ ⟨v370, _, rfl, ⟨⟨_, ⟨_, ⟨_, ⟨_, ⟨_, ⟨t369, rfl, rfl, rfl⟩, rfl⟩, rfl⟩, rfl⟩, rfl⟩, rfl⟩, rfl⟩, _, rfl⟩
            refine J.run rfl rfl rfl hc351 ?_
            refine J.val (v := .bool (!t369)) rfl rfl (V.not rfl) ?_
            refine J.val (v := .bool (!t369)) rfl rfl (V.pickF rfl hc351 rfl) ?_
            refine J.nil ?_
            have e := Option.some.inj ht350
            subst e
            exact ⟨rfl, ⟨rfl, rfl, rfl, trivial⟩, rfl, rfl⟩
        · rintro ρ _ _ ⟨hf, rfl, rfl⟩
          obtain ⟨ρ, rfl⟩ := hf.ex
          refine J.nil ?_
          refine CJ.cond rfl (fun hc373 => ?_) (fun hc373 => ?_)
          · have h := ct hc373 h
            refine CJ.seq ?_
            refine CJ.region ?_
            refine J.val (v := .bool false) rfl rfl (V.as rfl) ?_
            refine J.nil ?_
            refine CJ.ret ?_
            have e := Option.some.inj h
            subst e
            exact ⟨_, [], Res.one rfl rfl, ⟨false, rfl, rfl, rfl⟩, hK296, fun w hs => (Sep.dropAt 0 rfl (Sep.dropAt 0 rfl (Sep.dropAt 0 rfl (Sep.dropAt 0 rfl (Sep.dropAt 0 rfl (Sep.dropAt 0 rfl (Sep.dropAt 0 rfl (Sep.dropAt 0 rfl hs))))))))⟩
          · have h := cf hc373 h
            refine CJ.skip ?_
            refine CJ.seq ?_
            refine CJ.seq ?_
            refine CJ.region ?_
            refine J.val (v := .agg #[.int .i64 xb.1, .int .i64 xb.2.1, .int .i64 xb.2.2.1, .slice adxb_3 xb.2.2.2.1.length cpxb_3, .slice adxb_4 xb.2.2.2.2.1.length cpxb_4, .slice adxb_5 xb.2.2.2.2.2.length cpxb_5]) rfl rfl (V.ld rfl (Ld.agg (cs := [.int .i64 xb.1, .int .i64 xb.2.1, .int .i64 xb.2.2.1, .slice adxb_3 xb.2.2.2.1.length cpxb_3, .slice adxb_4 xb.2.2.2.2.1.length cpxb_4, .slice adxb_5 xb.2.2.2.2.2.length cpxb_5]) Try.underlying24 sz24 rfl (Rd.cls 7 0 rfl rfl))) ?_
            obtain ⟨r374, hr375, h⟩ := ob h
            refine J.op rfl (A.call (L1 := []) Try.call17 rfl (ref19_Plain_ok (fxb_3.mono hK296) (fxb_4.mono hK296) (fxb_5.mono hK296) hr375) rfl rfl) ?_
            rintro _ _ _ ⟨v377, _, rfl, ⟨⟨t376, rfl, rfl, rfl⟩, rfl⟩, _, rfl⟩
            refine J.val (v := .bool (!t376)) rfl rfl (V.not rfl) ?_
            refine J.nil ?_
            refine CJ.cond rfl (fun hc380 => ?_) (fun hc380 => ?_)
            · have h := ct hc380 h
              refine CJ.seq ?_
              refine CJ.region ?_
              obtain ⟨r381, hr382, h⟩ := ob h
              refine J.op rfl (A.call (L1 := []) Try.call7 rfl (law19_awake_ok hr382) rfl rfl) ?_
              rintro _ _ _ ⟨v384, _, rfl, ⟨⟨t383, rfl, rfl, rfl⟩, rfl⟩, _, rfl⟩
              refine J.val (v := .bool t383) rfl rfl (V.as rfl) ?_
              refine J.nil ?_
              refine CJ.ret ?_
              have e := Option.some.inj h
              subst e
              exact ⟨_, [], Res.one rfl rfl, ⟨t383, rfl, rfl, rfl⟩, hK296, fun w hs => (Sep.dropAt 0 rfl (Sep.dropAt 0 rfl (Sep.dropAt 0 rfl (Sep.dropAt 0 rfl (Sep.dropAt 0 rfl (Sep.dropAt 0 rfl (Sep.dropAt 0 rfl (Sep.dropAt 0 rfl hs))))))))⟩
            · have h := cf hc380 h
              refine CJ.skip ?_
              refine CJ.seq ?_
              refine CJ.region ?_
              refine J.val (v := .agg #[.int .i64 xb.1, .int .i64 xb.2.1, .int .i64 xb.2.2.1, .slice adxb_3 xb.2.2.2.1.length cpxb_3, .slice adxb_4 xb.2.2.2.2.1.length cpxb_4, .slice adxb_5 xb.2.2.2.2.2.length cpxb_5]) rfl rfl (V.ld rfl (Ld.agg (cs := [.int .i64 xb.1, .int .i64 xb.2.1, .int .i64 xb.2.2.1, .slice adxb_3 xb.2.2.2.1.length cpxb_3, .slice adxb_4 xb.2.2.2.2.1.length cpxb_4, .slice adxb_5 xb.2.2.2.2.2.length cpxb_5]) Try.underlying24 sz24 rfl (Rd.cls 7 0 rfl rfl))) ?_
              obtain ⟨r387, hr388, h⟩ := ob h
              refine J.op rfl (A.call (L1 := []) Try.call18 rfl (term_Put_ok (fxb_3.mono hK296) (fxb_4.mono hK296) (fxb_5.mono hK296) hr388) rfl rfl) ?_
              rintro _ _ _ ⟨v391, _, rfl, ⟨⟨s389, i390, rfl, rfl, rfl⟩, rfl⟩, _, rfl⟩
              refine J.val (v := .tuple #[.string ⟨s389.toArray⟩, .int .i64 i390]) rfl rfl (V.mv rfl) ?_
              refine J.val (v := .string ⟨s389.toArray⟩) rfl rfl (V.ext rfl rfl) ?_
              refine J.val (v := .int .i64 i390) rfl rfl (V.ext rfl rfl) ?_
              refine J.val (v := .string ⟨s389.toArray⟩) rfl rfl (V.as rfl) ?_
              refine J.val (v := .int .i64 i390) rfl rfl (V.as rfl) ?_
              refine J.nil ?_
              refine CJ.seq ?_
              refine CJ.region ?_
              refine J.val (v := .agg #[.int .i64 xb.1, .int .i64 xb.2.1, .int .i64 xb.2.2.1, .slice adxb_3 xb.2.2.2.1.length cpxb_3, .slice adxb_4 xb.2.2.2.2.1.length cpxb_4, .slice adxb_5 xb.2.2.2.2.2.length cpxb_5]) rfl rfl (V.ld rfl (Ld.agg (cs := [.int .i64 xb.1, .int .i64 xb.2.1, .int .i64 xb.2.2.1, .slice adxb_3 xb.2.2.2.1.length cpxb_3, .slice adxb_4 xb.2.2.2.2.1.length cpxb_4, .slice adxb_5 xb.2.2.2.2.2.length cpxb_5]) Try.underlying24 sz24 rfl (Rd.cls 7 0 rfl rfl))) ?_
              obtain ⟨r394, hr395, h⟩ := ob h
              refine J.op rfl (A.call (L1 := []) Try.call19 rfl (ref19_Put_ok (fxb_3.mono hK296) (fxb_4.mono hK296) (fxb_5.mono hK296) hr395) rfl rfl) ?_
              rintro _ _ _ ⟨v398, _, rfl, ⟨⟨s396, i397, rfl, rfl, rfl⟩, rfl⟩, _, rfl⟩
              refine J.val (v := .tuple #[.string ⟨s396.toArray⟩, .int .i64 i397]) rfl rfl (V.mv rfl) ?_
              refine J.val (v := .string ⟨s396.toArray⟩) rfl rfl (V.ext rfl rfl) ?_
              refine J.val (v := .int .i64 i397) rfl rfl (V.ext rfl rfl) ?_
              refine J.val (v := .string ⟨s396.toArray⟩) rfl rfl (V.as rfl) ?_
              refine J.val (v := .int .i64 i397) rfl rfl (V.as rfl) ?_
              refine J.nil ?_
              refine CJ.seq ?_
              refine CJ.mix [Row Hp.nil 3 (.int .i64) (.slice ad259 l254.length cp260) l254, Row Hp.nil 3 (.int .i64) (.slice ad261 l255.length cp262) l255, Row Hp.nil 3 (.int .i64) (.slice ad263 l256.length cp264) l256, Row Hp.nil 3 (.int .i64) (.slice ad287 l281.length cp288) l281, Row Hp.nil 3 (.int .i64) (.slice ad289 l282.length cp290) l282, Cl b299 24 [.int .i64 i277, .int .i64 i278, .int .i64 i279, .slice ad285 l280.length cp286, .slice ad287 l281.length cp288, .slice ad289 l282.length cp290], Cl b274 24 [.int .i64 i251, .int .i64 i252, .int .i64 i253, .slice ad259 l254.length cp260, .slice ad261 l255.length cp262, .slice ad263 l256.length cp264], Cl b241 24 [.int .i64 xb.1, .int .i64 xb.2.1, .int .i64 xb.2.2.1, .slice adxb_3 xb.2.2.2.1.length cpxb_3, .slice adxb_4 xb.2.2.2.2.1.length cpxb_4, .slice adxb_5 xb.2.2.2.2.2.length cpxb_5]] [([0, 1, 2, 3, 4, 5, 6, 7, 8, 9, 10, 12, 13], 11), ([], 14), ([15, 16, 17], 18)] [19, 20] [] mixO (by decide +kernel) ⟨0, rfl, 0, rfl, 0, rfl, 0, rfl, 0, rfl, 0, rfl, 0, rfl, 0, rfl, trivial⟩ rfl rfl rfl ?_
              refine JM.cons ?_
              refine JQ.val (v := .string ⟨s389.toArray⟩) rfl rfl (V.mv rfl) ?_
              refine JQ.val (v := .string ⟨s396.toArray⟩) rfl rfl (V.mv rfl) ?_
              refine JQ.val (v := .bool (decide (s389 = s396))) rfl rfl (V.eqs rfl rfl) ?_
              refine JQ.val (v := .bool (decide (s389 = s396))) rfl rfl (V.mv rfl) ?_
              rcases bt (decide (s389 = s396)) with hc440 | hc440
              · have h := ct hc440 h
                refine JQ.run rfl rfl rfl hc440 ?_
                refine JQ.val (v := .int .i64 i390) rfl rfl (V.mv rfl) ?_
                refine JQ.run rfl rfl rfl hc440 ?_
                refine JQ.val (v := .int .i64 i397) rfl rfl (V.mv rfl) ?_
                refine JQ.run rfl rfl rfl hc440 ?_
                refine JQ.val (v := .bool (decide (i390 = i397))) rfl rfl (V.eql rfl rfl) ?_
                refine JQ.val (v := .bool (decide (i390 = i397))) rfl rfl (V.pickT rfl hc440 rfl) ?_
                refine JQ.val (v := .bool (decide (i390 = i397))) rfl rfl (V.mv rfl) ?_
                rcases bt (decide (i390 = i397)) with hc441 | hc441
                · have h := ct hc441 h
                  refine JQ.run rfl rfl rfl hc441 ?_
                  refine JQ.val (v := .agg #[.int .i64 xb.1, .int .i64 xb.2.1, .int .i64 xb.2.2.1, .slice adxb_3 xb.2.2.2.1.length cpxb_3, .slice adxb_4 xb.2.2.2.2.1.length cpxb_4, .slice adxb_5 xb.2.2.2.2.2.length cpxb_5]) rfl rfl (V.ld rfl (Ld.agg (cs := [.int .i64 xb.1, .int .i64 xb.2.1, .int .i64 xb.2.2.1, .slice adxb_3 xb.2.2.2.1.length cpxb_3, .slice adxb_4 xb.2.2.2.2.1.length cpxb_4, .slice adxb_5 xb.2.2.2.2.2.length cpxb_5]) Try.underlying24 sz24 rfl (Rd.cls 7 0 rfl rfl))) ?_
                  refine JQ.run rfl rfl rfl hc441 ?_
                  refine JQ.val (v := .agg #[.int .i64 i251, .int .i64 i252, .int .i64 i253, .slice ad259 l254.length cp260, .slice ad261 l255.length cp262, .slice ad263 l256.length cp264]) rfl rfl (V.ld rfl (Ld.agg (cs := [.int .i64 i251, .int .i64 i252, .int .i64 i253, .slice ad259 l254.length cp260, .slice ad261 l255.length cp262, .slice ad263 l256.length cp264]) Try.underlying24 sz24 rfl (Rd.cls 6 0 rfl rfl))) ?_
                  refine JQ.run rfl rfl rfl hc441 ?_
                  refine JQ.val (v := .agg #[.int .i64 xb.1, .int .i64 xb.2.1, .int .i64 xb.2.2.1, .slice adxb_3 xb.2.2.2.1.length cpxb_3, .slice adxb_4 xb.2.2.2.2.1.length cpxb_4, .slice adxb_5 xb.2.2.2.2.2.length cpxb_5]) rfl rfl (V.ld rfl (Ld.agg (cs := [.int .i64 xb.1, .int .i64 xb.2.1, .int .i64 xb.2.2.1, .slice adxb_3 xb.2.2.2.1.length cpxb_3, .slice adxb_4 xb.2.2.2.2.1.length cpxb_4, .slice adxb_5 xb.2.2.2.2.2.length cpxb_5]) Try.underlying24 sz24 rfl (Rd.cls 7 0 rfl rfl))) ?_
                  refine JQ.run rfl rfl rfl hc441 ?_
                  refine JQ.val (v := .agg #[.int .i64 i251, .int .i64 i252, .int .i64 i253, .slice ad259 l254.length cp260, .slice ad261 l255.length cp262, .slice ad263 l256.length cp264]) rfl rfl (V.ld rfl (Ld.agg (cs := [.int .i64 i251, .int .i64 i252, .int .i64 i253, .slice ad259 l254.length cp260, .slice ad261 l255.length cp262, .slice ad263 l256.length cp264]) Try.underlying24 sz24 rfl (Rd.cls 6 0 rfl rfl))) ?_
                  refine JQ.nil ?_
                  refine JA.run rfl rfl rfl hc441 ?_
                  obtain ⟨r442, hr443, h⟩ := ob h
                  refine JA.op rfl (A.call (L1 := [Row Hp.nil 3 (.int .i64) (.slice ad259 l254.length cp260) l254, Row Hp.nil 3 (.int .i64) (.slice ad261 l255.length cp262) l255, Row Hp.nil 3 (.int .i64) (.slice ad263 l256.length cp264) l256]) Try.call16 rfl (Tr.lend (Hp.nil_le _) (by decide) (fun K444 hK445 f446 => Tr.lend (Hp.nil_le _) (by decide) (fun K447 hK448 f449 => Tr.lend (Hp.nil_le _) (by decide) (fun K450 hK451 f452 => term_Same_ok ((((fxb_3.mono hK296).mono hK445).mono hK448).mono hK451) ((((fxb_4.mono hK296).mono hK445).mono hK448).mono hK451) ((((fxb_5.mono hK296).mono hK445).mono hK448).mono hK451) ((f446.mono hK448).mono hK451) (f449.mono hK451) f452 hr443)))) rfl rfl) ?_
                  rintro _ _ _ ⟨v454, _, rfl, ⟨⟨_, ⟨_, ⟨_, ⟨t453, rfl, rfl, rfl⟩, rfl⟩, rfl⟩, rfl⟩, rfl⟩, _, rfl⟩
                  refine ⟨fun w hs => Hold.sub (Hp.le_refl _) ⟨0, rfl, 0, rfl, 0, rfl, 0, rfl, 0, rfl, 0, rfl, 0, rfl, 0, rfl, trivial⟩ hs, ?_⟩
                  refine JM.cons ?_
                  refine JQ.nil ?_
                  refine JA.run rfl rfl rfl hc441 ?_
                  obtain ⟨r457, hr458, h⟩ := ob h
                  refine JA.op rfl (A.call (L1 := [Row Hp.nil 3 (.int .i64) (.slice ad259 l254.length cp260) l254, Row Hp.nil 3 (.int .i64) (.slice ad261 l255.length cp262) l255, Row Hp.nil 3 (.int .i64) (.slice ad263 l256.length cp264) l256]) Try.call15 rfl (Tr.lend (Hp.nil_le _) (by decide) (fun K459 hK460 f461 => Tr.lend (Hp.nil_le _) (by decide) (fun K462 hK463 f464 => Tr.lend (Hp.nil_le _) (by decide) (fun K465 hK466 f467 => ref19_Same_ok ((((fxb_3.mono hK296).mono hK460).mono hK463).mono hK466) ((((fxb_4.mono hK296).mono hK460).mono hK463).mono hK466) ((((fxb_5.mono hK296).mono hK460).mono hK463).mono hK466) ((f461.mono hK463).mono hK466) (f464.mono hK466) f467 hr458)))) rfl rfl) ?_
                  rintro _ _ _ ⟨v469, _, rfl, ⟨⟨_, ⟨_, ⟨_, ⟨t468, rfl, rfl, rfl⟩, rfl⟩, rfl⟩, rfl⟩, rfl⟩, _, rfl⟩
                  refine ⟨fun w hs => Hold.sub (Hp.le_refl _) ⟨0, rfl, 0, rfl, 0, rfl, 0, rfl, 0, rfl, 0, rfl, 0, rfl, 0, rfl, trivial⟩ hs, ?_⟩
                  refine JM.cons ?_
                  refine JQ.run rfl rfl rfl hc441 ?_
                  refine JQ.val (v := .bool (t453 == t468)) rfl rfl (V.eqb Try.underlying4 rfl rfl) ?_
                  refine JQ.val (v := .bool (t453 == t468)) rfl rfl (V.pickT rfl hc441 rfl) ?_
                  refine JQ.val (v := .bool (t453 == t468)) rfl rfl (V.mv rfl) ?_
                  refine JQ.nil ?_
                  rcases bt (t453 == t468) with hc472 | hc472
                  · have h := ct hc472 h
                    refine JA.run rfl rfl rfl hc472 ?_
                    obtain ⟨r473, hr474, h⟩ := ob h
                    refine JA.op rfl (A.call (L1 := []) Try.call7 rfl (law19_awake_ok hr474) rfl rfl) ?_
                    rintro _ _ _ ⟨v476, _, rfl, ⟨⟨t475, rfl, rfl, rfl⟩, rfl⟩, _, rfl⟩
                    refine ⟨fun w hs => Hold.sub (Hp.le_refl _) ⟨0, rfl, 0, rfl, 0, rfl, 0, rfl, 0, rfl, 0, rfl, 0, rfl, 0, rfl, trivial⟩ hs, ?_⟩
                    refine JM.nil ?_
                    refine JQ.val (v := .bool t475) rfl rfl (V.pickT rfl hc472 rfl) ?_
                    refine JQ.val (v := .bool t475) rfl rfl (V.as rfl) ?_
                    refine JQ.nil ?_
                    refine J.nil ?_
                    refine CJ.ret ?_
                    have e := Option.some.inj h
                    subst e
                    exact ⟨_, [], Res.one rfl rfl, ⟨t475, rfl, rfl, rfl⟩, hK296, fun w hs => (Sep.dropAt 0 rfl (Sep.dropAt 0 rfl (Sep.dropAt 0 rfl (Sep.dropAt 0 rfl (Sep.dropAt 0 rfl (Sep.dropAt 0 rfl (Sep.dropAt 0 rfl (Sep.dropAt 0 rfl hs))))))))⟩
                  · have h := cf hc472 h
                    refine JA.skip rfl rfl rfl rfl hc472 ?_
                    refine JM.nil ?_
                    refine JQ.val (v := .bool false) rfl rfl (V.pickF rfl hc472 rfl) ?_
                    refine JQ.val (v := .bool false) rfl rfl (V.as rfl) ?_
                    refine JQ.nil ?_
                    refine J.nil ?_
                    refine CJ.ret ?_
                    have e := Option.some.inj h
                    subst e
                    exact ⟨_, [], Res.one rfl rfl, ⟨false, rfl, rfl, rfl⟩, hK296, fun w hs => (Sep.dropAt 0 rfl (Sep.dropAt 0 rfl (Sep.dropAt 0 rfl (Sep.dropAt 0 rfl (Sep.dropAt 0 rfl (Sep.dropAt 0 rfl (Sep.dropAt 0 rfl (Sep.dropAt 0 rfl hs))))))))⟩
                · have h := cf hc441 h
                  refine JQ.skip rfl rfl rfl rfl hc441 ?_
                  refine JQ.skip rfl rfl rfl rfl hc441 ?_
                  refine JQ.skip rfl rfl rfl rfl hc441 ?_
                  refine JQ.skip rfl rfl rfl rfl hc441 ?_
                  refine JQ.nil ?_
                  refine JA.skip rfl rfl rfl rfl hc441 ?_
                  refine JM.cons ?_
                  refine JQ.nil ?_
                  refine JA.skip rfl rfl rfl rfl hc441 ?_
                  refine JM.cons ?_
                  refine JQ.skip rfl rfl rfl rfl hc441 ?_
                  refine JQ.val (v := .bool false) rfl rfl (V.pickF rfl hc441 rfl) ?_
                  refine JQ.val (v := .bool false) rfl rfl (V.mv rfl) ?_
                  refine JQ.nil ?_
                  refine JA.skip rfl rfl rfl rfl rfl ?_
                  refine JM.nil ?_
                  refine JQ.val (v := .bool false) rfl rfl (V.pickF rfl rfl rfl) ?_
                  refine JQ.val (v := .bool false) rfl rfl (V.as rfl) ?_
                  refine JQ.nil ?_
                  refine J.nil ?_
                  refine CJ.ret ?_
                  have e := Option.some.inj h
                  subst e
                  exact ⟨_, [], Res.one rfl rfl, ⟨false, rfl, rfl, rfl⟩, hK296, fun w hs => (Sep.dropAt 0 rfl (Sep.dropAt 0 rfl (Sep.dropAt 0 rfl (Sep.dropAt 0 rfl (Sep.dropAt 0 rfl (Sep.dropAt 0 rfl (Sep.dropAt 0 rfl (Sep.dropAt 0 rfl hs))))))))⟩
              · have h := cf hc440 h
                refine JQ.skip rfl rfl rfl rfl hc440 ?_
                refine JQ.skip rfl rfl rfl rfl hc440 ?_
                refine JQ.skip rfl rfl rfl rfl hc440 ?_
                refine JQ.val (v := .bool false) rfl rfl (V.pickF rfl hc440 rfl) ?_
                refine JQ.val (v := .bool false) rfl rfl (V.mv rfl) ?_
                refine JQ.skip rfl rfl rfl rfl rfl ?_
                refine JQ.skip rfl rfl rfl rfl rfl ?_
                refine JQ.skip rfl rfl rfl rfl rfl ?_
                refine JQ.skip rfl rfl rfl rfl rfl ?_
                refine JQ.nil ?_
                refine JA.skip rfl rfl rfl rfl rfl ?_
                refine JM.cons ?_
                refine JQ.nil ?_
                refine JA.skip rfl rfl rfl rfl rfl ?_
                refine JM.cons ?_
                refine JQ.skip rfl rfl rfl rfl rfl ?_
                refine JQ.val (v := .bool false) rfl rfl (V.pickF rfl rfl rfl) ?_
                refine JQ.val (v := .bool false) rfl rfl (V.mv rfl) ?_
                refine JQ.nil ?_
                refine JA.skip rfl rfl rfl rfl rfl ?_
                refine JM.nil ?_
                refine JQ.val (v := .bool false) rfl rfl (V.pickF rfl rfl rfl) ?_
                refine JQ.val (v := .bool false) rfl rfl (V.as rfl) ?_
                refine JQ.nil ?_
                refine J.nil ?_
                refine CJ.ret ?_
                have e := Option.some.inj h
                subst e
                exact ⟨_, [], Res.one rfl rfl, ⟨false, rfl, rfl, rfl⟩, hK296, fun w hs => (Sep.dropAt 0 rfl (Sep.dropAt 0 rfl (Sep.dropAt 0 rfl (Sep.dropAt 0 rfl (Sep.dropAt 0 rfl (Sep.dropAt 0 rfl (Sep.dropAt 0 rfl (Sep.dropAt 0 rfl hs))))))))⟩
end Go.Proofs.Ytgeofnfjgjodgaa
