/- What Go functions answer: generated. -/
import Derived.Test.YtpoihacaljbaeaaOy
import Derived.Test.YtpoihacaljbaeaaRows
import Derived.Test.YtpoihacaljbaeaaSrt
namespace Go.Proofs.Ytpoihacaljbaeaa
open Go.RowKit
set_option linter.unusedVariables false
theorem sz24 : (Try.prog.info? 24).map (·.size) = some 1 := by kernel_rfl
theorem nz22 : Try.prog.cellsOf 22 ≠ 0 := by decide +kernel
theorem sc22 : scalar Try.prog 22 = true := by kernel_rfl
theorem inf42 : Inf Try.prog 42 (.agg #[.int .i64 0, .bool false]) 2 16 := by unfold Inf; kernel_rfl
theorem places42 : Places Try.prog 42 [(0, 1), (1, 1)] := ⟨_, Try.underlying42, by kernel_rfl⟩
theorem inf24 : Inf Try.prog 24 (.agg #[.slice none 0 0]) 1 24 := by unfold Inf; kernel_rfl
theorem places24 : Places Try.prog 24 [(0, 1)] := ⟨_, Try.underlying24, by kernel_rfl⟩
theorem sz42 : (Try.prog.info? 42).map (·.size) = some 2 := by kernel_rfl
theorem nz3 : Try.prog.cellsOf 3 ≠ 0 := by decide +kernel
theorem sc3 : scalar Try.prog 3 = true := by kernel_rfl
theorem nz4 : Try.prog.cellsOf 4 ≠ 0 := by decide +kernel
theorem sc4 : scalar Try.prog 4 = true := by kernel_rfl
theorem mixO : Try.prog.follows .mixedOrders = true := by kernel_rfl
theorem sih42 : Try.prog.stoodInHeld 42 = false := by kernel_rfl
theorem eqg42 : Try.prog.eqGuardType Try.prog.depth 42 = false := by kernel_rfl
theorem inf3 : Inf Try.prog 3 (.int .i64 0) 1 8 := by unfold Inf; kernel_rfl
theorem sz3 : (Try.prog.info? 3).map (·.size) = some 1 := by kernel_rfl
theorem sz4 : (Try.prog.info? 4).map (·.size) = some 1 := by kernel_rfl
noncomputable def fn_ref15_Few (xa : (List (Int × Bool))) (xb : Int) : Option Bool :=
  some (decide ((((xa.length : Nat) : Int)) ≤ xb))
set_option maxRecDepth 100000 in
set_option maxHeartbeats 4000000 in
theorem ref15_Few_ok {K : Hp} {xa : (List (Int × Bool))} {xb : Int} {adxa_0 : Option Addr} {cpxa_0 : Nat} (fxa_0 : Is K (.sl (.cons (.int .i64) (.one .bool))) [.slice adxa_0 xa.length cpxa_0] xa) {r : Bool} (h : fn_ref15_Few xa xb = some r) :
    Tr Try.prog 6 #[.agg #[.slice adxa_0 xa.length cpxa_0], .int .i64 xb] K [] (fun v K' L' => (∃ (t2 : Bool), t2 = r ∧ v = .bool t2 ∧ L' = []) ∧ K = K') := by
  refine Tr.k ?_
  refine Tr.of Try.func6 rfl Try.ntmps6 rfl (fun E F => ?_)
  unfold fn_ref15_Few at h
  refine CJ.seq ?_
  refine CJ.region ?_
  refine J.op rfl (A.box (v := .agg #[.slice adxa_0 xa.length cpxa_0]) (cs := [.slice adxa_0 xa.length cpxa_0]) rfl rfl) ?_
  rintro _ _ _ ⟨b3, rfl, rfl, rfl⟩
  refine J.val (v := .bool false) rfl rfl (V.as rfl) ?_
  refine J.nil ?_
  refine CJ.seq ?_
  refine CJ.region ?_
  refine J.val rfl rfl (V.fad Try.underlying24 rfl nz22 rfl) ?_
  refine J.val (v := .slice adxa_0 xa.length cpxa_0) rfl rfl (V.ld rfl (Ld.sc sc22 (Rd.cl 0 rfl rfl))) ?_
  refine J.val (v := .int .i64 (((xa.length : Nat) : Int))) rfl rfl (V.len Try.underlying22 rfl) ?_
  refine J.val (v := .int .i64 xb) rfl rfl (V.mv rfl) ?_
  refine J.val (v := .bool (decide ((((xa.length : Nat) : Int)) ≤ xb))) rfl rfl (V.leq rfl rfl) ?_
  refine J.val (v := .bool (decide ((((xa.length : Nat) : Int)) ≤ xb))) rfl rfl (V.as rfl) ?_
  refine J.nil ?_
  refine CJ.ret ?_
  have e := Option.some.inj h
  subst e
  exact ⟨_, [], Res.one rfl rfl, ⟨decide ((((xa.length : Nat) : Int)) ≤ xb), rfl, rfl, rfl⟩, (Hp.le_refl _), fun w hs => (Sep.dropAt 0 rfl hs)⟩
noncomputable def fn_row_Ref (xa : (List (Int × Bool))) (xb : Int) (xc : Bool) : Option ((List (Int × Bool))) :=
  (loop (fun ((l354, i359) : ((List (Int × Bool)) × Int)) => (cond (decide (i359 < (((xa.length : Nat) : Int)))) ((getI xa i359).bind fun x394 => (app l354 (([(x394.1, x394.2 || xc)] : List (Int × Bool)))).bind fun z410 => some (.inl ((z410, IntKind.wrap .i64 (i359 + 1))))) (some (.inr (l354))) : Option (((List (Int × Bool)) × Int) ⊕ (List (Int × Bool))))) ((([(xb, false)] : List (Int × Bool)), 0))).bind fun l313 => some (l313)
set_option maxRecDepth 100000 in
set_option maxHeartbeats 4000000 in
theorem row_Ref_ok {K : Hp} {xa : (List (Int × Bool))} {xb : Int} {xc : Bool} {adxa_0 : Option Addr} {cpxa_0 : Nat} (fxa_0 : Is K (.sl (.cons (.int .i64) (.one .bool))) [.slice adxa_0 xa.length cpxa_0] xa) {r : (List (Int × Bool))} (h : fn_row_Ref xa xb xc = some r) :
    Tr Try.prog 24 #[.agg #[.slice adxa_0 xa.length cpxa_0], .int .i64 xb, .bool xc] K [] (fun v K' L' => (∃ (l207 : (List (Int × Bool))) (ad208 : Option Addr) (cp209 : Nat), l207 = r ∧ v = .agg #[.slice ad208 l207.length cp209] ∧ L' = [Row Hp.nil 42 (.cons (.int .i64) (.one .bool)) (.slice ad208 l207.length cp209) l207]) ∧ K = K') := by
  refine Tr.k ?_
  refine Tr.of Try.func24 rfl Try.ntmps24 rfl (fun E F => ?_)
  unfold fn_row_Ref at h
  refine CJ.seq ?_
  refine CJ.region ?_
  refine J.op rfl (A.box (v := .agg #[.slice adxa_0 xa.length cpxa_0]) (cs := [.slice adxa_0 xa.length cpxa_0]) rfl rfl) ?_
  rintro _ _ _ ⟨b212, rfl, rfl, rfl⟩
  refine J.op rfl (A.alloc (cs := [.slice none 0 0]) inf24 rfl) ?_
  rintro _ _ _ ⟨b213, rfl, rfl, rfl⟩
  refine J.nil ?_
  refine CJ.seq ?_
  refine CJ.region ?_
  refine J.val (v := .int .i64 xb) rfl rfl (V.mv rfl) ?_
  refine J.val (v := .agg #[.int .i64 xb, .bool false]) rfl rfl (V.build inf42 places42 rfl rfl) ?_
  refine J.op rfl (A.lit (K0 := Hp.nil) (ty := (.cons (.int .i64) (.one .bool))) (xs := ([(xb, false)] : List (Int × Bool))) Try.underlying22 inf42 rfl (by decide) rfl rfl rfl ⟨_, _, rfl, ⟨_, _, rfl, rfl, rfl, rfl⟩, rfl⟩ rfl (by decide)) ?_
  rintro _ _ _ ⟨b214, rfl, rfl, rfl⟩
  have hn215 : ([(xb, false)] : List (Int × Bool)) ≠ [] → ∃ g, (some ⟨b214, 0, none⟩ : Option Addr) = some ⟨g, 0, none⟩ := fun _ => ⟨b214, rfl⟩
  refine J.val (v := .slice (some ⟨b214, 0, none⟩) ((([(xb, false)] : List (Int × Bool))).length) 1) rfl rfl (V.as rfl) ?_
  refine J.nil ?_
  refine CJ.seq ?_
  refine CJ.seq ?_
  refine CJ.region ?_
  refine J.val rfl rfl (V.fad Try.underlying24 rfl nz22 rfl) ?_
  refine J.val (v := .slice adxa_0 xa.length cpxa_0) rfl rfl (V.ld rfl (Ld.sc sc22 (Rd.cl 2 rfl rfl))) ?_
  refine J.val (v := .int .i64 (((xa.length : Nat) : Int))) rfl rfl (V.len Try.underlying22 rfl) ?_
  refine J.val (v := .int .i64 0) rfl rfl (V.mv rfl) ?_
  refine J.nil ?_
  obtain ⟨o318, ho319, h⟩ := ob h
  refine CJ.meetN (fun ρ K' L' => ∃ (l313 : (List (Int × Bool))) (ad314 : Option Addr) (cp315 : Nat), l313 = o318 ∧ Fits [(6, .pointer (some ⟨b213, 0, none⟩)), (7, .slice ad314 l313.length cp315)] ρ ∧ K = K' ∧ L' = Cl b213 24 [.slice none 0 0] :: Row Hp.nil 42 (.cons (.int .i64) (.one .bool)) (.slice ad314 l313.length cp315) l313 :: F) ?_ ?_
  · skip
    refine CJ.block ?_
    refine CJ.dropAt 2 rfl ?_
    refine CJ.front 1 rfl ?_
    refine CJ.loop (fun s ρ K' L' => ∃ (l354 : (List (Int × Bool))) (i359 : Int) (ad355 : Option Addr) (cp356 : Nat), (l354, i359) = s ∧ Fits [(2, .bool xc), (6, .pointer (some ⟨b213, 0, none⟩)), (7, .slice ad355 l354.length cp356), (14, .slice adxa_0 xa.length cpxa_0), (15, .int .i64 (((xa.length : Nat) : Int))), (16, .int .i64 i359)] ρ ∧ K = K' ∧ L' = Cl b213 24 [.slice none 0 0] :: Row Hp.nil 42 (.cons (.int .i64) (.one .bool)) (.slice ad355 l354.length cp356) l354 :: F) ho319 ⟨([(xb, false)] : List (Int × Bool)), 0, (some ⟨b214, 0, none⟩), 1, rfl, ⟨rfl, rfl, rfl, rfl, rfl, rfl, trivial⟩, rfl, rfl⟩ ?_
    rintro s ρ _ _ r392 ⟨l354, i359, ad355, cp356, rfl, hf390, rfl, rfl⟩ h389
    obtain ⟨ρ, rfl⟩ := hf390.ex
    refine CJ.front 1 rfl ?_
    refine CJ.wit Row.hn (fun hn358 => ?_)
    refine CJ.seq ?_
    refine CJ.region ?_
    refine J.val (v := .bool (decide (i359 < (((xa.length : Nat) : Int))))) rfl rfl (V.lss rfl rfl) ?_
    refine J.nil ?_
    refine CJ.seq ?_
    refine CJ.cond rfl (fun hc393 => ?_) (fun hc393 => ?_)
    · have h389 := ct hc393 h389
      refine CJ.skip ?_
      refine CJ.seq ?_
      refine CJ.block ?_
      refine CJ.seq ?_
      refine CJ.region ?_
      obtain ⟨x394, hx395, h389⟩ := ob h389
      obtain ⟨p396, p397, p398⟩ := getI_some hx395
      obtain ⟨b399, o400, e401, a402⟩ := (fxa_0).at p397
      refine J.val rfl rfl (V.iad Try.underlying22 sz42 rfl e401 rfl p396 p398) ?_
      refine J.val (v := .agg #[.int .i64 x394.1, .bool x394.2]) rfl rfl (V.ld rfl (Ld.aggK (cs := [.int .i64 x394.1, .bool x394.2]) Try.underlying42 sz42 rfl ⟨((a402).fst).int, (((a402).snd).one).bool, trivial⟩ (Hp.le_refl _))) ?_
      refine J.op rfl (A.alloc (cs := [.int .i64 0, .bool false]) inf42 rfl) ?_
      rintro _ _ _ ⟨b403, rfl, rfl, rfl⟩
      refine J.op rfl (A.store (v := .agg #[.int .i64 x394.1, .bool x394.2]) (cs' := [.int .i64 x394.1, .bool x394.2]) sz42 rfl rfl rfl rfl rfl rfl) ?_
      rintro _ _ _ ⟨rfl, rfl, rfl⟩
      refine J.nil ?_
      refine CJ.region ?_
      refine J.val (v := .slice ad355 l354.length cp356) rfl rfl (V.mv rfl) ?_
      refine J.val rfl rfl (V.fad Try.underlying42 rfl nz3 rfl) ?_
      refine J.val (v := .int .i64 x394.1) rfl rfl (V.ld rfl (Ld.sc sc3 (Rd.cl 0 rfl rfl))) ?_
      refine J.val rfl rfl (V.fad Try.underlying42 rfl nz4 rfl) ?_
      refine J.val (v := .bool x394.2) rfl rfl (V.ld rfl (Ld.sc sc4 (Rd.cl 0 rfl rfl))) ?_
      refine J.val (v := .bool x394.2) rfl rfl (V.mv rfl) ?_
      refine J.cut 2 ?_
      refine @J.meet _ _ _ _ _ _ _ _ _ _ (fun ρ K' L' => Fits [(27, .bool (x394.2 || xc)), (2, .bool xc), (6, .pointer (some ⟨b213, 0, none⟩)), (14, .slice adxa_0 xa.length cpxa_0), (15, .int .i64 (((xa.length : Nat) : Int))), (16, .int .i64 i359), (20, .slice ad355 l354.length cp356), (22, .int .i64 x394.1)] ρ ∧ K = K' ∧ L' = Cl b403 42 [.int .i64 x394.1, .bool x394.2] :: Row Hp.nil 42 (.cons (.int .i64) (.one .bool)) (.slice ad355 l354.length cp356) l354 :: Cl b213 24 [.slice none 0 0] :: F) ?_ ?_
      · skip
        rcases bt (x394.2) with hc406 | hc406
        · skip
          refine J.skip rfl rfl rfl rfl hc406 ?_
          refine J.val (v := .bool true) rfl rfl (V.pickT rfl hc406 rfl) ?_
          refine J.nil ?_
          exact ⟨rfl, ⟨(by simp only [hc406]; rfl), rfl, rfl, rfl, rfl, rfl, rfl, rfl, trivial⟩, rfl, rfl⟩
        · skip
          refine J.run rfl rfl rfl hc406 ?_
          refine J.val (v := .bool xc) rfl rfl (V.mv rfl) ?_
          refine J.val (v := .bool xc) rfl rfl (V.pickF rfl hc406 rfl) ?_
          refine J.nil ?_
          exact ⟨rfl, ⟨(by simp only [hc406]; rfl), rfl, rfl, rfl, rfl, rfl, rfl, rfl, trivial⟩, rfl, rfl⟩
      · rintro ρ _ _ ⟨hf, rfl, rfl⟩
        obtain ⟨ρ, rfl⟩ := hf.ex
        refine J.val (v := .agg #[.int .i64 x394.1, .bool (x394.2 || xc)]) rfl rfl (V.build inf42 places42 rfl rfl) ?_
        refine J.op rfl (A.lit (K0 := Hp.nil) (ty := (.cons (.int .i64) (.one .bool))) (xs := ([(x394.1, x394.2 || xc)] : List (Int × Bool))) Try.underlying22 inf42 rfl (by decide) rfl rfl rfl ⟨_, _, rfl, ⟨_, _, rfl, rfl, rfl, rfl⟩, rfl⟩ rfl (by decide)) ?_
        rintro _ _ _ ⟨b407, rfl, rfl, rfl⟩
        have hn408 : ([(x394.1, x394.2 || xc)] : List (Int × Bool)) ≠ [] → ∃ g, (some ⟨b407, 0, none⟩ : Option Addr) = some ⟨g, 0, none⟩ := fun _ => ⟨b407, rfl⟩
        obtain ⟨z410, hz411, h389⟩ := ob h389
        refine J.front 2 rfl ?_
        refine J.op rfl (A.appR (Kr := Hp.nil) Try.underlying22 inf42 rfl rfl (by decide) (by decide) rfl rfl (Els.flat rfl) (Els.flat rfl) hz411) ?_
        rintro _ _ _ ⟨v412, rfl, rfl, rfl⟩
        refine J.wit Row.form ?_
        rintro ⟨ad413, cp414, rfl, _, _, hn415⟩
        refine J.val (v := .slice ad413 z410.length cp414) rfl rfl (V.as rfl) ?_
        refine J.nil ?_
        refine CJ.region ?_
        refine J.val (v := .int .i64 (IntKind.wrap .i64 (i359 + 1))) rfl rfl (V.add rfl rfl) ?_
        refine J.val (v := .int .i64 (IntKind.wrap .i64 (i359 + 1))) rfl rfl (V.mv rfl) ?_
        refine J.dropAt 1 rfl ?_
        refine J.front 1 rfl ?_
        refine J.nil ?_
        have e := Option.some.inj h389
        subst e
        exact ⟨rfl, ⟨z410, IntKind.wrap .i64 (i359 + 1), ad413, cp414, rfl, ⟨rfl, rfl, rfl, rfl, rfl, rfl, trivial⟩, rfl, rfl⟩⟩
    · have h389 := cf hc393 h389
      refine CJ.front 1 rfl ?_
      refine CJ.exit ?_
      have e := Option.some.inj h389
      subst e
      refine ⟨nofun, fun e => ?_⟩
      subst e
      exact ⟨rfl, ⟨l354, ad355, cp356, rfl, ⟨rfl, rfl, trivial⟩, rfl, rfl⟩⟩
  · rintro ρ _ _ ⟨l313, ad314, cp315, rfl, hf416, rfl, rfl⟩
    obtain ⟨ρ, rfl⟩ := hf416.ex
    refine PJ.front 1 rfl ?_
    refine PJ.wit Row.hn (fun hn317 => ?_)
    refine PJ.done ?_
    refine CJ.seq ?_
    refine CJ.region ?_
    refine J.val (v := .slice ad314 l313.length cp315) rfl rfl (V.mv rfl) ?_
    refine J.val (v := .agg #[.slice ad314 l313.length cp315]) rfl rfl (V.build inf24 places24 rfl rfl) ?_
    refine J.front 1 rfl ?_
    refine J.op rfl (A.store (v := .agg #[.slice ad314 l313.length cp315]) (cs' := [.slice ad314 l313.length cp315]) sz24 rfl rfl rfl rfl rfl rfl) ?_
    rintro _ _ _ ⟨rfl, rfl, rfl⟩
    refine J.nil ?_
    refine CJ.ret ?_
    have e := Option.some.inj h
    subst e
    exact ⟨_, [Row Hp.nil 42 (.cons (.int .i64) (.one .bool)) (.slice ad314 l313.length cp315) l313], Res.one rfl ⟨_, _, rfl, Ld.agg (cs := [.slice ad314 l313.length cp315]) Try.underlying24 sz24 rfl (Rd.cls 0 0 rfl rfl)⟩, ⟨l313, ad314, cp315, rfl, rfl, rfl⟩, (Hp.le_refl _), fun w hs => (Sep.dropAt 0 rfl hs)⟩
noncomputable def fn_ref15_Shape (xa : (List (Int × Bool))) (xb : (List (Int × Bool))) : Option Bool :=
  cond (!decide ((((xa.length : Nat) : Int)) = (((xb.length : Nat) : Int)))) (some (false)) ((loop (fun (i417 : Int) => (cond (decide (i417 < (((xa.length : Nat) : Int)))) ((getI xa i417).bind fun x480 => (getI xb i417).bind fun x489 => cond (!(x480.2 == x489.2)) (some (.inr ((.inr (false))))) (some (.inl (IntKind.wrap .i64 (i417 + 1))))) (some (.inr ((.inl ())))) : Option (Int ⊕ (Unit ⊕ Bool)))) 0 : Option (Unit ⊕ Bool)).bind fun o => match o with | .inr r => some r | .inl () => some (true))
set_option maxRecDepth 100000 in
set_option maxHeartbeats 4000000 in
theorem ref15_Shape_ok {K : Hp} {xa : (List (Int × Bool))} {xb : (List (Int × Bool))} {adxa_0 : Option Addr} {cpxa_0 : Nat} {adxb_0 : Option Addr} {cpxb_0 : Nat} (fxa_0 : Is K (.sl (.cons (.int .i64) (.one .bool))) [.slice adxa_0 xa.length cpxa_0] xa) (fxb_0 : Is K (.sl (.cons (.int .i64) (.one .bool))) [.slice adxb_0 xb.length cpxb_0] xb) {r : Bool} (h : fn_ref15_Shape xa xb = some r) :
    Tr Try.prog 11 #[.agg #[.slice adxa_0 xa.length cpxa_0], .agg #[.slice adxb_0 xb.length cpxb_0]] K [] (fun v K' L' => (∃ (t251 : Bool), t251 = r ∧ v = .bool t251 ∧ L' = []) ∧ K = K') := by
  refine Tr.k ?_
  refine Tr.of Try.func11 rfl Try.ntmps11 rfl (fun E F => ?_)
  unfold fn_ref15_Shape at h
  refine CJ.seq ?_
  refine CJ.region ?_
  refine J.op rfl (A.box (v := .agg #[.slice adxa_0 xa.length cpxa_0]) (cs := [.slice adxa_0 xa.length cpxa_0]) rfl rfl) ?_
  rintro _ _ _ ⟨b252, rfl, rfl, rfl⟩
  refine J.op rfl (A.box (v := .agg #[.slice adxb_0 xb.length cpxb_0]) (cs := [.slice adxb_0 xb.length cpxb_0]) rfl rfl) ?_
  rintro _ _ _ ⟨b253, rfl, rfl, rfl⟩
  refine J.val (v := .bool false) rfl rfl (V.as rfl) ?_
  refine J.nil ?_
  refine CJ.seq ?_
  refine CJ.seq ?_
  refine CJ.region ?_
  refine J.val rfl rfl (V.fad Try.underlying24 rfl nz22 rfl) ?_
  refine J.val (v := .slice adxa_0 xa.length cpxa_0) rfl rfl (V.ld rfl (Ld.sc sc22 (Rd.cl 1 rfl rfl))) ?_
  refine J.val (v := .int .i64 (((xa.length : Nat) : Int))) rfl rfl (V.len Try.underlying22 rfl) ?_
  refine J.val rfl rfl (V.fad Try.underlying24 rfl nz22 rfl) ?_
  refine J.val (v := .slice adxb_0 xb.length cpxb_0) rfl rfl (V.ld rfl (Ld.sc sc22 (Rd.cl 0 rfl rfl))) ?_
  refine J.val (v := .int .i64 (((xb.length : Nat) : Int))) rfl rfl (V.len Try.underlying22 rfl) ?_
  refine J.val (v := .bool (!decide ((((xa.length : Nat) : Int)) = (((xb.length : Nat) : Int))))) rfl rfl (V.neq rfl rfl) ?_
  refine J.nil ?_
  refine CJ.cond rfl (fun hc254 => ?_) (fun hc254 => ?_)
  · have h := ct hc254 h
    refine CJ.seq ?_
    refine CJ.region ?_
    refine J.val (v := .bool false) rfl rfl (V.as rfl) ?_
    refine J.nil ?_
    refine CJ.ret ?_
    have e := Option.some.inj h
    subst e
    exact ⟨_, [], Res.one rfl rfl, ⟨false, rfl, rfl, rfl⟩, (Hp.le_refl _), fun w hs => (Sep.dropAt 0 rfl (Sep.dropAt 0 rfl hs))⟩
  · have h := cf hc254 h
    refine CJ.skip ?_
    refine CJ.seq ?_
    refine CJ.seq ?_
    refine CJ.region ?_
    refine J.val (v := .int .i64 0) rfl rfl (V.as rfl) ?_
    refine J.nil ?_
    obtain ⟨o376, ho377, h⟩ := ob h
    refine CJ.joinN (o := o376) (fun s ρ K' L' => () = s ∧ Fits [] ρ ∧ K = K' ∧ L' = F) ?_ ?_
    · skip
      refine CJ.block ?_
      refine CJ.front 1 rfl ?_
      refine CJ.loop (fun s ρ K' L' => ∃ (i417 : Int), i417 = s ∧ Fits [(2, .pointer (some ⟨b252, 0, none⟩)), (3, .pointer (some ⟨b253, 0, none⟩)), (5, .int .i64 i417)] ρ ∧ K = K' ∧ L' = Cl b252 24 [.slice adxa_0 xa.length cpxa_0] :: Cl b253 24 [.slice adxb_0 xb.length cpxb_0] :: F) ho377 ⟨0, rfl, ⟨rfl, rfl, rfl, trivial⟩, rfl, rfl⟩ ?_
      rintro s ρ _ _ r460 ⟨i417, rfl, hf458, rfl, rfl⟩ h457
      obtain ⟨ρ, rfl⟩ := hf458.ex
      refine CJ.seq ?_
      refine CJ.seq ?_
      refine CJ.region ?_
      refine J.val (v := .int .i64 i417) rfl rfl (V.mv rfl) ?_
      refine J.val rfl rfl (V.fad Try.underlying24 rfl nz22 rfl) ?_
      refine J.val (v := .slice adxa_0 xa.length cpxa_0) rfl rfl (V.ld rfl (Ld.sc sc22 (Rd.cl 0 rfl rfl))) ?_
      refine J.val (v := .int .i64 (((xa.length : Nat) : Int))) rfl rfl (V.len Try.underlying22 rfl) ?_
      refine J.val (v := .bool (decide (i417 < (((xa.length : Nat) : Int))))) rfl rfl (V.lss rfl rfl) ?_
      refine J.nil ?_
      refine CJ.cond rfl (fun hc461 => ?_) (fun hc461 => ?_)
      · have h457 := ct hc461 h457
        refine CJ.skip ?_
        refine CJ.seq ?_
        refine CJ.block ?_
        refine CJ.seq ?_
        refine CJ.mix [Cl b252 24 [.slice adxa_0 xa.length cpxa_0], Cl b253 24 [.slice adxb_0 xb.length cpxb_0]] [] [0, 1, 2, 3, 4, 5, 6, 7, 8, 9, 10, 11, 12] [] mixO (by decide +kernel) ⟨0, rfl, 0, rfl, trivial⟩ rfl rfl rfl ?_
        refine JM.nil ?_
        refine JQ.val rfl rfl (V.fad Try.underlying24 rfl nz22 rfl) ?_
        refine JQ.val (v := .slice adxa_0 xa.length cpxa_0) rfl rfl (V.ld rfl (Ld.sc sc22 (Rd.cl 0 rfl rfl))) ?_
        refine JQ.val (v := .int .i64 i417) rfl rfl (V.mv rfl) ?_
        obtain ⟨x480, hx481, h457⟩ := ob h457
        obtain ⟨p482, p483, p484⟩ := getI_some hx481
        obtain ⟨b485, o486, e487, a488⟩ := (fxa_0).at p483
        refine JQ.val rfl rfl (V.iad Try.underlying22 sz42 rfl e487 rfl p482 p484) ?_
        refine JQ.val rfl rfl (V.fad Try.underlying42 rfl nz4 rfl) ?_
        refine JQ.val (v := .bool x480.2) rfl rfl (V.ld rfl (Ld.sc sc4 (Rd.k (((a488).snd).one).bool (Hp.le_refl _)))) ?_
        refine JQ.val rfl rfl (V.fad Try.underlying24 rfl nz22 rfl) ?_
        refine JQ.val (v := .slice adxb_0 xb.length cpxb_0) rfl rfl (V.ld rfl (Ld.sc sc22 (Rd.cl 1 rfl rfl))) ?_
        refine JQ.val (v := .int .i64 i417) rfl rfl (V.mv rfl) ?_
        obtain ⟨x489, hx490, h457⟩ := ob h457
        obtain ⟨p491, p492, p493⟩ := getI_some hx490
        obtain ⟨b494, o495, e496, a497⟩ := (fxb_0).at p492
        refine JQ.val rfl rfl (V.iad Try.underlying22 sz42 rfl e496 rfl p491 p493) ?_
        refine JQ.val rfl rfl (V.fad Try.underlying42 rfl nz4 rfl) ?_
        refine JQ.val (v := .bool x489.2) rfl rfl (V.ld rfl (Ld.sc sc4 (Rd.k (((a497).snd).one).bool (Hp.le_refl _)))) ?_
        refine JQ.val (v := .bool (!(x480.2 == x489.2))) rfl rfl (V.neb Try.underlying4 rfl rfl) ?_
        refine JQ.nil ?_
        refine J.nil ?_
        refine CJ.cond rfl (fun hc498 => ?_) (fun hc498 => ?_)
        · have h457 := ct hc498 h457
          refine CJ.seq ?_
          refine CJ.region ?_
          refine J.val (v := .bool false) rfl rfl (V.as rfl) ?_
          refine J.nil ?_
          refine CJ.ret ?_
          have e := Option.some.inj h457
          subst e
          refine ⟨nofun, fun e => ?_⟩
          subst e
          refine .inr ⟨nofun, ?_⟩
          have e := Option.some.inj h
          subst e
          exact ⟨_, [], Res.one rfl rfl, ⟨false, rfl, rfl, rfl⟩, (Hp.le_refl _), fun w hs => (Sep.dropAt 0 rfl (Sep.dropAt 0 rfl hs))⟩
        · have h457 := cf hc498 h457
          refine CJ.skip ?_
          refine CJ.region ?_
          refine J.val (v := .int .i64 i417) rfl rfl (V.mv rfl) ?_
          refine J.val (v := .int .i64 (IntKind.wrap .i64 (i417 + 1))) rfl rfl (V.add rfl rfl) ?_
          refine J.val (v := .int .i64 (IntKind.wrap .i64 (i417 + 1))) rfl rfl (V.as rfl) ?_
          refine J.nil ?_
          have e := Option.some.inj h457
          subst e
          exact ⟨rfl, ⟨IntKind.wrap .i64 (i417 + 1), rfl, ⟨rfl, rfl, rfl, trivial⟩, rfl, rfl⟩⟩
      · have h457 := cf hc461 h457
        refine CJ.dropAt 0 rfl ?_
        refine CJ.dropAt 0 rfl ?_
        refine CJ.exit ?_
        have e := Option.some.inj h457
        subst e
        refine ⟨nofun, fun e => ?_⟩
        subst e
        exact .inl ⟨rfl, _, rfl, ⟨rfl, trivial, rfl, rfl⟩⟩
    · rintro s ρ _ _ ho499 ⟨rfl, hf500, rfl, rfl⟩
      subst ho499
      obtain ⟨ρ, rfl⟩ := hf500.ex
      refine PJ.done ?_
      refine CJ.seq ?_
      refine CJ.region ?_
      refine J.val (v := .bool true) rfl rfl (V.as rfl) ?_
      refine J.nil ?_
      refine CJ.ret ?_
      have e := Option.some.inj h
      subst e
      exact ⟨_, [], Res.one rfl rfl, ⟨true, rfl, rfl, rfl⟩, (Hp.le_refl _), fun w hs => hs⟩
noncomputable def fn_ref15_Same (xa : (List (Int × Bool))) (xb : (List (Int × Bool))) : Option Bool :=
  (fn_ref15_Shape xa xb).bind fun t262 => cond (!t262) (some (false)) ((loop (fun (i429 : Int) => (cond (decide (i429 < (((xa.length : Nat) : Int)))) ((getI xa i429).bind fun x492 => (getI xb i429).bind fun x501 => cond (!decide (x492.1 = x501.1)) (some (.inr ((.inr (false))))) (some (.inl (IntKind.wrap .i64 (i429 + 1))))) (some (.inr ((.inl ())))) : Option (Int ⊕ (Unit ⊕ Bool)))) 0 : Option (Unit ⊕ Bool)).bind fun o => match o with | .inr r => some r | .inl () => some (true))
set_option maxRecDepth 100000 in
set_option maxHeartbeats 4000000 in
theorem ref15_Same_ok {K : Hp} {xa : (List (Int × Bool))} {xb : (List (Int × Bool))} {adxa_0 : Option Addr} {cpxa_0 : Nat} {adxb_0 : Option Addr} {cpxb_0 : Nat} (fxa_0 : Is K (.sl (.cons (.int .i64) (.one .bool))) [.slice adxa_0 xa.length cpxa_0] xa) (fxb_0 : Is K (.sl (.cons (.int .i64) (.one .bool))) [.slice adxb_0 xb.length cpxb_0] xb) {r : Bool} (h : fn_ref15_Same xa xb = some r) :
    Tr Try.prog 13 #[.agg #[.slice adxa_0 xa.length cpxa_0], .agg #[.slice adxb_0 xb.length cpxb_0]] K [] (fun v K' L' => (∃ (t257 : Bool), t257 = r ∧ v = .bool t257 ∧ L' = []) ∧ K = K') := by
  refine Tr.k ?_
  refine Tr.of Try.func13 rfl Try.ntmps13 rfl (fun E F => ?_)
  unfold fn_ref15_Same at h
  refine CJ.seq ?_
  refine CJ.region ?_
  refine J.op rfl (A.box (v := .agg #[.slice adxa_0 xa.length cpxa_0]) (cs := [.slice adxa_0 xa.length cpxa_0]) rfl rfl) ?_
  rintro _ _ _ ⟨b258, rfl, rfl, rfl⟩
  refine J.op rfl (A.box (v := .agg #[.slice adxb_0 xb.length cpxb_0]) (cs := [.slice adxb_0 xb.length cpxb_0]) rfl rfl) ?_
  rintro _ _ _ ⟨b259, rfl, rfl, rfl⟩
  refine J.val (v := .bool false) rfl rfl (V.as rfl) ?_
  refine J.nil ?_
  refine CJ.seq ?_
  refine CJ.seq ?_
  refine CJ.region ?_
  refine J.val (v := .agg #[.slice adxa_0 xa.length cpxa_0]) rfl rfl (V.ld rfl (Ld.agg (cs := [.slice adxa_0 xa.length cpxa_0]) Try.underlying24 sz24 rfl (Rd.cls 1 0 rfl rfl))) ?_
  refine J.val (v := .agg #[.slice adxb_0 xb.length cpxb_0]) rfl rfl (V.ld rfl (Ld.agg (cs := [.slice adxb_0 xb.length cpxb_0]) Try.underlying24 sz24 rfl (Rd.cls 0 0 rfl rfl))) ?_
  obtain ⟨r260, hr261, h⟩ := ob h
  refine J.op rfl (A.call (L1 := []) Try.call11 rfl (ref15_Shape_ok fxa_0 fxb_0 hr261) rfl rfl) ?_
  rintro _ _ _ ⟨v263, _, rfl, ⟨⟨t262, rfl, rfl, rfl⟩, rfl⟩, _, rfl⟩
  refine J.val (v := .bool (!t262)) rfl rfl (V.not rfl) ?_
  refine J.nil ?_
  refine CJ.cond rfl (fun hc266 => ?_) (fun hc266 => ?_)
  · have h := ct hc266 h
    refine CJ.seq ?_
    refine CJ.region ?_
    refine J.val (v := .bool false) rfl rfl (V.as rfl) ?_
    refine J.nil ?_
    refine CJ.ret ?_
    have e := Option.some.inj h
    subst e
    exact ⟨_, [], Res.one rfl rfl, ⟨false, rfl, rfl, rfl⟩, (Hp.le_refl _), fun w hs => (Sep.dropAt 0 rfl (Sep.dropAt 0 rfl hs))⟩
  · have h := cf hc266 h
    refine CJ.skip ?_
    refine CJ.seq ?_
    refine CJ.seq ?_
    refine CJ.region ?_
    refine J.val (v := .int .i64 0) rfl rfl (V.as rfl) ?_
    refine J.nil ?_
    obtain ⟨o388, ho389, h⟩ := ob h
    refine CJ.joinN (o := o388) (fun s ρ K' L' => () = s ∧ Fits [] ρ ∧ K = K' ∧ L' = F) ?_ ?_
    · skip
      refine CJ.block ?_
      refine CJ.front 1 rfl ?_
      refine CJ.loop (fun s ρ K' L' => ∃ (i429 : Int), i429 = s ∧ Fits [(2, .pointer (some ⟨b258, 0, none⟩)), (3, .pointer (some ⟨b259, 0, none⟩)), (5, .int .i64 i429)] ρ ∧ K = K' ∧ L' = Cl b258 24 [.slice adxa_0 xa.length cpxa_0] :: Cl b259 24 [.slice adxb_0 xb.length cpxb_0] :: F) ho389 ⟨0, rfl, ⟨rfl, rfl, rfl, trivial⟩, rfl, rfl⟩ ?_
      rintro s ρ _ _ r472 ⟨i429, rfl, hf470, rfl, rfl⟩ h469
      obtain ⟨ρ, rfl⟩ := hf470.ex
      refine CJ.seq ?_
      refine CJ.seq ?_
      refine CJ.region ?_
      refine J.val (v := .int .i64 i429) rfl rfl (V.mv rfl) ?_
      refine J.val rfl rfl (V.fad Try.underlying24 rfl nz22 rfl) ?_
      refine J.val (v := .slice adxa_0 xa.length cpxa_0) rfl rfl (V.ld rfl (Ld.sc sc22 (Rd.cl 0 rfl rfl))) ?_
      refine J.val (v := .int .i64 (((xa.length : Nat) : Int))) rfl rfl (V.len Try.underlying22 rfl) ?_
      refine J.val (v := .bool (decide (i429 < (((xa.length : Nat) : Int))))) rfl rfl (V.lss rfl rfl) ?_
      refine J.nil ?_
      refine CJ.cond rfl (fun hc473 => ?_) (fun hc473 => ?_)
      · have h469 := ct hc473 h469
        refine CJ.skip ?_
        refine CJ.seq ?_
        refine CJ.block ?_
        refine CJ.seq ?_
        refine CJ.mix [Cl b258 24 [.slice adxa_0 xa.length cpxa_0], Cl b259 24 [.slice adxb_0 xb.length cpxb_0]] [] [0, 1, 2, 3, 4, 5, 6, 7, 8, 9, 10, 11, 12] [] mixO (by decide +kernel) ⟨0, rfl, 0, rfl, trivial⟩ rfl rfl rfl ?_
        refine JM.nil ?_
        refine JQ.val rfl rfl (V.fad Try.underlying24 rfl nz22 rfl) ?_
        refine JQ.val (v := .slice adxa_0 xa.length cpxa_0) rfl rfl (V.ld rfl (Ld.sc sc22 (Rd.cl 0 rfl rfl))) ?_
        refine JQ.val (v := .int .i64 i429) rfl rfl (V.mv rfl) ?_
        obtain ⟨x492, hx493, h469⟩ := ob h469
        obtain ⟨p494, p495, p496⟩ := getI_some hx493
        obtain ⟨b497, o498, e499, a500⟩ := (fxa_0).at p495
        refine JQ.val rfl rfl (V.iad Try.underlying22 sz42 rfl e499 rfl p494 p496) ?_
        refine JQ.val rfl rfl (V.fad Try.underlying42 rfl nz3 rfl) ?_
        refine JQ.val (v := .int .i64 x492.1) rfl rfl (V.ld rfl (Ld.sc sc3 (Rd.k ((a500).fst).int (Hp.le_refl _)))) ?_
        refine JQ.val rfl rfl (V.fad Try.underlying24 rfl nz22 rfl) ?_
        refine JQ.val (v := .slice adxb_0 xb.length cpxb_0) rfl rfl (V.ld rfl (Ld.sc sc22 (Rd.cl 1 rfl rfl))) ?_
        refine JQ.val (v := .int .i64 i429) rfl rfl (V.mv rfl) ?_
        obtain ⟨x501, hx502, h469⟩ := ob h469
        obtain ⟨p503, p504, p505⟩ := getI_some hx502
        obtain ⟨b506, o507, e508, a509⟩ := (fxb_0).at p504
        refine JQ.val rfl rfl (V.iad Try.underlying22 sz42 rfl e508 rfl p503 p505) ?_
        refine JQ.val rfl rfl (V.fad Try.underlying42 rfl nz3 rfl) ?_
        refine JQ.val (v := .int .i64 x501.1) rfl rfl (V.ld rfl (Ld.sc sc3 (Rd.k ((a509).fst).int (Hp.le_refl _)))) ?_
        refine JQ.val (v := .bool (!decide (x492.1 = x501.1))) rfl rfl (V.neq rfl rfl) ?_
        refine JQ.nil ?_
        refine J.nil ?_
        refine CJ.cond rfl (fun hc510 => ?_) (fun hc510 => ?_)
        · have h469 := ct hc510 h469
          refine CJ.seq ?_
          refine CJ.region ?_
          refine J.val (v := .bool false) rfl rfl (V.as rfl) ?_
          refine J.nil ?_
          refine CJ.ret ?_
          have e := Option.some.inj h469
          subst e
          refine ⟨nofun, fun e => ?_⟩
          subst e
          refine .inr ⟨nofun, ?_⟩
          have e := Option.some.inj h
          subst e
          exact ⟨_, [], Res.one rfl rfl, ⟨false, rfl, rfl, rfl⟩, (Hp.le_refl _), fun w hs => (Sep.dropAt 0 rfl (Sep.dropAt 0 rfl hs))⟩
        · have h469 := cf hc510 h469
          refine CJ.skip ?_
          refine CJ.region ?_
          refine J.val (v := .int .i64 i429) rfl rfl (V.mv rfl) ?_
          refine J.val (v := .int .i64 (IntKind.wrap .i64 (i429 + 1))) rfl rfl (V.add rfl rfl) ?_
          refine J.val (v := .int .i64 (IntKind.wrap .i64 (i429 + 1))) rfl rfl (V.as rfl) ?_
          refine J.nil ?_
          have e := Option.some.inj h469
          subst e
          exact ⟨rfl, ⟨IntKind.wrap .i64 (i429 + 1), rfl, ⟨rfl, rfl, rfl, trivial⟩, rfl, rfl⟩⟩
      · have h469 := cf hc473 h469
        refine CJ.dropAt 0 rfl ?_
        refine CJ.dropAt 0 rfl ?_
        refine CJ.exit ?_
        have e := Option.some.inj h469
        subst e
        refine ⟨nofun, fun e => ?_⟩
        subst e
        exact .inl ⟨rfl, _, rfl, ⟨rfl, trivial, rfl, rfl⟩⟩
    · rintro s ρ _ _ ho511 ⟨rfl, hf512, rfl, rfl⟩
      subst ho511
      obtain ⟨ρ, rfl⟩ := hf512.ex
      refine PJ.done ?_
      refine CJ.seq ?_
      refine CJ.region ?_
      refine J.val (v := .bool true) rfl rfl (V.as rfl) ?_
      refine J.nil ?_
      refine CJ.ret ?_
      have e := Option.some.inj h
      subst e
      exact ⟨_, [], Res.one rfl rfl, ⟨true, rfl, rfl, rfl⟩, (Hp.le_refl _), fun w hs => hs⟩
noncomputable def fn_row_Has_1 (xa : (Int × Bool)) (qa0 : Int) : Option (Bool × Int) :=
  some ((decide (xa.1 = qa0), qa0))
set_option maxRecDepth 100000 in
set_option maxHeartbeats 4000000 in
theorem row_Has_1_ok {K : Hp} {xa : (Int × Bool)} {qa0 : Int} {pba : Nat}  {r : (Bool × Int)} (h : fn_row_Has_1 xa qa0 = some r) :
    Tr Try.prog 34 #[.agg #[.int .i64 xa.1, .bool xa.2], .pointer (some ⟨pba, 0, none⟩)] K [Cl pba 3 [.int .i64 qa0]] (fun v K' L' => (∃ (t2 : Bool) (i3 : Int), (t2, i3) = r ∧ v = .bool t2 ∧ L' = [Cl pba 3 [.int .i64 i3]]) ∧ K = K') := by
  refine Tr.k ?_
  refine Tr.of Try.func34 rfl Try.ntmps34 rfl (fun E F => ?_)
  unfold fn_row_Has_1 at h
  refine CJ.seq ?_
  refine CJ.region ?_
  refine J.op rfl (A.box (v := .agg #[.int .i64 xa.1, .bool xa.2]) (cs := [.int .i64 xa.1, .bool xa.2]) rfl rfl) ?_
  rintro _ _ _ ⟨b4, rfl, rfl, rfl⟩
  refine J.val (v := .bool false) rfl rfl (V.as rfl) ?_
  refine J.nil ?_
  refine CJ.seq ?_
  refine CJ.region ?_
  refine J.val rfl rfl (V.fad Try.underlying42 rfl nz3 rfl) ?_
  refine J.val (v := .int .i64 xa.1) rfl rfl (V.ld rfl (Ld.sc sc3 (Rd.cl 0 rfl rfl))) ?_
  refine J.val (v := .int .i64 qa0) rfl rfl (V.ld rfl (Ld.sc sc3 (Rd.cl 1 rfl rfl))) ?_
  refine J.val (v := .bool (decide (xa.1 = qa0))) rfl rfl (V.eql rfl rfl) ?_
  refine J.val (v := .bool (decide (xa.1 = qa0))) rfl rfl (V.as rfl) ?_
  refine J.nil ?_
  refine CJ.ret ?_
  have e := Option.some.inj h
  subst e
  exact ⟨_, [Cl pba 3 [.int .i64 qa0]], Res.one rfl rfl, ⟨decide (xa.1 = qa0), qa0, rfl, rfl, rfl⟩, (Hp.le_refl _), fun w hs => (Sep.dropAt 0 rfl hs)⟩
noncomputable def fn_slices_IndexFunc_api_Slot_api_Slot (xa : (List (Int × Bool))) (qa0 : Int) : Option (Int × Int) :=
  (loop (fun ((i224, i225) : (Int × Int)) => (cond (decide (i224 < (((xa.length : Nat) : Int)))) ((getI xa i224).bind fun x251 => (fn_row_Has_1 (x251.1, x251.2) i225).bind fun (t262, i263) => cond (t262) (some (.inr ((.inr ((i224, i263)))))) (some (.inl ((IntKind.wrap .i64 (i224 + 1), i263))))) (some (.inr (.inl i225))) : Option ((Int × Int) ⊕ (Int ⊕ (Int × Int))))) (0, qa0) : Option (Int ⊕ (Int × Int))).bind fun o => match o with | .inr r => some r | .inl i201 => some (((-1), i201))
set_option maxRecDepth 100000 in
set_option maxHeartbeats 4000000 in
theorem slices_IndexFunc_api_Slot_api_Slot_ok {K : Hp} {xa : (List (Int × Bool))} {qa0 : Int} {pba : Nat} {adxa_0 : Option Addr} {cpxa_0 : Nat} (fxa_0 : Is K (.sl (.cons (.int .i64) (.one .bool))) [.slice adxa_0 xa.length cpxa_0] xa) {r : (Int × Int)} (h : fn_slices_IndexFunc_api_Slot_api_Slot xa qa0 = some r) :
    Tr Try.prog 38 #[.slice adxa_0 xa.length cpxa_0, .func (.func 34) #[] #[.pointer (some ⟨pba, 0, none⟩)]] K [Cl pba 3 [.int .i64 qa0]] (fun v K' L' => (∃ (i135 : Int) (i136 : Int), (i135, i136) = r ∧ v = .int .i64 i135 ∧ L' = [Cl pba 3 [.int .i64 i136]]) ∧ K = K') := by
  refine Tr.k ?_
  refine Tr.of Try.func38 rfl Try.ntmps38 rfl (fun E F => ?_)
  unfold fn_slices_IndexFunc_api_Slot_api_Slot at h
  refine CJ.seq ?_
  refine CJ.region ?_
  refine J.val (v := .int .i64 0) rfl rfl (V.as rfl) ?_
  refine J.nil ?_
  refine CJ.seq ?_
  refine CJ.seq ?_
  refine CJ.region ?_
  refine J.val (v := .slice adxa_0 xa.length cpxa_0) rfl rfl (V.mv rfl) ?_
  refine J.val (v := .int .i64 (((xa.length : Nat) : Int))) rfl rfl (V.len Try.underlying22 rfl) ?_
  refine J.val (v := .int .i64 0) rfl rfl (V.mv rfl) ?_
  refine J.nil ?_
  obtain ⟨o202, ho203, h⟩ := ob h
  refine CJ.joinN (o := o202) (fun s ρ K' L' => ∃ (i201 : Int), i201 = s ∧ Fits [] ρ ∧ K = K' ∧ L' = Cl pba 3 [.int .i64 i201] :: F) ?_ ?_
  · skip
    refine CJ.block ?_
    refine CJ.loop (fun s ρ K' L' => ∃ (i224 : Int) (i225 : Int), (i224, i225) = s ∧ Fits [(0, .slice adxa_0 xa.length cpxa_0), (1, .func (.func 34) #[] #[.pointer (some ⟨pba, 0, none⟩)]), (7, .int .i64 (((xa.length : Nat) : Int))), (8, .int .i64 i224)] ρ ∧ K = K' ∧ L' = Cl pba 3 [.int .i64 i225] :: F) ho203 ⟨0, qa0, rfl, ⟨rfl, rfl, rfl, rfl, trivial⟩, rfl, rfl⟩ ?_
    rintro s ρ _ _ r249 ⟨i224, i225, rfl, hf247, rfl, rfl⟩ h246
    obtain ⟨ρ, rfl⟩ := hf247.ex
    refine CJ.seq ?_
    refine CJ.region ?_
    refine J.val (v := .bool (decide (i224 < (((xa.length : Nat) : Int))))) rfl rfl (V.lss rfl rfl) ?_
    refine J.nil ?_
    refine CJ.seq ?_
    refine CJ.cond rfl (fun hc250 => ?_) (fun hc250 => ?_)
    · have h246 := ct hc250 h246
      refine CJ.skip ?_
      refine CJ.seq ?_
      refine CJ.block ?_
      refine CJ.seq ?_
      refine CJ.region ?_
      refine J.val (v := .int .i64 i224) rfl rfl (V.mv rfl) ?_
      refine J.val (v := .int .i64 i224) rfl rfl (V.as rfl) ?_
      refine J.nil ?_
      refine CJ.seq ?_
      refine CJ.region ?_
      refine J.val (v := .func (.func 34) #[] #[.pointer (some ⟨pba, 0, none⟩)]) rfl rfl (V.mv rfl) ?_
      refine J.val (v := .slice adxa_0 xa.length cpxa_0) rfl rfl (V.mv rfl) ?_
      refine J.val (v := .int .i64 i224) rfl rfl (V.mv rfl) ?_
      obtain ⟨x251, hx252, h246⟩ := ob h246
      obtain ⟨p253, p254, p255⟩ := getI_some hx252
      obtain ⟨b256, o257, e258, a259⟩ := (fxa_0).at p254
      refine J.val rfl rfl (V.iad Try.underlying22 sz42 rfl e258 rfl p253 p255) ?_
      refine J.val (v := .agg #[.int .i64 x251.1, .bool x251.2]) rfl rfl (V.ld rfl (Ld.aggK (cs := [.int .i64 x251.1, .bool x251.2]) Try.underlying42 sz42 rfl ⟨((a259).fst).int, (((a259).snd).one).bool, trivial⟩ (Hp.le_refl _))) ?_
      obtain ⟨r260, hr261, h246⟩ := ob h246
      refine J.op rfl (A.call (L1 := [Cl pba 3 [.int .i64 i225]]) Try.call34 rfl (row_Has_1_ok hr261) rfl rfl) ?_
      rintro _ _ _ ⟨v264, _, rfl, ⟨⟨t262, i263, rfl, rfl, rfl⟩, rfl⟩, _, rfl⟩
      refine J.nil ?_
      refine CJ.cond rfl (fun hc267 => ?_) (fun hc267 => ?_)
      · have h246 := ct hc267 h246
        refine CJ.seq ?_
        refine CJ.region ?_
        refine J.val (v := .int .i64 i224) rfl rfl (V.mv rfl) ?_
        refine J.val (v := .int .i64 i224) rfl rfl (V.as rfl) ?_
        refine J.nil ?_
        refine CJ.ret ?_
        have e := Option.some.inj h246
        subst e
        refine ⟨nofun, fun e => ?_⟩
        subst e
        refine .inr ⟨nofun, ?_⟩
        have e := Option.some.inj h
        subst e
        exact ⟨_, [Cl pba 3 [.int .i64 i263]], Res.one rfl rfl, ⟨i224, i263, rfl, rfl, rfl⟩, (Hp.le_refl _), fun w hs => hs⟩
      · have h246 := cf hc267 h246
        refine CJ.skip ?_
        refine CJ.region ?_
        refine J.val (v := .int .i64 (IntKind.wrap .i64 (i224 + 1))) rfl rfl (V.add rfl rfl) ?_
        refine J.val (v := .int .i64 (IntKind.wrap .i64 (i224 + 1))) rfl rfl (V.mv rfl) ?_
        refine J.nil ?_
        have e := Option.some.inj h246
        subst e
        exact ⟨rfl, ⟨IntKind.wrap .i64 (i224 + 1), i263, rfl, ⟨rfl, rfl, rfl, rfl, trivial⟩, rfl, rfl⟩⟩
    · have h246 := cf hc250 h246
      refine CJ.exit ?_
      have e := Option.some.inj h246
      subst e
      refine ⟨nofun, fun e => ?_⟩
      subst e
      exact .inl ⟨rfl, _, rfl, ⟨i225, rfl, trivial, rfl, rfl⟩⟩
  · rintro s ρ _ _ ho268 ⟨i201, rfl, hf269, rfl, rfl⟩
    subst ho268
    obtain ⟨ρ, rfl⟩ := hf269.ex
    refine PJ.done ?_
    refine CJ.seq ?_
    refine CJ.region ?_
    refine J.val (v := .int .i64 (-1)) rfl rfl (V.as rfl) ?_
    refine J.nil ?_
    refine CJ.ret ?_
    have e := Option.some.inj h
    subst e
    exact ⟨_, [Cl pba 3 [.int .i64 i201]], Res.one rfl rfl, ⟨(-1), i201, rfl, rfl, rfl⟩, (Hp.le_refl _), fun w hs => hs⟩
noncomputable def fn_slices_ContainsFunc_api_Slot_api_Slot (xa : (List (Int × Bool))) (qa0 : Int) : Option (Bool × Int) :=
  (fn_slices_IndexFunc_api_Slot_api_Slot xa qa0).bind fun (i12, i13) => some ((decide (0 ≤ i12), i13))
set_option maxRecDepth 100000 in
set_option maxHeartbeats 4000000 in
theorem slices_ContainsFunc_api_Slot_api_Slot_ok {K : Hp} {xa : (List (Int × Bool))} {qa0 : Int} {pba : Nat} {adxa_0 : Option Addr} {cpxa_0 : Nat} (fxa_0 : Is K (.sl (.cons (.int .i64) (.one .bool))) [.slice adxa_0 xa.length cpxa_0] xa) {r : (Bool × Int)} (h : fn_slices_ContainsFunc_api_Slot_api_Slot xa qa0 = some r) :
    Tr Try.prog 33 #[.slice adxa_0 xa.length cpxa_0, .func (.func 34) #[] #[.pointer (some ⟨pba, 0, none⟩)]] K [Cl pba 3 [.int .i64 qa0]] (fun v K' L' => (∃ (t8 : Bool) (i9 : Int), (t8, i9) = r ∧ v = .bool t8 ∧ L' = [Cl pba 3 [.int .i64 i9]]) ∧ K = K') := by
  refine Tr.k ?_
  refine Tr.of Try.func33 rfl Try.ntmps33 rfl (fun E F => ?_)
  unfold fn_slices_ContainsFunc_api_Slot_api_Slot at h
  refine CJ.seq ?_
  refine CJ.region ?_
  refine J.val (v := .bool false) rfl rfl (V.as rfl) ?_
  refine J.nil ?_
  refine CJ.seq ?_
  refine CJ.region ?_
  refine J.val (v := .slice adxa_0 xa.length cpxa_0) rfl rfl (V.mv rfl) ?_
  refine J.val (v := .func (.func 34) #[] #[.pointer (some ⟨pba, 0, none⟩)]) rfl rfl (V.mv rfl) ?_
  obtain ⟨r10, hr11, h⟩ := ob h
  refine J.op rfl (A.call (L1 := [Cl pba 3 [.int .i64 qa0]]) Try.call38 rfl (slices_IndexFunc_api_Slot_api_Slot_ok fxa_0 hr11) rfl rfl) ?_
  rintro _ _ _ ⟨v14, _, rfl, ⟨⟨i12, i13, rfl, rfl, rfl⟩, rfl⟩, _, rfl⟩
  refine J.val (v := .bool (decide (0 ≤ i12))) rfl rfl (V.geq rfl rfl) ?_
  refine J.val (v := .bool (decide (0 ≤ i12))) rfl rfl (V.as rfl) ?_
  refine J.nil ?_
  refine CJ.ret ?_
  have e := Option.some.inj h
  subst e
  exact ⟨_, [Cl pba 3 [.int .i64 i13]], Res.one rfl rfl, ⟨decide (0 ≤ i12), i13, rfl, rfl, rfl⟩, (Hp.le_refl _), fun w hs => hs⟩
noncomputable def fn_row_Has (xa : (List (Int × Bool))) (xb : Int) : Option Bool :=
  (fn_slices_ContainsFunc_api_Slot_api_Slot xa xb).bind fun (t15, i16) => some (t15)
set_option maxRecDepth 100000 in
set_option maxHeartbeats 4000000 in
theorem row_Has_ok {K : Hp} {xa : (List (Int × Bool))} {xb : Int} {adxa_0 : Option Addr} {cpxa_0 : Nat} (fxa_0 : Is K (.sl (.cons (.int .i64) (.one .bool))) [.slice adxa_0 xa.length cpxa_0] xa) {r : Bool} (h : fn_row_Has xa xb = some r) :
    Tr Try.prog 18 #[.agg #[.slice adxa_0 xa.length cpxa_0], .int .i64 xb] K [] (fun v K' L' => (∃ (t10 : Bool), t10 = r ∧ v = .bool t10 ∧ L' = []) ∧ K = K') := by
  refine Tr.k ?_
  refine Tr.of Try.func18 rfl Try.ntmps18 rfl (fun E F => ?_)
  unfold fn_row_Has at h
  refine CJ.seq ?_
  refine CJ.region ?_
  refine J.op rfl (A.box (v := .agg #[.slice adxa_0 xa.length cpxa_0]) (cs := [.slice adxa_0 xa.length cpxa_0]) rfl rfl) ?_
  rintro _ _ _ ⟨b11, rfl, rfl, rfl⟩
  refine J.op rfl (A.box (v := .int .i64 xb) (cs := [.int .i64 xb]) rfl rfl) ?_
  rintro _ _ _ ⟨b12, rfl, rfl, rfl⟩
  refine J.val (v := .bool false) rfl rfl (V.as rfl) ?_
  refine J.nil ?_
  refine CJ.seq ?_
  refine CJ.region ?_
  refine J.val rfl rfl (V.fad Try.underlying24 rfl nz22 rfl) ?_
  refine J.val (v := .slice adxa_0 xa.length cpxa_0) rfl rfl (V.ld rfl (Ld.sc sc22 (Rd.cl 1 rfl rfl))) ?_
  refine J.val (v := .func (.func 34) #[] #[.pointer (some ⟨b12, 0, none⟩)]) rfl rfl (V.mkf rfl) ?_
  obtain ⟨r13, hr14, h⟩ := ob h
  refine J.op rfl (A.call (L1 := [Cl b12 3 [.int .i64 xb]]) Try.call33 rfl (slices_ContainsFunc_api_Slot_api_Slot_ok fxa_0 hr14) rfl rfl) ?_
  rintro _ _ _ ⟨v17, _, rfl, ⟨⟨t15, i16, rfl, rfl, rfl⟩, rfl⟩, _, rfl⟩
  refine J.val (v := .bool t15) rfl rfl (V.as rfl) ?_
  refine J.nil ?_
  refine CJ.ret ?_
  have e := Option.some.inj h
  subst e
  exact ⟨_, [], Res.one rfl rfl, ⟨t15, rfl, rfl, rfl⟩, (Hp.le_refl _), fun w hs => (Sep.dropAt 0 rfl (Sep.dropAt 0 rfl hs))⟩
noncomputable def fn_row_within_1 (xa : (Int × Bool)) (qa0 : Int) : Option (Bool × Int) :=
  some (((decide (xa.1 < 0)) || (decide (qa0 ≤ xa.1)), qa0))
set_option maxRecDepth 100000 in
set_option maxHeartbeats 4000000 in
theorem row_within_1_ok {K : Hp} {xa : (Int × Bool)} {qa0 : Int} {pba : Nat}  {r : (Bool × Int)} (h : fn_row_within_1 xa qa0 = some r) :
    Tr Try.prog 35 #[.agg #[.int .i64 xa.1, .bool xa.2], .pointer (some ⟨pba, 0, none⟩)] K [Cl pba 3 [.int .i64 qa0]] (fun v K' L' => (∃ (t5 : Bool) (i6 : Int), (t5, i6) = r ∧ v = .bool t5 ∧ L' = [Cl pba 3 [.int .i64 i6]]) ∧ K = K') := by
  refine Tr.k ?_
  refine Tr.of Try.func35 rfl Try.ntmps35 rfl (fun E F => ?_)
  unfold fn_row_within_1 at h
  refine CJ.seq ?_
  refine CJ.region ?_
  refine J.op rfl (A.box (v := .agg #[.int .i64 xa.1, .bool xa.2]) (cs := [.int .i64 xa.1, .bool xa.2]) rfl rfl) ?_
  rintro _ _ _ ⟨b7, rfl, rfl, rfl⟩
  refine J.val (v := .bool false) rfl rfl (V.as rfl) ?_
  refine J.nil ?_
  refine CJ.seq ?_
  refine CJ.region ?_
  refine J.val rfl rfl (V.fad Try.underlying42 rfl nz3 rfl) ?_
  refine J.val (v := .int .i64 xa.1) rfl rfl (V.ld rfl (Ld.sc sc3 (Rd.cl 0 rfl rfl))) ?_
  refine J.val (v := .bool (decide (xa.1 < 0))) rfl rfl (V.lss rfl rfl) ?_
  refine J.val (v := .bool (decide (xa.1 < 0))) rfl rfl (V.mv rfl) ?_
  refine J.cut 5 ?_
  refine @J.meet _ _ _ _ _ _ _ _ _ _ (fun ρ K' L' => Fits [(12, .bool ((decide (xa.1 < 0)) || (decide (qa0 ≤ xa.1))))] ρ ∧ K = K' ∧ L' = Cl b7 42 [.int .i64 xa.1, .bool xa.2] :: Cl pba 3 [.int .i64 qa0] :: F) ?_ ?_
  · skip
    rcases bt (decide (xa.1 < 0)) with hc10 | hc10
    · skip
      refine J.skip rfl rfl rfl rfl hc10 ?_
      refine J.skip rfl rfl rfl rfl hc10 ?_
      refine J.skip rfl rfl rfl rfl hc10 ?_
      refine J.skip rfl rfl rfl rfl hc10 ?_
      refine J.val (v := .bool true) rfl rfl (V.pickT rfl hc10 rfl) ?_
      refine J.nil ?_
      exact ⟨rfl, ⟨(by simp only [hc10]; rfl), trivial⟩, rfl, rfl⟩
    · skip
      refine J.run rfl rfl rfl hc10 ?_
      refine J.val rfl rfl (V.fad Try.underlying42 rfl nz3 rfl) ?_
      refine J.run rfl rfl rfl hc10 ?_
      refine J.val (v := .int .i64 xa.1) rfl rfl (V.ld rfl (Ld.sc sc3 (Rd.cl 0 rfl rfl))) ?_
      refine J.run rfl rfl rfl hc10 ?_
      refine J.val (v := .int .i64 qa0) rfl rfl (V.ld rfl (Ld.sc sc3 (Rd.cl 1 rfl rfl))) ?_
      refine J.run rfl rfl rfl hc10 ?_
      refine J.val (v := .bool (decide (qa0 ≤ xa.1))) rfl rfl (V.geq rfl rfl) ?_
      refine J.val (v := .bool (decide (qa0 ≤ xa.1))) rfl rfl (V.pickF rfl hc10 rfl) ?_
      refine J.nil ?_
      exact ⟨rfl, ⟨(by simp only [hc10]; rfl), trivial⟩, rfl, rfl⟩
  · rintro ρ _ _ ⟨hf, rfl, rfl⟩
    obtain ⟨ρ, rfl⟩ := hf.ex
    refine J.val (v := .bool ((decide (xa.1 < 0)) || (decide (qa0 ≤ xa.1)))) rfl rfl (V.as rfl) ?_
    refine J.nil ?_
    refine CJ.ret ?_
    have e := Option.some.inj h
    subst e
    exact ⟨_, [Cl pba 3 [.int .i64 qa0]], Res.one rfl rfl, ⟨(decide (xa.1 < 0)) || (decide (qa0 ≤ xa.1)), qa0, rfl, rfl, rfl⟩, (Hp.le_refl _), fun w hs => (Sep.dropAt 0 rfl hs)⟩
noncomputable def fn_slices_IndexFunc_api_Slot_api_Slot_v2 (xa : (List (Int × Bool))) (qa0 : Int) : Option (Int × Int) :=
  (loop (fun ((i224, i225) : (Int × Int)) => (cond (decide (i224 < (((xa.length : Nat) : Int)))) ((getI xa i224).bind fun x251 => (fn_row_within_1 (x251.1, x251.2) i225).bind fun (t262, i263) => cond (t262) (some (.inr ((.inr ((i224, i263)))))) (some (.inl ((IntKind.wrap .i64 (i224 + 1), i263))))) (some (.inr (.inl i225))) : Option ((Int × Int) ⊕ (Int ⊕ (Int × Int))))) (0, qa0) : Option (Int ⊕ (Int × Int))).bind fun o => match o with | .inr r => some r | .inl i201 => some (((-1), i201))
set_option maxRecDepth 100000 in
set_option maxHeartbeats 4000000 in
theorem slices_IndexFunc_api_Slot_api_Slot_v2_ok {K : Hp} {xa : (List (Int × Bool))} {qa0 : Int} {pba : Nat} {adxa_0 : Option Addr} {cpxa_0 : Nat} (fxa_0 : Is K (.sl (.cons (.int .i64) (.one .bool))) [.slice adxa_0 xa.length cpxa_0] xa) {r : (Int × Int)} (h : fn_slices_IndexFunc_api_Slot_api_Slot_v2 xa qa0 = some r) :
    Tr Try.prog 38 #[.slice adxa_0 xa.length cpxa_0, .func (.func 35) #[] #[.pointer (some ⟨pba, 0, none⟩)]] K [Cl pba 3 [.int .i64 qa0]] (fun v K' L' => (∃ (i135 : Int) (i136 : Int), (i135, i136) = r ∧ v = .int .i64 i135 ∧ L' = [Cl pba 3 [.int .i64 i136]]) ∧ K = K') := by
  refine Tr.k ?_
  refine Tr.of Try.func38 rfl Try.ntmps38 rfl (fun E F => ?_)
  unfold fn_slices_IndexFunc_api_Slot_api_Slot_v2 at h
  refine CJ.seq ?_
  refine CJ.region ?_
  refine J.val (v := .int .i64 0) rfl rfl (V.as rfl) ?_
  refine J.nil ?_
  refine CJ.seq ?_
  refine CJ.seq ?_
  refine CJ.region ?_
  refine J.val (v := .slice adxa_0 xa.length cpxa_0) rfl rfl (V.mv rfl) ?_
  refine J.val (v := .int .i64 (((xa.length : Nat) : Int))) rfl rfl (V.len Try.underlying22 rfl) ?_
  refine J.val (v := .int .i64 0) rfl rfl (V.mv rfl) ?_
  refine J.nil ?_
  obtain ⟨o202, ho203, h⟩ := ob h
  refine CJ.joinN (o := o202) (fun s ρ K' L' => ∃ (i201 : Int), i201 = s ∧ Fits [] ρ ∧ K = K' ∧ L' = Cl pba 3 [.int .i64 i201] :: F) ?_ ?_
  · skip
    refine CJ.block ?_
    refine CJ.loop (fun s ρ K' L' => ∃ (i224 : Int) (i225 : Int), (i224, i225) = s ∧ Fits [(0, .slice adxa_0 xa.length cpxa_0), (1, .func (.func 35) #[] #[.pointer (some ⟨pba, 0, none⟩)]), (7, .int .i64 (((xa.length : Nat) : Int))), (8, .int .i64 i224)] ρ ∧ K = K' ∧ L' = Cl pba 3 [.int .i64 i225] :: F) ho203 ⟨0, qa0, rfl, ⟨rfl, rfl, rfl, rfl, trivial⟩, rfl, rfl⟩ ?_
    rintro s ρ _ _ r249 ⟨i224, i225, rfl, hf247, rfl, rfl⟩ h246
    obtain ⟨ρ, rfl⟩ := hf247.ex
    refine CJ.seq ?_
    refine CJ.region ?_
    refine J.val (v := .bool (decide (i224 < (((xa.length : Nat) : Int))))) rfl rfl (V.lss rfl rfl) ?_
    refine J.nil ?_
    refine CJ.seq ?_
    refine CJ.cond rfl (fun hc250 => ?_) (fun hc250 => ?_)
    · have h246 := ct hc250 h246
      refine CJ.skip ?_
      refine CJ.seq ?_
      refine CJ.block ?_
      refine CJ.seq ?_
      refine CJ.region ?_
      refine J.val (v := .int .i64 i224) rfl rfl (V.mv rfl) ?_
      refine J.val (v := .int .i64 i224) rfl rfl (V.as rfl) ?_
      refine J.nil ?_
      refine CJ.seq ?_
      refine CJ.region ?_
      refine J.val (v := .func (.func 35) #[] #[.pointer (some ⟨pba, 0, none⟩)]) rfl rfl (V.mv rfl) ?_
      refine J.val (v := .slice adxa_0 xa.length cpxa_0) rfl rfl (V.mv rfl) ?_
      refine J.val (v := .int .i64 i224) rfl rfl (V.mv rfl) ?_
      obtain ⟨x251, hx252, h246⟩ := ob h246
      obtain ⟨p253, p254, p255⟩ := getI_some hx252
      obtain ⟨b256, o257, e258, a259⟩ := (fxa_0).at p254
      refine J.val rfl rfl (V.iad Try.underlying22 sz42 rfl e258 rfl p253 p255) ?_
      refine J.val (v := .agg #[.int .i64 x251.1, .bool x251.2]) rfl rfl (V.ld rfl (Ld.aggK (cs := [.int .i64 x251.1, .bool x251.2]) Try.underlying42 sz42 rfl ⟨((a259).fst).int, (((a259).snd).one).bool, trivial⟩ (Hp.le_refl _))) ?_
      obtain ⟨r260, hr261, h246⟩ := ob h246
      refine J.op rfl (A.call (L1 := [Cl pba 3 [.int .i64 i225]]) Try.call35 rfl (row_within_1_ok hr261) rfl rfl) ?_
      rintro _ _ _ ⟨v264, _, rfl, ⟨⟨t262, i263, rfl, rfl, rfl⟩, rfl⟩, _, rfl⟩
      refine J.nil ?_
      refine CJ.cond rfl (fun hc267 => ?_) (fun hc267 => ?_)
      · have h246 := ct hc267 h246
        refine CJ.seq ?_
        refine CJ.region ?_
        refine J.val (v := .int .i64 i224) rfl rfl (V.mv rfl) ?_
        refine J.val (v := .int .i64 i224) rfl rfl (V.as rfl) ?_
        refine J.nil ?_
        refine CJ.ret ?_
        have e := Option.some.inj h246
        subst e
        refine ⟨nofun, fun e => ?_⟩
        subst e
        refine .inr ⟨nofun, ?_⟩
        have e := Option.some.inj h
        subst e
        exact ⟨_, [Cl pba 3 [.int .i64 i263]], Res.one rfl rfl, ⟨i224, i263, rfl, rfl, rfl⟩, (Hp.le_refl _), fun w hs => hs⟩
      · have h246 := cf hc267 h246
        refine CJ.skip ?_
        refine CJ.region ?_
        refine J.val (v := .int .i64 (IntKind.wrap .i64 (i224 + 1))) rfl rfl (V.add rfl rfl) ?_
        refine J.val (v := .int .i64 (IntKind.wrap .i64 (i224 + 1))) rfl rfl (V.mv rfl) ?_
        refine J.nil ?_
        have e := Option.some.inj h246
        subst e
        exact ⟨rfl, ⟨IntKind.wrap .i64 (i224 + 1), i263, rfl, ⟨rfl, rfl, rfl, rfl, trivial⟩, rfl, rfl⟩⟩
    · have h246 := cf hc250 h246
      refine CJ.exit ?_
      have e := Option.some.inj h246
      subst e
      refine ⟨nofun, fun e => ?_⟩
      subst e
      exact .inl ⟨rfl, _, rfl, ⟨i225, rfl, trivial, rfl, rfl⟩⟩
  · rintro s ρ _ _ ho268 ⟨i201, rfl, hf269, rfl, rfl⟩
    subst ho268
    obtain ⟨ρ, rfl⟩ := hf269.ex
    refine PJ.done ?_
    refine CJ.seq ?_
    refine CJ.region ?_
    refine J.val (v := .int .i64 (-1)) rfl rfl (V.as rfl) ?_
    refine J.nil ?_
    refine CJ.ret ?_
    have e := Option.some.inj h
    subst e
    exact ⟨_, [Cl pba 3 [.int .i64 i201]], Res.one rfl rfl, ⟨(-1), i201, rfl, rfl, rfl⟩, (Hp.le_refl _), fun w hs => hs⟩
noncomputable def fn_slices_ContainsFunc_api_Slot_api_Slot_v2 (xa : (List (Int × Bool))) (qa0 : Int) : Option (Bool × Int) :=
  (fn_slices_IndexFunc_api_Slot_api_Slot_v2 xa qa0).bind fun (i12, i13) => some ((decide (0 ≤ i12), i13))
set_option maxRecDepth 100000 in
set_option maxHeartbeats 4000000 in
theorem slices_ContainsFunc_api_Slot_api_Slot_v2_ok {K : Hp} {xa : (List (Int × Bool))} {qa0 : Int} {pba : Nat} {adxa_0 : Option Addr} {cpxa_0 : Nat} (fxa_0 : Is K (.sl (.cons (.int .i64) (.one .bool))) [.slice adxa_0 xa.length cpxa_0] xa) {r : (Bool × Int)} (h : fn_slices_ContainsFunc_api_Slot_api_Slot_v2 xa qa0 = some r) :
    Tr Try.prog 33 #[.slice adxa_0 xa.length cpxa_0, .func (.func 35) #[] #[.pointer (some ⟨pba, 0, none⟩)]] K [Cl pba 3 [.int .i64 qa0]] (fun v K' L' => (∃ (t8 : Bool) (i9 : Int), (t8, i9) = r ∧ v = .bool t8 ∧ L' = [Cl pba 3 [.int .i64 i9]]) ∧ K = K') := by
  refine Tr.k ?_
  refine Tr.of Try.func33 rfl Try.ntmps33 rfl (fun E F => ?_)
  unfold fn_slices_ContainsFunc_api_Slot_api_Slot_v2 at h
  refine CJ.seq ?_
  refine CJ.region ?_
  refine J.val (v := .bool false) rfl rfl (V.as rfl) ?_
  refine J.nil ?_
  refine CJ.seq ?_
  refine CJ.region ?_
  refine J.val (v := .slice adxa_0 xa.length cpxa_0) rfl rfl (V.mv rfl) ?_
  refine J.val (v := .func (.func 35) #[] #[.pointer (some ⟨pba, 0, none⟩)]) rfl rfl (V.mv rfl) ?_
  obtain ⟨r10, hr11, h⟩ := ob h
  refine J.op rfl (A.call (L1 := [Cl pba 3 [.int .i64 qa0]]) Try.call38 rfl (slices_IndexFunc_api_Slot_api_Slot_v2_ok fxa_0 hr11) rfl rfl) ?_
  rintro _ _ _ ⟨v14, _, rfl, ⟨⟨i12, i13, rfl, rfl, rfl⟩, rfl⟩, _, rfl⟩
  refine J.val (v := .bool (decide (0 ≤ i12))) rfl rfl (V.geq rfl rfl) ?_
  refine J.val (v := .bool (decide (0 ≤ i12))) rfl rfl (V.as rfl) ?_
  refine J.nil ?_
  refine CJ.ret ?_
  have e := Option.some.inj h
  subst e
  exact ⟨_, [Cl pba 3 [.int .i64 i13]], Res.one rfl rfl, ⟨decide (0 ≤ i12), i13, rfl, rfl, rfl⟩, (Hp.le_refl _), fun w hs => hs⟩
noncomputable def fn_row_within (xa : (List (Int × Bool))) (xb : Int) : Option Bool :=
  (fn_slices_ContainsFunc_api_Slot_api_Slot_v2 xa xb).bind fun (t15, i16) => some (!t15)
set_option maxRecDepth 100000 in
set_option maxHeartbeats 4000000 in
theorem row_within_ok {K : Hp} {xa : (List (Int × Bool))} {xb : Int} {adxa_0 : Option Addr} {cpxa_0 : Nat} (fxa_0 : Is K (.sl (.cons (.int .i64) (.one .bool))) [.slice adxa_0 xa.length cpxa_0] xa) {r : Bool} (h : fn_row_within xa xb = some r) :
    Tr Try.prog 26 #[.agg #[.slice adxa_0 xa.length cpxa_0], .int .i64 xb] K [] (fun v K' L' => (∃ (t10 : Bool), t10 = r ∧ v = .bool t10 ∧ L' = []) ∧ K = K') := by
  refine Tr.k ?_
  refine Tr.of Try.func26 rfl Try.ntmps26 rfl (fun E F => ?_)
  unfold fn_row_within at h
  refine CJ.seq ?_
  refine CJ.region ?_
  refine J.op rfl (A.box (v := .agg #[.slice adxa_0 xa.length cpxa_0]) (cs := [.slice adxa_0 xa.length cpxa_0]) rfl rfl) ?_
  rintro _ _ _ ⟨b11, rfl, rfl, rfl⟩
  refine J.op rfl (A.box (v := .int .i64 xb) (cs := [.int .i64 xb]) rfl rfl) ?_
  rintro _ _ _ ⟨b12, rfl, rfl, rfl⟩
  refine J.val (v := .bool false) rfl rfl (V.as rfl) ?_
  refine J.nil ?_
  refine CJ.seq ?_
  refine CJ.region ?_
  refine J.val rfl rfl (V.fad Try.underlying24 rfl nz22 rfl) ?_
  refine J.val (v := .slice adxa_0 xa.length cpxa_0) rfl rfl (V.ld rfl (Ld.sc sc22 (Rd.cl 1 rfl rfl))) ?_
  refine J.val (v := .func (.func 35) #[] #[.pointer (some ⟨b12, 0, none⟩)]) rfl rfl (V.mkf rfl) ?_
  obtain ⟨r13, hr14, h⟩ := ob h
  refine J.op rfl (A.call (L1 := [Cl b12 3 [.int .i64 xb]]) Try.call33 rfl (slices_ContainsFunc_api_Slot_api_Slot_v2_ok fxa_0 hr14) rfl rfl) ?_
  rintro _ _ _ ⟨v17, _, rfl, ⟨⟨t15, i16, rfl, rfl, rfl⟩, rfl⟩, _, rfl⟩
  refine J.val (v := .bool (!t15)) rfl rfl (V.not rfl) ?_
  refine J.val (v := .bool (!t15)) rfl rfl (V.as rfl) ?_
  refine J.nil ?_
  refine CJ.ret ?_
  have e := Option.some.inj h
  subst e
  exact ⟨_, [], Res.one rfl rfl, ⟨!t15, rfl, rfl, rfl⟩, (Hp.le_refl _), fun w hs => (Sep.dropAt 0 rfl (Sep.dropAt 0 rfl hs))⟩
noncomputable def fn_row_Check (xa : (List (Int × Bool))) (xb : Int) : Option Int :=
  cond (decide (16 < (((xa.length : Nat) : Int)))) (some (6)) ((fn_row_within xa xb).bind fun t15 => cond (!t15) (some (7)) (some (0)))
set_option maxRecDepth 100000 in
set_option maxHeartbeats 4000000 in
theorem row_Check_ok {K : Hp} {xa : (List (Int × Bool))} {xb : Int} {adxa_0 : Option Addr} {cpxa_0 : Nat} (fxa_0 : Is K (.sl (.cons (.int .i64) (.one .bool))) [.slice adxa_0 xa.length cpxa_0] xa) {r : Int} (h : fn_row_Check xa xb = some r) :
    Tr Try.prog 8 #[.agg #[.slice adxa_0 xa.length cpxa_0], .int .i64 xb] K [] (fun v K' L' => (∃ (i10 : Int), i10 = r ∧ v = .int .i64 i10 ∧ L' = []) ∧ K = K') := by
  refine Tr.k ?_
  refine Tr.of Try.func8 rfl Try.ntmps8 rfl (fun E F => ?_)
  unfold fn_row_Check at h
  refine CJ.seq ?_
  refine CJ.region ?_
  refine J.op rfl (A.box (v := .agg #[.slice adxa_0 xa.length cpxa_0]) (cs := [.slice adxa_0 xa.length cpxa_0]) rfl rfl) ?_
  rintro _ _ _ ⟨b11, rfl, rfl, rfl⟩
  refine J.val (v := .int .i64 0) rfl rfl (V.as rfl) ?_
  refine J.nil ?_
  refine CJ.seq ?_
  refine CJ.seq ?_
  refine CJ.region ?_
  refine J.val rfl rfl (V.fad Try.underlying24 rfl nz22 rfl) ?_
  refine J.val (v := .slice adxa_0 xa.length cpxa_0) rfl rfl (V.ld rfl (Ld.sc sc22 (Rd.cl 0 rfl rfl))) ?_
  refine J.val (v := .int .i64 (((xa.length : Nat) : Int))) rfl rfl (V.len Try.underlying22 rfl) ?_
  refine J.val (v := .bool (decide (16 < (((xa.length : Nat) : Int))))) rfl rfl (V.gtr rfl rfl) ?_
  refine J.nil ?_
  refine CJ.cond rfl (fun hc12 => ?_) (fun hc12 => ?_)
  · have h := ct hc12 h
    refine CJ.seq ?_
    refine CJ.region ?_
    refine J.val (v := .int .i64 6) rfl rfl (V.as rfl) ?_
    refine J.nil ?_
    refine CJ.ret ?_
    have e := Option.some.inj h
    subst e
    exact ⟨_, [], Res.one rfl rfl, ⟨6, rfl, rfl, rfl⟩, (Hp.le_refl _), fun w hs => (Sep.dropAt 0 rfl hs)⟩
  · have h := cf hc12 h
    refine CJ.skip ?_
    refine CJ.seq ?_
    refine CJ.seq ?_
    refine CJ.region ?_
    refine J.val (v := .agg #[.slice adxa_0 xa.length cpxa_0]) rfl rfl (V.ld rfl (Ld.agg (cs := [.slice adxa_0 xa.length cpxa_0]) Try.underlying24 sz24 rfl (Rd.cls 0 0 rfl rfl))) ?_
    refine J.val (v := .int .i64 xb) rfl rfl (V.mv rfl) ?_
    obtain ⟨r13, hr14, h⟩ := ob h
    refine J.op rfl (A.call (L1 := []) Try.call26 rfl (row_within_ok fxa_0 hr14) rfl rfl) ?_
    rintro _ _ _ ⟨v16, _, rfl, ⟨⟨t15, rfl, rfl, rfl⟩, rfl⟩, _, rfl⟩
    refine J.val (v := .bool (!t15)) rfl rfl (V.not rfl) ?_
    refine J.nil ?_
    refine CJ.cond rfl (fun hc19 => ?_) (fun hc19 => ?_)
    · have h := ct hc19 h
      refine CJ.seq ?_
      refine CJ.region ?_
      refine J.val (v := .int .i64 7) rfl rfl (V.as rfl) ?_
      refine J.nil ?_
      refine CJ.ret ?_
      have e := Option.some.inj h
      subst e
      exact ⟨_, [], Res.one rfl rfl, ⟨7, rfl, rfl, rfl⟩, (Hp.le_refl _), fun w hs => (Sep.dropAt 0 rfl hs)⟩
    · have h := cf hc19 h
      refine CJ.skip ?_
      refine CJ.seq ?_
      refine CJ.region ?_
      refine J.val (v := .int .i64 0) rfl rfl (V.as rfl) ?_
      refine J.nil ?_
      refine CJ.ret ?_
      have e := Option.some.inj h
      subst e
      exact ⟨_, [], Res.one rfl rfl, ⟨0, rfl, rfl, rfl⟩, (Hp.le_refl _), fun w hs => (Sep.dropAt 0 rfl hs)⟩
noncomputable def fn_law15_awake  : Option Bool :=
  (fn_row_Ref (([(3, false)] : List (Int × Bool))) 5 true).bind fun l86 => (fn_ref15_Same l86 (([(5, false), (3, true)] : List (Int × Bool)))).bind fun t106 => (cond (t106) ((fn_row_Has l86 3).bind fun t128 => some (t128)) (some (false))).bind fun t120 => (cond (t120) ((fn_row_Check l86 5).bind fun i150 => some (decide (i150 = 7))) (some (false))).bind fun t142 => some (t142)
set_option maxRecDepth 100000 in
set_option maxHeartbeats 4000000 in
theorem law15_awake_ok {K : Hp}    {r : Bool} (h : fn_law15_awake = some r) :
    Tr Try.prog 7 #[] K [] (fun v K' L' => (∃ (t77 : Bool), t77 = r ∧ v = .bool t77 ∧ L' = []) ∧ K = K') := by
  refine Tr.k ?_
  refine Tr.of Try.func7 rfl Try.ntmps7 rfl (fun E F => ?_)
  unfold fn_law15_awake at h
  refine CJ.seq ?_
  refine CJ.region ?_
  refine J.val (v := .bool false) rfl rfl (V.as rfl) ?_
  refine J.nil ?_
  refine CJ.seq ?_
  refine CJ.region ?_
  refine J.val (v := .agg #[.int .i64 3, .bool false]) rfl rfl (V.build inf42 places42 rfl rfl) ?_
  refine J.op rfl (A.lit (K0 := Hp.nil) (ty := (.cons (.int .i64) (.one .bool))) (xs := ([(3, false)] : List (Int × Bool))) Try.underlying22 inf42 rfl (by decide) rfl rfl rfl ⟨_, _, rfl, ⟨_, _, rfl, rfl, rfl, rfl⟩, rfl⟩ rfl (by decide)) ?_
  rintro _ _ _ ⟨b78, rfl, rfl, rfl⟩
  have hn79 : ([(3, false)] : List (Int × Bool)) ≠ [] → ∃ g, (some ⟨b78, 0, none⟩ : Option Addr) = some ⟨g, 0, none⟩ := fun _ => ⟨b78, rfl⟩
  refine J.val (v := .agg #[.slice (some ⟨b78, 0, none⟩) ((([(3, false)] : List (Int × Bool))).length) 1]) rfl rfl (V.build inf24 places24 rfl rfl) ?_
  refine J.persist (Hp.nil_le _) (by decide) (fun K81 hK82 f83 => ?_)
  obtain ⟨r84, hr85, h⟩ := ob h
  refine J.op rfl (A.call (L1 := []) Try.call24 rfl (row_Ref_ok f83 hr85) rfl rfl) ?_
  rintro _ _ _ ⟨v90, _, rfl, ⟨⟨l86, ad87, cp88, rfl, rfl, rfl⟩, rfl⟩, _, rfl⟩
  refine J.wit Row.hn (fun hn89 => ?_)
  refine J.op rfl (A.alloc (cs := [.slice none 0 0]) inf24 rfl) ?_
  rintro _ _ _ ⟨b94, rfl, rfl, rfl⟩
  refine J.op rfl (A.store (v := .agg #[.slice ad87 l86.length cp88]) (cs' := [.slice ad87 l86.length cp88]) sz24 rfl rfl rfl rfl rfl rfl) ?_
  rintro _ _ _ ⟨rfl, rfl, rfl⟩
  refine J.nil ?_
  refine CJ.seq ?_
  refine CJ.region ?_
  refine J.val (v := .agg #[.slice ad87 l86.length cp88]) rfl rfl (V.ld rfl (Ld.agg (cs := [.slice ad87 l86.length cp88]) Try.underlying24 sz24 rfl (Rd.cls 0 0 rfl rfl))) ?_
  refine J.val (v := .agg #[.int .i64 5, .bool false]) rfl rfl (V.build inf42 places42 rfl rfl) ?_
  refine J.val (v := .agg #[.int .i64 3, .bool true]) rfl rfl (V.build inf42 places42 rfl rfl) ?_
  refine J.op rfl (A.lit (K0 := Hp.nil) (ty := (.cons (.int .i64) (.one .bool))) (xs := ([(5, false), (3, true)] : List (Int × Bool))) Try.underlying22 inf42 rfl (by decide) rfl rfl rfl ⟨_, _, rfl, ⟨_, _, rfl, rfl, rfl, rfl⟩, ⟨_, _, rfl, ⟨_, _, rfl, rfl, rfl, rfl⟩, rfl⟩⟩ rfl (by decide)) ?_
  rintro _ _ _ ⟨b95, rfl, rfl, rfl⟩
  have hn96 : ([(5, false), (3, true)] : List (Int × Bool)) ≠ [] → ∃ g, (some ⟨b95, 0, none⟩ : Option Addr) = some ⟨g, 0, none⟩ := fun _ => ⟨b95, rfl⟩
  refine J.val (v := .agg #[.slice (some ⟨b95, 0, none⟩) ((([(5, false), (3, true)] : List (Int × Bool))).length) 2]) rfl rfl (V.build inf24 places24 rfl rfl) ?_
  obtain ⟨r98, hr99, h⟩ := ob h
  refine J.front 2 rfl ?_
  refine J.op rfl (A.call (L1 := [Row Hp.nil 42 (.cons (.int .i64) (.one .bool)) (.slice ad87 l86.length cp88) l86, Row Hp.nil 42 (.cons (.int .i64) (.one .bool)) (.slice (some ⟨b95, 0, none⟩) ((([(5, false), (3, true)] : List (Int × Bool))).length) 2) (([(5, false), (3, true)] : List (Int × Bool)))]) Try.call13 rfl (Tr.lend (Hp.nil_le _) (by decide) (fun K100 hK101 f102 => Tr.lend (Hp.nil_le _) (by decide) (fun K103 hK104 f105 => ref15_Same_ok (f102.mono hK104) f105 hr99))) rfl rfl) ?_
  rintro _ _ _ ⟨v107, _, rfl, ⟨⟨_, ⟨_, ⟨t106, rfl, rfl, rfl⟩, rfl⟩, rfl⟩, rfl⟩, _, rfl⟩
  refine J.val (v := .bool t106) rfl rfl (V.mv rfl) ?_
  refine J.cut 3 ?_
  obtain ⟨t120, ht121, h⟩ := ob h
  refine @J.meet _ _ _ _ _ _ _ _ _ _ (fun ρ K' L' => Fits [(15, .bool t120), (1, .pointer (some ⟨b94, 0, none⟩))] ρ ∧ K81 = K' ∧ L' = Row Hp.nil 42 (.cons (.int .i64) (.one .bool)) (.slice ad87 l86.length cp88) l86 :: Row Hp.nil 42 (.cons (.int .i64) (.one .bool)) (.slice (some ⟨b95, 0, none⟩) ((([(5, false), (3, true)] : List (Int × Bool))).length) 2) (([(5, false), (3, true)] : List (Int × Bool))) :: Cl b94 24 [.slice ad87 l86.length cp88] :: F) ?_ ?_
  · skip
    rcases bt (t106) with hc122 | hc122
    · have ht121 := ct hc122 ht121
      refine J.run rfl rfl rfl hc122 ?_
      refine J.val (v := .agg #[.slice ad87 l86.length cp88]) rfl rfl (V.ld rfl (Ld.agg (cs := [.slice ad87 l86.length cp88]) Try.underlying24 sz24 rfl (Rd.cls 2 0 rfl rfl))) ?_
      refine J.run rfl rfl rfl hc122 ?_
      obtain ⟨r123, hr124, ht121⟩ := ob ht121
      refine J.op rfl (A.call (L1 := [Row Hp.nil 42 (.cons (.int .i64) (.one .bool)) (.slice ad87 l86.length cp88) l86]) Try.call18 rfl (Tr.lend (Hp.nil_le _) (by decide) (fun K125 hK126 f127 => row_Has_ok f127 hr124)) rfl rfl) ?_
      rintro _ _ _ ⟨v129, _, rfl, ⟨⟨_, ⟨t128, rfl, rfl, rfl⟩, rfl⟩, rfl⟩, _, rfl⟩
      refine J.val (v := .bool t128) rfl rfl (V.pickT rfl hc122 rfl) ?_
      refine J.nil ?_
      have e := Option.some.inj ht121
      subst e
      exact ⟨rfl, ⟨rfl, rfl, trivial⟩, rfl, rfl⟩
    · have ht121 := cf hc122 ht121
      refine J.skip rfl rfl rfl rfl hc122 ?_
      refine J.skip rfl rfl rfl rfl hc122 ?_
      refine J.val (v := .bool false) rfl rfl (V.pickF rfl hc122 rfl) ?_
      refine J.nil ?_
      have e := Option.some.inj ht121
      subst e
      exact ⟨rfl, ⟨rfl, rfl, trivial⟩, rfl, rfl⟩
  · rintro ρ _ _ ⟨hf, rfl, rfl⟩
    obtain ⟨ρ, rfl⟩ := hf.ex
    refine J.val (v := .bool t120) rfl rfl (V.mv rfl) ?_
    refine J.cut 4 ?_
    obtain ⟨t142, ht143, h⟩ := ob h
    refine @J.meet _ _ _ _ _ _ _ _ _ _ (fun ρ K' L' => Fits [(20, .bool t142)] ρ ∧ K81 = K' ∧ L' = Row Hp.nil 42 (.cons (.int .i64) (.one .bool)) (.slice ad87 l86.length cp88) l86 :: Row Hp.nil 42 (.cons (.int .i64) (.one .bool)) (.slice (some ⟨b95, 0, none⟩) ((([(5, false), (3, true)] : List (Int × Bool))).length) 2) (([(5, false), (3, true)] : List (Int × Bool))) :: Cl b94 24 [.slice ad87 l86.length cp88] :: F) ?_ ?_
    · skip
      rcases bt (t120) with hc144 | hc144
      · have ht143 := ct hc144 ht143
        refine J.run rfl rfl rfl hc144 ?_
        refine J.val (v := .agg #[.slice ad87 l86.length cp88]) rfl rfl (V.ld rfl (Ld.agg (cs := [.slice ad87 l86.length cp88]) Try.underlying24 sz24 rfl (Rd.cls 2 0 rfl rfl))) ?_
        refine J.run rfl rfl rfl hc144 ?_
        obtain ⟨r145, hr146, ht143⟩ := ob ht143
        refine J.op rfl (A.call (L1 := [Row Hp.nil 42 (.cons (.int .i64) (.one .bool)) (.slice ad87 l86.length cp88) l86]) Try.call8 rfl (Tr.lend (Hp.nil_le _) (by decide) (fun K147 hK148 f149 => row_Check_ok f149 hr146)) rfl rfl) ?_
        rintro _ _ _ ⟨v151, _, rfl, ⟨⟨_, ⟨i150, rfl, rfl, rfl⟩, rfl⟩, rfl⟩, _, rfl⟩
        refine J.run rfl rfl rfl hc144 ?_
        refine J.val (v := .bool (decide (i150 = 7))) rfl rfl (V.eql rfl rfl) ?_
        refine J.val (v := .bool (decide (i150 = 7))) rfl rfl (V.pickT rfl hc144 rfl) ?_
        refine J.nil ?_
        have e := Option.some.inj ht143
        subst e
        exact ⟨rfl, ⟨rfl, trivial⟩, rfl, rfl⟩
      · have ht143 := cf hc144 ht143
        refine J.skip rfl rfl rfl rfl hc144 ?_
        refine J.skip rfl rfl rfl rfl hc144 ?_
        refine J.skip rfl rfl rfl rfl hc144 ?_
        refine J.val (v := .bool false) rfl rfl (V.pickF rfl hc144 rfl) ?_
        refine J.nil ?_
        have e := Option.some.inj ht143
        subst e
        exact ⟨rfl, ⟨rfl, trivial⟩, rfl, rfl⟩
    · rintro ρ _ _ ⟨hf, rfl, rfl⟩
      obtain ⟨ρ, rfl⟩ := hf.ex
      refine J.val (v := .bool t142) rfl rfl (V.as rfl) ?_
      refine J.nil ?_
      refine CJ.ret ?_
      have e := Option.some.inj h
      subst e
      exact ⟨_, [], Res.one rfl rfl, ⟨t142, rfl, rfl, rfl⟩, hK82, fun w hs => (Sep.dropAt 0 rfl (Sep.dropAt 0 rfl (Sep.dropAt 0 rfl hs)))⟩
noncomputable def fn_ref15_Check (xa : (List (Int × Bool))) (xb : Int) : Option Int :=
  cond (decide (16 < (((xa.length : Nat) : Int)))) (some (6)) ((loop (fun (i365 : Int) => (cond (decide (i365 < (((xa.length : Nat) : Int)))) ((getI xa i365).bind fun x405 => (cond (decide (x405.1 < 0)) (some (true)) ((getI xa i365).bind fun x427 => some (decide (xb ≤ x427.1)))).bind fun t424 => cond (t424) (some (.inr ((.inr (7))))) (some (.inl (IntKind.wrap .i64 (i365 + 1))))) (some (.inr ((.inl ())))) : Option (Int ⊕ (Unit ⊕ Int)))) 0 : Option (Unit ⊕ Int)).bind fun o => match o with | .inr r => some r | .inl () => some (0))
set_option maxRecDepth 100000 in
set_option maxHeartbeats 4000000 in
theorem ref15_Check_ok {K : Hp} {xa : (List (Int × Bool))} {xb : Int} {adxa_0 : Option Addr} {cpxa_0 : Nat} (fxa_0 : Is K (.sl (.cons (.int .i64) (.one .bool))) [.slice adxa_0 xa.length cpxa_0] xa) {r : Int} (h : fn_ref15_Check xa xb = some r) :
    Tr Try.prog 9 #[.agg #[.slice adxa_0 xa.length cpxa_0], .int .i64 xb] K [] (fun v K' L' => (∃ (i220 : Int), i220 = r ∧ v = .int .i64 i220 ∧ L' = []) ∧ K = K') := by
  refine Tr.k ?_
  refine Tr.of Try.func9 rfl Try.ntmps9 rfl (fun E F => ?_)
  unfold fn_ref15_Check at h
  refine CJ.seq ?_
  refine CJ.region ?_
  refine J.op rfl (A.box (v := .agg #[.slice adxa_0 xa.length cpxa_0]) (cs := [.slice adxa_0 xa.length cpxa_0]) rfl rfl) ?_
  rintro _ _ _ ⟨b221, rfl, rfl, rfl⟩
  refine J.val (v := .int .i64 0) rfl rfl (V.as rfl) ?_
  refine J.nil ?_
  refine CJ.seq ?_
  refine CJ.seq ?_
  refine CJ.region ?_
  refine J.val rfl rfl (V.fad Try.underlying24 rfl nz22 rfl) ?_
  refine J.val (v := .slice adxa_0 xa.length cpxa_0) rfl rfl (V.ld rfl (Ld.sc sc22 (Rd.cl 0 rfl rfl))) ?_
  refine J.val (v := .int .i64 (((xa.length : Nat) : Int))) rfl rfl (V.len Try.underlying22 rfl) ?_
  refine J.val (v := .bool (decide (16 < (((xa.length : Nat) : Int))))) rfl rfl (V.gtr rfl rfl) ?_
  refine J.nil ?_
  refine CJ.cond rfl (fun hc222 => ?_) (fun hc222 => ?_)
  · have h := ct hc222 h
    refine CJ.seq ?_
    refine CJ.region ?_
    refine J.val (v := .int .i64 6) rfl rfl (V.as rfl) ?_
    refine J.nil ?_
    refine CJ.ret ?_
    have e := Option.some.inj h
    subst e
    exact ⟨_, [], Res.one rfl rfl, ⟨6, rfl, rfl, rfl⟩, (Hp.le_refl _), fun w hs => (Sep.dropAt 0 rfl hs)⟩
  · have h := cf hc222 h
    refine CJ.skip ?_
    refine CJ.seq ?_
    refine CJ.seq ?_
    refine CJ.region ?_
    refine J.val (v := .int .i64 0) rfl rfl (V.as rfl) ?_
    refine J.nil ?_
    obtain ⟨o329, ho330, h⟩ := ob h
    refine CJ.joinN (o := o329) (fun s ρ K' L' => () = s ∧ Fits [] ρ ∧ K = K' ∧ L' = F) ?_ ?_
    · skip
      refine CJ.block ?_
      refine CJ.loop (fun s ρ K' L' => ∃ (i365 : Int), i365 = s ∧ Fits [(1, .int .i64 xb), (2, .pointer (some ⟨b221, 0, none⟩)), (5, .int .i64 i365)] ρ ∧ K = K' ∧ L' = Cl b221 24 [.slice adxa_0 xa.length cpxa_0] :: F) ho330 ⟨0, rfl, ⟨rfl, rfl, rfl, trivial⟩, rfl, rfl⟩ ?_
      rintro s ρ _ _ r403 ⟨i365, rfl, hf401, rfl, rfl⟩ h400
      obtain ⟨ρ, rfl⟩ := hf401.ex
      refine CJ.seq ?_
      refine CJ.seq ?_
      refine CJ.region ?_
      refine J.val (v := .int .i64 i365) rfl rfl (V.mv rfl) ?_
      refine J.val rfl rfl (V.fad Try.underlying24 rfl nz22 rfl) ?_
      refine J.val (v := .slice adxa_0 xa.length cpxa_0) rfl rfl (V.ld rfl (Ld.sc sc22 (Rd.cl 0 rfl rfl))) ?_
      refine J.val (v := .int .i64 (((xa.length : Nat) : Int))) rfl rfl (V.len Try.underlying22 rfl) ?_
      refine J.val (v := .bool (decide (i365 < (((xa.length : Nat) : Int))))) rfl rfl (V.lss rfl rfl) ?_
      refine J.nil ?_
      refine CJ.cond rfl (fun hc404 => ?_) (fun hc404 => ?_)
      · have h400 := ct hc404 h400
        refine CJ.skip ?_
        refine CJ.seq ?_
        refine CJ.block ?_
        refine CJ.seq ?_
        refine CJ.region ?_
        refine J.val rfl rfl (V.fad Try.underlying24 rfl nz22 rfl) ?_
        refine J.val (v := .slice adxa_0 xa.length cpxa_0) rfl rfl (V.ld rfl (Ld.sc sc22 (Rd.cl 0 rfl rfl))) ?_
        refine J.val (v := .int .i64 i365) rfl rfl (V.mv rfl) ?_
        obtain ⟨x405, hx406, h400⟩ := ob h400
        obtain ⟨p407, p408, p409⟩ := getI_some hx406
        obtain ⟨b410, o411, e412, a413⟩ := (fxa_0).at p408
        refine J.val rfl rfl (V.iad Try.underlying22 sz42 rfl e412 rfl p407 p409) ?_
        refine J.val rfl rfl (V.fad Try.underlying42 rfl nz3 rfl) ?_
        refine J.val (v := .int .i64 x405.1) rfl rfl (V.ld rfl (Ld.sc sc3 (Rd.k ((a413).fst).int (Hp.le_refl _)))) ?_
        refine J.val (v := .bool (decide (x405.1 < 0))) rfl rfl (V.lss rfl rfl) ?_
        refine J.val (v := .bool (decide (x405.1 < 0))) rfl rfl (V.mv rfl) ?_
        refine J.cut 9 ?_
        obtain ⟨t424, ht425, h400⟩ := ob h400
        refine @J.meet _ _ _ _ _ _ _ _ _ _ (fun ρ K' L' => Fits [(33, .bool t424), (1, .int .i64 xb), (2, .pointer (some ⟨b221, 0, none⟩)), (5, .int .i64 i365)] ρ ∧ K = K' ∧ L' = Cl b221 24 [.slice adxa_0 xa.length cpxa_0] :: F) ?_ ?_
        · skip
          rcases bt (decide (x405.1 < 0)) with hc426 | hc426
          · have ht425 := ct hc426 ht425
            refine J.skip rfl rfl rfl rfl hc426 ?_
            refine J.skip rfl rfl rfl rfl hc426 ?_
            refine J.skip rfl rfl rfl rfl hc426 ?_
            refine J.skip rfl rfl rfl rfl hc426 ?_
            refine J.skip rfl rfl rfl rfl hc426 ?_
            refine J.skip rfl rfl rfl rfl hc426 ?_
            refine J.skip rfl rfl rfl rfl hc426 ?_
            refine J.skip rfl rfl rfl rfl hc426 ?_
            refine J.val (v := .bool true) rfl rfl (V.pickT rfl hc426 rfl) ?_
            refine J.nil ?_
            have e := Option.some.inj ht425
            subst e
            exact ⟨rfl, ⟨rfl, rfl, rfl, rfl, trivial⟩, rfl, rfl⟩
          · have ht425 := cf hc426 ht425
            refine J.run rfl rfl rfl hc426 ?_
            refine J.val rfl rfl (V.fad Try.underlying24 rfl nz22 rfl) ?_
            refine J.run rfl rfl rfl hc426 ?_
            refine J.val (v := .slice adxa_0 xa.length cpxa_0) rfl rfl (V.ld rfl (Ld.sc sc22 (Rd.cl 0 rfl rfl))) ?_
            refine J.run rfl rfl rfl hc426 ?_
            refine J.val (v := .int .i64 i365) rfl rfl (V.mv rfl) ?_
            refine J.run rfl rfl rfl hc426 ?_
            obtain ⟨x427, hx428, ht425⟩ := ob ht425
            obtain ⟨p429, p430, p431⟩ := getI_some hx428
            obtain ⟨b432, o433, e434, a435⟩ := (fxa_0).at p430
            refine J.val rfl rfl (V.iad Try.underlying22 sz42 rfl e434 rfl p429 p431) ?_
            refine J.run rfl rfl rfl hc426 ?_
            refine J.val rfl rfl (V.fad Try.underlying42 rfl nz3 rfl) ?_
            refine J.run rfl rfl rfl hc426 ?_
            refine J.val (v := .int .i64 x427.1) rfl rfl (V.ld rfl (Ld.sc sc3 (Rd.k ((a435).fst).int (Hp.le_refl _)))) ?_
            refine J.run rfl rfl rfl hc426 ?_
            refine J.val (v := .int .i64 xb) rfl rfl (V.mv rfl) ?_
            refine J.run rfl rfl rfl hc426 ?_
            refine J.val (v := .bool (decide (xb ≤ x427.1))) rfl rfl (V.geq rfl rfl) ?_
            refine J.val (v := .bool (decide (xb ≤ x427.1))) rfl rfl (V.pickF rfl hc426 rfl) ?_
            refine J.nil ?_
            have e := Option.some.inj ht425
            subst e
            exact ⟨rfl, ⟨rfl, rfl, rfl, rfl, trivial⟩, rfl, rfl⟩
        · rintro ρ _ _ ⟨hf, rfl, rfl⟩
          obtain ⟨ρ, rfl⟩ := hf.ex
          refine J.nil ?_
          refine CJ.cond rfl (fun hc436 => ?_) (fun hc436 => ?_)
          · have h400 := ct hc436 h400
            refine CJ.seq ?_
            refine CJ.region ?_
            refine J.val (v := .int .i64 7) rfl rfl (V.as rfl) ?_
            refine J.nil ?_
            refine CJ.ret ?_
            have e := Option.some.inj h400
            subst e
            refine ⟨nofun, fun e => ?_⟩
            subst e
            refine .inr ⟨nofun, ?_⟩
            have e := Option.some.inj h
            subst e
            exact ⟨_, [], Res.one rfl rfl, ⟨7, rfl, rfl, rfl⟩, (Hp.le_refl _), fun w hs => (Sep.dropAt 0 rfl hs)⟩
          · have h400 := cf hc436 h400
            refine CJ.skip ?_
            refine CJ.region ?_
            refine J.val (v := .int .i64 i365) rfl rfl (V.mv rfl) ?_
            refine J.val (v := .int .i64 (IntKind.wrap .i64 (i365 + 1))) rfl rfl (V.add rfl rfl) ?_
            refine J.val (v := .int .i64 (IntKind.wrap .i64 (i365 + 1))) rfl rfl (V.as rfl) ?_
            refine J.nil ?_
            have e := Option.some.inj h400
            subst e
            exact ⟨rfl, ⟨IntKind.wrap .i64 (i365 + 1), rfl, ⟨rfl, rfl, rfl, trivial⟩, rfl, rfl⟩⟩
      · have h400 := cf hc404 h400
        refine CJ.dropAt 0 rfl ?_
        refine CJ.exit ?_
        have e := Option.some.inj h400
        subst e
        refine ⟨nofun, fun e => ?_⟩
        subst e
        exact .inl ⟨rfl, _, rfl, ⟨rfl, trivial, rfl, rfl⟩⟩
    · rintro s ρ _ _ ho437 ⟨rfl, hf438, rfl, rfl⟩
      subst ho437
      obtain ⟨ρ, rfl⟩ := hf438.ex
      refine PJ.done ?_
      refine CJ.seq ?_
      refine CJ.region ?_
      refine J.val (v := .int .i64 0) rfl rfl (V.as rfl) ?_
      refine J.nil ?_
      refine CJ.ret ?_
      have e := Option.some.inj h
      subst e
      exact ⟨_, [], Res.one rfl rfl, ⟨0, rfl, rfl, rfl⟩, (Hp.le_refl _), fun w hs => hs⟩
noncomputable def fn_row_Shape_1 (xa : (Int × Bool)) (xb : (Int × Bool)) : Option Bool :=
  some (xa.2 == xb.2)
set_option maxRecDepth 100000 in
set_option maxHeartbeats 4000000 in
theorem row_Shape_1_ok {K : Hp} {xa : (Int × Bool)} {xb : (Int × Bool)}   {r : Bool} (h : fn_row_Shape_1 xa xb = some r) :
    Tr Try.prog 28 #[.agg #[.int .i64 xa.1, .bool xa.2], .agg #[.int .i64 xb.1, .bool xb.2]] K [] (fun v K' L' => (∃ (t3 : Bool), t3 = r ∧ v = .bool t3 ∧ L' = []) ∧ K = K') := by
  refine Tr.k ?_
  refine Tr.of Try.func28 rfl Try.ntmps28 rfl (fun E F => ?_)
  unfold fn_row_Shape_1 at h
  refine CJ.seq ?_
  refine CJ.region ?_
  refine J.op rfl (A.box (v := .agg #[.int .i64 xa.1, .bool xa.2]) (cs := [.int .i64 xa.1, .bool xa.2]) rfl rfl) ?_
  rintro _ _ _ ⟨b4, rfl, rfl, rfl⟩
  refine J.op rfl (A.box (v := .agg #[.int .i64 xb.1, .bool xb.2]) (cs := [.int .i64 xb.1, .bool xb.2]) rfl rfl) ?_
  rintro _ _ _ ⟨b5, rfl, rfl, rfl⟩
  refine J.val (v := .bool false) rfl rfl (V.as rfl) ?_
  refine J.nil ?_
  refine CJ.seq ?_
  refine CJ.region ?_
  refine J.val rfl rfl (V.fad Try.underlying42 rfl nz4 rfl) ?_
  refine J.val (v := .bool xa.2) rfl rfl (V.ld rfl (Ld.sc sc4 (Rd.cl 1 rfl rfl))) ?_
  refine J.val rfl rfl (V.fad Try.underlying42 rfl nz4 rfl) ?_
  refine J.val (v := .bool xb.2) rfl rfl (V.ld rfl (Ld.sc sc4 (Rd.cl 0 rfl rfl))) ?_
  refine J.val (v := .bool (xa.2 == xb.2)) rfl rfl (V.eqb Try.underlying4 rfl rfl) ?_
  refine J.val (v := .bool (xa.2 == xb.2)) rfl rfl (V.as rfl) ?_
  refine J.nil ?_
  refine CJ.ret ?_
  have e := Option.some.inj h
  subst e
  exact ⟨_, [], Res.one rfl rfl, ⟨xa.2 == xb.2, rfl, rfl, rfl⟩, (Hp.le_refl _), fun w hs => (Sep.dropAt 0 rfl (Sep.dropAt 0 rfl hs))⟩
noncomputable def fn_slices_EqualFunc_api_Slot_api_Slot_api_Slot_api_Slot (xa : (List (Int × Bool))) (xb : (List (Int × Bool))) : Option Bool :=
  cond (!decide ((((xa.length : Nat) : Int)) = (((xb.length : Nat) : Int)))) (some (false)) ((loop (fun (i313 : Int) => (cond (decide (i313 < (((xa.length : Nat) : Int)))) ((getI xa i313).bind fun x348 => (getI xb i313).bind fun x358 => (fn_row_Shape_1 (x348.1, x348.2) (x358.1, x358.2)).bind fun t370 => cond (!t370) (some (.inr ((.inr (false))))) (some (.inl (IntKind.wrap .i64 (i313 + 1))))) (some (.inr ((.inl ())))) : Option (Int ⊕ (Unit ⊕ Bool)))) 0 : Option (Unit ⊕ Bool)).bind fun o => match o with | .inr r => some r | .inl () => some (true))
set_option maxRecDepth 100000 in
set_option maxHeartbeats 4000000 in
theorem slices_EqualFunc_api_Slot_api_Slot_api_Slot_api_Slot_ok {K : Hp} {xa : (List (Int × Bool))} {xb : (List (Int × Bool))} {adxa_0 : Option Addr} {cpxa_0 : Nat} {adxb_0 : Option Addr} {cpxb_0 : Nat} (fxa_0 : Is K (.sl (.cons (.int .i64) (.one .bool))) [.slice adxa_0 xa.length cpxa_0] xa) (fxb_0 : Is K (.sl (.cons (.int .i64) (.one .bool))) [.slice adxb_0 xb.length cpxb_0] xb) {r : Bool} (h : fn_slices_EqualFunc_api_Slot_api_Slot_api_Slot_api_Slot xa xb = some r) :
    Tr Try.prog 27 #[.slice adxa_0 xa.length cpxa_0, .slice adxb_0 xb.length cpxb_0, .func (.func 28) #[] #[]] K [] (fun v K' L' => (∃ (t189 : Bool), t189 = r ∧ v = .bool t189 ∧ L' = []) ∧ K = K') := by
  refine Tr.k ?_
  refine Tr.of Try.func27 rfl Try.ntmps27 rfl (fun E F => ?_)
  unfold fn_slices_EqualFunc_api_Slot_api_Slot_api_Slot_api_Slot at h
  refine CJ.seq ?_
  refine CJ.region ?_
  refine J.val (v := .bool false) rfl rfl (V.as rfl) ?_
  refine J.nil ?_
  refine CJ.seq ?_
  refine CJ.seq ?_
  refine CJ.region ?_
  refine J.val (v := .slice adxa_0 xa.length cpxa_0) rfl rfl (V.mv rfl) ?_
  refine J.val (v := .int .i64 (((xa.length : Nat) : Int))) rfl rfl (V.len Try.underlying22 rfl) ?_
  refine J.val (v := .slice adxb_0 xb.length cpxb_0) rfl rfl (V.mv rfl) ?_
  refine J.val (v := .int .i64 (((xb.length : Nat) : Int))) rfl rfl (V.len Try.underlying22 rfl) ?_
  refine J.val (v := .bool (!decide ((((xa.length : Nat) : Int)) = (((xb.length : Nat) : Int))))) rfl rfl (V.neq rfl rfl) ?_
  refine J.nil ?_
  refine CJ.cond rfl (fun hc190 => ?_) (fun hc190 => ?_)
  · have h := ct hc190 h
    refine CJ.seq ?_
    refine CJ.region ?_
    refine J.val (v := .bool false) rfl rfl (V.as rfl) ?_
    refine J.nil ?_
    refine CJ.ret ?_
    have e := Option.some.inj h
    subst e
    exact ⟨_, [], Res.one rfl rfl, ⟨false, rfl, rfl, rfl⟩, (Hp.le_refl _), fun w hs => hs⟩
  · have h := cf hc190 h
    refine CJ.skip ?_
    refine CJ.seq ?_
    refine CJ.seq ?_
    refine CJ.region ?_
    refine J.val (v := .slice adxa_0 xa.length cpxa_0) rfl rfl (V.mv rfl) ?_
    refine J.val (v := .int .i64 (((xa.length : Nat) : Int))) rfl rfl (V.len Try.underlying22 rfl) ?_
    refine J.val (v := .int .i64 0) rfl rfl (V.mv rfl) ?_
    refine J.nil ?_
    obtain ⟨o282, ho283, h⟩ := ob h
    refine CJ.joinN (o := o282) (fun s ρ K' L' => () = s ∧ Fits [] ρ ∧ K = K' ∧ L' = F) ?_ ?_
    · skip
      refine CJ.block ?_
      refine CJ.loop (fun s ρ K' L' => ∃ (i313 : Int), i313 = s ∧ Fits [(1, .slice adxb_0 xb.length cpxb_0), (2, .func (.func 28) #[] #[]), (15, .slice adxa_0 xa.length cpxa_0), (16, .int .i64 (((xa.length : Nat) : Int))), (17, .int .i64 i313)] ρ ∧ K = K' ∧ L' = F) ho283 ⟨0, rfl, ⟨rfl, rfl, rfl, rfl, rfl, trivial⟩, rfl, rfl⟩ ?_
      rintro s ρ _ _ r346 ⟨i313, rfl, hf344, rfl, rfl⟩ h343
      obtain ⟨ρ, rfl⟩ := hf344.ex
      refine CJ.seq ?_
      refine CJ.region ?_
      refine J.val (v := .bool (decide (i313 < (((xa.length : Nat) : Int))))) rfl rfl (V.lss rfl rfl) ?_
      refine J.nil ?_
      refine CJ.seq ?_
      refine CJ.cond rfl (fun hc347 => ?_) (fun hc347 => ?_)
      · have h343 := ct hc347 h343
        refine CJ.skip ?_
        refine CJ.seq ?_
        refine CJ.block ?_
        refine CJ.seq ?_
        refine CJ.region ?_
        refine J.val (v := .int .i64 i313) rfl rfl (V.mv rfl) ?_
        obtain ⟨x348, hx349, h343⟩ := ob h343
        obtain ⟨p350, p351, p352⟩ := getI_some hx349
        obtain ⟨b353, o354, e355, a356⟩ := (fxa_0).at p351
        refine J.val rfl rfl (V.iad Try.underlying22 sz42 rfl e355 rfl p350 p352) ?_
        refine J.val (v := .agg #[.int .i64 x348.1, .bool x348.2]) rfl rfl (V.ld rfl (Ld.aggK (cs := [.int .i64 x348.1, .bool x348.2]) Try.underlying42 sz42 rfl ⟨((a356).fst).int, (((a356).snd).one).bool, trivial⟩ (Hp.le_refl _))) ?_
        refine J.op rfl (A.alloc (cs := [.int .i64 0, .bool false]) inf42 rfl) ?_
        rintro _ _ _ ⟨b357, rfl, rfl, rfl⟩
        refine J.val (v := .int .i64 i313) rfl rfl (V.as rfl) ?_
        refine J.op rfl (A.store (v := .agg #[.int .i64 x348.1, .bool x348.2]) (cs' := [.int .i64 x348.1, .bool x348.2]) sz42 rfl rfl rfl rfl rfl rfl) ?_
        rintro _ _ _ ⟨rfl, rfl, rfl⟩
        refine J.nil ?_
        refine CJ.seq ?_
        refine CJ.region ?_
        refine J.val (v := .slice adxb_0 xb.length cpxb_0) rfl rfl (V.mv rfl) ?_
        refine J.val (v := .int .i64 i313) rfl rfl (V.mv rfl) ?_
        obtain ⟨x358, hx359, h343⟩ := ob h343
        obtain ⟨p360, p361, p362⟩ := getI_some hx359
        obtain ⟨b363, o364, e365, a366⟩ := (fxb_0).at p361
        refine J.val rfl rfl (V.iad Try.underlying22 sz42 rfl e365 rfl p360 p362) ?_
        refine J.val (v := .agg #[.int .i64 x358.1, .bool x358.2]) rfl rfl (V.ld rfl (Ld.aggK (cs := [.int .i64 x358.1, .bool x358.2]) Try.underlying42 sz42 rfl ⟨((a366).fst).int, (((a366).snd).one).bool, trivial⟩ (Hp.le_refl _))) ?_
        refine J.op rfl (A.alloc (cs := [.int .i64 0, .bool false]) inf42 rfl) ?_
        rintro _ _ _ ⟨b367, rfl, rfl, rfl⟩
        refine J.op rfl (A.store (v := .agg #[.int .i64 x358.1, .bool x358.2]) (cs' := [.int .i64 x358.1, .bool x358.2]) sz42 rfl rfl rfl rfl rfl rfl) ?_
        rintro _ _ _ ⟨rfl, rfl, rfl⟩
        refine J.nil ?_
        refine CJ.seq ?_
        refine CJ.region ?_
        refine J.val (v := .func (.func 28) #[] #[]) rfl rfl (V.mv rfl) ?_
        refine J.val (v := .agg #[.int .i64 x348.1, .bool x348.2]) rfl rfl (V.ld rfl (Ld.agg (cs := [.int .i64 x348.1, .bool x348.2]) Try.underlying42 sz42 rfl (Rd.cls 1 0 rfl rfl))) ?_
        refine J.val (v := .agg #[.int .i64 x358.1, .bool x358.2]) rfl rfl (V.ld rfl (Ld.agg (cs := [.int .i64 x358.1, .bool x358.2]) Try.underlying42 sz42 rfl (Rd.cls 0 0 rfl rfl))) ?_
        obtain ⟨r368, hr369, h343⟩ := ob h343
        refine J.op rfl (A.call (L1 := []) Try.call28 rfl (row_Shape_1_ok hr369) rfl rfl) ?_
        rintro _ _ _ ⟨v371, _, rfl, ⟨⟨t370, rfl, rfl, rfl⟩, rfl⟩, _, rfl⟩
        refine J.val (v := .bool (!t370)) rfl rfl (V.not rfl) ?_
        refine J.nil ?_
        refine CJ.cond rfl (fun hc374 => ?_) (fun hc374 => ?_)
        · have h343 := ct hc374 h343
          refine CJ.seq ?_
          refine CJ.region ?_
          refine J.val (v := .bool false) rfl rfl (V.as rfl) ?_
          refine J.nil ?_
          refine CJ.ret ?_
          have e := Option.some.inj h343
          subst e
          refine ⟨nofun, fun e => ?_⟩
          subst e
          refine .inr ⟨nofun, ?_⟩
          have e := Option.some.inj h
          subst e
          exact ⟨_, [], Res.one rfl rfl, ⟨false, rfl, rfl, rfl⟩, (Hp.le_refl _), fun w hs => (Sep.dropAt 0 rfl (Sep.dropAt 0 rfl hs))⟩
        · have h343 := cf hc374 h343
          refine CJ.skip ?_
          refine CJ.region ?_
          refine J.val (v := .int .i64 (IntKind.wrap .i64 (i313 + 1))) rfl rfl (V.add rfl rfl) ?_
          refine J.val (v := .int .i64 (IntKind.wrap .i64 (i313 + 1))) rfl rfl (V.mv rfl) ?_
          refine J.dropAt 0 rfl ?_
          refine J.dropAt 0 rfl ?_
          refine J.nil ?_
          have e := Option.some.inj h343
          subst e
          exact ⟨rfl, ⟨IntKind.wrap .i64 (i313 + 1), rfl, ⟨rfl, rfl, rfl, rfl, rfl, trivial⟩, rfl, rfl⟩⟩
      · have h343 := cf hc347 h343
        refine CJ.exit ?_
        have e := Option.some.inj h343
        subst e
        refine ⟨nofun, fun e => ?_⟩
        subst e
        exact .inl ⟨rfl, _, rfl, ⟨rfl, trivial, rfl, rfl⟩⟩
    · rintro s ρ _ _ ho375 ⟨rfl, hf376, rfl, rfl⟩
      subst ho375
      obtain ⟨ρ, rfl⟩ := hf376.ex
      refine PJ.done ?_
      refine CJ.seq ?_
      refine CJ.region ?_
      refine J.val (v := .bool true) rfl rfl (V.as rfl) ?_
      refine J.nil ?_
      refine CJ.ret ?_
      have e := Option.some.inj h
      subst e
      exact ⟨_, [], Res.one rfl rfl, ⟨true, rfl, rfl, rfl⟩, (Hp.le_refl _), fun w hs => hs⟩
noncomputable def fn_row_Shape (xa : (List (Int × Bool))) (xb : (List (Int × Bool))) : Option Bool :=
  (fn_slices_EqualFunc_api_Slot_api_Slot_api_Slot_api_Slot xa xb).bind fun t14 => some (t14)
set_option maxRecDepth 100000 in
set_option maxHeartbeats 4000000 in
theorem row_Shape_ok {K : Hp} {xa : (List (Int × Bool))} {xb : (List (Int × Bool))} {adxa_0 : Option Addr} {cpxa_0 : Nat} {adxb_0 : Option Addr} {cpxb_0 : Nat} (fxa_0 : Is K (.sl (.cons (.int .i64) (.one .bool))) [.slice adxa_0 xa.length cpxa_0] xa) (fxb_0 : Is K (.sl (.cons (.int .i64) (.one .bool))) [.slice adxb_0 xb.length cpxb_0] xb) {r : Bool} (h : fn_row_Shape xa xb = some r) :
    Tr Try.prog 10 #[.agg #[.slice adxa_0 xa.length cpxa_0], .agg #[.slice adxb_0 xb.length cpxb_0]] K [] (fun v K' L' => (∃ (t9 : Bool), t9 = r ∧ v = .bool t9 ∧ L' = []) ∧ K = K') := by
  refine Tr.k ?_
  refine Tr.of Try.func10 rfl Try.ntmps10 rfl (fun E F => ?_)
  unfold fn_row_Shape at h
  refine CJ.seq ?_
  refine CJ.region ?_
  refine J.op rfl (A.box (v := .agg #[.slice adxa_0 xa.length cpxa_0]) (cs := [.slice adxa_0 xa.length cpxa_0]) rfl rfl) ?_
  rintro _ _ _ ⟨b10, rfl, rfl, rfl⟩
  refine J.op rfl (A.box (v := .agg #[.slice adxb_0 xb.length cpxb_0]) (cs := [.slice adxb_0 xb.length cpxb_0]) rfl rfl) ?_
  rintro _ _ _ ⟨b11, rfl, rfl, rfl⟩
  refine J.val (v := .bool false) rfl rfl (V.as rfl) ?_
  refine J.nil ?_
  refine CJ.seq ?_
  refine CJ.region ?_
  refine J.val rfl rfl (V.fad Try.underlying24 rfl nz22 rfl) ?_
  refine J.val (v := .slice adxa_0 xa.length cpxa_0) rfl rfl (V.ld rfl (Ld.sc sc22 (Rd.cl 1 rfl rfl))) ?_
  refine J.val rfl rfl (V.fad Try.underlying24 rfl nz22 rfl) ?_
  refine J.val (v := .slice adxb_0 xb.length cpxb_0) rfl rfl (V.ld rfl (Ld.sc sc22 (Rd.cl 0 rfl rfl))) ?_
  obtain ⟨r12, hr13, h⟩ := ob h
  refine J.op rfl (A.call (L1 := []) Try.call27 rfl (slices_EqualFunc_api_Slot_api_Slot_api_Slot_api_Slot_ok fxa_0 fxb_0 hr13) rfl rfl) ?_
  rintro _ _ _ ⟨v15, _, rfl, ⟨⟨t14, rfl, rfl, rfl⟩, rfl⟩, _, rfl⟩
  refine J.val (v := .bool t14) rfl rfl (V.as rfl) ?_
  refine J.nil ?_
  refine CJ.ret ?_
  have e := Option.some.inj h
  subst e
  exact ⟨_, [], Res.one rfl rfl, ⟨t14, rfl, rfl, rfl⟩, (Hp.le_refl _), fun w hs => (Sep.dropAt 0 rfl (Sep.dropAt 0 rfl hs))⟩
noncomputable def fn_slices_Equal_api_Slot_api_Slot (xa : (List (Int × Bool))) (xb : (List (Int × Bool))) : Option Bool :=
  cond (!decide ((((xa.length : Nat) : Int)) = (((xb.length : Nat) : Int)))) (some (false)) ((loop (fun (i413 : Int) => (cond (decide (i413 < (((xa.length : Nat) : Int)))) ((getI xa i413).bind fun x476 => (getI xb i413).bind fun x485 => cond (!((decide (x476.1 = x485.1)) && (x476.2 == x485.2))) (some (.inr ((.inr (false))))) (some (.inl (IntKind.wrap .i64 (i413 + 1))))) (some (.inr ((.inl ())))) : Option (Int ⊕ (Unit ⊕ Bool)))) 0 : Option (Unit ⊕ Bool)).bind fun o => match o with | .inr r => some r | .inl () => some (true))
set_option maxRecDepth 100000 in
set_option maxHeartbeats 4000000 in
theorem slices_Equal_api_Slot_api_Slot_ok {K : Hp} {xa : (List (Int × Bool))} {xb : (List (Int × Bool))} {adxa_0 : Option Addr} {cpxa_0 : Nat} {adxb_0 : Option Addr} {cpxb_0 : Nat} (fxa_0 : Is K (.sl (.cons (.int .i64) (.one .bool))) [.slice adxa_0 xa.length cpxa_0] xa) (fxb_0 : Is K (.sl (.cons (.int .i64) (.one .bool))) [.slice adxb_0 xb.length cpxb_0] xb) {r : Bool} (h : fn_slices_Equal_api_Slot_api_Slot xa xb = some r) :
    Tr Try.prog 29 #[.slice adxa_0 xa.length cpxa_0, .slice adxb_0 xb.length cpxb_0] K [] (fun v K' L' => (∃ (t249 : Bool), t249 = r ∧ v = .bool t249 ∧ L' = []) ∧ K = K') := by
  refine Tr.k ?_
  refine Tr.of Try.func29 rfl Try.ntmps29 rfl (fun E F => ?_)
  unfold fn_slices_Equal_api_Slot_api_Slot at h
  refine CJ.seq ?_
  refine CJ.region ?_
  refine J.val (v := .bool false) rfl rfl (V.as rfl) ?_
  refine J.nil ?_
  refine CJ.seq ?_
  refine CJ.seq ?_
  refine CJ.region ?_
  refine J.val (v := .slice adxa_0 xa.length cpxa_0) rfl rfl (V.mv rfl) ?_
  refine J.val (v := .int .i64 (((xa.length : Nat) : Int))) rfl rfl (V.len Try.underlying22 rfl) ?_
  refine J.val (v := .slice adxb_0 xb.length cpxb_0) rfl rfl (V.mv rfl) ?_
  refine J.val (v := .int .i64 (((xb.length : Nat) : Int))) rfl rfl (V.len Try.underlying22 rfl) ?_
  refine J.val (v := .bool (!decide ((((xa.length : Nat) : Int)) = (((xb.length : Nat) : Int))))) rfl rfl (V.neq rfl rfl) ?_
  refine J.nil ?_
  refine CJ.cond rfl (fun hc250 => ?_) (fun hc250 => ?_)
  · have h := ct hc250 h
    refine CJ.seq ?_
    refine CJ.region ?_
    refine J.val (v := .bool false) rfl rfl (V.as rfl) ?_
    refine J.nil ?_
    refine CJ.ret ?_
    have e := Option.some.inj h
    subst e
    exact ⟨_, [], Res.one rfl rfl, ⟨false, rfl, rfl, rfl⟩, (Hp.le_refl _), fun w hs => hs⟩
  · have h := cf hc250 h
    refine CJ.skip ?_
    refine CJ.seq ?_
    refine CJ.seq ?_
    refine CJ.region ?_
    refine J.val (v := .slice adxa_0 xa.length cpxa_0) rfl rfl (V.mv rfl) ?_
    refine J.val (v := .int .i64 (((xa.length : Nat) : Int))) rfl rfl (V.len Try.underlying22 rfl) ?_
    refine J.val (v := .int .i64 0) rfl rfl (V.mv rfl) ?_
    refine J.nil ?_
    obtain ⟨o372, ho373, h⟩ := ob h
    refine CJ.joinN (o := o372) (fun s ρ K' L' => () = s ∧ Fits [] ρ ∧ K = K' ∧ L' = F) ?_ ?_
    · skip
      refine CJ.block ?_
      refine CJ.loop (fun s ρ K' L' => ∃ (i413 : Int), i413 = s ∧ Fits [(0, .slice adxa_0 xa.length cpxa_0), (1, .slice adxb_0 xb.length cpxb_0), (12, .int .i64 (((xa.length : Nat) : Int))), (13, .int .i64 i413)] ρ ∧ K = K' ∧ L' = F) ho373 ⟨0, rfl, ⟨rfl, rfl, rfl, rfl, trivial⟩, rfl, rfl⟩ ?_
      rintro s ρ _ _ r456 ⟨i413, rfl, hf454, rfl, rfl⟩ h453
      obtain ⟨ρ, rfl⟩ := hf454.ex
      refine CJ.seq ?_
      refine CJ.region ?_
      refine J.val (v := .bool (decide (i413 < (((xa.length : Nat) : Int))))) rfl rfl (V.lss rfl rfl) ?_
      refine J.nil ?_
      refine CJ.seq ?_
      refine CJ.cond rfl (fun hc457 => ?_) (fun hc457 => ?_)
      · have h453 := ct hc457 h453
        refine CJ.skip ?_
        refine CJ.seq ?_
        refine CJ.block ?_
        refine CJ.seq ?_
        refine CJ.region ?_
        refine J.val (v := .int .i64 i413) rfl rfl (V.mv rfl) ?_
        refine J.val (v := .int .i64 i413) rfl rfl (V.as rfl) ?_
        refine J.nil ?_
        refine CJ.seq ?_
        refine CJ.mix [] [] [0, 1, 2, 3, 4, 5, 6, 7, 8] [] mixO (by decide +kernel) trivial rfl rfl rfl ?_
        refine JM.nil ?_
        refine JQ.val (v := .slice adxa_0 xa.length cpxa_0) rfl rfl (V.mv rfl) ?_
        refine JQ.val (v := .int .i64 i413) rfl rfl (V.mv rfl) ?_
        obtain ⟨x476, hx477, h453⟩ := ob h453
        obtain ⟨p478, p479, p480⟩ := getI_some hx477
        obtain ⟨b481, o482, e483, a484⟩ := (fxa_0).at p479
        refine JQ.val rfl rfl (V.iad Try.underlying22 sz42 rfl e483 rfl p478 p480) ?_
        refine JQ.val (v := .agg #[.int .i64 x476.1, .bool x476.2]) rfl rfl (V.ld rfl (Ld.aggK (cs := [.int .i64 x476.1, .bool x476.2]) Try.underlying42 sz42 rfl ⟨((a484).fst).int, (((a484).snd).one).bool, trivial⟩ (Hp.le_refl _))) ?_
        refine JQ.val (v := .slice adxb_0 xb.length cpxb_0) rfl rfl (V.mv rfl) ?_
        refine JQ.val (v := .int .i64 i413) rfl rfl (V.mv rfl) ?_
        obtain ⟨x485, hx486, h453⟩ := ob h453
        obtain ⟨p487, p488, p489⟩ := getI_some hx486
        obtain ⟨b490, o491, e492, a493⟩ := (fxb_0).at p488
        refine JQ.val rfl rfl (V.iad Try.underlying22 sz42 rfl e492 rfl p487 p489) ?_
        refine JQ.val (v := .agg #[.int .i64 x485.1, .bool x485.2]) rfl rfl (V.ld rfl (Ld.aggK (cs := [.int .i64 x485.1, .bool x485.2]) Try.underlying42 sz42 rfl ⟨((a493).fst).int, (((a493).snd).one).bool, trivial⟩ (Hp.le_refl _))) ?_
        refine JQ.val (v := .bool (!((decide (x476.1 = x485.1)) && (x476.2 == x485.2)))) rfl rfl (V.nest eqg42 (EqIn.st (d := 9999) rfl Try.underlying42 sih42 (EqFs.cons (by decide) (Ld0.sc sc3 rfl) (Ld0.sc sc3 rfl) (EqIn.int (d := 9998) rfl Try.underlying3) (EqFs.last (by decide) (Ld0.sc sc4 rfl) (Ld0.sc sc4 rfl) (EqIn.bool (d := 9998) rfl Try.underlying4)))) rfl rfl) ?_
        refine JQ.nil ?_
        refine J.nil ?_
        refine CJ.cond rfl (fun hc494 => ?_) (fun hc494 => ?_)
        · have h453 := ct hc494 h453
          refine CJ.seq ?_
          refine CJ.region ?_
          refine J.val (v := .bool false) rfl rfl (V.as rfl) ?_
          refine J.nil ?_
          refine CJ.ret ?_
          have e := Option.some.inj h453
          subst e
          refine ⟨nofun, fun e => ?_⟩
          subst e
          refine .inr ⟨nofun, ?_⟩
          have e := Option.some.inj h
          subst e
          exact ⟨_, [], Res.one rfl rfl, ⟨false, rfl, rfl, rfl⟩, (Hp.le_refl _), fun w hs => hs⟩
        · have h453 := cf hc494 h453
          refine CJ.skip ?_
          refine CJ.region ?_
          refine J.val (v := .int .i64 (IntKind.wrap .i64 (i413 + 1))) rfl rfl (V.add rfl rfl) ?_
          refine J.val (v := .int .i64 (IntKind.wrap .i64 (i413 + 1))) rfl rfl (V.mv rfl) ?_
          refine J.nil ?_
          have e := Option.some.inj h453
          subst e
          exact ⟨rfl, ⟨IntKind.wrap .i64 (i413 + 1), rfl, ⟨rfl, rfl, rfl, rfl, trivial⟩, rfl, rfl⟩⟩
      · have h453 := cf hc457 h453
        refine CJ.exit ?_
        have e := Option.some.inj h453
        subst e
        refine ⟨nofun, fun e => ?_⟩
        subst e
        exact .inl ⟨rfl, _, rfl, ⟨rfl, trivial, rfl, rfl⟩⟩
    · rintro s ρ _ _ ho495 ⟨rfl, hf496, rfl, rfl⟩
      subst ho495
      obtain ⟨ρ, rfl⟩ := hf496.ex
      refine PJ.done ?_
      refine CJ.seq ?_
      refine CJ.region ?_
      refine J.val (v := .bool true) rfl rfl (V.as rfl) ?_
      refine J.nil ?_
      refine CJ.ret ?_
      have e := Option.some.inj h
      subst e
      exact ⟨_, [], Res.one rfl rfl, ⟨true, rfl, rfl, rfl⟩, (Hp.le_refl _), fun w hs => hs⟩
noncomputable def fn_row_Same (xa : (List (Int × Bool))) (xb : (List (Int × Bool))) : Option Bool :=
  (fn_slices_Equal_api_Slot_api_Slot xa xb).bind fun t14 => some (t14)
set_option maxRecDepth 100000 in
set_option maxHeartbeats 4000000 in
theorem row_Same_ok {K : Hp} {xa : (List (Int × Bool))} {xb : (List (Int × Bool))} {adxa_0 : Option Addr} {cpxa_0 : Nat} {adxb_0 : Option Addr} {cpxb_0 : Nat} (fxa_0 : Is K (.sl (.cons (.int .i64) (.one .bool))) [.slice adxa_0 xa.length cpxa_0] xa) (fxb_0 : Is K (.sl (.cons (.int .i64) (.one .bool))) [.slice adxb_0 xb.length cpxb_0] xb) {r : Bool} (h : fn_row_Same xa xb = some r) :
    Tr Try.prog 12 #[.agg #[.slice adxa_0 xa.length cpxa_0], .agg #[.slice adxb_0 xb.length cpxb_0]] K [] (fun v K' L' => (∃ (t9 : Bool), t9 = r ∧ v = .bool t9 ∧ L' = []) ∧ K = K') := by
  refine Tr.k ?_
  refine Tr.of Try.func12 rfl Try.ntmps12 rfl (fun E F => ?_)
  unfold fn_row_Same at h
  refine CJ.seq ?_
  refine CJ.region ?_
  refine J.op rfl (A.box (v := .agg #[.slice adxa_0 xa.length cpxa_0]) (cs := [.slice adxa_0 xa.length cpxa_0]) rfl rfl) ?_
  rintro _ _ _ ⟨b10, rfl, rfl, rfl⟩
  refine J.op rfl (A.box (v := .agg #[.slice adxb_0 xb.length cpxb_0]) (cs := [.slice adxb_0 xb.length cpxb_0]) rfl rfl) ?_
  rintro _ _ _ ⟨b11, rfl, rfl, rfl⟩
  refine J.val (v := .bool false) rfl rfl (V.as rfl) ?_
  refine J.nil ?_
  refine CJ.seq ?_
  refine CJ.region ?_
  refine J.val rfl rfl (V.fad Try.underlying24 rfl nz22 rfl) ?_
  refine J.val (v := .slice adxa_0 xa.length cpxa_0) rfl rfl (V.ld rfl (Ld.sc sc22 (Rd.cl 1 rfl rfl))) ?_
  refine J.val rfl rfl (V.fad Try.underlying24 rfl nz22 rfl) ?_
  refine J.val (v := .slice adxb_0 xb.length cpxb_0) rfl rfl (V.ld rfl (Ld.sc sc22 (Rd.cl 0 rfl rfl))) ?_
  obtain ⟨r12, hr13, h⟩ := ob h
  refine J.op rfl (A.call (L1 := []) Try.call29 rfl (slices_Equal_api_Slot_api_Slot_ok fxa_0 fxb_0 hr13) rfl rfl) ?_
  rintro _ _ _ ⟨v15, _, rfl, ⟨⟨t14, rfl, rfl, rfl⟩, rfl⟩, _, rfl⟩
  refine J.val (v := .bool t14) rfl rfl (V.as rfl) ?_
  refine J.nil ?_
  refine CJ.ret ?_
  have e := Option.some.inj h
  subst e
  exact ⟨_, [], Res.one rfl rfl, ⟨t14, rfl, rfl, rfl⟩, (Hp.le_refl _), fun w hs => (Sep.dropAt 0 rfl (Sep.dropAt 0 rfl hs))⟩
noncomputable def fn_slices_Clone_api_Slot_api_Slot (xa : (List (Int × Bool))) : Option ((List (Int × Bool))) :=
  nilb xa (some ([])) ((app (([] : List (Int × Bool))) xa).bind fun z21 => some (z21))
set_option maxRecDepth 100000 in
set_option maxHeartbeats 4000000 in
theorem slices_Clone_api_Slot_api_Slot_ok {K : Hp} {xa : (List (Int × Bool))} {adxa_0 : Option Addr} {cpxa_0 : Nat} (fxa_0 : Is K (.sl (.cons (.int .i64) (.one .bool))) [.slice adxa_0 xa.length cpxa_0] xa) {r : (List (Int × Bool))} (h : fn_slices_Clone_api_Slot_api_Slot xa = some r) :
    Tr Try.prog 30 #[.slice adxa_0 xa.length cpxa_0] K [] (fun v K' L' => (∃ (l11 : (List (Int × Bool))) (ad12 : Option Addr) (cp13 : Nat), l11 = r ∧ v = .slice ad12 l11.length cp13 ∧ L' = [Row Hp.nil 42 (.cons (.int .i64) (.one .bool)) (.slice ad12 l11.length cp13) l11]) ∧ K = K') := by
  refine Tr.k ?_
  refine Tr.of Try.func30 rfl Try.ntmps30 rfl (fun E F => ?_)
  unfold fn_slices_Clone_api_Slot_api_Slot at h
  refine CJ.seq ?_
  refine CJ.region ?_
  refine J.val (v := .slice none 0 0) rfl rfl (V.as rfl) ?_
  refine J.nil ?_
  refine CJ.seq ?_
  refine CJ.seq ?_
  refine CJ.region ?_
  refine J.val (v := .slice adxa_0 xa.length cpxa_0) rfl rfl (V.mv rfl) ?_
  refine J.val (v := .bool adxa_0.isNone) rfl rfl (V.sn_eql Try.underlying22 rfl rfl) ?_
  refine J.nil ?_
  rcases adxa_0 with _ | ad16
  · have h := nilb_nil ((fxa_0).nil_of) h
    refine CJ.condK (b := true) rfl rfl ?_
    refine CJ.seq ?_
    refine CJ.region ?_
    refine J.val (v := .slice none 0 0) rfl rfl (V.as rfl) ?_
    refine J.nil ?_
    refine CJ.by (fun w hs => Sep.rowNil (e := 42) (t := (.cons (.int .i64) (.one .bool))) hs) ?_
    refine CJ.ret ?_
    have e := Option.some.inj h
    subst e
    exact ⟨_, [Row Hp.nil 42 (.cons (.int .i64) (.one .bool)) (.slice none ((([] : List (Int × Bool))).length) 0) (([] : List (Int × Bool)))], Res.one rfl rfl, ⟨[], none, 0, rfl, rfl, rfl⟩, (Hp.le_refl _), fun w hs => hs⟩
  · have h := nilb_cons h
    refine CJ.condK (b := false) rfl rfl ?_
    refine CJ.skip ?_
    refine CJ.seq ?_
    refine CJ.region ?_
    refine J.op rfl (A.lit (K0 := Hp.nil) (ty := (.cons (.int .i64) (.one .bool))) (xs := ([] : List (Int × Bool))) Try.underlying22 inf42 rfl (by decide) rfl rfl rfl rfl rfl (by decide)) ?_
    rintro _ _ _ ⟨b18, rfl, rfl, rfl⟩
    have hn19 : ([] : List (Int × Bool)) ≠ [] → ∃ g, (some ⟨b18, 0, none⟩ : Option Addr) = some ⟨g, 0, none⟩ := fun _ => ⟨b18, rfl⟩
    refine J.val (v := .slice (some ad16) xa.length cpxa_0) rfl rfl (V.mv rfl) ?_
    obtain ⟨z21, hz22, h⟩ := ob h
    refine J.op rfl (A.appP (Kr := Hp.nil) (K1 := K) Try.underlying22 inf42 rfl rfl (by decide) (by decide) rfl rfl fxa_0 (Hp.le_refl _) (Els.flat rfl) (Els.flat rfl) hz22) ?_
    rintro _ _ _ ⟨v23, rfl, rfl, rfl⟩
    refine J.wit Row.form ?_
    rintro ⟨ad24, cp25, rfl, _, _, hn26⟩
    refine J.val (v := .slice ad24 z21.length cp25) rfl rfl (V.as rfl) ?_
    refine J.nil ?_
    refine CJ.ret ?_
    have e := Option.some.inj h
    subst e
    exact ⟨_, [Row Hp.nil 42 (.cons (.int .i64) (.one .bool)) (.slice ad24 z21.length cp25) z21], Res.one rfl rfl, ⟨z21, ad24, cp25, rfl, rfl, rfl⟩, (Hp.le_refl _), fun w hs => hs⟩
noncomputable def fn_row_Clone (xa : (List (Int × Bool))) : Option ((List (Int × Bool))) :=
  (fn_slices_Clone_api_Slot_api_Slot xa).bind fun l22 => some (l22)
set_option maxRecDepth 100000 in
set_option maxHeartbeats 4000000 in
theorem row_Clone_ok {K : Hp} {xa : (List (Int × Bool))} {adxa_0 : Option Addr} {cpxa_0 : Nat} (fxa_0 : Is K (.sl (.cons (.int .i64) (.one .bool))) [.slice adxa_0 xa.length cpxa_0] xa) {r : (List (Int × Bool))} (h : fn_row_Clone xa = some r) :
    Tr Try.prog 14 #[.agg #[.slice adxa_0 xa.length cpxa_0]] K [] (fun v K' L' => (∃ (l13 : (List (Int × Bool))) (ad14 : Option Addr) (cp15 : Nat), l13 = r ∧ v = .agg #[.slice ad14 l13.length cp15] ∧ L' = [Row Hp.nil 42 (.cons (.int .i64) (.one .bool)) (.slice ad14 l13.length cp15) l13]) ∧ K = K') := by
  refine Tr.k ?_
  refine Tr.of Try.func14 rfl Try.ntmps14 rfl (fun E F => ?_)
  unfold fn_row_Clone at h
  refine CJ.seq ?_
  refine CJ.region ?_
  refine J.op rfl (A.box (v := .agg #[.slice adxa_0 xa.length cpxa_0]) (cs := [.slice adxa_0 xa.length cpxa_0]) rfl rfl) ?_
  rintro _ _ _ ⟨b18, rfl, rfl, rfl⟩
  refine J.op rfl (A.alloc (cs := [.slice none 0 0]) inf24 rfl) ?_
  rintro _ _ _ ⟨b19, rfl, rfl, rfl⟩
  refine J.nil ?_
  refine CJ.seq ?_
  refine CJ.region ?_
  refine J.val rfl rfl (V.fad Try.underlying24 rfl nz22 rfl) ?_
  refine J.val (v := .slice adxa_0 xa.length cpxa_0) rfl rfl (V.ld rfl (Ld.sc sc22 (Rd.cl 1 rfl rfl))) ?_
  obtain ⟨r20, hr21, h⟩ := ob h
  refine J.op rfl (A.call (L1 := []) Try.call30 rfl (slices_Clone_api_Slot_api_Slot_ok fxa_0 hr21) rfl rfl) ?_
  rintro _ _ _ ⟨v26, _, rfl, ⟨⟨l22, ad23, cp24, rfl, rfl, rfl⟩, rfl⟩, _, rfl⟩
  refine J.wit Row.hn (fun hn25 => ?_)
  refine J.val (v := .agg #[.slice ad23 l22.length cp24]) rfl rfl (V.build inf24 places24 rfl rfl) ?_
  refine J.front 1 rfl ?_
  refine J.op rfl (A.store (v := .agg #[.slice ad23 l22.length cp24]) (cs' := [.slice ad23 l22.length cp24]) sz24 rfl rfl rfl rfl rfl rfl) ?_
  rintro _ _ _ ⟨rfl, rfl, rfl⟩
  refine J.nil ?_
  refine CJ.ret ?_
  have e := Option.some.inj h
  subst e
  exact ⟨_, [Row Hp.nil 42 (.cons (.int .i64) (.one .bool)) (.slice ad23 l22.length cp24) l22], Res.one rfl ⟨_, _, rfl, Ld.agg (cs := [.slice ad23 l22.length cp24]) Try.underlying24 sz24 rfl (Rd.cls 0 0 rfl rfl)⟩, ⟨l22, ad23, cp24, rfl, rfl, rfl⟩, (Hp.le_refl _), fun w hs => (Sep.dropAt 1 rfl (Sep.dropAt 0 rfl hs))⟩
noncomputable def fn_row_Regions (xa : (List (Int × Bool))) : Option (List Int) :=
  (loop (fun ((l326, i331) : ((List Int) × Int)) => (cond (decide (i331 < (((xa.length : Nat) : Int)))) ((getI xa i331).bind fun x364 => (app l326 ([x364.1] : List Int)).bind fun z377 => some (.inl ((z377, IntKind.wrap .i64 (i331 + 1))))) (some (.inr (l326))) : Option (((List Int) × Int) ⊕ (List Int)))) ([], 0)).bind fun l291 => (srt l291).bind fun l387 => (cmpt l387).bind fun l395 => some (l395)
set_option maxRecDepth 100000 in
set_option maxHeartbeats 4000000 in
theorem row_Regions_ok {K : Hp} {xa : (List (Int × Bool))} {adxa_0 : Option Addr} {cpxa_0 : Nat} (fxa_0 : Is K (.sl (.cons (.int .i64) (.one .bool))) [.slice adxa_0 xa.length cpxa_0] xa) {r : (List Int)} (h : fn_row_Regions xa = some r) :
    Tr Try.prog 16 #[.agg #[.slice adxa_0 xa.length cpxa_0]] K [] (fun v K' L' => (∃ (l200 : (List Int)) (ad201 : Option Addr) (cp202 : Nat), l200 = r ∧ v = .slice ad201 l200.length cp202 ∧ L' = [Row Hp.nil 3 (.int .i64) (.slice ad201 l200.length cp202) l200]) ∧ K = K') := by
  refine Tr.k ?_
  refine Tr.of Try.func16 rfl Try.ntmps16 rfl (fun E F => ?_)
  unfold fn_row_Regions at h
  refine CJ.seq ?_
  refine CJ.region ?_
  refine J.op rfl (A.box (v := .agg #[.slice adxa_0 xa.length cpxa_0]) (cs := [.slice adxa_0 xa.length cpxa_0]) rfl rfl) ?_
  rintro _ _ _ ⟨b205, rfl, rfl, rfl⟩
  refine J.val (v := .slice none 0 0) rfl rfl (V.as rfl) ?_
  refine J.nil ?_
  refine CJ.seq ?_
  refine CJ.region ?_
  refine J.val (v := .slice none 0 0) rfl rfl (V.as rfl) ?_
  refine J.nil ?_
  refine CJ.seq ?_
  refine CJ.seq ?_
  refine CJ.region ?_
  refine J.val rfl rfl (V.fad Try.underlying24 rfl nz22 rfl) ?_
  refine J.val (v := .slice adxa_0 xa.length cpxa_0) rfl rfl (V.ld rfl (Ld.sc sc22 (Rd.cl 0 rfl rfl))) ?_
  refine J.val (v := .int .i64 (((xa.length : Nat) : Int))) rfl rfl (V.len Try.underlying22 rfl) ?_
  refine J.val (v := .int .i64 0) rfl rfl (V.mv rfl) ?_
  refine J.nil ?_
  obtain ⟨o296, ho297, h⟩ := ob h
  refine CJ.meetN (fun ρ K' L' => ∃ (l291 : (List Int)) (ad292 : Option Addr) (cp293 : Nat), l291 = o296 ∧ Fits [(3, .slice ad292 l291.length cp293)] ρ ∧ K = K' ∧ L' = Row Hp.nil 3 (.int .i64) (.slice ad292 l291.length cp293) l291 :: F) ?_ ?_
  · skip
    refine CJ.block ?_
    refine CJ.by (fun w hs => Sep.rowNil (e := 3) (t := (.int .i64)) hs) ?_
    refine CJ.dropAt 1 rfl ?_
    refine CJ.loop (fun s ρ K' L' => ∃ (l326 : (List Int)) (i331 : Int) (ad327 : Option Addr) (cp328 : Nat), (l326, i331) = s ∧ Fits [(3, .slice ad327 l326.length cp328), (7, .slice adxa_0 xa.length cpxa_0), (8, .int .i64 (((xa.length : Nat) : Int))), (9, .int .i64 i331)] ρ ∧ K = K' ∧ L' = Row Hp.nil 3 (.int .i64) (.slice ad327 l326.length cp328) l326 :: F) ho297 ⟨[], 0, none, 0, rfl, ⟨rfl, rfl, rfl, rfl, trivial⟩, rfl, rfl⟩ ?_
    rintro s ρ _ _ r362 ⟨l326, i331, ad327, cp328, rfl, hf360, rfl, rfl⟩ h358
    obtain ⟨ρ, rfl⟩ := hf360.ex
    refine CJ.wit Row.hn (fun hn330 => ?_)
    refine CJ.seq ?_
    refine CJ.region ?_
    refine J.val (v := .bool (decide (i331 < (((xa.length : Nat) : Int))))) rfl rfl (V.lss rfl rfl) ?_
    refine J.nil ?_
    refine CJ.seq ?_
    refine CJ.cond rfl (fun hc363 => ?_) (fun hc363 => ?_)
    · have h358 := ct hc363 h358
      refine CJ.skip ?_
      refine CJ.seq ?_
      refine CJ.block ?_
      refine CJ.seq ?_
      refine CJ.region ?_
      obtain ⟨x364, hx365, h358⟩ := ob h358
      obtain ⟨p366, p367, p368⟩ := getI_some hx365
      obtain ⟨b369, o370, e371, a372⟩ := (fxa_0).at p367
      refine J.val rfl rfl (V.iad Try.underlying22 sz42 rfl e371 rfl p366 p368) ?_
      refine J.val (v := .agg #[.int .i64 x364.1, .bool x364.2]) rfl rfl (V.ld rfl (Ld.aggK (cs := [.int .i64 x364.1, .bool x364.2]) Try.underlying42 sz42 rfl ⟨((a372).fst).int, (((a372).snd).one).bool, trivial⟩ (Hp.le_refl _))) ?_
      refine J.op rfl (A.alloc (cs := [.int .i64 0, .bool false]) inf42 rfl) ?_
      rintro _ _ _ ⟨b373, rfl, rfl, rfl⟩
      refine J.op rfl (A.store (v := .agg #[.int .i64 x364.1, .bool x364.2]) (cs' := [.int .i64 x364.1, .bool x364.2]) sz42 rfl rfl rfl rfl rfl rfl) ?_
      rintro _ _ _ ⟨rfl, rfl, rfl⟩
      refine J.nil ?_
      refine CJ.region ?_
      refine J.val (v := .slice ad327 l326.length cp328) rfl rfl (V.mv rfl) ?_
      refine J.val rfl rfl (V.fad Try.underlying42 rfl nz3 rfl) ?_
      refine J.val (v := .int .i64 x364.1) rfl rfl (V.ld rfl (Ld.sc sc3 (Rd.cl 0 rfl rfl))) ?_
      refine J.op rfl (A.lit (K0 := Hp.nil) (ty := (.int .i64)) (xs := ([x364.1] : List Int)) Try.underlying32 inf3 rfl (by decide) rfl rfl rfl ⟨_, _, rfl, rfl, rfl⟩ rfl (by decide)) ?_
      rintro _ _ _ ⟨b374, rfl, rfl, rfl⟩
      have hn375 : ([x364.1] : List Int) ≠ [] → ∃ g, (some ⟨b374, 0, none⟩ : Option Addr) = some ⟨g, 0, none⟩ := fun _ => ⟨b374, rfl⟩
      obtain ⟨z377, hz378, h358⟩ := ob h358
      refine J.front 2 rfl ?_
      refine J.op rfl (A.appR (Kr := Hp.nil) Try.underlying32 inf3 rfl rfl (by decide) (by decide) rfl rfl (Els.flat rfl) (Els.flat rfl) hz378) ?_
      rintro _ _ _ ⟨v379, rfl, rfl, rfl⟩
      refine J.wit Row.form ?_
      rintro ⟨ad380, cp381, rfl, _, _, hn382⟩
      refine J.val (v := .slice ad380 z377.length cp381) rfl rfl (V.as rfl) ?_
      refine J.nil ?_
      refine CJ.region ?_
      refine J.val (v := .int .i64 (IntKind.wrap .i64 (i331 + 1))) rfl rfl (V.add rfl rfl) ?_
      refine J.val (v := .int .i64 (IntKind.wrap .i64 (i331 + 1))) rfl rfl (V.mv rfl) ?_
      refine J.dropAt 1 rfl ?_
      refine J.nil ?_
      have e := Option.some.inj h358
      subst e
      exact ⟨rfl, ⟨z377, IntKind.wrap .i64 (i331 + 1), ad380, cp381, rfl, ⟨rfl, rfl, rfl, rfl, trivial⟩, rfl, rfl⟩⟩
    · have h358 := cf hc363 h358
      refine CJ.exit ?_
      have e := Option.some.inj h358
      subst e
      refine ⟨nofun, fun e => ?_⟩
      subst e
      exact ⟨rfl, ⟨l326, ad327, cp328, rfl, ⟨rfl, trivial⟩, rfl, rfl⟩⟩
  · rintro ρ _ _ ⟨l291, ad292, cp293, rfl, hf383, rfl, rfl⟩
    obtain ⟨ρ, rfl⟩ := hf383.ex
    refine PJ.wit Row.hn (fun hn295 => ?_)
    refine PJ.done ?_
    refine CJ.seq ?_
    refine CJ.region ?_
    refine J.val (v := .slice ad292 l291.length cp293) rfl rfl (V.mv rfl) ?_
    obtain ⟨r385, hr386, h⟩ := ob h
    refine J.op rfl (A.call (L1 := [Row Hp.nil 3 (.int .i64) (.slice ad292 l291.length cp293) l291]) Try.call31 rfl (slices_Sort_ok hr386) rfl rfl) ?_
    rintro _ _ _ ⟨v388, _, rfl, ⟨⟨l387, rfl, rfl, rfl⟩, rfl⟩, _, rfl⟩
    refine J.wit Row.hn (fun hn391 => ?_)
    refine J.wit Row.len (fun hl392 => ?_)
    refine J.nil ?_
    refine CJ.seq ?_
    refine CJ.region ?_
    refine J.val (v := .slice ad292 l291.length cp293) rfl rfl (V.mv rfl) ?_
    obtain ⟨r393, hr394, h⟩ := ob h
    refine J.by (fun w hs => Sep.nrow hl392.symm hs) ?_
    refine J.op rfl (A.call (L1 := [Row Hp.nil 3 (.int .i64) (.slice ad292 l387.length cp293) l387]) Try.call32 rfl (slices_Compact_ok hr394) (by rw [hl392]; first | done | rfl) rfl) ?_
    rintro _ _ _ ⟨v399, _, rfl, ⟨⟨l395, ad396, cp397, rfl, rfl, rfl⟩, rfl⟩, _, rfl⟩
    refine J.wit Row.hn (fun hn398 => ?_)
    refine J.val (v := .slice ad396 l395.length cp397) rfl rfl (V.as rfl) ?_
    refine J.nil ?_
    refine CJ.ret ?_
    have e := Option.some.inj h
    subst e
    exact ⟨_, [Row Hp.nil 3 (.int .i64) (.slice ad396 l395.length cp397) l395], Res.one rfl rfl, ⟨l395, ad396, cp397, rfl, rfl, rfl⟩, (Hp.le_refl _), fun w hs => hs⟩
noncomputable def fn_ref15_Regions (xa : (List (Int × Bool))) : Option (List Int) :=
  (loop (fun (l3385 : (List Int)) => (cond (decide ((((l3385.length : Nat) : Int)) < (((xa.length : Nat) : Int)))) ((loop (fun ((l4310, i4315, i4316) : ((List Int) × Int × Int)) => (cond (decide (i4316 < (((xa.length : Nat) : Int)))) ((getI xa i4316).bind fun x4406 => (cond (decide ((((l4310.length : Nat) : Int)) = 0)) (some (true)) ((getI l4310 (IntKind.wrap .i64 ((((l4310.length : Nat) : Int)) - 1))).bind fun x4426 => some (decide (x4426 < x4406.1)))).bind fun t4423 => (cond (t4423) ((cond (decide (i4315 < 0)) (some (true)) ((getI xa i4315).bind fun x4472 => some (decide (x4406.1 < x4472.1)))).bind fun t4469 => some (t4469)) (some (false))).bind fun t4456 => cond (t4456) (some (.inl ((l4310, i4316, IntKind.wrap .i64 (i4316 + 1))))) (some (.inl ((l4310, i4315, IntKind.wrap .i64 (i4316 + 1)))))) (some (.inr (((l4310, i4315))))) : Option (((List Int) × Int × Int) ⊕ ((List Int) × Int)))) ((l3385, (-1), 0))).bind fun (l4213, i4218) => cond (decide (i4218 < 0)) (some (.inr ((.inr (l4213))))) ((getI xa i4218).bind fun x4485 => (app l4213 ([x4485.1] : List Int)).bind fun z4497 => some (.inl z4497))) (some (.inr (.inl l3385))) : Option ((List Int) ⊕ ((List Int) ⊕ (List Int))))) ([] : List Int) : Option ((List Int) ⊕ (List Int))).bind fun o => match o with | .inr r => some r | .inl l3378 => some (l3378)
set_option maxRecDepth 100000 in
set_option maxHeartbeats 4000000 in
theorem ref15_Regions_ok {K : Hp} {xa : (List (Int × Bool))} {adxa_0 : Option Addr} {cpxa_0 : Nat} (fxa_0 : Is K (.sl (.cons (.int .i64) (.one .bool))) [.slice adxa_0 xa.length cpxa_0] xa) {r : (List Int)} (h : fn_ref15_Regions xa = some r) :
    Tr Try.prog 17 #[.agg #[.slice adxa_0 xa.length cpxa_0]] K [] (fun v K' L' => (∃ (l2251 : (List Int)) (ad2252 : Option Addr) (cp2253 : Nat), l2251 = r ∧ v = .slice ad2252 l2251.length cp2253 ∧ L' = [Row Hp.nil 3 (.int .i64) (.slice ad2252 l2251.length cp2253) l2251]) ∧ K = K') := by
  refine Tr.k ?_
  refine Tr.of Try.func17 rfl Try.ntmps17 rfl (fun E F => ?_)
  unfold fn_ref15_Regions at h
  refine CJ.seq ?_
  refine CJ.region ?_
  refine J.op rfl (A.box (v := .agg #[.slice adxa_0 xa.length cpxa_0]) (cs := [.slice adxa_0 xa.length cpxa_0]) rfl rfl) ?_
  rintro _ _ _ ⟨b2256, rfl, rfl, rfl⟩
  refine J.val (v := .slice none 0 0) rfl rfl (V.as rfl) ?_
  refine J.nil ?_
  refine CJ.seq ?_
  refine CJ.region ?_
  refine J.op rfl (A.lit (K0 := Hp.nil) (ty := (.int .i64)) (xs := ([] : List Int)) Try.underlying32 inf3 rfl (by decide) rfl rfl rfl rfl rfl (by decide)) ?_
  rintro _ _ _ ⟨b2257, rfl, rfl, rfl⟩
  have hn2258 : ([] : List Int) ≠ [] → ∃ g, (some ⟨b2257, 0, none⟩ : Option Addr) = some ⟨g, 0, none⟩ := fun _ => ⟨b2257, rfl⟩
  refine J.val (v := .slice (some ⟨b2257, 0, none⟩) (([] : List Int).length) 0) rfl rfl (V.as rfl) ?_
  refine J.nil ?_
  refine CJ.seq ?_
  obtain ⟨o3383, ho3384, h⟩ := ob h
  refine CJ.joinN (o := o3383) (fun s ρ K' L' => ∃ (l3378 : (List Int)) (ad3379 : Option Addr) (cp3380 : Nat), l3378 = s ∧ Fits [(3, .slice ad3379 l3378.length cp3380)] ρ ∧ K = K' ∧ L' = Row Hp.nil 3 (.int .i64) (.slice ad3379 l3378.length cp3380) l3378 :: F) ?_ ?_
  · skip
    refine CJ.block ?_
    refine CJ.front 1 rfl ?_
    refine CJ.loop (fun s ρ K' L' => ∃ (l3385 : (List Int)) (ad3386 : Option Addr) (cp3387 : Nat), l3385 = s ∧ Fits [(1, .pointer (some ⟨b2256, 0, none⟩)), (3, .slice ad3386 l3385.length cp3387)] ρ ∧ K = K' ∧ L' = Cl b2256 24 [.slice adxa_0 xa.length cpxa_0] :: Row Hp.nil 3 (.int .i64) (.slice ad3386 l3385.length cp3387) l3385 :: F) ho3384 ⟨([] : List Int), (some ⟨b2257, 0, none⟩), 0, rfl, ⟨rfl, rfl, trivial⟩, rfl, rfl⟩ ?_
    rintro s ρ _ _ r3950 ⟨l3385, ad3386, cp3387, rfl, hf3948, rfl, rfl⟩ h3947
    obtain ⟨ρ, rfl⟩ := hf3948.ex
    refine CJ.front 1 rfl ?_
    refine CJ.wit Row.hn (fun hn3389 => ?_)
    refine CJ.seq ?_
    refine CJ.seq ?_
    refine CJ.region ?_
    refine J.val (v := .slice ad3386 l3385.length cp3387) rfl rfl (V.mv rfl) ?_
    refine J.val (v := .int .i64 (((l3385.length : Nat) : Int))) rfl rfl (V.len Try.underlying32 rfl) ?_
    refine J.val rfl rfl (V.fad Try.underlying24 rfl nz22 rfl) ?_
    refine J.val (v := .slice adxa_0 xa.length cpxa_0) rfl rfl (V.ld rfl (Ld.sc sc22 (Rd.cl 1 rfl rfl))) ?_
    refine J.val (v := .int .i64 (((xa.length : Nat) : Int))) rfl rfl (V.len Try.underlying22 rfl) ?_
    refine J.val (v := .bool (decide ((((l3385.length : Nat) : Int)) < (((xa.length : Nat) : Int))))) rfl rfl (V.lss rfl rfl) ?_
    refine J.nil ?_
    refine CJ.cond rfl (fun hc3951 => ?_) (fun hc3951 => ?_)
    · have h3947 := ct hc3951 h3947
      refine CJ.skip ?_
      refine CJ.block ?_
      refine CJ.seq ?_
      refine CJ.region ?_
      refine J.val (v := .int .i64 (-1)) rfl rfl (V.as rfl) ?_
      refine J.nil ?_
      refine CJ.seq ?_
      refine CJ.seq ?_
      refine CJ.region ?_
      refine J.val (v := .int .i64 0) rfl rfl (V.as rfl) ?_
      refine J.nil ?_
      obtain ⟨o4219, ho4220, h3947⟩ := ob h3947
      refine CJ.meetN (fun ρ K' L' => ∃ (l4213 : (List Int)) (i4218 : Int) (ad4214 : Option Addr) (cp4215 : Nat), (l4213, i4218) = o4219 ∧ Fits [(1, .pointer (some ⟨b2256, 0, none⟩)), (3, .slice ad4214 l4213.length cp4215), (4, .int .i64 i4218)] ρ ∧ K = K' ∧ L' = Cl b2256 24 [.slice adxa_0 xa.length cpxa_0] :: Row Hp.nil 3 (.int .i64) (.slice ad4214 l4213.length cp4215) l4213 :: F) ?_ ?_
      · skip
        refine CJ.block ?_
        refine CJ.front 1 rfl ?_
        refine CJ.loop (fun s ρ K' L' => ∃ (l4310 : (List Int)) (i4315 : Int) (i4316 : Int) (ad4311 : Option Addr) (cp4312 : Nat), (l4310, i4315, i4316) = s ∧ Fits [(1, .pointer (some ⟨b2256, 0, none⟩)), (3, .slice ad4311 l4310.length cp4312), (4, .int .i64 i4315), (5, .int .i64 i4316)] ρ ∧ K = K' ∧ L' = Cl b2256 24 [.slice adxa_0 xa.length cpxa_0] :: Row Hp.nil 3 (.int .i64) (.slice ad4311 l4310.length cp4312) l4310 :: F) ho4220 ⟨l3385, (-1), 0, ad3386, cp3387, rfl, ⟨rfl, rfl, rfl, rfl, trivial⟩, rfl, rfl⟩ ?_
        rintro s ρ _ _ r4404 ⟨l4310, i4315, i4316, ad4311, cp4312, rfl, hf4402, rfl, rfl⟩ h4401
        obtain ⟨ρ, rfl⟩ := hf4402.ex
        refine CJ.front 1 rfl ?_
        refine CJ.wit Row.hn (fun hn4314 => ?_)
        refine CJ.seq ?_
        refine CJ.seq ?_
        refine CJ.region ?_
        refine J.val (v := .int .i64 i4316) rfl rfl (V.mv rfl) ?_
        refine J.val rfl rfl (V.fad Try.underlying24 rfl nz22 rfl) ?_
        refine J.val (v := .slice adxa_0 xa.length cpxa_0) rfl rfl (V.ld rfl (Ld.sc sc22 (Rd.cl 1 rfl rfl))) ?_
        refine J.val (v := .int .i64 (((xa.length : Nat) : Int))) rfl rfl (V.len Try.underlying22 rfl) ?_
        refine J.val (v := .bool (decide (i4316 < (((xa.length : Nat) : Int))))) rfl rfl (V.lss rfl rfl) ?_
        refine J.nil ?_
        refine CJ.cond rfl (fun hc4405 => ?_) (fun hc4405 => ?_)
        · have h4401 := ct hc4405 h4401
          refine CJ.skip ?_
          refine CJ.seq ?_
          refine CJ.block ?_
          refine CJ.seq ?_
          refine CJ.region ?_
          refine J.val rfl rfl (V.fad Try.underlying24 rfl nz22 rfl) ?_
          refine J.val (v := .slice adxa_0 xa.length cpxa_0) rfl rfl (V.ld rfl (Ld.sc sc22 (Rd.cl 1 rfl rfl))) ?_
          refine J.val (v := .int .i64 i4316) rfl rfl (V.mv rfl) ?_
          obtain ⟨x4406, hx4407, h4401⟩ := ob h4401
          obtain ⟨p4408, p4409, p4410⟩ := getI_some hx4407
          obtain ⟨b4411, o4412, e4413, a4414⟩ := (fxa_0).at p4409
          refine J.val rfl rfl (V.iad Try.underlying22 sz42 rfl e4413 rfl p4408 p4410) ?_
          refine J.val rfl rfl (V.fad Try.underlying42 rfl nz3 rfl) ?_
          refine J.val (v := .int .i64 x4406.1) rfl rfl (V.ld rfl (Ld.sc sc3 (Rd.k ((a4414).fst).int (Hp.le_refl _)))) ?_
          refine J.val (v := .int .i64 x4406.1) rfl rfl (V.as rfl) ?_
          refine J.nil ?_
          refine CJ.seq ?_
          refine CJ.region ?_
          refine J.val (v := .slice ad4311 l4310.length cp4312) rfl rfl (V.mv rfl) ?_
          refine J.val (v := .int .i64 (((l4310.length : Nat) : Int))) rfl rfl (V.len Try.underlying32 rfl) ?_
          refine J.val (v := .bool (decide ((((l4310.length : Nat) : Int)) = 0))) rfl rfl (V.eql rfl rfl) ?_
          refine J.val (v := .bool (decide ((((l4310.length : Nat) : Int)) = 0))) rfl rfl (V.mv rfl) ?_
          refine J.cut 9 ?_
          obtain ⟨t4423, ht4424, h4401⟩ := ob h4401
          refine @J.meet _ _ _ _ _ _ _ _ _ _ (fun ρ K' L' => Fits [(39, .bool t4423), (1, .pointer (some ⟨b2256, 0, none⟩)), (3, .slice ad4311 l4310.length cp4312), (4, .int .i64 i4315), (5, .int .i64 i4316), (6, .int .i64 x4406.1)] ρ ∧ K = K' ∧ L' = Row Hp.nil 3 (.int .i64) (.slice ad4311 l4310.length cp4312) l4310 :: Cl b2256 24 [.slice adxa_0 xa.length cpxa_0] :: F) ?_ ?_
          · skip
            rcases bt (decide ((((l4310.length : Nat) : Int)) = 0)) with hc4425 | hc4425
            · have ht4424 := ct hc4425 ht4424
              refine J.skip rfl rfl rfl rfl hc4425 ?_
              refine J.skip rfl rfl rfl rfl hc4425 ?_
              refine J.skip rfl rfl rfl rfl hc4425 ?_
              refine J.skip rfl rfl rfl rfl hc4425 ?_
              refine J.skip rfl rfl rfl rfl hc4425 ?_
              refine J.skip rfl rfl rfl rfl hc4425 ?_
              refine J.skip rfl rfl rfl rfl hc4425 ?_
              refine J.skip rfl rfl rfl rfl hc4425 ?_
              refine J.val (v := .bool true) rfl rfl (V.pickT rfl hc4425 rfl) ?_
              refine J.nil ?_
              have e := Option.some.inj ht4424
              subst e
              exact ⟨rfl, ⟨rfl, rfl, rfl, rfl, rfl, rfl, trivial⟩, rfl, rfl⟩
            · have ht4424 := cf hc4425 ht4424
              refine J.run rfl rfl rfl hc4425 ?_
              refine J.val (v := .int .i64 x4406.1) rfl rfl (V.mv rfl) ?_
              refine J.run rfl rfl rfl hc4425 ?_
              refine J.val (v := .slice ad4311 l4310.length cp4312) rfl rfl (V.mv rfl) ?_
              refine J.run rfl rfl rfl hc4425 ?_
              refine J.val (v := .slice ad4311 l4310.length cp4312) rfl rfl (V.mv rfl) ?_
              refine J.run rfl rfl rfl hc4425 ?_
              refine J.val (v := .int .i64 (((l4310.length : Nat) : Int))) rfl rfl (V.len Try.underlying32 rfl) ?_
              refine J.run rfl rfl rfl hc4425 ?_
              refine J.val (v := .int .i64 (IntKind.wrap .i64 ((((l4310.length : Nat) : Int)) - 1))) rfl rfl (V.sub rfl rfl) ?_
              refine J.run rfl rfl rfl hc4425 ?_
              obtain ⟨x4426, hx4427, ht4424⟩ := ob ht4424
              obtain ⟨p4428, p4429, p4430⟩ := getI_some hx4427
              obtain ⟨g4431, e4432⟩ := hn4314 (fun e => by rw [e] at p4429; simp at p4429)
              refine J.val rfl rfl (V.iad Try.underlying32 sz3 rfl e4432 rfl p4428 p4430) ?_
              refine J.run rfl rfl rfl hc4425 ?_
              refine J.val (v := .int .i64 x4426) rfl rfl (V.ld rfl (Ld.sc sc3 (Rd.row 0 rfl e4432 p4429 (q := 0) (by simp [Tp.size]) (by decide) (by rintro _ rfl; rfl)))) ?_
              refine J.run rfl rfl rfl hc4425 ?_
              refine J.val (v := .bool (decide (x4426 < x4406.1))) rfl rfl (V.gtr rfl rfl) ?_
              refine J.val (v := .bool (decide (x4426 < x4406.1))) rfl rfl (V.pickF rfl hc4425 rfl) ?_
              refine J.nil ?_
              have e := Option.some.inj ht4424
              subst e
              exact ⟨rfl, ⟨rfl, rfl, rfl, rfl, rfl, rfl, trivial⟩, rfl, rfl⟩
          · rintro ρ _ _ ⟨hf, rfl, rfl⟩
            obtain ⟨ρ, rfl⟩ := hf.ex
            refine J.val (v := .bool t4423) rfl rfl (V.mv rfl) ?_
            refine J.cut 13 ?_
            obtain ⟨t4456, ht4457, h4401⟩ := ob h4401
            refine @J.meet _ _ _ _ _ _ _ _ _ _ (fun ρ K' L' => Fits [(53, .bool t4456), (1, .pointer (some ⟨b2256, 0, none⟩)), (3, .slice ad4311 l4310.length cp4312), (4, .int .i64 i4315), (5, .int .i64 i4316)] ρ ∧ K = K' ∧ L' = Row Hp.nil 3 (.int .i64) (.slice ad4311 l4310.length cp4312) l4310 :: Cl b2256 24 [.slice adxa_0 xa.length cpxa_0] :: F) ?_ ?_
            · skip
              rcases bt (t4423) with hc4458 | hc4458
              · have ht4457 := ct hc4458 ht4457
                refine J.run rfl rfl rfl hc4458 ?_
                refine J.val (v := .int .i64 i4315) rfl rfl (V.mv rfl) ?_
                refine J.run rfl rfl rfl hc4458 ?_
                refine J.val (v := .bool (decide (i4315 < 0))) rfl rfl (V.lss rfl rfl) ?_
                refine J.run rfl rfl rfl hc4458 ?_
                refine J.val (v := .bool (decide (i4315 < 0))) rfl rfl (V.mv rfl) ?_
                refine J.cut 9 ?_
                obtain ⟨t4469, ht4470, ht4457⟩ := ob ht4457
                refine @J.meet _ _ _ _ _ _ _ _ _ _ (fun ρ K' L' => Fits [(52, .bool t4469), (1, .pointer (some ⟨b2256, 0, none⟩)), (3, .slice ad4311 l4310.length cp4312), (4, .int .i64 i4315), (5, .int .i64 i4316), (40, .bool t4423)] ρ ∧ K = K' ∧ L' = Row Hp.nil 3 (.int .i64) (.slice ad4311 l4310.length cp4312) l4310 :: Cl b2256 24 [.slice adxa_0 xa.length cpxa_0] :: F) ?_ ?_
                · skip
                  rcases bt (decide (i4315 < 0)) with hc4471 | hc4471
                  · have ht4470 := ct hc4471 ht4470
                    refine J.skip rfl rfl rfl rfl hc4471 ?_
                    refine J.skip rfl rfl rfl rfl hc4471 ?_
                    refine J.skip rfl rfl rfl rfl hc4471 ?_
                    refine J.skip rfl rfl rfl rfl hc4471 ?_
                    refine J.skip rfl rfl rfl rfl hc4471 ?_
                    refine J.skip rfl rfl rfl rfl hc4471 ?_
                    refine J.skip rfl rfl rfl rfl hc4471 ?_
                    refine J.skip rfl rfl rfl rfl hc4471 ?_
                    refine J.run rfl rfl rfl hc4458 ?_
                    refine J.val (v := .bool true) rfl rfl (V.pickT rfl hc4471 rfl) ?_
                    refine J.nil ?_
                    have e := Option.some.inj ht4470
                    subst e
                    exact ⟨rfl, ⟨rfl, rfl, rfl, rfl, rfl, rfl, trivial⟩, rfl, rfl⟩
                  · have ht4470 := cf hc4471 ht4470
                    refine J.run rfl rfl rfl hc4471 ?_
                    refine J.val (v := .int .i64 x4406.1) rfl rfl (V.mv rfl) ?_
                    refine J.run rfl rfl rfl hc4471 ?_
                    refine J.val rfl rfl (V.fad Try.underlying24 rfl nz22 rfl) ?_
                    refine J.run rfl rfl rfl hc4471 ?_
                    refine J.val (v := .slice adxa_0 xa.length cpxa_0) rfl rfl (V.ld rfl (Ld.sc sc22 (Rd.cl 1 rfl rfl))) ?_
                    refine J.run rfl rfl rfl hc4471 ?_
                    refine J.val (v := .int .i64 i4315) rfl rfl (V.mv rfl) ?_
                    refine J.run rfl rfl rfl hc4471 ?_
                    obtain ⟨x4472, hx4473, ht4470⟩ := ob ht4470
                    obtain ⟨p4474, p4475, p4476⟩ := getI_some hx4473
                    obtain ⟨b4477, o4478, e4479, a4480⟩ := (fxa_0).at p4475
                    refine J.val rfl rfl (V.iad Try.underlying22 sz42 rfl e4479 rfl p4474 p4476) ?_
                    refine J.run rfl rfl rfl hc4471 ?_
                    refine J.val rfl rfl (V.fad Try.underlying42 rfl nz3 rfl) ?_
                    refine J.run rfl rfl rfl hc4471 ?_
                    refine J.val (v := .int .i64 x4472.1) rfl rfl (V.ld rfl (Ld.sc sc3 (Rd.k ((a4480).fst).int (Hp.le_refl _)))) ?_
                    refine J.run rfl rfl rfl hc4471 ?_
                    refine J.val (v := .bool (decide (x4406.1 < x4472.1))) rfl rfl (V.lss rfl rfl) ?_
                    refine J.run rfl rfl rfl hc4458 ?_
                    refine J.val (v := .bool (decide (x4406.1 < x4472.1))) rfl rfl (V.pickF rfl hc4471 rfl) ?_
                    refine J.nil ?_
                    have e := Option.some.inj ht4470
                    subst e
                    exact ⟨rfl, ⟨rfl, rfl, rfl, rfl, rfl, rfl, trivial⟩, rfl, rfl⟩
                · rintro ρ _ _ ⟨hf, rfl, rfl⟩
                  obtain ⟨ρ, rfl⟩ := hf.ex
                  refine J.val (v := .bool t4469) rfl rfl (V.pickT rfl hc4458 rfl) ?_
                  refine J.nil ?_
                  have e := Option.some.inj ht4457
                  subst e
                  exact ⟨rfl, ⟨rfl, rfl, rfl, rfl, rfl, trivial⟩, rfl, rfl⟩
              · have ht4457 := cf hc4458 ht4457
                refine J.skip rfl rfl rfl rfl hc4458 ?_
                refine J.skip rfl rfl rfl rfl hc4458 ?_
                refine J.skip rfl rfl rfl rfl hc4458 ?_
                refine J.skipu rfl rfl rfl rfl ?_
                refine J.skipu rfl rfl rfl rfl ?_
                refine J.skipu rfl rfl rfl rfl ?_
                refine J.skipu rfl rfl rfl rfl ?_
                refine J.skipu rfl rfl rfl rfl ?_
                refine J.skipu rfl rfl rfl rfl ?_
                refine J.skipu rfl rfl rfl rfl ?_
                refine J.skipu rfl rfl rfl rfl ?_
                refine J.skip rfl rfl rfl rfl hc4458 ?_
                refine J.val (v := .bool false) rfl rfl (V.pickF rfl hc4458 rfl) ?_
                refine J.nil ?_
                have e := Option.some.inj ht4457
                subst e
                exact ⟨rfl, ⟨rfl, rfl, rfl, rfl, rfl, trivial⟩, rfl, rfl⟩
            · rintro ρ _ _ ⟨hf, rfl, rfl⟩
              obtain ⟨ρ, rfl⟩ := hf.ex
              refine J.nil ?_
              refine CJ.cond rfl (fun hc4481 => ?_) (fun hc4481 => ?_)
              · have h4401 := ct hc4481 h4401
                refine CJ.region ?_
                refine J.val (v := .int .i64 i4316) rfl rfl (V.mv rfl) ?_
                refine J.val (v := .int .i64 i4316) rfl rfl (V.as rfl) ?_
                refine J.nil ?_
                refine CJ.region ?_
                refine J.val (v := .int .i64 i4316) rfl rfl (V.mv rfl) ?_
                refine J.val (v := .int .i64 (IntKind.wrap .i64 (i4316 + 1))) rfl rfl (V.add rfl rfl) ?_
                refine J.val (v := .int .i64 (IntKind.wrap .i64 (i4316 + 1))) rfl rfl (V.as rfl) ?_
                refine J.front 1 rfl ?_
                refine J.nil ?_
                have e := Option.some.inj h4401
                subst e
                exact ⟨rfl, ⟨l4310, i4316, IntKind.wrap .i64 (i4316 + 1), ad4311, cp4312, rfl, ⟨rfl, rfl, rfl, rfl, trivial⟩, rfl, rfl⟩⟩
              · have h4401 := cf hc4481 h4401
                refine CJ.skip ?_
                refine CJ.region ?_
                refine J.val (v := .int .i64 i4316) rfl rfl (V.mv rfl) ?_
                refine J.val (v := .int .i64 (IntKind.wrap .i64 (i4316 + 1))) rfl rfl (V.add rfl rfl) ?_
                refine J.val (v := .int .i64 (IntKind.wrap .i64 (i4316 + 1))) rfl rfl (V.as rfl) ?_
                refine J.front 1 rfl ?_
                refine J.nil ?_
                have e := Option.some.inj h4401
                subst e
                exact ⟨rfl, ⟨l4310, i4315, IntKind.wrap .i64 (i4316 + 1), ad4311, cp4312, rfl, ⟨rfl, rfl, rfl, rfl, trivial⟩, rfl, rfl⟩⟩
        · have h4401 := cf hc4405 h4401
          refine CJ.front 1 rfl ?_
          refine CJ.exit ?_
          have e := Option.some.inj h4401
          subst e
          refine ⟨nofun, fun e => ?_⟩
          subst e
          exact ⟨rfl, ⟨l4310, i4315, ad4311, cp4312, rfl, ⟨rfl, rfl, rfl, trivial⟩, rfl, rfl⟩⟩
      · rintro ρ _ _ ⟨l4213, i4218, ad4214, cp4215, rfl, hf4482, rfl, rfl⟩
        obtain ⟨ρ, rfl⟩ := hf4482.ex
        refine PJ.front 1 rfl ?_
        refine PJ.wit Row.hn (fun hn4217 => ?_)
        refine PJ.done ?_
        refine CJ.seq ?_
        refine CJ.seq ?_
        refine CJ.region ?_
        refine J.val (v := .int .i64 i4218) rfl rfl (V.mv rfl) ?_
        refine J.val (v := .bool (decide (i4218 < 0))) rfl rfl (V.lss rfl rfl) ?_
        refine J.nil ?_
        refine CJ.cond rfl (fun hc4484 => ?_) (fun hc4484 => ?_)
        · have h3947 := ct hc4484 h3947
          refine CJ.seq ?_
          refine CJ.region ?_
          refine J.val (v := .slice ad4214 l4213.length cp4215) rfl rfl (V.mv rfl) ?_
          refine J.val (v := .slice ad4214 l4213.length cp4215) rfl rfl (V.as rfl) ?_
          refine J.nil ?_
          refine CJ.ret ?_
          have e := Option.some.inj h3947
          subst e
          refine ⟨nofun, fun e => ?_⟩
          subst e
          refine .inr ⟨nofun, ?_⟩
          have e := Option.some.inj h
          subst e
          exact ⟨_, [Row Hp.nil 3 (.int .i64) (.slice ad4214 l4213.length cp4215) l4213], Res.one rfl rfl, ⟨l4213, ad4214, cp4215, rfl, rfl, rfl⟩, (Hp.le_refl _), fun w hs => (Sep.dropAt 1 rfl hs)⟩
        · have h3947 := cf hc4484 h3947
          refine CJ.skip ?_
          refine CJ.region ?_
          refine J.val (v := .slice ad4214 l4213.length cp4215) rfl rfl (V.mv rfl) ?_
          refine J.val rfl rfl (V.fad Try.underlying24 rfl nz22 rfl) ?_
          refine J.val (v := .slice adxa_0 xa.length cpxa_0) rfl rfl (V.ld rfl (Ld.sc sc22 (Rd.cl 1 rfl rfl))) ?_
          refine J.val (v := .int .i64 i4218) rfl rfl (V.mv rfl) ?_
          obtain ⟨x4485, hx4486, h3947⟩ := ob h3947
          obtain ⟨p4487, p4488, p4489⟩ := getI_some hx4486
          obtain ⟨b4490, o4491, e4492, a4493⟩ := (fxa_0).at p4488
          refine J.val rfl rfl (V.iad Try.underlying22 sz42 rfl e4492 rfl p4487 p4489) ?_
          refine J.val rfl rfl (V.fad Try.underlying42 rfl nz3 rfl) ?_
          refine J.val (v := .int .i64 x4485.1) rfl rfl (V.ld rfl (Ld.sc sc3 (Rd.k ((a4493).fst).int (Hp.le_refl _)))) ?_
          refine J.op rfl (A.lit (K0 := Hp.nil) (ty := (.int .i64)) (xs := ([x4485.1] : List Int)) Try.underlying32 inf3 rfl (by decide) rfl rfl rfl ⟨_, _, rfl, rfl, rfl⟩ rfl (by decide)) ?_
          rintro _ _ _ ⟨b4494, rfl, rfl, rfl⟩
          have hn4495 : ([x4485.1] : List Int) ≠ [] → ∃ g, (some ⟨b4494, 0, none⟩ : Option Addr) = some ⟨g, 0, none⟩ := fun _ => ⟨b4494, rfl⟩
          obtain ⟨z4497, hz4498, h3947⟩ := ob h3947
          refine J.front 1 rfl ?_
          refine J.op rfl (A.appR (Kr := Hp.nil) Try.underlying32 inf3 rfl rfl (by decide) (by decide) rfl rfl (Els.flat rfl) (Els.flat rfl) hz4498) ?_
          rintro _ _ _ ⟨v4499, rfl, rfl, rfl⟩
          refine J.wit Row.form ?_
          rintro ⟨ad4500, cp4501, rfl, _, _, hn4502⟩
          refine J.val (v := .slice ad4500 z4497.length cp4501) rfl rfl (V.as rfl) ?_
          refine J.front 1 rfl ?_
          refine J.nil ?_
          have e := Option.some.inj h3947
          subst e
          exact ⟨rfl, ⟨z4497, ad4500, cp4501, rfl, ⟨rfl, rfl, trivial⟩, rfl, rfl⟩⟩
    · have h3947 := cf hc3951 h3947
      refine CJ.dropAt 1 rfl ?_
      refine CJ.exit ?_
      have e := Option.some.inj h3947
      subst e
      refine ⟨nofun, fun e => ?_⟩
      subst e
      exact .inl ⟨rfl, _, rfl, ⟨l3385, ad3386, cp3387, rfl, ⟨rfl, trivial⟩, rfl, rfl⟩⟩
  · rintro s ρ _ _ ho4503 ⟨l3378, ad3379, cp3380, rfl, hf4504, rfl, rfl⟩
    subst ho4503
    obtain ⟨ρ, rfl⟩ := hf4504.ex
    refine PJ.wit Row.hn (fun hn3382 => ?_)
    refine PJ.done ?_
    refine CJ.seq ?_
    refine CJ.region ?_
    refine J.val (v := .slice ad3379 l3378.length cp3380) rfl rfl (V.mv rfl) ?_
    refine J.val (v := .slice ad3379 l3378.length cp3380) rfl rfl (V.as rfl) ?_
    refine J.nil ?_
    refine CJ.ret ?_
    have e := Option.some.inj h
    subst e
    exact ⟨_, [Row Hp.nil 3 (.int .i64) (.slice ad3379 l3378.length cp3380) l3378], Res.one rfl rfl, ⟨l3378, ad3379, cp3380, rfl, rfl, rfl⟩, (Hp.le_refl _), fun w hs => hs⟩
noncomputable def fn_ref01_Same (xa : (List Int)) (xb : (List Int)) : Option Bool :=
  cond (!decide ((((xa.length : Nat) : Int)) = (((xb.length : Nat) : Int)))) (some (false)) ((loop (fun (i413 : Int) => (cond (decide (i413 < (((xa.length : Nat) : Int)))) ((getI xa i413).bind fun x476 => (getI xb i413).bind fun x485 => cond (!decide (x476 = x485)) (some (.inr ((.inr (false))))) (some (.inl (IntKind.wrap .i64 (i413 + 1))))) (some (.inr ((.inl ())))) : Option (Int ⊕ (Unit ⊕ Bool)))) 0 : Option (Unit ⊕ Bool)).bind fun o => match o with | .inr r => some r | .inl () => some (true))
set_option maxRecDepth 100000 in
set_option maxHeartbeats 4000000 in
theorem ref01_Same_ok {K : Hp} {xa : (List Int)} {xb : (List Int)} {adxa_0 : Option Addr} {cpxa_0 : Nat} {adxb_0 : Option Addr} {cpxb_0 : Nat} (fxa_0 : Is K (.sl (.int .i64)) [.slice adxa_0 xa.length cpxa_0] xa) (fxb_0 : Is K (.sl (.int .i64)) [.slice adxb_0 xb.length cpxb_0] xb) {r : Bool} (h : fn_ref01_Same xa xb = some r) :
    Tr Try.prog 15 #[.slice adxa_0 xa.length cpxa_0, .slice adxb_0 xb.length cpxb_0] K [] (fun v K' L' => (∃ (t249 : Bool), t249 = r ∧ v = .bool t249 ∧ L' = []) ∧ K = K') := by
  refine Tr.k ?_
  refine Tr.of Try.func15 rfl Try.ntmps15 rfl (fun E F => ?_)
  unfold fn_ref01_Same at h
  refine CJ.seq ?_
  refine CJ.region ?_
  refine J.val (v := .bool false) rfl rfl (V.as rfl) ?_
  refine J.nil ?_
  refine CJ.seq ?_
  refine CJ.seq ?_
  refine CJ.region ?_
  refine J.val (v := .slice adxa_0 xa.length cpxa_0) rfl rfl (V.mv rfl) ?_
  refine J.val (v := .int .i64 (((xa.length : Nat) : Int))) rfl rfl (V.len Try.underlying32 rfl) ?_
  refine J.val (v := .slice adxb_0 xb.length cpxb_0) rfl rfl (V.mv rfl) ?_
  refine J.val (v := .int .i64 (((xb.length : Nat) : Int))) rfl rfl (V.len Try.underlying32 rfl) ?_
  refine J.val (v := .bool (!decide ((((xa.length : Nat) : Int)) = (((xb.length : Nat) : Int))))) rfl rfl (V.neq rfl rfl) ?_
  refine J.nil ?_
  refine CJ.cond rfl (fun hc250 => ?_) (fun hc250 => ?_)
  · have h := ct hc250 h
    refine CJ.seq ?_
    refine CJ.region ?_
    refine J.val (v := .bool false) rfl rfl (V.as rfl) ?_
    refine J.nil ?_
    refine CJ.ret ?_
    have e := Option.some.inj h
    subst e
    exact ⟨_, [], Res.one rfl rfl, ⟨false, rfl, rfl, rfl⟩, (Hp.le_refl _), fun w hs => hs⟩
  · have h := cf hc250 h
    refine CJ.skip ?_
    refine CJ.seq ?_
    refine CJ.seq ?_
    refine CJ.region ?_
    refine J.val (v := .int .i64 0) rfl rfl (V.as rfl) ?_
    refine J.nil ?_
    obtain ⟨o372, ho373, h⟩ := ob h
    refine CJ.joinN (o := o372) (fun s ρ K' L' => () = s ∧ Fits [] ρ ∧ K = K' ∧ L' = F) ?_ ?_
    · skip
      refine CJ.block ?_
      refine CJ.loop (fun s ρ K' L' => ∃ (i413 : Int), i413 = s ∧ Fits [(0, .slice adxa_0 xa.length cpxa_0), (1, .slice adxb_0 xb.length cpxb_0), (5, .int .i64 i413)] ρ ∧ K = K' ∧ L' = F) ho373 ⟨0, rfl, ⟨rfl, rfl, rfl, trivial⟩, rfl, rfl⟩ ?_
      rintro s ρ _ _ r456 ⟨i413, rfl, hf454, rfl, rfl⟩ h453
      obtain ⟨ρ, rfl⟩ := hf454.ex
      refine CJ.seq ?_
      refine CJ.seq ?_
      refine CJ.region ?_
      refine J.val (v := .int .i64 i413) rfl rfl (V.mv rfl) ?_
      refine J.val (v := .slice adxa_0 xa.length cpxa_0) rfl rfl (V.mv rfl) ?_
      refine J.val (v := .int .i64 (((xa.length : Nat) : Int))) rfl rfl (V.len Try.underlying32 rfl) ?_
      refine J.val (v := .bool (decide (i413 < (((xa.length : Nat) : Int))))) rfl rfl (V.lss rfl rfl) ?_
      refine J.nil ?_
      refine CJ.cond rfl (fun hc457 => ?_) (fun hc457 => ?_)
      · have h453 := ct hc457 h453
        refine CJ.skip ?_
        refine CJ.seq ?_
        refine CJ.block ?_
        refine CJ.seq ?_
        refine CJ.mix [] [] [0, 1, 2, 3, 4, 5, 6, 7, 8] [] mixO (by decide +kernel) trivial rfl rfl rfl ?_
        refine JM.nil ?_
        refine JQ.val (v := .slice adxa_0 xa.length cpxa_0) rfl rfl (V.mv rfl) ?_
        refine JQ.val (v := .int .i64 i413) rfl rfl (V.mv rfl) ?_
        obtain ⟨x476, hx477, h453⟩ := ob h453
        obtain ⟨p478, p479, p480⟩ := getI_some hx477
        obtain ⟨b481, o482, e483, a484⟩ := (fxa_0).at p479
        refine JQ.val rfl rfl (V.iad Try.underlying32 sz3 rfl e483 rfl p478 p480) ?_
        refine JQ.val (v := .int .i64 x476) rfl rfl (V.ld rfl (Ld.sc sc3 (Rd.k (a484).int (Hp.le_refl _)))) ?_
        refine JQ.val (v := .slice adxb_0 xb.length cpxb_0) rfl rfl (V.mv rfl) ?_
        refine JQ.val (v := .int .i64 i413) rfl rfl (V.mv rfl) ?_
        obtain ⟨x485, hx486, h453⟩ := ob h453
        obtain ⟨p487, p488, p489⟩ := getI_some hx486
        obtain ⟨b490, o491, e492, a493⟩ := (fxb_0).at p488
        refine JQ.val rfl rfl (V.iad Try.underlying32 sz3 rfl e492 rfl p487 p489) ?_
        refine JQ.val (v := .int .i64 x485) rfl rfl (V.ld rfl (Ld.sc sc3 (Rd.k (a493).int (Hp.le_refl _)))) ?_
        refine JQ.val (v := .bool (!decide (x476 = x485))) rfl rfl (V.neq rfl rfl) ?_
        refine JQ.nil ?_
        refine J.nil ?_
        refine CJ.cond rfl (fun hc494 => ?_) (fun hc494 => ?_)
        · have h453 := ct hc494 h453
          refine CJ.seq ?_
          refine CJ.region ?_
          refine J.val (v := .bool false) rfl rfl (V.as rfl) ?_
          refine J.nil ?_
          refine CJ.ret ?_
          have e := Option.some.inj h453
          subst e
          refine ⟨nofun, fun e => ?_⟩
          subst e
          refine .inr ⟨nofun, ?_⟩
          have e := Option.some.inj h
          subst e
          exact ⟨_, [], Res.one rfl rfl, ⟨false, rfl, rfl, rfl⟩, (Hp.le_refl _), fun w hs => hs⟩
        · have h453 := cf hc494 h453
          refine CJ.skip ?_
          refine CJ.region ?_
          refine J.val (v := .int .i64 i413) rfl rfl (V.mv rfl) ?_
          refine J.val (v := .int .i64 (IntKind.wrap .i64 (i413 + 1))) rfl rfl (V.add rfl rfl) ?_
          refine J.val (v := .int .i64 (IntKind.wrap .i64 (i413 + 1))) rfl rfl (V.as rfl) ?_
          refine J.nil ?_
          have e := Option.some.inj h453
          subst e
          exact ⟨rfl, ⟨IntKind.wrap .i64 (i413 + 1), rfl, ⟨rfl, rfl, rfl, trivial⟩, rfl, rfl⟩⟩
      · have h453 := cf hc457 h453
        refine CJ.exit ?_
        have e := Option.some.inj h453
        subst e
        refine ⟨nofun, fun e => ?_⟩
        subst e
        exact .inl ⟨rfl, _, rfl, ⟨rfl, trivial, rfl, rfl⟩⟩
    · rintro s ρ _ _ ho495 ⟨rfl, hf496, rfl, rfl⟩
      subst ho495
      obtain ⟨ρ, rfl⟩ := hf496.ex
      refine PJ.done ?_
      refine CJ.seq ?_
      refine CJ.region ?_
      refine J.val (v := .bool true) rfl rfl (V.as rfl) ?_
      refine J.nil ?_
      refine CJ.ret ?_
      have e := Option.some.inj h
      subst e
      exact ⟨_, [], Res.one rfl rfl, ⟨true, rfl, rfl, rfl⟩, (Hp.le_refl _), fun w hs => hs⟩
noncomputable def fn_ref15_Has (xa : (List (Int × Bool))) (xb : Int) : Option Bool :=
  (loop (fun (i143 : Int) => (cond (decide (i143 < (((xa.length : Nat) : Int)))) ((getI xa i143).bind fun x161 => cond (decide (x161.1 = xb)) (some (.inr ((.inr (true))))) (some (.inl (IntKind.wrap .i64 (i143 + 1))))) (some (.inr ((.inl ())))) : Option (Int ⊕ (Unit ⊕ Bool)))) 0 : Option (Unit ⊕ Bool)).bind fun o => match o with | .inr r => some r | .inl () => some (false)
set_option maxRecDepth 100000 in
set_option maxHeartbeats 4000000 in
theorem ref15_Has_ok {K : Hp} {xa : (List (Int × Bool))} {xb : Int} {adxa_0 : Option Addr} {cpxa_0 : Nat} (fxa_0 : Is K (.sl (.cons (.int .i64) (.one .bool))) [.slice adxa_0 xa.length cpxa_0] xa) {r : Bool} (h : fn_ref15_Has xa xb = some r) :
    Tr Try.prog 19 #[.agg #[.slice adxa_0 xa.length cpxa_0], .int .i64 xb] K [] (fun v K' L' => (∃ (t87 : Bool), t87 = r ∧ v = .bool t87 ∧ L' = []) ∧ K = K') := by
  refine Tr.k ?_
  refine Tr.of Try.func19 rfl Try.ntmps19 rfl (fun E F => ?_)
  unfold fn_ref15_Has at h
  refine CJ.seq ?_
  refine CJ.region ?_
  refine J.op rfl (A.box (v := .agg #[.slice adxa_0 xa.length cpxa_0]) (cs := [.slice adxa_0 xa.length cpxa_0]) rfl rfl) ?_
  rintro _ _ _ ⟨b88, rfl, rfl, rfl⟩
  refine J.val (v := .bool false) rfl rfl (V.as rfl) ?_
  refine J.nil ?_
  refine CJ.seq ?_
  refine CJ.seq ?_
  refine CJ.region ?_
  refine J.val (v := .int .i64 0) rfl rfl (V.as rfl) ?_
  refine J.nil ?_
  obtain ⟨o129, ho130, h⟩ := ob h
  refine CJ.joinN (o := o129) (fun s ρ K' L' => () = s ∧ Fits [] ρ ∧ K = K' ∧ L' = F) ?_ ?_
  · skip
    refine CJ.block ?_
    refine CJ.loop (fun s ρ K' L' => ∃ (i143 : Int), i143 = s ∧ Fits [(1, .int .i64 xb), (2, .pointer (some ⟨b88, 0, none⟩)), (5, .int .i64 i143)] ρ ∧ K = K' ∧ L' = Cl b88 24 [.slice adxa_0 xa.length cpxa_0] :: F) ho130 ⟨0, rfl, ⟨rfl, rfl, rfl, trivial⟩, rfl, rfl⟩ ?_
    rintro s ρ _ _ r159 ⟨i143, rfl, hf157, rfl, rfl⟩ h156
    obtain ⟨ρ, rfl⟩ := hf157.ex
    refine CJ.seq ?_
    refine CJ.seq ?_
    refine CJ.region ?_
    refine J.val (v := .int .i64 i143) rfl rfl (V.mv rfl) ?_
    refine J.val rfl rfl (V.fad Try.underlying24 rfl nz22 rfl) ?_
    refine J.val (v := .slice adxa_0 xa.length cpxa_0) rfl rfl (V.ld rfl (Ld.sc sc22 (Rd.cl 0 rfl rfl))) ?_
    refine J.val (v := .int .i64 (((xa.length : Nat) : Int))) rfl rfl (V.len Try.underlying22 rfl) ?_
    refine J.val (v := .bool (decide (i143 < (((xa.length : Nat) : Int))))) rfl rfl (V.lss rfl rfl) ?_
    refine J.nil ?_
    refine CJ.cond rfl (fun hc160 => ?_) (fun hc160 => ?_)
    · have h156 := ct hc160 h156
      refine CJ.skip ?_
      refine CJ.seq ?_
      refine CJ.block ?_
      refine CJ.seq ?_
      refine CJ.region ?_
      refine J.val rfl rfl (V.fad Try.underlying24 rfl nz22 rfl) ?_
      refine J.val (v := .slice adxa_0 xa.length cpxa_0) rfl rfl (V.ld rfl (Ld.sc sc22 (Rd.cl 0 rfl rfl))) ?_
      refine J.val (v := .int .i64 i143) rfl rfl (V.mv rfl) ?_
      obtain ⟨x161, hx162, h156⟩ := ob h156
      obtain ⟨p163, p164, p165⟩ := getI_some hx162
      obtain ⟨b166, o167, e168, a169⟩ := (fxa_0).at p164
      refine J.val rfl rfl (V.iad Try.underlying22 sz42 rfl e168 rfl p163 p165) ?_
      refine J.val rfl rfl (V.fad Try.underlying42 rfl nz3 rfl) ?_
      refine J.val (v := .int .i64 x161.1) rfl rfl (V.ld rfl (Ld.sc sc3 (Rd.k ((a169).fst).int (Hp.le_refl _)))) ?_
      refine J.val (v := .int .i64 xb) rfl rfl (V.mv rfl) ?_
      refine J.val (v := .bool (decide (x161.1 = xb))) rfl rfl (V.eql rfl rfl) ?_
      refine J.nil ?_
      refine CJ.cond rfl (fun hc170 => ?_) (fun hc170 => ?_)
      · have h156 := ct hc170 h156
        refine CJ.seq ?_
        refine CJ.region ?_
        refine J.val (v := .bool true) rfl rfl (V.as rfl) ?_
        refine J.nil ?_
        refine CJ.ret ?_
        have e := Option.some.inj h156
        subst e
        refine ⟨nofun, fun e => ?_⟩
        subst e
        refine .inr ⟨nofun, ?_⟩
        have e := Option.some.inj h
        subst e
        exact ⟨_, [], Res.one rfl rfl, ⟨true, rfl, rfl, rfl⟩, (Hp.le_refl _), fun w hs => (Sep.dropAt 0 rfl hs)⟩
      · have h156 := cf hc170 h156
        refine CJ.skip ?_
        refine CJ.region ?_
        refine J.val (v := .int .i64 i143) rfl rfl (V.mv rfl) ?_
        refine J.val (v := .int .i64 (IntKind.wrap .i64 (i143 + 1))) rfl rfl (V.add rfl rfl) ?_
        refine J.val (v := .int .i64 (IntKind.wrap .i64 (i143 + 1))) rfl rfl (V.as rfl) ?_
        refine J.nil ?_
        have e := Option.some.inj h156
        subst e
        exact ⟨rfl, ⟨IntKind.wrap .i64 (i143 + 1), rfl, ⟨rfl, rfl, rfl, trivial⟩, rfl, rfl⟩⟩
    · have h156 := cf hc160 h156
      refine CJ.dropAt 0 rfl ?_
      refine CJ.exit ?_
      have e := Option.some.inj h156
      subst e
      refine ⟨nofun, fun e => ?_⟩
      subst e
      exact .inl ⟨rfl, _, rfl, ⟨rfl, trivial, rfl, rfl⟩⟩
  · rintro s ρ _ _ ho171 ⟨rfl, hf172, rfl, rfl⟩
    subst ho171
    obtain ⟨ρ, rfl⟩ := hf172.ex
    refine PJ.done ?_
    refine CJ.seq ?_
    refine CJ.region ?_
    refine J.val (v := .bool false) rfl rfl (V.as rfl) ?_
    refine J.nil ?_
    refine CJ.ret ?_
    have e := Option.some.inj h
    subst e
    exact ⟨_, [], Res.one rfl rfl, ⟨false, rfl, rfl, rfl⟩, (Hp.le_refl _), fun w hs => hs⟩
noncomputable def fn_law15_RowTells (xa : (List (Int × Bool))) (xb : (List (Int × Bool))) (xc : Int) (xd : Int) : Option Bool :=
  (fn_ref15_Few xa 30).bind fun t259 => (cond (!t259) (some (true)) ((fn_ref15_Few xb 30).bind fun t275 => some (!t275))).bind fun t270 => cond (t270) ((fn_law15_awake).bind fun t282 => some (t282)) ((fn_row_Check xa xc).bind fun i399 => (fn_ref15_Check xa xc).bind fun i405 => cond (decide (i399 = i405)) ((fn_row_Shape xa xb).bind fun t412 => (fn_ref15_Shape xa xb).bind fun t418 => cond (t412 == t418) ((fn_row_Same xa xb).bind fun t425 => (fn_ref15_Same xa xb).bind fun t431 => cond (t425 == t431) ((fn_row_Clone xa).bind fun l438 => (fn_ref15_Same l438 xa).bind fun t451 => cond (t451) ((fn_row_Regions xa).bind fun l458 => (fn_ref15_Regions xa).bind fun l468 => (fn_ref01_Same l458 l468).bind fun t484 => cond (t484) ((fn_row_Has xa xd).bind fun t491 => (fn_ref15_Has xa xd).bind fun t497 => cond (t491 == t497) ((fn_law15_awake).bind fun t504 => some (t504)) (some (false))) (some (false))) (some (false))) (some (false))) (some (false))) (some (false)))
set_option maxRecDepth 100000 in
set_option maxHeartbeats 4000000 in
theorem law15_RowTells_ok {K : Hp} {xa : (List (Int × Bool))} {xb : (List (Int × Bool))} {xc : Int} {xd : Int} {adxa_0 : Option Addr} {cpxa_0 : Nat} {adxb_0 : Option Addr} {cpxb_0 : Nat} (fxa_0 : Is K (.sl (.cons (.int .i64) (.one .bool))) [.slice adxa_0 xa.length cpxa_0] xa) (fxb_0 : Is K (.sl (.cons (.int .i64) (.one .bool))) [.slice adxb_0 xb.length cpxb_0] xb) {r : Bool} (h : fn_law15_RowTells xa xb xc xd = some r) :
    Tr Try.prog 3 #[.agg #[.slice adxa_0 xa.length cpxa_0], .agg #[.slice adxb_0 xb.length cpxb_0], .int .i64 xc, .int .i64 xd] K [] (fun v K' L' => (∃ (t254 : Bool), t254 = r ∧ v = .bool t254 ∧ L' = []) ∧ K = K') := by
  refine Tr.k ?_
  refine Tr.of Try.func3 rfl Try.ntmps3 rfl (fun E F => ?_)
  unfold fn_law15_RowTells at h
  refine CJ.seq ?_
  refine CJ.region ?_
  refine J.op rfl (A.box (v := .agg #[.slice adxa_0 xa.length cpxa_0]) (cs := [.slice adxa_0 xa.length cpxa_0]) rfl rfl) ?_
  rintro _ _ _ ⟨b255, rfl, rfl, rfl⟩
  refine J.op rfl (A.box (v := .agg #[.slice adxb_0 xb.length cpxb_0]) (cs := [.slice adxb_0 xb.length cpxb_0]) rfl rfl) ?_
  rintro _ _ _ ⟨b256, rfl, rfl, rfl⟩
  refine J.val (v := .bool false) rfl rfl (V.as rfl) ?_
  refine J.nil ?_
  refine CJ.seq ?_
  refine CJ.seq ?_
  refine CJ.region ?_
  refine J.val (v := .agg #[.slice adxa_0 xa.length cpxa_0]) rfl rfl (V.ld rfl (Ld.agg (cs := [.slice adxa_0 xa.length cpxa_0]) Try.underlying24 sz24 rfl (Rd.cls 1 0 rfl rfl))) ?_
  obtain ⟨r257, hr258, h⟩ := ob h
  refine J.op rfl (A.call (L1 := []) Try.call6 rfl (ref15_Few_ok fxa_0 hr258) rfl rfl) ?_
  rintro _ _ _ ⟨v260, _, rfl, ⟨⟨t259, rfl, rfl, rfl⟩, rfl⟩, _, rfl⟩
  refine J.val (v := .bool (!t259)) rfl rfl (V.not rfl) ?_
  refine J.val (v := .bool (!t259)) rfl rfl (V.mv rfl) ?_
  refine J.cut 4 ?_
  obtain ⟨t270, ht271, h⟩ := ob h
  refine @J.meet _ _ _ _ _ _ _ _ _ _ (fun ρ K' L' => Fits [(16, .bool t270), (2, .int .i64 xc), (3, .int .i64 xd), (4, .pointer (some ⟨b255, 0, none⟩)), (5, .pointer (some ⟨b256, 0, none⟩))] ρ ∧ K = K' ∧ L' = Cl b256 24 [.slice adxb_0 xb.length cpxb_0] :: Cl b255 24 [.slice adxa_0 xa.length cpxa_0] :: F) ?_ ?_
  · skip
    rcases bt (!t259) with hc272 | hc272
    · have ht271 := ct hc272 ht271
      refine J.skip rfl rfl rfl rfl hc272 ?_
      refine J.skip rfl rfl rfl rfl hc272 ?_
      refine J.skip rfl rfl rfl rfl hc272 ?_
      refine J.val (v := .bool true) rfl rfl (V.pickT rfl hc272 rfl) ?_
      refine J.nil ?_
      have e := Option.some.inj ht271
      subst e
      exact ⟨rfl, ⟨rfl, rfl, rfl, rfl, rfl, trivial⟩, rfl, rfl⟩
    · have ht271 := cf hc272 ht271
      refine J.run rfl rfl rfl hc272 ?_
      refine J.val (v := .agg #[.slice adxb_0 xb.length cpxb_0]) rfl rfl (V.ld rfl (Ld.agg (cs := [.slice adxb_0 xb.length cpxb_0]) Try.underlying24 sz24 rfl (Rd.cls 0 0 rfl rfl))) ?_
      refine J.run rfl rfl rfl hc272 ?_
      obtain ⟨r273, hr274, ht271⟩ := ob ht271
      refine J.op rfl (A.call (L1 := []) Try.call6 rfl (ref15_Few_ok fxb_0 hr274) rfl rfl) ?_
      rintro _ _ _ ⟨v276, _, rfl, ⟨⟨t275, rfl, rfl, rfl⟩, rfl⟩, _, rfl⟩
      refine J.run rfl rfl rfl hc272 ?_
      refine J.val (v := .bool (!t275)) rfl rfl (V.not rfl) ?_
      refine J.val (v := .bool (!t275)) rfl rfl (V.pickF rfl hc272 rfl) ?_
      refine J.nil ?_
      have e := Option.some.inj ht271
      subst e
      exact ⟨rfl, ⟨rfl, rfl, rfl, rfl, rfl, trivial⟩, rfl, rfl⟩
  · rintro ρ _ _ ⟨hf, rfl, rfl⟩
    obtain ⟨ρ, rfl⟩ := hf.ex
    refine J.nil ?_
    refine CJ.cond rfl (fun hc279 => ?_) (fun hc279 => ?_)
    · have h := ct hc279 h
      refine CJ.seq ?_
      refine CJ.region ?_
      obtain ⟨r280, hr281, h⟩ := ob h
      refine J.op rfl (A.call (L1 := []) Try.call7 rfl (law15_awake_ok hr281) rfl rfl) ?_
      rintro _ _ _ ⟨v283, _, rfl, ⟨⟨t282, rfl, rfl, rfl⟩, rfl⟩, _, rfl⟩
      refine J.val (v := .bool t282) rfl rfl (V.as rfl) ?_
      refine J.nil ?_
      refine CJ.ret ?_
      have e := Option.some.inj h
      subst e
      exact ⟨_, [], Res.one rfl rfl, ⟨t282, rfl, rfl, rfl⟩, (Hp.le_refl _), fun w hs => (Sep.dropAt 0 rfl (Sep.dropAt 0 rfl hs))⟩
    · have h := cf hc279 h
      refine CJ.skip ?_
      refine CJ.seq ?_
      refine CJ.mix [Cl b256 24 [.slice adxb_0 xb.length cpxb_0], Cl b255 24 [.slice adxa_0 xa.length cpxa_0]] [([0, 1, 3, 4], 2), ([], 5), ([6, 7, 8, 9, 11, 12], 10), ([], 13), ([14, 15, 16, 17, 18, 20, 21], 19), ([], 22), ([23, 24, 25, 26, 28], 27), ([], 29), ([30, 31, 32, 34], 33), ([], 35), ([], 36), ([37, 38, 39, 40, 42, 43], 41), ([], 44), ([45, 46, 47], 48)] [49, 50] [] mixO (by decide +kernel) ⟨0, rfl, 0, rfl, trivial⟩ rfl rfl rfl ?_
      refine JM.cons ?_
      refine JQ.val (v := .agg #[.slice adxa_0 xa.length cpxa_0]) rfl rfl (V.ld rfl (Ld.agg (cs := [.slice adxa_0 xa.length cpxa_0]) Try.underlying24 sz24 rfl (Rd.cls 1 0 rfl rfl))) ?_
      refine JQ.val (v := .int .i64 xc) rfl rfl (V.mv rfl) ?_
      refine JQ.val (v := .agg #[.slice adxa_0 xa.length cpxa_0]) rfl rfl (V.ld rfl (Ld.agg (cs := [.slice adxa_0 xa.length cpxa_0]) Try.underlying24 sz24 rfl (Rd.cls 1 0 rfl rfl))) ?_
      refine JQ.val (v := .int .i64 xc) rfl rfl (V.mv rfl) ?_
      refine JQ.nil ?_
      obtain ⟨r397, hr398, h⟩ := ob h
      refine JA.op rfl (A.call (L1 := []) Try.call8 rfl (row_Check_ok fxa_0 hr398) rfl rfl) ?_
      rintro _ _ _ ⟨v400, _, rfl, ⟨⟨i399, rfl, rfl, rfl⟩, rfl⟩, _, rfl⟩
      refine ⟨fun w hs => Hold.sub (Hp.le_refl _) ⟨0, rfl, 0, rfl, trivial⟩ hs, ?_⟩
      refine JM.cons ?_
      refine JQ.nil ?_
      obtain ⟨r403, hr404, h⟩ := ob h
      refine JA.op rfl (A.call (L1 := []) Try.call9 rfl (ref15_Check_ok fxa_0 hr404) rfl rfl) ?_
      rintro _ _ _ ⟨v406, _, rfl, ⟨⟨i405, rfl, rfl, rfl⟩, rfl⟩, _, rfl⟩
      refine ⟨fun w hs => Hold.sub (Hp.le_refl _) ⟨0, rfl, 0, rfl, trivial⟩ hs, ?_⟩
      refine JM.cons ?_
      refine JQ.val (v := .bool (decide (i399 = i405))) rfl rfl (V.eql rfl rfl) ?_
      refine JQ.val (v := .bool (decide (i399 = i405))) rfl rfl (V.mv rfl) ?_
      rcases bt (decide (i399 = i405)) with hc409 | hc409
      · have h := ct hc409 h
        refine JQ.run rfl rfl rfl hc409 ?_
        refine JQ.val (v := .agg #[.slice adxa_0 xa.length cpxa_0]) rfl rfl (V.ld rfl (Ld.agg (cs := [.slice adxa_0 xa.length cpxa_0]) Try.underlying24 sz24 rfl (Rd.cls 1 0 rfl rfl))) ?_
        refine JQ.run rfl rfl rfl hc409 ?_
        refine JQ.val (v := .agg #[.slice adxb_0 xb.length cpxb_0]) rfl rfl (V.ld rfl (Ld.agg (cs := [.slice adxb_0 xb.length cpxb_0]) Try.underlying24 sz24 rfl (Rd.cls 0 0 rfl rfl))) ?_
        refine JQ.run rfl rfl rfl hc409 ?_
        refine JQ.val (v := .agg #[.slice adxa_0 xa.length cpxa_0]) rfl rfl (V.ld rfl (Ld.agg (cs := [.slice adxa_0 xa.length cpxa_0]) Try.underlying24 sz24 rfl (Rd.cls 1 0 rfl rfl))) ?_
        refine JQ.run rfl rfl rfl hc409 ?_
        refine JQ.val (v := .agg #[.slice adxb_0 xb.length cpxb_0]) rfl rfl (V.ld rfl (Ld.agg (cs := [.slice adxb_0 xb.length cpxb_0]) Try.underlying24 sz24 rfl (Rd.cls 0 0 rfl rfl))) ?_
        refine JQ.nil ?_
        refine JA.run rfl rfl rfl hc409 ?_
        obtain ⟨r410, hr411, h⟩ := ob h
        refine JA.op rfl (A.call (L1 := []) Try.call10 rfl (row_Shape_ok fxa_0 fxb_0 hr411) rfl rfl) ?_
        rintro _ _ _ ⟨v413, _, rfl, ⟨⟨t412, rfl, rfl, rfl⟩, rfl⟩, _, rfl⟩
        refine ⟨fun w hs => Hold.sub (Hp.le_refl _) ⟨0, rfl, 0, rfl, trivial⟩ hs, ?_⟩
        refine JM.cons ?_
        refine JQ.nil ?_
        refine JA.run rfl rfl rfl hc409 ?_
        obtain ⟨r416, hr417, h⟩ := ob h
        refine JA.op rfl (A.call (L1 := []) Try.call11 rfl (ref15_Shape_ok fxa_0 fxb_0 hr417) rfl rfl) ?_
        rintro _ _ _ ⟨v419, _, rfl, ⟨⟨t418, rfl, rfl, rfl⟩, rfl⟩, _, rfl⟩
        refine ⟨fun w hs => Hold.sub (Hp.le_refl _) ⟨0, rfl, 0, rfl, trivial⟩ hs, ?_⟩
        refine JM.cons ?_
        refine JQ.run rfl rfl rfl hc409 ?_
        refine JQ.val (v := .bool (t412 == t418)) rfl rfl (V.eqb Try.underlying4 rfl rfl) ?_
        refine JQ.val (v := .bool (t412 == t418)) rfl rfl (V.pickT rfl hc409 rfl) ?_
        refine JQ.val (v := .bool (t412 == t418)) rfl rfl (V.mv rfl) ?_
        rcases bt (t412 == t418) with hc422 | hc422
        · have h := ct hc422 h
          refine JQ.run rfl rfl rfl hc422 ?_
          refine JQ.val (v := .agg #[.slice adxa_0 xa.length cpxa_0]) rfl rfl (V.ld rfl (Ld.agg (cs := [.slice adxa_0 xa.length cpxa_0]) Try.underlying24 sz24 rfl (Rd.cls 1 0 rfl rfl))) ?_
          refine JQ.run rfl rfl rfl hc422 ?_
          refine JQ.val (v := .agg #[.slice adxb_0 xb.length cpxb_0]) rfl rfl (V.ld rfl (Ld.agg (cs := [.slice adxb_0 xb.length cpxb_0]) Try.underlying24 sz24 rfl (Rd.cls 0 0 rfl rfl))) ?_
          refine JQ.run rfl rfl rfl hc422 ?_
          refine JQ.val (v := .agg #[.slice adxa_0 xa.length cpxa_0]) rfl rfl (V.ld rfl (Ld.agg (cs := [.slice adxa_0 xa.length cpxa_0]) Try.underlying24 sz24 rfl (Rd.cls 1 0 rfl rfl))) ?_
          refine JQ.run rfl rfl rfl hc422 ?_
          refine JQ.val (v := .agg #[.slice adxb_0 xb.length cpxb_0]) rfl rfl (V.ld rfl (Ld.agg (cs := [.slice adxb_0 xb.length cpxb_0]) Try.underlying24 sz24 rfl (Rd.cls 0 0 rfl rfl))) ?_
          refine JQ.nil ?_
          refine JA.run rfl rfl rfl hc422 ?_
          obtain ⟨r423, hr424, h⟩ := ob h
          refine JA.op rfl (A.call (L1 := []) Try.call12 rfl (row_Same_ok fxa_0 fxb_0 hr424) rfl rfl) ?_
          rintro _ _ _ ⟨v426, _, rfl, ⟨⟨t425, rfl, rfl, rfl⟩, rfl⟩, _, rfl⟩
          refine ⟨fun w hs => Hold.sub (Hp.le_refl _) ⟨0, rfl, 0, rfl, trivial⟩ hs, ?_⟩
          refine JM.cons ?_
          refine JQ.nil ?_
          refine JA.run rfl rfl rfl hc422 ?_
          obtain ⟨r429, hr430, h⟩ := ob h
          refine JA.op rfl (A.call (L1 := []) Try.call13 rfl (ref15_Same_ok fxa_0 fxb_0 hr430) rfl rfl) ?_
          rintro _ _ _ ⟨v432, _, rfl, ⟨⟨t431, rfl, rfl, rfl⟩, rfl⟩, _, rfl⟩
          refine ⟨fun w hs => Hold.sub (Hp.le_refl _) ⟨0, rfl, 0, rfl, trivial⟩ hs, ?_⟩
          refine JM.cons ?_
          refine JQ.run rfl rfl rfl hc422 ?_
          refine JQ.val (v := .bool (t425 == t431)) rfl rfl (V.eqb Try.underlying4 rfl rfl) ?_
          refine JQ.val (v := .bool (t425 == t431)) rfl rfl (V.pickT rfl hc422 rfl) ?_
          refine JQ.val (v := .bool (t425 == t431)) rfl rfl (V.mv rfl) ?_
          rcases bt (t425 == t431) with hc435 | hc435
          · have h := ct hc435 h
            refine JQ.run rfl rfl rfl hc435 ?_
            refine JQ.val (v := .agg #[.slice adxa_0 xa.length cpxa_0]) rfl rfl (V.ld rfl (Ld.agg (cs := [.slice adxa_0 xa.length cpxa_0]) Try.underlying24 sz24 rfl (Rd.cls 1 0 rfl rfl))) ?_
            refine JQ.run rfl rfl rfl hc435 ?_
            refine JQ.val (v := .agg #[.slice adxa_0 xa.length cpxa_0]) rfl rfl (V.ld rfl (Ld.agg (cs := [.slice adxa_0 xa.length cpxa_0]) Try.underlying24 sz24 rfl (Rd.cls 1 0 rfl rfl))) ?_
            refine JQ.nil ?_
            refine JA.run rfl rfl rfl hc435 ?_
            obtain ⟨r436, hr437, h⟩ := ob h
            refine JA.op rfl (A.call (L1 := []) Try.call14 rfl (row_Clone_ok fxa_0 hr437) rfl rfl) ?_
            rintro _ _ _ ⟨v442, _, rfl, ⟨⟨l438, ad439, cp440, rfl, rfl, rfl⟩, rfl⟩, _, rfl⟩
            refine ⟨fun w hs => Hold.sub (Hp.le_refl _) ⟨1, rfl, 1, rfl, trivial⟩ hs, ?_⟩
            refine JM.wit Row.hn (fun hn441 => ?_)
            refine JM.cons ?_
            refine JQ.nil ?_
            refine JA.run rfl rfl rfl hc435 ?_
            obtain ⟨r446, hr447, h⟩ := ob h
            refine JA.op rfl (A.call (L1 := [Row Hp.nil 42 (.cons (.int .i64) (.one .bool)) (.slice ad439 l438.length cp440) l438]) Try.call13 rfl (Tr.lend (Hp.nil_le _) (by decide) (fun K448 hK449 f450 => ref15_Same_ok f450 (fxa_0.mono hK449) hr447)) rfl rfl) ?_
            rintro _ _ _ ⟨v452, _, rfl, ⟨⟨_, ⟨t451, rfl, rfl, rfl⟩, rfl⟩, rfl⟩, _, rfl⟩
            refine ⟨fun w hs => Hold.sub (Hp.le_refl _) ⟨1, rfl, 1, rfl, trivial⟩ hs, ?_⟩
            refine JM.cons ?_
            refine JQ.val (v := .bool t451) rfl rfl (V.pickT rfl hc435 rfl) ?_
            refine JQ.val (v := .bool t451) rfl rfl (V.mv rfl) ?_
            rcases bt (t451) with hc455 | hc455
            · have h := ct hc455 h
              refine JQ.run rfl rfl rfl hc455 ?_
              refine JQ.val (v := .agg #[.slice adxa_0 xa.length cpxa_0]) rfl rfl (V.ld rfl (Ld.agg (cs := [.slice adxa_0 xa.length cpxa_0]) Try.underlying24 sz24 rfl (Rd.cls 1 0 rfl rfl))) ?_
              refine JQ.run rfl rfl rfl hc455 ?_
              refine JQ.val (v := .agg #[.slice adxa_0 xa.length cpxa_0]) rfl rfl (V.ld rfl (Ld.agg (cs := [.slice adxa_0 xa.length cpxa_0]) Try.underlying24 sz24 rfl (Rd.cls 1 0 rfl rfl))) ?_
              refine JQ.nil ?_
              refine JA.run rfl rfl rfl hc455 ?_
              obtain ⟨r456, hr457, h⟩ := ob h
              refine JA.op rfl (A.call (L1 := []) Try.call16 rfl (row_Regions_ok fxa_0 hr457) rfl rfl) ?_
              rintro _ _ _ ⟨v462, _, rfl, ⟨⟨l458, ad459, cp460, rfl, rfl, rfl⟩, rfl⟩, _, rfl⟩
              refine ⟨fun w hs => Hold.sub (Hp.le_refl _) ⟨2, rfl, 2, rfl, trivial⟩ hs, ?_⟩
              refine JM.wit Row.hn (fun hn461 => ?_)
              refine JM.cons ?_
              refine JQ.nil ?_
              refine JA.run rfl rfl rfl hc455 ?_
              obtain ⟨r466, hr467, h⟩ := ob h
              refine JA.op rfl (A.call (L1 := []) Try.call17 rfl (ref15_Regions_ok fxa_0 hr467) rfl rfl) ?_
              rintro _ _ _ ⟨v472, _, rfl, ⟨⟨l468, ad469, cp470, rfl, rfl, rfl⟩, rfl⟩, _, rfl⟩
              refine ⟨fun w hs => Hold.sub (Hp.le_refl _) ⟨3, rfl, 3, rfl, trivial⟩ hs, ?_⟩
              refine JM.wit Row.hn (fun hn471 => ?_)
              refine JM.cons ?_
              refine JQ.nil ?_
              refine JA.run rfl rfl rfl hc455 ?_
              obtain ⟨r476, hr477, h⟩ := ob h
              refine JA.front 1 rfl ?_
              refine JA.op rfl (A.call (L1 := [Row Hp.nil 3 (.int .i64) (.slice ad459 l458.length cp460) l458, Row Hp.nil 3 (.int .i64) (.slice ad469 l468.length cp470) l468]) Try.call15 rfl (Tr.lend (Hp.nil_le _) (by decide) (fun K478 hK479 f480 => Tr.lend (Hp.nil_le _) (by decide) (fun K481 hK482 f483 => ref01_Same_ok (f480.mono hK482) f483 hr477))) rfl rfl) ?_
              rintro _ _ _ ⟨v485, _, rfl, ⟨⟨_, ⟨_, ⟨t484, rfl, rfl, rfl⟩, rfl⟩, rfl⟩, rfl⟩, _, rfl⟩
              refine ⟨fun w hs => Hold.sub (Hp.le_refl _) ⟨3, rfl, 3, rfl, trivial⟩ hs, ?_⟩
              refine JM.cons ?_
              refine JQ.val (v := .bool t484) rfl rfl (V.pickT rfl hc455 rfl) ?_
              refine JQ.val (v := .bool t484) rfl rfl (V.mv rfl) ?_
              rcases bt (t484) with hc488 | hc488
              · have h := ct hc488 h
                refine JQ.run rfl rfl rfl hc488 ?_
                refine JQ.val (v := .agg #[.slice adxa_0 xa.length cpxa_0]) rfl rfl (V.ld rfl (Ld.agg (cs := [.slice adxa_0 xa.length cpxa_0]) Try.underlying24 sz24 rfl (Rd.cls 1 0 rfl rfl))) ?_
                refine JQ.run rfl rfl rfl hc488 ?_
                refine JQ.val (v := .int .i64 xd) rfl rfl (V.mv rfl) ?_
                refine JQ.run rfl rfl rfl hc488 ?_
                refine JQ.val (v := .agg #[.slice adxa_0 xa.length cpxa_0]) rfl rfl (V.ld rfl (Ld.agg (cs := [.slice adxa_0 xa.length cpxa_0]) Try.underlying24 sz24 rfl (Rd.cls 1 0 rfl rfl))) ?_
                refine JQ.run rfl rfl rfl hc488 ?_
                refine JQ.val (v := .int .i64 xd) rfl rfl (V.mv rfl) ?_
                refine JQ.nil ?_
                refine JA.run rfl rfl rfl hc488 ?_
                obtain ⟨r489, hr490, h⟩ := ob h
                refine JA.op rfl (A.call (L1 := []) Try.call18 rfl (row_Has_ok fxa_0 hr490) rfl rfl) ?_
                rintro _ _ _ ⟨v492, _, rfl, ⟨⟨t491, rfl, rfl, rfl⟩, rfl⟩, _, rfl⟩
                refine ⟨fun w hs => Hold.sub (Hp.le_refl _) ⟨3, rfl, 3, rfl, trivial⟩ hs, ?_⟩
                refine JM.cons ?_
                refine JQ.nil ?_
                refine JA.run rfl rfl rfl hc488 ?_
                obtain ⟨r495, hr496, h⟩ := ob h
                refine JA.op rfl (A.call (L1 := []) Try.call19 rfl (ref15_Has_ok fxa_0 hr496) rfl rfl) ?_
                rintro _ _ _ ⟨v498, _, rfl, ⟨⟨t497, rfl, rfl, rfl⟩, rfl⟩, _, rfl⟩
                refine ⟨fun w hs => Hold.sub (Hp.le_refl _) ⟨3, rfl, 3, rfl, trivial⟩ hs, ?_⟩
                refine JM.cons ?_
                refine JQ.run rfl rfl rfl hc488 ?_
                refine JQ.val (v := .bool (t491 == t497)) rfl rfl (V.eqb Try.underlying4 rfl rfl) ?_
                refine JQ.val (v := .bool (t491 == t497)) rfl rfl (V.pickT rfl hc488 rfl) ?_
                refine JQ.val (v := .bool (t491 == t497)) rfl rfl (V.mv rfl) ?_
                refine JQ.nil ?_
                rcases bt (t491 == t497) with hc501 | hc501
                · have h := ct hc501 h
                  refine JA.run rfl rfl rfl hc501 ?_
                  obtain ⟨r502, hr503, h⟩ := ob h
                  refine JA.op rfl (A.call (L1 := []) Try.call7 rfl (law15_awake_ok hr503) rfl rfl) ?_
                  rintro _ _ _ ⟨v505, _, rfl, ⟨⟨t504, rfl, rfl, rfl⟩, rfl⟩, _, rfl⟩
                  refine ⟨fun w hs => Hold.sub (Hp.le_refl _) ⟨3, rfl, 3, rfl, trivial⟩ hs, ?_⟩
                  refine JM.nil ?_
                  refine JQ.val (v := .bool t504) rfl rfl (V.pickT rfl hc501 rfl) ?_
                  refine JQ.val (v := .bool t504) rfl rfl (V.as rfl) ?_
                  refine JQ.nil ?_
                  refine J.nil ?_
                  refine CJ.ret ?_
                  have e := Option.some.inj h
                  subst e
                  exact ⟨_, [], Res.one rfl rfl, ⟨t504, rfl, rfl, rfl⟩, (Hp.le_refl _), fun w hs => (Sep.dropAt 0 rfl (Sep.dropAt 0 rfl (Sep.dropAt 0 rfl (Sep.dropAt 0 rfl (Sep.dropAt 0 rfl hs)))))⟩
                · have h := cf hc501 h
                  refine JA.skip rfl rfl rfl rfl hc501 ?_
                  refine JM.nil ?_
                  refine JQ.val (v := .bool false) rfl rfl (V.pickF rfl hc501 rfl) ?_
                  refine JQ.val (v := .bool false) rfl rfl (V.as rfl) ?_
                  refine JQ.nil ?_
                  refine J.nil ?_
                  refine CJ.ret ?_
                  have e := Option.some.inj h
                  subst e
                  exact ⟨_, [], Res.one rfl rfl, ⟨false, rfl, rfl, rfl⟩, (Hp.le_refl _), fun w hs => (Sep.dropAt 0 rfl (Sep.dropAt 0 rfl (Sep.dropAt 0 rfl (Sep.dropAt 0 rfl (Sep.dropAt 0 rfl hs)))))⟩
              · have h := cf hc488 h
                refine JQ.skip rfl rfl rfl rfl hc488 ?_
                refine JQ.skip rfl rfl rfl rfl hc488 ?_
                refine JQ.skip rfl rfl rfl rfl hc488 ?_
                refine JQ.skip rfl rfl rfl rfl hc488 ?_
                refine JQ.nil ?_
                refine JA.skip rfl rfl rfl rfl hc488 ?_
                refine JM.cons ?_
                refine JQ.nil ?_
                refine JA.skip rfl rfl rfl rfl hc488 ?_
                refine JM.cons ?_
                refine JQ.skip rfl rfl rfl rfl hc488 ?_
                refine JQ.val (v := .bool false) rfl rfl (V.pickF rfl hc488 rfl) ?_
                refine JQ.val (v := .bool false) rfl rfl (V.mv rfl) ?_
                refine JQ.nil ?_
                refine JA.skip rfl rfl rfl rfl rfl ?_
                refine JM.nil ?_
                refine JQ.val (v := .bool false) rfl rfl (V.pickF rfl rfl rfl) ?_
                refine JQ.val (v := .bool false) rfl rfl (V.as rfl) ?_
                refine JQ.nil ?_
                refine J.nil ?_
                refine CJ.ret ?_
                have e := Option.some.inj h
                subst e
                exact ⟨_, [], Res.one rfl rfl, ⟨false, rfl, rfl, rfl⟩, (Hp.le_refl _), fun w hs => (Sep.dropAt 0 rfl (Sep.dropAt 0 rfl (Sep.dropAt 0 rfl (Sep.dropAt 0 rfl (Sep.dropAt 0 rfl hs)))))⟩
            · have h := cf hc455 h
              refine JQ.skip rfl rfl rfl rfl hc455 ?_
              refine JQ.skip rfl rfl rfl rfl hc455 ?_
              refine JQ.nil ?_
              refine JA.skip rfl rfl rfl rfl hc455 ?_
              refine JM.cons ?_
              refine JQ.nil ?_
              refine JA.skip rfl rfl rfl rfl hc455 ?_
              refine JM.cons ?_
              refine JQ.nil ?_
              refine JA.skip rfl rfl rfl rfl hc455 ?_
              refine JM.cons ?_
              refine JQ.val (v := .bool false) rfl rfl (V.pickF rfl hc455 rfl) ?_
              refine JQ.val (v := .bool false) rfl rfl (V.mv rfl) ?_
              refine JQ.skip rfl rfl rfl rfl rfl ?_
              refine JQ.skip rfl rfl rfl rfl rfl ?_
              refine JQ.skip rfl rfl rfl rfl rfl ?_
              refine JQ.skip rfl rfl rfl rfl rfl ?_
              refine JQ.nil ?_
              refine JA.skip rfl rfl rfl rfl rfl ?_
              refine JM.cons ?_
              refine JQ.nil ?_
              refine JA.skip rfl rfl rfl rfl rfl ?_
              refine JM.cons ?_
              refine JQ.skip rfl rfl rfl rfl rfl ?_
              refine JQ.val (v := .bool false) rfl rfl (V.pickF rfl rfl rfl) ?_
              refine JQ.val (v := .bool false) rfl rfl (V.mv rfl) ?_
              refine JQ.nil ?_
              refine JA.skip rfl rfl rfl rfl rfl ?_
              refine JM.nil ?_
              refine JQ.val (v := .bool false) rfl rfl (V.pickF rfl rfl rfl) ?_
              refine JQ.val (v := .bool false) rfl rfl (V.as rfl) ?_
              refine JQ.nil ?_
              refine J.nil ?_
              refine CJ.ret ?_
              have e := Option.some.inj h
              subst e
              exact ⟨_, [], Res.one rfl rfl, ⟨false, rfl, rfl, rfl⟩, (Hp.le_refl _), fun w hs => (Sep.dropAt 0 rfl (Sep.dropAt 0 rfl (Sep.dropAt 0 rfl hs)))⟩
          · have h := cf hc435 h
            refine JQ.skip rfl rfl rfl rfl hc435 ?_
            refine JQ.skip rfl rfl rfl rfl hc435 ?_
            refine JQ.nil ?_
            refine JA.skip rfl rfl rfl rfl hc435 ?_
            refine JM.cons ?_
            refine JQ.nil ?_
            refine JA.skip rfl rfl rfl rfl hc435 ?_
            refine JM.cons ?_
            refine JQ.val (v := .bool false) rfl rfl (V.pickF rfl hc435 rfl) ?_
            refine JQ.val (v := .bool false) rfl rfl (V.mv rfl) ?_
            refine JQ.skip rfl rfl rfl rfl rfl ?_
            refine JQ.skip rfl rfl rfl rfl rfl ?_
            refine JQ.nil ?_
            refine JA.skip rfl rfl rfl rfl rfl ?_
            refine JM.cons ?_
            refine JQ.nil ?_
            refine JA.skip rfl rfl rfl rfl rfl ?_
            refine JM.cons ?_
            refine JQ.nil ?_
            refine JA.skip rfl rfl rfl rfl rfl ?_
            refine JM.cons ?_
            refine JQ.val (v := .bool false) rfl rfl (V.pickF rfl rfl rfl) ?_
            refine JQ.val (v := .bool false) rfl rfl (V.mv rfl) ?_
            refine JQ.skip rfl rfl rfl rfl rfl ?_
            refine JQ.skip rfl rfl rfl rfl rfl ?_
            refine JQ.skip rfl rfl rfl rfl rfl ?_
            refine JQ.skip rfl rfl rfl rfl rfl ?_
            refine JQ.nil ?_
            refine JA.skip rfl rfl rfl rfl rfl ?_
            refine JM.cons ?_
            refine JQ.nil ?_
            refine JA.skip rfl rfl rfl rfl rfl ?_
            refine JM.cons ?_
            refine JQ.skip rfl rfl rfl rfl rfl ?_
            refine JQ.val (v := .bool false) rfl rfl (V.pickF rfl rfl rfl) ?_
            refine JQ.val (v := .bool false) rfl rfl (V.mv rfl) ?_
            refine JQ.nil ?_
            refine JA.skip rfl rfl rfl rfl rfl ?_
            refine JM.nil ?_
            refine JQ.val (v := .bool false) rfl rfl (V.pickF rfl rfl rfl) ?_
            refine JQ.val (v := .bool false) rfl rfl (V.as rfl) ?_
            refine JQ.nil ?_
            refine J.nil ?_
            refine CJ.ret ?_
            have e := Option.some.inj h
            subst e
            exact ⟨_, [], Res.one rfl rfl, ⟨false, rfl, rfl, rfl⟩, (Hp.le_refl _), fun w hs => (Sep.dropAt 0 rfl (Sep.dropAt 0 rfl hs))⟩
        · have h := cf hc422 h
          refine JQ.skip rfl rfl rfl rfl hc422 ?_
          refine JQ.skip rfl rfl rfl rfl hc422 ?_
          refine JQ.skip rfl rfl rfl rfl hc422 ?_
          refine JQ.skip rfl rfl rfl rfl hc422 ?_
          refine JQ.nil ?_
          refine JA.skip rfl rfl rfl rfl hc422 ?_
          refine JM.cons ?_
          refine JQ.nil ?_
          refine JA.skip rfl rfl rfl rfl hc422 ?_
          refine JM.cons ?_
          refine JQ.skip rfl rfl rfl rfl hc422 ?_
          refine JQ.val (v := .bool false) rfl rfl (V.pickF rfl hc422 rfl) ?_
          refine JQ.val (v := .bool false) rfl rfl (V.mv rfl) ?_
          refine JQ.skip rfl rfl rfl rfl rfl ?_
          refine JQ.skip rfl rfl rfl rfl rfl ?_
          refine JQ.nil ?_
          refine JA.skip rfl rfl rfl rfl rfl ?_
          refine JM.cons ?_
          refine JQ.nil ?_
          refine JA.skip rfl rfl rfl rfl rfl ?_
          refine JM.cons ?_
          refine JQ.val (v := .bool false) rfl rfl (V.pickF rfl rfl rfl) ?_
          refine JQ.val (v := .bool false) rfl rfl (V.mv rfl) ?_
          refine JQ.skip rfl rfl rfl rfl rfl ?_
          refine JQ.skip rfl rfl rfl rfl rfl ?_
          refine JQ.nil ?_
          refine JA.skip rfl rfl rfl rfl rfl ?_
          refine JM.cons ?_
          refine JQ.nil ?_
          refine JA.skip rfl rfl rfl rfl rfl ?_
          refine JM.cons ?_
          refine JQ.nil ?_
          refine JA.skip rfl rfl rfl rfl rfl ?_
          refine JM.cons ?_
          refine JQ.val (v := .bool false) rfl rfl (V.pickF rfl rfl rfl) ?_
          refine JQ.val (v := .bool false) rfl rfl (V.mv rfl) ?_
          refine JQ.skip rfl rfl rfl rfl rfl ?_
          refine JQ.skip rfl rfl rfl rfl rfl ?_
          refine JQ.skip rfl rfl rfl rfl rfl ?_
          refine JQ.skip rfl rfl rfl rfl rfl ?_
          refine JQ.nil ?_
          refine JA.skip rfl rfl rfl rfl rfl ?_
          refine JM.cons ?_
          refine JQ.nil ?_
          refine JA.skip rfl rfl rfl rfl rfl ?_
          refine JM.cons ?_
          refine JQ.skip rfl rfl rfl rfl rfl ?_
          refine JQ.val (v := .bool false) rfl rfl (V.pickF rfl rfl rfl) ?_
          refine JQ.val (v := .bool false) rfl rfl (V.mv rfl) ?_
          refine JQ.nil ?_
          refine JA.skip rfl rfl rfl rfl rfl ?_
          refine JM.nil ?_
          refine JQ.val (v := .bool false) rfl rfl (V.pickF rfl rfl rfl) ?_
          refine JQ.val (v := .bool false) rfl rfl (V.as rfl) ?_
          refine JQ.nil ?_
          refine J.nil ?_
          refine CJ.ret ?_
          have e := Option.some.inj h
          subst e
          exact ⟨_, [], Res.one rfl rfl, ⟨false, rfl, rfl, rfl⟩, (Hp.le_refl _), fun w hs => (Sep.dropAt 0 rfl (Sep.dropAt 0 rfl hs))⟩
      · have h := cf hc409 h
        refine JQ.skip rfl rfl rfl rfl hc409 ?_
        refine JQ.skip rfl rfl rfl rfl hc409 ?_
        refine JQ.skip rfl rfl rfl rfl hc409 ?_
        refine JQ.skip rfl rfl rfl rfl hc409 ?_
        refine JQ.nil ?_
        refine JA.skip rfl rfl rfl rfl hc409 ?_
        refine JM.cons ?_
        refine JQ.nil ?_
        refine JA.skip rfl rfl rfl rfl hc409 ?_
        refine JM.cons ?_
        refine JQ.skip rfl rfl rfl rfl hc409 ?_
        refine JQ.val (v := .bool false) rfl rfl (V.pickF rfl hc409 rfl) ?_
        refine JQ.val (v := .bool false) rfl rfl (V.mv rfl) ?_
        refine JQ.skip rfl rfl rfl rfl rfl ?_
        refine JQ.skip rfl rfl rfl rfl rfl ?_
        refine JQ.skip rfl rfl rfl rfl rfl ?_
        refine JQ.skip rfl rfl rfl rfl rfl ?_
        refine JQ.nil ?_
        refine JA.skip rfl rfl rfl rfl rfl ?_
        refine JM.cons ?_
        refine JQ.nil ?_
        refine JA.skip rfl rfl rfl rfl rfl ?_
        refine JM.cons ?_
        refine JQ.skip rfl rfl rfl rfl rfl ?_
        refine JQ.val (v := .bool false) rfl rfl (V.pickF rfl rfl rfl) ?_
        refine JQ.val (v := .bool false) rfl rfl (V.mv rfl) ?_
        refine JQ.skip rfl rfl rfl rfl rfl ?_
        refine JQ.skip rfl rfl rfl rfl rfl ?_
        refine JQ.nil ?_
        refine JA.skip rfl rfl rfl rfl rfl ?_
        refine JM.cons ?_
        refine JQ.nil ?_
        refine JA.skip rfl rfl rfl rfl rfl ?_
        refine JM.cons ?_
        refine JQ.val (v := .bool false) rfl rfl (V.pickF rfl rfl rfl) ?_
        refine JQ.val (v := .bool false) rfl rfl (V.mv rfl) ?_
        refine JQ.skip rfl rfl rfl rfl rfl ?_
        refine JQ.skip rfl rfl rfl rfl rfl ?_
        refine JQ.nil ?_
        refine JA.skip rfl rfl rfl rfl rfl ?_
        refine JM.cons ?_
        refine JQ.nil ?_
        refine JA.skip rfl rfl rfl rfl rfl ?_
        refine JM.cons ?_
        refine JQ.nil ?_
        refine JA.skip rfl rfl rfl rfl rfl ?_
        refine JM.cons ?_
        refine JQ.val (v := .bool false) rfl rfl (V.pickF rfl rfl rfl) ?_
        refine JQ.val (v := .bool false) rfl rfl (V.mv rfl) ?_
        refine JQ.skip rfl rfl rfl rfl rfl ?_
        refine JQ.skip rfl rfl rfl rfl rfl ?_
        refine JQ.skip rfl rfl rfl rfl rfl ?_
        refine JQ.skip rfl rfl rfl rfl rfl ?_
        refine JQ.nil ?_
        refine JA.skip rfl rfl rfl rfl rfl ?_
        refine JM.cons ?_
        refine JQ.nil ?_
        refine JA.skip rfl rfl rfl rfl rfl ?_
        refine JM.cons ?_
        refine JQ.skip rfl rfl rfl rfl rfl ?_
        refine JQ.val (v := .bool false) rfl rfl (V.pickF rfl rfl rfl) ?_
        refine JQ.val (v := .bool false) rfl rfl (V.mv rfl) ?_
        refine JQ.nil ?_
        refine JA.skip rfl rfl rfl rfl rfl ?_
        refine JM.nil ?_
        refine JQ.val (v := .bool false) rfl rfl (V.pickF rfl rfl rfl) ?_
        refine JQ.val (v := .bool false) rfl rfl (V.as rfl) ?_
        refine JQ.nil ?_
        refine J.nil ?_
        refine CJ.ret ?_
        have e := Option.some.inj h
        subst e
        exact ⟨_, [], Res.one rfl rfl, ⟨false, rfl, rfl, rfl⟩, (Hp.le_refl _), fun w hs => (Sep.dropAt 0 rfl (Sep.dropAt 0 rfl hs))⟩
noncomputable def fn_row_Subst (xa : (List (Int × Bool))) (xb : (List Int)) : Option (((List (Int × Bool)) × Int)) :=
  (fn_row_within xa (((xb.length : Nat) : Int))).bind fun t370 => cond (!t370) (some (([], 7))) ((fn_row_Clone xa).bind fun l378 => (loop (fun ((l616, i621) : ((List (Int × Bool)) × Int)) => (cond (decide (i621 < (((l378.length : Nat) : Int)))) ((getI l616 i621).bind fun x679 => (getI xb x679.1).bind fun x703 => (getI l616 i621).bind fun x712 => (some (l616.set i621.toNat (x703, x712.2))).bind fun z719 => some (.inl ((z719, IntKind.wrap .i64 (i621 + 1))))) (some (.inr (l616))) : Option (((List (Int × Bool)) × Int) ⊕ (List (Int × Bool))))) (l378, 0)).bind fun l552 => some ((l552, 0)))
set_option maxRecDepth 100000 in
set_option maxHeartbeats 4000000 in
theorem row_Subst_ok {K : Hp} {xa : (List (Int × Bool))} {xb : (List Int)} {adxa_0 : Option Addr} {cpxa_0 : Nat} {adxb_0 : Option Addr} {cpxb_0 : Nat} (fxa_0 : Is K (.sl (.cons (.int .i64) (.one .bool))) [.slice adxa_0 xa.length cpxa_0] xa) (fxb_0 : Is K (.sl (.int .i64)) [.slice adxb_0 xb.length cpxb_0] xb) {r : ((List (Int × Bool)) × Int)} (h : fn_row_Subst xa xb = some r) :
    Tr Try.prog 20 #[.agg #[.slice adxa_0 xa.length cpxa_0], .slice adxb_0 xb.length cpxb_0] K [] (fun v K' L' => (∃ (l360 : (List (Int × Bool))) (i365 : Int) (ad361 : Option Addr) (cp362 : Nat), (l360, i365) = r ∧ v = .tuple #[.agg #[.slice ad361 l360.length cp362], .int .i64 i365] ∧ L' = [Row Hp.nil 42 (.cons (.int .i64) (.one .bool)) (.slice ad361 l360.length cp362) l360]) ∧ K = K') := by
  refine Tr.k ?_
  refine Tr.of Try.func20 rfl Try.ntmps20 rfl (fun E F => ?_)
  unfold fn_row_Subst at h
  refine CJ.seq ?_
  refine CJ.region ?_
  refine J.op rfl (A.box (v := .agg #[.slice adxa_0 xa.length cpxa_0]) (cs := [.slice adxa_0 xa.length cpxa_0]) rfl rfl) ?_
  rintro _ _ _ ⟨b366, rfl, rfl, rfl⟩
  refine J.op rfl (A.alloc (cs := [.slice none 0 0]) inf24 rfl) ?_
  rintro _ _ _ ⟨b367, rfl, rfl, rfl⟩
  refine J.val (v := .int .i64 0) rfl rfl (V.as rfl) ?_
  refine J.nil ?_
  refine CJ.seq ?_
  refine CJ.seq ?_
  refine CJ.region ?_
  refine J.val (v := .agg #[.slice adxa_0 xa.length cpxa_0]) rfl rfl (V.ld rfl (Ld.agg (cs := [.slice adxa_0 xa.length cpxa_0]) Try.underlying24 sz24 rfl (Rd.cls 1 0 rfl rfl))) ?_
  refine J.val (v := .slice adxb_0 xb.length cpxb_0) rfl rfl (V.mv rfl) ?_
  refine J.val (v := .int .i64 (((xb.length : Nat) : Int))) rfl rfl (V.len Try.underlying32 rfl) ?_
  obtain ⟨r368, hr369, h⟩ := ob h
  refine J.op rfl (A.call (L1 := []) Try.call26 rfl (row_within_ok fxa_0 hr369) rfl rfl) ?_
  rintro _ _ _ ⟨v371, _, rfl, ⟨⟨t370, rfl, rfl, rfl⟩, rfl⟩, _, rfl⟩
  refine J.val (v := .bool (!t370)) rfl rfl (V.not rfl) ?_
  refine J.nil ?_
  refine CJ.cond rfl (fun hc374 => ?_) (fun hc374 => ?_)
  · have h := ct hc374 h
    refine CJ.seq ?_
    refine CJ.region ?_
    refine J.val (v := .agg #[.slice none 0 0]) rfl rfl (V.build inf24 places24 rfl rfl) ?_
    refine J.op rfl (A.store (v := .agg #[.slice none 0 0]) (cs' := [.slice none 0 0]) sz24 rfl rfl rfl rfl rfl rfl) ?_
    rintro _ _ _ ⟨rfl, rfl, rfl⟩
    refine J.val (v := .int .i64 7) rfl rfl (V.as rfl) ?_
    refine J.nil ?_
    refine CJ.by (fun w hs => Sep.rowNil (e := 42) (t := (.cons (.int .i64) (.one .bool))) hs) ?_
    refine CJ.ret ?_
    have e := Option.some.inj h
    subst e
    exact ⟨_, [Row Hp.nil 42 (.cons (.int .i64) (.one .bool)) (.slice none ((([] : List (Int × Bool))).length) 0) (([] : List (Int × Bool)))], Res.two rfl ⟨_, _, rfl, Ld.agg (cs := [.slice none 0 0]) Try.underlying24 sz24 rfl (Rd.cls 1 0 rfl rfl)⟩ rfl, ⟨[], 7, none, 0, rfl, rfl, rfl⟩, (Hp.le_refl _), fun w hs => (Sep.dropAt 1 rfl (Sep.dropAt 1 rfl hs))⟩
  · have h := cf hc374 h
    refine CJ.skip ?_
    refine CJ.seq ?_
    refine CJ.region ?_
    refine J.val (v := .agg #[.slice adxa_0 xa.length cpxa_0]) rfl rfl (V.ld rfl (Ld.agg (cs := [.slice adxa_0 xa.length cpxa_0]) Try.underlying24 sz24 rfl (Rd.cls 1 0 rfl rfl))) ?_
    obtain ⟨r376, hr377, h⟩ := ob h
    refine J.op rfl (A.call (L1 := []) Try.call14 rfl (row_Clone_ok fxa_0 hr377) rfl rfl) ?_
    rintro _ _ _ ⟨v382, _, rfl, ⟨⟨l378, ad379, cp380, rfl, rfl, rfl⟩, rfl⟩, _, rfl⟩
    refine J.wit Row.hn (fun hn381 => ?_)
    refine J.op rfl (A.alloc (cs := [.slice none 0 0]) inf24 rfl) ?_
    rintro _ _ _ ⟨b386, rfl, rfl, rfl⟩
    refine J.op rfl (A.store (v := .agg #[.slice ad379 l378.length cp380]) (cs' := [.slice ad379 l378.length cp380]) sz24 rfl rfl rfl rfl rfl rfl) ?_
    rintro _ _ _ ⟨rfl, rfl, rfl⟩
    refine J.nil ?_
    refine CJ.seq ?_
    refine CJ.seq ?_
    refine CJ.region ?_
    refine J.val rfl rfl (V.fad Try.underlying24 rfl nz22 rfl) ?_
    refine J.val (v := .slice ad379 l378.length cp380) rfl rfl (V.ld rfl (Ld.sc sc22 (Rd.cl 0 rfl rfl))) ?_
    refine J.val (v := .int .i64 (((l378.length : Nat) : Int))) rfl rfl (V.len Try.underlying22 rfl) ?_
    refine J.val (v := .int .i64 0) rfl rfl (V.mv rfl) ?_
    refine J.nil ?_
    obtain ⟨o557, ho558, h⟩ := ob h
    refine CJ.meetN (fun ρ K' L' => ∃ (l552 : (List (Int × Bool))) (ad553 : Option Addr) (cp554 : Nat), l552 = o557 ∧ Fits [(4, .pointer (some ⟨b367, 0, none⟩)), (6, .pointer (some ⟨b386, 0, none⟩))] ρ ∧ K = K' ∧ L' = Cl b367 24 [.slice none 0 0] :: Cl b386 24 [.slice ad553 l552.length cp554] :: Row Hp.nil 42 (.cons (.int .i64) (.one .bool)) (.slice ad553 l552.length cp554) l552 :: F) ?_ ?_
    · skip
      refine CJ.block ?_
      refine CJ.dropAt 3 rfl ?_
      refine CJ.front 1 rfl ?_
      refine CJ.front 1 rfl ?_
      refine CJ.front 2 rfl ?_
      refine CJ.loop (fun s ρ K' L' => ∃ (l616 : (List (Int × Bool))) (i621 : Int) (ad617 : Option Addr) (cp618 : Nat), (l616, i621) = s ∧ Fits [(1, .slice adxb_0 xb.length cpxb_0), (4, .pointer (some ⟨b367, 0, none⟩)), (6, .pointer (some ⟨b386, 0, none⟩)), (18, .slice ad617 l616.length cp618), (19, .int .i64 (((l378.length : Nat) : Int))), (20, .int .i64 i621)] ρ ∧ K = K' ∧ L' = Cl b367 24 [.slice none 0 0] :: Cl b386 24 [.slice ad617 l616.length cp618] :: Row Hp.nil 42 (.cons (.int .i64) (.one .bool)) (.slice ad617 l616.length cp618) l616 :: F) ho558 ⟨l378, 0, ad379, cp380, rfl, ⟨rfl, rfl, rfl, rfl, rfl, rfl, trivial⟩, rfl, rfl⟩ ?_
      rintro s ρ _ _ r677 ⟨l616, i621, ad617, cp618, rfl, hf675, rfl, rfl⟩ h674
      obtain ⟨ρ, rfl⟩ := hf675.ex
      refine CJ.front 2 rfl ?_
      refine CJ.wit Row.hn (fun hn620 => ?_)
      refine CJ.seq ?_
      refine CJ.region ?_
      refine J.val (v := .bool (decide (i621 < (((l378.length : Nat) : Int))))) rfl rfl (V.lss rfl rfl) ?_
      refine J.nil ?_
      refine CJ.seq ?_
      refine CJ.cond rfl (fun hc678 => ?_) (fun hc678 => ?_)
      · have h674 := ct hc678 h674
        refine CJ.skip ?_
        refine CJ.seq ?_
        refine CJ.block ?_
        refine CJ.seq ?_
        refine CJ.region ?_
        refine J.val (v := .int .i64 i621) rfl rfl (V.mv rfl) ?_
        obtain ⟨x679, hx680, h674⟩ := ob h674
        obtain ⟨p681, p682, p683⟩ := getI_some hx680
        obtain ⟨g684, e685⟩ := hn620 (fun e => by rw [e] at p682; simp at p682)
        refine J.val rfl rfl (V.iad Try.underlying22 sz42 rfl e685 rfl p681 p683) ?_
        refine J.val (v := .agg #[.int .i64 x679.1, .bool x679.2]) rfl rfl (V.ld rfl (Ld.agg Try.underlying42 sz42 rfl (Rd.rows (K0 := Hp.nil) (s := (.cons (.int .i64) (.one .bool))) 0 rfl e685 p682 (cs := [.int .i64 x679.1, .bool x679.2]) rfl (by rintro _ ⟨_, _, rfl, _, rfl, rfl⟩; rfl)))) ?_
        refine J.op rfl (A.alloc (cs := [.int .i64 0, .bool false]) inf42 rfl) ?_
        rintro _ _ _ ⟨b686, rfl, rfl, rfl⟩
        refine J.val (v := .int .i64 i621) rfl rfl (V.as rfl) ?_
        refine J.op rfl (A.store (v := .agg #[.int .i64 x679.1, .bool x679.2]) (cs' := [.int .i64 x679.1, .bool x679.2]) sz42 rfl rfl rfl rfl rfl rfl) ?_
        rintro _ _ _ ⟨rfl, rfl, rfl⟩
        refine J.nil ?_
        refine CJ.mix [Cl b686 42 [.int .i64 x679.1, .bool x679.2], Row Hp.nil 42 (.cons (.int .i64) (.one .bool)) (.slice ad617 l616.length cp618) l616, Cl b367 24 [.slice none 0 0], Cl b386 24 [.slice ad617 l616.length cp618]] [] [0, 1, 2, 3, 4, 5, 6, 7, 8, 9] [10] mixO (by decide +kernel) ⟨0, rfl, 0, rfl, 0, rfl, 0, rfl, trivial⟩ rfl rfl rfl ?_
        refine JM.nil ?_
        refine JQ.val rfl rfl (V.fad Try.underlying24 rfl nz22 rfl) ?_
        refine JQ.val (v := .slice ad617 l616.length cp618) rfl rfl (V.ld rfl (Ld.sc sc22 (Rd.cl 3 rfl rfl))) ?_
        refine JQ.val (v := .int .i64 i621) rfl rfl (V.mv rfl) ?_
        refine JQ.val (v := .slice adxb_0 xb.length cpxb_0) rfl rfl (V.mv rfl) ?_
        refine JQ.val rfl rfl (V.fad Try.underlying42 rfl nz3 rfl) ?_
        refine JQ.val (v := .int .i64 x679.1) rfl rfl (V.ld rfl (Ld.sc sc3 (Rd.cl 0 rfl rfl))) ?_
        obtain ⟨x703, hx704, h674⟩ := ob h674
        obtain ⟨p705, p706, p707⟩ := getI_some hx704
        obtain ⟨b708, o709, e710, a711⟩ := (fxb_0).at p706
        refine JQ.val rfl rfl (V.iad Try.underlying32 sz3 rfl e710 rfl p705 p707) ?_
        refine JQ.val (v := .int .i64 x703) rfl rfl (V.ld rfl (Ld.sc sc3 (Rd.k (a711).int (Hp.le_refl _)))) ?_
        obtain ⟨x712, hx713, h674⟩ := ob h674
        obtain ⟨p714, p715, p716⟩ := getI_some hx713
        obtain ⟨g717, e718⟩ := hn620 (fun e => by rw [e] at p715; simp at p715)
        refine JQ.val rfl rfl (V.iad Try.underlying22 sz42 rfl e718 rfl p714 p716) ?_
        refine JQ.val rfl rfl (V.fad Try.underlying42 rfl nz3 rfl) ?_
        refine JQ.nil ?_
        refine J.front 1 rfl ?_
        obtain ⟨z719, hz720, h674⟩ := ob h674
        have e721 := Option.some.inj hz720
        have hl722 : z719.length = l616.length := by rw [← e721, List.length_set]
        refine J.op rfl (A.storeR (ty := (.cons (.int .i64) (.one .bool))) (q := 0) (y0 := (x703, x712.2)) (zs := z719) sz3 rfl rfl rfl rfl e718 p715 (by simp [Tp.size]) (by decide) (by rintro _ ⟨_, _, rfl, _, rfl, rfl⟩; exact ⟨_, _, rfl, rfl, rfl, rfl⟩) e721) ?_
        rintro _ _ _ ⟨rfl, rfl, rfl⟩
        have hn723 : z719 ≠ [] → _ := fun h => hn620 (fun e => h (List.length_eq_zero_iff.1 (by rw [hl722]; exact List.length_eq_zero_iff.2 e)))
        refine J.nil ?_
        refine CJ.region ?_
        refine J.val (v := .int .i64 (IntKind.wrap .i64 (i621 + 1))) rfl rfl (V.add rfl rfl) ?_
        refine J.val (v := .int .i64 (IntKind.wrap .i64 (i621 + 1))) rfl rfl (V.mv rfl) ?_
        refine J.dropAt 1 rfl ?_
        refine J.front 2 rfl ?_
        refine J.front 2 rfl ?_
        refine J.nil ?_
        have e := Option.some.inj h674
        subst e
        exact ⟨rfl, ⟨z719, IntKind.wrap .i64 (i621 + 1), ad617, cp618, rfl, ⟨rfl, rfl, rfl, (by rw [hl722]; rfl), rfl, rfl, trivial⟩, rfl, (by rw [hl722]; first | done | rfl)⟩⟩
      · have h674 := cf hc678 h674
        refine CJ.front 2 rfl ?_
        refine CJ.front 2 rfl ?_
        refine CJ.exit ?_
        have e := Option.some.inj h674
        subst e
        refine ⟨nofun, fun e => ?_⟩
        subst e
        exact ⟨rfl, ⟨l616, ad617, cp618, rfl, ⟨rfl, rfl, trivial⟩, rfl, rfl⟩⟩
    · rintro ρ _ _ ⟨l552, ad553, cp554, rfl, hf724, rfl, rfl⟩
      obtain ⟨ρ, rfl⟩ := hf724.ex
      refine PJ.front 2 rfl ?_
      refine PJ.wit Row.hn (fun hn556 => ?_)
      refine PJ.done ?_
      refine CJ.seq ?_
      refine CJ.region ?_
      refine J.val (v := .agg #[.slice ad553 l552.length cp554]) rfl rfl (V.ld rfl (Ld.agg (cs := [.slice ad553 l552.length cp554]) Try.underlying24 sz24 rfl (Rd.cls 2 0 rfl rfl))) ?_
      refine J.front 1 rfl ?_
      refine J.op rfl (A.store (v := .agg #[.slice ad553 l552.length cp554]) (cs' := [.slice ad553 l552.length cp554]) sz24 rfl rfl rfl rfl rfl rfl) ?_
      rintro _ _ _ ⟨rfl, rfl, rfl⟩
      refine J.val (v := .int .i64 0) rfl rfl (V.as rfl) ?_
      refine J.nil ?_
      refine CJ.ret ?_
      have e := Option.some.inj h
      subst e
      exact ⟨_, [Row Hp.nil 42 (.cons (.int .i64) (.one .bool)) (.slice ad553 l552.length cp554) l552], Res.two rfl ⟨_, _, rfl, Ld.agg (cs := [.slice ad553 l552.length cp554]) Try.underlying24 sz24 rfl (Rd.cls 0 0 rfl rfl)⟩ rfl, ⟨l552, 0, ad553, cp554, rfl, rfl, rfl⟩, (Hp.le_refl _), fun w hs => (Sep.dropAt 1 rfl (Sep.dropAt 0 rfl hs))⟩
end Go.Proofs.Ytpoihacaljbaeaa
