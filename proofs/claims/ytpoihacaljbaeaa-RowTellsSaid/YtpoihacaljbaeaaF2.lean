/- What Go functions answer: generated. -/
import Derived.Test.YtpoihacaljbaeaaF1
namespace Go.Proofs.Ytpoihacaljbaeaa
open Go.RowKit
set_option linter.unusedVariables false
noncomputable def fn_ref15_Subst (xa : (List (Int × Bool))) (xb : (List Int)) : Option (((List (Int × Bool)) × Int)) :=
  (loop (fun ((l746, i751) : ((List (Int × Bool)) × Int)) => (cond (decide (i751 < (((xa.length : Nat) : Int)))) ((getI xa i751).bind fun x825 => cond ((decide (x825.1 < 0)) || (decide ((((xb.length : Nat) : Int)) ≤ x825.1))) (some (.inr ((.inr (([], 7)))))) ((getI xb x825.1).bind fun x860 => (getI xa i751).bind fun x869 => (app l746 (([(x860, x869.2)] : List (Int × Bool)))).bind fun z881 => some (.inl ((z881, IntKind.wrap .i64 (i751 + 1)))))) (some (.inr (.inl l746))) : Option (((List (Int × Bool)) × Int) ⊕ ((List (Int × Bool)) ⊕ ((List (Int × Bool)) × Int))))) ((([] : List (Int × Bool)), 0)) : Option ((List (Int × Bool)) ⊕ ((List (Int × Bool)) × Int))).bind fun o => match o with | .inr r => some r | .inl l666 => some ((l666, 0))
set_option maxRecDepth 100000 in
set_option maxHeartbeats 4000000 in
theorem ref15_Subst_ok {K : Hp} {xa : (List (Int × Bool))} {xb : (List Int)} {adxa_0 : Option Addr} {cpxa_0 : Nat} {adxb_0 : Option Addr} {cpxb_0 : Nat} (fxa_0 : Is K (.sl (.cons (.int .i64) (.one .bool))) [.slice adxa_0 xa.length cpxa_0] xa) (fxb_0 : Is K (.sl (.int .i64)) [.slice adxb_0 xb.length cpxb_0] xb) {r : ((List (Int × Bool)) × Int)} (h : fn_ref15_Subst xa xb = some r) :
    Tr Try.prog 21 #[.agg #[.slice adxa_0 xa.length cpxa_0], .slice adxb_0 xb.length cpxb_0] K [] (fun v K' L' => (∃ (l442 : (List (Int × Bool))) (i447 : Int) (ad443 : Option Addr) (cp444 : Nat), (l442, i447) = r ∧ v = .tuple #[.agg #[.slice ad443 l442.length cp444], .int .i64 i447] ∧ L' = [Row Hp.nil 42 (.cons (.int .i64) (.one .bool)) (.slice ad443 l442.length cp444) l442]) ∧ K = K') := by
  refine Tr.k ?_
  refine Tr.of Try.func21 rfl Try.ntmps21 rfl (fun E F => ?_)
  unfold fn_ref15_Subst at h
  refine CJ.seq ?_
  refine CJ.region ?_
  refine J.op rfl (A.box (v := .agg #[.slice adxa_0 xa.length cpxa_0]) (cs := [.slice adxa_0 xa.length cpxa_0]) rfl rfl) ?_
  rintro _ _ _ ⟨b448, rfl, rfl, rfl⟩
  refine J.op rfl (A.alloc (cs := [.slice none 0 0]) inf24 rfl) ?_
  rintro _ _ _ ⟨b449, rfl, rfl, rfl⟩
  refine J.val (v := .int .i64 0) rfl rfl (V.as rfl) ?_
  refine J.nil ?_
  refine CJ.seq ?_
  refine CJ.region ?_
  refine J.op rfl (A.lit (K0 := Hp.nil) (ty := (.cons (.int .i64) (.one .bool))) (xs := ([] : List (Int × Bool))) Try.underlying22 inf42 rfl (by decide) rfl rfl rfl rfl rfl (by decide)) ?_
  rintro _ _ _ ⟨b450, rfl, rfl, rfl⟩
  have hn451 : ([] : List (Int × Bool)) ≠ [] → ∃ g, (some ⟨b450, 0, none⟩ : Option Addr) = some ⟨g, 0, none⟩ := fun _ => ⟨b450, rfl⟩
  refine J.val (v := .slice (some ⟨b450, 0, none⟩) ((([] : List (Int × Bool))).length) 0) rfl rfl (V.as rfl) ?_
  refine J.nil ?_
  refine CJ.seq ?_
  refine CJ.seq ?_
  refine CJ.region ?_
  refine J.val (v := .int .i64 0) rfl rfl (V.as rfl) ?_
  refine J.nil ?_
  obtain ⟨o671, ho672, h⟩ := ob h
  refine CJ.joinN (o := o671) (fun s ρ K' L' => ∃ (l666 : (List (Int × Bool))) (ad667 : Option Addr) (cp668 : Nat), l666 = s ∧ Fits [(4, .pointer (some ⟨b449, 0, none⟩)), (6, .slice ad667 l666.length cp668)] ρ ∧ K = K' ∧ L' = Cl b449 24 [.slice none 0 0] :: Row Hp.nil 42 (.cons (.int .i64) (.one .bool)) (.slice ad667 l666.length cp668) l666 :: F) ?_ ?_
  · skip
    refine CJ.block ?_
    refine CJ.front 1 rfl ?_
    refine CJ.front 2 rfl ?_
    refine CJ.loop (fun s ρ K' L' => ∃ (l746 : (List (Int × Bool))) (i751 : Int) (ad747 : Option Addr) (cp748 : Nat), (l746, i751) = s ∧ Fits [(1, .slice adxb_0 xb.length cpxb_0), (2, .pointer (some ⟨b448, 0, none⟩)), (4, .pointer (some ⟨b449, 0, none⟩)), (6, .slice ad747 l746.length cp748), (7, .int .i64 i751)] ρ ∧ K = K' ∧ L' = Cl b448 24 [.slice adxa_0 xa.length cpxa_0] :: Cl b449 24 [.slice none 0 0] :: Row Hp.nil 42 (.cons (.int .i64) (.one .bool)) (.slice ad747 l746.length cp748) l746 :: F) ho672 ⟨([] : List (Int × Bool)), 0, (some ⟨b450, 0, none⟩), 0, rfl, ⟨rfl, rfl, rfl, rfl, rfl, trivial⟩, rfl, rfl⟩ ?_
    rintro s ρ _ _ r823 ⟨l746, i751, ad747, cp748, rfl, hf821, rfl, rfl⟩ h820
    obtain ⟨ρ, rfl⟩ := hf821.ex
    refine CJ.front 2 rfl ?_
    refine CJ.wit Row.hn (fun hn750 => ?_)
    refine CJ.seq ?_
    refine CJ.seq ?_
    refine CJ.region ?_
    refine J.val (v := .int .i64 i751) rfl rfl (V.mv rfl) ?_
    refine J.val rfl rfl (V.fad Try.underlying24 rfl nz22 rfl) ?_
    refine J.val (v := .slice adxa_0 xa.length cpxa_0) rfl rfl (V.ld rfl (Ld.sc sc22 (Rd.cl 1 rfl rfl))) ?_
    refine J.val (v := .int .i64 (((xa.length : Nat) : Int))) rfl rfl (V.len Try.underlying22 rfl) ?_
    refine J.val (v := .bool (decide (i751 < (((xa.length : Nat) : Int))))) rfl rfl (V.lss rfl rfl) ?_
    refine J.nil ?_
    refine CJ.cond rfl (fun hc824 => ?_) (fun hc824 => ?_)
    · have h820 := ct hc824 h820
      refine CJ.skip ?_
      refine CJ.seq ?_
      refine CJ.block ?_
      refine CJ.seq ?_
      refine CJ.region ?_
      refine J.val rfl rfl (V.fad Try.underlying24 rfl nz22 rfl) ?_
      refine J.val (v := .slice adxa_0 xa.length cpxa_0) rfl rfl (V.ld rfl (Ld.sc sc22 (Rd.cl 1 rfl rfl))) ?_
      refine J.val (v := .int .i64 i751) rfl rfl (V.mv rfl) ?_
      obtain ⟨x825, hx826, h820⟩ := ob h820
      obtain ⟨p827, p828, p829⟩ := getI_some hx826
      obtain ⟨b830, o831, e832, a833⟩ := (fxa_0).at p828
      refine J.val rfl rfl (V.iad Try.underlying22 sz42 rfl e832 rfl p827 p829) ?_
      refine J.val rfl rfl (V.fad Try.underlying42 rfl nz3 rfl) ?_
      refine J.val (v := .int .i64 x825.1) rfl rfl (V.ld rfl (Ld.sc sc3 (Rd.k ((a833).fst).int (Hp.le_refl _)))) ?_
      refine J.val (v := .int .i64 x825.1) rfl rfl (V.as rfl) ?_
      refine J.nil ?_
      refine CJ.seq ?_
      refine CJ.seq ?_
      refine CJ.region ?_
      refine J.val (v := .int .i64 x825.1) rfl rfl (V.mv rfl) ?_
      refine J.val (v := .bool (decide (x825.1 < 0))) rfl rfl (V.lss rfl rfl) ?_
      refine J.val (v := .bool (decide (x825.1 < 0))) rfl rfl (V.mv rfl) ?_
      refine J.cut 5 ?_
      refine @J.meet _ _ _ _ _ _ _ _ _ _ (fun ρ K' L' => Fits [(30, .bool ((decide (x825.1 < 0)) || (decide ((((xb.length : Nat) : Int)) ≤ x825.1)))), (1, .slice adxb_0 xb.length cpxb_0), (2, .pointer (some ⟨b448, 0, none⟩)), (4, .pointer (some ⟨b449, 0, none⟩)), (6, .slice ad747 l746.length cp748), (7, .int .i64 i751), (8, .int .i64 x825.1)] ρ ∧ K = K' ∧ L' = Row Hp.nil 42 (.cons (.int .i64) (.one .bool)) (.slice ad747 l746.length cp748) l746 :: Cl b448 24 [.slice adxa_0 xa.length cpxa_0] :: Cl b449 24 [.slice none 0 0] :: F) ?_ ?_
      · skip
        rcases bt (decide (x825.1 < 0)) with hc836 | hc836
        · skip
          refine J.skip rfl rfl rfl rfl hc836 ?_
          refine J.skip rfl rfl rfl rfl hc836 ?_
          refine J.skip rfl rfl rfl rfl hc836 ?_
          refine J.skip rfl rfl rfl rfl hc836 ?_
          refine J.val (v := .bool true) rfl rfl (V.pickT rfl hc836 rfl) ?_
          refine J.nil ?_
          exact ⟨rfl, ⟨(by simp only [hc836]; rfl), rfl, rfl, rfl, rfl, rfl, rfl, trivial⟩, rfl, rfl⟩
        · skip
          refine J.run rfl rfl rfl hc836 ?_
          refine J.val (v := .int .i64 x825.1) rfl rfl (V.mv rfl) ?_
          refine J.run rfl rfl rfl hc836 ?_
          refine J.val (v := .slice adxb_0 xb.length cpxb_0) rfl rfl (V.mv rfl) ?_
          refine J.run rfl rfl rfl hc836 ?_
          refine J.val (v := .int .i64 (((xb.length : Nat) : Int))) rfl rfl (V.len Try.underlying32 rfl) ?_
          refine J.run rfl rfl rfl hc836 ?_
          refine J.val (v := .bool (decide ((((xb.length : Nat) : Int)) ≤ x825.1))) rfl rfl (V.geq rfl rfl) ?_
          refine J.val (v := .bool (decide ((((xb.length : Nat) : Int)) ≤ x825.1))) rfl rfl (V.pickF rfl hc836 rfl) ?_
          refine J.nil ?_
          exact ⟨rfl, ⟨(by simp only [hc836]; rfl), rfl, rfl, rfl, rfl, rfl, rfl, trivial⟩, rfl, rfl⟩
      · rintro ρ _ _ ⟨hf, rfl, rfl⟩
        obtain ⟨ρ, rfl⟩ := hf.ex
        refine J.nil ?_
        refine CJ.cond rfl (fun hc837 => ?_) (fun hc837 => ?_)
        · have h820 := ct hc837 h820
          refine CJ.seq ?_
          refine CJ.region ?_
          refine J.val (v := .agg #[.slice none 0 0]) rfl rfl (V.build inf24 places24 rfl rfl) ?_
          refine J.front 2 rfl ?_
          refine J.op rfl (A.store (v := .agg #[.slice none 0 0]) (cs' := [.slice none 0 0]) sz24 rfl rfl rfl rfl rfl rfl) ?_
          rintro _ _ _ ⟨rfl, rfl, rfl⟩
          refine J.val (v := .int .i64 7) rfl rfl (V.as rfl) ?_
          refine J.nil ?_
          refine CJ.by (fun w hs => Sep.rowNil (e := 42) (t := (.cons (.int .i64) (.one .bool))) hs) ?_
          refine CJ.ret ?_
          have e := Option.some.inj h820
          subst e
          refine ⟨nofun, fun e => ?_⟩
          subst e
          refine .inr ⟨nofun, ?_⟩
          have e := Option.some.inj h
          subst e
          exact ⟨_, [Row Hp.nil 42 (.cons (.int .i64) (.one .bool)) (.slice none ((([] : List (Int × Bool))).length) 0) (([] : List (Int × Bool)))], Res.two rfl ⟨_, _, rfl, Ld.agg (cs := [.slice none 0 0]) Try.underlying24 sz24 rfl (Rd.cls 1 0 rfl rfl)⟩ rfl, ⟨[], 7, none, 0, rfl, rfl, rfl⟩, (Hp.le_refl _), fun w hs => (Sep.dropAt 1 rfl (Sep.dropAt 1 rfl (Sep.dropAt 1 rfl hs)))⟩
        · have h820 := cf hc837 h820
          refine CJ.skip ?_
          refine CJ.mix [Row Hp.nil 42 (.cons (.int .i64) (.one .bool)) (.slice ad747 l746.length cp748) l746, Cl b448 24 [.slice adxa_0 xa.length cpxa_0], Cl b449 24 [.slice none 0 0]] [([0, 1, 2, 3, 4, 5, 6, 7, 8, 9, 10, 11], 12)] [] [13, 14] mixO (by decide +kernel) ⟨0, rfl, 0, rfl, 0, rfl, trivial⟩ rfl rfl rfl ?_
          refine JM.cons ?_
          refine JQ.val (v := .slice ad747 l746.length cp748) rfl rfl (V.mv rfl) ?_
          refine JQ.val (v := .slice adxb_0 xb.length cpxb_0) rfl rfl (V.mv rfl) ?_
          refine JQ.val (v := .int .i64 x825.1) rfl rfl (V.mv rfl) ?_
          obtain ⟨x860, hx861, h820⟩ := ob h820
          obtain ⟨p862, p863, p864⟩ := getI_some hx861
          obtain ⟨b865, o866, e867, a868⟩ := (fxb_0).at p863
          refine JQ.val rfl rfl (V.iad Try.underlying32 sz3 rfl e867 rfl p862 p864) ?_
          refine JQ.val (v := .int .i64 x860) rfl rfl (V.ld rfl (Ld.sc sc3 (Rd.k (a868).int (Hp.le_refl _)))) ?_
          refine JQ.val rfl rfl (V.fad Try.underlying24 rfl nz22 rfl) ?_
          refine JQ.val (v := .slice adxa_0 xa.length cpxa_0) rfl rfl (V.ld rfl (Ld.sc sc22 (Rd.cl 1 rfl rfl))) ?_
          refine JQ.val (v := .int .i64 i751) rfl rfl (V.mv rfl) ?_
          obtain ⟨x869, hx870, h820⟩ := ob h820
          obtain ⟨p871, p872, p873⟩ := getI_some hx870
          obtain ⟨b874, o875, e876, a877⟩ := (fxa_0).at p872
          refine JQ.val rfl rfl (V.iad Try.underlying22 sz42 rfl e876 rfl p871 p873) ?_
          refine JQ.val rfl rfl (V.fad Try.underlying42 rfl nz4 rfl) ?_
          refine JQ.val (v := .bool x869.2) rfl rfl (V.ld rfl (Ld.sc sc4 (Rd.k (((a877).snd).one).bool (Hp.le_refl _)))) ?_
          refine JQ.val (v := .agg #[.int .i64 x860, .bool x869.2]) rfl rfl (V.build inf42 places42 rfl rfl) ?_
          refine JQ.nil ?_
          refine JA.op rfl (A.lit (K0 := Hp.nil) (ty := (.cons (.int .i64) (.one .bool))) (xs := ([(x860, x869.2)] : List (Int × Bool))) Try.underlying22 inf42 rfl (by decide) rfl rfl rfl ⟨_, _, rfl, ⟨_, _, rfl, rfl, rfl, rfl⟩, rfl⟩ rfl (by decide)) ?_
          rintro _ _ _ ⟨b878, rfl, rfl, rfl⟩
          have hn879 : ([(x860, x869.2)] : List (Int × Bool)) ≠ [] → ∃ g, (some ⟨b878, 0, none⟩ : Option Addr) = some ⟨g, 0, none⟩ := fun _ => ⟨b878, rfl⟩
          refine ⟨fun w hs => Hold.sub (Hp.le_refl _) ⟨1, rfl, 1, rfl, 1, rfl, trivial⟩ hs, ?_⟩
          refine JM.nil ?_
          refine JQ.nil ?_
          obtain ⟨z881, hz882, h820⟩ := ob h820
          refine J.front 1 rfl ?_
          refine J.op rfl (A.appR (Kr := Hp.nil) Try.underlying22 inf42 rfl rfl (by decide) (by decide) rfl rfl (Els.flat rfl) (Els.flat rfl) hz882) ?_
          rintro _ _ _ ⟨v883, rfl, rfl, rfl⟩
          refine J.wit Row.form ?_
          rintro ⟨ad884, cp885, rfl, _, _, hn886⟩
          refine J.val (v := .slice ad884 z881.length cp885) rfl rfl (V.as rfl) ?_
          refine J.nil ?_
          refine CJ.region ?_
          refine J.val (v := .int .i64 i751) rfl rfl (V.mv rfl) ?_
          refine J.val (v := .int .i64 (IntKind.wrap .i64 (i751 + 1))) rfl rfl (V.add rfl rfl) ?_
          refine J.val (v := .int .i64 (IntKind.wrap .i64 (i751 + 1))) rfl rfl (V.as rfl) ?_
          refine J.front 2 rfl ?_
          refine J.front 2 rfl ?_
          refine J.nil ?_
          have e := Option.some.inj h820
          subst e
          exact ⟨rfl, ⟨z881, IntKind.wrap .i64 (i751 + 1), ad884, cp885, rfl, ⟨rfl, rfl, rfl, rfl, rfl, trivial⟩, rfl, rfl⟩⟩
    · have h820 := cf hc824 h820
      refine CJ.dropAt 1 rfl ?_
      refine CJ.front 1 rfl ?_
      refine CJ.exit ?_
      have e := Option.some.inj h820
      subst e
      refine ⟨nofun, fun e => ?_⟩
      subst e
      exact .inl ⟨rfl, _, rfl, ⟨l746, ad747, cp748, rfl, ⟨rfl, rfl, trivial⟩, rfl, rfl⟩⟩
  · rintro s ρ _ _ ho887 ⟨l666, ad667, cp668, rfl, hf888, rfl, rfl⟩
    subst ho887
    obtain ⟨ρ, rfl⟩ := hf888.ex
    refine PJ.front 1 rfl ?_
    refine PJ.wit Row.hn (fun hn670 => ?_)
    refine PJ.done ?_
    refine CJ.seq ?_
    refine CJ.region ?_
    refine J.val (v := .slice ad667 l666.length cp668) rfl rfl (V.mv rfl) ?_
    refine J.val (v := .agg #[.slice ad667 l666.length cp668]) rfl rfl (V.build inf24 places24 rfl rfl) ?_
    refine J.front 1 rfl ?_
    refine J.op rfl (A.store (v := .agg #[.slice ad667 l666.length cp668]) (cs' := [.slice ad667 l666.length cp668]) sz24 rfl rfl rfl rfl rfl rfl) ?_
    rintro _ _ _ ⟨rfl, rfl, rfl⟩
    refine J.val (v := .int .i64 0) rfl rfl (V.as rfl) ?_
    refine J.nil ?_
    refine CJ.ret ?_
    have e := Option.some.inj h
    subst e
    exact ⟨_, [Row Hp.nil 42 (.cons (.int .i64) (.one .bool)) (.slice ad667 l666.length cp668) l666], Res.two rfl ⟨_, _, rfl, Ld.agg (cs := [.slice ad667 l666.length cp668]) Try.underlying24 sz24 rfl (Rd.cls 0 0 rfl rfl)⟩ rfl, ⟨l666, 0, ad667, cp668, rfl, rfl, rfl⟩, (Hp.le_refl _), fun w hs => (Sep.dropAt 0 rfl hs)⟩
noncomputable def fn_row_Deref (xa : (List (Int × Bool))) : Option (((List (Int × Bool)) × Int × Bool)) :=
  (cond (decide ((((xa.length : Nat) : Int)) = 0)) (some (true)) ((getI xa 0).bind fun x98 => some (x98.2))).bind fun t95 => cond (t95) (some (([], 0, false))) ((subL xa 1 (((xa.length : Nat) : Int))).bind fun y134 => (getI xa 0).bind fun x140 => (fn_slices_Clone_api_Slot_api_Slot y134).bind fun l151 => some ((l151, x140.1, true)))
set_option maxRecDepth 100000 in
set_option maxHeartbeats 4000000 in
theorem row_Deref_ok {K : Hp} {xa : (List (Int × Bool))} {adxa_0 : Option Addr} {cpxa_0 : Nat} (fxa_0 : Is K (.sl (.cons (.int .i64) (.one .bool))) [.slice adxa_0 xa.length cpxa_0] xa) {r : ((List (Int × Bool)) × Int × Bool)} (h : fn_row_Deref xa = some r) :
    Tr Try.prog 22 #[.agg #[.slice adxa_0 xa.length cpxa_0]] K [] (fun v K' L' => (∃ (l76 : (List (Int × Bool))) (i81 : Int) (t82 : Bool) (ad77 : Option Addr) (cp78 : Nat), (l76, i81, t82) = r ∧ v = .tuple #[.agg #[.slice ad77 l76.length cp78], .int .i64 i81, .bool t82] ∧ L' = [Row Hp.nil 42 (.cons (.int .i64) (.one .bool)) (.slice ad77 l76.length cp78) l76]) ∧ K = K') := by
  refine Tr.k ?_
  refine Tr.of Try.func22 rfl Try.ntmps22 rfl (fun E F => ?_)
  unfold fn_row_Deref at h
  refine CJ.seq ?_
  refine CJ.region ?_
  refine J.op rfl (A.box (v := .agg #[.slice adxa_0 xa.length cpxa_0]) (cs := [.slice adxa_0 xa.length cpxa_0]) rfl rfl) ?_
  rintro _ _ _ ⟨b83, rfl, rfl, rfl⟩
  refine J.op rfl (A.alloc (cs := [.slice none 0 0]) inf24 rfl) ?_
  rintro _ _ _ ⟨b84, rfl, rfl, rfl⟩
  refine J.val (v := .int .i64 0) rfl rfl (V.as rfl) ?_
  refine J.val (v := .bool false) rfl rfl (V.as rfl) ?_
  refine J.nil ?_
  refine CJ.seq ?_
  refine CJ.seq ?_
  refine CJ.region ?_
  refine J.val rfl rfl (V.fad Try.underlying24 rfl nz22 rfl) ?_
  refine J.val (v := .slice adxa_0 xa.length cpxa_0) rfl rfl (V.ld rfl (Ld.sc sc22 (Rd.cl 1 rfl rfl))) ?_
  refine J.val (v := .int .i64 (((xa.length : Nat) : Int))) rfl rfl (V.len Try.underlying22 rfl) ?_
  refine J.val (v := .bool (decide ((((xa.length : Nat) : Int)) = 0))) rfl rfl (V.eql rfl rfl) ?_
  refine J.val (v := .bool (decide ((((xa.length : Nat) : Int)) = 0))) rfl rfl (V.mv rfl) ?_
  refine J.cut 6 ?_
  obtain ⟨t95, ht96, h⟩ := ob h
  refine @J.meet _ _ _ _ _ _ _ _ _ _ (fun ρ K' L' => Fits [(15, .bool t95), (1, .pointer (some ⟨b83, 0, none⟩)), (2, .pointer (some ⟨b84, 0, none⟩))] ρ ∧ K = K' ∧ L' = Cl b84 24 [.slice none 0 0] :: Cl b83 24 [.slice adxa_0 xa.length cpxa_0] :: F) ?_ ?_
  · skip
    rcases bt (decide ((((xa.length : Nat) : Int)) = 0)) with hc97 | hc97
    · have ht96 := ct hc97 ht96
      refine J.skip rfl rfl rfl rfl hc97 ?_
      refine J.skip rfl rfl rfl rfl hc97 ?_
      refine J.skip rfl rfl rfl rfl hc97 ?_
      refine J.skip rfl rfl rfl rfl hc97 ?_
      refine J.skip rfl rfl rfl rfl hc97 ?_
      refine J.val (v := .bool true) rfl rfl (V.pickT rfl hc97 rfl) ?_
      refine J.nil ?_
      have e := Option.some.inj ht96
      subst e
      exact ⟨rfl, ⟨rfl, rfl, rfl, trivial⟩, rfl, rfl⟩
    · have ht96 := cf hc97 ht96
      refine J.run rfl rfl rfl hc97 ?_
      refine J.val rfl rfl (V.fad Try.underlying24 rfl nz22 rfl) ?_
      refine J.run rfl rfl rfl hc97 ?_
      refine J.val (v := .slice adxa_0 xa.length cpxa_0) rfl rfl (V.ld rfl (Ld.sc sc22 (Rd.cl 1 rfl rfl))) ?_
      refine J.run rfl rfl rfl hc97 ?_
      obtain ⟨x98, hx99, ht96⟩ := ob ht96
      obtain ⟨p100, p101, p102⟩ := getI_some hx99
      obtain ⟨b103, o104, e105, a106⟩ := (fxa_0).at p101
      refine J.val rfl rfl (V.iad Try.underlying22 sz42 rfl e105 rfl p100 p102) ?_
      refine J.run rfl rfl rfl hc97 ?_
      refine J.val rfl rfl (V.fad Try.underlying42 rfl nz4 rfl) ?_
      refine J.run rfl rfl rfl hc97 ?_
      refine J.val (v := .bool x98.2) rfl rfl (V.ld rfl (Ld.sc sc4 (Rd.k (((a106).snd).one).bool (Hp.le_refl _)))) ?_
      refine J.val (v := .bool x98.2) rfl rfl (V.pickF rfl hc97 rfl) ?_
      refine J.nil ?_
      have e := Option.some.inj ht96
      subst e
      exact ⟨rfl, ⟨rfl, rfl, rfl, trivial⟩, rfl, rfl⟩
  · rintro ρ _ _ ⟨hf, rfl, rfl⟩
    obtain ⟨ρ, rfl⟩ := hf.ex
    refine J.nil ?_
    refine CJ.cond rfl (fun hc107 => ?_) (fun hc107 => ?_)
    · have h := ct hc107 h
      refine CJ.seq ?_
      refine CJ.region ?_
      refine J.val (v := .agg #[.slice none 0 0]) rfl rfl (V.build inf24 places24 rfl rfl) ?_
      refine J.op rfl (A.store (v := .agg #[.slice none 0 0]) (cs' := [.slice none 0 0]) sz24 rfl rfl rfl rfl rfl rfl) ?_
      rintro _ _ _ ⟨rfl, rfl, rfl⟩
      refine J.val (v := .int .i64 0) rfl rfl (V.as rfl) ?_
      refine J.val (v := .bool false) rfl rfl (V.as rfl) ?_
      refine J.nil ?_
      refine CJ.by (fun w hs => Sep.rowNil (e := 42) (t := (.cons (.int .i64) (.one .bool))) hs) ?_
      refine CJ.ret ?_
      have e := Option.some.inj h
      subst e
      exact ⟨_, [Row Hp.nil 42 (.cons (.int .i64) (.one .bool)) (.slice none ((([] : List (Int × Bool))).length) 0) (([] : List (Int × Bool)))], Res.three rfl ⟨_, _, rfl, Ld.agg (cs := [.slice none 0 0]) Try.underlying24 sz24 rfl (Rd.cls 1 0 rfl rfl)⟩ rfl rfl, ⟨[], 0, false, none, 0, rfl, rfl, rfl⟩, (Hp.le_refl _), fun w hs => (Sep.dropAt 1 rfl (Sep.dropAt 1 rfl hs))⟩
    · have h := cf hc107 h
      refine CJ.skip ?_
      refine CJ.seq ?_
      refine CJ.mix [Cl b83 24 [.slice adxa_0 xa.length cpxa_0]] [([0, 1, 2, 5, 6, 7, 8, 9], 3), ([4], 10)] [11, 12] [] mixO (by decide +kernel) ⟨1, rfl, trivial⟩ rfl rfl rfl ?_
      refine JM.cons ?_
      refine JQ.val rfl rfl (V.fad Try.underlying24 rfl nz22 rfl) ?_
      refine JQ.val (v := .slice adxa_0 xa.length cpxa_0) rfl rfl (V.ld rfl (Ld.sc sc22 (Rd.cl 0 rfl rfl))) ?_
      obtain ⟨y134, hy135, h⟩ := ob h
      obtain ⟨ad136, cp137, hv138, f139⟩ := V.subI (tp := (.cons (.int .i64) (.one .bool))) Try.underlying22 sz42 fxa_0 hy135
      refine JQ.val (v := .slice ad136 y134.length cp137) rfl rfl (hv138 rfl (fun _ h => by cases h; exact ⟨_, rfl⟩) nofun nofun (fun _ => rfl)) ?_
      refine JQ.val rfl rfl (V.fad Try.underlying24 rfl nz22 rfl) ?_
      refine JQ.val (v := .slice adxa_0 xa.length cpxa_0) rfl rfl (V.ld rfl (Ld.sc sc22 (Rd.cl 0 rfl rfl))) ?_
      obtain ⟨x140, hx141, h⟩ := ob h
      obtain ⟨p142, p143, p144⟩ := getI_some hx141
      obtain ⟨b145, o146, e147, a148⟩ := (fxa_0).at p143
      refine JQ.val rfl rfl (V.iad Try.underlying22 sz42 rfl e147 rfl p142 p144) ?_
      refine JQ.val rfl rfl (V.fad Try.underlying42 rfl nz3 rfl) ?_
      refine JQ.val (v := .int .i64 x140.1) rfl rfl (V.ld rfl (Ld.sc sc3 (Rd.k ((a148).fst).int (Hp.le_refl _)))) ?_
      refine JQ.nil ?_
      obtain ⟨r149, hr150, h⟩ := ob h
      refine JA.op rfl (A.call (L1 := []) Try.call30 rfl (slices_Clone_api_Slot_api_Slot_ok f139 hr150) rfl rfl) ?_
      rintro _ _ _ ⟨v155, _, rfl, ⟨⟨l151, ad152, cp153, rfl, rfl, rfl⟩, rfl⟩, _, rfl⟩
      refine ⟨fun w hs => Hold.sub (Hp.le_refl _) ⟨2, rfl, trivial⟩ hs, ?_⟩
      refine JM.wit Row.hn (fun hn154 => ?_)
      refine JM.cons ?_
      refine JQ.val (v := .agg #[.slice ad152 l151.length cp153]) rfl rfl (V.build inf24 places24 rfl rfl) ?_
      refine JQ.nil ?_
      refine JA.front 1 rfl ?_
      refine JA.op rfl (A.store (v := .agg #[.slice ad152 l151.length cp153]) (cs' := [.slice ad152 l151.length cp153]) sz24 rfl rfl rfl rfl rfl rfl) ?_
      rintro _ _ _ ⟨rfl, rfl, rfl⟩
      refine ⟨fun w hs => Hold.sub (Hp.le_refl _) ⟨2, rfl, trivial⟩ hs, ?_⟩
      refine JM.nil ?_
      refine JQ.val (v := .int .i64 x140.1) rfl rfl (V.as rfl) ?_
      refine JQ.val (v := .bool true) rfl rfl (V.as rfl) ?_
      refine JQ.nil ?_
      refine J.nil ?_
      refine CJ.ret ?_
      have e := Option.some.inj h
      subst e
      exact ⟨_, [Row Hp.nil 42 (.cons (.int .i64) (.one .bool)) (.slice ad152 l151.length cp153) l151], Res.three rfl ⟨_, _, rfl, Ld.agg (cs := [.slice ad152 l151.length cp153]) Try.underlying24 sz24 rfl (Rd.cls 0 0 rfl rfl)⟩ rfl rfl, ⟨l151, x140.1, true, ad152, cp153, rfl, rfl, rfl⟩, (Hp.le_refl _), fun w hs => (Sep.dropAt 1 rfl (Sep.dropAt 0 rfl hs))⟩
noncomputable def fn_ref15_Deref (xa : (List (Int × Bool))) : Option (((List (Int × Bool)) × Int × Bool)) :=
  (cond (decide ((((xa.length : Nat) : Int)) = 0)) (some (true)) ((getI xa 0).bind fun x77 => some (x77.2))).bind fun t74 => cond (t74) (some (([], 0, false))) ((subL xa 1 (((xa.length : Nat) : Int))).bind fun y102 => (getI xa 0).bind fun x108 => some ((y102, x108.1, true)))
set_option maxRecDepth 100000 in
set_option maxHeartbeats 4000000 in
theorem ref15_Deref_ok {K : Hp} {xa : (List (Int × Bool))} {adxa_0 : Option Addr} {cpxa_0 : Nat} (fxa_0 : Is K (.sl (.cons (.int .i64) (.one .bool))) [.slice adxa_0 xa.length cpxa_0] xa) {r : ((List (Int × Bool)) × Int × Bool)} (h : fn_ref15_Deref xa = some r) :
    Tr Try.prog 23 #[.agg #[.slice adxa_0 xa.length cpxa_0]] K [] (fun v K' L' => (∃ (l56 : (List (Int × Bool))) (i60 : Int) (t61 : Bool) (ad57 : Option Addr) (cp58 : Nat), (l56, i60, t61) = r ∧ v = .tuple #[.agg #[.slice ad57 l56.length cp58], .int .i64 i60, .bool t61] ∧ Is K' (.sl (.cons (.int .i64) (.one .bool))) [.slice ad57 l56.length cp58] l56 ∧ L' = [])) := by
  refine Tr.of Try.func23 rfl Try.ntmps23 rfl (fun E F => ?_)
  unfold fn_ref15_Deref at h
  refine CJ.seq ?_
  refine CJ.region ?_
  refine J.op rfl (A.box (v := .agg #[.slice adxa_0 xa.length cpxa_0]) (cs := [.slice adxa_0 xa.length cpxa_0]) rfl rfl) ?_
  rintro _ _ _ ⟨b62, rfl, rfl, rfl⟩
  refine J.op rfl (A.alloc (cs := [.slice none 0 0]) inf24 rfl) ?_
  rintro _ _ _ ⟨b63, rfl, rfl, rfl⟩
  refine J.val (v := .int .i64 0) rfl rfl (V.as rfl) ?_
  refine J.val (v := .bool false) rfl rfl (V.as rfl) ?_
  refine J.nil ?_
  refine CJ.seq ?_
  refine CJ.seq ?_
  refine CJ.region ?_
  refine J.val rfl rfl (V.fad Try.underlying24 rfl nz22 rfl) ?_
  refine J.val (v := .slice adxa_0 xa.length cpxa_0) rfl rfl (V.ld rfl (Ld.sc sc22 (Rd.cl 1 rfl rfl))) ?_
  refine J.val (v := .int .i64 (((xa.length : Nat) : Int))) rfl rfl (V.len Try.underlying22 rfl) ?_
  refine J.val (v := .bool (decide ((((xa.length : Nat) : Int)) = 0))) rfl rfl (V.eql rfl rfl) ?_
  refine J.val (v := .bool (decide ((((xa.length : Nat) : Int)) = 0))) rfl rfl (V.mv rfl) ?_
  refine J.cut 6 ?_
  obtain ⟨t74, ht75, h⟩ := ob h
  refine @J.meet _ _ _ _ _ _ _ _ _ _ (fun ρ K' L' => Fits [(15, .bool t74), (1, .pointer (some ⟨b62, 0, none⟩)), (2, .pointer (some ⟨b63, 0, none⟩))] ρ ∧ K = K' ∧ L' = Cl b63 24 [.slice none 0 0] :: Cl b62 24 [.slice adxa_0 xa.length cpxa_0] :: F) ?_ ?_
  · skip
    rcases bt (decide ((((xa.length : Nat) : Int)) = 0)) with hc76 | hc76
    · have ht75 := ct hc76 ht75
      refine J.skip rfl rfl rfl rfl hc76 ?_
      refine J.skip rfl rfl rfl rfl hc76 ?_
      refine J.skip rfl rfl rfl rfl hc76 ?_
      refine J.skip rfl rfl rfl rfl hc76 ?_
      refine J.skip rfl rfl rfl rfl hc76 ?_
      refine J.val (v := .bool true) rfl rfl (V.pickT rfl hc76 rfl) ?_
      refine J.nil ?_
      have e := Option.some.inj ht75
      subst e
      exact ⟨rfl, ⟨rfl, rfl, rfl, trivial⟩, rfl, rfl⟩
    · have ht75 := cf hc76 ht75
      refine J.run rfl rfl rfl hc76 ?_
      refine J.val rfl rfl (V.fad Try.underlying24 rfl nz22 rfl) ?_
      refine J.run rfl rfl rfl hc76 ?_
      refine J.val (v := .slice adxa_0 xa.length cpxa_0) rfl rfl (V.ld rfl (Ld.sc sc22 (Rd.cl 1 rfl rfl))) ?_
      refine J.run rfl rfl rfl hc76 ?_
      obtain ⟨x77, hx78, ht75⟩ := ob ht75
      obtain ⟨p79, p80, p81⟩ := getI_some hx78
      obtain ⟨b82, o83, e84, a85⟩ := (fxa_0).at p80
      refine J.val rfl rfl (V.iad Try.underlying22 sz42 rfl e84 rfl p79 p81) ?_
      refine J.run rfl rfl rfl hc76 ?_
      refine J.val rfl rfl (V.fad Try.underlying42 rfl nz4 rfl) ?_
      refine J.run rfl rfl rfl hc76 ?_
      refine J.val (v := .bool x77.2) rfl rfl (V.ld rfl (Ld.sc sc4 (Rd.k (((a85).snd).one).bool (Hp.le_refl _)))) ?_
      refine J.val (v := .bool x77.2) rfl rfl (V.pickF rfl hc76 rfl) ?_
      refine J.nil ?_
      have e := Option.some.inj ht75
      subst e
      exact ⟨rfl, ⟨rfl, rfl, rfl, trivial⟩, rfl, rfl⟩
  · rintro ρ _ _ ⟨hf, rfl, rfl⟩
    obtain ⟨ρ, rfl⟩ := hf.ex
    refine J.nil ?_
    refine CJ.cond rfl (fun hc86 => ?_) (fun hc86 => ?_)
    · have h := ct hc86 h
      refine CJ.seq ?_
      refine CJ.region ?_
      refine J.val (v := .agg #[.slice none 0 0]) rfl rfl (V.build inf24 places24 rfl rfl) ?_
      refine J.op rfl (A.store (v := .agg #[.slice none 0 0]) (cs' := [.slice none 0 0]) sz24 rfl rfl rfl rfl rfl rfl) ?_
      rintro _ _ _ ⟨rfl, rfl, rfl⟩
      refine J.val (v := .int .i64 0) rfl rfl (V.as rfl) ?_
      refine J.val (v := .bool false) rfl rfl (V.as rfl) ?_
      refine J.nil ?_
      refine CJ.ret ?_
      have e := Option.some.inj h
      subst e
      exact ⟨_, [], Res.three rfl ⟨_, _, rfl, Ld.agg (cs := [.slice none 0 0]) Try.underlying24 sz24 rfl (Rd.cls 0 0 rfl rfl)⟩ rfl rfl, ⟨[], 0, false, none, 0, rfl, rfl, isNil, rfl⟩, (Hp.le_refl _), fun w hs => (Sep.dropAt 0 rfl (Sep.dropAt 0 rfl hs))⟩
    · have h := cf hc86 h
      refine CJ.skip ?_
      refine CJ.seq ?_
      refine CJ.mix [Cl b62 24 [.slice adxa_0 xa.length cpxa_0]] [([0, 1, 2, 3, 4, 5, 6, 7, 8], 9)] [10, 11] [] mixO (by decide +kernel) ⟨1, rfl, trivial⟩ rfl rfl rfl ?_
      refine JM.cons ?_
      refine JQ.val rfl rfl (V.fad Try.underlying24 rfl nz22 rfl) ?_
      refine JQ.val (v := .slice adxa_0 xa.length cpxa_0) rfl rfl (V.ld rfl (Ld.sc sc22 (Rd.cl 0 rfl rfl))) ?_
      obtain ⟨y102, hy103, h⟩ := ob h
      obtain ⟨ad104, cp105, hv106, f107⟩ := V.subI (tp := (.cons (.int .i64) (.one .bool))) Try.underlying22 sz42 fxa_0 hy103
      refine JQ.val (v := .slice ad104 y102.length cp105) rfl rfl (hv106 rfl (fun _ h => by cases h; exact ⟨_, rfl⟩) nofun nofun (fun _ => rfl)) ?_
      refine JQ.val (v := .agg #[.slice ad104 y102.length cp105]) rfl rfl (V.build inf24 places24 rfl rfl) ?_
      refine JQ.val rfl rfl (V.fad Try.underlying24 rfl nz22 rfl) ?_
      refine JQ.val (v := .slice adxa_0 xa.length cpxa_0) rfl rfl (V.ld rfl (Ld.sc sc22 (Rd.cl 0 rfl rfl))) ?_
      obtain ⟨x108, hx109, h⟩ := ob h
      obtain ⟨p110, p111, p112⟩ := getI_some hx109
      obtain ⟨b113, o114, e115, a116⟩ := (fxa_0).at p111
      refine JQ.val rfl rfl (V.iad Try.underlying22 sz42 rfl e115 rfl p110 p112) ?_
      refine JQ.val rfl rfl (V.fad Try.underlying42 rfl nz3 rfl) ?_
      refine JQ.val (v := .int .i64 x108.1) rfl rfl (V.ld rfl (Ld.sc sc3 (Rd.k ((a116).fst).int (Hp.le_refl _)))) ?_
      refine JQ.nil ?_
      refine JA.op rfl (A.store (v := .agg #[.slice ad104 y102.length cp105]) (cs' := [.slice ad104 y102.length cp105]) sz24 rfl rfl rfl rfl rfl rfl) ?_
      rintro _ _ _ ⟨rfl, rfl, rfl⟩
      refine ⟨fun w hs => Hold.sub (Hp.le_refl _) ⟨1, rfl, trivial⟩ hs, ?_⟩
      refine JM.nil ?_
      refine JQ.val (v := .int .i64 x108.1) rfl rfl (V.as rfl) ?_
      refine JQ.val (v := .bool true) rfl rfl (V.as rfl) ?_
      refine JQ.nil ?_
      refine J.nil ?_
      refine CJ.ret ?_
      have e := Option.some.inj h
      subst e
      exact ⟨_, [], Res.three rfl ⟨_, _, rfl, Ld.agg (cs := [.slice ad104 y102.length cp105]) Try.underlying24 sz24 rfl (Rd.cls 0 0 rfl rfl)⟩ rfl rfl, ⟨y102, x108.1, true, ad104, cp105, rfl, rfl, f107, rfl⟩, (Hp.le_refl _), fun w hs => (Sep.dropAt 0 rfl (Sep.dropAt 0 rfl hs))⟩
noncomputable def fn_ref15_Ref (xa : (List (Int × Bool))) (xb : Int) (xc : Bool) : Option ((List (Int × Bool))) :=
  (loop (fun ((l754, i759) : ((List (Int × Bool)) × Int)) => (cond (decide (i759 < (((xa.length : Nat) : Int)))) ((getI xa i759).bind fun x859 => (getI xa i759).bind fun x868 => cond (x868.2) ((app l754 (([(x859.1, true)] : List (Int × Bool)))).bind fun z881 => some (.inl ((z881, IntKind.wrap .i64 (i759 + 1))))) ((app l754 (([(x859.1, xc)] : List (Int × Bool)))).bind fun z890 => some (.inl ((z890, IntKind.wrap .i64 (i759 + 1)))))) (some (.inr (l754))) : Option (((List (Int × Bool)) × Int) ⊕ (List (Int × Bool))))) ((([(xb, false)] : List (Int × Bool)), 0))).bind fun l673 => some (l673)
set_option maxRecDepth 100000 in
set_option maxHeartbeats 4000000 in
theorem ref15_Ref_ok {K : Hp} {xa : (List (Int × Bool))} {xb : Int} {xc : Bool} {adxa_0 : Option Addr} {cpxa_0 : Nat} (fxa_0 : Is K (.sl (.cons (.int .i64) (.one .bool))) [.slice adxa_0 xa.length cpxa_0] xa) {r : (List (Int × Bool))} (h : fn_ref15_Ref xa xb xc = some r) :
    Tr Try.prog 25 #[.agg #[.slice adxa_0 xa.length cpxa_0], .int .i64 xb, .bool xc] K [] (fun v K' L' => (∃ (l447 : (List (Int × Bool))) (ad448 : Option Addr) (cp449 : Nat), l447 = r ∧ v = .agg #[.slice ad448 l447.length cp449] ∧ L' = [Row Hp.nil 42 (.cons (.int .i64) (.one .bool)) (.slice ad448 l447.length cp449) l447]) ∧ K = K') := by
  refine Tr.k ?_
  refine Tr.of Try.func25 rfl Try.ntmps25 rfl (fun E F => ?_)
  unfold fn_ref15_Ref at h
  refine CJ.seq ?_
  refine CJ.region ?_
  refine J.op rfl (A.box (v := .agg #[.slice adxa_0 xa.length cpxa_0]) (cs := [.slice adxa_0 xa.length cpxa_0]) rfl rfl) ?_
  rintro _ _ _ ⟨b452, rfl, rfl, rfl⟩
  refine J.op rfl (A.alloc (cs := [.slice none 0 0]) inf24 rfl) ?_
  rintro _ _ _ ⟨b453, rfl, rfl, rfl⟩
  refine J.nil ?_
  refine CJ.seq ?_
  refine CJ.region ?_
  refine J.val (v := .int .i64 xb) rfl rfl (V.mv rfl) ?_
  refine J.val (v := .agg #[.int .i64 xb, .bool false]) rfl rfl (V.build inf42 places42 rfl rfl) ?_
  refine J.op rfl (A.lit (K0 := Hp.nil) (ty := (.cons (.int .i64) (.one .bool))) (xs := ([(xb, false)] : List (Int × Bool))) Try.underlying22 inf42 rfl (by decide) rfl rfl rfl ⟨_, _, rfl, ⟨_, _, rfl, rfl, rfl, rfl⟩, rfl⟩ rfl (by decide)) ?_
  rintro _ _ _ ⟨b454, rfl, rfl, rfl⟩
  have hn455 : ([(xb, false)] : List (Int × Bool)) ≠ [] → ∃ g, (some ⟨b454, 0, none⟩ : Option Addr) = some ⟨g, 0, none⟩ := fun _ => ⟨b454, rfl⟩
  refine J.val (v := .slice (some ⟨b454, 0, none⟩) ((([(xb, false)] : List (Int × Bool))).length) 1) rfl rfl (V.as rfl) ?_
  refine J.nil ?_
  refine CJ.seq ?_
  refine CJ.seq ?_
  refine CJ.region ?_
  refine J.val (v := .int .i64 0) rfl rfl (V.as rfl) ?_
  refine J.nil ?_
  obtain ⟨o678, ho679, h⟩ := ob h
  refine CJ.meetN (fun ρ K' L' => ∃ (l673 : (List (Int × Bool))) (ad674 : Option Addr) (cp675 : Nat), l673 = o678 ∧ Fits [(6, .pointer (some ⟨b453, 0, none⟩)), (7, .slice ad674 l673.length cp675)] ρ ∧ K = K' ∧ L' = Cl b453 24 [.slice none 0 0] :: Row Hp.nil 42 (.cons (.int .i64) (.one .bool)) (.slice ad674 l673.length cp675) l673 :: F) ?_ ?_
  · skip
    refine CJ.block ?_
    refine CJ.front 1 rfl ?_
    refine CJ.front 2 rfl ?_
    refine CJ.loop (fun s ρ K' L' => ∃ (l754 : (List (Int × Bool))) (i759 : Int) (ad755 : Option Addr) (cp756 : Nat), (l754, i759) = s ∧ Fits [(2, .bool xc), (3, .pointer (some ⟨b452, 0, none⟩)), (6, .pointer (some ⟨b453, 0, none⟩)), (7, .slice ad755 l754.length cp756), (8, .int .i64 i759)] ρ ∧ K = K' ∧ L' = Cl b452 24 [.slice adxa_0 xa.length cpxa_0] :: Cl b453 24 [.slice none 0 0] :: Row Hp.nil 42 (.cons (.int .i64) (.one .bool)) (.slice ad755 l754.length cp756) l754 :: F) ho679 ⟨([(xb, false)] : List (Int × Bool)), 0, (some ⟨b454, 0, none⟩), 1, rfl, ⟨rfl, rfl, rfl, rfl, rfl, trivial⟩, rfl, rfl⟩ ?_
    rintro s ρ _ _ r832 ⟨l754, i759, ad755, cp756, rfl, hf830, rfl, rfl⟩ h829
    obtain ⟨ρ, rfl⟩ := hf830.ex
    refine CJ.front 2 rfl ?_
    refine CJ.wit Row.hn (fun hn758 => ?_)
    refine CJ.seq ?_
    refine CJ.seq ?_
    refine CJ.region ?_
    refine J.val (v := .int .i64 i759) rfl rfl (V.mv rfl) ?_
    refine J.val rfl rfl (V.fad Try.underlying24 rfl nz22 rfl) ?_
    refine J.val (v := .slice adxa_0 xa.length cpxa_0) rfl rfl (V.ld rfl (Ld.sc sc22 (Rd.cl 1 rfl rfl))) ?_
    refine J.val (v := .int .i64 (((xa.length : Nat) : Int))) rfl rfl (V.len Try.underlying22 rfl) ?_
    refine J.val (v := .bool (decide (i759 < (((xa.length : Nat) : Int))))) rfl rfl (V.lss rfl rfl) ?_
    refine J.nil ?_
    refine CJ.cond rfl (fun hc833 => ?_) (fun hc833 => ?_)
    · have h829 := ct hc833 h829
      refine CJ.skip ?_
      refine CJ.seq ?_
      refine CJ.block ?_
      refine CJ.mix [Row Hp.nil 42 (.cons (.int .i64) (.one .bool)) (.slice ad755 l754.length cp756) l754, Cl b452 24 [.slice adxa_0 xa.length cpxa_0], Cl b453 24 [.slice none 0 0]] [([0, 1, 2, 3, 4, 5, 6, 7, 8, 9, 10, 11, 12, 13, 14, 15, 16], 17)] [] [18, 19] mixO (by decide +kernel) ⟨0, rfl, 0, rfl, 0, rfl, trivial⟩ rfl rfl rfl ?_
      refine JM.cons ?_
      refine JQ.val (v := .slice ad755 l754.length cp756) rfl rfl (V.mv rfl) ?_
      refine JQ.val rfl rfl (V.fad Try.underlying24 rfl nz22 rfl) ?_
      refine JQ.val (v := .slice adxa_0 xa.length cpxa_0) rfl rfl (V.ld rfl (Ld.sc sc22 (Rd.cl 1 rfl rfl))) ?_
      refine JQ.val (v := .int .i64 i759) rfl rfl (V.mv rfl) ?_
      obtain ⟨x859, hx860, h829⟩ := ob h829
      obtain ⟨p861, p862, p863⟩ := getI_some hx860
      obtain ⟨b864, o865, e866, a867⟩ := (fxa_0).at p862
      refine JQ.val rfl rfl (V.iad Try.underlying22 sz42 rfl e866 rfl p861 p863) ?_
      refine JQ.val rfl rfl (V.fad Try.underlying42 rfl nz3 rfl) ?_
      refine JQ.val (v := .int .i64 x859.1) rfl rfl (V.ld rfl (Ld.sc sc3 (Rd.k ((a867).fst).int (Hp.le_refl _)))) ?_
      refine JQ.val rfl rfl (V.fad Try.underlying24 rfl nz22 rfl) ?_
      refine JQ.val (v := .slice adxa_0 xa.length cpxa_0) rfl rfl (V.ld rfl (Ld.sc sc22 (Rd.cl 1 rfl rfl))) ?_
      refine JQ.val (v := .int .i64 i759) rfl rfl (V.mv rfl) ?_
      obtain ⟨x868, hx869, h829⟩ := ob h829
      obtain ⟨p870, p871, p872⟩ := getI_some hx869
      obtain ⟨b873, o874, e875, a876⟩ := (fxa_0).at p871
      refine JQ.val rfl rfl (V.iad Try.underlying22 sz42 rfl e875 rfl p870 p872) ?_
      refine JQ.val rfl rfl (V.fad Try.underlying42 rfl nz4 rfl) ?_
      refine JQ.val (v := .bool x868.2) rfl rfl (V.ld rfl (Ld.sc sc4 (Rd.k (((a876).snd).one).bool (Hp.le_refl _)))) ?_
      refine JQ.val (v := .bool x868.2) rfl rfl (V.mv rfl) ?_
      rcases bt (x868.2) with hc877 | hc877
      · have h829 := ct hc877 h829
        refine JQ.skip rfl rfl rfl rfl hc877 ?_
        refine JQ.val (v := .bool true) rfl rfl (V.pickT rfl hc877 rfl) ?_
        refine JQ.val (v := .agg #[.int .i64 x859.1, .bool true]) rfl rfl (V.build inf42 places42 rfl rfl) ?_
        refine JQ.nil ?_
        refine JA.op rfl (A.lit (K0 := Hp.nil) (ty := (.cons (.int .i64) (.one .bool))) (xs := ([(x859.1, true)] : List (Int × Bool))) Try.underlying22 inf42 rfl (by decide) rfl rfl rfl ⟨_, _, rfl, ⟨_, _, rfl, rfl, rfl, rfl⟩, rfl⟩ rfl (by decide)) ?_
        rintro _ _ _ ⟨b878, rfl, rfl, rfl⟩
        have hn879 : ([(x859.1, true)] : List (Int × Bool)) ≠ [] → ∃ g, (some ⟨b878, 0, none⟩ : Option Addr) = some ⟨g, 0, none⟩ := fun _ => ⟨b878, rfl⟩
        refine ⟨fun w hs => Hold.sub (Hp.le_refl _) ⟨1, rfl, 1, rfl, 1, rfl, trivial⟩ hs, ?_⟩
        refine JM.nil ?_
        refine JQ.nil ?_
        obtain ⟨z881, hz882, h829⟩ := ob h829
        refine J.front 1 rfl ?_
        refine J.op rfl (A.appR (Kr := Hp.nil) Try.underlying22 inf42 rfl rfl (by decide) (by decide) rfl rfl (Els.flat rfl) (Els.flat rfl) hz882) ?_
        rintro _ _ _ ⟨v883, rfl, rfl, rfl⟩
        refine J.wit Row.form ?_
        rintro ⟨ad884, cp885, rfl, _, _, hn886⟩
        refine J.val (v := .slice ad884 z881.length cp885) rfl rfl (V.as rfl) ?_
        refine J.nil ?_
        refine CJ.region ?_
        refine J.val (v := .int .i64 i759) rfl rfl (V.mv rfl) ?_
        refine J.val (v := .int .i64 (IntKind.wrap .i64 (i759 + 1))) rfl rfl (V.add rfl rfl) ?_
        refine J.val (v := .int .i64 (IntKind.wrap .i64 (i759 + 1))) rfl rfl (V.as rfl) ?_
        refine J.front 2 rfl ?_
        refine J.front 2 rfl ?_
        refine J.nil ?_
        have e := Option.some.inj h829
        subst e
        exact ⟨rfl, ⟨z881, IntKind.wrap .i64 (i759 + 1), ad884, cp885, rfl, ⟨rfl, rfl, rfl, rfl, rfl, trivial⟩, rfl, rfl⟩⟩
      · have h829 := cf hc877 h829
        refine JQ.run rfl rfl rfl hc877 ?_
        refine JQ.val (v := .bool xc) rfl rfl (V.mv rfl) ?_
        refine JQ.val (v := .bool xc) rfl rfl (V.pickF rfl hc877 rfl) ?_
        refine JQ.val (v := .agg #[.int .i64 x859.1, .bool xc]) rfl rfl (V.build inf42 places42 rfl rfl) ?_
        refine JQ.nil ?_
        refine JA.op rfl (A.lit (K0 := Hp.nil) (ty := (.cons (.int .i64) (.one .bool))) (xs := ([(x859.1, xc)] : List (Int × Bool))) Try.underlying22 inf42 rfl (by decide) rfl rfl rfl ⟨_, _, rfl, ⟨_, _, rfl, rfl, rfl, rfl⟩, rfl⟩ rfl (by decide)) ?_
        rintro _ _ _ ⟨b887, rfl, rfl, rfl⟩
        have hn888 : ([(x859.1, xc)] : List (Int × Bool)) ≠ [] → ∃ g, (some ⟨b887, 0, none⟩ : Option Addr) = some ⟨g, 0, none⟩ := fun _ => ⟨b887, rfl⟩
        refine ⟨fun w hs => Hold.sub (Hp.le_refl _) ⟨1, rfl, 1, rfl, 1, rfl, trivial⟩ hs, ?_⟩
        refine JM.nil ?_
        refine JQ.nil ?_
        obtain ⟨z890, hz891, h829⟩ := ob h829
        refine J.front 1 rfl ?_
        refine J.op rfl (A.appR (Kr := Hp.nil) Try.underlying22 inf42 rfl rfl (by decide) (by decide) rfl rfl (Els.flat rfl) (Els.flat rfl) hz891) ?_
        rintro _ _ _ ⟨v892, rfl, rfl, rfl⟩
        refine J.wit Row.form ?_
        rintro ⟨ad893, cp894, rfl, _, _, hn895⟩
        refine J.val (v := .slice ad893 z890.length cp894) rfl rfl (V.as rfl) ?_
        refine J.nil ?_
        refine CJ.region ?_
        refine J.val (v := .int .i64 i759) rfl rfl (V.mv rfl) ?_
        refine J.val (v := .int .i64 (IntKind.wrap .i64 (i759 + 1))) rfl rfl (V.add rfl rfl) ?_
        refine J.val (v := .int .i64 (IntKind.wrap .i64 (i759 + 1))) rfl rfl (V.as rfl) ?_
        refine J.front 2 rfl ?_
        refine J.front 2 rfl ?_
        refine J.nil ?_
        have e := Option.some.inj h829
        subst e
        exact ⟨rfl, ⟨z890, IntKind.wrap .i64 (i759 + 1), ad893, cp894, rfl, ⟨rfl, rfl, rfl, rfl, rfl, trivial⟩, rfl, rfl⟩⟩
    · have h829 := cf hc833 h829
      refine CJ.dropAt 1 rfl ?_
      refine CJ.front 1 rfl ?_
      refine CJ.exit ?_
      have e := Option.some.inj h829
      subst e
      refine ⟨nofun, fun e => ?_⟩
      subst e
      exact ⟨rfl, ⟨l754, ad755, cp756, rfl, ⟨rfl, rfl, trivial⟩, rfl, rfl⟩⟩
  · rintro ρ _ _ ⟨l673, ad674, cp675, rfl, hf896, rfl, rfl⟩
    obtain ⟨ρ, rfl⟩ := hf896.ex
    refine PJ.front 1 rfl ?_
    refine PJ.wit Row.hn (fun hn677 => ?_)
    refine PJ.done ?_
    refine CJ.seq ?_
    refine CJ.region ?_
    refine J.val (v := .slice ad674 l673.length cp675) rfl rfl (V.mv rfl) ?_
    refine J.val (v := .agg #[.slice ad674 l673.length cp675]) rfl rfl (V.build inf24 places24 rfl rfl) ?_
    refine J.front 1 rfl ?_
    refine J.op rfl (A.store (v := .agg #[.slice ad674 l673.length cp675]) (cs' := [.slice ad674 l673.length cp675]) sz24 rfl rfl rfl rfl rfl rfl) ?_
    rintro _ _ _ ⟨rfl, rfl, rfl⟩
    refine J.nil ?_
    refine CJ.ret ?_
    have e := Option.some.inj h
    subst e
    exact ⟨_, [Row Hp.nil 42 (.cons (.int .i64) (.one .bool)) (.slice ad674 l673.length cp675) l673], Res.one rfl ⟨_, _, rfl, Ld.agg (cs := [.slice ad674 l673.length cp675]) Try.underlying24 sz24 rfl (Rd.cls 0 0 rfl rfl)⟩, ⟨l673, ad674, cp675, rfl, rfl, rfl⟩, (Hp.le_refl _), fun w hs => (Sep.dropAt 0 rfl hs)⟩
noncomputable def fn_law15_RowTurns (xa : (List (Int × Bool))) (xb : (List Int)) (xc : Int) (xd : Bool) : Option Bool :=
  (fn_ref15_Few xa 30).bind fun t201 => cond ((!t201) || (decide (30 < (((xb.length : Nat) : Int))))) ((fn_law15_awake).bind fun t211 => some (t211)) ((fn_row_Subst xa xb).bind fun (l217, i218) => (fn_ref15_Subst xa xb).bind fun (l229, i230) => (fn_row_Deref xa).bind fun (l241, i242, t243) => (fn_ref15_Deref xa).bind fun (l254, i255, t256) => (fn_ref15_Same l217 l229).bind fun t337 => cond (t337) (cond (decide (i218 = i230)) ((fn_row_Ref xa xc xd).bind fun l345 => (fn_ref15_Ref xa xc xd).bind fun l355 => (fn_ref15_Same l345 l355).bind fun t371 => cond (t371) ((fn_ref15_Same l241 l254).bind fun t381 => cond (t381) (cond (decide (i242 = i255)) (cond (t243 == t256) ((fn_law15_awake).bind fun t390 => some (t390)) (some (false))) (some (false))) (some (false))) (some (false))) (some (false))) (some (false)))
set_option maxRecDepth 100000 in
set_option maxHeartbeats 4000000 in
theorem law15_RowTurns_ok {K : Hp} {xa : (List (Int × Bool))} {xb : (List Int)} {xc : Int} {xd : Bool} {adxa_0 : Option Addr} {cpxa_0 : Nat} {adxb_0 : Option Addr} {cpxb_0 : Nat} (fxa_0 : Is K (.sl (.cons (.int .i64) (.one .bool))) [.slice adxa_0 xa.length cpxa_0] xa) (fxb_0 : Is K (.sl (.int .i64)) [.slice adxb_0 xb.length cpxb_0] xb) {r : Bool} (h : fn_law15_RowTurns xa xb xc xd = some r) :
    Tr Try.prog 4 #[.agg #[.slice adxa_0 xa.length cpxa_0], .slice adxb_0 xb.length cpxb_0, .int .i64 xc, .bool xd] K [] (fun v K' L' => (∃ (t197 : Bool), t197 = r ∧ v = .bool t197 ∧ L' = []) ∧ K = K') := by
  refine Tr.k ?_
  refine Tr.of Try.func4 rfl Try.ntmps4 rfl (fun E F => ?_)
  unfold fn_law15_RowTurns at h
  refine CJ.seq ?_
  refine CJ.region ?_
  refine J.op rfl (A.box (v := .agg #[.slice adxa_0 xa.length cpxa_0]) (cs := [.slice adxa_0 xa.length cpxa_0]) rfl rfl) ?_
  rintro _ _ _ ⟨b198, rfl, rfl, rfl⟩
  refine J.val (v := .bool false) rfl rfl (V.as rfl) ?_
  refine J.nil ?_
  refine CJ.seq ?_
  refine CJ.seq ?_
  refine CJ.region ?_
  refine J.val (v := .agg #[.slice adxa_0 xa.length cpxa_0]) rfl rfl (V.ld rfl (Ld.agg (cs := [.slice adxa_0 xa.length cpxa_0]) Try.underlying24 sz24 rfl (Rd.cls 0 0 rfl rfl))) ?_
  obtain ⟨r199, hr200, h⟩ := ob h
  refine J.op rfl (A.call (L1 := []) Try.call6 rfl (ref15_Few_ok fxa_0 hr200) rfl rfl) ?_
  rintro _ _ _ ⟨v202, _, rfl, ⟨⟨t201, rfl, rfl, rfl⟩, rfl⟩, _, rfl⟩
  refine J.val (v := .bool (!t201)) rfl rfl (V.not rfl) ?_
  refine J.val (v := .bool (!t201)) rfl rfl (V.mv rfl) ?_
  refine J.cut 4 ?_
  refine @J.meet _ _ _ _ _ _ _ _ _ _ (fun ρ K' L' => Fits [(26, .bool ((!t201) || (decide (30 < (((xb.length : Nat) : Int)))))), (1, .slice adxb_0 xb.length cpxb_0), (2, .int .i64 xc), (3, .bool xd), (4, .pointer (some ⟨b198, 0, none⟩))] ρ ∧ K = K' ∧ L' = Cl b198 24 [.slice adxa_0 xa.length cpxa_0] :: F) ?_ ?_
  · skip
    rcases bt (!t201) with hc207 | hc207
    · skip
      refine J.skip rfl rfl rfl rfl hc207 ?_
      refine J.skip rfl rfl rfl rfl hc207 ?_
      refine J.skip rfl rfl rfl rfl hc207 ?_
      refine J.val (v := .bool true) rfl rfl (V.pickT rfl hc207 rfl) ?_
      refine J.nil ?_
      exact ⟨rfl, ⟨(by simp only [hc207]; rfl), rfl, rfl, rfl, rfl, trivial⟩, rfl, rfl⟩
    · skip
      refine J.run rfl rfl rfl hc207 ?_
      refine J.val (v := .slice adxb_0 xb.length cpxb_0) rfl rfl (V.mv rfl) ?_
      refine J.run rfl rfl rfl hc207 ?_
      refine J.val (v := .int .i64 (((xb.length : Nat) : Int))) rfl rfl (V.len Try.underlying32 rfl) ?_
      refine J.run rfl rfl rfl hc207 ?_
      refine J.val (v := .bool (decide (30 < (((xb.length : Nat) : Int))))) rfl rfl (V.gtr rfl rfl) ?_
      refine J.val (v := .bool (decide (30 < (((xb.length : Nat) : Int))))) rfl rfl (V.pickF rfl hc207 rfl) ?_
      refine J.nil ?_
      exact ⟨rfl, ⟨(by simp only [hc207]; rfl), rfl, rfl, rfl, rfl, trivial⟩, rfl, rfl⟩
  · rintro ρ _ _ ⟨hf, rfl, rfl⟩
    obtain ⟨ρ, rfl⟩ := hf.ex
    refine J.nil ?_
    refine CJ.cond rfl (fun hc208 => ?_) (fun hc208 => ?_)
    · have h := ct hc208 h
      refine CJ.seq ?_
      refine CJ.region ?_
      obtain ⟨r209, hr210, h⟩ := ob h
      refine J.op rfl (A.call (L1 := []) Try.call7 rfl (law15_awake_ok hr210) rfl rfl) ?_
      rintro _ _ _ ⟨v212, _, rfl, ⟨⟨t211, rfl, rfl, rfl⟩, rfl⟩, _, rfl⟩
      refine J.val (v := .bool t211) rfl rfl (V.as rfl) ?_
      refine J.nil ?_
      refine CJ.ret ?_
      have e := Option.some.inj h
      subst e
      exact ⟨_, [], Res.one rfl rfl, ⟨t211, rfl, rfl, rfl⟩, (Hp.le_refl _), fun w hs => (Sep.dropAt 0 rfl hs)⟩
    · have h := cf hc208 h
      refine CJ.skip ?_
      refine CJ.seq ?_
      refine CJ.region ?_
      refine J.val (v := .agg #[.slice adxa_0 xa.length cpxa_0]) rfl rfl (V.ld rfl (Ld.agg (cs := [.slice adxa_0 xa.length cpxa_0]) Try.underlying24 sz24 rfl (Rd.cls 0 0 rfl rfl))) ?_
      refine J.val (v := .slice adxb_0 xb.length cpxb_0) rfl rfl (V.mv rfl) ?_
      obtain ⟨r215, hr216, h⟩ := ob h
      refine J.op rfl (A.call (L1 := []) Try.call20 rfl (row_Subst_ok fxa_0 fxb_0 hr216) rfl rfl) ?_
      rintro _ _ _ ⟨v222, _, rfl, ⟨⟨l217, i218, ad219, cp220, rfl, rfl, rfl⟩, rfl⟩, _, rfl⟩
      refine J.wit Row.hn (fun hn221 => ?_)
      refine J.val (v := .tuple #[.agg #[.slice ad219 l217.length cp220], .int .i64 i218]) rfl rfl (V.mv rfl) ?_
      refine J.val (v := .agg #[.slice ad219 l217.length cp220]) rfl rfl (V.ext rfl rfl) ?_
      refine J.val (v := .int .i64 i218) rfl rfl (V.ext rfl rfl) ?_
      refine J.op rfl (A.alloc (cs := [.slice none 0 0]) inf24 rfl) ?_
      rintro _ _ _ ⟨b226, rfl, rfl, rfl⟩
      refine J.op rfl (A.store (v := .agg #[.slice ad219 l217.length cp220]) (cs' := [.slice ad219 l217.length cp220]) sz24 rfl rfl rfl rfl rfl rfl) ?_
      rintro _ _ _ ⟨rfl, rfl, rfl⟩
      refine J.val (v := .int .i64 i218) rfl rfl (V.as rfl) ?_
      refine J.nil ?_
      refine CJ.seq ?_
      refine CJ.region ?_
      refine J.val (v := .agg #[.slice adxa_0 xa.length cpxa_0]) rfl rfl (V.ld rfl (Ld.agg (cs := [.slice adxa_0 xa.length cpxa_0]) Try.underlying24 sz24 rfl (Rd.cls 2 0 rfl rfl))) ?_
      refine J.val (v := .slice adxb_0 xb.length cpxb_0) rfl rfl (V.mv rfl) ?_
      obtain ⟨r227, hr228, h⟩ := ob h
      refine J.op rfl (A.call (L1 := []) Try.call21 rfl (ref15_Subst_ok fxa_0 fxb_0 hr228) rfl rfl) ?_
      rintro _ _ _ ⟨v234, _, rfl, ⟨⟨l229, i230, ad231, cp232, rfl, rfl, rfl⟩, rfl⟩, _, rfl⟩
      refine J.wit Row.hn (fun hn233 => ?_)
      refine J.val (v := .tuple #[.agg #[.slice ad231 l229.length cp232], .int .i64 i230]) rfl rfl (V.mv rfl) ?_
      refine J.val (v := .agg #[.slice ad231 l229.length cp232]) rfl rfl (V.ext rfl rfl) ?_
      refine J.val (v := .int .i64 i230) rfl rfl (V.ext rfl rfl) ?_
      refine J.op rfl (A.alloc (cs := [.slice none 0 0]) inf24 rfl) ?_
      rintro _ _ _ ⟨b238, rfl, rfl, rfl⟩
      refine J.op rfl (A.store (v := .agg #[.slice ad231 l229.length cp232]) (cs' := [.slice ad231 l229.length cp232]) sz24 rfl rfl rfl rfl rfl rfl) ?_
      rintro _ _ _ ⟨rfl, rfl, rfl⟩
      refine J.val (v := .int .i64 i230) rfl rfl (V.as rfl) ?_
      refine J.nil ?_
      refine CJ.seq ?_
      refine CJ.region ?_
      refine J.val (v := .agg #[.slice adxa_0 xa.length cpxa_0]) rfl rfl (V.ld rfl (Ld.agg (cs := [.slice adxa_0 xa.length cpxa_0]) Try.underlying24 sz24 rfl (Rd.cls 4 0 rfl rfl))) ?_
      obtain ⟨r239, hr240, h⟩ := ob h
      refine J.op rfl (A.call (L1 := []) Try.call22 rfl (row_Deref_ok fxa_0 hr240) rfl rfl) ?_
      rintro _ _ _ ⟨v247, _, rfl, ⟨⟨l241, i242, t243, ad244, cp245, rfl, rfl, rfl⟩, rfl⟩, _, rfl⟩
      refine J.wit Row.hn (fun hn246 => ?_)
      refine J.val (v := .tuple #[.agg #[.slice ad244 l241.length cp245], .int .i64 i242, .bool t243]) rfl rfl (V.mv rfl) ?_
      refine J.val (v := .agg #[.slice ad244 l241.length cp245]) rfl rfl (V.ext rfl rfl) ?_
      refine J.val (v := .int .i64 i242) rfl rfl (V.ext rfl rfl) ?_
      refine J.val (v := .bool t243) rfl rfl (V.ext rfl rfl) ?_
      refine J.op rfl (A.alloc (cs := [.slice none 0 0]) inf24 rfl) ?_
      rintro _ _ _ ⟨b251, rfl, rfl, rfl⟩
      refine J.op rfl (A.store (v := .agg #[.slice ad244 l241.length cp245]) (cs' := [.slice ad244 l241.length cp245]) sz24 rfl rfl rfl rfl rfl rfl) ?_
      rintro _ _ _ ⟨rfl, rfl, rfl⟩
      refine J.val (v := .int .i64 i242) rfl rfl (V.as rfl) ?_
      refine J.val (v := .bool t243) rfl rfl (V.as rfl) ?_
      refine J.nil ?_
      refine CJ.seq ?_
      refine CJ.region ?_
      refine J.val (v := .agg #[.slice adxa_0 xa.length cpxa_0]) rfl rfl (V.ld rfl (Ld.agg (cs := [.slice adxa_0 xa.length cpxa_0]) Try.underlying24 sz24 rfl (Rd.cls 6 0 rfl rfl))) ?_
      obtain ⟨r252, hr253, h⟩ := ob h
      refine J.op rfl (A.call (L1 := []) Try.call23 rfl (ref15_Deref_ok fxa_0 hr253) rfl rfl) ?_
      rintro _ K261 _ ⟨v260, _, rfl, ⟨l254, i255, t256, ad257, cp258, rfl, rfl, f259, rfl⟩, hK262, rfl⟩
      refine J.val (v := .tuple #[.agg #[.slice ad257 l254.length cp258], .int .i64 i255, .bool t256]) rfl rfl (V.mv rfl) ?_
      refine J.val (v := .agg #[.slice ad257 l254.length cp258]) rfl rfl (V.ext rfl rfl) ?_
      refine J.val (v := .int .i64 i255) rfl rfl (V.ext rfl rfl) ?_
      refine J.val (v := .bool t256) rfl rfl (V.ext rfl rfl) ?_
      refine J.op rfl (A.alloc (cs := [.slice none 0 0]) inf24 rfl) ?_
      rintro _ _ _ ⟨b263, rfl, rfl, rfl⟩
      refine J.op rfl (A.store (v := .agg #[.slice ad257 l254.length cp258]) (cs' := [.slice ad257 l254.length cp258]) sz24 rfl rfl rfl rfl rfl rfl) ?_
      rintro _ _ _ ⟨rfl, rfl, rfl⟩
      refine J.val (v := .int .i64 i255) rfl rfl (V.as rfl) ?_
      refine J.val (v := .bool t256) rfl rfl (V.as rfl) ?_
      refine J.nil ?_
      refine CJ.seq ?_
      refine CJ.mix [Cl b263 24 [.slice ad257 l254.length cp258], Cl b251 24 [.slice ad244 l241.length cp245], Row Hp.nil 42 (.cons (.int .i64) (.one .bool)) (.slice ad244 l241.length cp245) l241, Cl b238 24 [.slice ad231 l229.length cp232], Row Hp.nil 42 (.cons (.int .i64) (.one .bool)) (.slice ad231 l229.length cp232) l229, Cl b226 24 [.slice ad219 l217.length cp220], Row Hp.nil 42 (.cons (.int .i64) (.one .bool)) (.slice ad219 l217.length cp220) l217, Cl b198 24 [.slice adxa_0 xa.length cpxa_0]] [([0, 1], 2), ([3, 4, 5, 6, 7, 8, 9, 10, 11, 13, 14, 15], 12), ([], 16), ([], 17), ([18, 19, 20, 21], 22), ([23, 24, 25, 26, 27, 28, 29, 30, 31, 32, 33, 34], 35)] [36, 37] [] mixO (by decide +kernel) ⟨0, rfl, 0, rfl, 0, rfl, 0, rfl, 0, rfl, 0, rfl, 0, rfl, 0, rfl, trivial⟩ rfl rfl rfl ?_
      refine JM.cons ?_
      refine JQ.val (v := .agg #[.slice ad219 l217.length cp220]) rfl rfl (V.ld rfl (Ld.agg (cs := [.slice ad219 l217.length cp220]) Try.underlying24 sz24 rfl (Rd.cls 5 0 rfl rfl))) ?_
      refine JQ.val (v := .agg #[.slice ad231 l229.length cp232]) rfl rfl (V.ld rfl (Ld.agg (cs := [.slice ad231 l229.length cp232]) Try.underlying24 sz24 rfl (Rd.cls 3 0 rfl rfl))) ?_
      refine JQ.nil ?_
      obtain ⟨r329, hr330, h⟩ := ob h
      refine JA.front 4 rfl ?_
      refine JA.front 6 rfl ?_
      refine JA.op rfl (A.call (L1 := [Row Hp.nil 42 (.cons (.int .i64) (.one .bool)) (.slice ad219 l217.length cp220) l217, Row Hp.nil 42 (.cons (.int .i64) (.one .bool)) (.slice ad231 l229.length cp232) l229]) Try.call13 rfl (Tr.lend (Hp.nil_le _) (by decide) (fun K331 hK332 f333 => Tr.lend (Hp.nil_le _) (by decide) (fun K334 hK335 f336 => ref15_Same_ok (f333.mono hK335) f336 hr330))) rfl rfl) ?_
      rintro _ _ _ ⟨v338, _, rfl, ⟨⟨_, ⟨_, ⟨t337, rfl, rfl, rfl⟩, rfl⟩, rfl⟩, rfl⟩, _, rfl⟩
      refine ⟨fun w hs => Hold.sub (Hp.le_refl _) ⟨2, rfl, 2, rfl, 2, rfl, 2, rfl, 1, rfl, 1, rfl, 0, rfl, 0, rfl, trivial⟩ hs, ?_⟩
      refine JM.cons ?_
      refine JQ.val (v := .bool t337) rfl rfl (V.mv rfl) ?_
      rcases bt (t337) with hc341 | hc341
      · have h := ct hc341 h
        refine JQ.run rfl rfl rfl hc341 ?_
        refine JQ.val (v := .int .i64 i218) rfl rfl (V.mv rfl) ?_
        refine JQ.run rfl rfl rfl hc341 ?_
        refine JQ.val (v := .int .i64 i230) rfl rfl (V.mv rfl) ?_
        refine JQ.run rfl rfl rfl hc341 ?_
        refine JQ.val (v := .bool (decide (i218 = i230))) rfl rfl (V.eql rfl rfl) ?_
        refine JQ.val (v := .bool (decide (i218 = i230))) rfl rfl (V.pickT rfl hc341 rfl) ?_
        refine JQ.val (v := .bool (decide (i218 = i230))) rfl rfl (V.mv rfl) ?_
        rcases bt (decide (i218 = i230)) with hc342 | hc342
        · have h := ct hc342 h
          refine JQ.run rfl rfl rfl hc342 ?_
          refine JQ.val (v := .agg #[.slice adxa_0 xa.length cpxa_0]) rfl rfl (V.ld rfl (Ld.agg (cs := [.slice adxa_0 xa.length cpxa_0]) Try.underlying24 sz24 rfl (Rd.cls 7 0 rfl rfl))) ?_
          refine JQ.run rfl rfl rfl hc342 ?_
          refine JQ.val (v := .int .i64 xc) rfl rfl (V.mv rfl) ?_
          refine JQ.run rfl rfl rfl hc342 ?_
          refine JQ.val (v := .bool xd) rfl rfl (V.mv rfl) ?_
          refine JQ.run rfl rfl rfl hc342 ?_
          refine JQ.val (v := .agg #[.slice adxa_0 xa.length cpxa_0]) rfl rfl (V.ld rfl (Ld.agg (cs := [.slice adxa_0 xa.length cpxa_0]) Try.underlying24 sz24 rfl (Rd.cls 7 0 rfl rfl))) ?_
          refine JQ.run rfl rfl rfl hc342 ?_
          refine JQ.val (v := .int .i64 xc) rfl rfl (V.mv rfl) ?_
          refine JQ.run rfl rfl rfl hc342 ?_
          refine JQ.val (v := .bool xd) rfl rfl (V.mv rfl) ?_
          refine JQ.nil ?_
          refine JA.run rfl rfl rfl hc342 ?_
          obtain ⟨r343, hr344, h⟩ := ob h
          refine JA.op rfl (A.call (L1 := []) Try.call24 rfl (row_Ref_ok (fxa_0.mono hK262) hr344) rfl rfl) ?_
          rintro _ _ _ ⟨v349, _, rfl, ⟨⟨l345, ad346, cp347, rfl, rfl, rfl⟩, rfl⟩, _, rfl⟩
          refine ⟨fun w hs => Hold.sub (Hp.le_refl _) ⟨3, rfl, 3, rfl, 3, rfl, 3, rfl, 2, rfl, 2, rfl, 1, rfl, 1, rfl, trivial⟩ hs, ?_⟩
          refine JM.wit Row.hn (fun hn348 => ?_)
          refine JM.cons ?_
          refine JQ.nil ?_
          refine JA.run rfl rfl rfl hc342 ?_
          obtain ⟨r353, hr354, h⟩ := ob h
          refine JA.op rfl (A.call (L1 := []) Try.call25 rfl (ref15_Ref_ok (fxa_0.mono hK262) hr354) rfl rfl) ?_
          rintro _ _ _ ⟨v359, _, rfl, ⟨⟨l355, ad356, cp357, rfl, rfl, rfl⟩, rfl⟩, _, rfl⟩
          refine ⟨fun w hs => Hold.sub (Hp.le_refl _) ⟨4, rfl, 4, rfl, 4, rfl, 4, rfl, 3, rfl, 3, rfl, 2, rfl, 2, rfl, trivial⟩ hs, ?_⟩
          refine JM.wit Row.hn (fun hn358 => ?_)
          refine JM.cons ?_
          refine JQ.nil ?_
          refine JA.run rfl rfl rfl hc342 ?_
          obtain ⟨r363, hr364, h⟩ := ob h
          refine JA.front 1 rfl ?_
          refine JA.op rfl (A.call (L1 := [Row Hp.nil 42 (.cons (.int .i64) (.one .bool)) (.slice ad346 l345.length cp347) l345, Row Hp.nil 42 (.cons (.int .i64) (.one .bool)) (.slice ad356 l355.length cp357) l355]) Try.call13 rfl (Tr.lend (Hp.nil_le _) (by decide) (fun K365 hK366 f367 => Tr.lend (Hp.nil_le _) (by decide) (fun K368 hK369 f370 => ref15_Same_ok (f367.mono hK369) f370 hr364))) rfl rfl) ?_
          rintro _ _ _ ⟨v372, _, rfl, ⟨⟨_, ⟨_, ⟨t371, rfl, rfl, rfl⟩, rfl⟩, rfl⟩, rfl⟩, _, rfl⟩
          refine ⟨fun w hs => Hold.sub (Hp.le_refl _) ⟨4, rfl, 4, rfl, 4, rfl, 4, rfl, 3, rfl, 3, rfl, 2, rfl, 2, rfl, trivial⟩ hs, ?_⟩
          refine JM.cons ?_
          refine JQ.val (v := .bool t371) rfl rfl (V.pickT rfl hc342 rfl) ?_
          refine JQ.val (v := .bool t371) rfl rfl (V.mv rfl) ?_
          rcases bt (t371) with hc375 | hc375
          · have h := ct hc375 h
            refine JQ.run rfl rfl rfl hc375 ?_
            refine JQ.val (v := .agg #[.slice ad244 l241.length cp245]) rfl rfl (V.ld rfl (Ld.agg (cs := [.slice ad244 l241.length cp245]) Try.underlying24 sz24 rfl (Rd.cls 1 0 rfl rfl))) ?_
            refine JQ.run rfl rfl rfl hc375 ?_
            refine JQ.val (v := .agg #[.slice ad257 l254.length cp258]) rfl rfl (V.ld rfl (Ld.agg (cs := [.slice ad257 l254.length cp258]) Try.underlying24 sz24 rfl (Rd.cls 0 0 rfl rfl))) ?_
            refine JQ.nil ?_
            refine JA.run rfl rfl rfl hc375 ?_
            obtain ⟨r376, hr377, h⟩ := ob h
            refine JA.front 6 rfl ?_
            refine JA.op rfl (A.call (L1 := [Row Hp.nil 42 (.cons (.int .i64) (.one .bool)) (.slice ad244 l241.length cp245) l241]) Try.call13 rfl (Tr.lend (Hp.nil_le _) (by decide) (fun K378 hK379 f380 => ref15_Same_ok f380 (f259.mono hK379) hr377)) rfl rfl) ?_
            rintro _ _ _ ⟨v382, _, rfl, ⟨⟨_, ⟨t381, rfl, rfl, rfl⟩, rfl⟩, rfl⟩, _, rfl⟩
            refine ⟨fun w hs => Hold.sub (Hp.le_refl _) ⟨5, rfl, 5, rfl, 0, rfl, 4, rfl, 3, rfl, 3, rfl, 2, rfl, 2, rfl, trivial⟩ hs, ?_⟩
            refine JM.cons ?_
            refine JQ.val (v := .bool t381) rfl rfl (V.pickT rfl hc375 rfl) ?_
            refine JQ.val (v := .bool t381) rfl rfl (V.mv rfl) ?_
            rcases bt (t381) with hc385 | hc385
            · have h := ct hc385 h
              refine JQ.run rfl rfl rfl hc385 ?_
              refine JQ.val (v := .int .i64 i242) rfl rfl (V.mv rfl) ?_
              refine JQ.run rfl rfl rfl hc385 ?_
              refine JQ.val (v := .int .i64 i255) rfl rfl (V.mv rfl) ?_
              refine JQ.run rfl rfl rfl hc385 ?_
              refine JQ.val (v := .bool (decide (i242 = i255))) rfl rfl (V.eql rfl rfl) ?_
              refine JQ.val (v := .bool (decide (i242 = i255))) rfl rfl (V.pickT rfl hc385 rfl) ?_
              refine JQ.val (v := .bool (decide (i242 = i255))) rfl rfl (V.mv rfl) ?_
              rcases bt (decide (i242 = i255)) with hc386 | hc386
              · have h := ct hc386 h
                refine JQ.run rfl rfl rfl hc386 ?_
                refine JQ.val (v := .bool t243) rfl rfl (V.mv rfl) ?_
                refine JQ.run rfl rfl rfl hc386 ?_
                refine JQ.val (v := .bool t256) rfl rfl (V.mv rfl) ?_
                refine JQ.run rfl rfl rfl hc386 ?_
                refine JQ.val (v := .bool (t243 == t256)) rfl rfl (V.eqb Try.underlying4 rfl rfl) ?_
                refine JQ.val (v := .bool (t243 == t256)) rfl rfl (V.pickT rfl hc386 rfl) ?_
                refine JQ.val (v := .bool (t243 == t256)) rfl rfl (V.mv rfl) ?_
                refine JQ.nil ?_
                rcases bt (t243 == t256) with hc387 | hc387
                · have h := ct hc387 h
                  refine JA.run rfl rfl rfl hc387 ?_
                  obtain ⟨r388, hr389, h⟩ := ob h
                  refine JA.op rfl (A.call (L1 := []) Try.call7 rfl (law15_awake_ok hr389) rfl rfl) ?_
                  rintro _ _ _ ⟨v391, _, rfl, ⟨⟨t390, rfl, rfl, rfl⟩, rfl⟩, _, rfl⟩
                  refine ⟨fun w hs => Hold.sub (Hp.le_refl _) ⟨5, rfl, 5, rfl, 0, rfl, 4, rfl, 3, rfl, 3, rfl, 2, rfl, 2, rfl, trivial⟩ hs, ?_⟩
                  refine JM.nil ?_
                  refine JQ.val (v := .bool t390) rfl rfl (V.pickT rfl hc387 rfl) ?_
                  refine JQ.val (v := .bool t390) rfl rfl (V.as rfl) ?_
                  refine JQ.nil ?_
                  refine J.nil ?_
                  refine CJ.ret ?_
                  have e := Option.some.inj h
                  subst e
                  exact ⟨_, [], Res.one rfl rfl, ⟨t390, rfl, rfl, rfl⟩, hK262, fun w hs => (Sep.dropAt 0 rfl (Sep.dropAt 0 rfl (Sep.dropAt 0 rfl (Sep.dropAt 0 rfl (Sep.dropAt 0 rfl (Sep.dropAt 0 rfl (Sep.dropAt 0 rfl (Sep.dropAt 0 rfl (Sep.dropAt 0 rfl (Sep.dropAt 0 rfl hs))))))))))⟩
                · have h := cf hc387 h
                  refine JA.skip rfl rfl rfl rfl hc387 ?_
                  refine JM.nil ?_
                  refine JQ.val (v := .bool false) rfl rfl (V.pickF rfl hc387 rfl) ?_
                  refine JQ.val (v := .bool false) rfl rfl (V.as rfl) ?_
                  refine JQ.nil ?_
                  refine J.nil ?_
                  refine CJ.ret ?_
                  have e := Option.some.inj h
                  subst e
                  exact ⟨_, [], Res.one rfl rfl, ⟨false, rfl, rfl, rfl⟩, hK262, fun w hs => (Sep.dropAt 0 rfl (Sep.dropAt 0 rfl (Sep.dropAt 0 rfl (Sep.dropAt 0 rfl (Sep.dropAt 0 rfl (Sep.dropAt 0 rfl (Sep.dropAt 0 rfl (Sep.dropAt 0 rfl (Sep.dropAt 0 rfl (Sep.dropAt 0 rfl hs))))))))))⟩
              · have h := cf hc386 h
                refine JQ.skip rfl rfl rfl rfl hc386 ?_
                refine JQ.skip rfl rfl rfl rfl hc386 ?_
                refine JQ.skip rfl rfl rfl rfl hc386 ?_
                refine JQ.val (v := .bool false) rfl rfl (V.pickF rfl hc386 rfl) ?_
                refine JQ.val (v := .bool false) rfl rfl (V.mv rfl) ?_
                refine JQ.nil ?_
                refine JA.skip rfl rfl rfl rfl rfl ?_
                refine JM.nil ?_
                refine JQ.val (v := .bool false) rfl rfl (V.pickF rfl rfl rfl) ?_
                refine JQ.val (v := .bool false) rfl rfl (V.as rfl) ?_
                refine JQ.nil ?_
                refine J.nil ?_
                refine CJ.ret ?_
                have e := Option.some.inj h
                subst e
                exact ⟨_, [], Res.one rfl rfl, ⟨false, rfl, rfl, rfl⟩, hK262, fun w hs => (Sep.dropAt 0 rfl (Sep.dropAt 0 rfl (Sep.dropAt 0 rfl (Sep.dropAt 0 rfl (Sep.dropAt 0 rfl (Sep.dropAt 0 rfl (Sep.dropAt 0 rfl (Sep.dropAt 0 rfl (Sep.dropAt 0 rfl (Sep.dropAt 0 rfl hs))))))))))⟩
            · have h := cf hc385 h
              refine JQ.skip rfl rfl rfl rfl hc385 ?_
              refine JQ.skip rfl rfl rfl rfl hc385 ?_
              refine JQ.skip rfl rfl rfl rfl hc385 ?_
              refine JQ.val (v := .bool false) rfl rfl (V.pickF rfl hc385 rfl) ?_
              refine JQ.val (v := .bool false) rfl rfl (V.mv rfl) ?_
              refine JQ.skip rfl rfl rfl rfl rfl ?_
              refine JQ.skip rfl rfl rfl rfl rfl ?_
              refine JQ.skip rfl rfl rfl rfl rfl ?_
              refine JQ.val (v := .bool false) rfl rfl (V.pickF rfl rfl rfl) ?_
              refine JQ.val (v := .bool false) rfl rfl (V.mv rfl) ?_
              refine JQ.nil ?_
              refine JA.skip rfl rfl rfl rfl rfl ?_
              refine JM.nil ?_
              refine JQ.val (v := .bool false) rfl rfl (V.pickF rfl rfl rfl) ?_
              refine JQ.val (v := .bool false) rfl rfl (V.as rfl) ?_
              refine JQ.nil ?_
              refine J.nil ?_
              refine CJ.ret ?_
              have e := Option.some.inj h
              subst e
              exact ⟨_, [], Res.one rfl rfl, ⟨false, rfl, rfl, rfl⟩, hK262, fun w hs => (Sep.dropAt 0 rfl (Sep.dropAt 0 rfl (Sep.dropAt 0 rfl (Sep.dropAt 0 rfl (Sep.dropAt 0 rfl (Sep.dropAt 0 rfl (Sep.dropAt 0 rfl (Sep.dropAt 0 rfl (Sep.dropAt 0 rfl (Sep.dropAt 0 rfl hs))))))))))⟩
          · have h := cf hc375 h
            refine JQ.skip rfl rfl rfl rfl hc375 ?_
            refine JQ.skip rfl rfl rfl rfl hc375 ?_
            refine JQ.nil ?_
            refine JA.skip rfl rfl rfl rfl hc375 ?_
            refine JM.cons ?_
            refine JQ.val (v := .bool false) rfl rfl (V.pickF rfl hc375 rfl) ?_
            refine JQ.val (v := .bool false) rfl rfl (V.mv rfl) ?_
            refine JQ.skip rfl rfl rfl rfl rfl ?_
            refine JQ.skip rfl rfl rfl rfl rfl ?_
            refine JQ.skip rfl rfl rfl rfl rfl ?_
            refine JQ.val (v := .bool false) rfl rfl (V.pickF rfl rfl rfl) ?_
            refine JQ.val (v := .bool false) rfl rfl (V.mv rfl) ?_
            refine JQ.skip rfl rfl rfl rfl rfl ?_
            refine JQ.skip rfl rfl rfl rfl rfl ?_
            refine JQ.skip rfl rfl rfl rfl rfl ?_
            refine JQ.val (v := .bool false) rfl rfl (V.pickF rfl rfl rfl) ?_
            refine JQ.val (v := .bool false) rfl rfl (V.mv rfl) ?_
            refine JQ.nil ?_
            refine JA.skip rfl rfl rfl rfl rfl ?_
            refine JM.nil ?_
            refine JQ.val (v := .bool false) rfl rfl (V.pickF rfl rfl rfl) ?_
            refine JQ.val (v := .bool false) rfl rfl (V.as rfl) ?_
            refine JQ.nil ?_
            refine J.nil ?_
            refine CJ.ret ?_
            have e := Option.some.inj h
            subst e
            exact ⟨_, [], Res.one rfl rfl, ⟨false, rfl, rfl, rfl⟩, hK262, fun w hs => (Sep.dropAt 0 rfl (Sep.dropAt 0 rfl (Sep.dropAt 0 rfl (Sep.dropAt 0 rfl (Sep.dropAt 0 rfl (Sep.dropAt 0 rfl (Sep.dropAt 0 rfl (Sep.dropAt 0 rfl (Sep.dropAt 0 rfl (Sep.dropAt 0 rfl hs))))))))))⟩
        · have h := cf hc342 h
          refine JQ.skip rfl rfl rfl rfl hc342 ?_
          refine JQ.skip rfl rfl rfl rfl hc342 ?_
          refine JQ.skip rfl rfl rfl rfl hc342 ?_
          refine JQ.skip rfl rfl rfl rfl hc342 ?_
          refine JQ.skip rfl rfl rfl rfl hc342 ?_
          refine JQ.skip rfl rfl rfl rfl hc342 ?_
          refine JQ.nil ?_
          refine JA.skip rfl rfl rfl rfl hc342 ?_
          refine JM.cons ?_
          refine JQ.nil ?_
          refine JA.skip rfl rfl rfl rfl hc342 ?_
          refine JM.cons ?_
          refine JQ.nil ?_
          refine JA.skip rfl rfl rfl rfl hc342 ?_
          refine JM.cons ?_
          refine JQ.val (v := .bool false) rfl rfl (V.pickF rfl hc342 rfl) ?_
          refine JQ.val (v := .bool false) rfl rfl (V.mv rfl) ?_
          refine JQ.skip rfl rfl rfl rfl rfl ?_
          refine JQ.skip rfl rfl rfl rfl rfl ?_
          refine JQ.nil ?_
          refine JA.skip rfl rfl rfl rfl rfl ?_
          refine JM.cons ?_
          refine JQ.val (v := .bool false) rfl rfl (V.pickF rfl rfl rfl) ?_
          refine JQ.val (v := .bool false) rfl rfl (V.mv rfl) ?_
          refine JQ.skip rfl rfl rfl rfl rfl ?_
          refine JQ.skip rfl rfl rfl rfl rfl ?_
          refine JQ.skip rfl rfl rfl rfl rfl ?_
          refine JQ.val (v := .bool false) rfl rfl (V.pickF rfl rfl rfl) ?_
          refine JQ.val (v := .bool false) rfl rfl (V.mv rfl) ?_
          refine JQ.skip rfl rfl rfl rfl rfl ?_
          refine JQ.skip rfl rfl rfl rfl rfl ?_
          refine JQ.skip rfl rfl rfl rfl rfl ?_
          refine JQ.val (v := .bool false) rfl rfl (V.pickF rfl rfl rfl) ?_
          refine JQ.val (v := .bool false) rfl rfl (V.mv rfl) ?_
          refine JQ.nil ?_
          refine JA.skip rfl rfl rfl rfl rfl ?_
          refine JM.nil ?_
          refine JQ.val (v := .bool false) rfl rfl (V.pickF rfl rfl rfl) ?_
          refine JQ.val (v := .bool false) rfl rfl (V.as rfl) ?_
          refine JQ.nil ?_
          refine J.nil ?_
          refine CJ.ret ?_
          have e := Option.some.inj h
          subst e
          exact ⟨_, [], Res.one rfl rfl, ⟨false, rfl, rfl, rfl⟩, hK262, fun w hs => (Sep.dropAt 0 rfl (Sep.dropAt 0 rfl (Sep.dropAt 0 rfl (Sep.dropAt 0 rfl (Sep.dropAt 0 rfl (Sep.dropAt 0 rfl (Sep.dropAt 0 rfl (Sep.dropAt 0 rfl hs))))))))⟩
      · have h := cf hc341 h
        refine JQ.skip rfl rfl rfl rfl hc341 ?_
        refine JQ.skip rfl rfl rfl rfl hc341 ?_
        refine JQ.skip rfl rfl rfl rfl hc341 ?_
        refine JQ.val (v := .bool false) rfl rfl (V.pickF rfl hc341 rfl) ?_
        refine JQ.val (v := .bool false) rfl rfl (V.mv rfl) ?_
        refine JQ.skip rfl rfl rfl rfl rfl ?_
        refine JQ.skip rfl rfl rfl rfl rfl ?_
        refine JQ.skip rfl rfl rfl rfl rfl ?_
        refine JQ.skip rfl rfl rfl rfl rfl ?_
        refine JQ.skip rfl rfl rfl rfl rfl ?_
        refine JQ.skip rfl rfl rfl rfl rfl ?_
        refine JQ.nil ?_
        refine JA.skip rfl rfl rfl rfl rfl ?_
        refine JM.cons ?_
        refine JQ.nil ?_
        refine JA.skip rfl rfl rfl rfl rfl ?_
        refine JM.cons ?_
        refine JQ.nil ?_
        refine JA.skip rfl rfl rfl rfl rfl ?_
        refine JM.cons ?_
        refine JQ.val (v := .bool false) rfl rfl (V.pickF rfl rfl rfl) ?_
        refine JQ.val (v := .bool false) rfl rfl (V.mv rfl) ?_
        refine JQ.skip rfl rfl rfl rfl rfl ?_
        refine JQ.skip rfl rfl rfl rfl rfl ?_
        refine JQ.nil ?_
        refine JA.skip rfl rfl rfl rfl rfl ?_
        refine JM.cons ?_
        refine JQ.val (v := .bool false) rfl rfl (V.pickF rfl rfl rfl) ?_
        refine JQ.val (v := .bool false) rfl rfl (V.mv rfl) ?_
        refine JQ.skip rfl rfl rfl rfl rfl ?_
        refine JQ.skip rfl rfl rfl rfl rfl ?_
        refine JQ.skip rfl rfl rfl rfl rfl ?_
        refine JQ.val (v := .bool false) rfl rfl (V.pickF rfl rfl rfl) ?_
        refine JQ.val (v := .bool false) rfl rfl (V.mv rfl) ?_
        refine JQ.skip rfl rfl rfl rfl rfl ?_
        refine JQ.skip rfl rfl rfl rfl rfl ?_
        refine JQ.skip rfl rfl rfl rfl rfl ?_
        refine JQ.val (v := .bool false) rfl rfl (V.pickF rfl rfl rfl) ?_
        refine JQ.val (v := .bool false) rfl rfl (V.mv rfl) ?_
        refine JQ.nil ?_
        refine JA.skip rfl rfl rfl rfl rfl ?_
        refine JM.nil ?_
        refine JQ.val (v := .bool false) rfl rfl (V.pickF rfl rfl rfl) ?_
        refine JQ.val (v := .bool false) rfl rfl (V.as rfl) ?_
        refine JQ.nil ?_
        refine J.nil ?_
        refine CJ.ret ?_
        have e := Option.some.inj h
        subst e
        exact ⟨_, [], Res.one rfl rfl, ⟨false, rfl, rfl, rfl⟩, hK262, fun w hs => (Sep.dropAt 0 rfl (Sep.dropAt 0 rfl (Sep.dropAt 0 rfl (Sep.dropAt 0 rfl (Sep.dropAt 0 rfl (Sep.dropAt 0 rfl (Sep.dropAt 0 rfl (Sep.dropAt 0 rfl hs))))))))⟩
noncomputable def fn_law15_RowBack (xa : (List (Int × Bool))) (xb : Int) (xc : Bool) : Option Bool :=
  (fn_ref15_Check xa 40).bind fun i662 => cond (!decide (i662 = 0)) ((fn_row_Check xa 40).bind fun i688 => (fn_ref15_Check xa 40).bind fun i694 => cond (decide (i688 = i694)) ((fn_law15_awake).bind fun t701 => some (t701)) (some (false))) ((fn_row_Ref xa xb xc).bind fun l707 => (fn_row_Deref l707).bind fun (l720, i721, t722) => (cond ((!t722) || (!decide (i721 = xb))) (some (true)) ((cond (!xc) ((fn_ref15_Same l720 xa).bind fun t778 => some (!t778)) (some (false))).bind fun t770 => some (t770))).bind fun t757 => cond (t757 || (xc && (!decide ((((l720.length : Nat) : Int)) = (((xa.length : Nat) : Int)))))) (some (false)) ((loop (fun ((l954, l959, i964) : ((List Int) × (List Int) × Int)) => (cond (decide (i964 < 40)) ((app l954 ([i964] : List Int)).bind fun z1003 => (app l959 (([IntKind.wrap .i64 (39 - i964)] : List Int))).bind fun z1012 => some (.inl ((z1003, z1012, IntKind.wrap .i64 (i964 + 1))))) (some (.inr (((l954, l959))))) : Option (((List Int) × (List Int) × Int) ⊕ ((List Int) × (List Int))))) ((([] : List Int), ([] : List Int), 0))).bind fun (l902, l907) => (fn_row_Subst xa l902).bind fun (l1025, i1026) => (fn_row_Subst xa l907).bind fun (l1040, i1041) => (fn_row_Subst l1040 l907).bind fun (l1055, i1056) => (cond (((!decide (i1026 = 0)) || (!decide (i1041 = 0))) || (!decide (i1056 = 0))) (some (true)) ((fn_ref15_Same l1025 xa).bind fun t1089 => some (!t1089))).bind fun t1081 => (cond (t1081) (some (true)) ((fn_row_Shape l1040 xa).bind fun t1105 => some (!t1105))).bind fun t1100 => (cond (t1100) (some (true)) ((fn_ref15_Same l1055 xa).bind fun t1127 => some (!t1127))).bind fun t1119 => cond (t1119) (some (false)) ((fn_row_Clone xa).bind fun l1134 => (cond (decide (0 < (((l1134.length : Nat) : Int)))) ((getI l1134 0).bind fun x1234 => (getI l1134 0).bind fun x1241 => (some (l1134.set (0 : Int).toNat (x1241.1, !x1234.2))).bind fun z1248 => (fn_row_Same z1248 xa).bind fun t1258 => (cond (t1258) (some (true)) ((fn_row_Shape z1248 xa).bind fun t1282 => some (t1282))).bind fun t1274 => cond (t1274) (some (.inr (false))) (some (.inl l1025))) (some (.inl l1025)) : Option ((List (Int × Bool)) ⊕ Bool)).bind fun o => match o with | .inr r => some r | .inl l1212 => (fn_row_Same xa l1212).bind fun t1296 => (cond (t1296) ((fn_law15_awake).bind fun t1312 => some (t1312)) (some (false))).bind fun t1307 => some (t1307))))
set_option maxRecDepth 100000 in
set_option maxHeartbeats 4000000 in
theorem law15_RowBack_ok {K : Hp} {xa : (List (Int × Bool))} {xb : Int} {xc : Bool} {adxa_0 : Option Addr} {cpxa_0 : Nat} (fxa_0 : Is K (.sl (.cons (.int .i64) (.one .bool))) [.slice adxa_0 xa.length cpxa_0] xa) {r : Bool} (h : fn_law15_RowBack xa xb xc = some r) :
    Tr Try.prog 5 #[.agg #[.slice adxa_0 xa.length cpxa_0], .int .i64 xb, .bool xc] K [] (fun v K' L' => (∃ (t658 : Bool), t658 = r ∧ v = .bool t658 ∧ L' = []) ∧ K = K') := by
  refine Tr.k ?_
  refine Tr.of Try.func5 rfl Try.ntmps5 rfl (fun E F => ?_)
  unfold fn_law15_RowBack at h
  refine CJ.seq ?_
  refine CJ.region ?_
  refine J.op rfl (A.box (v := .agg #[.slice adxa_0 xa.length cpxa_0]) (cs := [.slice adxa_0 xa.length cpxa_0]) rfl rfl) ?_
  rintro _ _ _ ⟨b659, rfl, rfl, rfl⟩
  refine J.val (v := .bool false) rfl rfl (V.as rfl) ?_
  refine J.nil ?_
  refine CJ.seq ?_
  refine CJ.seq ?_
  refine CJ.region ?_
  refine J.val (v := .agg #[.slice adxa_0 xa.length cpxa_0]) rfl rfl (V.ld rfl (Ld.agg (cs := [.slice adxa_0 xa.length cpxa_0]) Try.underlying24 sz24 rfl (Rd.cls 0 0 rfl rfl))) ?_
  obtain ⟨r660, hr661, h⟩ := ob h
  refine J.op rfl (A.call (L1 := []) Try.call9 rfl (ref15_Check_ok fxa_0 hr661) rfl rfl) ?_
  rintro _ _ _ ⟨v663, _, rfl, ⟨⟨i662, rfl, rfl, rfl⟩, rfl⟩, _, rfl⟩
  refine J.val (v := .bool (!decide (i662 = 0))) rfl rfl (V.neq rfl rfl) ?_
  refine J.nil ?_
  refine CJ.cond rfl (fun hc666 => ?_) (fun hc666 => ?_)
  · have h := ct hc666 h
    refine CJ.seq ?_
    refine CJ.mix [Cl b659 24 [.slice adxa_0 xa.length cpxa_0]] [([0, 2], 1), ([], 3), ([4, 5], 6)] [7, 8] [] mixO (by decide +kernel) ⟨0, rfl, trivial⟩ rfl rfl rfl ?_
    refine JM.cons ?_
    refine JQ.val (v := .agg #[.slice adxa_0 xa.length cpxa_0]) rfl rfl (V.ld rfl (Ld.agg (cs := [.slice adxa_0 xa.length cpxa_0]) Try.underlying24 sz24 rfl (Rd.cls 0 0 rfl rfl))) ?_
    refine JQ.val (v := .agg #[.slice adxa_0 xa.length cpxa_0]) rfl rfl (V.ld rfl (Ld.agg (cs := [.slice adxa_0 xa.length cpxa_0]) Try.underlying24 sz24 rfl (Rd.cls 0 0 rfl rfl))) ?_
    refine JQ.nil ?_
    obtain ⟨r686, hr687, h⟩ := ob h
    refine JA.op rfl (A.call (L1 := []) Try.call8 rfl (row_Check_ok fxa_0 hr687) rfl rfl) ?_
    rintro _ _ _ ⟨v689, _, rfl, ⟨⟨i688, rfl, rfl, rfl⟩, rfl⟩, _, rfl⟩
    refine ⟨fun w hs => Hold.sub (Hp.le_refl _) ⟨0, rfl, trivial⟩ hs, ?_⟩
    refine JM.cons ?_
    refine JQ.nil ?_
    obtain ⟨r692, hr693, h⟩ := ob h
    refine JA.op rfl (A.call (L1 := []) Try.call9 rfl (ref15_Check_ok fxa_0 hr693) rfl rfl) ?_
    rintro _ _ _ ⟨v695, _, rfl, ⟨⟨i694, rfl, rfl, rfl⟩, rfl⟩, _, rfl⟩
    refine ⟨fun w hs => Hold.sub (Hp.le_refl _) ⟨0, rfl, trivial⟩ hs, ?_⟩
    refine JM.cons ?_
    refine JQ.val (v := .bool (decide (i688 = i694))) rfl rfl (V.eql rfl rfl) ?_
    refine JQ.val (v := .bool (decide (i688 = i694))) rfl rfl (V.mv rfl) ?_
    refine JQ.nil ?_
    rcases bt (decide (i688 = i694)) with hc698 | hc698
    · have h := ct hc698 h
      refine JA.run rfl rfl rfl hc698 ?_
      obtain ⟨r699, hr700, h⟩ := ob h
      refine JA.op rfl (A.call (L1 := []) Try.call7 rfl (law15_awake_ok hr700) rfl rfl) ?_
      rintro _ _ _ ⟨v702, _, rfl, ⟨⟨t701, rfl, rfl, rfl⟩, rfl⟩, _, rfl⟩
      refine ⟨fun w hs => Hold.sub (Hp.le_refl _) ⟨0, rfl, trivial⟩ hs, ?_⟩
      refine JM.nil ?_
      refine JQ.val (v := .bool t701) rfl rfl (V.pickT rfl hc698 rfl) ?_
      refine JQ.val (v := .bool t701) rfl rfl (V.as rfl) ?_
      refine JQ.nil ?_
      refine J.nil ?_
      refine CJ.ret ?_
      have e := Option.some.inj h
      subst e
      exact ⟨_, [], Res.one rfl rfl, ⟨t701, rfl, rfl, rfl⟩, (Hp.le_refl _), fun w hs => (Sep.dropAt 0 rfl hs)⟩
    · have h := cf hc698 h
      refine JA.skip rfl rfl rfl rfl hc698 ?_
      refine JM.nil ?_
      refine JQ.val (v := .bool false) rfl rfl (V.pickF rfl hc698 rfl) ?_
      refine JQ.val (v := .bool false) rfl rfl (V.as rfl) ?_
      refine JQ.nil ?_
      refine J.nil ?_
      refine CJ.ret ?_
      have e := Option.some.inj h
      subst e
      exact ⟨_, [], Res.one rfl rfl, ⟨false, rfl, rfl, rfl⟩, (Hp.le_refl _), fun w hs => (Sep.dropAt 0 rfl hs)⟩
  · have h := cf hc666 h
    refine CJ.skip ?_
    refine CJ.seq ?_
    refine CJ.region ?_
    refine J.val (v := .agg #[.slice adxa_0 xa.length cpxa_0]) rfl rfl (V.ld rfl (Ld.agg (cs := [.slice adxa_0 xa.length cpxa_0]) Try.underlying24 sz24 rfl (Rd.cls 0 0 rfl rfl))) ?_
    refine J.val (v := .int .i64 xb) rfl rfl (V.mv rfl) ?_
    refine J.val (v := .bool xc) rfl rfl (V.mv rfl) ?_
    obtain ⟨r705, hr706, h⟩ := ob h
    refine J.op rfl (A.call (L1 := []) Try.call24 rfl (row_Ref_ok fxa_0 hr706) rfl rfl) ?_
    rintro _ _ _ ⟨v711, _, rfl, ⟨⟨l707, ad708, cp709, rfl, rfl, rfl⟩, rfl⟩, _, rfl⟩
    refine J.wit Row.hn (fun hn710 => ?_)
    refine J.persist (Hp.nil_le _) (by decide) (fun K715 hK716 f717 => ?_)
    obtain ⟨r718, hr719, h⟩ := ob h
    refine J.op rfl (A.call (L1 := []) Try.call22 rfl (row_Deref_ok f717 hr719) rfl rfl) ?_
    rintro _ _ _ ⟨v726, _, rfl, ⟨⟨l720, i721, t722, ad723, cp724, rfl, rfl, rfl⟩, rfl⟩, _, rfl⟩
    refine J.wit Row.hn (fun hn725 => ?_)
    refine J.val (v := .tuple #[.agg #[.slice ad723 l720.length cp724], .int .i64 i721, .bool t722]) rfl rfl (V.mv rfl) ?_
    refine J.val (v := .agg #[.slice ad723 l720.length cp724]) rfl rfl (V.ext rfl rfl) ?_
    refine J.val (v := .int .i64 i721) rfl rfl (V.ext rfl rfl) ?_
    refine J.val (v := .bool t722) rfl rfl (V.ext rfl rfl) ?_
    refine J.op rfl (A.alloc (cs := [.slice none 0 0]) inf24 rfl) ?_
    rintro _ _ _ ⟨b730, rfl, rfl, rfl⟩
    refine J.op rfl (A.store (v := .agg #[.slice ad723 l720.length cp724]) (cs' := [.slice ad723 l720.length cp724]) sz24 rfl rfl rfl rfl rfl rfl) ?_
    rintro _ _ _ ⟨rfl, rfl, rfl⟩
    refine J.val (v := .int .i64 i721) rfl rfl (V.as rfl) ?_
    refine J.val (v := .bool t722) rfl rfl (V.as rfl) ?_
    refine J.nil ?_
    refine CJ.seq ?_
    refine CJ.seq ?_
    refine CJ.region ?_
    refine J.val (v := .bool t722) rfl rfl (V.mv rfl) ?_
    refine J.val (v := .bool (!t722)) rfl rfl (V.not rfl) ?_
    refine J.val (v := .bool (!t722)) rfl rfl (V.mv rfl) ?_
    refine J.cut 4 ?_
    refine @J.meet _ _ _ _ _ _ _ _ _ _ (fun ρ K' L' => Fits [(46, .bool ((!t722) || (!decide (i721 = xb)))), (2, .bool xc), (3, .pointer (some ⟨b659, 0, none⟩)), (7, .pointer (some ⟨b730, 0, none⟩))] ρ ∧ K715 = K' ∧ L' = Cl b730 24 [.slice ad723 l720.length cp724] :: Row Hp.nil 42 (.cons (.int .i64) (.one .bool)) (.slice ad723 l720.length cp724) l720 :: Cl b659 24 [.slice adxa_0 xa.length cpxa_0] :: F) ?_ ?_
    · skip
      rcases bt (!t722) with hc733 | hc733
      · skip
        refine J.skip rfl rfl rfl rfl hc733 ?_
        refine J.skip rfl rfl rfl rfl hc733 ?_
        refine J.skip rfl rfl rfl rfl hc733 ?_
        refine J.val (v := .bool true) rfl rfl (V.pickT rfl hc733 rfl) ?_
        refine J.nil ?_
        exact ⟨rfl, ⟨(by simp only [hc733]; rfl), rfl, rfl, rfl, trivial⟩, rfl, rfl⟩
      · skip
        refine J.run rfl rfl rfl hc733 ?_
        refine J.val (v := .int .i64 i721) rfl rfl (V.mv rfl) ?_
        refine J.run rfl rfl rfl hc733 ?_
        refine J.val (v := .int .i64 xb) rfl rfl (V.mv rfl) ?_
        refine J.run rfl rfl rfl hc733 ?_
        refine J.val (v := .bool (!decide (i721 = xb))) rfl rfl (V.neq rfl rfl) ?_
        refine J.val (v := .bool (!decide (i721 = xb))) rfl rfl (V.pickF rfl hc733 rfl) ?_
        refine J.nil ?_
        exact ⟨rfl, ⟨(by simp only [hc733]; rfl), rfl, rfl, rfl, trivial⟩, rfl, rfl⟩
    · rintro ρ _ _ ⟨hf, rfl, rfl⟩
      obtain ⟨ρ, rfl⟩ := hf.ex
      refine J.val (v := .bool ((!t722) || (!decide (i721 = xb)))) rfl rfl (V.mv rfl) ?_
      refine J.cut 9 ?_
      obtain ⟨t757, ht758, h⟩ := ob h
      refine @J.meet _ _ _ _ _ _ _ _ _ _ (fun ρ K' L' => Fits [(56, .bool t757), (2, .bool xc), (3, .pointer (some ⟨b659, 0, none⟩)), (7, .pointer (some ⟨b730, 0, none⟩))] ρ ∧ K715 = K' ∧ L' = Cl b730 24 [.slice ad723 l720.length cp724] :: Row Hp.nil 42 (.cons (.int .i64) (.one .bool)) (.slice ad723 l720.length cp724) l720 :: Cl b659 24 [.slice adxa_0 xa.length cpxa_0] :: F) ?_ ?_
      · skip
        rcases bt ((!t722) || (!decide (i721 = xb))) with hc759 | hc759
        · have ht758 := ct hc759 ht758
          refine J.skip rfl rfl rfl rfl hc759 ?_
          refine J.skip rfl rfl rfl rfl hc759 ?_
          refine J.skip rfl rfl rfl rfl hc759 ?_
          refine J.skipu rfl rfl rfl rfl ?_
          refine J.skipu rfl rfl rfl rfl ?_
          refine J.skipu rfl rfl rfl rfl ?_
          refine J.skipu rfl rfl rfl rfl ?_
          refine J.skip rfl rfl rfl rfl hc759 ?_
          refine J.val (v := .bool true) rfl rfl (V.pickT rfl hc759 rfl) ?_
          refine J.nil ?_
          have e := Option.some.inj ht758
          subst e
          exact ⟨rfl, ⟨rfl, rfl, rfl, rfl, trivial⟩, rfl, rfl⟩
        · have ht758 := cf hc759 ht758
          refine J.run rfl rfl rfl hc759 ?_
          refine J.val (v := .bool xc) rfl rfl (V.mv rfl) ?_
          refine J.run rfl rfl rfl hc759 ?_
          refine J.val (v := .bool (!xc)) rfl rfl (V.not rfl) ?_
          refine J.run rfl rfl rfl hc759 ?_
          refine J.val (v := .bool (!xc)) rfl rfl (V.mv rfl) ?_
          refine J.cut 5 ?_
          obtain ⟨t770, ht771, ht758⟩ := ob ht758
          refine @J.meet _ _ _ _ _ _ _ _ _ _ (fun ρ K' L' => Fits [(55, .bool t770), (2, .bool xc), (3, .pointer (some ⟨b659, 0, none⟩)), (7, .pointer (some ⟨b730, 0, none⟩)), (47, .bool ((!t722) || (!decide (i721 = xb))))] ρ ∧ K715 = K' ∧ L' = Cl b730 24 [.slice ad723 l720.length cp724] :: Row Hp.nil 42 (.cons (.int .i64) (.one .bool)) (.slice ad723 l720.length cp724) l720 :: Cl b659 24 [.slice adxa_0 xa.length cpxa_0] :: F) ?_ ?_
          · skip
            rcases bt (!xc) with hc772 | hc772
            · have ht771 := ct hc772 ht771
              refine J.run rfl rfl rfl hc772 ?_
              refine J.val (v := .agg #[.slice ad723 l720.length cp724]) rfl rfl (V.ld rfl (Ld.agg (cs := [.slice ad723 l720.length cp724]) Try.underlying24 sz24 rfl (Rd.cls 0 0 rfl rfl))) ?_
              refine J.run rfl rfl rfl hc772 ?_
              refine J.val (v := .agg #[.slice adxa_0 xa.length cpxa_0]) rfl rfl (V.ld rfl (Ld.agg (cs := [.slice adxa_0 xa.length cpxa_0]) Try.underlying24 sz24 rfl (Rd.cls 2 0 rfl rfl))) ?_
              refine J.run rfl rfl rfl hc772 ?_
              obtain ⟨r773, hr774, ht771⟩ := ob ht771
              refine J.front 1 rfl ?_
              refine J.op rfl (A.call (L1 := [Row Hp.nil 42 (.cons (.int .i64) (.one .bool)) (.slice ad723 l720.length cp724) l720]) Try.call13 rfl (Tr.lend (Hp.nil_le _) (by decide) (fun K775 hK776 f777 => ref15_Same_ok f777 ((fxa_0.mono hK716).mono hK776) hr774)) rfl rfl) ?_
              rintro _ _ _ ⟨v779, _, rfl, ⟨⟨_, ⟨t778, rfl, rfl, rfl⟩, rfl⟩, rfl⟩, _, rfl⟩
              refine J.run rfl rfl rfl hc772 ?_
              refine J.val (v := .bool (!t778)) rfl rfl (V.not rfl) ?_
              refine J.run rfl rfl rfl hc759 ?_
              refine J.val (v := .bool (!t778)) rfl rfl (V.pickT rfl hc772 rfl) ?_
              refine J.front 2 rfl ?_
              refine J.front 1 rfl ?_
              refine J.front 2 rfl ?_
              refine J.nil ?_
              have e := Option.some.inj ht771
              subst e
              exact ⟨rfl, ⟨rfl, rfl, rfl, rfl, rfl, trivial⟩, rfl, rfl⟩
            · have ht771 := cf hc772 ht771
              refine J.skip rfl rfl rfl rfl hc772 ?_
              refine J.skip rfl rfl rfl rfl hc772 ?_
              refine J.skip rfl rfl rfl rfl hc772 ?_
              refine J.skip rfl rfl rfl rfl hc772 ?_
              refine J.run rfl rfl rfl hc759 ?_
              refine J.val (v := .bool false) rfl rfl (V.pickF rfl hc772 rfl) ?_
              refine J.nil ?_
              have e := Option.some.inj ht771
              subst e
              exact ⟨rfl, ⟨rfl, rfl, rfl, rfl, rfl, trivial⟩, rfl, rfl⟩
          · rintro ρ _ _ ⟨hf, rfl, rfl⟩
            obtain ⟨ρ, rfl⟩ := hf.ex
            refine J.val (v := .bool t770) rfl rfl (V.pickF rfl hc759 rfl) ?_
            refine J.nil ?_
            have e := Option.some.inj ht758
            subst e
            exact ⟨rfl, ⟨rfl, rfl, rfl, rfl, trivial⟩, rfl, rfl⟩
      · rintro ρ _ _ ⟨hf, rfl, rfl⟩
        obtain ⟨ρ, rfl⟩ := hf.ex
        refine J.val (v := .bool t757) rfl rfl (V.mv rfl) ?_
        refine J.cut 11 ?_
        refine @J.meet _ _ _ _ _ _ _ _ _ _ (fun ρ K' L' => Fits [(68, .bool (t757 || (xc && (!decide ((((l720.length : Nat) : Int)) = (((xa.length : Nat) : Int))))))), (3, .pointer (some ⟨b659, 0, none⟩))] ρ ∧ K715 = K' ∧ L' = Cl b730 24 [.slice ad723 l720.length cp724] :: Row Hp.nil 42 (.cons (.int .i64) (.one .bool)) (.slice ad723 l720.length cp724) l720 :: Cl b659 24 [.slice adxa_0 xa.length cpxa_0] :: F) ?_ ?_
        · skip
          rcases bt (t757) with hc787 | hc787
          · skip
            refine J.skip rfl rfl rfl rfl hc787 ?_
            refine J.skip rfl rfl rfl rfl hc787 ?_
            refine J.skipu rfl rfl rfl rfl ?_
            refine J.skipu rfl rfl rfl rfl ?_
            refine J.skipu rfl rfl rfl rfl ?_
            refine J.skipu rfl rfl rfl rfl ?_
            refine J.skipu rfl rfl rfl rfl ?_
            refine J.skipu rfl rfl rfl rfl ?_
            refine J.skipu rfl rfl rfl rfl ?_
            refine J.skip rfl rfl rfl rfl hc787 ?_
            refine J.val (v := .bool true) rfl rfl (V.pickT rfl hc787 rfl) ?_
            refine J.nil ?_
            exact ⟨rfl, ⟨(by simp only [hc787]; rfl), rfl, trivial⟩, rfl, rfl⟩
          · skip
            refine J.run rfl rfl rfl hc787 ?_
            refine J.val (v := .bool xc) rfl rfl (V.mv rfl) ?_
            refine J.run rfl rfl rfl hc787 ?_
            refine J.val (v := .bool xc) rfl rfl (V.mv rfl) ?_
            refine J.cut 8 ?_
            refine @J.meet _ _ _ _ _ _ _ _ _ _ (fun ρ K' L' => Fits [(67, .bool (xc && (!decide ((((l720.length : Nat) : Int)) = (((xa.length : Nat) : Int)))))), (3, .pointer (some ⟨b659, 0, none⟩)), (57, .bool t757)] ρ ∧ K715 = K' ∧ L' = Cl b730 24 [.slice ad723 l720.length cp724] :: Row Hp.nil 42 (.cons (.int .i64) (.one .bool)) (.slice ad723 l720.length cp724) l720 :: Cl b659 24 [.slice adxa_0 xa.length cpxa_0] :: F) ?_ ?_
            · skip
              rcases bt (xc) with hc790 | hc790
              · skip
                refine J.run rfl rfl rfl hc790 ?_
                refine J.val rfl rfl (V.fad Try.underlying24 rfl nz22 rfl) ?_
                refine J.run rfl rfl rfl hc790 ?_
                refine J.val (v := .slice ad723 l720.length cp724) rfl rfl (V.ld rfl (Ld.sc sc22 (Rd.cl 0 rfl rfl))) ?_
                refine J.run rfl rfl rfl hc790 ?_
                refine J.val (v := .int .i64 (((l720.length : Nat) : Int))) rfl rfl (V.len Try.underlying22 rfl) ?_
                refine J.run rfl rfl rfl hc790 ?_
                refine J.val rfl rfl (V.fad Try.underlying24 rfl nz22 rfl) ?_
                refine J.run rfl rfl rfl hc790 ?_
                refine J.val (v := .slice adxa_0 xa.length cpxa_0) rfl rfl (V.ld rfl (Ld.sc sc22 (Rd.cl 2 rfl rfl))) ?_
                refine J.run rfl rfl rfl hc790 ?_
                refine J.val (v := .int .i64 (((xa.length : Nat) : Int))) rfl rfl (V.len Try.underlying22 rfl) ?_
                refine J.run rfl rfl rfl hc790 ?_
                refine J.val (v := .bool (!decide ((((l720.length : Nat) : Int)) = (((xa.length : Nat) : Int))))) rfl rfl (V.neq rfl rfl) ?_
                refine J.run rfl rfl rfl hc787 ?_
                refine J.val (v := .bool (!decide ((((l720.length : Nat) : Int)) = (((xa.length : Nat) : Int))))) rfl rfl (V.pickT rfl hc790 rfl) ?_
                refine J.nil ?_
                exact ⟨rfl, ⟨(by simp only [hc790]; rfl), rfl, rfl, trivial⟩, rfl, rfl⟩
              · skip
                refine J.skip rfl rfl rfl rfl hc790 ?_
                refine J.skip rfl rfl rfl rfl hc790 ?_
                refine J.skip rfl rfl rfl rfl hc790 ?_
                refine J.skip rfl rfl rfl rfl hc790 ?_
                refine J.skip rfl rfl rfl rfl hc790 ?_
                refine J.skip rfl rfl rfl rfl hc790 ?_
                refine J.skip rfl rfl rfl rfl hc790 ?_
                refine J.run rfl rfl rfl hc787 ?_
                refine J.val (v := .bool false) rfl rfl (V.pickF rfl hc790 rfl) ?_
                refine J.nil ?_
                exact ⟨rfl, ⟨(by simp only [hc790]; rfl), rfl, rfl, trivial⟩, rfl, rfl⟩
            · rintro ρ _ _ ⟨hf, rfl, rfl⟩
              obtain ⟨ρ, rfl⟩ := hf.ex
              refine J.val (v := .bool (xc && (!decide ((((l720.length : Nat) : Int)) = (((xa.length : Nat) : Int)))))) rfl rfl (V.pickF rfl hc787 rfl) ?_
              refine J.nil ?_
              exact ⟨rfl, ⟨(by simp only [hc787]; rfl), rfl, trivial⟩, rfl, rfl⟩
        · rintro ρ _ _ ⟨hf, rfl, rfl⟩
          obtain ⟨ρ, rfl⟩ := hf.ex
          refine J.nil ?_
          refine CJ.cond rfl (fun hc791 => ?_) (fun hc791 => ?_)
          · have h := ct hc791 h
            refine CJ.seq ?_
            refine CJ.region ?_
            refine J.val (v := .bool false) rfl rfl (V.as rfl) ?_
            refine J.nil ?_
            refine CJ.ret ?_
            have e := Option.some.inj h
            subst e
            exact ⟨_, [], Res.one rfl rfl, ⟨false, rfl, rfl, rfl⟩, hK716, fun w hs => (Sep.dropAt 0 rfl (Sep.dropAt 0 rfl (Sep.dropAt 0 rfl hs)))⟩
          · have h := cf hc791 h
            refine CJ.skip ?_
            refine CJ.seq ?_
            refine CJ.region ?_
            refine J.op rfl (A.lit (K0 := Hp.nil) (ty := (.int .i64)) (xs := ([] : List Int)) Try.underlying32 inf3 rfl (by decide) rfl rfl rfl rfl rfl (by decide)) ?_
            rintro _ _ _ ⟨b792, rfl, rfl, rfl⟩
            have hn793 : ([] : List Int) ≠ [] → ∃ g, (some ⟨b792, 0, none⟩ : Option Addr) = some ⟨g, 0, none⟩ := fun _ => ⟨b792, rfl⟩
            refine J.op rfl (A.lit (K0 := Hp.nil) (ty := (.int .i64)) (xs := ([] : List Int)) Try.underlying32 inf3 rfl (by decide) rfl rfl rfl rfl rfl (by decide)) ?_
            rintro _ _ _ ⟨b795, rfl, rfl, rfl⟩
            have hn796 : ([] : List Int) ≠ [] → ∃ g, (some ⟨b795, 0, none⟩ : Option Addr) = some ⟨g, 0, none⟩ := fun _ => ⟨b795, rfl⟩
            refine J.val (v := .slice (some ⟨b792, 0, none⟩) (([] : List Int).length) 0) rfl rfl (V.as rfl) ?_
            refine J.val (v := .slice (some ⟨b795, 0, none⟩) (([] : List Int).length) 0) rfl rfl (V.as rfl) ?_
            refine J.nil ?_
            refine CJ.seq ?_
            refine CJ.seq ?_
            refine CJ.region ?_
            refine J.val (v := .int .i64 0) rfl rfl (V.as rfl) ?_
            refine J.nil ?_
            obtain ⟨o912, ho913, h⟩ := ob h
            refine CJ.meetN (fun ρ K' L' => ∃ (l902 : (List Int)) (l907 : (List Int)) (ad903 : Option Addr) (cp904 : Nat) (ad908 : Option Addr) (cp909 : Nat), (l902, l907) = o912 ∧ Fits [(3, .pointer (some ⟨b659, 0, none⟩)), (10, .slice ad903 l902.length cp904), (11, .slice ad908 l907.length cp909)] ρ ∧ K715 = K' ∧ L' = Cl b659 24 [.slice adxa_0 xa.length cpxa_0] :: Row Hp.nil 3 (.int .i64) (.slice ad903 l902.length cp904) l902 :: Row Hp.nil 3 (.int .i64) (.slice ad908 l907.length cp909) l907 :: F) ?_ ?_
            · skip
              refine CJ.block ?_
              refine CJ.dropAt 2 rfl ?_
              refine CJ.dropAt 2 rfl ?_
              refine CJ.front 1 rfl ?_
              refine CJ.front 2 rfl ?_
              refine CJ.loop (fun s ρ K' L' => ∃ (l954 : (List Int)) (l959 : (List Int)) (i964 : Int) (ad955 : Option Addr) (cp956 : Nat) (ad960 : Option Addr) (cp961 : Nat), (l954, l959, i964) = s ∧ Fits [(3, .pointer (some ⟨b659, 0, none⟩)), (10, .slice ad955 l954.length cp956), (11, .slice ad960 l959.length cp961), (12, .int .i64 i964)] ρ ∧ K715 = K' ∧ L' = Cl b659 24 [.slice adxa_0 xa.length cpxa_0] :: Row Hp.nil 3 (.int .i64) (.slice ad955 l954.length cp956) l954 :: Row Hp.nil 3 (.int .i64) (.slice ad960 l959.length cp961) l959 :: F) ho913 ⟨([] : List Int), ([] : List Int), 0, (some ⟨b792, 0, none⟩), 0, (some ⟨b795, 0, none⟩), 0, rfl, ⟨rfl, rfl, rfl, rfl, trivial⟩, rfl, rfl⟩ ?_
              rintro s ρ _ _ r998 ⟨l954, l959, i964, ad955, cp956, ad960, cp961, rfl, hf996, rfl, rfl⟩ h995
              obtain ⟨ρ, rfl⟩ := hf996.ex
              refine CJ.front 1 rfl ?_
              refine CJ.wit Row.hn (fun hn958 => ?_)
              refine CJ.front 2 rfl ?_
              refine CJ.wit Row.hn (fun hn963 => ?_)
              refine CJ.seq ?_
              refine CJ.seq ?_
              refine CJ.region ?_
              refine J.val (v := .int .i64 i964) rfl rfl (V.mv rfl) ?_
              refine J.val (v := .bool (decide (i964 < 40))) rfl rfl (V.lss rfl rfl) ?_
              refine J.nil ?_
              refine CJ.cond rfl (fun hc999 => ?_) (fun hc999 => ?_)
              · have h995 := ct hc999 h995
                refine CJ.skip ?_
                refine CJ.seq ?_
                refine CJ.block ?_
                refine CJ.seq ?_
                refine CJ.region ?_
                refine J.val (v := .slice ad955 l954.length cp956) rfl rfl (V.mv rfl) ?_
                refine J.val (v := .int .i64 i964) rfl rfl (V.mv rfl) ?_
                refine J.op rfl (A.lit (K0 := Hp.nil) (ty := (.int .i64)) (xs := ([i964] : List Int)) Try.underlying32 inf3 rfl (by decide) rfl rfl rfl ⟨_, _, rfl, rfl, rfl⟩ rfl (by decide)) ?_
                rintro _ _ _ ⟨b1000, rfl, rfl, rfl⟩
                have hn1001 : ([i964] : List Int) ≠ [] → ∃ g, (some ⟨b1000, 0, none⟩ : Option Addr) = some ⟨g, 0, none⟩ := fun _ => ⟨b1000, rfl⟩
                obtain ⟨z1003, hz1004, h995⟩ := ob h995
                refine J.front 2 rfl ?_
                refine J.op rfl (A.appR (Kr := Hp.nil) Try.underlying32 inf3 rfl rfl (by decide) (by decide) rfl rfl (Els.flat rfl) (Els.flat rfl) hz1004) ?_
                rintro _ _ _ ⟨v1005, rfl, rfl, rfl⟩
                refine J.wit Row.form ?_
                rintro ⟨ad1006, cp1007, rfl, _, _, hn1008⟩
                refine J.val (v := .slice ad1006 z1003.length cp1007) rfl rfl (V.as rfl) ?_
                refine J.nil ?_
                refine CJ.region ?_
                refine J.val (v := .slice ad960 l959.length cp961) rfl rfl (V.mv rfl) ?_
                refine J.val (v := .int .i64 i964) rfl rfl (V.mv rfl) ?_
                refine J.val (v := .int .i64 (IntKind.wrap .i64 (39 - i964))) rfl rfl (V.sub rfl rfl) ?_
                refine J.op rfl (A.lit (K0 := Hp.nil) (ty := (.int .i64)) (xs := ([IntKind.wrap .i64 (39 - i964)] : List Int)) Try.underlying32 inf3 rfl (by decide) rfl rfl rfl ⟨_, _, rfl, rfl, rfl⟩ rfl (by decide)) ?_
                rintro _ _ _ ⟨b1009, rfl, rfl, rfl⟩
                have hn1010 : ([IntKind.wrap .i64 (39 - i964)] : List Int) ≠ [] → ∃ g, (some ⟨b1009, 0, none⟩ : Option Addr) = some ⟨g, 0, none⟩ := fun _ => ⟨b1009, rfl⟩
                obtain ⟨z1012, hz1013, h995⟩ := ob h995
                refine J.front 2 rfl ?_
                refine J.op rfl (A.appR (Kr := Hp.nil) Try.underlying32 inf3 rfl rfl (by decide) (by decide) rfl rfl (Els.flat rfl) (Els.flat rfl) hz1013) ?_
                rintro _ _ _ ⟨v1014, rfl, rfl, rfl⟩
                refine J.wit Row.form ?_
                rintro ⟨ad1015, cp1016, rfl, _, _, hn1017⟩
                refine J.val (v := .slice ad1015 z1012.length cp1016) rfl rfl (V.as rfl) ?_
                refine J.nil ?_
                refine CJ.region ?_
                refine J.val (v := .int .i64 i964) rfl rfl (V.mv rfl) ?_
                refine J.val (v := .int .i64 (IntKind.wrap .i64 (i964 + 1))) rfl rfl (V.add rfl rfl) ?_
                refine J.val (v := .int .i64 (IntKind.wrap .i64 (i964 + 1))) rfl rfl (V.as rfl) ?_
                refine J.front 1 rfl ?_
                refine J.front 2 rfl ?_
                refine J.nil ?_
                have e := Option.some.inj h995
                subst e
                exact ⟨rfl, ⟨z1003, z1012, IntKind.wrap .i64 (i964 + 1), ad1006, cp1007, ad1015, cp1016, rfl, ⟨rfl, rfl, rfl, rfl, trivial⟩, rfl, rfl⟩⟩
              · have h995 := cf hc999 h995
                refine CJ.front 1 rfl ?_
                refine CJ.front 2 rfl ?_
                refine CJ.exit ?_
                have e := Option.some.inj h995
                subst e
                refine ⟨nofun, fun e => ?_⟩
                subst e
                exact ⟨rfl, ⟨l954, l959, ad955, cp956, ad960, cp961, rfl, ⟨rfl, rfl, rfl, trivial⟩, rfl, rfl⟩⟩
            · rintro ρ _ _ ⟨l902, l907, ad903, cp904, ad908, cp909, rfl, hf1018, rfl, rfl⟩
              obtain ⟨ρ, rfl⟩ := hf1018.ex
              refine PJ.front 1 rfl ?_
              refine PJ.wit Row.hn (fun hn906 => ?_)
              refine PJ.front 2 rfl ?_
              refine PJ.wit Row.hn (fun hn911 => ?_)
              refine PJ.done ?_
              refine CJ.seq ?_
              refine CJ.region ?_
              refine J.val (v := .agg #[.slice adxa_0 xa.length cpxa_0]) rfl rfl (V.ld rfl (Ld.agg (cs := [.slice adxa_0 xa.length cpxa_0]) Try.underlying24 sz24 rfl (Rd.cls 2 0 rfl rfl))) ?_
              refine J.val (v := .slice ad903 l902.length cp904) rfl rfl (V.mv rfl) ?_
              refine J.front 1 rfl ?_
              refine J.persist (Hp.nil_le _) (by decide) (fun K1020 hK1021 f1022 => ?_)
              obtain ⟨r1023, hr1024, h⟩ := ob h
              refine J.op rfl (A.call (L1 := []) Try.call20 rfl (row_Subst_ok (fxa_0.mono (hK716.trans hK1021)) f1022 hr1024) rfl rfl) ?_
              rintro _ _ _ ⟨v1030, _, rfl, ⟨⟨l1025, i1026, ad1027, cp1028, rfl, rfl, rfl⟩, rfl⟩, _, rfl⟩
              refine J.wit Row.hn (fun hn1029 => ?_)
              refine J.val (v := .tuple #[.agg #[.slice ad1027 l1025.length cp1028], .int .i64 i1026]) rfl rfl (V.mv rfl) ?_
              refine J.val (v := .agg #[.slice ad1027 l1025.length cp1028]) rfl rfl (V.ext rfl rfl) ?_
              refine J.val (v := .int .i64 i1026) rfl rfl (V.ext rfl rfl) ?_
              refine J.op rfl (A.alloc (cs := [.slice none 0 0]) inf24 rfl) ?_
              rintro _ _ _ ⟨b1034, rfl, rfl, rfl⟩
              refine J.op rfl (A.store (v := .agg #[.slice ad1027 l1025.length cp1028]) (cs' := [.slice ad1027 l1025.length cp1028]) sz24 rfl rfl rfl rfl rfl rfl) ?_
              rintro _ _ _ ⟨rfl, rfl, rfl⟩
              refine J.val (v := .int .i64 i1026) rfl rfl (V.as rfl) ?_
              refine J.nil ?_
              refine CJ.seq ?_
              refine CJ.region ?_
              refine J.val (v := .agg #[.slice adxa_0 xa.length cpxa_0]) rfl rfl (V.ld rfl (Ld.agg (cs := [.slice adxa_0 xa.length cpxa_0]) Try.underlying24 sz24 rfl (Rd.cls 3 0 rfl rfl))) ?_
              refine J.val (v := .slice ad908 l907.length cp909) rfl rfl (V.mv rfl) ?_
              refine J.front 2 rfl ?_
              refine J.persist (Hp.nil_le _) (by decide) (fun K1035 hK1036 f1037 => ?_)
              obtain ⟨r1038, hr1039, h⟩ := ob h
              refine J.op rfl (A.call (L1 := []) Try.call20 rfl (row_Subst_ok (fxa_0.mono ((hK716.trans hK1021).trans hK1036)) f1037 hr1039) rfl rfl) ?_
              rintro _ _ _ ⟨v1045, _, rfl, ⟨⟨l1040, i1041, ad1042, cp1043, rfl, rfl, rfl⟩, rfl⟩, _, rfl⟩
              refine J.wit Row.hn (fun hn1044 => ?_)
              refine J.val (v := .tuple #[.agg #[.slice ad1042 l1040.length cp1043], .int .i64 i1041]) rfl rfl (V.mv rfl) ?_
              refine J.val (v := .agg #[.slice ad1042 l1040.length cp1043]) rfl rfl (V.ext rfl rfl) ?_
              refine J.val (v := .int .i64 i1041) rfl rfl (V.ext rfl rfl) ?_
              refine J.op rfl (A.alloc (cs := [.slice none 0 0]) inf24 rfl) ?_
              rintro _ _ _ ⟨b1049, rfl, rfl, rfl⟩
              refine J.op rfl (A.store (v := .agg #[.slice ad1042 l1040.length cp1043]) (cs' := [.slice ad1042 l1040.length cp1043]) sz24 rfl rfl rfl rfl rfl rfl) ?_
              rintro _ _ _ ⟨rfl, rfl, rfl⟩
              refine J.val (v := .int .i64 i1041) rfl rfl (V.as rfl) ?_
              refine J.nil ?_
              refine CJ.seq ?_
              refine CJ.region ?_
              refine J.val (v := .agg #[.slice ad1042 l1040.length cp1043]) rfl rfl (V.ld rfl (Ld.agg (cs := [.slice ad1042 l1040.length cp1043]) Try.underlying24 sz24 rfl (Rd.cls 0 0 rfl rfl))) ?_
              refine J.val (v := .slice ad908 l907.length cp909) rfl rfl (V.mv rfl) ?_
              refine J.front 1 rfl ?_
              refine J.persist (Hp.nil_le _) (by decide) (fun K1050 hK1051 f1052 => ?_)
              obtain ⟨r1053, hr1054, h⟩ := ob h
              refine J.op rfl (A.call (L1 := []) Try.call20 rfl (row_Subst_ok f1052 (f1037.mono hK1051) hr1054) rfl rfl) ?_
              rintro _ _ _ ⟨v1060, _, rfl, ⟨⟨l1055, i1056, ad1057, cp1058, rfl, rfl, rfl⟩, rfl⟩, _, rfl⟩
              refine J.wit Row.hn (fun hn1059 => ?_)
              refine J.val (v := .tuple #[.agg #[.slice ad1057 l1055.length cp1058], .int .i64 i1056]) rfl rfl (V.mv rfl) ?_
              refine J.val (v := .agg #[.slice ad1057 l1055.length cp1058]) rfl rfl (V.ext rfl rfl) ?_
              refine J.val (v := .int .i64 i1056) rfl rfl (V.ext rfl rfl) ?_
              refine J.op rfl (A.alloc (cs := [.slice none 0 0]) inf24 rfl) ?_
              rintro _ _ _ ⟨b1064, rfl, rfl, rfl⟩
              refine J.op rfl (A.store (v := .agg #[.slice ad1057 l1055.length cp1058]) (cs' := [.slice ad1057 l1055.length cp1058]) sz24 rfl rfl rfl rfl rfl rfl) ?_
              rintro _ _ _ ⟨rfl, rfl, rfl⟩
              refine J.val (v := .int .i64 i1056) rfl rfl (V.as rfl) ?_
              refine J.nil ?_
              refine CJ.seq ?_
              refine CJ.seq ?_
              refine CJ.region ?_
              refine J.val (v := .int .i64 i1026) rfl rfl (V.mv rfl) ?_
              refine J.val (v := .bool (!decide (i1026 = 0))) rfl rfl (V.neq rfl rfl) ?_
              refine J.val (v := .bool (!decide (i1026 = 0))) rfl rfl (V.mv rfl) ?_
              refine J.cut 3 ?_
              refine @J.meet _ _ _ _ _ _ _ _ _ _ (fun ρ K' L' => Fits [(107, .bool ((!decide (i1026 = 0)) || (!decide (i1041 = 0)))), (3, .pointer (some ⟨b659, 0, none⟩)), (13, .pointer (some ⟨b1034, 0, none⟩)), (15, .pointer (some ⟨b1049, 0, none⟩)), (17, .pointer (some ⟨b1064, 0, none⟩)), (18, .int .i64 i1056)] ρ ∧ K1050 = K' ∧ L' = Cl b1064 24 [.slice ad1057 l1055.length cp1058] :: Row Hp.nil 42 (.cons (.int .i64) (.one .bool)) (.slice ad1057 l1055.length cp1058) l1055 :: Cl b1049 24 [.slice ad1042 l1040.length cp1043] :: Cl b1034 24 [.slice ad1027 l1025.length cp1028] :: Row Hp.nil 42 (.cons (.int .i64) (.one .bool)) (.slice ad1027 l1025.length cp1028) l1025 :: Cl b659 24 [.slice adxa_0 xa.length cpxa_0] :: F) ?_ ?_
              · skip
                rcases bt (!decide (i1026 = 0)) with hc1067 | hc1067
                · skip
                  refine J.skip rfl rfl rfl rfl hc1067 ?_
                  refine J.skip rfl rfl rfl rfl hc1067 ?_
                  refine J.val (v := .bool true) rfl rfl (V.pickT rfl hc1067 rfl) ?_
                  refine J.nil ?_
                  exact ⟨rfl, ⟨(by simp only [hc1067]; rfl), rfl, rfl, rfl, rfl, rfl, trivial⟩, rfl, rfl⟩
                · skip
                  refine J.run rfl rfl rfl hc1067 ?_
                  refine J.val (v := .int .i64 i1041) rfl rfl (V.mv rfl) ?_
                  refine J.run rfl rfl rfl hc1067 ?_
                  refine J.val (v := .bool (!decide (i1041 = 0))) rfl rfl (V.neq rfl rfl) ?_
                  refine J.val (v := .bool (!decide (i1041 = 0))) rfl rfl (V.pickF rfl hc1067 rfl) ?_
                  refine J.nil ?_
                  exact ⟨rfl, ⟨(by simp only [hc1067]; rfl), rfl, rfl, rfl, rfl, rfl, trivial⟩, rfl, rfl⟩
              · rintro ρ _ _ ⟨hf, rfl, rfl⟩
                obtain ⟨ρ, rfl⟩ := hf.ex
                refine J.val (v := .bool ((!decide (i1026 = 0)) || (!decide (i1041 = 0)))) rfl rfl (V.mv rfl) ?_
                refine J.cut 3 ?_
                refine @J.meet _ _ _ _ _ _ _ _ _ _ (fun ρ K' L' => Fits [(111, .bool (((!decide (i1026 = 0)) || (!decide (i1041 = 0))) || (!decide (i1056 = 0)))), (3, .pointer (some ⟨b659, 0, none⟩)), (13, .pointer (some ⟨b1034, 0, none⟩)), (15, .pointer (some ⟨b1049, 0, none⟩)), (17, .pointer (some ⟨b1064, 0, none⟩))] ρ ∧ K1050 = K' ∧ L' = Cl b1064 24 [.slice ad1057 l1055.length cp1058] :: Row Hp.nil 42 (.cons (.int .i64) (.one .bool)) (.slice ad1057 l1055.length cp1058) l1055 :: Cl b1049 24 [.slice ad1042 l1040.length cp1043] :: Cl b1034 24 [.slice ad1027 l1025.length cp1028] :: Row Hp.nil 42 (.cons (.int .i64) (.one .bool)) (.slice ad1027 l1025.length cp1028) l1025 :: Cl b659 24 [.slice adxa_0 xa.length cpxa_0] :: F) ?_ ?_
                · skip
                  rcases bt ((!decide (i1026 = 0)) || (!decide (i1041 = 0))) with hc1070 | hc1070
                  · skip
                    refine J.skip rfl rfl rfl rfl hc1070 ?_
                    refine J.skip rfl rfl rfl rfl hc1070 ?_
                    refine J.val (v := .bool true) rfl rfl (V.pickT rfl hc1070 rfl) ?_
                    refine J.nil ?_
                    exact ⟨rfl, ⟨(by simp only [hc1070]; rfl), rfl, rfl, rfl, rfl, trivial⟩, rfl, rfl⟩
                  · skip
                    refine J.run rfl rfl rfl hc1070 ?_
                    refine J.val (v := .int .i64 i1056) rfl rfl (V.mv rfl) ?_
                    refine J.run rfl rfl rfl hc1070 ?_
                    refine J.val (v := .bool (!decide (i1056 = 0))) rfl rfl (V.neq rfl rfl) ?_
                    refine J.val (v := .bool (!decide (i1056 = 0))) rfl rfl (V.pickF rfl hc1070 rfl) ?_
                    refine J.nil ?_
                    exact ⟨rfl, ⟨(by simp only [hc1070]; rfl), rfl, rfl, rfl, rfl, trivial⟩, rfl, rfl⟩
                · rintro ρ _ _ ⟨hf, rfl, rfl⟩
                  obtain ⟨ρ, rfl⟩ := hf.ex
                  refine J.val (v := .bool (((!decide (i1026 = 0)) || (!decide (i1041 = 0))) || (!decide (i1056 = 0)))) rfl rfl (V.mv rfl) ?_
                  refine J.cut 5 ?_
                  obtain ⟨t1081, ht1082, h⟩ := ob h
                  refine @J.meet _ _ _ _ _ _ _ _ _ _ (fun ρ K' L' => Fits [(117, .bool t1081), (3, .pointer (some ⟨b659, 0, none⟩)), (13, .pointer (some ⟨b1034, 0, none⟩)), (15, .pointer (some ⟨b1049, 0, none⟩)), (17, .pointer (some ⟨b1064, 0, none⟩))] ρ ∧ K1050 = K' ∧ L' = Cl b1064 24 [.slice ad1057 l1055.length cp1058] :: Row Hp.nil 42 (.cons (.int .i64) (.one .bool)) (.slice ad1057 l1055.length cp1058) l1055 :: Cl b1049 24 [.slice ad1042 l1040.length cp1043] :: Cl b1034 24 [.slice ad1027 l1025.length cp1028] :: Row Hp.nil 42 (.cons (.int .i64) (.one .bool)) (.slice ad1027 l1025.length cp1028) l1025 :: Cl b659 24 [.slice adxa_0 xa.length cpxa_0] :: F) ?_ ?_
                  · skip
                    rcases bt (((!decide (i1026 = 0)) || (!decide (i1041 = 0))) || (!decide (i1056 = 0))) with hc1083 | hc1083
                    · have ht1082 := ct hc1083 ht1082
                      refine J.skip rfl rfl rfl rfl hc1083 ?_
                      refine J.skip rfl rfl rfl rfl hc1083 ?_
                      refine J.skip rfl rfl rfl rfl hc1083 ?_
                      refine J.skip rfl rfl rfl rfl hc1083 ?_
                      refine J.val (v := .bool true) rfl rfl (V.pickT rfl hc1083 rfl) ?_
                      refine J.nil ?_
                      have e := Option.some.inj ht1082
                      subst e
                      exact ⟨rfl, ⟨rfl, rfl, rfl, rfl, rfl, trivial⟩, rfl, rfl⟩
                    · have ht1082 := cf hc1083 ht1082
                      refine J.run rfl rfl rfl hc1083 ?_
                      refine J.val (v := .agg #[.slice ad1027 l1025.length cp1028]) rfl rfl (V.ld rfl (Ld.agg (cs := [.slice ad1027 l1025.length cp1028]) Try.underlying24 sz24 rfl (Rd.cls 3 0 rfl rfl))) ?_
                      refine J.run rfl rfl rfl hc1083 ?_
                      refine J.val (v := .agg #[.slice adxa_0 xa.length cpxa_0]) rfl rfl (V.ld rfl (Ld.agg (cs := [.slice adxa_0 xa.length cpxa_0]) Try.underlying24 sz24 rfl (Rd.cls 5 0 rfl rfl))) ?_
                      refine J.run rfl rfl rfl hc1083 ?_
                      obtain ⟨r1084, hr1085, ht1082⟩ := ob ht1082
                      refine J.front 4 rfl ?_
                      refine J.op rfl (A.call (L1 := [Row Hp.nil 42 (.cons (.int .i64) (.one .bool)) (.slice ad1027 l1025.length cp1028) l1025]) Try.call13 rfl (Tr.lend (Hp.nil_le _) (by decide) (fun K1086 hK1087 f1088 => ref15_Same_ok f1088 ((fxa_0.mono (((hK716.trans hK1021).trans hK1036).trans hK1051)).mono hK1087) hr1085)) rfl rfl) ?_
                      rintro _ _ _ ⟨v1090, _, rfl, ⟨⟨_, ⟨t1089, rfl, rfl, rfl⟩, rfl⟩, rfl⟩, _, rfl⟩
                      refine J.run rfl rfl rfl hc1083 ?_
                      refine J.val (v := .bool (!t1089)) rfl rfl (V.not rfl) ?_
                      refine J.val (v := .bool (!t1089)) rfl rfl (V.pickF rfl hc1083 rfl) ?_
                      refine J.front 5 rfl ?_
                      refine J.front 1 rfl ?_
                      refine J.front 5 rfl ?_
                      refine J.front 5 rfl ?_
                      refine J.front 5 rfl ?_
                      refine J.front 5 rfl ?_
                      refine J.nil ?_
                      have e := Option.some.inj ht1082
                      subst e
                      exact ⟨rfl, ⟨rfl, rfl, rfl, rfl, rfl, trivial⟩, rfl, rfl⟩
                  · rintro ρ _ _ ⟨hf, rfl, rfl⟩
                    obtain ⟨ρ, rfl⟩ := hf.ex
                    refine J.val (v := .bool t1081) rfl rfl (V.mv rfl) ?_
                    refine J.cut 5 ?_
                    obtain ⟨t1100, ht1101, h⟩ := ob h
                    refine @J.meet _ _ _ _ _ _ _ _ _ _ (fun ρ K' L' => Fits [(123, .bool t1100), (3, .pointer (some ⟨b659, 0, none⟩)), (13, .pointer (some ⟨b1034, 0, none⟩)), (17, .pointer (some ⟨b1064, 0, none⟩))] ρ ∧ K1050 = K' ∧ L' = Cl b1064 24 [.slice ad1057 l1055.length cp1058] :: Row Hp.nil 42 (.cons (.int .i64) (.one .bool)) (.slice ad1057 l1055.length cp1058) l1055 :: Cl b1049 24 [.slice ad1042 l1040.length cp1043] :: Cl b1034 24 [.slice ad1027 l1025.length cp1028] :: Row Hp.nil 42 (.cons (.int .i64) (.one .bool)) (.slice ad1027 l1025.length cp1028) l1025 :: Cl b659 24 [.slice adxa_0 xa.length cpxa_0] :: F) ?_ ?_
                    · skip
                      rcases bt (t1081) with hc1102 | hc1102
                      · have ht1101 := ct hc1102 ht1101
                        refine J.skip rfl rfl rfl rfl hc1102 ?_
                        refine J.skip rfl rfl rfl rfl hc1102 ?_
                        refine J.skip rfl rfl rfl rfl hc1102 ?_
                        refine J.skip rfl rfl rfl rfl hc1102 ?_
                        refine J.val (v := .bool true) rfl rfl (V.pickT rfl hc1102 rfl) ?_
                        refine J.nil ?_
                        have e := Option.some.inj ht1101
                        subst e
                        exact ⟨rfl, ⟨rfl, rfl, rfl, rfl, trivial⟩, rfl, rfl⟩
                      · have ht1101 := cf hc1102 ht1101
                        refine J.run rfl rfl rfl hc1102 ?_
                        refine J.val (v := .agg #[.slice ad1042 l1040.length cp1043]) rfl rfl (V.ld rfl (Ld.agg (cs := [.slice ad1042 l1040.length cp1043]) Try.underlying24 sz24 rfl (Rd.cls 2 0 rfl rfl))) ?_
                        refine J.run rfl rfl rfl hc1102 ?_
                        refine J.val (v := .agg #[.slice adxa_0 xa.length cpxa_0]) rfl rfl (V.ld rfl (Ld.agg (cs := [.slice adxa_0 xa.length cpxa_0]) Try.underlying24 sz24 rfl (Rd.cls 5 0 rfl rfl))) ?_
                        refine J.run rfl rfl rfl hc1102 ?_
                        obtain ⟨r1103, hr1104, ht1101⟩ := ob ht1101
                        refine J.op rfl (A.call (L1 := []) Try.call10 rfl (row_Shape_ok f1052 (fxa_0.mono (((hK716.trans hK1021).trans hK1036).trans hK1051)) hr1104) rfl rfl) ?_
                        rintro _ _ _ ⟨v1106, _, rfl, ⟨⟨t1105, rfl, rfl, rfl⟩, rfl⟩, _, rfl⟩
                        refine J.run rfl rfl rfl hc1102 ?_
                        refine J.val (v := .bool (!t1105)) rfl rfl (V.not rfl) ?_
                        refine J.val (v := .bool (!t1105)) rfl rfl (V.pickF rfl hc1102 rfl) ?_
                        refine J.nil ?_
                        have e := Option.some.inj ht1101
                        subst e
                        exact ⟨rfl, ⟨rfl, rfl, rfl, rfl, trivial⟩, rfl, rfl⟩
                    · rintro ρ _ _ ⟨hf, rfl, rfl⟩
                      obtain ⟨ρ, rfl⟩ := hf.ex
                      refine J.val (v := .bool t1100) rfl rfl (V.mv rfl) ?_
                      refine J.cut 5 ?_
                      obtain ⟨t1119, ht1120, h⟩ := ob h
                      refine @J.meet _ _ _ _ _ _ _ _ _ _ (fun ρ K' L' => Fits [(129, .bool t1119), (3, .pointer (some ⟨b659, 0, none⟩)), (13, .pointer (some ⟨b1034, 0, none⟩))] ρ ∧ K1050 = K' ∧ L' = Cl b1064 24 [.slice ad1057 l1055.length cp1058] :: Row Hp.nil 42 (.cons (.int .i64) (.one .bool)) (.slice ad1057 l1055.length cp1058) l1055 :: Cl b1049 24 [.slice ad1042 l1040.length cp1043] :: Cl b1034 24 [.slice ad1027 l1025.length cp1028] :: Row Hp.nil 42 (.cons (.int .i64) (.one .bool)) (.slice ad1027 l1025.length cp1028) l1025 :: Cl b659 24 [.slice adxa_0 xa.length cpxa_0] :: F) ?_ ?_
                      · skip
                        rcases bt (t1100) with hc1121 | hc1121
                        · have ht1120 := ct hc1121 ht1120
                          refine J.skip rfl rfl rfl rfl hc1121 ?_
                          refine J.skip rfl rfl rfl rfl hc1121 ?_
                          refine J.skip rfl rfl rfl rfl hc1121 ?_
                          refine J.skip rfl rfl rfl rfl hc1121 ?_
                          refine J.val (v := .bool true) rfl rfl (V.pickT rfl hc1121 rfl) ?_
                          refine J.nil ?_
                          have e := Option.some.inj ht1120
                          subst e
                          exact ⟨rfl, ⟨rfl, rfl, rfl, trivial⟩, rfl, rfl⟩
                        · have ht1120 := cf hc1121 ht1120
                          refine J.run rfl rfl rfl hc1121 ?_
                          refine J.val (v := .agg #[.slice ad1057 l1055.length cp1058]) rfl rfl (V.ld rfl (Ld.agg (cs := [.slice ad1057 l1055.length cp1058]) Try.underlying24 sz24 rfl (Rd.cls 0 0 rfl rfl))) ?_
                          refine J.run rfl rfl rfl hc1121 ?_
                          refine J.val (v := .agg #[.slice adxa_0 xa.length cpxa_0]) rfl rfl (V.ld rfl (Ld.agg (cs := [.slice adxa_0 xa.length cpxa_0]) Try.underlying24 sz24 rfl (Rd.cls 5 0 rfl rfl))) ?_
                          refine J.run rfl rfl rfl hc1121 ?_
                          obtain ⟨r1122, hr1123, ht1120⟩ := ob ht1120
                          refine J.front 1 rfl ?_
                          refine J.op rfl (A.call (L1 := [Row Hp.nil 42 (.cons (.int .i64) (.one .bool)) (.slice ad1057 l1055.length cp1058) l1055]) Try.call13 rfl (Tr.lend (Hp.nil_le _) (by decide) (fun K1124 hK1125 f1126 => ref15_Same_ok f1126 ((fxa_0.mono (((hK716.trans hK1021).trans hK1036).trans hK1051)).mono hK1125) hr1123)) rfl rfl) ?_
                          rintro _ _ _ ⟨v1128, _, rfl, ⟨⟨_, ⟨t1127, rfl, rfl, rfl⟩, rfl⟩, rfl⟩, _, rfl⟩
                          refine J.run rfl rfl rfl hc1121 ?_
                          refine J.val (v := .bool (!t1127)) rfl rfl (V.not rfl) ?_
                          refine J.val (v := .bool (!t1127)) rfl rfl (V.pickF rfl hc1121 rfl) ?_
                          refine J.front 5 rfl ?_
                          refine J.front 5 rfl ?_
                          refine J.front 5 rfl ?_
                          refine J.front 5 rfl ?_
                          refine J.front 4 rfl ?_
                          refine J.front 5 rfl ?_
                          refine J.nil ?_
                          have e := Option.some.inj ht1120
                          subst e
                          exact ⟨rfl, ⟨rfl, rfl, rfl, trivial⟩, rfl, rfl⟩
                      · rintro ρ _ _ ⟨hf, rfl, rfl⟩
                        obtain ⟨ρ, rfl⟩ := hf.ex
                        refine J.nil ?_
                        refine CJ.cond rfl (fun hc1131 => ?_) (fun hc1131 => ?_)
                        · have h := ct hc1131 h
                          refine CJ.seq ?_
                          refine CJ.region ?_
                          refine J.val (v := .bool false) rfl rfl (V.as rfl) ?_
                          refine J.nil ?_
                          refine CJ.ret ?_
                          have e := Option.some.inj h
                          subst e
                          exact ⟨_, [], Res.one rfl rfl, ⟨false, rfl, rfl, rfl⟩, (((hK716.trans hK1021).trans hK1036).trans hK1051), fun w hs => (Sep.dropAt 0 rfl (Sep.dropAt 0 rfl (Sep.dropAt 0 rfl (Sep.dropAt 0 rfl (Sep.dropAt 0 rfl (Sep.dropAt 0 rfl hs))))))⟩
                        · have h := cf hc1131 h
                          refine CJ.skip ?_
                          refine CJ.seq ?_
                          refine CJ.region ?_
                          refine J.val (v := .agg #[.slice adxa_0 xa.length cpxa_0]) rfl rfl (V.ld rfl (Ld.agg (cs := [.slice adxa_0 xa.length cpxa_0]) Try.underlying24 sz24 rfl (Rd.cls 5 0 rfl rfl))) ?_
                          obtain ⟨r1132, hr1133, h⟩ := ob h
                          refine J.op rfl (A.call (L1 := []) Try.call14 rfl (row_Clone_ok (fxa_0.mono (((hK716.trans hK1021).trans hK1036).trans hK1051)) hr1133) rfl rfl) ?_
                          rintro _ _ _ ⟨v1138, _, rfl, ⟨⟨l1134, ad1135, cp1136, rfl, rfl, rfl⟩, rfl⟩, _, rfl⟩
                          refine J.wit Row.hn (fun hn1137 => ?_)
                          refine J.op rfl (A.alloc (cs := [.slice none 0 0]) inf24 rfl) ?_
                          rintro _ _ _ ⟨b1142, rfl, rfl, rfl⟩
                          refine J.op rfl (A.store (v := .agg #[.slice ad1135 l1134.length cp1136]) (cs' := [.slice ad1135 l1134.length cp1136]) sz24 rfl rfl rfl rfl rfl rfl) ?_
                          rintro _ _ _ ⟨rfl, rfl, rfl⟩
                          refine J.nil ?_
                          refine CJ.seq ?_
                          obtain ⟨o1217, ho1218, h⟩ := ob h
                          refine CJ.joinN (o := o1217) (fun s ρ K' L' => ∃ (l1212 : (List (Int × Bool))) (ad1213 : Option Addr) (cp1214 : Nat), l1212 = s ∧ Fits [(3, .pointer (some ⟨b659, 0, none⟩)), (13, .pointer (some ⟨b1034, 0, none⟩))] ρ ∧ K1050 = K' ∧ L' = Cl b659 24 [.slice adxa_0 xa.length cpxa_0] :: Cl b1034 24 [.slice ad1213 l1212.length cp1214] :: Row Hp.nil 42 (.cons (.int .i64) (.one .bool)) (.slice ad1213 l1212.length cp1214) l1212 :: F) ?_ ?_
                          · skip
                            refine CJ.seq ?_
                            refine CJ.region ?_
                            refine J.val rfl rfl (V.fad Try.underlying24 rfl nz22 rfl) ?_
                            refine J.val (v := .slice ad1135 l1134.length cp1136) rfl rfl (V.ld rfl (Ld.sc sc22 (Rd.cl 0 rfl rfl))) ?_
                            refine J.val (v := .int .i64 (((l1134.length : Nat) : Int))) rfl rfl (V.len Try.underlying22 rfl) ?_
                            refine J.val (v := .bool (decide (0 < (((l1134.length : Nat) : Int))))) rfl rfl (V.gtr rfl rfl) ?_
                            refine J.nil ?_
                            refine CJ.cond rfl (fun hc1219 => ?_) (fun hc1219 => ?_)
                            · have ho1218 := ct hc1219 ho1218
                              refine CJ.seq ?_
                              refine CJ.mix [Cl b1142 24 [.slice ad1135 l1134.length cp1136], Row Hp.nil 42 (.cons (.int .i64) (.one .bool)) (.slice ad1135 l1134.length cp1136) l1134, Cl b1064 24 [.slice ad1057 l1055.length cp1058], Row Hp.nil 42 (.cons (.int .i64) (.one .bool)) (.slice ad1057 l1055.length cp1058) l1055, Cl b1049 24 [.slice ad1042 l1040.length cp1043], Cl b1034 24 [.slice ad1027 l1025.length cp1028], Row Hp.nil 42 (.cons (.int .i64) (.one .bool)) (.slice ad1027 l1025.length cp1028) l1025, Cl b659 24 [.slice adxa_0 xa.length cpxa_0]] [] [0, 1, 2, 3, 4, 5, 6, 7, 8, 9] [10] mixO (by decide +kernel) ⟨0, rfl, 0, rfl, 0, rfl, 0, rfl, 0, rfl, 0, rfl, 0, rfl, 0, rfl, trivial⟩ rfl rfl rfl ?_
                              refine JM.nil ?_
                              refine JQ.val rfl rfl (V.fad Try.underlying24 rfl nz22 rfl) ?_
                              refine JQ.val (v := .slice ad1135 l1134.length cp1136) rfl rfl (V.ld rfl (Ld.sc sc22 (Rd.cl 0 rfl rfl))) ?_
                              refine JQ.val rfl rfl (V.fad Try.underlying24 rfl nz22 rfl) ?_
                              refine JQ.val (v := .slice ad1135 l1134.length cp1136) rfl rfl (V.ld rfl (Ld.sc sc22 (Rd.cl 0 rfl rfl))) ?_
                              obtain ⟨x1234, hx1235, ho1218⟩ := ob ho1218
                              obtain ⟨p1236, p1237, p1238⟩ := getI_some hx1235
                              obtain ⟨g1239, e1240⟩ := hn1137 (fun e => by rw [e] at p1237; simp at p1237)
                              refine JQ.val rfl rfl (V.iad Try.underlying22 sz42 rfl e1240 rfl p1236 p1238) ?_
                              refine JQ.val rfl rfl (V.fad Try.underlying42 rfl nz4 rfl) ?_
                              refine JQ.val (v := .bool x1234.2) rfl rfl (V.ld rfl (Ld.sc sc4 (Rd.row 1 rfl e1240 p1237 (q := 1) (by simp [Tp.size]) (by decide) (by rintro _ ⟨_, _, rfl, _, rfl, rfl⟩; rfl)))) ?_
                              refine JQ.val (v := .bool (!x1234.2)) rfl rfl (V.not rfl) ?_
                              obtain ⟨x1241, hx1242, ho1218⟩ := ob ho1218
                              obtain ⟨p1243, p1244, p1245⟩ := getI_some hx1242
                              obtain ⟨g1246, e1247⟩ := hn1137 (fun e => by rw [e] at p1244; simp at p1244)
                              refine JQ.val rfl rfl (V.iad Try.underlying22 sz42 rfl e1247 rfl p1243 p1245) ?_
                              refine JQ.val rfl rfl (V.fad Try.underlying42 rfl nz4 rfl) ?_
                              refine JQ.nil ?_
                              refine J.front 1 rfl ?_
                              obtain ⟨z1248, hz1249, ho1218⟩ := ob ho1218
                              have e1250 := Option.some.inj hz1249
                              have hl1251 : z1248.length = l1134.length := by rw [← e1250, List.length_set]
                              refine J.op rfl (A.storeR (ty := (.cons (.int .i64) (.one .bool))) (q := 1) (y0 := (x1241.1, !x1234.2)) (zs := z1248) sz4 rfl rfl rfl rfl e1247 p1244 (by simp [Tp.size]) (by decide) (by rintro _ ⟨_, _, rfl, _, rfl, rfl⟩; exact ⟨_, _, rfl, rfl, rfl, rfl⟩) e1250) ?_
                              rintro _ _ _ ⟨rfl, rfl, rfl⟩
                              have hn1252 : z1248 ≠ [] → _ := fun h => hn1137 (fun e => h (List.length_eq_zero_iff.1 (by rw [hl1251]; exact List.length_eq_zero_iff.2 e)))
                              refine J.nil ?_
                              refine CJ.seq ?_
                              refine CJ.region ?_
                              refine J.val (v := .agg #[.slice ad1135 l1134.length cp1136]) rfl rfl (V.ld rfl (Ld.agg (cs := [.slice ad1135 l1134.length cp1136]) Try.underlying24 sz24 rfl (Rd.cls 1 0 rfl rfl))) ?_
                              refine J.val (v := .agg #[.slice adxa_0 xa.length cpxa_0]) rfl rfl (V.ld rfl (Ld.agg (cs := [.slice adxa_0 xa.length cpxa_0]) Try.underlying24 sz24 rfl (Rd.cls 7 0 rfl rfl))) ?_
                              obtain ⟨r1253, hr1254, ho1218⟩ := ob ho1218
                              refine J.by (fun w hs => Sep.nrow hl1251.symm hs) ?_
                              refine J.op rfl (A.call (L1 := [Row Hp.nil 42 (.cons (.int .i64) (.one .bool)) (.slice ad1135 z1248.length cp1136) z1248]) Try.call12 rfl (Tr.lend (Hp.nil_le _) (by decide) (fun K1255 hK1256 f1257 => row_Same_ok f1257 ((fxa_0.mono (((hK716.trans hK1021).trans hK1036).trans hK1051)).mono hK1256) hr1254)) (by rw [hl1251]; first | done | rfl) rfl) ?_
                              rintro _ _ _ ⟨v1259, _, rfl, ⟨⟨_, ⟨t1258, rfl, rfl, rfl⟩, rfl⟩, rfl⟩, _, rfl⟩
                              have hl1262 := hl1251
                              refine J.by (fun w hs => Sep.nrow hl1262 hs) ?_
                              refine J.val (v := .bool t1258) rfl rfl (V.mv rfl) ?_
                              refine J.cut 4 ?_
                              obtain ⟨t1274, ht1275, ho1218⟩ := ob ho1218
                              refine @J.meet _ _ _ _ _ _ _ _ _ _ (fun ρ K' L' => Fits [(153, .bool t1274), (3, .pointer (some ⟨b659, 0, none⟩)), (13, .pointer (some ⟨b1034, 0, none⟩))] ρ ∧ K1050 = K' ∧ L' = Row Hp.nil 42 (.cons (.int .i64) (.one .bool)) (.slice ad1135 l1134.length cp1136) z1248 :: Cl b1142 24 [.slice ad1135 l1134.length cp1136] :: Cl b1064 24 [.slice ad1057 l1055.length cp1058] :: Row Hp.nil 42 (.cons (.int .i64) (.one .bool)) (.slice ad1057 l1055.length cp1058) l1055 :: Cl b1049 24 [.slice ad1042 l1040.length cp1043] :: Cl b1034 24 [.slice ad1027 l1025.length cp1028] :: Row Hp.nil 42 (.cons (.int .i64) (.one .bool)) (.slice ad1027 l1025.length cp1028) l1025 :: Cl b659 24 [.slice adxa_0 xa.length cpxa_0] :: F) ?_ ?_
                              · skip
                                rcases bt (t1258) with hc1276 | hc1276
                                · have ht1275 := ct hc1276 ht1275
                                  refine J.skip rfl rfl rfl rfl hc1276 ?_
                                  refine J.skip rfl rfl rfl rfl hc1276 ?_
                                  refine J.skip rfl rfl rfl rfl hc1276 ?_
                                  refine J.val (v := .bool true) rfl rfl (V.pickT rfl hc1276 rfl) ?_
                                  refine J.nil ?_
                                  have e := Option.some.inj ht1275
                                  subst e
                                  exact ⟨rfl, ⟨rfl, rfl, rfl, trivial⟩, rfl, rfl⟩
                                · have ht1275 := cf hc1276 ht1275
                                  refine J.run rfl rfl rfl hc1276 ?_
                                  refine J.val (v := .agg #[.slice ad1135 l1134.length cp1136]) rfl rfl (V.ld rfl (Ld.agg (cs := [.slice ad1135 l1134.length cp1136]) Try.underlying24 sz24 rfl (Rd.cls 1 0 rfl rfl))) ?_
                                  refine J.run rfl rfl rfl hc1276 ?_
                                  refine J.val (v := .agg #[.slice adxa_0 xa.length cpxa_0]) rfl rfl (V.ld rfl (Ld.agg (cs := [.slice adxa_0 xa.length cpxa_0]) Try.underlying24 sz24 rfl (Rd.cls 7 0 rfl rfl))) ?_
                                  refine J.run rfl rfl rfl hc1276 ?_
                                  obtain ⟨r1277, hr1278, ht1275⟩ := ob ht1275
                                  refine J.by (fun w hs => Sep.nrow hl1262.symm hs) ?_
                                  refine J.op rfl (A.call (L1 := [Row Hp.nil 42 (.cons (.int .i64) (.one .bool)) (.slice ad1135 z1248.length cp1136) z1248]) Try.call10 rfl (Tr.lend (Hp.nil_le _) (by decide) (fun K1279 hK1280 f1281 => row_Shape_ok f1281 ((fxa_0.mono (((hK716.trans hK1021).trans hK1036).trans hK1051)).mono hK1280) hr1278)) (by rw [hl1262]; first | done | rfl) rfl) ?_
                                  rintro _ _ _ ⟨v1283, _, rfl, ⟨⟨_, ⟨t1282, rfl, rfl, rfl⟩, rfl⟩, rfl⟩, _, rfl⟩
                                  have hl1286 := hl1262
                                  refine J.by (fun w hs => Sep.nrow hl1286 hs) ?_
                                  refine J.val (v := .bool t1282) rfl rfl (V.pickF rfl hc1276 rfl) ?_
                                  refine J.nil ?_
                                  have e := Option.some.inj ht1275
                                  subst e
                                  exact ⟨rfl, ⟨rfl, rfl, rfl, trivial⟩, rfl, rfl⟩
                              · rintro ρ _ _ ⟨hf, rfl, rfl⟩
                                obtain ⟨ρ, rfl⟩ := hf.ex
                                refine J.nil ?_
                                refine CJ.cond rfl (fun hc1287 => ?_) (fun hc1287 => ?_)
                                · have ho1218 := ct hc1287 ho1218
                                  refine CJ.seq ?_
                                  refine CJ.region ?_
                                  refine J.val (v := .bool false) rfl rfl (V.as rfl) ?_
                                  refine J.nil ?_
                                  refine CJ.ret ?_
                                  have e := Option.some.inj ho1218
                                  subst e
                                  refine .inr ⟨nofun, ?_⟩
                                  have e := Option.some.inj h
                                  subst e
                                  exact ⟨_, [], Res.one rfl rfl, ⟨false, rfl, rfl, rfl⟩, (((hK716.trans hK1021).trans hK1036).trans hK1051), fun w hs => (Sep.dropAt 0 rfl (Sep.dropAt 0 rfl (Sep.dropAt 0 rfl (Sep.dropAt 0 rfl (Sep.dropAt 0 rfl (Sep.dropAt 0 rfl (Sep.dropAt 0 rfl (Sep.dropAt 0 rfl hs))))))))⟩
                                · have ho1218 := cf hc1287 ho1218
                                  refine CJ.dropAt 0 rfl ?_
                                  refine CJ.dropAt 0 rfl ?_
                                  refine CJ.dropAt 0 rfl ?_
                                  refine CJ.dropAt 0 rfl ?_
                                  refine CJ.dropAt 0 rfl ?_
                                  refine CJ.front 1 rfl ?_
                                  refine CJ.front 1 rfl ?_
                                  refine CJ.front 2 rfl ?_
                                  refine CJ.skip ?_
                                  have e := Option.some.inj ho1218
                                  subst e
                                  exact .inl ⟨rfl, _, rfl, ⟨l1025, ad1027, cp1028, rfl, ⟨rfl, rfl, trivial⟩, rfl, rfl⟩⟩
                            · have ho1218 := cf hc1219 ho1218
                              refine CJ.dropAt 0 rfl ?_
                              refine CJ.dropAt 0 rfl ?_
                              refine CJ.dropAt 0 rfl ?_
                              refine CJ.dropAt 0 rfl ?_
                              refine CJ.dropAt 0 rfl ?_
                              refine CJ.front 1 rfl ?_
                              refine CJ.front 1 rfl ?_
                              refine CJ.front 2 rfl ?_
                              refine CJ.skip ?_
                              have e := Option.some.inj ho1218
                              subst e
                              exact .inl ⟨rfl, _, rfl, ⟨l1025, ad1027, cp1028, rfl, ⟨rfl, rfl, trivial⟩, rfl, rfl⟩⟩
                          · rintro s ρ _ _ ho1288 ⟨l1212, ad1213, cp1214, rfl, hf1289, rfl, rfl⟩
                            subst ho1288
                            obtain ⟨ρ, rfl⟩ := hf1289.ex
                            refine PJ.front 2 rfl ?_
                            refine PJ.wit Row.hn (fun hn1216 => ?_)
                            refine PJ.done ?_
                            refine CJ.seq ?_
                            refine CJ.region ?_
                            refine J.val (v := .agg #[.slice adxa_0 xa.length cpxa_0]) rfl rfl (V.ld rfl (Ld.agg (cs := [.slice adxa_0 xa.length cpxa_0]) Try.underlying24 sz24 rfl (Rd.cls 1 0 rfl rfl))) ?_
                            refine J.val (v := .agg #[.slice ad1213 l1212.length cp1214]) rfl rfl (V.ld rfl (Ld.agg (cs := [.slice ad1213 l1212.length cp1214]) Try.underlying24 sz24 rfl (Rd.cls 2 0 rfl rfl))) ?_
                            obtain ⟨r1291, hr1292, h⟩ := ob h
                            refine J.op rfl (A.call (L1 := [Row Hp.nil 42 (.cons (.int .i64) (.one .bool)) (.slice ad1213 l1212.length cp1214) l1212]) Try.call12 rfl (Tr.lend (Hp.nil_le _) (by decide) (fun K1293 hK1294 f1295 => row_Same_ok ((fxa_0.mono (((hK716.trans hK1021).trans hK1036).trans hK1051)).mono hK1294) f1295 hr1292)) rfl rfl) ?_
                            rintro _ _ _ ⟨v1297, _, rfl, ⟨⟨_, ⟨t1296, rfl, rfl, rfl⟩, rfl⟩, rfl⟩, _, rfl⟩
                            refine J.val (v := .bool t1296) rfl rfl (V.mv rfl) ?_
                            refine J.cut 2 ?_
                            obtain ⟨t1307, ht1308, h⟩ := ob h
                            refine @J.meet _ _ _ _ _ _ _ _ _ _ (fun ρ K' L' => Fits [(159, .bool t1307)] ρ ∧ K1050 = K' ∧ L' = Row Hp.nil 42 (.cons (.int .i64) (.one .bool)) (.slice ad1213 l1212.length cp1214) l1212 :: Cl b659 24 [.slice adxa_0 xa.length cpxa_0] :: Cl b1034 24 [.slice ad1213 l1212.length cp1214] :: F) ?_ ?_
                            · skip
                              rcases bt (t1296) with hc1309 | hc1309
                              · have ht1308 := ct hc1309 ht1308
                                refine J.run rfl rfl rfl hc1309 ?_
                                obtain ⟨r1310, hr1311, ht1308⟩ := ob ht1308
                                refine J.op rfl (A.call (L1 := []) Try.call7 rfl (law15_awake_ok hr1311) rfl rfl) ?_
                                rintro _ _ _ ⟨v1313, _, rfl, ⟨⟨t1312, rfl, rfl, rfl⟩, rfl⟩, _, rfl⟩
                                refine J.val (v := .bool t1312) rfl rfl (V.pickT rfl hc1309 rfl) ?_
                                refine J.nil ?_
                                have e := Option.some.inj ht1308
                                subst e
                                exact ⟨rfl, ⟨rfl, trivial⟩, rfl, rfl⟩
                              · have ht1308 := cf hc1309 ht1308
                                refine J.skip rfl rfl rfl rfl hc1309 ?_
                                refine J.val (v := .bool false) rfl rfl (V.pickF rfl hc1309 rfl) ?_
                                refine J.nil ?_
                                have e := Option.some.inj ht1308
                                subst e
                                exact ⟨rfl, ⟨rfl, trivial⟩, rfl, rfl⟩
                            · rintro ρ _ _ ⟨hf, rfl, rfl⟩
                              obtain ⟨ρ, rfl⟩ := hf.ex
                              refine J.val (v := .bool t1307) rfl rfl (V.as rfl) ?_
                              refine J.nil ?_
                              refine CJ.ret ?_
                              have e := Option.some.inj h
                              subst e
                              exact ⟨_, [], Res.one rfl rfl, ⟨t1307, rfl, rfl, rfl⟩, (((hK716.trans hK1021).trans hK1036).trans hK1051), fun w hs => (Sep.dropAt 0 rfl (Sep.dropAt 0 rfl (Sep.dropAt 0 rfl hs)))⟩
end Go.Proofs.Ytpoihacaljbaeaa
