/- What Go functions answer: generated. -/
import Derived.Test.YtjhgiaafaahbjaaF3
namespace Go.Proofs.Ytjhgiaafaahbjaa
open Go.RowKit
set_option linter.unusedVariables false
set_option linter.unnecessarySimpa false
set_option linter.unusedSimpArgs false
set_option maxRecDepth 20000

noncomputable def fn_law17_SigBack (xa : (Int × (List (Int × Int)) × (List (List (Int × Bool))) × (List (Int × Bool)))) (xb : (List UInt8)) : Option Bool :=
  (fn_ref17_Few (xa.1, xa.2.1, xa.2.2.1, xa.2.2.2)).bind fun t543 => cond ((!t543) || (decide (300 < (((xb.length : Nat) : Int))))) ((fn_law17_awake).bind fun t553 => some (t553)) ((fn_sig_Take xb).bind fun (i559, l560, l561, l562, i563, i564) => cond (decide (i564 = 0)) ((subL xb 0 i563).bind fun y600 => (fn_sig_Put (i559, l560, l561, l562)).bind fun s613 => cond (!decide (s613 = y600)) (some (false)) ((fn_ref17_Check (xa.1, xa.2.1, xa.2.2.1, xa.2.2.2)).bind fun i620 => cond (!decide (i620 = 0)) ((fn_law17_awake).bind fun t627 => some (t627)) ((fn_sig_Put (xa.1, xa.2.1, xa.2.2.1, xa.2.2.2)).bind fun s633 => (app s633 xb).bind fun z637 => (fn_sig_Take z637).bind fun (i641, l642, l643, l644, i645, i646) => (fn_sig_PutType xa.2.2.2).bind fun s665 => (app s665 xb).bind fun z669 => (fn_sig_TakeType z669).bind fun (l673, i674, i675) => (fn_sig_PutBounds xa.2.1).bind fun s686 => (app s686 xb).bind fun z690 => (fn_sig_TakeBounds z690 16).bind fun (l694, i695, i696) => (fn_ref17_Put (xa.1, xa.2.1, xa.2.2.1, xa.2.2.2)).bind fun s706 => (cond (((decide (s633 = s706)) && (decide (i646 = 0))) && (decide (i645 = (((s633.length : Nat) : Int))))) ((fn_ref17_Same (i641, l642, l643, l644) (xa.1, xa.2.1, xa.2.2.1, xa.2.2.2)).bind fun t746 => some (t746)) (some (false))).bind fun t732 => (cond (t732 && (decide (i675 = 0))) ((fn_ref17_PutType xa.2.2.2).bind fun s765 => some (decide (i674 = (((s765.length : Nat) : Int))))) (some (false))).bind fun t760 => (cond (t760) ((fn_ref15_Same l673 xa.2.2.2).bind fun t787 => some (t787)) (some (false))).bind fun t779 => (cond (t779 && (decide (i696 = 0))) ((fn_ref17_PutBounds xa.2.1).bind fun s806 => some (decide (i695 = (((s806.length : Nat) : Int))))) (some (false))).bind fun t801 => (cond (t801) ((fn_ref17_Bounds l694 xa.2.1).bind fun t828 => some (t828)) (some (false))).bind fun t820 => (cond (t820) ((fn_law17_awake).bind fun t844 => some (t844)) (some (false))).bind fun t839 => some (t839)))) ((fn_ref17_Check (xa.1, xa.2.1, xa.2.2.1, xa.2.2.2)).bind fun i850 => cond (!decide (i850 = 0)) ((fn_law17_awake).bind fun t857 => some (t857)) ((fn_sig_Put (xa.1, xa.2.1, xa.2.2.1, xa.2.2.2)).bind fun s863 => (app s863 xb).bind fun z867 => (fn_sig_Take z867).bind fun (i871, l872, l873, l874, i875, i876) => (fn_sig_PutType xa.2.2.2).bind fun s895 => (app s895 xb).bind fun z899 => (fn_sig_TakeType z899).bind fun (l903, i904, i905) => (fn_sig_PutBounds xa.2.1).bind fun s916 => (app s916 xb).bind fun z920 => (fn_sig_TakeBounds z920 16).bind fun (l924, i925, i926) => (fn_ref17_Put (xa.1, xa.2.1, xa.2.2.1, xa.2.2.2)).bind fun s936 => (cond (((decide (s863 = s936)) && (decide (i876 = 0))) && (decide (i875 = (((s863.length : Nat) : Int))))) ((fn_ref17_Same (i871, l872, l873, l874) (xa.1, xa.2.1, xa.2.2.1, xa.2.2.2)).bind fun t976 => some (t976)) (some (false))).bind fun t962 => (cond (t962 && (decide (i905 = 0))) ((fn_ref17_PutType xa.2.2.2).bind fun s995 => some (decide (i904 = (((s995.length : Nat) : Int))))) (some (false))).bind fun t990 => (cond (t990) ((fn_ref15_Same l903 xa.2.2.2).bind fun t1017 => some (t1017)) (some (false))).bind fun t1009 => (cond (t1009 && (decide (i926 = 0))) ((fn_ref17_PutBounds xa.2.1).bind fun s1036 => some (decide (i925 = (((s1036.length : Nat) : Int))))) (some (false))).bind fun t1031 => (cond (t1031) ((fn_ref17_Bounds l924 xa.2.1).bind fun t1058 => some (t1058)) (some (false))).bind fun t1050 => (cond (t1050) ((fn_law17_awake).bind fun t1074 => some (t1074)) (some (false))).bind fun t1069 => some (t1069))))
set_option maxRecDepth 100000 in
set_option maxHeartbeats 4000000 in
theorem law17_SigBack_ok {K : Hp} {xa : (Int × (List (Int × Int)) × (List (List (Int × Bool))) × (List (Int × Bool)))} {xb : (List UInt8)} {adxa_1 : Option Addr} {cpxa_1 : Nat} {adxa_2 : Option Addr} {cpxa_2 : Nat} {adxa_3 : Option Addr} {cpxa_3 : Nat} (fxa_1 : Is K (.sl (.cons (.int .i64) (.one (.int .i64)))) [.slice adxa_1 xa.2.1.length cpxa_1] xa.2.1) (fxa_2 : Is K (.sl (.one (.sl (.cons (.int .i64) (.one .bool))))) [.slice adxa_2 xa.2.2.1.length cpxa_2] xa.2.2.1) (fxa_3 : Is K (.sl (.cons (.int .i64) (.one .bool))) [.slice adxa_3 xa.2.2.2.length cpxa_3] xa.2.2.2) {r : Bool} (h : fn_law17_SigBack xa xb = some r) :
    Tr Try.prog 5 #[.agg #[.int .i64 xa.1, .slice adxa_1 xa.2.1.length cpxa_1, .slice adxa_2 xa.2.2.1.length cpxa_2, .slice adxa_3 xa.2.2.2.length cpxa_3], .string ⟨xb.toArray⟩] K [] (fun v K' L' => (∃ (t539 : Bool), t539 = r ∧ .bool t539 = v ∧ L' = []) ∧ K = K') := by
  refine Tr.k ?_
  refine Tr.of Try.func5 rfl Try.ntmps5 rfl (fun E F => ?_)
  unfold fn_law17_SigBack at h
  refine CJ.seq ?_
  refine CJ.region ?_
  refine J.op rfl (A.box (v := .agg #[.int .i64 xa.1, .slice adxa_1 xa.2.1.length cpxa_1, .slice adxa_2 xa.2.2.1.length cpxa_2, .slice adxa_3 xa.2.2.2.length cpxa_3]) (cs := [.int .i64 xa.1, .slice adxa_1 xa.2.1.length cpxa_1, .slice adxa_2 xa.2.2.1.length cpxa_2, .slice adxa_3 xa.2.2.2.length cpxa_3]) rfl rfl) ?_
  rintro _ _ _ ⟨b540, rfl, rfl, rfl⟩
  refine J.val (v := .bool false) rfl rfl (V.as rfl) ?_
  refine J.nil ?_
  refine CJ.seq ?_
  refine CJ.seq ?_
  refine CJ.region ?_
  refine J.val (v := .agg #[.int .i64 xa.1, .slice adxa_1 xa.2.1.length cpxa_1, .slice adxa_2 xa.2.2.1.length cpxa_2, .slice adxa_3 xa.2.2.2.length cpxa_3]) rfl rfl (V.ld rfl (Ld.agg (cs := [.int .i64 xa.1, .slice adxa_1 xa.2.1.length cpxa_1, .slice adxa_2 xa.2.2.1.length cpxa_2, .slice adxa_3 xa.2.2.2.length cpxa_3]) Try.underlying28 sz28 rfl (Rd.cls 0 0 rfl rfl))) ?_
  obtain ⟨r541, hr542, h⟩ := ob h
  refine J.op rfl (A.call (L1 := []) Try.call6 rfl (ref17_Few_ok fxa_1 fxa_2 fxa_3 hr542) rfl rfl) ?_
  rintro _ _ _ ⟨v544, _, rfl, ⟨⟨t543, rfl, rfl, rfl⟩, rfl⟩, _, rfl⟩
  refine J.val (v := .bool (!t543)) rfl rfl (V.not rfl) ?_
  refine J.val (v := .bool (!t543)) rfl rfl (V.mv rfl) ?_
  refine J.cut 4 ?_
  refine @J.meet _ _ _ _ _ _ _ _ _ _ (fun ρ K' L' => Fits [(25, .bool ((!t543) || (decide (300 < (((xb.length : Nat) : Int)))))), (1, .string ⟨xb.toArray⟩), (2, .pointer (some ⟨b540, 0, none⟩))] ρ ∧ K = K' ∧ L' = Cl b540 28 [.int .i64 xa.1, .slice adxa_1 xa.2.1.length cpxa_1, .slice adxa_2 xa.2.2.1.length cpxa_2, .slice adxa_3 xa.2.2.2.length cpxa_3] :: F) ?_ ?_
  · skip
    rcases bt (!t543) with hc549 | hc549
    · skip
      refine J.skip rfl rfl rfl rfl hc549 ?_
      refine J.skip rfl rfl rfl rfl hc549 ?_
      refine J.skip rfl rfl rfl rfl hc549 ?_
      refine J.val (v := .bool true) rfl rfl (V.pickT rfl hc549 rfl) ?_
      refine J.nil ?_
      exact ⟨rfl, ⟨(by simp only [hc549]; rfl), rfl, rfl, trivial⟩, rfl, rfl⟩
    · skip
      refine J.run rfl rfl rfl hc549 ?_
      refine J.val (v := .string ⟨xb.toArray⟩) rfl rfl (V.mv rfl) ?_
      refine J.run rfl rfl rfl hc549 ?_
      refine J.val (v := .int .i64 (((xb.length : Nat) : Int))) rfl rfl (V.lens Try.underlying9 rfl) ?_
      refine J.run rfl rfl rfl hc549 ?_
      refine J.val (v := .bool (decide (300 < (((xb.length : Nat) : Int))))) rfl rfl (V.gtr rfl rfl) ?_
      refine J.val (v := .bool (decide (300 < (((xb.length : Nat) : Int))))) rfl rfl (V.pickF rfl hc549 rfl) ?_
      refine J.nil ?_
      exact ⟨rfl, ⟨(by simp only [hc549]; rfl), rfl, rfl, trivial⟩, rfl, rfl⟩
  · rintro ρ _ _ ⟨hf, rfl, rfl⟩
    obtain ⟨ρ, rfl⟩ := hf.ex
    refine J.nil ?_
    refine CJ.cond rfl (fun hc550 => ?_) (fun hc550 => ?_)
    · have h := ct hc550 h
      refine CJ.seq ?_
      refine CJ.region ?_
      obtain ⟨r551, hr552, h⟩ := ob h
      refine J.op rfl (A.call (L1 := []) Try.call9 rfl (law17_awake_ok hr552) rfl rfl) ?_
      rintro _ _ _ ⟨v554, _, rfl, ⟨⟨t553, rfl, rfl, rfl⟩, rfl⟩, _, rfl⟩
      refine J.val (v := .bool t553) rfl rfl (V.as rfl) ?_
      refine J.nil ?_
      refine CJ.ret ?_
      have e := Option.some.inj h
      subst e
      exact ⟨_, [], Res.one rfl rfl, ⟨t553, rfl, rfl, rfl⟩, (Hp.le_refl _), fun w hs => (Sep.dropAt 0 rfl hs)⟩
    · have h := cf hc550 h
      refine CJ.skip ?_
      refine CJ.seq ?_
      refine CJ.region ?_
      refine J.val (v := .string ⟨xb.toArray⟩) rfl rfl (V.mv rfl) ?_
      obtain ⟨r557, hr558, h⟩ := ob h
      refine J.op rfl (A.call (L1 := []) Try.call20 rfl (sig_Take_ok hr558) rfl rfl) ?_
      rintro _ K575 _ ⟨v574, _, rfl, ⟨i559, l560, l561, l562, i563, i564, ad565, cp566, ad567, cp568, ad569, cp570, rfl, rfl, rfl⟩, hK576, rfl⟩
      refine J.wit Row.hn (fun hn571 => ?_)
      refine J.front 1 rfl ?_
      refine J.wit Row.hn (fun hn572 => ?_)
      refine J.front 2 rfl ?_
      refine J.wit Row.hn (fun hn573 => ?_)
      refine J.val (v := .tuple #[.agg #[.int .i64 i559, .slice ad565 l560.length cp566, .slice ad567 l561.length cp568, .slice ad569 l562.length cp570], .int .i64 i563, .int .i64 i564]) rfl rfl (V.mv rfl) ?_
      refine J.val (v := .agg #[.int .i64 i559, .slice ad565 l560.length cp566, .slice ad567 l561.length cp568, .slice ad569 l562.length cp570]) rfl rfl (V.ext rfl rfl) ?_
      refine J.val (v := .int .i64 i563) rfl rfl (V.ext rfl rfl) ?_
      refine J.val (v := .int .i64 i564) rfl rfl (V.ext rfl rfl) ?_
      refine J.op rfl (A.alloc (cs := [.int .i64 0, .slice none 0 0, .slice none 0 0, .slice none 0 0]) inf28 rfl) ?_
      rintro _ _ _ ⟨b580, rfl, rfl, rfl⟩
      refine J.op rfl (A.store (v := .agg #[.int .i64 i559, .slice ad565 l560.length cp566, .slice ad567 l561.length cp568, .slice ad569 l562.length cp570]) (cs' := [.int .i64 i559, .slice ad565 l560.length cp566, .slice ad567 l561.length cp568, .slice ad569 l562.length cp570]) sz28 rfl rfl rfl rfl rfl rfl) ?_
      rintro _ _ _ ⟨rfl, rfl, rfl⟩
      refine J.val (v := .int .i64 i563) rfl rfl (V.as rfl) ?_
      refine J.val (v := .int .i64 i564) rfl rfl (V.as rfl) ?_
      refine J.nil ?_
      refine CJ.seq ?_
      refine CJ.seq ?_
      refine CJ.mix [Cl b580 28 [.int .i64 i559, .slice ad565 l560.length cp566, .slice ad567 l561.length cp568, .slice ad569 l562.length cp570], Row Hp.nil 60 (.cons (.int .i64) (.one .bool)) (.slice ad569 l562.length cp570) l562, Row K575 26 (.one (.sl (.cons (.int .i64) (.one .bool)))) (.slice ad567 l561.length cp568) l561, Row Hp.nil 63 (.cons (.int .i64) (.one (.int .i64))) (.slice ad565 l560.length cp566) l560, Cl b540 28 [.int .i64 xa.1, .slice adxa_1 xa.2.1.length cpxa_1, .slice adxa_2 xa.2.2.1.length cpxa_2, .slice adxa_3 xa.2.2.2.length cpxa_3]] [([0, 1, 2, 3, 5, 6, 7], 4)] [8, 9] [] mixO (by decide +kernel) ⟨0, rfl, 0, rfl, 0, rfl, 0, rfl, 0, rfl, trivial⟩ rfl rfl rfl ?_
      refine JM.cons ?_
      refine JQ.val (v := .int .i64 i564) rfl rfl (V.mv rfl) ?_
      refine JQ.val (v := .bool (decide (i564 = 0))) rfl rfl (V.eql rfl rfl) ?_
      refine JQ.val (v := .bool (decide (i564 = 0))) rfl rfl (V.mv rfl) ?_
      rcases bt (decide (i564 = 0)) with hc599 | hc599
      · have h := ct hc599 h
        refine JQ.run rfl rfl rfl hc599 ?_
        refine JQ.val (v := .agg #[.int .i64 i559, .slice ad565 l560.length cp566, .slice ad567 l561.length cp568, .slice ad569 l562.length cp570]) rfl rfl (V.ld rfl (Ld.agg (cs := [.int .i64 i559, .slice ad565 l560.length cp566, .slice ad567 l561.length cp568, .slice ad569 l562.length cp570]) Try.underlying28 sz28 rfl (Rd.cls 0 0 rfl rfl))) ?_
        refine JQ.run rfl rfl rfl hc599 ?_
        refine JQ.val (v := .string ⟨xb.toArray⟩) rfl rfl (V.mv rfl) ?_
        refine JQ.run rfl rfl rfl hc599 ?_
        refine JQ.val (v := .int .i64 i563) rfl rfl (V.mv rfl) ?_
        refine JQ.run rfl rfl rfl hc599 ?_
        obtain ⟨y600, hy601, h⟩ := ob h
        refine JQ.val (v := .string ⟨y600.toArray⟩) rfl rfl (V.subs Try.underlying9 rfl nofun (fun _ => rfl) (fun _ h => by cases h; exact ⟨_, rfl⟩) nofun hy601) ?_
        refine JQ.nil ?_
        refine JA.run rfl rfl rfl hc599 ?_
        obtain ⟨r602, hr603, h⟩ := ob h
        refine JA.front 1 rfl ?_
        refine JA.front 2 rfl ?_
        refine JA.front 3 rfl ?_
        refine JA.op rfl (A.call (L1 := [Row Hp.nil 63 (.cons (.int .i64) (.one (.int .i64))) (.slice ad565 l560.length cp566) l560, Row K575 26 (.one (.sl (.cons (.int .i64) (.one .bool)))) (.slice ad567 l561.length cp568) l561, Row Hp.nil 60 (.cons (.int .i64) (.one .bool)) (.slice ad569 l562.length cp570) l562]) Try.call25 rfl (Tr.lend (Hp.nil_le _) (by decide) (fun K604 hK605 f606 => Tr.lend (Hp.le.trans (Hp.le_refl _) hK605) (by decide) (fun K607 hK608 f609 => Tr.lend (Hp.nil_le _) (by decide) (fun K610 hK611 f612 => sig_Put_ok ((f606.mono hK608).mono hK611) (f609.mono hK611) f612 hr603)))) rfl rfl) ?_
        rintro _ _ _ ⟨v614, _, rfl, ⟨⟨_, ⟨_, ⟨_, ⟨s613, rfl, rfl, rfl⟩, rfl⟩, rfl⟩, rfl⟩, rfl⟩, _, rfl⟩
        refine ⟨fun w hs => Hold.sub (Hp.le_refl _) ⟨3, rfl, 2, rfl, 1, rfl, 0, rfl, 0, rfl, trivial⟩ hs, ?_⟩
        refine JM.nil ?_
        refine JQ.run rfl rfl rfl hc599 ?_
        refine JQ.val (v := .bool (!decide (s613 = y600))) rfl rfl (V.nes rfl rfl) ?_
        refine JQ.val (v := .bool (!decide (s613 = y600))) rfl rfl (V.pickT rfl hc599 rfl) ?_
        refine JQ.nil ?_
        refine J.nil ?_
        refine CJ.cond rfl (fun hc617 => ?_) (fun hc617 => ?_)
        · have h := ct hc617 h
          refine CJ.seq ?_
          refine CJ.region ?_
          refine J.val (v := .bool false) rfl rfl (V.as rfl) ?_
          refine J.nil ?_
          refine CJ.ret ?_
          have e := Option.some.inj h
          subst e
          exact ⟨_, [], Res.one rfl rfl, ⟨false, rfl, rfl, rfl⟩, hK576, fun w hs => (Sep.dropAt 0 rfl (Sep.dropAt 0 rfl (Sep.dropAt 0 rfl (Sep.dropAt 0 rfl (Sep.dropAt 0 rfl hs)))))⟩
        · have h := cf hc617 h
          refine CJ.skip ?_
          refine CJ.seq ?_
          refine CJ.seq ?_
          refine CJ.region ?_
          refine J.val (v := .agg #[.int .i64 xa.1, .slice adxa_1 xa.2.1.length cpxa_1, .slice adxa_2 xa.2.2.1.length cpxa_2, .slice adxa_3 xa.2.2.2.length cpxa_3]) rfl rfl (V.ld rfl (Ld.agg (cs := [.int .i64 xa.1, .slice adxa_1 xa.2.1.length cpxa_1, .slice adxa_2 xa.2.2.1.length cpxa_2, .slice adxa_3 xa.2.2.2.length cpxa_3]) Try.underlying28 sz28 rfl (Rd.cls 4 0 rfl rfl))) ?_
          obtain ⟨r618, hr619, h⟩ := ob h
          refine J.op rfl (A.call (L1 := []) Try.call13 rfl (ref17_Check_ok (fxa_1.mono hK576) (fxa_2.mono hK576) (fxa_3.mono hK576) hr619) rfl rfl) ?_
          rintro _ _ _ ⟨v621, _, rfl, ⟨⟨i620, rfl, rfl, rfl⟩, rfl⟩, _, rfl⟩
          refine J.val (v := .bool (!decide (i620 = 0))) rfl rfl (V.neq rfl rfl) ?_
          refine J.nil ?_
          refine CJ.cond rfl (fun hc624 => ?_) (fun hc624 => ?_)
          · have h := ct hc624 h
            refine CJ.seq ?_
            refine CJ.region ?_
            obtain ⟨r625, hr626, h⟩ := ob h
            refine J.op rfl (A.call (L1 := []) Try.call9 rfl (law17_awake_ok hr626) rfl rfl) ?_
            rintro _ _ _ ⟨v628, _, rfl, ⟨⟨t627, rfl, rfl, rfl⟩, rfl⟩, _, rfl⟩
            refine J.val (v := .bool t627) rfl rfl (V.as rfl) ?_
            refine J.nil ?_
            refine CJ.ret ?_
            have e := Option.some.inj h
            subst e
            exact ⟨_, [], Res.one rfl rfl, ⟨t627, rfl, rfl, rfl⟩, hK576, fun w hs => (Sep.dropAt 0 rfl (Sep.dropAt 0 rfl (Sep.dropAt 0 rfl (Sep.dropAt 0 rfl (Sep.dropAt 0 rfl hs)))))⟩
          · have h := cf hc624 h
            refine CJ.skip ?_
            refine CJ.seq ?_
            refine CJ.region ?_
            refine J.val (v := .agg #[.int .i64 xa.1, .slice adxa_1 xa.2.1.length cpxa_1, .slice adxa_2 xa.2.2.1.length cpxa_2, .slice adxa_3 xa.2.2.2.length cpxa_3]) rfl rfl (V.ld rfl (Ld.agg (cs := [.int .i64 xa.1, .slice adxa_1 xa.2.1.length cpxa_1, .slice adxa_2 xa.2.2.1.length cpxa_2, .slice adxa_3 xa.2.2.2.length cpxa_3]) Try.underlying28 sz28 rfl (Rd.cls 4 0 rfl rfl))) ?_
            obtain ⟨r631, hr632, h⟩ := ob h
            refine J.op rfl (A.call (L1 := []) Try.call25 rfl (sig_Put_ok (fxa_1.mono hK576) (fxa_2.mono hK576) (fxa_3.mono hK576) hr632) rfl rfl) ?_
            rintro _ _ _ ⟨v634, _, rfl, ⟨⟨s633, rfl, rfl, rfl⟩, rfl⟩, _, rfl⟩
            refine J.val (v := .string ⟨s633.toArray⟩) rfl rfl (V.as rfl) ?_
            refine J.nil ?_
            refine CJ.seq ?_
            refine CJ.region ?_
            refine J.val (v := .string ⟨s633.toArray⟩) rfl rfl (V.mv rfl) ?_
            refine J.val (v := .string ⟨xb.toArray⟩) rfl rfl (V.mv rfl) ?_
            obtain ⟨z637, hz638, h⟩ := ob h
            refine J.val (v := .string ⟨z637.toArray⟩) rfl rfl (V.cat rfl rfl hz638) ?_
            obtain ⟨r639, hr640, h⟩ := ob h
            refine J.op rfl (A.call (L1 := []) Try.call20 rfl (sig_Take_ok hr640) rfl rfl) ?_
            rintro _ K657 _ ⟨v656, _, rfl, ⟨i641, l642, l643, l644, i645, i646, ad647, cp648, ad649, cp650, ad651, cp652, rfl, rfl, rfl⟩, hK658, rfl⟩
            refine J.wit Row.hn (fun hn653 => ?_)
            refine J.front 1 rfl ?_
            refine J.wit Row.hn (fun hn654 => ?_)
            refine J.front 2 rfl ?_
            refine J.wit Row.hn (fun hn655 => ?_)
            refine J.val (v := .tuple #[.agg #[.int .i64 i641, .slice ad647 l642.length cp648, .slice ad649 l643.length cp650, .slice ad651 l644.length cp652], .int .i64 i645, .int .i64 i646]) rfl rfl (V.mv rfl) ?_
            refine J.val (v := .agg #[.int .i64 i641, .slice ad647 l642.length cp648, .slice ad649 l643.length cp650, .slice ad651 l644.length cp652]) rfl rfl (V.ext rfl rfl) ?_
            refine J.val (v := .int .i64 i645) rfl rfl (V.ext rfl rfl) ?_
            refine J.val (v := .int .i64 i646) rfl rfl (V.ext rfl rfl) ?_
            refine J.op rfl (A.alloc (cs := [.int .i64 0, .slice none 0 0, .slice none 0 0, .slice none 0 0]) inf28 rfl) ?_
            rintro _ _ _ ⟨b662, rfl, rfl, rfl⟩
            refine J.op rfl (A.store (v := .agg #[.int .i64 i641, .slice ad647 l642.length cp648, .slice ad649 l643.length cp650, .slice ad651 l644.length cp652]) (cs' := [.int .i64 i641, .slice ad647 l642.length cp648, .slice ad649 l643.length cp650, .slice ad651 l644.length cp652]) sz28 rfl rfl rfl rfl rfl rfl) ?_
            rintro _ _ _ ⟨rfl, rfl, rfl⟩
            refine J.val (v := .int .i64 i645) rfl rfl (V.as rfl) ?_
            refine J.val (v := .int .i64 i646) rfl rfl (V.as rfl) ?_
            refine J.nil ?_
            refine CJ.seq ?_
            refine CJ.region ?_
            refine J.val rfl rfl (V.fad Try.underlying28 rfl nz26 rfl) ?_
            refine J.val (v := .agg #[.slice adxa_3 xa.2.2.2.length cpxa_3]) rfl rfl (V.ld rfl (Ld.agg (cs := [.slice adxa_3 xa.2.2.2.length cpxa_3]) Try.underlying26 sz26 rfl (Rd.cls 8 3 rfl rfl))) ?_
            obtain ⟨r663, hr664, h⟩ := ob h
            refine J.op rfl (A.call (L1 := []) Try.call26 rfl (sig_PutType_ok (fxa_3.mono (hK576.trans hK658)) hr664) rfl rfl) ?_
            rintro _ _ _ ⟨v666, _, rfl, ⟨⟨s665, rfl, rfl, rfl⟩, rfl⟩, _, rfl⟩
            refine J.val (v := .string ⟨xb.toArray⟩) rfl rfl (V.mv rfl) ?_
            obtain ⟨z669, hz670, h⟩ := ob h
            refine J.val (v := .string ⟨z669.toArray⟩) rfl rfl (V.cat rfl rfl hz670) ?_
            obtain ⟨r671, hr672, h⟩ := ob h
            refine J.op rfl (A.call (L1 := []) Try.call16 rfl (sig_TakeType_ok hr672) rfl rfl) ?_
            rintro _ _ _ ⟨v679, _, rfl, ⟨⟨l673, i674, i675, ad676, cp677, rfl, rfl, rfl⟩, rfl⟩, _, rfl⟩
            refine J.wit Row.hn (fun hn678 => ?_)
            refine J.val (v := .tuple #[.agg #[.slice ad676 l673.length cp677], .int .i64 i674, .int .i64 i675]) rfl rfl (V.mv rfl) ?_
            refine J.val (v := .agg #[.slice ad676 l673.length cp677]) rfl rfl (V.ext rfl rfl) ?_
            refine J.val (v := .int .i64 i674) rfl rfl (V.ext rfl rfl) ?_
            refine J.val (v := .int .i64 i675) rfl rfl (V.ext rfl rfl) ?_
            refine J.op rfl (A.alloc (cs := [.slice none 0 0]) inf26 rfl) ?_
            rintro _ _ _ ⟨b683, rfl, rfl, rfl⟩
            refine J.op rfl (A.store (v := .agg #[.slice ad676 l673.length cp677]) (cs' := [.slice ad676 l673.length cp677]) sz26 rfl rfl rfl rfl rfl rfl) ?_
            rintro _ _ _ ⟨rfl, rfl, rfl⟩
            refine J.val (v := .int .i64 i674) rfl rfl (V.as rfl) ?_
            refine J.val (v := .int .i64 i675) rfl rfl (V.as rfl) ?_
            refine J.nil ?_
            refine CJ.seq ?_
            refine CJ.region ?_
            refine J.val rfl rfl (V.fad Try.underlying28 rfl nz22 rfl) ?_
            refine J.val (v := .slice adxa_1 xa.2.1.length cpxa_1) rfl rfl (V.ld rfl (Ld.sc sc22 (Rd.cl 10 rfl rfl))) ?_
            obtain ⟨r684, hr685, h⟩ := ob h
            refine J.op rfl (A.call (L1 := []) Try.call27 rfl (sig_PutBounds_ok (fxa_1.mono (hK576.trans hK658)) hr685) rfl rfl) ?_
            rintro _ _ _ ⟨v687, _, rfl, ⟨⟨s686, rfl, rfl, rfl⟩, rfl⟩, _, rfl⟩
            refine J.val (v := .string ⟨xb.toArray⟩) rfl rfl (V.mv rfl) ?_
            obtain ⟨z690, hz691, h⟩ := ob h
            refine J.val (v := .string ⟨z690.toArray⟩) rfl rfl (V.cat rfl rfl hz691) ?_
            obtain ⟨r692, hr693, h⟩ := ob h
            refine J.op rfl (A.call (L1 := []) Try.call18 rfl (sig_TakeBounds_ok hr693) rfl rfl) ?_
            rintro _ _ _ ⟨v700, _, rfl, ⟨⟨l694, i695, i696, ad697, cp698, rfl, rfl, rfl⟩, rfl⟩, _, rfl⟩
            refine J.wit Row.hn (fun hn699 => ?_)
            refine J.val (v := .tuple #[.slice ad697 l694.length cp698, .int .i64 i695, .int .i64 i696]) rfl rfl (V.mv rfl) ?_
            refine J.val (v := .slice ad697 l694.length cp698) rfl rfl (V.ext rfl rfl) ?_
            refine J.val (v := .int .i64 i695) rfl rfl (V.ext rfl rfl) ?_
            refine J.val (v := .int .i64 i696) rfl rfl (V.ext rfl rfl) ?_
            refine J.val (v := .slice ad697 l694.length cp698) rfl rfl (V.as rfl) ?_
            refine J.val (v := .int .i64 i695) rfl rfl (V.as rfl) ?_
            refine J.val (v := .int .i64 i696) rfl rfl (V.as rfl) ?_
            refine J.nil ?_
            refine CJ.seq ?_
            refine CJ.region ?_
            refine J.val (v := .string ⟨s633.toArray⟩) rfl rfl (V.mv rfl) ?_
            refine J.val (v := .agg #[.int .i64 xa.1, .slice adxa_1 xa.2.1.length cpxa_1, .slice adxa_2 xa.2.2.1.length cpxa_2, .slice adxa_3 xa.2.2.2.length cpxa_3]) rfl rfl (V.ld rfl (Ld.agg (cs := [.int .i64 xa.1, .slice adxa_1 xa.2.1.length cpxa_1, .slice adxa_2 xa.2.2.1.length cpxa_2, .slice adxa_3 xa.2.2.2.length cpxa_3]) Try.underlying28 sz28 rfl (Rd.cls 11 0 rfl rfl))) ?_
            obtain ⟨r704, hr705, h⟩ := ob h
            refine J.op rfl (A.call (L1 := []) Try.call28 rfl (ref17_Put_ok (fxa_1.mono (hK576.trans hK658)) (fxa_2.mono (hK576.trans hK658)) (fxa_3.mono (hK576.trans hK658)) hr705) rfl rfl) ?_
            rintro _ _ _ ⟨v707, _, rfl, ⟨⟨s706, rfl, rfl, rfl⟩, rfl⟩, _, rfl⟩
            refine J.val (v := .bool (decide (s633 = s706))) rfl rfl (V.eqs rfl rfl) ?_
            refine J.val (v := .bool (decide (s633 = s706))) rfl rfl (V.mv rfl) ?_
            refine J.cut 3 ?_
            refine @J.meet _ _ _ _ _ _ _ _ _ _ (fun ρ K' L' => Fits [(84, .bool ((decide (s633 = s706)) && (decide (i646 = 0)))), (2, .pointer (some ⟨b540, 0, none⟩)), (8, .string ⟨s633.toArray⟩), (9, .pointer (some ⟨b662, 0, none⟩)), (10, .int .i64 i645), (12, .pointer (some ⟨b683, 0, none⟩)), (13, .int .i64 i674), (14, .int .i64 i675), (15, .slice ad697 l694.length cp698), (16, .int .i64 i695), (17, .int .i64 i696)] ρ ∧ K657 = K' ∧ L' = Row Hp.nil 63 (.cons (.int .i64) (.one (.int .i64))) (.slice ad697 l694.length cp698) l694 :: Cl b683 26 [.slice ad676 l673.length cp677] :: Row Hp.nil 60 (.cons (.int .i64) (.one .bool)) (.slice ad676 l673.length cp677) l673 :: Cl b662 28 [.int .i64 i641, .slice ad647 l642.length cp648, .slice ad649 l643.length cp650, .slice ad651 l644.length cp652] :: Row Hp.nil 60 (.cons (.int .i64) (.one .bool)) (.slice ad651 l644.length cp652) l644 :: Row K657 26 (.one (.sl (.cons (.int .i64) (.one .bool)))) (.slice ad649 l643.length cp650) l643 :: Row Hp.nil 63 (.cons (.int .i64) (.one (.int .i64))) (.slice ad647 l642.length cp648) l642 :: Row Hp.nil 63 (.cons (.int .i64) (.one (.int .i64))) (.slice ad565 l560.length cp566) l560 :: Row K575 26 (.one (.sl (.cons (.int .i64) (.one .bool)))) (.slice ad567 l561.length cp568) l561 :: Row Hp.nil 60 (.cons (.int .i64) (.one .bool)) (.slice ad569 l562.length cp570) l562 :: Cl b580 28 [.int .i64 i559, .slice ad565 l560.length cp566, .slice ad567 l561.length cp568, .slice ad569 l562.length cp570] :: Cl b540 28 [.int .i64 xa.1, .slice adxa_1 xa.2.1.length cpxa_1, .slice adxa_2 xa.2.2.1.length cpxa_2, .slice adxa_3 xa.2.2.2.length cpxa_3] :: F) ?_ ?_
            · skip
              rcases bt (decide (s633 = s706)) with hc712 | hc712
              · skip
                refine J.run rfl rfl rfl hc712 ?_
                refine J.val (v := .int .i64 i646) rfl rfl (V.mv rfl) ?_
                refine J.run rfl rfl rfl hc712 ?_
                refine J.val (v := .bool (decide (i646 = 0))) rfl rfl (V.eql rfl rfl) ?_
                refine J.val (v := .bool (decide (i646 = 0))) rfl rfl (V.pickT rfl hc712 rfl) ?_
                refine J.nil ?_
                exact ⟨rfl, ⟨(by simp only [hc712]; rfl), rfl, rfl, rfl, rfl, rfl, rfl, rfl, rfl, rfl, rfl, trivial⟩, rfl, rfl⟩
              · skip
                refine J.skip rfl rfl rfl rfl hc712 ?_
                refine J.skip rfl rfl rfl rfl hc712 ?_
                refine J.val (v := .bool false) rfl rfl (V.pickF rfl hc712 rfl) ?_
                refine J.nil ?_
                exact ⟨rfl, ⟨(by simp only [hc712]; rfl), rfl, rfl, rfl, rfl, rfl, rfl, rfl, rfl, rfl, rfl, trivial⟩, rfl, rfl⟩
            · rintro ρ _ _ ⟨hf, rfl, rfl⟩
              obtain ⟨ρ, rfl⟩ := hf.ex
              refine J.val (v := .bool ((decide (s633 = s706)) && (decide (i646 = 0)))) rfl rfl (V.mv rfl) ?_
              refine J.cut 5 ?_
              refine @J.meet _ _ _ _ _ _ _ _ _ _ (fun ρ K' L' => Fits [(90, .bool (((decide (s633 = s706)) && (decide (i646 = 0))) && (decide (i645 = (((s633.length : Nat) : Int)))))), (2, .pointer (some ⟨b540, 0, none⟩)), (9, .pointer (some ⟨b662, 0, none⟩)), (12, .pointer (some ⟨b683, 0, none⟩)), (13, .int .i64 i674), (14, .int .i64 i675), (15, .slice ad697 l694.length cp698), (16, .int .i64 i695), (17, .int .i64 i696)] ρ ∧ K657 = K' ∧ L' = Row Hp.nil 63 (.cons (.int .i64) (.one (.int .i64))) (.slice ad697 l694.length cp698) l694 :: Cl b683 26 [.slice ad676 l673.length cp677] :: Row Hp.nil 60 (.cons (.int .i64) (.one .bool)) (.slice ad676 l673.length cp677) l673 :: Cl b662 28 [.int .i64 i641, .slice ad647 l642.length cp648, .slice ad649 l643.length cp650, .slice ad651 l644.length cp652] :: Row Hp.nil 60 (.cons (.int .i64) (.one .bool)) (.slice ad651 l644.length cp652) l644 :: Row K657 26 (.one (.sl (.cons (.int .i64) (.one .bool)))) (.slice ad649 l643.length cp650) l643 :: Row Hp.nil 63 (.cons (.int .i64) (.one (.int .i64))) (.slice ad647 l642.length cp648) l642 :: Row Hp.nil 63 (.cons (.int .i64) (.one (.int .i64))) (.slice ad565 l560.length cp566) l560 :: Row K575 26 (.one (.sl (.cons (.int .i64) (.one .bool)))) (.slice ad567 l561.length cp568) l561 :: Row Hp.nil 60 (.cons (.int .i64) (.one .bool)) (.slice ad569 l562.length cp570) l562 :: Cl b580 28 [.int .i64 i559, .slice ad565 l560.length cp566, .slice ad567 l561.length cp568, .slice ad569 l562.length cp570] :: Cl b540 28 [.int .i64 xa.1, .slice adxa_1 xa.2.1.length cpxa_1, .slice adxa_2 xa.2.2.1.length cpxa_2, .slice adxa_3 xa.2.2.2.length cpxa_3] :: F) ?_ ?_
              · skip
                rcases bt ((decide (s633 = s706)) && (decide (i646 = 0))) with hc715 | hc715
                · skip
                  refine J.run rfl rfl rfl hc715 ?_
                  refine J.val (v := .int .i64 i645) rfl rfl (V.mv rfl) ?_
                  refine J.run rfl rfl rfl hc715 ?_
                  refine J.val (v := .string ⟨s633.toArray⟩) rfl rfl (V.mv rfl) ?_
                  refine J.run rfl rfl rfl hc715 ?_
                  refine J.val (v := .int .i64 (((s633.length : Nat) : Int))) rfl rfl (V.lens Try.underlying9 rfl) ?_
                  refine J.run rfl rfl rfl hc715 ?_
                  refine J.val (v := .bool (decide (i645 = (((s633.length : Nat) : Int))))) rfl rfl (V.eql rfl rfl) ?_
                  refine J.val (v := .bool (decide (i645 = (((s633.length : Nat) : Int))))) rfl rfl (V.pickT rfl hc715 rfl) ?_
                  refine J.nil ?_
                  exact ⟨rfl, ⟨(by simp only [hc715]; rfl), rfl, rfl, rfl, rfl, rfl, rfl, rfl, rfl, trivial⟩, rfl, rfl⟩
                · skip
                  refine J.skip rfl rfl rfl rfl hc715 ?_
                  refine J.skip rfl rfl rfl rfl hc715 ?_
                  refine J.skip rfl rfl rfl rfl hc715 ?_
                  refine J.skip rfl rfl rfl rfl hc715 ?_
                  refine J.val (v := .bool false) rfl rfl (V.pickF rfl hc715 rfl) ?_
                  refine J.nil ?_
                  exact ⟨rfl, ⟨(by simp only [hc715]; rfl), rfl, rfl, rfl, rfl, rfl, rfl, rfl, rfl, trivial⟩, rfl, rfl⟩
              · rintro ρ _ _ ⟨hf, rfl, rfl⟩
                obtain ⟨ρ, rfl⟩ := hf.ex
                refine J.val (v := .bool (((decide (s633 = s706)) && (decide (i646 = 0))) && (decide (i645 = (((s633.length : Nat) : Int)))))) rfl rfl (V.mv rfl) ?_
                refine J.cut 4 ?_
                obtain ⟨t732, ht733, h⟩ := ob h
                refine @J.meet _ _ _ _ _ _ _ _ _ _ (fun ρ K' L' => Fits [(95, .bool t732), (2, .pointer (some ⟨b540, 0, none⟩)), (12, .pointer (some ⟨b683, 0, none⟩)), (13, .int .i64 i674), (14, .int .i64 i675), (15, .slice ad697 l694.length cp698), (16, .int .i64 i695), (17, .int .i64 i696)] ρ ∧ K657 = K' ∧ L' = Row Hp.nil 63 (.cons (.int .i64) (.one (.int .i64))) (.slice ad697 l694.length cp698) l694 :: Cl b683 26 [.slice ad676 l673.length cp677] :: Row Hp.nil 60 (.cons (.int .i64) (.one .bool)) (.slice ad676 l673.length cp677) l673 :: Cl b662 28 [.int .i64 i641, .slice ad647 l642.length cp648, .slice ad649 l643.length cp650, .slice ad651 l644.length cp652] :: Row Hp.nil 60 (.cons (.int .i64) (.one .bool)) (.slice ad651 l644.length cp652) l644 :: Row K657 26 (.one (.sl (.cons (.int .i64) (.one .bool)))) (.slice ad649 l643.length cp650) l643 :: Row Hp.nil 63 (.cons (.int .i64) (.one (.int .i64))) (.slice ad647 l642.length cp648) l642 :: Row Hp.nil 63 (.cons (.int .i64) (.one (.int .i64))) (.slice ad565 l560.length cp566) l560 :: Row K575 26 (.one (.sl (.cons (.int .i64) (.one .bool)))) (.slice ad567 l561.length cp568) l561 :: Row Hp.nil 60 (.cons (.int .i64) (.one .bool)) (.slice ad569 l562.length cp570) l562 :: Cl b580 28 [.int .i64 i559, .slice ad565 l560.length cp566, .slice ad567 l561.length cp568, .slice ad569 l562.length cp570] :: Cl b540 28 [.int .i64 xa.1, .slice adxa_1 xa.2.1.length cpxa_1, .slice adxa_2 xa.2.2.1.length cpxa_2, .slice adxa_3 xa.2.2.2.length cpxa_3] :: F) ?_ ?_
                · skip
                  rcases bt (((decide (s633 = s706)) && (decide (i646 = 0))) && (decide (i645 = (((s633.length : Nat) : Int))))) with hc734 | hc734
                  · have ht733 := ct hc734 ht733
                    refine J.run rfl rfl rfl hc734 ?_
                    refine J.val (v := .agg #[.int .i64 i641, .slice ad647 l642.length cp648, .slice ad649 l643.length cp650, .slice ad651 l644.length cp652]) rfl rfl (V.ld rfl (Ld.agg (cs := [.int .i64 i641, .slice ad647 l642.length cp648, .slice ad649 l643.length cp650, .slice ad651 l644.length cp652]) Try.underlying28 sz28 rfl (Rd.cls 3 0 rfl rfl))) ?_
                    refine J.run rfl rfl rfl hc734 ?_
                    refine J.val (v := .agg #[.int .i64 xa.1, .slice adxa_1 xa.2.1.length cpxa_1, .slice adxa_2 xa.2.2.1.length cpxa_2, .slice adxa_3 xa.2.2.2.length cpxa_3]) rfl rfl (V.ld rfl (Ld.agg (cs := [.int .i64 xa.1, .slice adxa_1 xa.2.1.length cpxa_1, .slice adxa_2 xa.2.2.1.length cpxa_2, .slice adxa_3 xa.2.2.2.length cpxa_3]) Try.underlying28 sz28 rfl (Rd.cls 11 0 rfl rfl))) ?_
                    refine J.run rfl rfl rfl hc734 ?_
                    obtain ⟨r735, hr736, ht733⟩ := ob ht733
                    refine J.front 4 rfl ?_
                    refine J.front 5 rfl ?_
                    refine J.front 6 rfl ?_
                    refine J.op rfl (A.call (L1 := [Row Hp.nil 63 (.cons (.int .i64) (.one (.int .i64))) (.slice ad647 l642.length cp648) l642, Row K657 26 (.one (.sl (.cons (.int .i64) (.one .bool)))) (.slice ad649 l643.length cp650) l643, Row Hp.nil 60 (.cons (.int .i64) (.one .bool)) (.slice ad651 l644.length cp652) l644]) Try.call24 rfl (Tr.lend (Hp.nil_le _) (by decide) (fun K737 hK738 f739 => Tr.lend (Hp.le.trans (Hp.le_refl _) hK738) (by decide) (fun K740 hK741 f742 => Tr.lend (Hp.nil_le _) (by decide) (fun K743 hK744 f745 => ref17_Same_ok ((f739.mono hK741).mono hK744) (f742.mono hK744) f745 ((((fxa_1.mono (hK576.trans hK658)).mono hK738).mono hK741).mono hK744) ((((fxa_2.mono (hK576.trans hK658)).mono hK738).mono hK741).mono hK744) ((((fxa_3.mono (hK576.trans hK658)).mono hK738).mono hK741).mono hK744) hr736)))) rfl rfl) ?_
                    rintro _ _ _ ⟨v747, _, rfl, ⟨⟨_, ⟨_, ⟨_, ⟨t746, rfl, rfl, rfl⟩, rfl⟩, rfl⟩, rfl⟩, rfl⟩, _, rfl⟩
                    refine J.val (v := .bool t746) rfl rfl (V.pickT rfl hc734 rfl) ?_
                    refine J.front 11 rfl ?_
                    refine J.front 11 rfl ?_
                    refine J.front 11 rfl ?_
                    refine J.front 11 rfl ?_
                    refine J.front 11 rfl ?_
                    refine J.front 5 rfl ?_
                    refine J.front 6 rfl ?_
                    refine J.front 7 rfl ?_
                    refine J.front 11 rfl ?_
                    refine J.front 11 rfl ?_
                    refine J.front 11 rfl ?_
                    refine J.front 11 rfl ?_
                    refine J.nil ?_
                    have e := Option.some.inj ht733
                    subst e
                    exact ⟨rfl, ⟨rfl, rfl, rfl, rfl, rfl, rfl, rfl, rfl, trivial⟩, rfl, rfl⟩
                  · have ht733 := cf hc734 ht733
                    refine J.skip rfl rfl rfl rfl hc734 ?_
                    refine J.skip rfl rfl rfl rfl hc734 ?_
                    refine J.skip rfl rfl rfl rfl hc734 ?_
                    refine J.val (v := .bool false) rfl rfl (V.pickF rfl hc734 rfl) ?_
                    refine J.nil ?_
                    have e := Option.some.inj ht733
                    subst e
                    exact ⟨rfl, ⟨rfl, rfl, rfl, rfl, rfl, rfl, rfl, rfl, trivial⟩, rfl, rfl⟩
                · rintro ρ _ _ ⟨hf, rfl, rfl⟩
                  obtain ⟨ρ, rfl⟩ := hf.ex
                  refine J.val (v := .bool t732) rfl rfl (V.mv rfl) ?_
                  refine J.cut 3 ?_
                  refine @J.meet _ _ _ _ _ _ _ _ _ _ (fun ρ K' L' => Fits [(99, .bool (t732 && (decide (i675 = 0)))), (2, .pointer (some ⟨b540, 0, none⟩)), (12, .pointer (some ⟨b683, 0, none⟩)), (13, .int .i64 i674), (15, .slice ad697 l694.length cp698), (16, .int .i64 i695), (17, .int .i64 i696)] ρ ∧ K657 = K' ∧ L' = Row Hp.nil 63 (.cons (.int .i64) (.one (.int .i64))) (.slice ad697 l694.length cp698) l694 :: Cl b683 26 [.slice ad676 l673.length cp677] :: Row Hp.nil 60 (.cons (.int .i64) (.one .bool)) (.slice ad676 l673.length cp677) l673 :: Cl b662 28 [.int .i64 i641, .slice ad647 l642.length cp648, .slice ad649 l643.length cp650, .slice ad651 l644.length cp652] :: Row Hp.nil 60 (.cons (.int .i64) (.one .bool)) (.slice ad651 l644.length cp652) l644 :: Row K657 26 (.one (.sl (.cons (.int .i64) (.one .bool)))) (.slice ad649 l643.length cp650) l643 :: Row Hp.nil 63 (.cons (.int .i64) (.one (.int .i64))) (.slice ad647 l642.length cp648) l642 :: Row Hp.nil 63 (.cons (.int .i64) (.one (.int .i64))) (.slice ad565 l560.length cp566) l560 :: Row K575 26 (.one (.sl (.cons (.int .i64) (.one .bool)))) (.slice ad567 l561.length cp568) l561 :: Row Hp.nil 60 (.cons (.int .i64) (.one .bool)) (.slice ad569 l562.length cp570) l562 :: Cl b580 28 [.int .i64 i559, .slice ad565 l560.length cp566, .slice ad567 l561.length cp568, .slice ad569 l562.length cp570] :: Cl b540 28 [.int .i64 xa.1, .slice adxa_1 xa.2.1.length cpxa_1, .slice adxa_2 xa.2.2.1.length cpxa_2, .slice adxa_3 xa.2.2.2.length cpxa_3] :: F) ?_ ?_
                  · skip
                    rcases bt (t732) with hc752 | hc752
                    · skip
                      refine J.run rfl rfl rfl hc752 ?_
                      refine J.val (v := .int .i64 i675) rfl rfl (V.mv rfl) ?_
                      refine J.run rfl rfl rfl hc752 ?_
                      refine J.val (v := .bool (decide (i675 = 0))) rfl rfl (V.eql rfl rfl) ?_
                      refine J.val (v := .bool (decide (i675 = 0))) rfl rfl (V.pickT rfl hc752 rfl) ?_
                      refine J.nil ?_
                      exact ⟨rfl, ⟨(by simp only [hc752]; rfl), rfl, rfl, rfl, rfl, rfl, rfl, trivial⟩, rfl, rfl⟩
                    · skip
                      refine J.skip rfl rfl rfl rfl hc752 ?_
                      refine J.skip rfl rfl rfl rfl hc752 ?_
                      refine J.val (v := .bool false) rfl rfl (V.pickF rfl hc752 rfl) ?_
                      refine J.nil ?_
                      exact ⟨rfl, ⟨(by simp only [hc752]; rfl), rfl, rfl, rfl, rfl, rfl, rfl, trivial⟩, rfl, rfl⟩
                  · rintro ρ _ _ ⟨hf, rfl, rfl⟩
                    obtain ⟨ρ, rfl⟩ := hf.ex
                    refine J.val (v := .bool (t732 && (decide (i675 = 0)))) rfl rfl (V.mv rfl) ?_
                    refine J.cut 7 ?_
                    obtain ⟨t760, ht761, h⟩ := ob h
                    refine @J.meet _ _ _ _ _ _ _ _ _ _ (fun ρ K' L' => Fits [(107, .bool t760), (2, .pointer (some ⟨b540, 0, none⟩)), (12, .pointer (some ⟨b683, 0, none⟩)), (15, .slice ad697 l694.length cp698), (16, .int .i64 i695), (17, .int .i64 i696)] ρ ∧ K657 = K' ∧ L' = Row Hp.nil 63 (.cons (.int .i64) (.one (.int .i64))) (.slice ad697 l694.length cp698) l694 :: Cl b683 26 [.slice ad676 l673.length cp677] :: Row Hp.nil 60 (.cons (.int .i64) (.one .bool)) (.slice ad676 l673.length cp677) l673 :: Cl b662 28 [.int .i64 i641, .slice ad647 l642.length cp648, .slice ad649 l643.length cp650, .slice ad651 l644.length cp652] :: Row Hp.nil 60 (.cons (.int .i64) (.one .bool)) (.slice ad651 l644.length cp652) l644 :: Row K657 26 (.one (.sl (.cons (.int .i64) (.one .bool)))) (.slice ad649 l643.length cp650) l643 :: Row Hp.nil 63 (.cons (.int .i64) (.one (.int .i64))) (.slice ad647 l642.length cp648) l642 :: Row Hp.nil 63 (.cons (.int .i64) (.one (.int .i64))) (.slice ad565 l560.length cp566) l560 :: Row K575 26 (.one (.sl (.cons (.int .i64) (.one .bool)))) (.slice ad567 l561.length cp568) l561 :: Row Hp.nil 60 (.cons (.int .i64) (.one .bool)) (.slice ad569 l562.length cp570) l562 :: Cl b580 28 [.int .i64 i559, .slice ad565 l560.length cp566, .slice ad567 l561.length cp568, .slice ad569 l562.length cp570] :: Cl b540 28 [.int .i64 xa.1, .slice adxa_1 xa.2.1.length cpxa_1, .slice adxa_2 xa.2.2.1.length cpxa_2, .slice adxa_3 xa.2.2.2.length cpxa_3] :: F) ?_ ?_
                    · skip
                      rcases bt (t732 && (decide (i675 = 0))) with hc762 | hc762
                      · have ht761 := ct hc762 ht761
                        refine J.run rfl rfl rfl hc762 ?_
                        refine J.val (v := .int .i64 i674) rfl rfl (V.mv rfl) ?_
                        refine J.run rfl rfl rfl hc762 ?_
                        refine J.val rfl rfl (V.fad Try.underlying28 rfl nz26 rfl) ?_
                        refine J.run rfl rfl rfl hc762 ?_
                        refine J.val (v := .agg #[.slice adxa_3 xa.2.2.2.length cpxa_3]) rfl rfl (V.ld rfl (Ld.agg (cs := [.slice adxa_3 xa.2.2.2.length cpxa_3]) Try.underlying26 sz26 rfl (Rd.cls 11 3 rfl rfl))) ?_
                        refine J.run rfl rfl rfl hc762 ?_
                        obtain ⟨r763, hr764, ht761⟩ := ob ht761
                        refine J.op rfl (A.call (L1 := []) Try.call29 rfl (ref17_PutType_ok (fxa_3.mono (hK576.trans hK658)) hr764) rfl rfl) ?_
                        rintro _ _ _ ⟨v766, _, rfl, ⟨⟨s765, rfl, rfl, rfl⟩, rfl⟩, _, rfl⟩
                        refine J.run rfl rfl rfl hc762 ?_
                        refine J.val (v := .int .i64 (((s765.length : Nat) : Int))) rfl rfl (V.lens Try.underlying9 rfl) ?_
                        refine J.run rfl rfl rfl hc762 ?_
                        refine J.val (v := .bool (decide (i674 = (((s765.length : Nat) : Int))))) rfl rfl (V.eql rfl rfl) ?_
                        refine J.val (v := .bool (decide (i674 = (((s765.length : Nat) : Int))))) rfl rfl (V.pickT rfl hc762 rfl) ?_
                        refine J.nil ?_
                        have e := Option.some.inj ht761
                        subst e
                        exact ⟨rfl, ⟨rfl, rfl, rfl, rfl, rfl, rfl, trivial⟩, rfl, rfl⟩
                      · have ht761 := cf hc762 ht761
                        refine J.skip rfl rfl rfl rfl hc762 ?_
                        refine J.skip rfl rfl rfl rfl hc762 ?_
                        refine J.skip rfl rfl rfl rfl hc762 ?_
                        refine J.skip rfl rfl rfl rfl hc762 ?_
                        refine J.skip rfl rfl rfl rfl hc762 ?_
                        refine J.skip rfl rfl rfl rfl hc762 ?_
                        refine J.val (v := .bool false) rfl rfl (V.pickF rfl hc762 rfl) ?_
                        refine J.nil ?_
                        have e := Option.some.inj ht761
                        subst e
                        exact ⟨rfl, ⟨rfl, rfl, rfl, rfl, rfl, rfl, trivial⟩, rfl, rfl⟩
                    · rintro ρ _ _ ⟨hf, rfl, rfl⟩
                      obtain ⟨ρ, rfl⟩ := hf.ex
                      refine J.val (v := .bool t760) rfl rfl (V.mv rfl) ?_
                      refine J.cut 5 ?_
                      obtain ⟨t779, ht780, h⟩ := ob h
                      refine @J.meet _ _ _ _ _ _ _ _ _ _ (fun ρ K' L' => Fits [(113, .bool t779), (2, .pointer (some ⟨b540, 0, none⟩)), (15, .slice ad697 l694.length cp698), (16, .int .i64 i695), (17, .int .i64 i696)] ρ ∧ K657 = K' ∧ L' = Row Hp.nil 63 (.cons (.int .i64) (.one (.int .i64))) (.slice ad697 l694.length cp698) l694 :: Cl b683 26 [.slice ad676 l673.length cp677] :: Row Hp.nil 60 (.cons (.int .i64) (.one .bool)) (.slice ad676 l673.length cp677) l673 :: Cl b662 28 [.int .i64 i641, .slice ad647 l642.length cp648, .slice ad649 l643.length cp650, .slice ad651 l644.length cp652] :: Row Hp.nil 60 (.cons (.int .i64) (.one .bool)) (.slice ad651 l644.length cp652) l644 :: Row K657 26 (.one (.sl (.cons (.int .i64) (.one .bool)))) (.slice ad649 l643.length cp650) l643 :: Row Hp.nil 63 (.cons (.int .i64) (.one (.int .i64))) (.slice ad647 l642.length cp648) l642 :: Row Hp.nil 63 (.cons (.int .i64) (.one (.int .i64))) (.slice ad565 l560.length cp566) l560 :: Row K575 26 (.one (.sl (.cons (.int .i64) (.one .bool)))) (.slice ad567 l561.length cp568) l561 :: Row Hp.nil 60 (.cons (.int .i64) (.one .bool)) (.slice ad569 l562.length cp570) l562 :: Cl b580 28 [.int .i64 i559, .slice ad565 l560.length cp566, .slice ad567 l561.length cp568, .slice ad569 l562.length cp570] :: Cl b540 28 [.int .i64 xa.1, .slice adxa_1 xa.2.1.length cpxa_1, .slice adxa_2 xa.2.2.1.length cpxa_2, .slice adxa_3 xa.2.2.2.length cpxa_3] :: F) ?_ ?_
                      · skip
                        rcases bt (t760) with hc781 | hc781
                        · have ht780 := ct hc781 ht780
                          refine J.run rfl rfl rfl hc781 ?_
                          refine J.val (v := .agg #[.slice ad676 l673.length cp677]) rfl rfl (V.ld rfl (Ld.agg (cs := [.slice ad676 l673.length cp677]) Try.underlying26 sz26 rfl (Rd.cls 1 0 rfl rfl))) ?_
                          refine J.run rfl rfl rfl hc781 ?_
                          refine J.val rfl rfl (V.fad Try.underlying28 rfl nz26 rfl) ?_
                          refine J.run rfl rfl rfl hc781 ?_
                          refine J.val (v := .agg #[.slice adxa_3 xa.2.2.2.length cpxa_3]) rfl rfl (V.ld rfl (Ld.agg (cs := [.slice adxa_3 xa.2.2.2.length cpxa_3]) Try.underlying26 sz26 rfl (Rd.cls 11 3 rfl rfl))) ?_
                          refine J.run rfl rfl rfl hc781 ?_
                          obtain ⟨r782, hr783, ht780⟩ := ob ht780
                          refine J.front 2 rfl ?_
                          refine J.op rfl (A.call (L1 := [Row Hp.nil 60 (.cons (.int .i64) (.one .bool)) (.slice ad676 l673.length cp677) l673]) Try.call22 rfl (Tr.lend (Hp.nil_le _) (by decide) (fun K784 hK785 f786 => ref15_Same_ok f786 ((fxa_3.mono (hK576.trans hK658)).mono hK785) hr783)) rfl rfl) ?_
                          rintro _ _ _ ⟨v788, _, rfl, ⟨⟨_, ⟨t787, rfl, rfl, rfl⟩, rfl⟩, rfl⟩, _, rfl⟩
                          refine J.val (v := .bool t787) rfl rfl (V.pickT rfl hc781 rfl) ?_
                          refine J.front 11 rfl ?_
                          refine J.front 11 rfl ?_
                          refine J.front 11 rfl ?_
                          refine J.front 11 rfl ?_
                          refine J.front 11 rfl ?_
                          refine J.front 11 rfl ?_
                          refine J.front 11 rfl ?_
                          refine J.front 11 rfl ?_
                          refine J.front 11 rfl ?_
                          refine J.front 9 rfl ?_
                          refine J.front 11 rfl ?_
                          refine J.front 11 rfl ?_
                          refine J.nil ?_
                          have e := Option.some.inj ht780
                          subst e
                          exact ⟨rfl, ⟨rfl, rfl, rfl, rfl, rfl, trivial⟩, rfl, rfl⟩
                        · have ht780 := cf hc781 ht780
                          refine J.skip rfl rfl rfl rfl hc781 ?_
                          refine J.skip rfl rfl rfl rfl hc781 ?_
                          refine J.skip rfl rfl rfl rfl hc781 ?_
                          refine J.skip rfl rfl rfl rfl hc781 ?_
                          refine J.val (v := .bool false) rfl rfl (V.pickF rfl hc781 rfl) ?_
                          refine J.nil ?_
                          have e := Option.some.inj ht780
                          subst e
                          exact ⟨rfl, ⟨rfl, rfl, rfl, rfl, rfl, trivial⟩, rfl, rfl⟩
                      · rintro ρ _ _ ⟨hf, rfl, rfl⟩
                        obtain ⟨ρ, rfl⟩ := hf.ex
                        refine J.val (v := .bool t779) rfl rfl (V.mv rfl) ?_
                        refine J.cut 3 ?_
                        refine @J.meet _ _ _ _ _ _ _ _ _ _ (fun ρ K' L' => Fits [(117, .bool (t779 && (decide (i696 = 0)))), (2, .pointer (some ⟨b540, 0, none⟩)), (15, .slice ad697 l694.length cp698), (16, .int .i64 i695)] ρ ∧ K657 = K' ∧ L' = Row Hp.nil 63 (.cons (.int .i64) (.one (.int .i64))) (.slice ad697 l694.length cp698) l694 :: Cl b683 26 [.slice ad676 l673.length cp677] :: Row Hp.nil 60 (.cons (.int .i64) (.one .bool)) (.slice ad676 l673.length cp677) l673 :: Cl b662 28 [.int .i64 i641, .slice ad647 l642.length cp648, .slice ad649 l643.length cp650, .slice ad651 l644.length cp652] :: Row Hp.nil 60 (.cons (.int .i64) (.one .bool)) (.slice ad651 l644.length cp652) l644 :: Row K657 26 (.one (.sl (.cons (.int .i64) (.one .bool)))) (.slice ad649 l643.length cp650) l643 :: Row Hp.nil 63 (.cons (.int .i64) (.one (.int .i64))) (.slice ad647 l642.length cp648) l642 :: Row Hp.nil 63 (.cons (.int .i64) (.one (.int .i64))) (.slice ad565 l560.length cp566) l560 :: Row K575 26 (.one (.sl (.cons (.int .i64) (.one .bool)))) (.slice ad567 l561.length cp568) l561 :: Row Hp.nil 60 (.cons (.int .i64) (.one .bool)) (.slice ad569 l562.length cp570) l562 :: Cl b580 28 [.int .i64 i559, .slice ad565 l560.length cp566, .slice ad567 l561.length cp568, .slice ad569 l562.length cp570] :: Cl b540 28 [.int .i64 xa.1, .slice adxa_1 xa.2.1.length cpxa_1, .slice adxa_2 xa.2.2.1.length cpxa_2, .slice adxa_3 xa.2.2.2.length cpxa_3] :: F) ?_ ?_
                        · skip
                          rcases bt (t779) with hc793 | hc793
                          · skip
                            refine J.run rfl rfl rfl hc793 ?_
                            refine J.val (v := .int .i64 i696) rfl rfl (V.mv rfl) ?_
                            refine J.run rfl rfl rfl hc793 ?_
                            refine J.val (v := .bool (decide (i696 = 0))) rfl rfl (V.eql rfl rfl) ?_
                            refine J.val (v := .bool (decide (i696 = 0))) rfl rfl (V.pickT rfl hc793 rfl) ?_
                            refine J.nil ?_
                            exact ⟨rfl, ⟨(by simp only [hc793]; rfl), rfl, rfl, rfl, trivial⟩, rfl, rfl⟩
                          · skip
                            refine J.skip rfl rfl rfl rfl hc793 ?_
                            refine J.skip rfl rfl rfl rfl hc793 ?_
                            refine J.val (v := .bool false) rfl rfl (V.pickF rfl hc793 rfl) ?_
                            refine J.nil ?_
                            exact ⟨rfl, ⟨(by simp only [hc793]; rfl), rfl, rfl, rfl, trivial⟩, rfl, rfl⟩
                        · rintro ρ _ _ ⟨hf, rfl, rfl⟩
                          obtain ⟨ρ, rfl⟩ := hf.ex
                          refine J.val (v := .bool (t779 && (decide (i696 = 0)))) rfl rfl (V.mv rfl) ?_
                          refine J.cut 7 ?_
                          obtain ⟨t801, ht802, h⟩ := ob h
                          refine @J.meet _ _ _ _ _ _ _ _ _ _ (fun ρ K' L' => Fits [(125, .bool t801), (2, .pointer (some ⟨b540, 0, none⟩)), (15, .slice ad697 l694.length cp698)] ρ ∧ K657 = K' ∧ L' = Row Hp.nil 63 (.cons (.int .i64) (.one (.int .i64))) (.slice ad697 l694.length cp698) l694 :: Cl b683 26 [.slice ad676 l673.length cp677] :: Row Hp.nil 60 (.cons (.int .i64) (.one .bool)) (.slice ad676 l673.length cp677) l673 :: Cl b662 28 [.int .i64 i641, .slice ad647 l642.length cp648, .slice ad649 l643.length cp650, .slice ad651 l644.length cp652] :: Row Hp.nil 60 (.cons (.int .i64) (.one .bool)) (.slice ad651 l644.length cp652) l644 :: Row K657 26 (.one (.sl (.cons (.int .i64) (.one .bool)))) (.slice ad649 l643.length cp650) l643 :: Row Hp.nil 63 (.cons (.int .i64) (.one (.int .i64))) (.slice ad647 l642.length cp648) l642 :: Row Hp.nil 63 (.cons (.int .i64) (.one (.int .i64))) (.slice ad565 l560.length cp566) l560 :: Row K575 26 (.one (.sl (.cons (.int .i64) (.one .bool)))) (.slice ad567 l561.length cp568) l561 :: Row Hp.nil 60 (.cons (.int .i64) (.one .bool)) (.slice ad569 l562.length cp570) l562 :: Cl b580 28 [.int .i64 i559, .slice ad565 l560.length cp566, .slice ad567 l561.length cp568, .slice ad569 l562.length cp570] :: Cl b540 28 [.int .i64 xa.1, .slice adxa_1 xa.2.1.length cpxa_1, .slice adxa_2 xa.2.2.1.length cpxa_2, .slice adxa_3 xa.2.2.2.length cpxa_3] :: F) ?_ ?_
                          · skip
                            rcases bt (t779 && (decide (i696 = 0))) with hc803 | hc803
                            · have ht802 := ct hc803 ht802
                              refine J.run rfl rfl rfl hc803 ?_
                              refine J.val (v := .int .i64 i695) rfl rfl (V.mv rfl) ?_
                              refine J.run rfl rfl rfl hc803 ?_
                              refine J.val rfl rfl (V.fad Try.underlying28 rfl nz22 rfl) ?_
                              refine J.run rfl rfl rfl hc803 ?_
                              refine J.val (v := .slice adxa_1 xa.2.1.length cpxa_1) rfl rfl (V.ld rfl (Ld.sc sc22 (Rd.cl 11 rfl rfl))) ?_
                              refine J.run rfl rfl rfl hc803 ?_
                              obtain ⟨r804, hr805, ht802⟩ := ob ht802
                              refine J.op rfl (A.call (L1 := []) Try.call30 rfl (ref17_PutBounds_ok (fxa_1.mono (hK576.trans hK658)) hr805) rfl rfl) ?_
                              rintro _ _ _ ⟨v807, _, rfl, ⟨⟨s806, rfl, rfl, rfl⟩, rfl⟩, _, rfl⟩
                              refine J.run rfl rfl rfl hc803 ?_
                              refine J.val (v := .int .i64 (((s806.length : Nat) : Int))) rfl rfl (V.lens Try.underlying9 rfl) ?_
                              refine J.run rfl rfl rfl hc803 ?_
                              refine J.val (v := .bool (decide (i695 = (((s806.length : Nat) : Int))))) rfl rfl (V.eql rfl rfl) ?_
                              refine J.val (v := .bool (decide (i695 = (((s806.length : Nat) : Int))))) rfl rfl (V.pickT rfl hc803 rfl) ?_
                              refine J.nil ?_
                              have e := Option.some.inj ht802
                              subst e
                              exact ⟨rfl, ⟨rfl, rfl, rfl, trivial⟩, rfl, rfl⟩
                            · have ht802 := cf hc803 ht802
                              refine J.skip rfl rfl rfl rfl hc803 ?_
                              refine J.skip rfl rfl rfl rfl hc803 ?_
                              refine J.skip rfl rfl rfl rfl hc803 ?_
                              refine J.skip rfl rfl rfl rfl hc803 ?_
                              refine J.skip rfl rfl rfl rfl hc803 ?_
                              refine J.skip rfl rfl rfl rfl hc803 ?_
                              refine J.val (v := .bool false) rfl rfl (V.pickF rfl hc803 rfl) ?_
                              refine J.nil ?_
                              have e := Option.some.inj ht802
                              subst e
                              exact ⟨rfl, ⟨rfl, rfl, rfl, trivial⟩, rfl, rfl⟩
                          · rintro ρ _ _ ⟨hf, rfl, rfl⟩
                            obtain ⟨ρ, rfl⟩ := hf.ex
                            refine J.val (v := .bool t801) rfl rfl (V.mv rfl) ?_
                            refine J.cut 5 ?_
                            obtain ⟨t820, ht821, h⟩ := ob h
                            refine @J.meet _ _ _ _ _ _ _ _ _ _ (fun ρ K' L' => Fits [(131, .bool t820)] ρ ∧ K657 = K' ∧ L' = Row Hp.nil 63 (.cons (.int .i64) (.one (.int .i64))) (.slice ad697 l694.length cp698) l694 :: Cl b683 26 [.slice ad676 l673.length cp677] :: Row Hp.nil 60 (.cons (.int .i64) (.one .bool)) (.slice ad676 l673.length cp677) l673 :: Cl b662 28 [.int .i64 i641, .slice ad647 l642.length cp648, .slice ad649 l643.length cp650, .slice ad651 l644.length cp652] :: Row Hp.nil 60 (.cons (.int .i64) (.one .bool)) (.slice ad651 l644.length cp652) l644 :: Row K657 26 (.one (.sl (.cons (.int .i64) (.one .bool)))) (.slice ad649 l643.length cp650) l643 :: Row Hp.nil 63 (.cons (.int .i64) (.one (.int .i64))) (.slice ad647 l642.length cp648) l642 :: Row Hp.nil 63 (.cons (.int .i64) (.one (.int .i64))) (.slice ad565 l560.length cp566) l560 :: Row K575 26 (.one (.sl (.cons (.int .i64) (.one .bool)))) (.slice ad567 l561.length cp568) l561 :: Row Hp.nil 60 (.cons (.int .i64) (.one .bool)) (.slice ad569 l562.length cp570) l562 :: Cl b580 28 [.int .i64 i559, .slice ad565 l560.length cp566, .slice ad567 l561.length cp568, .slice ad569 l562.length cp570] :: Cl b540 28 [.int .i64 xa.1, .slice adxa_1 xa.2.1.length cpxa_1, .slice adxa_2 xa.2.2.1.length cpxa_2, .slice adxa_3 xa.2.2.2.length cpxa_3] :: F) ?_ ?_
                            · skip
                              rcases bt (t801) with hc822 | hc822
                              · have ht821 := ct hc822 ht821
                                refine J.run rfl rfl rfl hc822 ?_
                                refine J.val (v := .slice ad697 l694.length cp698) rfl rfl (V.mv rfl) ?_
                                refine J.run rfl rfl rfl hc822 ?_
                                refine J.val rfl rfl (V.fad Try.underlying28 rfl nz22 rfl) ?_
                                refine J.run rfl rfl rfl hc822 ?_
                                refine J.val (v := .slice adxa_1 xa.2.1.length cpxa_1) rfl rfl (V.ld rfl (Ld.sc sc22 (Rd.cl 11 rfl rfl))) ?_
                                refine J.run rfl rfl rfl hc822 ?_
                                obtain ⟨r823, hr824, ht821⟩ := ob ht821
                                refine J.op rfl (A.call (L1 := [Row Hp.nil 63 (.cons (.int .i64) (.one (.int .i64))) (.slice ad697 l694.length cp698) l694]) Try.call23 rfl (Tr.lend (Hp.nil_le _) (by decide) (fun K825 hK826 f827 => ref17_Bounds_ok f827 ((fxa_1.mono (hK576.trans hK658)).mono hK826) hr824)) rfl rfl) ?_
                                rintro _ _ _ ⟨v829, _, rfl, ⟨⟨_, ⟨t828, rfl, rfl, rfl⟩, rfl⟩, rfl⟩, _, rfl⟩
                                refine J.val (v := .bool t828) rfl rfl (V.pickT rfl hc822 rfl) ?_
                                refine J.nil ?_
                                have e := Option.some.inj ht821
                                subst e
                                exact ⟨rfl, ⟨rfl, trivial⟩, rfl, rfl⟩
                              · have ht821 := cf hc822 ht821
                                refine J.skip rfl rfl rfl rfl hc822 ?_
                                refine J.skip rfl rfl rfl rfl hc822 ?_
                                refine J.skip rfl rfl rfl rfl hc822 ?_
                                refine J.skip rfl rfl rfl rfl hc822 ?_
                                refine J.val (v := .bool false) rfl rfl (V.pickF rfl hc822 rfl) ?_
                                refine J.nil ?_
                                have e := Option.some.inj ht821
                                subst e
                                exact ⟨rfl, ⟨rfl, trivial⟩, rfl, rfl⟩
                            · rintro ρ _ _ ⟨hf, rfl, rfl⟩
                              obtain ⟨ρ, rfl⟩ := hf.ex
                              refine J.val (v := .bool t820) rfl rfl (V.mv rfl) ?_
                              refine J.cut 2 ?_
                              obtain ⟨t839, ht840, h⟩ := ob h
                              refine @J.meet _ _ _ _ _ _ _ _ _ _ (fun ρ K' L' => Fits [(134, .bool t839)] ρ ∧ K657 = K' ∧ L' = Row Hp.nil 63 (.cons (.int .i64) (.one (.int .i64))) (.slice ad697 l694.length cp698) l694 :: Cl b683 26 [.slice ad676 l673.length cp677] :: Row Hp.nil 60 (.cons (.int .i64) (.one .bool)) (.slice ad676 l673.length cp677) l673 :: Cl b662 28 [.int .i64 i641, .slice ad647 l642.length cp648, .slice ad649 l643.length cp650, .slice ad651 l644.length cp652] :: Row Hp.nil 60 (.cons (.int .i64) (.one .bool)) (.slice ad651 l644.length cp652) l644 :: Row K657 26 (.one (.sl (.cons (.int .i64) (.one .bool)))) (.slice ad649 l643.length cp650) l643 :: Row Hp.nil 63 (.cons (.int .i64) (.one (.int .i64))) (.slice ad647 l642.length cp648) l642 :: Row Hp.nil 63 (.cons (.int .i64) (.one (.int .i64))) (.slice ad565 l560.length cp566) l560 :: Row K575 26 (.one (.sl (.cons (.int .i64) (.one .bool)))) (.slice ad567 l561.length cp568) l561 :: Row Hp.nil 60 (.cons (.int .i64) (.one .bool)) (.slice ad569 l562.length cp570) l562 :: Cl b580 28 [.int .i64 i559, .slice ad565 l560.length cp566, .slice ad567 l561.length cp568, .slice ad569 l562.length cp570] :: Cl b540 28 [.int .i64 xa.1, .slice adxa_1 xa.2.1.length cpxa_1, .slice adxa_2 xa.2.2.1.length cpxa_2, .slice adxa_3 xa.2.2.2.length cpxa_3] :: F) ?_ ?_
                              · skip
                                rcases bt (t820) with hc841 | hc841
                                · have ht840 := ct hc841 ht840
                                  refine J.run rfl rfl rfl hc841 ?_
                                  obtain ⟨r842, hr843, ht840⟩ := ob ht840
                                  refine J.op rfl (A.call (L1 := []) Try.call9 rfl (law17_awake_ok hr843) rfl rfl) ?_
                                  rintro _ _ _ ⟨v845, _, rfl, ⟨⟨t844, rfl, rfl, rfl⟩, rfl⟩, _, rfl⟩
                                  refine J.val (v := .bool t844) rfl rfl (V.pickT rfl hc841 rfl) ?_
                                  refine J.nil ?_
                                  have e := Option.some.inj ht840
                                  subst e
                                  exact ⟨rfl, ⟨rfl, trivial⟩, rfl, rfl⟩
                                · have ht840 := cf hc841 ht840
                                  refine J.skip rfl rfl rfl rfl hc841 ?_
                                  refine J.val (v := .bool false) rfl rfl (V.pickF rfl hc841 rfl) ?_
                                  refine J.nil ?_
                                  have e := Option.some.inj ht840
                                  subst e
                                  exact ⟨rfl, ⟨rfl, trivial⟩, rfl, rfl⟩
                              · rintro ρ _ _ ⟨hf, rfl, rfl⟩
                                obtain ⟨ρ, rfl⟩ := hf.ex
                                refine J.val (v := .bool t839) rfl rfl (V.as rfl) ?_
                                refine J.nil ?_
                                refine CJ.ret ?_
                                have e := Option.some.inj h
                                subst e
                                exact ⟨_, [], Res.one rfl rfl, ⟨t839, rfl, rfl, rfl⟩, (hK576.trans hK658), fun w hs => (Sep.dropAt 0 rfl (Sep.dropAt 0 rfl (Sep.dropAt 0 rfl (Sep.dropAt 0 rfl (Sep.dropAt 0 rfl (Sep.dropAt 0 rfl (Sep.dropAt 0 rfl (Sep.dropAt 0 rfl (Sep.dropAt 0 rfl (Sep.dropAt 0 rfl (Sep.dropAt 0 rfl (Sep.dropAt 0 rfl hs))))))))))))⟩
      · have h := cf hc599 h
        refine JQ.skip rfl rfl rfl rfl hc599 ?_
        refine JQ.skip rfl rfl rfl rfl hc599 ?_
        refine JQ.skip rfl rfl rfl rfl hc599 ?_
        refine JQ.skip rfl rfl rfl rfl hc599 ?_
        refine JQ.nil ?_
        refine JA.skip rfl rfl rfl rfl hc599 ?_
        refine JM.nil ?_
        refine JQ.skip rfl rfl rfl rfl hc599 ?_
        refine JQ.val (v := .bool false) rfl rfl (V.pickF rfl hc599 rfl) ?_
        refine JQ.nil ?_
        refine J.nil ?_
        refine CJ.condK (b := false) rfl rfl ?_
        refine CJ.skip ?_
        refine CJ.seq ?_
        refine CJ.seq ?_
        refine CJ.region ?_
        refine J.val (v := .agg #[.int .i64 xa.1, .slice adxa_1 xa.2.1.length cpxa_1, .slice adxa_2 xa.2.2.1.length cpxa_2, .slice adxa_3 xa.2.2.2.length cpxa_3]) rfl rfl (V.ld rfl (Ld.agg (cs := [.int .i64 xa.1, .slice adxa_1 xa.2.1.length cpxa_1, .slice adxa_2 xa.2.2.1.length cpxa_2, .slice adxa_3 xa.2.2.2.length cpxa_3]) Try.underlying28 sz28 rfl (Rd.cls 4 0 rfl rfl))) ?_
        obtain ⟨r848, hr849, h⟩ := ob h
        refine J.op rfl (A.call (L1 := []) Try.call13 rfl (ref17_Check_ok (fxa_1.mono hK576) (fxa_2.mono hK576) (fxa_3.mono hK576) hr849) rfl rfl) ?_
        rintro _ _ _ ⟨v851, _, rfl, ⟨⟨i850, rfl, rfl, rfl⟩, rfl⟩, _, rfl⟩
        refine J.val (v := .bool (!decide (i850 = 0))) rfl rfl (V.neq rfl rfl) ?_
        refine J.nil ?_
        refine CJ.cond rfl (fun hc854 => ?_) (fun hc854 => ?_)
        · have h := ct hc854 h
          refine CJ.seq ?_
          refine CJ.region ?_
          obtain ⟨r855, hr856, h⟩ := ob h
          refine J.op rfl (A.call (L1 := []) Try.call9 rfl (law17_awake_ok hr856) rfl rfl) ?_
          rintro _ _ _ ⟨v858, _, rfl, ⟨⟨t857, rfl, rfl, rfl⟩, rfl⟩, _, rfl⟩
          refine J.val (v := .bool t857) rfl rfl (V.as rfl) ?_
          refine J.nil ?_
          refine CJ.ret ?_
          have e := Option.some.inj h
          subst e
          exact ⟨_, [], Res.one rfl rfl, ⟨t857, rfl, rfl, rfl⟩, hK576, fun w hs => (Sep.dropAt 0 rfl (Sep.dropAt 0 rfl (Sep.dropAt 0 rfl (Sep.dropAt 0 rfl (Sep.dropAt 0 rfl hs)))))⟩
        · have h := cf hc854 h
          refine CJ.skip ?_
          refine CJ.seq ?_
          refine CJ.region ?_
          refine J.val (v := .agg #[.int .i64 xa.1, .slice adxa_1 xa.2.1.length cpxa_1, .slice adxa_2 xa.2.2.1.length cpxa_2, .slice adxa_3 xa.2.2.2.length cpxa_3]) rfl rfl (V.ld rfl (Ld.agg (cs := [.int .i64 xa.1, .slice adxa_1 xa.2.1.length cpxa_1, .slice adxa_2 xa.2.2.1.length cpxa_2, .slice adxa_3 xa.2.2.2.length cpxa_3]) Try.underlying28 sz28 rfl (Rd.cls 4 0 rfl rfl))) ?_
          obtain ⟨r861, hr862, h⟩ := ob h
          refine J.op rfl (A.call (L1 := []) Try.call25 rfl (sig_Put_ok (fxa_1.mono hK576) (fxa_2.mono hK576) (fxa_3.mono hK576) hr862) rfl rfl) ?_
          rintro _ _ _ ⟨v864, _, rfl, ⟨⟨s863, rfl, rfl, rfl⟩, rfl⟩, _, rfl⟩
          refine J.val (v := .string ⟨s863.toArray⟩) rfl rfl (V.as rfl) ?_
          refine J.nil ?_
          refine CJ.seq ?_
          refine CJ.region ?_
          refine J.val (v := .string ⟨s863.toArray⟩) rfl rfl (V.mv rfl) ?_
          refine J.val (v := .string ⟨xb.toArray⟩) rfl rfl (V.mv rfl) ?_
          obtain ⟨z867, hz868, h⟩ := ob h
          refine J.val (v := .string ⟨z867.toArray⟩) rfl rfl (V.cat rfl rfl hz868) ?_
          obtain ⟨r869, hr870, h⟩ := ob h
          refine J.op rfl (A.call (L1 := []) Try.call20 rfl (sig_Take_ok hr870) rfl rfl) ?_
          rintro _ K887 _ ⟨v886, _, rfl, ⟨i871, l872, l873, l874, i875, i876, ad877, cp878, ad879, cp880, ad881, cp882, rfl, rfl, rfl⟩, hK888, rfl⟩
          refine J.wit Row.hn (fun hn883 => ?_)
          refine J.front 1 rfl ?_
          refine J.wit Row.hn (fun hn884 => ?_)
          refine J.front 2 rfl ?_
          refine J.wit Row.hn (fun hn885 => ?_)
          refine J.val (v := .tuple #[.agg #[.int .i64 i871, .slice ad877 l872.length cp878, .slice ad879 l873.length cp880, .slice ad881 l874.length cp882], .int .i64 i875, .int .i64 i876]) rfl rfl (V.mv rfl) ?_
          refine J.val (v := .agg #[.int .i64 i871, .slice ad877 l872.length cp878, .slice ad879 l873.length cp880, .slice ad881 l874.length cp882]) rfl rfl (V.ext rfl rfl) ?_
          refine J.val (v := .int .i64 i875) rfl rfl (V.ext rfl rfl) ?_
          refine J.val (v := .int .i64 i876) rfl rfl (V.ext rfl rfl) ?_
          refine J.op rfl (A.alloc (cs := [.int .i64 0, .slice none 0 0, .slice none 0 0, .slice none 0 0]) inf28 rfl) ?_
          rintro _ _ _ ⟨b892, rfl, rfl, rfl⟩
          refine J.op rfl (A.store (v := .agg #[.int .i64 i871, .slice ad877 l872.length cp878, .slice ad879 l873.length cp880, .slice ad881 l874.length cp882]) (cs' := [.int .i64 i871, .slice ad877 l872.length cp878, .slice ad879 l873.length cp880, .slice ad881 l874.length cp882]) sz28 rfl rfl rfl rfl rfl rfl) ?_
          rintro _ _ _ ⟨rfl, rfl, rfl⟩
          refine J.val (v := .int .i64 i875) rfl rfl (V.as rfl) ?_
          refine J.val (v := .int .i64 i876) rfl rfl (V.as rfl) ?_
          refine J.nil ?_
          refine CJ.seq ?_
          refine CJ.region ?_
          refine J.val rfl rfl (V.fad Try.underlying28 rfl nz26 rfl) ?_
          refine J.val (v := .agg #[.slice adxa_3 xa.2.2.2.length cpxa_3]) rfl rfl (V.ld rfl (Ld.agg (cs := [.slice adxa_3 xa.2.2.2.length cpxa_3]) Try.underlying26 sz26 rfl (Rd.cls 8 3 rfl rfl))) ?_
          obtain ⟨r893, hr894, h⟩ := ob h
          refine J.op rfl (A.call (L1 := []) Try.call26 rfl (sig_PutType_ok (fxa_3.mono (hK576.trans hK888)) hr894) rfl rfl) ?_
          rintro _ _ _ ⟨v896, _, rfl, ⟨⟨s895, rfl, rfl, rfl⟩, rfl⟩, _, rfl⟩
          refine J.val (v := .string ⟨xb.toArray⟩) rfl rfl (V.mv rfl) ?_
          obtain ⟨z899, hz900, h⟩ := ob h
          refine J.val (v := .string ⟨z899.toArray⟩) rfl rfl (V.cat rfl rfl hz900) ?_
          obtain ⟨r901, hr902, h⟩ := ob h
          refine J.op rfl (A.call (L1 := []) Try.call16 rfl (sig_TakeType_ok hr902) rfl rfl) ?_
          rintro _ _ _ ⟨v909, _, rfl, ⟨⟨l903, i904, i905, ad906, cp907, rfl, rfl, rfl⟩, rfl⟩, _, rfl⟩
          refine J.wit Row.hn (fun hn908 => ?_)
          refine J.val (v := .tuple #[.agg #[.slice ad906 l903.length cp907], .int .i64 i904, .int .i64 i905]) rfl rfl (V.mv rfl) ?_
          refine J.val (v := .agg #[.slice ad906 l903.length cp907]) rfl rfl (V.ext rfl rfl) ?_
          refine J.val (v := .int .i64 i904) rfl rfl (V.ext rfl rfl) ?_
          refine J.val (v := .int .i64 i905) rfl rfl (V.ext rfl rfl) ?_
          refine J.op rfl (A.alloc (cs := [.slice none 0 0]) inf26 rfl) ?_
          rintro _ _ _ ⟨b913, rfl, rfl, rfl⟩
          refine J.op rfl (A.store (v := .agg #[.slice ad906 l903.length cp907]) (cs' := [.slice ad906 l903.length cp907]) sz26 rfl rfl rfl rfl rfl rfl) ?_
          rintro _ _ _ ⟨rfl, rfl, rfl⟩
          refine J.val (v := .int .i64 i904) rfl rfl (V.as rfl) ?_
          refine J.val (v := .int .i64 i905) rfl rfl (V.as rfl) ?_
          refine J.nil ?_
          refine CJ.seq ?_
          refine CJ.region ?_
          refine J.val rfl rfl (V.fad Try.underlying28 rfl nz22 rfl) ?_
          refine J.val (v := .slice adxa_1 xa.2.1.length cpxa_1) rfl rfl (V.ld rfl (Ld.sc sc22 (Rd.cl 10 rfl rfl))) ?_
          obtain ⟨r914, hr915, h⟩ := ob h
          refine J.op rfl (A.call (L1 := []) Try.call27 rfl (sig_PutBounds_ok (fxa_1.mono (hK576.trans hK888)) hr915) rfl rfl) ?_
          rintro _ _ _ ⟨v917, _, rfl, ⟨⟨s916, rfl, rfl, rfl⟩, rfl⟩, _, rfl⟩
          refine J.val (v := .string ⟨xb.toArray⟩) rfl rfl (V.mv rfl) ?_
          obtain ⟨z920, hz921, h⟩ := ob h
          refine J.val (v := .string ⟨z920.toArray⟩) rfl rfl (V.cat rfl rfl hz921) ?_
          obtain ⟨r922, hr923, h⟩ := ob h
          refine J.op rfl (A.call (L1 := []) Try.call18 rfl (sig_TakeBounds_ok hr923) rfl rfl) ?_
          rintro _ _ _ ⟨v930, _, rfl, ⟨⟨l924, i925, i926, ad927, cp928, rfl, rfl, rfl⟩, rfl⟩, _, rfl⟩
          refine J.wit Row.hn (fun hn929 => ?_)
          refine J.val (v := .tuple #[.slice ad927 l924.length cp928, .int .i64 i925, .int .i64 i926]) rfl rfl (V.mv rfl) ?_
          refine J.val (v := .slice ad927 l924.length cp928) rfl rfl (V.ext rfl rfl) ?_
          refine J.val (v := .int .i64 i925) rfl rfl (V.ext rfl rfl) ?_
          refine J.val (v := .int .i64 i926) rfl rfl (V.ext rfl rfl) ?_
          refine J.val (v := .slice ad927 l924.length cp928) rfl rfl (V.as rfl) ?_
          refine J.val (v := .int .i64 i925) rfl rfl (V.as rfl) ?_
          refine J.val (v := .int .i64 i926) rfl rfl (V.as rfl) ?_
          refine J.nil ?_
          refine CJ.seq ?_
          refine CJ.region ?_
          refine J.val (v := .string ⟨s863.toArray⟩) rfl rfl (V.mv rfl) ?_
          refine J.val (v := .agg #[.int .i64 xa.1, .slice adxa_1 xa.2.1.length cpxa_1, .slice adxa_2 xa.2.2.1.length cpxa_2, .slice adxa_3 xa.2.2.2.length cpxa_3]) rfl rfl (V.ld rfl (Ld.agg (cs := [.int .i64 xa.1, .slice adxa_1 xa.2.1.length cpxa_1, .slice adxa_2 xa.2.2.1.length cpxa_2, .slice adxa_3 xa.2.2.2.length cpxa_3]) Try.underlying28 sz28 rfl (Rd.cls 11 0 rfl rfl))) ?_
          obtain ⟨r934, hr935, h⟩ := ob h
          refine J.op rfl (A.call (L1 := []) Try.call28 rfl (ref17_Put_ok (fxa_1.mono (hK576.trans hK888)) (fxa_2.mono (hK576.trans hK888)) (fxa_3.mono (hK576.trans hK888)) hr935) rfl rfl) ?_
          rintro _ _ _ ⟨v937, _, rfl, ⟨⟨s936, rfl, rfl, rfl⟩, rfl⟩, _, rfl⟩
          refine J.val (v := .bool (decide (s863 = s936))) rfl rfl (V.eqs rfl rfl) ?_
          refine J.val (v := .bool (decide (s863 = s936))) rfl rfl (V.mv rfl) ?_
          refine J.cut 3 ?_
          refine @J.meet _ _ _ _ _ _ _ _ _ _ (fun ρ K' L' => Fits [(84, .bool ((decide (s863 = s936)) && (decide (i876 = 0)))), (2, .pointer (some ⟨b540, 0, none⟩)), (8, .string ⟨s863.toArray⟩), (9, .pointer (some ⟨b892, 0, none⟩)), (10, .int .i64 i875), (12, .pointer (some ⟨b913, 0, none⟩)), (13, .int .i64 i904), (14, .int .i64 i905), (15, .slice ad927 l924.length cp928), (16, .int .i64 i925), (17, .int .i64 i926)] ρ ∧ K887 = K' ∧ L' = Row Hp.nil 63 (.cons (.int .i64) (.one (.int .i64))) (.slice ad927 l924.length cp928) l924 :: Cl b913 26 [.slice ad906 l903.length cp907] :: Row Hp.nil 60 (.cons (.int .i64) (.one .bool)) (.slice ad906 l903.length cp907) l903 :: Cl b892 28 [.int .i64 i871, .slice ad877 l872.length cp878, .slice ad879 l873.length cp880, .slice ad881 l874.length cp882] :: Row Hp.nil 60 (.cons (.int .i64) (.one .bool)) (.slice ad881 l874.length cp882) l874 :: Row K887 26 (.one (.sl (.cons (.int .i64) (.one .bool)))) (.slice ad879 l873.length cp880) l873 :: Row Hp.nil 63 (.cons (.int .i64) (.one (.int .i64))) (.slice ad877 l872.length cp878) l872 :: Cl b580 28 [.int .i64 i559, .slice ad565 l560.length cp566, .slice ad567 l561.length cp568, .slice ad569 l562.length cp570] :: Row Hp.nil 60 (.cons (.int .i64) (.one .bool)) (.slice ad569 l562.length cp570) l562 :: Row K575 26 (.one (.sl (.cons (.int .i64) (.one .bool)))) (.slice ad567 l561.length cp568) l561 :: Row Hp.nil 63 (.cons (.int .i64) (.one (.int .i64))) (.slice ad565 l560.length cp566) l560 :: Cl b540 28 [.int .i64 xa.1, .slice adxa_1 xa.2.1.length cpxa_1, .slice adxa_2 xa.2.2.1.length cpxa_2, .slice adxa_3 xa.2.2.2.length cpxa_3] :: F) ?_ ?_
          · skip
            rcases bt (decide (s863 = s936)) with hc942 | hc942
            · skip
              refine J.run rfl rfl rfl hc942 ?_
              refine J.val (v := .int .i64 i876) rfl rfl (V.mv rfl) ?_
              refine J.run rfl rfl rfl hc942 ?_
              refine J.val (v := .bool (decide (i876 = 0))) rfl rfl (V.eql rfl rfl) ?_
              refine J.val (v := .bool (decide (i876 = 0))) rfl rfl (V.pickT rfl hc942 rfl) ?_
              refine J.nil ?_
              exact ⟨rfl, ⟨(by simp only [hc942]; rfl), rfl, rfl, rfl, rfl, rfl, rfl, rfl, rfl, rfl, rfl, trivial⟩, rfl, rfl⟩
            · skip
              refine J.skip rfl rfl rfl rfl hc942 ?_
              refine J.skip rfl rfl rfl rfl hc942 ?_
              refine J.val (v := .bool false) rfl rfl (V.pickF rfl hc942 rfl) ?_
              refine J.nil ?_
              exact ⟨rfl, ⟨(by simp only [hc942]; rfl), rfl, rfl, rfl, rfl, rfl, rfl, rfl, rfl, rfl, rfl, trivial⟩, rfl, rfl⟩
          · rintro ρ _ _ ⟨hf, rfl, rfl⟩
            obtain ⟨ρ, rfl⟩ := hf.ex
            refine J.val (v := .bool ((decide (s863 = s936)) && (decide (i876 = 0)))) rfl rfl (V.mv rfl) ?_
            refine J.cut 5 ?_
            refine @J.meet _ _ _ _ _ _ _ _ _ _ (fun ρ K' L' => Fits [(90, .bool (((decide (s863 = s936)) && (decide (i876 = 0))) && (decide (i875 = (((s863.length : Nat) : Int)))))), (2, .pointer (some ⟨b540, 0, none⟩)), (9, .pointer (some ⟨b892, 0, none⟩)), (12, .pointer (some ⟨b913, 0, none⟩)), (13, .int .i64 i904), (14, .int .i64 i905), (15, .slice ad927 l924.length cp928), (16, .int .i64 i925), (17, .int .i64 i926)] ρ ∧ K887 = K' ∧ L' = Row Hp.nil 63 (.cons (.int .i64) (.one (.int .i64))) (.slice ad927 l924.length cp928) l924 :: Cl b913 26 [.slice ad906 l903.length cp907] :: Row Hp.nil 60 (.cons (.int .i64) (.one .bool)) (.slice ad906 l903.length cp907) l903 :: Cl b892 28 [.int .i64 i871, .slice ad877 l872.length cp878, .slice ad879 l873.length cp880, .slice ad881 l874.length cp882] :: Row Hp.nil 60 (.cons (.int .i64) (.one .bool)) (.slice ad881 l874.length cp882) l874 :: Row K887 26 (.one (.sl (.cons (.int .i64) (.one .bool)))) (.slice ad879 l873.length cp880) l873 :: Row Hp.nil 63 (.cons (.int .i64) (.one (.int .i64))) (.slice ad877 l872.length cp878) l872 :: Cl b580 28 [.int .i64 i559, .slice ad565 l560.length cp566, .slice ad567 l561.length cp568, .slice ad569 l562.length cp570] :: Row Hp.nil 60 (.cons (.int .i64) (.one .bool)) (.slice ad569 l562.length cp570) l562 :: Row K575 26 (.one (.sl (.cons (.int .i64) (.one .bool)))) (.slice ad567 l561.length cp568) l561 :: Row Hp.nil 63 (.cons (.int .i64) (.one (.int .i64))) (.slice ad565 l560.length cp566) l560 :: Cl b540 28 [.int .i64 xa.1, .slice adxa_1 xa.2.1.length cpxa_1, .slice adxa_2 xa.2.2.1.length cpxa_2, .slice adxa_3 xa.2.2.2.length cpxa_3] :: F) ?_ ?_
            · skip
              rcases bt ((decide (s863 = s936)) && (decide (i876 = 0))) with hc945 | hc945
              · skip
                refine J.run rfl rfl rfl hc945 ?_
                refine J.val (v := .int .i64 i875) rfl rfl (V.mv rfl) ?_
                refine J.run rfl rfl rfl hc945 ?_
                refine J.val (v := .string ⟨s863.toArray⟩) rfl rfl (V.mv rfl) ?_
                refine J.run rfl rfl rfl hc945 ?_
                refine J.val (v := .int .i64 (((s863.length : Nat) : Int))) rfl rfl (V.lens Try.underlying9 rfl) ?_
                refine J.run rfl rfl rfl hc945 ?_
                refine J.val (v := .bool (decide (i875 = (((s863.length : Nat) : Int))))) rfl rfl (V.eql rfl rfl) ?_
                refine J.val (v := .bool (decide (i875 = (((s863.length : Nat) : Int))))) rfl rfl (V.pickT rfl hc945 rfl) ?_
                refine J.nil ?_
                exact ⟨rfl, ⟨(by simp only [hc945]; rfl), rfl, rfl, rfl, rfl, rfl, rfl, rfl, rfl, trivial⟩, rfl, rfl⟩
              · skip
                refine J.skip rfl rfl rfl rfl hc945 ?_
                refine J.skip rfl rfl rfl rfl hc945 ?_
                refine J.skip rfl rfl rfl rfl hc945 ?_
                refine J.skip rfl rfl rfl rfl hc945 ?_
                refine J.val (v := .bool false) rfl rfl (V.pickF rfl hc945 rfl) ?_
                refine J.nil ?_
                exact ⟨rfl, ⟨(by simp only [hc945]; rfl), rfl, rfl, rfl, rfl, rfl, rfl, rfl, rfl, trivial⟩, rfl, rfl⟩
            · rintro ρ _ _ ⟨hf, rfl, rfl⟩
              obtain ⟨ρ, rfl⟩ := hf.ex
              refine J.val (v := .bool (((decide (s863 = s936)) && (decide (i876 = 0))) && (decide (i875 = (((s863.length : Nat) : Int)))))) rfl rfl (V.mv rfl) ?_
              refine J.cut 4 ?_
              obtain ⟨t962, ht963, h⟩ := ob h
              refine @J.meet _ _ _ _ _ _ _ _ _ _ (fun ρ K' L' => Fits [(95, .bool t962), (2, .pointer (some ⟨b540, 0, none⟩)), (12, .pointer (some ⟨b913, 0, none⟩)), (13, .int .i64 i904), (14, .int .i64 i905), (15, .slice ad927 l924.length cp928), (16, .int .i64 i925), (17, .int .i64 i926)] ρ ∧ K887 = K' ∧ L' = Row Hp.nil 63 (.cons (.int .i64) (.one (.int .i64))) (.slice ad927 l924.length cp928) l924 :: Cl b913 26 [.slice ad906 l903.length cp907] :: Row Hp.nil 60 (.cons (.int .i64) (.one .bool)) (.slice ad906 l903.length cp907) l903 :: Cl b892 28 [.int .i64 i871, .slice ad877 l872.length cp878, .slice ad879 l873.length cp880, .slice ad881 l874.length cp882] :: Row Hp.nil 60 (.cons (.int .i64) (.one .bool)) (.slice ad881 l874.length cp882) l874 :: Row K887 26 (.one (.sl (.cons (.int .i64) (.one .bool)))) (.slice ad879 l873.length cp880) l873 :: Row Hp.nil 63 (.cons (.int .i64) (.one (.int .i64))) (.slice ad877 l872.length cp878) l872 :: Cl b580 28 [.int .i64 i559, .slice ad565 l560.length cp566, .slice ad567 l561.length cp568, .slice ad569 l562.length cp570] :: Row Hp.nil 60 (.cons (.int .i64) (.one .bool)) (.slice ad569 l562.length cp570) l562 :: Row K575 26 (.one (.sl (.cons (.int .i64) (.one .bool)))) (.slice ad567 l561.length cp568) l561 :: Row Hp.nil 63 (.cons (.int .i64) (.one (.int .i64))) (.slice ad565 l560.length cp566) l560 :: Cl b540 28 [.int .i64 xa.1, .slice adxa_1 xa.2.1.length cpxa_1, .slice adxa_2 xa.2.2.1.length cpxa_2, .slice adxa_3 xa.2.2.2.length cpxa_3] :: F) ?_ ?_
              · skip
                rcases bt (((decide (s863 = s936)) && (decide (i876 = 0))) && (decide (i875 = (((s863.length : Nat) : Int))))) with hc964 | hc964
                · have ht963 := ct hc964 ht963
                  refine J.run rfl rfl rfl hc964 ?_
                  refine J.val (v := .agg #[.int .i64 i871, .slice ad877 l872.length cp878, .slice ad879 l873.length cp880, .slice ad881 l874.length cp882]) rfl rfl (V.ld rfl (Ld.agg (cs := [.int .i64 i871, .slice ad877 l872.length cp878, .slice ad879 l873.length cp880, .slice ad881 l874.length cp882]) Try.underlying28 sz28 rfl (Rd.cls 3 0 rfl rfl))) ?_
                  refine J.run rfl rfl rfl hc964 ?_
                  refine J.val (v := .agg #[.int .i64 xa.1, .slice adxa_1 xa.2.1.length cpxa_1, .slice adxa_2 xa.2.2.1.length cpxa_2, .slice adxa_3 xa.2.2.2.length cpxa_3]) rfl rfl (V.ld rfl (Ld.agg (cs := [.int .i64 xa.1, .slice adxa_1 xa.2.1.length cpxa_1, .slice adxa_2 xa.2.2.1.length cpxa_2, .slice adxa_3 xa.2.2.2.length cpxa_3]) Try.underlying28 sz28 rfl (Rd.cls 11 0 rfl rfl))) ?_
                  refine J.run rfl rfl rfl hc964 ?_
                  obtain ⟨r965, hr966, ht963⟩ := ob ht963
                  refine J.front 4 rfl ?_
                  refine J.front 5 rfl ?_
                  refine J.front 6 rfl ?_
                  refine J.op rfl (A.call (L1 := [Row Hp.nil 63 (.cons (.int .i64) (.one (.int .i64))) (.slice ad877 l872.length cp878) l872, Row K887 26 (.one (.sl (.cons (.int .i64) (.one .bool)))) (.slice ad879 l873.length cp880) l873, Row Hp.nil 60 (.cons (.int .i64) (.one .bool)) (.slice ad881 l874.length cp882) l874]) Try.call24 rfl (Tr.lend (Hp.nil_le _) (by decide) (fun K967 hK968 f969 => Tr.lend (Hp.le.trans (Hp.le_refl _) hK968) (by decide) (fun K970 hK971 f972 => Tr.lend (Hp.nil_le _) (by decide) (fun K973 hK974 f975 => ref17_Same_ok ((f969.mono hK971).mono hK974) (f972.mono hK974) f975 ((((fxa_1.mono (hK576.trans hK888)).mono hK968).mono hK971).mono hK974) ((((fxa_2.mono (hK576.trans hK888)).mono hK968).mono hK971).mono hK974) ((((fxa_3.mono (hK576.trans hK888)).mono hK968).mono hK971).mono hK974) hr966)))) rfl rfl) ?_
                  rintro _ _ _ ⟨v977, _, rfl, ⟨⟨_, ⟨_, ⟨_, ⟨t976, rfl, rfl, rfl⟩, rfl⟩, rfl⟩, rfl⟩, rfl⟩, _, rfl⟩
                  refine J.val (v := .bool t976) rfl rfl (V.pickT rfl hc964 rfl) ?_
                  refine J.front 11 rfl ?_
                  refine J.front 11 rfl ?_
                  refine J.front 11 rfl ?_
                  refine J.front 11 rfl ?_
                  refine J.front 11 rfl ?_
                  refine J.front 5 rfl ?_
                  refine J.front 6 rfl ?_
                  refine J.front 7 rfl ?_
                  refine J.front 11 rfl ?_
                  refine J.front 11 rfl ?_
                  refine J.front 11 rfl ?_
                  refine J.front 11 rfl ?_
                  refine J.nil ?_
                  have e := Option.some.inj ht963
                  subst e
                  exact ⟨rfl, ⟨rfl, rfl, rfl, rfl, rfl, rfl, rfl, rfl, trivial⟩, rfl, rfl⟩
                · have ht963 := cf hc964 ht963
                  refine J.skip rfl rfl rfl rfl hc964 ?_
                  refine J.skip rfl rfl rfl rfl hc964 ?_
                  refine J.skip rfl rfl rfl rfl hc964 ?_
                  refine J.val (v := .bool false) rfl rfl (V.pickF rfl hc964 rfl) ?_
                  refine J.nil ?_
                  have e := Option.some.inj ht963
                  subst e
                  exact ⟨rfl, ⟨rfl, rfl, rfl, rfl, rfl, rfl, rfl, rfl, trivial⟩, rfl, rfl⟩
              · rintro ρ _ _ ⟨hf, rfl, rfl⟩
                obtain ⟨ρ, rfl⟩ := hf.ex
                refine J.val (v := .bool t962) rfl rfl (V.mv rfl) ?_
                refine J.cut 3 ?_
                refine @J.meet _ _ _ _ _ _ _ _ _ _ (fun ρ K' L' => Fits [(99, .bool (t962 && (decide (i905 = 0)))), (2, .pointer (some ⟨b540, 0, none⟩)), (12, .pointer (some ⟨b913, 0, none⟩)), (13, .int .i64 i904), (15, .slice ad927 l924.length cp928), (16, .int .i64 i925), (17, .int .i64 i926)] ρ ∧ K887 = K' ∧ L' = Row Hp.nil 63 (.cons (.int .i64) (.one (.int .i64))) (.slice ad927 l924.length cp928) l924 :: Cl b913 26 [.slice ad906 l903.length cp907] :: Row Hp.nil 60 (.cons (.int .i64) (.one .bool)) (.slice ad906 l903.length cp907) l903 :: Cl b892 28 [.int .i64 i871, .slice ad877 l872.length cp878, .slice ad879 l873.length cp880, .slice ad881 l874.length cp882] :: Row Hp.nil 60 (.cons (.int .i64) (.one .bool)) (.slice ad881 l874.length cp882) l874 :: Row K887 26 (.one (.sl (.cons (.int .i64) (.one .bool)))) (.slice ad879 l873.length cp880) l873 :: Row Hp.nil 63 (.cons (.int .i64) (.one (.int .i64))) (.slice ad877 l872.length cp878) l872 :: Cl b580 28 [.int .i64 i559, .slice ad565 l560.length cp566, .slice ad567 l561.length cp568, .slice ad569 l562.length cp570] :: Row Hp.nil 60 (.cons (.int .i64) (.one .bool)) (.slice ad569 l562.length cp570) l562 :: Row K575 26 (.one (.sl (.cons (.int .i64) (.one .bool)))) (.slice ad567 l561.length cp568) l561 :: Row Hp.nil 63 (.cons (.int .i64) (.one (.int .i64))) (.slice ad565 l560.length cp566) l560 :: Cl b540 28 [.int .i64 xa.1, .slice adxa_1 xa.2.1.length cpxa_1, .slice adxa_2 xa.2.2.1.length cpxa_2, .slice adxa_3 xa.2.2.2.length cpxa_3] :: F) ?_ ?_
                · skip
                  rcases bt (t962) with hc982 | hc982
                  · skip
                    refine J.run rfl rfl rfl hc982 ?_
                    refine J.val (v := .int .i64 i905) rfl rfl (V.mv rfl) ?_
                    refine J.run rfl rfl rfl hc982 ?_
                    refine J.val (v := .bool (decide (i905 = 0))) rfl rfl (V.eql rfl rfl) ?_
                    refine J.val (v := .bool (decide (i905 = 0))) rfl rfl (V.pickT rfl hc982 rfl) ?_
                    refine J.nil ?_
                    exact ⟨rfl, ⟨(by simp only [hc982]; rfl), rfl, rfl, rfl, rfl, rfl, rfl, trivial⟩, rfl, rfl⟩
                  · skip
                    refine J.skip rfl rfl rfl rfl hc982 ?_
                    refine J.skip rfl rfl rfl rfl hc982 ?_
                    refine J.val (v := .bool false) rfl rfl (V.pickF rfl hc982 rfl) ?_
                    refine J.nil ?_
                    exact ⟨rfl, ⟨(by simp only [hc982]; rfl), rfl, rfl, rfl, rfl, rfl, rfl, trivial⟩, rfl, rfl⟩
                · rintro ρ _ _ ⟨hf, rfl, rfl⟩
                  obtain ⟨ρ, rfl⟩ := hf.ex
                  refine J.val (v := .bool (t962 && (decide (i905 = 0)))) rfl rfl (V.mv rfl) ?_
                  refine J.cut 7 ?_
                  obtain ⟨t990, ht991, h⟩ := ob h
                  refine @J.meet _ _ _ _ _ _ _ _ _ _ (fun ρ K' L' => Fits [(107, .bool t990), (2, .pointer (some ⟨b540, 0, none⟩)), (12, .pointer (some ⟨b913, 0, none⟩)), (15, .slice ad927 l924.length cp928), (16, .int .i64 i925), (17, .int .i64 i926)] ρ ∧ K887 = K' ∧ L' = Row Hp.nil 63 (.cons (.int .i64) (.one (.int .i64))) (.slice ad927 l924.length cp928) l924 :: Cl b913 26 [.slice ad906 l903.length cp907] :: Row Hp.nil 60 (.cons (.int .i64) (.one .bool)) (.slice ad906 l903.length cp907) l903 :: Cl b892 28 [.int .i64 i871, .slice ad877 l872.length cp878, .slice ad879 l873.length cp880, .slice ad881 l874.length cp882] :: Row Hp.nil 60 (.cons (.int .i64) (.one .bool)) (.slice ad881 l874.length cp882) l874 :: Row K887 26 (.one (.sl (.cons (.int .i64) (.one .bool)))) (.slice ad879 l873.length cp880) l873 :: Row Hp.nil 63 (.cons (.int .i64) (.one (.int .i64))) (.slice ad877 l872.length cp878) l872 :: Cl b580 28 [.int .i64 i559, .slice ad565 l560.length cp566, .slice ad567 l561.length cp568, .slice ad569 l562.length cp570] :: Row Hp.nil 60 (.cons (.int .i64) (.one .bool)) (.slice ad569 l562.length cp570) l562 :: Row K575 26 (.one (.sl (.cons (.int .i64) (.one .bool)))) (.slice ad567 l561.length cp568) l561 :: Row Hp.nil 63 (.cons (.int .i64) (.one (.int .i64))) (.slice ad565 l560.length cp566) l560 :: Cl b540 28 [.int .i64 xa.1, .slice adxa_1 xa.2.1.length cpxa_1, .slice adxa_2 xa.2.2.1.length cpxa_2, .slice adxa_3 xa.2.2.2.length cpxa_3] :: F) ?_ ?_
                  · skip
                    rcases bt (t962 && (decide (i905 = 0))) with hc992 | hc992
                    · have ht991 := ct hc992 ht991
                      refine J.run rfl rfl rfl hc992 ?_
                      refine J.val (v := .int .i64 i904) rfl rfl (V.mv rfl) ?_
                      refine J.run rfl rfl rfl hc992 ?_
                      refine J.val rfl rfl (V.fad Try.underlying28 rfl nz26 rfl) ?_
                      refine J.run rfl rfl rfl hc992 ?_
                      refine J.val (v := .agg #[.slice adxa_3 xa.2.2.2.length cpxa_3]) rfl rfl (V.ld rfl (Ld.agg (cs := [.slice adxa_3 xa.2.2.2.length cpxa_3]) Try.underlying26 sz26 rfl (Rd.cls 11 3 rfl rfl))) ?_
                      refine J.run rfl rfl rfl hc992 ?_
                      obtain ⟨r993, hr994, ht991⟩ := ob ht991
                      refine J.op rfl (A.call (L1 := []) Try.call29 rfl (ref17_PutType_ok (fxa_3.mono (hK576.trans hK888)) hr994) rfl rfl) ?_
                      rintro _ _ _ ⟨v996, _, rfl, ⟨⟨s995, rfl, rfl, rfl⟩, rfl⟩, _, rfl⟩
                      refine J.run rfl rfl rfl hc992 ?_
                      refine J.val (v := .int .i64 (((s995.length : Nat) : Int))) rfl rfl (V.lens Try.underlying9 rfl) ?_
                      refine J.run rfl rfl rfl hc992 ?_
                      refine J.val (v := .bool (decide (i904 = (((s995.length : Nat) : Int))))) rfl rfl (V.eql rfl rfl) ?_
                      refine J.val (v := .bool (decide (i904 = (((s995.length : Nat) : Int))))) rfl rfl (V.pickT rfl hc992 rfl) ?_
                      refine J.nil ?_
                      have e := Option.some.inj ht991
                      subst e
                      exact ⟨rfl, ⟨rfl, rfl, rfl, rfl, rfl, rfl, trivial⟩, rfl, rfl⟩
                    · have ht991 := cf hc992 ht991
                      refine J.skip rfl rfl rfl rfl hc992 ?_
                      refine J.skip rfl rfl rfl rfl hc992 ?_
                      refine J.skip rfl rfl rfl rfl hc992 ?_
                      refine J.skip rfl rfl rfl rfl hc992 ?_
                      refine J.skip rfl rfl rfl rfl hc992 ?_
                      refine J.skip rfl rfl rfl rfl hc992 ?_
                      refine J.val (v := .bool false) rfl rfl (V.pickF rfl hc992 rfl) ?_
                      refine J.nil ?_
                      have e := Option.some.inj ht991
                      subst e
                      exact ⟨rfl, ⟨rfl, rfl, rfl, rfl, rfl, rfl, trivial⟩, rfl, rfl⟩
                  · rintro ρ _ _ ⟨hf, rfl, rfl⟩
                    obtain ⟨ρ, rfl⟩ := hf.ex
                    refine J.val (v := .bool t990) rfl rfl (V.mv rfl) ?_
                    refine J.cut 5 ?_
                    obtain ⟨t1009, ht1010, h⟩ := ob h
                    refine @J.meet _ _ _ _ _ _ _ _ _ _ (fun ρ K' L' => Fits [(113, .bool t1009), (2, .pointer (some ⟨b540, 0, none⟩)), (15, .slice ad927 l924.length cp928), (16, .int .i64 i925), (17, .int .i64 i926)] ρ ∧ K887 = K' ∧ L' = Row Hp.nil 63 (.cons (.int .i64) (.one (.int .i64))) (.slice ad927 l924.length cp928) l924 :: Cl b913 26 [.slice ad906 l903.length cp907] :: Row Hp.nil 60 (.cons (.int .i64) (.one .bool)) (.slice ad906 l903.length cp907) l903 :: Cl b892 28 [.int .i64 i871, .slice ad877 l872.length cp878, .slice ad879 l873.length cp880, .slice ad881 l874.length cp882] :: Row Hp.nil 60 (.cons (.int .i64) (.one .bool)) (.slice ad881 l874.length cp882) l874 :: Row K887 26 (.one (.sl (.cons (.int .i64) (.one .bool)))) (.slice ad879 l873.length cp880) l873 :: Row Hp.nil 63 (.cons (.int .i64) (.one (.int .i64))) (.slice ad877 l872.length cp878) l872 :: Cl b580 28 [.int .i64 i559, .slice ad565 l560.length cp566, .slice ad567 l561.length cp568, .slice ad569 l562.length cp570] :: Row Hp.nil 60 (.cons (.int .i64) (.one .bool)) (.slice ad569 l562.length cp570) l562 :: Row K575 26 (.one (.sl (.cons (.int .i64) (.one .bool)))) (.slice ad567 l561.length cp568) l561 :: Row Hp.nil 63 (.cons (.int .i64) (.one (.int .i64))) (.slice ad565 l560.length cp566) l560 :: Cl b540 28 [.int .i64 xa.1, .slice adxa_1 xa.2.1.length cpxa_1, .slice adxa_2 xa.2.2.1.length cpxa_2, .slice adxa_3 xa.2.2.2.length cpxa_3] :: F) ?_ ?_
                    · skip
                      rcases bt (t990) with hc1011 | hc1011
                      · have ht1010 := ct hc1011 ht1010
                        refine J.run rfl rfl rfl hc1011 ?_
                        refine J.val (v := .agg #[.slice ad906 l903.length cp907]) rfl rfl (V.ld rfl (Ld.agg (cs := [.slice ad906 l903.length cp907]) Try.underlying26 sz26 rfl (Rd.cls 1 0 rfl rfl))) ?_
                        refine J.run rfl rfl rfl hc1011 ?_
                        refine J.val rfl rfl (V.fad Try.underlying28 rfl nz26 rfl) ?_
                        refine J.run rfl rfl rfl hc1011 ?_
                        refine J.val (v := .agg #[.slice adxa_3 xa.2.2.2.length cpxa_3]) rfl rfl (V.ld rfl (Ld.agg (cs := [.slice adxa_3 xa.2.2.2.length cpxa_3]) Try.underlying26 sz26 rfl (Rd.cls 11 3 rfl rfl))) ?_
                        refine J.run rfl rfl rfl hc1011 ?_
                        obtain ⟨r1012, hr1013, ht1010⟩ := ob ht1010
                        refine J.front 2 rfl ?_
                        refine J.op rfl (A.call (L1 := [Row Hp.nil 60 (.cons (.int .i64) (.one .bool)) (.slice ad906 l903.length cp907) l903]) Try.call22 rfl (Tr.lend (Hp.nil_le _) (by decide) (fun K1014 hK1015 f1016 => ref15_Same_ok f1016 ((fxa_3.mono (hK576.trans hK888)).mono hK1015) hr1013)) rfl rfl) ?_
                        rintro _ _ _ ⟨v1018, _, rfl, ⟨⟨_, ⟨t1017, rfl, rfl, rfl⟩, rfl⟩, rfl⟩, _, rfl⟩
                        refine J.val (v := .bool t1017) rfl rfl (V.pickT rfl hc1011 rfl) ?_
                        refine J.front 11 rfl ?_
                        refine J.front 11 rfl ?_
                        refine J.front 11 rfl ?_
                        refine J.front 11 rfl ?_
                        refine J.front 11 rfl ?_
                        refine J.front 11 rfl ?_
                        refine J.front 11 rfl ?_
                        refine J.front 11 rfl ?_
                        refine J.front 11 rfl ?_
                        refine J.front 9 rfl ?_
                        refine J.front 11 rfl ?_
                        refine J.front 11 rfl ?_
                        refine J.nil ?_
                        have e := Option.some.inj ht1010
                        subst e
                        exact ⟨rfl, ⟨rfl, rfl, rfl, rfl, rfl, trivial⟩, rfl, rfl⟩
                      · have ht1010 := cf hc1011 ht1010
                        refine J.skip rfl rfl rfl rfl hc1011 ?_
                        refine J.skip rfl rfl rfl rfl hc1011 ?_
                        refine J.skip rfl rfl rfl rfl hc1011 ?_
                        refine J.skip rfl rfl rfl rfl hc1011 ?_
                        refine J.val (v := .bool false) rfl rfl (V.pickF rfl hc1011 rfl) ?_
                        refine J.nil ?_
                        have e := Option.some.inj ht1010
                        subst e
                        exact ⟨rfl, ⟨rfl, rfl, rfl, rfl, rfl, trivial⟩, rfl, rfl⟩
                    · rintro ρ _ _ ⟨hf, rfl, rfl⟩
                      obtain ⟨ρ, rfl⟩ := hf.ex
                      refine J.val (v := .bool t1009) rfl rfl (V.mv rfl) ?_
                      refine J.cut 3 ?_
                      refine @J.meet _ _ _ _ _ _ _ _ _ _ (fun ρ K' L' => Fits [(117, .bool (t1009 && (decide (i926 = 0)))), (2, .pointer (some ⟨b540, 0, none⟩)), (15, .slice ad927 l924.length cp928), (16, .int .i64 i925)] ρ ∧ K887 = K' ∧ L' = Row Hp.nil 63 (.cons (.int .i64) (.one (.int .i64))) (.slice ad927 l924.length cp928) l924 :: Cl b913 26 [.slice ad906 l903.length cp907] :: Row Hp.nil 60 (.cons (.int .i64) (.one .bool)) (.slice ad906 l903.length cp907) l903 :: Cl b892 28 [.int .i64 i871, .slice ad877 l872.length cp878, .slice ad879 l873.length cp880, .slice ad881 l874.length cp882] :: Row Hp.nil 60 (.cons (.int .i64) (.one .bool)) (.slice ad881 l874.length cp882) l874 :: Row K887 26 (.one (.sl (.cons (.int .i64) (.one .bool)))) (.slice ad879 l873.length cp880) l873 :: Row Hp.nil 63 (.cons (.int .i64) (.one (.int .i64))) (.slice ad877 l872.length cp878) l872 :: Cl b580 28 [.int .i64 i559, .slice ad565 l560.length cp566, .slice ad567 l561.length cp568, .slice ad569 l562.length cp570] :: Row Hp.nil 60 (.cons (.int .i64) (.one .bool)) (.slice ad569 l562.length cp570) l562 :: Row K575 26 (.one (.sl (.cons (.int .i64) (.one .bool)))) (.slice ad567 l561.length cp568) l561 :: Row Hp.nil 63 (.cons (.int .i64) (.one (.int .i64))) (.slice ad565 l560.length cp566) l560 :: Cl b540 28 [.int .i64 xa.1, .slice adxa_1 xa.2.1.length cpxa_1, .slice adxa_2 xa.2.2.1.length cpxa_2, .slice adxa_3 xa.2.2.2.length cpxa_3] :: F) ?_ ?_
                      · skip
                        rcases bt (t1009) with hc1023 | hc1023
                        · skip
                          refine J.run rfl rfl rfl hc1023 ?_
                          refine J.val (v := .int .i64 i926) rfl rfl (V.mv rfl) ?_
                          refine J.run rfl rfl rfl hc1023 ?_
                          refine J.val (v := .bool (decide (i926 = 0))) rfl rfl (V.eql rfl rfl) ?_
                          refine J.val (v := .bool (decide (i926 = 0))) rfl rfl (V.pickT rfl hc1023 rfl) ?_
                          refine J.nil ?_
                          exact ⟨rfl, ⟨(by simp only [hc1023]; rfl), rfl, rfl, rfl, trivial⟩, rfl, rfl⟩
                        · skip
                          refine J.skip rfl rfl rfl rfl hc1023 ?_
                          refine J.skip rfl rfl rfl rfl hc1023 ?_
                          refine J.val (v := .bool false) rfl rfl (V.pickF rfl hc1023 rfl) ?_
                          refine J.nil ?_
                          exact ⟨rfl, ⟨(by simp only [hc1023]; rfl), rfl, rfl, rfl, trivial⟩, rfl, rfl⟩
                      · rintro ρ _ _ ⟨hf, rfl, rfl⟩
                        obtain ⟨ρ, rfl⟩ := hf.ex
                        refine J.val (v := .bool (t1009 && (decide (i926 = 0)))) rfl rfl (V.mv rfl) ?_
                        refine J.cut 7 ?_
                        obtain ⟨t1031, ht1032, h⟩ := ob h
                        refine @J.meet _ _ _ _ _ _ _ _ _ _ (fun ρ K' L' => Fits [(125, .bool t1031), (2, .pointer (some ⟨b540, 0, none⟩)), (15, .slice ad927 l924.length cp928)] ρ ∧ K887 = K' ∧ L' = Row Hp.nil 63 (.cons (.int .i64) (.one (.int .i64))) (.slice ad927 l924.length cp928) l924 :: Cl b913 26 [.slice ad906 l903.length cp907] :: Row Hp.nil 60 (.cons (.int .i64) (.one .bool)) (.slice ad906 l903.length cp907) l903 :: Cl b892 28 [.int .i64 i871, .slice ad877 l872.length cp878, .slice ad879 l873.length cp880, .slice ad881 l874.length cp882] :: Row Hp.nil 60 (.cons (.int .i64) (.one .bool)) (.slice ad881 l874.length cp882) l874 :: Row K887 26 (.one (.sl (.cons (.int .i64) (.one .bool)))) (.slice ad879 l873.length cp880) l873 :: Row Hp.nil 63 (.cons (.int .i64) (.one (.int .i64))) (.slice ad877 l872.length cp878) l872 :: Cl b580 28 [.int .i64 i559, .slice ad565 l560.length cp566, .slice ad567 l561.length cp568, .slice ad569 l562.length cp570] :: Row Hp.nil 60 (.cons (.int .i64) (.one .bool)) (.slice ad569 l562.length cp570) l562 :: Row K575 26 (.one (.sl (.cons (.int .i64) (.one .bool)))) (.slice ad567 l561.length cp568) l561 :: Row Hp.nil 63 (.cons (.int .i64) (.one (.int .i64))) (.slice ad565 l560.length cp566) l560 :: Cl b540 28 [.int .i64 xa.1, .slice adxa_1 xa.2.1.length cpxa_1, .slice adxa_2 xa.2.2.1.length cpxa_2, .slice adxa_3 xa.2.2.2.length cpxa_3] :: F) ?_ ?_
                        · skip
                          rcases bt (t1009 && (decide (i926 = 0))) with hc1033 | hc1033
                          · have ht1032 := ct hc1033 ht1032
                            refine J.run rfl rfl rfl hc1033 ?_
                            refine J.val (v := .int .i64 i925) rfl rfl (V.mv rfl) ?_
                            refine J.run rfl rfl rfl hc1033 ?_
                            refine J.val rfl rfl (V.fad Try.underlying28 rfl nz22 rfl) ?_
                            refine J.run rfl rfl rfl hc1033 ?_
                            refine J.val (v := .slice adxa_1 xa.2.1.length cpxa_1) rfl rfl (V.ld rfl (Ld.sc sc22 (Rd.cl 11 rfl rfl))) ?_
                            refine J.run rfl rfl rfl hc1033 ?_
                            obtain ⟨r1034, hr1035, ht1032⟩ := ob ht1032
                            refine J.op rfl (A.call (L1 := []) Try.call30 rfl (ref17_PutBounds_ok (fxa_1.mono (hK576.trans hK888)) hr1035) rfl rfl) ?_
                            rintro _ _ _ ⟨v1037, _, rfl, ⟨⟨s1036, rfl, rfl, rfl⟩, rfl⟩, _, rfl⟩
                            refine J.run rfl rfl rfl hc1033 ?_
                            refine J.val (v := .int .i64 (((s1036.length : Nat) : Int))) rfl rfl (V.lens Try.underlying9 rfl) ?_
                            refine J.run rfl rfl rfl hc1033 ?_
                            refine J.val (v := .bool (decide (i925 = (((s1036.length : Nat) : Int))))) rfl rfl (V.eql rfl rfl) ?_
                            refine J.val (v := .bool (decide (i925 = (((s1036.length : Nat) : Int))))) rfl rfl (V.pickT rfl hc1033 rfl) ?_
                            refine J.nil ?_
                            have e := Option.some.inj ht1032
                            subst e
                            exact ⟨rfl, ⟨rfl, rfl, rfl, trivial⟩, rfl, rfl⟩
                          · have ht1032 := cf hc1033 ht1032
                            refine J.skip rfl rfl rfl rfl hc1033 ?_
                            refine J.skip rfl rfl rfl rfl hc1033 ?_
                            refine J.skip rfl rfl rfl rfl hc1033 ?_
                            refine J.skip rfl rfl rfl rfl hc1033 ?_
                            refine J.skip rfl rfl rfl rfl hc1033 ?_
                            refine J.skip rfl rfl rfl rfl hc1033 ?_
                            refine J.val (v := .bool false) rfl rfl (V.pickF rfl hc1033 rfl) ?_
                            refine J.nil ?_
                            have e := Option.some.inj ht1032
                            subst e
                            exact ⟨rfl, ⟨rfl, rfl, rfl, trivial⟩, rfl, rfl⟩
                        · rintro ρ _ _ ⟨hf, rfl, rfl⟩
                          obtain ⟨ρ, rfl⟩ := hf.ex
                          refine J.val (v := .bool t1031) rfl rfl (V.mv rfl) ?_
                          refine J.cut 5 ?_
                          obtain ⟨t1050, ht1051, h⟩ := ob h
                          refine @J.meet _ _ _ _ _ _ _ _ _ _ (fun ρ K' L' => Fits [(131, .bool t1050)] ρ ∧ K887 = K' ∧ L' = Row Hp.nil 63 (.cons (.int .i64) (.one (.int .i64))) (.slice ad927 l924.length cp928) l924 :: Cl b913 26 [.slice ad906 l903.length cp907] :: Row Hp.nil 60 (.cons (.int .i64) (.one .bool)) (.slice ad906 l903.length cp907) l903 :: Cl b892 28 [.int .i64 i871, .slice ad877 l872.length cp878, .slice ad879 l873.length cp880, .slice ad881 l874.length cp882] :: Row Hp.nil 60 (.cons (.int .i64) (.one .bool)) (.slice ad881 l874.length cp882) l874 :: Row K887 26 (.one (.sl (.cons (.int .i64) (.one .bool)))) (.slice ad879 l873.length cp880) l873 :: Row Hp.nil 63 (.cons (.int .i64) (.one (.int .i64))) (.slice ad877 l872.length cp878) l872 :: Cl b580 28 [.int .i64 i559, .slice ad565 l560.length cp566, .slice ad567 l561.length cp568, .slice ad569 l562.length cp570] :: Row Hp.nil 60 (.cons (.int .i64) (.one .bool)) (.slice ad569 l562.length cp570) l562 :: Row K575 26 (.one (.sl (.cons (.int .i64) (.one .bool)))) (.slice ad567 l561.length cp568) l561 :: Row Hp.nil 63 (.cons (.int .i64) (.one (.int .i64))) (.slice ad565 l560.length cp566) l560 :: Cl b540 28 [.int .i64 xa.1, .slice adxa_1 xa.2.1.length cpxa_1, .slice adxa_2 xa.2.2.1.length cpxa_2, .slice adxa_3 xa.2.2.2.length cpxa_3] :: F) ?_ ?_
                          · skip
                            rcases bt (t1031) with hc1052 | hc1052
                            · have ht1051 := ct hc1052 ht1051
                              refine J.run rfl rfl rfl hc1052 ?_
                              refine J.val (v := .slice ad927 l924.length cp928) rfl rfl (V.mv rfl) ?_
                              refine J.run rfl rfl rfl hc1052 ?_
                              refine J.val rfl rfl (V.fad Try.underlying28 rfl nz22 rfl) ?_
                              refine J.run rfl rfl rfl hc1052 ?_
                              refine J.val (v := .slice adxa_1 xa.2.1.length cpxa_1) rfl rfl (V.ld rfl (Ld.sc sc22 (Rd.cl 11 rfl rfl))) ?_
                              refine J.run rfl rfl rfl hc1052 ?_
                              obtain ⟨r1053, hr1054, ht1051⟩ := ob ht1051
                              refine J.op rfl (A.call (L1 := [Row Hp.nil 63 (.cons (.int .i64) (.one (.int .i64))) (.slice ad927 l924.length cp928) l924]) Try.call23 rfl (Tr.lend (Hp.nil_le _) (by decide) (fun K1055 hK1056 f1057 => ref17_Bounds_ok f1057 ((fxa_1.mono (hK576.trans hK888)).mono hK1056) hr1054)) rfl rfl) ?_
                              rintro _ _ _ ⟨v1059, _, rfl, ⟨⟨_, ⟨t1058, rfl, rfl, rfl⟩, rfl⟩, rfl⟩, _, rfl⟩
                              refine J.val (v := .bool t1058) rfl rfl (V.pickT rfl hc1052 rfl) ?_
                              refine J.nil ?_
                              have e := Option.some.inj ht1051
                              subst e
                              exact ⟨rfl, ⟨rfl, trivial⟩, rfl, rfl⟩
                            · have ht1051 := cf hc1052 ht1051
                              refine J.skip rfl rfl rfl rfl hc1052 ?_
                              refine J.skip rfl rfl rfl rfl hc1052 ?_
                              refine J.skip rfl rfl rfl rfl hc1052 ?_
                              refine J.skip rfl rfl rfl rfl hc1052 ?_
                              refine J.val (v := .bool false) rfl rfl (V.pickF rfl hc1052 rfl) ?_
                              refine J.nil ?_
                              have e := Option.some.inj ht1051
                              subst e
                              exact ⟨rfl, ⟨rfl, trivial⟩, rfl, rfl⟩
                          · rintro ρ _ _ ⟨hf, rfl, rfl⟩
                            obtain ⟨ρ, rfl⟩ := hf.ex
                            refine J.val (v := .bool t1050) rfl rfl (V.mv rfl) ?_
                            refine J.cut 2 ?_
                            obtain ⟨t1069, ht1070, h⟩ := ob h
                            refine @J.meet _ _ _ _ _ _ _ _ _ _ (fun ρ K' L' => Fits [(134, .bool t1069)] ρ ∧ K887 = K' ∧ L' = Row Hp.nil 63 (.cons (.int .i64) (.one (.int .i64))) (.slice ad927 l924.length cp928) l924 :: Cl b913 26 [.slice ad906 l903.length cp907] :: Row Hp.nil 60 (.cons (.int .i64) (.one .bool)) (.slice ad906 l903.length cp907) l903 :: Cl b892 28 [.int .i64 i871, .slice ad877 l872.length cp878, .slice ad879 l873.length cp880, .slice ad881 l874.length cp882] :: Row Hp.nil 60 (.cons (.int .i64) (.one .bool)) (.slice ad881 l874.length cp882) l874 :: Row K887 26 (.one (.sl (.cons (.int .i64) (.one .bool)))) (.slice ad879 l873.length cp880) l873 :: Row Hp.nil 63 (.cons (.int .i64) (.one (.int .i64))) (.slice ad877 l872.length cp878) l872 :: Cl b580 28 [.int .i64 i559, .slice ad565 l560.length cp566, .slice ad567 l561.length cp568, .slice ad569 l562.length cp570] :: Row Hp.nil 60 (.cons (.int .i64) (.one .bool)) (.slice ad569 l562.length cp570) l562 :: Row K575 26 (.one (.sl (.cons (.int .i64) (.one .bool)))) (.slice ad567 l561.length cp568) l561 :: Row Hp.nil 63 (.cons (.int .i64) (.one (.int .i64))) (.slice ad565 l560.length cp566) l560 :: Cl b540 28 [.int .i64 xa.1, .slice adxa_1 xa.2.1.length cpxa_1, .slice adxa_2 xa.2.2.1.length cpxa_2, .slice adxa_3 xa.2.2.2.length cpxa_3] :: F) ?_ ?_
                            · skip
                              rcases bt (t1050) with hc1071 | hc1071
                              · have ht1070 := ct hc1071 ht1070
                                refine J.run rfl rfl rfl hc1071 ?_
                                obtain ⟨r1072, hr1073, ht1070⟩ := ob ht1070
                                refine J.op rfl (A.call (L1 := []) Try.call9 rfl (law17_awake_ok hr1073) rfl rfl) ?_
                                rintro _ _ _ ⟨v1075, _, rfl, ⟨⟨t1074, rfl, rfl, rfl⟩, rfl⟩, _, rfl⟩
                                refine J.val (v := .bool t1074) rfl rfl (V.pickT rfl hc1071 rfl) ?_
                                refine J.nil ?_
                                have e := Option.some.inj ht1070
                                subst e
                                exact ⟨rfl, ⟨rfl, trivial⟩, rfl, rfl⟩
                              · have ht1070 := cf hc1071 ht1070
                                refine J.skip rfl rfl rfl rfl hc1071 ?_
                                refine J.val (v := .bool false) rfl rfl (V.pickF rfl hc1071 rfl) ?_
                                refine J.nil ?_
                                have e := Option.some.inj ht1070
                                subst e
                                exact ⟨rfl, ⟨rfl, trivial⟩, rfl, rfl⟩
                            · rintro ρ _ _ ⟨hf, rfl, rfl⟩
                              obtain ⟨ρ, rfl⟩ := hf.ex
                              refine J.val (v := .bool t1069) rfl rfl (V.as rfl) ?_
                              refine J.nil ?_
                              refine CJ.ret ?_
                              have e := Option.some.inj h
                              subst e
                              exact ⟨_, [], Res.one rfl rfl, ⟨t1069, rfl, rfl, rfl⟩, (hK576.trans hK888), fun w hs => (Sep.dropAt 0 rfl (Sep.dropAt 0 rfl (Sep.dropAt 0 rfl (Sep.dropAt 0 rfl (Sep.dropAt 0 rfl (Sep.dropAt 0 rfl (Sep.dropAt 0 rfl (Sep.dropAt 0 rfl (Sep.dropAt 0 rfl (Sep.dropAt 0 rfl (Sep.dropAt 0 rfl (Sep.dropAt 0 rfl hs))))))))))))⟩
end Go.Proofs.Ytjhgiaafaahbjaa
