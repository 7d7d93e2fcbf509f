/- What Go functions answer: generated. -/
import Derived.Test.YtjhgiaafaahbjaaF1
namespace Go.Proofs.Ytjhgiaafaahbjaa
open Go.RowKit
set_option linter.unusedVariables false
noncomputable def fn_row_Subst_l1 (xb : (List Int)) (l368 : (List (Int × Bool))) : ((List (Int × Bool)) × Int) → Option (((List (Int × Bool)) × Int) ⊕ (List (Int × Bool))) := fun ((l596, i601) : ((List (Int × Bool)) × Int)) => cond (decide (i601 < (((l368.length : Nat) : Int)))) ((getI l596 i601).bind fun x659 => (getI xb x659.1).bind fun x683 => (getI l596 i601).bind fun x692 => (some (l596.set i601.toNat (x683, x692.2))).bind fun z699 => some (.inl ((z699, IntKind.wrap .i64 (i601 + 1))))) (some (.inr (l596)))
noncomputable def fn_row_Subst (xa : (List (Int × Bool))) (xb : (List Int)) : Option (((List (Int × Bool)) × Int)) :=
  (fn_row_within xa (((xb.length : Nat) : Int))).bind fun t360 => cond (!t360) (some (([], 7))) ((fn_row_Clone xa).bind fun l368 => (loop (fn_row_Subst_l1 xb l368) (l368, 0) : Option ((List (Int × Bool)))).bind fun l537 => some ((l537, 0)))
set_option maxRecDepth 100000 in
set_option maxHeartbeats 4000000 in
theorem row_Subst_ok {K : Hp} {xa : (List (Int × Bool))} {xb : (List Int)} {adxa_0 : Option Addr} {cpxa_0 : Nat} {adxb_0 : Option Addr} {cpxb_0 : Nat} (fxa_0 : Is K (.sl (.cons (.int .i64) (.one .bool))) [.slice adxa_0 xa.length cpxa_0] xa) (fxb_0 : Is K (.sl (.int .i64)) [.slice adxb_0 xb.length cpxb_0] xb) {r : ((List (Int × Bool)) × Int)} (h : fn_row_Subst xa xb = some r) :
    Tr Try.prog 32 #[.agg #[.slice adxa_0 xa.length cpxa_0], .slice adxb_0 xb.length cpxb_0] K [] (fun v K' L' => (∃ (l350 : (List (Int × Bool))) (i355 : Int) (ad351 : Option Addr) (cp352 : Nat), (l350, i355) = r ∧ .tuple #[.agg #[.slice ad351 l350.length cp352], .int .i64 i355] = v ∧ L' = [Row Hp.nil 60 (.cons (.int .i64) (.one .bool)) (.slice ad351 l350.length cp352) l350]) ∧ K = K') := by
  refine Tr.k ?_
  refine Tr.of Try.func32 rfl Try.ntmps32 rfl (fun E F => ?_)
  unfold fn_row_Subst at h
  refine CJ.seq ?_
  refine CJ.region ?_
  refine J.op rfl (A.box (v := .agg #[.slice adxa_0 xa.length cpxa_0]) (cs := [.slice adxa_0 xa.length cpxa_0]) rfl rfl) ?_
  rintro _ _ _ ⟨b356, rfl, rfl, rfl⟩
  refine J.op rfl (A.alloc (cs := [.slice none 0 0]) inf26 rfl) ?_
  rintro _ _ _ ⟨b357, rfl, rfl, rfl⟩
  refine J.val (v := .int .i64 0) rfl rfl (V.as rfl) ?_
  refine J.nil ?_
  refine CJ.seq ?_
  refine CJ.seq ?_
  refine CJ.region ?_
  refine J.val (v := .agg #[.slice adxa_0 xa.length cpxa_0]) rfl rfl (V.ld rfl (Ld.agg (cs := [.slice adxa_0 xa.length cpxa_0]) Try.underlying26 sz26 rfl (Rd.cls 1 0 rfl rfl))) ?_
  refine J.val (v := .slice adxb_0 xb.length cpxb_0) rfl rfl (V.mv rfl) ?_
  refine J.val (v := .int .i64 (((xb.length : Nat) : Int))) rfl rfl (V.len Try.underlying29 rfl) ?_
  obtain ⟨r358, hr359, h⟩ := ob h
  refine J.op rfl (A.call (L1 := []) Try.call56 rfl (row_within_ok fxa_0 hr359) rfl rfl) ?_
  rintro _ _ _ ⟨v361, _, rfl, ⟨⟨t360, rfl, rfl, rfl⟩, rfl⟩, _, rfl⟩
  refine J.val (v := .bool (!t360)) rfl rfl (V.not rfl) ?_
  refine J.nil ?_
  refine CJ.cond rfl (fun hc364 => ?_) (fun hc364 => ?_)
  · have h := ct hc364 h
    refine CJ.seq ?_
    refine CJ.region ?_
    refine J.val (v := .agg #[.slice none 0 0]) rfl rfl (V.build inf26 places26 rfl rfl) ?_
    refine J.op rfl (A.store (v := .agg #[.slice none 0 0]) (cs' := [.slice none 0 0]) sz26 rfl rfl rfl rfl rfl rfl) ?_
    rintro _ _ _ ⟨rfl, rfl, rfl⟩
    refine J.val (v := .int .i64 7) rfl rfl (V.as rfl) ?_
    refine J.nil ?_
    refine CJ.by (fun w hs => Sep.rowNil (e := 60) (t := (.cons (.int .i64) (.one .bool))) hs) ?_
    refine CJ.ret ?_
    have e := Option.some.inj h
    subst e
    exact ⟨_, [Row Hp.nil 60 (.cons (.int .i64) (.one .bool)) (.slice none ((([] : List (Int × Bool))).length) 0) (([] : List (Int × Bool)))], Res.two rfl ⟨_, _, rfl, Ld.agg (cs := [.slice none 0 0]) Try.underlying26 sz26 rfl (Rd.cls 1 0 rfl rfl)⟩ rfl, ⟨[], 7, none, 0, rfl, rfl, rfl⟩, (Hp.le_refl _), fun w hs => (Sep.dropAt 1 rfl (Sep.dropAt 1 rfl hs))⟩
  · have h := cf hc364 h
    refine CJ.skip ?_
    refine CJ.seq ?_
    refine CJ.region ?_
    refine J.val (v := .agg #[.slice adxa_0 xa.length cpxa_0]) rfl rfl (V.ld rfl (Ld.agg (cs := [.slice adxa_0 xa.length cpxa_0]) Try.underlying26 sz26 rfl (Rd.cls 1 0 rfl rfl))) ?_
    obtain ⟨r366, hr367, h⟩ := ob h
    refine J.op rfl (A.call (L1 := []) Try.call57 rfl (row_Clone_ok fxa_0 hr367) rfl rfl) ?_
    rintro _ _ _ ⟨v372, _, rfl, ⟨⟨l368, ad369, cp370, rfl, rfl, rfl⟩, rfl⟩, _, rfl⟩
    refine J.wit Row.hn (fun hn371 => ?_)
    refine J.op rfl (A.alloc (cs := [.slice none 0 0]) inf26 rfl) ?_
    rintro _ _ _ ⟨b376, rfl, rfl, rfl⟩
    refine J.op rfl (A.store (v := .agg #[.slice ad369 l368.length cp370]) (cs' := [.slice ad369 l368.length cp370]) sz26 rfl rfl rfl rfl rfl rfl) ?_
    rintro _ _ _ ⟨rfl, rfl, rfl⟩
    refine J.nil ?_
    refine CJ.seq ?_
    refine CJ.seq ?_
    refine CJ.region ?_
    refine J.val rfl rfl (V.fad Try.underlying26 rfl nz24 rfl) ?_
    refine J.val (v := .slice ad369 l368.length cp370) rfl rfl (V.ld rfl (Ld.sc sc24 (Rd.cl 0 rfl rfl))) ?_
    refine J.val (v := .int .i64 (((l368.length : Nat) : Int))) rfl rfl (V.len Try.underlying24 rfl) ?_
    refine J.val (v := .int .i64 0) rfl rfl (V.mv rfl) ?_
    refine J.nil ?_
    obtain ⟨o542, ho543, h⟩ := ob h
    refine CJ.meetN (fun ρ K' L' => ∃ (l537 : (List (Int × Bool))) (ad538 : Option Addr) (cp539 : Nat), l537 = o542 ∧ Fits [(4, .pointer (some ⟨b357, 0, none⟩)), (6, .pointer (some ⟨b376, 0, none⟩))] ρ ∧ K = K' ∧ L' = Cl b357 26 [.slice none 0 0] :: Cl b376 26 [.slice ad538 l537.length cp539] :: Row Hp.nil 60 (.cons (.int .i64) (.one .bool)) (.slice ad538 l537.length cp539) l537 :: F) ?_ ?_
    · skip
      refine CJ.block ?_
      refine CJ.dropAt 3 rfl ?_
      refine CJ.front 1 rfl ?_
      refine CJ.front 1 rfl ?_
      refine CJ.front 2 rfl ?_
      refine CJ.loop (fun s ρ K' L' => ∃ (l596 : (List (Int × Bool))) (i601 : Int) (ad597 : Option Addr) (cp598 : Nat), (l596, i601) = s ∧ Fits [(1, .slice adxb_0 xb.length cpxb_0), (4, .pointer (some ⟨b357, 0, none⟩)), (6, .pointer (some ⟨b376, 0, none⟩)), (18, .slice ad597 l596.length cp598), (19, .int .i64 (((l368.length : Nat) : Int))), (20, .int .i64 i601)] ρ ∧ K = K' ∧ L' = Cl b357 26 [.slice none 0 0] :: Cl b376 26 [.slice ad597 l596.length cp598] :: Row Hp.nil 60 (.cons (.int .i64) (.one .bool)) (.slice ad597 l596.length cp598) l596 :: F) ho543 ⟨l368, 0, ad369, cp370, rfl, ⟨rfl, rfl, rfl, rfl, rfl, rfl, trivial⟩, rfl, rfl⟩ ?_
      rintro s ρ _ _ r657 ⟨l596, i601, ad597, cp598, rfl, hf655, rfl, rfl⟩ h654
      obtain ⟨ρ, rfl⟩ := hf655.ex
      refine CJ.front 2 rfl ?_
      refine CJ.wit Row.hn (fun hn600 => ?_)
      refine CJ.seq ?_
      refine CJ.region ?_
      refine J.val (v := .bool (decide (i601 < (((l368.length : Nat) : Int))))) rfl rfl (V.lss rfl rfl) ?_
      refine J.nil ?_
      refine CJ.seq ?_
      refine CJ.cond rfl (fun hc658 => ?_) (fun hc658 => ?_)
      · have h654 := ct hc658 h654
        refine CJ.skip ?_
        refine CJ.seq ?_
        refine CJ.block ?_
        refine CJ.seq ?_
        refine CJ.region ?_
        refine J.val (v := .int .i64 i601) rfl rfl (V.mv rfl) ?_
        obtain ⟨x659, hx660, h654⟩ := ob h654
        obtain ⟨p661, p662, p663⟩ := getI_some hx660
        obtain ⟨g664, e665⟩ := hn600 (fun e => by rw [e] at p662; simp at p662)
        refine J.val rfl rfl (V.iad Try.underlying24 sz60 rfl e665 rfl p661 p663) ?_
        refine J.val (v := .agg #[.int .i64 x659.1, .bool x659.2]) rfl rfl (V.ld rfl (Ld.agg Try.underlying60 sz60 rfl (Rd.rows (K0 := Hp.nil) (s := (.cons (.int .i64) (.one .bool))) 0 rfl e665 p662 (cs := [.int .i64 x659.1, .bool x659.2]) rfl (by rintro _ ⟨_, _, rfl, _, rfl, rfl⟩; rfl)))) ?_
        refine J.op rfl (A.alloc (cs := [.int .i64 0, .bool false]) inf60 rfl) ?_
        rintro _ _ _ ⟨b666, rfl, rfl, rfl⟩
        refine J.val (v := .int .i64 i601) rfl rfl (V.as rfl) ?_
        refine J.op rfl (A.store (v := .agg #[.int .i64 x659.1, .bool x659.2]) (cs' := [.int .i64 x659.1, .bool x659.2]) sz60 rfl rfl rfl rfl rfl rfl) ?_
        rintro _ _ _ ⟨rfl, rfl, rfl⟩
        refine J.nil ?_
        refine CJ.mix [Cl b666 60 [.int .i64 x659.1, .bool x659.2], Row Hp.nil 60 (.cons (.int .i64) (.one .bool)) (.slice ad597 l596.length cp598) l596, Cl b357 26 [.slice none 0 0], Cl b376 26 [.slice ad597 l596.length cp598]] [] [0, 1, 2, 3, 4, 5, 6, 7, 8, 9] [10] mixO (by decide +kernel) ⟨0, rfl, 0, rfl, 0, rfl, 0, rfl, trivial⟩ rfl rfl rfl ?_
        refine JM.nil ?_
        refine JQ.val rfl rfl (V.fad Try.underlying26 rfl nz24 rfl) ?_
        refine JQ.val (v := .slice ad597 l596.length cp598) rfl rfl (V.ld rfl (Ld.sc sc24 (Rd.cl 3 rfl rfl))) ?_
        refine JQ.val (v := .int .i64 i601) rfl rfl (V.mv rfl) ?_
        refine JQ.val (v := .slice adxb_0 xb.length cpxb_0) rfl rfl (V.mv rfl) ?_
        refine JQ.val rfl rfl (V.fad Try.underlying60 rfl nz3 rfl) ?_
        refine JQ.val (v := .int .i64 x659.1) rfl rfl (V.ld rfl (Ld.sc sc3 (Rd.cl 0 rfl rfl))) ?_
        obtain ⟨x683, hx684, h654⟩ := ob h654
        obtain ⟨p685, p686, p687⟩ := getI_some hx684
        obtain ⟨b688, o689, e690, a691⟩ := (fxb_0).at p686
        refine JQ.val rfl rfl (V.iad Try.underlying29 sz3 rfl e690 rfl p685 p687) ?_
        refine JQ.val (v := .int .i64 x683) rfl rfl (V.ld rfl (Ld.sc sc3 (Rd.k (a691).int (Hp.le_refl _)))) ?_
        obtain ⟨x692, hx693, h654⟩ := ob h654
        obtain ⟨p694, p695, p696⟩ := getI_some hx693
        obtain ⟨g697, e698⟩ := hn600 (fun e => by rw [e] at p695; simp at p695)
        refine JQ.val rfl rfl (V.iad Try.underlying24 sz60 rfl e698 rfl p694 p696) ?_
        refine JQ.val rfl rfl (V.fad Try.underlying60 rfl nz3 rfl) ?_
        refine JQ.nil ?_
        refine J.front 1 rfl ?_
        obtain ⟨z699, hz700, h654⟩ := ob h654
        have e701 := Option.some.inj hz700
        have hl702 : z699.length = l596.length := by rw [← e701, List.length_set]
        refine J.op rfl (A.storeR (ty := (.cons (.int .i64) (.one .bool))) (q := 0) (y0 := (x683, x692.2)) (zs := z699) sz3 rfl rfl rfl rfl e698 p695 (by simp [Tp.size]) (by decide) (by rintro _ ⟨_, _, rfl, _, rfl, rfl⟩; exact ⟨_, _, rfl, rfl, rfl, rfl⟩) e701) ?_
        rintro _ _ _ ⟨rfl, rfl, rfl⟩
        have hn703 : z699 ≠ [] → _ := fun h => hn600 (fun e => h (List.length_eq_zero_iff.1 (by rw [hl702]; exact List.length_eq_zero_iff.2 e)))
        refine J.nil ?_
        refine CJ.region ?_
        refine J.val (v := .int .i64 (IntKind.wrap .i64 (i601 + 1))) rfl rfl (V.add rfl rfl) ?_
        refine J.val (v := .int .i64 (IntKind.wrap .i64 (i601 + 1))) rfl rfl (V.mv rfl) ?_
        refine J.dropAt 1 rfl ?_
        refine J.front 2 rfl ?_
        refine J.front 2 rfl ?_
        refine J.nil ?_
        have e := Option.some.inj h654
        subst e
        exact ⟨rfl, ⟨z699, IntKind.wrap .i64 (i601 + 1), ad597, cp598, rfl, ⟨rfl, rfl, rfl, (by rw [hl702]; rfl), rfl, rfl, trivial⟩, rfl, (by rw [hl702]; first | done | rfl)⟩⟩
      · have h654 := cf hc658 h654
        refine CJ.front 2 rfl ?_
        refine CJ.front 2 rfl ?_
        refine CJ.exit ?_
        have e := Option.some.inj h654
        subst e
        refine ⟨nofun, fun e => ?_⟩
        subst e
        exact ⟨rfl, ⟨l596, ad597, cp598, rfl, ⟨rfl, rfl, trivial⟩, rfl, rfl⟩⟩
    · rintro ρ _ _ ⟨l537, ad538, cp539, rfl, hf704, rfl, rfl⟩
      obtain ⟨ρ, rfl⟩ := hf704.ex
      refine PJ.front 2 rfl ?_
      refine PJ.wit Row.hn (fun hn541 => ?_)
      refine PJ.done ?_
      refine CJ.seq ?_
      refine CJ.region ?_
      refine J.val (v := .agg #[.slice ad538 l537.length cp539]) rfl rfl (V.ld rfl (Ld.agg (cs := [.slice ad538 l537.length cp539]) Try.underlying26 sz26 rfl (Rd.cls 2 0 rfl rfl))) ?_
      refine J.front 1 rfl ?_
      refine J.op rfl (A.store (v := .agg #[.slice ad538 l537.length cp539]) (cs' := [.slice ad538 l537.length cp539]) sz26 rfl rfl rfl rfl rfl rfl) ?_
      rintro _ _ _ ⟨rfl, rfl, rfl⟩
      refine J.val (v := .int .i64 0) rfl rfl (V.as rfl) ?_
      refine J.nil ?_
      refine CJ.ret ?_
      have e := Option.some.inj h
      subst e
      exact ⟨_, [Row Hp.nil 60 (.cons (.int .i64) (.one .bool)) (.slice ad538 l537.length cp539) l537], Res.two rfl ⟨_, _, rfl, Ld.agg (cs := [.slice ad538 l537.length cp539]) Try.underlying26 sz26 rfl (Rd.cls 0 0 rfl rfl)⟩ rfl, ⟨l537, 0, ad538, cp539, rfl, rfl, rfl⟩, (Hp.le_refl _), fun w hs => (Sep.dropAt 1 rfl (Sep.dropAt 0 rfl hs))⟩
noncomputable def fn_relate_related_l1 (xa : (List (Int × Bool))) (xb : (List (Int × Bool))) (xc : Int) (xd : Int) : ((List (Int × Int × Int × Int × Bool)) × Int) → Option (((List (Int × Int × Int × Int × Bool)) × Int) ⊕ (List (Int × Int × Int × Int × Bool))) := fun ((l1175, i1180) : ((List (Int × Int × Int × Int × Bool)) × Int)) => cond (decide (i1180 < (((xa.length : Nat) : Int)))) ((getI xa i1180).bind fun x1321 => (getI xb i1180).bind fun x1330 => (app l1175 (([(x1321.1, x1330.1, xc, IntKind.wrap .i64 (xd + i1180), false)] : List (Int × Int × Int × Int × Bool)))).bind fun z1342 => (getI xb i1180).bind fun x1348 => cond (x1348.2) ((getI xb i1180).bind fun x1379 => (getI xa i1180).bind fun x1388 => (app z1342 (([(x1379.1, x1388.1, xc, IntKind.wrap .i64 (xd + i1180), true)] : List (Int × Int × Int × Int × Bool)))).bind fun z1400 => some (.inl ((z1400, IntKind.wrap .i64 (i1180 + 1))))) (some (.inl ((z1342, IntKind.wrap .i64 (i1180 + 1)))))) (some (.inr (l1175)))
noncomputable def fn_relate_related (xa : (List (Int × Bool))) (xb : (List (Int × Bool))) (xc : Int) (xd : Int) : Option ((List (Int × Int × Int × Int × Bool))) :=
  (loop (fn_relate_related_l1 xa xb xc xd) ([], 0) : Option ((List (Int × Int × Int × Int × Bool)))).bind fun l1053 => some (l1053)
set_option maxRecDepth 100000 in
set_option maxHeartbeats 4000000 in
theorem relate_related_ok {K : Hp} {xa : (List (Int × Bool))} {xb : (List (Int × Bool))} {xc : Int} {xd : Int} {adxa_0 : Option Addr} {cpxa_0 : Nat} {adxb_0 : Option Addr} {cpxb_0 : Nat} (fxa_0 : Is K (.sl (.cons (.int .i64) (.one .bool))) [.slice adxa_0 xa.length cpxa_0] xa) (fxb_0 : Is K (.sl (.cons (.int .i64) (.one .bool))) [.slice adxb_0 xb.length cpxb_0] xb) {r : (List (Int × Int × Int × Int × Bool))} (h : fn_relate_related xa xb xc xd = some r) :
    Tr Try.prog 58 #[.slice adxa_0 xa.length cpxa_0, .slice adxb_0 xb.length cpxb_0, .int .i64 xc, .int .i64 xd] K [] (fun v K' L' => (∃ (l702 : (List (Int × Int × Int × Int × Bool))) (ad703 : Option Addr) (cp704 : Nat), l702 = r ∧ .slice ad703 l702.length cp704 = v ∧ L' = [Row Hp.nil 65 (.cons (.int .i64) (.cons (.int .i64) (.cons (.int .i64) (.cons (.int .i64) (.one .bool))))) (.slice ad703 l702.length cp704) l702]) ∧ K = K') := by
  refine Tr.k ?_
  refine Tr.of Try.func58 rfl Try.ntmps58 rfl (fun E F => ?_)
  unfold fn_relate_related at h
  refine CJ.seq ?_
  refine CJ.region ?_
  refine J.val (v := .slice none 0 0) rfl rfl (V.as rfl) ?_
  refine J.nil ?_
  refine CJ.seq ?_
  refine CJ.region ?_
  refine J.val (v := .slice none 0 0) rfl rfl (V.as rfl) ?_
  refine J.nil ?_
  refine CJ.seq ?_
  refine CJ.seq ?_
  refine CJ.region ?_
  refine J.val (v := .slice adxa_0 xa.length cpxa_0) rfl rfl (V.mv rfl) ?_
  refine J.val (v := .int .i64 (((xa.length : Nat) : Int))) rfl rfl (V.len Try.underlying24 rfl) ?_
  refine J.val (v := .int .i64 0) rfl rfl (V.mv rfl) ?_
  refine J.nil ?_
  obtain ⟨o1058, ho1059, h⟩ := ob h
  refine CJ.meetN (fun ρ K' L' => ∃ (l1053 : (List (Int × Int × Int × Int × Bool))) (ad1054 : Option Addr) (cp1055 : Nat), l1053 = o1058 ∧ Fits [(9, .slice ad1054 l1053.length cp1055)] ρ ∧ K = K' ∧ L' = Row Hp.nil 65 (.cons (.int .i64) (.cons (.int .i64) (.cons (.int .i64) (.cons (.int .i64) (.one .bool))))) (.slice ad1054 l1053.length cp1055) l1053 :: F) ?_ ?_
  · skip
    refine CJ.block ?_
    refine CJ.by (fun w hs => Sep.rowNil (e := 65) (t := (.cons (.int .i64) (.cons (.int .i64) (.cons (.int .i64) (.cons (.int .i64) (.one .bool)))))) hs) ?_
    refine CJ.loop (fun s ρ K' L' => ∃ (l1175 : (List (Int × Int × Int × Int × Bool))) (i1180 : Int) (ad1176 : Option Addr) (cp1177 : Nat), (l1175, i1180) = s ∧ Fits [(0, .slice adxa_0 xa.length cpxa_0), (1, .slice adxb_0 xb.length cpxb_0), (2, .int .i64 xc), (3, .int .i64 xd), (9, .slice ad1176 l1175.length cp1177), (12, .int .i64 (((xa.length : Nat) : Int))), (13, .int .i64 i1180)] ρ ∧ K = K' ∧ L' = Row Hp.nil 65 (.cons (.int .i64) (.cons (.int .i64) (.cons (.int .i64) (.cons (.int .i64) (.one .bool))))) (.slice ad1176 l1175.length cp1177) l1175 :: F) ho1059 ⟨[], 0, none, 0, rfl, ⟨rfl, rfl, rfl, rfl, rfl, rfl, rfl, trivial⟩, rfl, rfl⟩ ?_
    rintro s ρ _ _ r1298 ⟨l1175, i1180, ad1176, cp1177, rfl, hf1296, rfl, rfl⟩ h1294
    obtain ⟨ρ, rfl⟩ := hf1296.ex
    refine CJ.wit Row.hn (fun hn1179 => ?_)
    refine CJ.seq ?_
    refine CJ.region ?_
    refine J.val (v := .bool (decide (i1180 < (((xa.length : Nat) : Int))))) rfl rfl (V.lss rfl rfl) ?_
    refine J.nil ?_
    refine CJ.seq ?_
    refine CJ.cond rfl (fun hc1299 => ?_) (fun hc1299 => ?_)
    · have h1294 := ct hc1299 h1294
      refine CJ.skip ?_
      refine CJ.seq ?_
      refine CJ.block ?_
      refine CJ.seq ?_
      refine CJ.region ?_
      refine J.val (v := .int .i64 i1180) rfl rfl (V.mv rfl) ?_
      refine J.val (v := .int .i64 i1180) rfl rfl (V.as rfl) ?_
      refine J.nil ?_
      refine CJ.seq ?_
      refine CJ.mix [Row Hp.nil 65 (.cons (.int .i64) (.cons (.int .i64) (.cons (.int .i64) (.cons (.int .i64) (.one .bool))))) (.slice ad1176 l1175.length cp1177) l1175] [([0, 1, 2, 3, 4, 5, 6, 7, 8, 9, 10, 11, 12, 13, 14, 15], 16)] [] [17, 18] mixO (by decide +kernel) ⟨0, rfl, trivial⟩ rfl rfl rfl ?_
      refine JM.cons ?_
      refine JQ.val (v := .slice ad1176 l1175.length cp1177) rfl rfl (V.mv rfl) ?_
      refine JQ.val (v := .slice adxa_0 xa.length cpxa_0) rfl rfl (V.mv rfl) ?_
      refine JQ.val (v := .int .i64 i1180) rfl rfl (V.mv rfl) ?_
      obtain ⟨x1321, hx1322, h1294⟩ := ob h1294
      obtain ⟨p1323, p1324, p1325⟩ := getI_some hx1322
      obtain ⟨b1326, o1327, e1328, a1329⟩ := (fxa_0).at p1324
      refine JQ.val rfl rfl (V.iad Try.underlying24 sz60 rfl e1328 rfl p1323 p1325) ?_
      refine JQ.val rfl rfl (V.fad Try.underlying60 rfl nz3 rfl) ?_
      refine JQ.val (v := .int .i64 x1321.1) rfl rfl (V.ld rfl (Ld.sc sc3 (Rd.k ((a1329).fst).int (Hp.le_refl _)))) ?_
      refine JQ.val (v := .slice adxb_0 xb.length cpxb_0) rfl rfl (V.mv rfl) ?_
      refine JQ.val (v := .int .i64 i1180) rfl rfl (V.mv rfl) ?_
      obtain ⟨x1330, hx1331, h1294⟩ := ob h1294
      obtain ⟨p1332, p1333, p1334⟩ := getI_some hx1331
      obtain ⟨b1335, o1336, e1337, a1338⟩ := (fxb_0).at p1333
      refine JQ.val rfl rfl (V.iad Try.underlying24 sz60 rfl e1337 rfl p1332 p1334) ?_
      refine JQ.val rfl rfl (V.fad Try.underlying60 rfl nz3 rfl) ?_
      refine JQ.val (v := .int .i64 x1330.1) rfl rfl (V.ld rfl (Ld.sc sc3 (Rd.k ((a1338).fst).int (Hp.le_refl _)))) ?_
      refine JQ.val (v := .int .i64 xc) rfl rfl (V.mv rfl) ?_
      refine JQ.val (v := .int .i64 xd) rfl rfl (V.mv rfl) ?_
      refine JQ.val (v := .int .i64 i1180) rfl rfl (V.mv rfl) ?_
      refine JQ.val (v := .int .i64 (IntKind.wrap .i64 (xd + i1180))) rfl rfl (V.add rfl rfl) ?_
      refine JQ.val (v := .agg #[.int .i64 x1321.1, .int .i64 x1330.1, .int .i64 xc, .int .i64 (IntKind.wrap .i64 (xd + i1180)), .bool false]) rfl rfl (V.build inf65 places65 rfl rfl) ?_
      refine JQ.nil ?_
      refine JA.op rfl (A.lit (K0 := Hp.nil) (ty := (.cons (.int .i64) (.cons (.int .i64) (.cons (.int .i64) (.cons (.int .i64) (.one .bool)))))) (xs := ([(x1321.1, x1330.1, xc, IntKind.wrap .i64 (xd + i1180), false)] : List (Int × Int × Int × Int × Bool))) Try.underlying34 inf65 rfl (by decide) rfl rfl rfl ⟨_, _, rfl, ⟨_, _, rfl, rfl, rfl, ⟨_, _, rfl, rfl, rfl, ⟨_, _, rfl, rfl, rfl, ⟨_, _, rfl, rfl, rfl, rfl⟩⟩⟩⟩, rfl⟩ rfl (by decide)) ?_
      rintro _ _ _ ⟨b1339, rfl, rfl, rfl⟩
      have hn1340 : ([(x1321.1, x1330.1, xc, IntKind.wrap .i64 (xd + i1180), false)] : List (Int × Int × Int × Int × Bool)) ≠ [] → ∃ g, (some ⟨b1339, 0, none⟩ : Option Addr) = some ⟨g, 0, none⟩ := fun _ => ⟨b1339, rfl⟩
      refine ⟨fun w hs => Hold.sub (Hp.le_refl _) ⟨1, rfl, trivial⟩ hs, ?_⟩
      refine JM.nil ?_
      refine JQ.nil ?_
      obtain ⟨z1342, hz1343, h1294⟩ := ob h1294
      refine J.front 1 rfl ?_
      refine J.op rfl (A.appR (Kr := Hp.nil) Try.underlying34 inf65 rfl rfl (by decide) (by decide) rfl rfl (Els.flat rfl) (Els.flat rfl) hz1343) ?_
      rintro _ _ _ ⟨v1344, rfl, rfl, rfl⟩
      refine J.wit Row.form ?_
      rintro ⟨ad1345, cp1346, rfl, _, _, hn1347⟩
      refine J.val (v := .slice ad1345 z1342.length cp1346) rfl rfl (V.as rfl) ?_
      refine J.nil ?_
      refine CJ.seq ?_
      refine CJ.region ?_
      refine J.val (v := .slice adxb_0 xb.length cpxb_0) rfl rfl (V.mv rfl) ?_
      refine J.val (v := .int .i64 i1180) rfl rfl (V.mv rfl) ?_
      obtain ⟨x1348, hx1349, h1294⟩ := ob h1294
      obtain ⟨p1350, p1351, p1352⟩ := getI_some hx1349
      obtain ⟨b1353, o1354, e1355, a1356⟩ := (fxb_0).at p1351
      refine J.val rfl rfl (V.iad Try.underlying24 sz60 rfl e1355 rfl p1350 p1352) ?_
      refine J.val rfl rfl (V.fad Try.underlying60 rfl nz4 rfl) ?_
      refine J.val (v := .bool x1348.2) rfl rfl (V.ld rfl (Ld.sc sc4 (Rd.k (((a1356).snd).one).bool (Hp.le_refl _)))) ?_
      refine J.nil ?_
      refine CJ.cond rfl (fun hc1357 => ?_) (fun hc1357 => ?_)
      · have h1294 := ct hc1357 h1294
        refine CJ.mix [Row Hp.nil 65 (.cons (.int .i64) (.cons (.int .i64) (.cons (.int .i64) (.cons (.int .i64) (.one .bool))))) (.slice ad1345 z1342.length cp1346) z1342] [([0, 1, 2, 3, 4, 5, 6, 7, 8, 9, 10, 11, 12, 13, 14, 15], 16)] [] [17, 18] mixO (by decide +kernel) ⟨0, rfl, trivial⟩ rfl rfl rfl ?_
        refine JM.cons ?_
        refine JQ.val (v := .slice ad1345 z1342.length cp1346) rfl rfl (V.mv rfl) ?_
        refine JQ.val (v := .slice adxb_0 xb.length cpxb_0) rfl rfl (V.mv rfl) ?_
        refine JQ.val (v := .int .i64 i1180) rfl rfl (V.mv rfl) ?_
        obtain ⟨x1379, hx1380, h1294⟩ := ob h1294
        obtain ⟨p1381, p1382, p1383⟩ := getI_some hx1380
        obtain ⟨b1384, o1385, e1386, a1387⟩ := (fxb_0).at p1382
        refine JQ.val rfl rfl (V.iad Try.underlying24 sz60 rfl e1386 rfl p1381 p1383) ?_
        refine JQ.val rfl rfl (V.fad Try.underlying60 rfl nz3 rfl) ?_
        refine JQ.val (v := .int .i64 x1379.1) rfl rfl (V.ld rfl (Ld.sc sc3 (Rd.k ((a1387).fst).int (Hp.le_refl _)))) ?_
        refine JQ.val (v := .slice adxa_0 xa.length cpxa_0) rfl rfl (V.mv rfl) ?_
        refine JQ.val (v := .int .i64 i1180) rfl rfl (V.mv rfl) ?_
        obtain ⟨x1388, hx1389, h1294⟩ := ob h1294
        obtain ⟨p1390, p1391, p1392⟩ := getI_some hx1389
        obtain ⟨b1393, o1394, e1395, a1396⟩ := (fxa_0).at p1391
        refine JQ.val rfl rfl (V.iad Try.underlying24 sz60 rfl e1395 rfl p1390 p1392) ?_
        refine JQ.val rfl rfl (V.fad Try.underlying60 rfl nz3 rfl) ?_
        refine JQ.val (v := .int .i64 x1388.1) rfl rfl (V.ld rfl (Ld.sc sc3 (Rd.k ((a1396).fst).int (Hp.le_refl _)))) ?_
        refine JQ.val (v := .int .i64 xc) rfl rfl (V.mv rfl) ?_
        refine JQ.val (v := .int .i64 xd) rfl rfl (V.mv rfl) ?_
        refine JQ.val (v := .int .i64 i1180) rfl rfl (V.mv rfl) ?_
        refine JQ.val (v := .int .i64 (IntKind.wrap .i64 (xd + i1180))) rfl rfl (V.add rfl rfl) ?_
        refine JQ.val (v := .agg #[.int .i64 x1379.1, .int .i64 x1388.1, .int .i64 xc, .int .i64 (IntKind.wrap .i64 (xd + i1180)), .bool true]) rfl rfl (V.build inf65 places65 rfl rfl) ?_
        refine JQ.nil ?_
        refine JA.op rfl (A.lit (K0 := Hp.nil) (ty := (.cons (.int .i64) (.cons (.int .i64) (.cons (.int .i64) (.cons (.int .i64) (.one .bool)))))) (xs := ([(x1379.1, x1388.1, xc, IntKind.wrap .i64 (xd + i1180), true)] : List (Int × Int × Int × Int × Bool))) Try.underlying34 inf65 rfl (by decide) rfl rfl rfl ⟨_, _, rfl, ⟨_, _, rfl, rfl, rfl, ⟨_, _, rfl, rfl, rfl, ⟨_, _, rfl, rfl, rfl, ⟨_, _, rfl, rfl, rfl, rfl⟩⟩⟩⟩, rfl⟩ rfl (by decide)) ?_
        rintro _ _ _ ⟨b1397, rfl, rfl, rfl⟩
        have hn1398 : ([(x1379.1, x1388.1, xc, IntKind.wrap .i64 (xd + i1180), true)] : List (Int × Int × Int × Int × Bool)) ≠ [] → ∃ g, (some ⟨b1397, 0, none⟩ : Option Addr) = some ⟨g, 0, none⟩ := fun _ => ⟨b1397, rfl⟩
        refine ⟨fun w hs => Hold.sub (Hp.le_refl _) ⟨1, rfl, trivial⟩ hs, ?_⟩
        refine JM.nil ?_
        refine JQ.nil ?_
        obtain ⟨z1400, hz1401, h1294⟩ := ob h1294
        refine J.front 1 rfl ?_
        refine J.op rfl (A.appR (Kr := Hp.nil) Try.underlying34 inf65 rfl rfl (by decide) (by decide) rfl rfl (Els.flat rfl) (Els.flat rfl) hz1401) ?_
        rintro _ _ _ ⟨v1402, rfl, rfl, rfl⟩
        refine J.wit Row.form ?_
        rintro ⟨ad1403, cp1404, rfl, _, _, hn1405⟩
        refine J.val (v := .slice ad1403 z1400.length cp1404) rfl rfl (V.as rfl) ?_
        refine J.nil ?_
        refine CJ.region ?_
        refine J.val (v := .int .i64 (IntKind.wrap .i64 (i1180 + 1))) rfl rfl (V.add rfl rfl) ?_
        refine J.val (v := .int .i64 (IntKind.wrap .i64 (i1180 + 1))) rfl rfl (V.mv rfl) ?_
        refine J.nil ?_
        have e := Option.some.inj h1294
        subst e
        exact ⟨rfl, ⟨z1400, IntKind.wrap .i64 (i1180 + 1), ad1403, cp1404, rfl, ⟨rfl, rfl, rfl, rfl, rfl, rfl, rfl, trivial⟩, rfl, rfl⟩⟩
      · have h1294 := cf hc1357 h1294
        refine CJ.skip ?_
        refine CJ.region ?_
        refine J.val (v := .int .i64 (IntKind.wrap .i64 (i1180 + 1))) rfl rfl (V.add rfl rfl) ?_
        refine J.val (v := .int .i64 (IntKind.wrap .i64 (i1180 + 1))) rfl rfl (V.mv rfl) ?_
        refine J.nil ?_
        have e := Option.some.inj h1294
        subst e
        exact ⟨rfl, ⟨z1342, IntKind.wrap .i64 (i1180 + 1), ad1345, cp1346, rfl, ⟨rfl, rfl, rfl, rfl, rfl, rfl, rfl, trivial⟩, rfl, rfl⟩⟩
    · have h1294 := cf hc1299 h1294
      refine CJ.exit ?_
      have e := Option.some.inj h1294
      subst e
      refine ⟨nofun, fun e => ?_⟩
      subst e
      exact ⟨rfl, ⟨l1175, ad1176, cp1177, rfl, ⟨rfl, trivial⟩, rfl, rfl⟩⟩
  · rintro ρ _ _ ⟨l1053, ad1054, cp1055, rfl, hf1406, rfl, rfl⟩
    obtain ⟨ρ, rfl⟩ := hf1406.ex
    refine PJ.wit Row.hn (fun hn1057 => ?_)
    refine PJ.done ?_
    refine CJ.seq ?_
    refine CJ.region ?_
    refine J.val (v := .slice ad1054 l1053.length cp1055) rfl rfl (V.mv rfl) ?_
    refine J.val (v := .slice ad1054 l1053.length cp1055) rfl rfl (V.as rfl) ?_
    refine J.nil ?_
    refine CJ.ret ?_
    have e := Option.some.inj h
    subst e
    exact ⟨_, [Row Hp.nil 65 (.cons (.int .i64) (.cons (.int .i64) (.cons (.int .i64) (.cons (.int .i64) (.one .bool))))) (.slice ad1054 l1053.length cp1055) l1053], Res.one rfl rfl, ⟨l1053, ad1054, cp1055, rfl, rfl, rfl⟩, (Hp.le_refl _), fun w hs => hs⟩

noncomputable def fn_relate_Flow (xa : (List (Int × Bool))) (xb : (List (Int × Bool))) (xc : Int) (xd : Int) : Option (((List (Int × Int × Int × Int × Bool)) × Int)) :=
  (fn_row_Shape xa xb).bind fun t30 => cond (!t30) (some (([], 8))) ((fn_relate_related xa xb xc xd).bind fun l38 => some ((l38, 0)))
set_option maxRecDepth 100000 in
set_option maxHeartbeats 4000000 in
theorem relate_Flow_ok {K : Hp} {xa : (List (Int × Bool))} {xb : (List (Int × Bool))} {xc : Int} {xd : Int} {adxa_0 : Option Addr} {cpxa_0 : Nat} {adxb_0 : Option Addr} {cpxb_0 : Nat} (fxa_0 : Is K (.sl (.cons (.int .i64) (.one .bool))) [.slice adxa_0 xa.length cpxa_0] xa) (fxb_0 : Is K (.sl (.cons (.int .i64) (.one .bool))) [.slice adxb_0 xb.length cpxb_0] xb) {r : ((List (Int × Int × Int × Int × Bool)) × Int)} (h : fn_relate_Flow xa xb xc xd = some r) :
    Tr Try.prog 33 #[.agg #[.slice adxa_0 xa.length cpxa_0], .agg #[.slice adxb_0 xb.length cpxb_0], .int .i64 xc, .int .i64 xd] K [] (fun v K' L' => (∃ (l20 : (List (Int × Int × Int × Int × Bool))) (i25 : Int) (ad21 : Option Addr) (cp22 : Nat), (l20, i25) = r ∧ .tuple #[.slice ad21 l20.length cp22, .int .i64 i25] = v ∧ L' = [Row Hp.nil 65 (.cons (.int .i64) (.cons (.int .i64) (.cons (.int .i64) (.cons (.int .i64) (.one .bool))))) (.slice ad21 l20.length cp22) l20]) ∧ K = K') := by
  refine Tr.k ?_
  refine Tr.of Try.func33 rfl Try.ntmps33 rfl (fun E F => ?_)
  unfold fn_relate_Flow at h
  refine CJ.seq ?_
  refine CJ.region ?_
  refine J.op rfl (A.box (v := .agg #[.slice adxa_0 xa.length cpxa_0]) (cs := [.slice adxa_0 xa.length cpxa_0]) rfl rfl) ?_
  rintro _ _ _ ⟨b26, rfl, rfl, rfl⟩
  refine J.op rfl (A.box (v := .agg #[.slice adxb_0 xb.length cpxb_0]) (cs := [.slice adxb_0 xb.length cpxb_0]) rfl rfl) ?_
  rintro _ _ _ ⟨b27, rfl, rfl, rfl⟩
  refine J.val (v := .slice none 0 0) rfl rfl (V.as rfl) ?_
  refine J.val (v := .int .i64 0) rfl rfl (V.as rfl) ?_
  refine J.nil ?_
  refine CJ.seq ?_
  refine CJ.seq ?_
  refine CJ.region ?_
  refine J.val (v := .agg #[.slice adxa_0 xa.length cpxa_0]) rfl rfl (V.ld rfl (Ld.agg (cs := [.slice adxa_0 xa.length cpxa_0]) Try.underlying26 sz26 rfl (Rd.cls 1 0 rfl rfl))) ?_
  refine J.val (v := .agg #[.slice adxb_0 xb.length cpxb_0]) rfl rfl (V.ld rfl (Ld.agg (cs := [.slice adxb_0 xb.length cpxb_0]) Try.underlying26 sz26 rfl (Rd.cls 0 0 rfl rfl))) ?_
  obtain ⟨r28, hr29, h⟩ := ob h
  refine J.op rfl (A.call (L1 := []) Try.call55 rfl (row_Shape_ok fxa_0 fxb_0 hr29) rfl rfl) ?_
  rintro _ _ _ ⟨v31, _, rfl, ⟨⟨t30, rfl, rfl, rfl⟩, rfl⟩, _, rfl⟩
  refine J.val (v := .bool (!t30)) rfl rfl (V.not rfl) ?_
  refine J.nil ?_
  refine CJ.cond rfl (fun hc34 => ?_) (fun hc34 => ?_)
  · have h := ct hc34 h
    refine CJ.seq ?_
    refine CJ.region ?_
    refine J.val (v := .slice none 0 0) rfl rfl (V.as rfl) ?_
    refine J.val (v := .int .i64 8) rfl rfl (V.as rfl) ?_
    refine J.nil ?_
    refine CJ.by (fun w hs => Sep.rowNil (e := 65) (t := (.cons (.int .i64) (.cons (.int .i64) (.cons (.int .i64) (.cons (.int .i64) (.one .bool)))))) hs) ?_
    refine CJ.ret ?_
    have e := Option.some.inj h
    subst e
    exact ⟨_, [Row Hp.nil 65 (.cons (.int .i64) (.cons (.int .i64) (.cons (.int .i64) (.cons (.int .i64) (.one .bool))))) (.slice none ((([] : List (Int × Int × Int × Int × Bool))).length) 0) (([] : List (Int × Int × Int × Int × Bool)))], Res.two rfl rfl rfl, ⟨[], 8, none, 0, rfl, rfl, rfl⟩, (Hp.le_refl _), fun w hs => (Sep.dropAt 1 rfl (Sep.dropAt 1 rfl hs))⟩
  · have h := cf hc34 h
    refine CJ.skip ?_
    refine CJ.seq ?_
    refine CJ.region ?_
    refine J.val rfl rfl (V.fad Try.underlying26 rfl nz24 rfl) ?_
    refine J.val (v := .slice adxa_0 xa.length cpxa_0) rfl rfl (V.ld rfl (Ld.sc sc24 (Rd.cl 1 rfl rfl))) ?_
    refine J.val rfl rfl (V.fad Try.underlying26 rfl nz24 rfl) ?_
    refine J.val (v := .slice adxb_0 xb.length cpxb_0) rfl rfl (V.ld rfl (Ld.sc sc24 (Rd.cl 0 rfl rfl))) ?_
    refine J.val (v := .int .i64 xc) rfl rfl (V.mv rfl) ?_
    refine J.val (v := .int .i64 xd) rfl rfl (V.mv rfl) ?_
    obtain ⟨r36, hr37, h⟩ := ob h
    refine J.op rfl (A.call (L1 := []) Try.call58 rfl (relate_related_ok fxa_0 fxb_0 hr37) rfl rfl) ?_
    rintro _ _ _ ⟨v42, _, rfl, ⟨⟨l38, ad39, cp40, rfl, rfl, rfl⟩, rfl⟩, _, rfl⟩
    refine J.wit Row.hn (fun hn41 => ?_)
    refine J.val (v := .slice ad39 l38.length cp40) rfl rfl (V.as rfl) ?_
    refine J.val (v := .int .i64 0) rfl rfl (V.as rfl) ?_
    refine J.nil ?_
    refine CJ.ret ?_
    have e := Option.some.inj h
    subst e
    exact ⟨_, [Row Hp.nil 65 (.cons (.int .i64) (.cons (.int .i64) (.cons (.int .i64) (.cons (.int .i64) (.one .bool))))) (.slice ad39 l38.length cp40) l38], Res.two rfl rfl rfl, ⟨l38, 0, ad39, cp40, rfl, rfl, rfl⟩, (Hp.le_refl _), fun w hs => (Sep.dropAt 1 rfl (Sep.dropAt 1 rfl hs))⟩
noncomputable def fn_sig_Call_l1 (xa : (Int × (List (Int × Int)) × (List (List (Int × Bool))) × (List (Int × Bool)))) (xb : (List Int)) : ((List (Int × Int × Int × Int × Bool)) × Int) → Option (((List (Int × Int × Int × Int × Bool)) × Int) ⊕ (List (Int × Int × Int × Int × Bool))) := fun ((l1328, i1333) : ((List (Int × Int × Int × Int × Bool)) × Int)) => cond (decide (i1333 < (((xa.2.1.length : Nat) : Int)))) ((getI xa.2.1 i1333).bind fun x1405 => (getI xb x1405.1).bind fun x1436 => (getI xb x1405.2).bind fun x1445 => (app l1328 (([(x1436, x1445, 4, i1333, false)] : List (Int × Int × Int × Int × Bool)))).bind fun z1457 => some (.inl ((z1457, IntKind.wrap .i64 (i1333 + 1))))) (some (.inr (l1328)))
noncomputable def fn_sig_Call_l2 (xa : (Int × (List (Int × Int)) × (List (List (Int × Bool))) × (List (Int × Bool)))) (xb : (List Int)) (xc : (List (List (Int × Bool)))) : ((List (Int × Int × Int × Int × Bool)) × Int) → Option (((List (Int × Int × Int × Int × Bool)) × Int) ⊕ (List (Int × Int × Int × Int × Bool))) := fun ((l1852, i1857) : ((List (Int × Int × Int × Int × Bool)) × Int)) => cond (decide (i1857 < (((xa.2.2.1.length : Nat) : Int)))) ((getI xa.2.2.1 i1857).bind fun x1957 => (fn_row_Subst x1957 xb).bind fun (l1973, i1974) => (getI xc i1857).bind fun x2010 => (fn_relate_Flow x2010 l1973 5 (IntKind.wrap .i64 (16 * i1857))).bind fun (l2028, i2029) => (app l1852 l2028).bind fun z2037 => some (.inl ((z2037, IntKind.wrap .i64 (i1857 + 1))))) (some (.inr (l1852)))
noncomputable def fn_sig_Call (xa : (Int × (List (Int × Int)) × (List (List (Int × Bool))) × (List (Int × Bool)))) (xb : (List Int)) (xc : (List (List (Int × Bool)))) (xd : (List (Int × Bool))) : Option (((List (Int × Int × Int × Int × Bool)) × Int)) :=
  (fn_sig_callable (xa.1, xa.2.1, xa.2.2.1, xa.2.2.2) xb xc xd).bind fun i1046 => cond (!decide (i1046 = 0)) (some (([], i1046))) ((loop (fn_sig_Call_l1 xa xb) ([], 0) : Option ((List (Int × Int × Int × Int × Bool)))).bind fun l1254 => (loop (fn_sig_Call_l2 xa xb xc) (l1254, 0) : Option ((List (Int × Int × Int × Int × Bool)))).bind fun l1751 => (fn_row_Subst xa.2.2.2 xb).bind fun (l2047, i2048) => (fn_relate_Flow l2047 xd 6 0).bind fun (l2062, i2063) => (app l1751 l2062).bind fun z2071 => some ((z2071, 0)))
set_option maxRecDepth 100000 in
set_option maxHeartbeats 4000000 in
theorem sig_Call_ok {K : Hp} {xa : (Int × (List (Int × Int)) × (List (List (Int × Bool))) × (List (Int × Bool)))} {xb : (List Int)} {xc : (List (List (Int × Bool)))} {xd : (List (Int × Bool))} {adxa_1 : Option Addr} {cpxa_1 : Nat} {adxa_2 : Option Addr} {cpxa_2 : Nat} {adxa_3 : Option Addr} {cpxa_3 : Nat} {adxb_0 : Option Addr} {cpxb_0 : Nat} {adxc_0 : Option Addr} {cpxc_0 : Nat} {adxd_0 : Option Addr} {cpxd_0 : Nat} (fxa_1 : Is K (.sl (.cons (.int .i64) (.one (.int .i64)))) [.slice adxa_1 xa.2.1.length cpxa_1] xa.2.1) (fxa_2 : Is K (.sl (.one (.sl (.cons (.int .i64) (.one .bool))))) [.slice adxa_2 xa.2.2.1.length cpxa_2] xa.2.2.1) (fxa_3 : Is K (.sl (.cons (.int .i64) (.one .bool))) [.slice adxa_3 xa.2.2.2.length cpxa_3] xa.2.2.2) (fxb_0 : Is K (.sl (.int .i64)) [.slice adxb_0 xb.length cpxb_0] xb) (fxc_0 : Is K (.sl (.one (.sl (.cons (.int .i64) (.one .bool))))) [.slice adxc_0 xc.length cpxc_0] xc) (fxd_0 : Is K (.sl (.cons (.int .i64) (.one .bool))) [.slice adxd_0 xd.length cpxd_0] xd) {r : ((List (Int × Int × Int × Int × Bool)) × Int)} (h : fn_sig_Call xa xb xc xd = some r) :
    Tr Try.prog 10 #[.agg #[.int .i64 xa.1, .slice adxa_1 xa.2.1.length cpxa_1, .slice adxa_2 xa.2.2.1.length cpxa_2, .slice adxa_3 xa.2.2.2.length cpxa_3], .slice adxb_0 xb.length cpxb_0, .slice adxc_0 xc.length cpxc_0, .agg #[.slice adxd_0 xd.length cpxd_0]] K [] (fun v K' L' => (∃ (l1036 : (List (Int × Int × Int × Int × Bool))) (i1041 : Int) (ad1037 : Option Addr) (cp1038 : Nat), (l1036, i1041) = r ∧ .tuple #[.slice ad1037 l1036.length cp1038, .int .i64 i1041] = v ∧ L' = [Row Hp.nil 65 (.cons (.int .i64) (.cons (.int .i64) (.cons (.int .i64) (.cons (.int .i64) (.one .bool))))) (.slice ad1037 l1036.length cp1038) l1036]) ∧ K = K') := by
  refine Tr.k ?_
  refine Tr.of Try.func10 rfl Try.ntmps10 rfl (fun E F => ?_)
  unfold fn_sig_Call at h
  refine CJ.seq ?_
  refine CJ.region ?_
  refine J.op rfl (A.box (v := .agg #[.int .i64 xa.1, .slice adxa_1 xa.2.1.length cpxa_1, .slice adxa_2 xa.2.2.1.length cpxa_2, .slice adxa_3 xa.2.2.2.length cpxa_3]) (cs := [.int .i64 xa.1, .slice adxa_1 xa.2.1.length cpxa_1, .slice adxa_2 xa.2.2.1.length cpxa_2, .slice adxa_3 xa.2.2.2.length cpxa_3]) rfl rfl) ?_
  rintro _ _ _ ⟨b1042, rfl, rfl, rfl⟩
  refine J.op rfl (A.box (v := .agg #[.slice adxd_0 xd.length cpxd_0]) (cs := [.slice adxd_0 xd.length cpxd_0]) rfl rfl) ?_
  rintro _ _ _ ⟨b1043, rfl, rfl, rfl⟩
  refine J.val (v := .slice none 0 0) rfl rfl (V.as rfl) ?_
  refine J.val (v := .int .i64 0) rfl rfl (V.as rfl) ?_
  refine J.nil ?_
  refine CJ.seq ?_
  refine CJ.seq ?_
  refine CJ.region ?_
  refine J.val (v := .agg #[.int .i64 xa.1, .slice adxa_1 xa.2.1.length cpxa_1, .slice adxa_2 xa.2.2.1.length cpxa_2, .slice adxa_3 xa.2.2.2.length cpxa_3]) rfl rfl (V.ld rfl (Ld.agg (cs := [.int .i64 xa.1, .slice adxa_1 xa.2.1.length cpxa_1, .slice adxa_2 xa.2.2.1.length cpxa_2, .slice adxa_3 xa.2.2.2.length cpxa_3]) Try.underlying28 sz28 rfl (Rd.cls 1 0 rfl rfl))) ?_
  refine J.val (v := .slice adxb_0 xb.length cpxb_0) rfl rfl (V.mv rfl) ?_
  refine J.val (v := .slice adxc_0 xc.length cpxc_0) rfl rfl (V.mv rfl) ?_
  refine J.val (v := .agg #[.slice adxd_0 xd.length cpxd_0]) rfl rfl (V.ld rfl (Ld.agg (cs := [.slice adxd_0 xd.length cpxd_0]) Try.underlying26 sz26 rfl (Rd.cls 0 0 rfl rfl))) ?_
  obtain ⟨r1044, hr1045, h⟩ := ob h
  refine J.op rfl (A.call (L1 := []) Try.call31 rfl (sig_callable_ok fxa_1 fxa_2 fxa_3 fxb_0 fxc_0 fxd_0 hr1045) rfl rfl) ?_
  rintro _ _ _ ⟨v1047, _, rfl, ⟨⟨i1046, rfl, rfl, rfl⟩, rfl⟩, _, rfl⟩
  refine J.val (v := .int .i64 i1046) rfl rfl (V.as rfl) ?_
  refine J.nil ?_
  refine CJ.seq ?_
  refine CJ.region ?_
  refine J.val (v := .int .i64 i1046) rfl rfl (V.mv rfl) ?_
  refine J.val (v := .bool (!decide (i1046 = 0))) rfl rfl (V.neq rfl rfl) ?_
  refine J.nil ?_
  refine CJ.cond rfl (fun hc1050 => ?_) (fun hc1050 => ?_)
  · have h := ct hc1050 h
    refine CJ.seq ?_
    refine CJ.region ?_
    refine J.val (v := .int .i64 i1046) rfl rfl (V.mv rfl) ?_
    refine J.val (v := .slice none 0 0) rfl rfl (V.as rfl) ?_
    refine J.val (v := .int .i64 i1046) rfl rfl (V.as rfl) ?_
    refine J.nil ?_
    refine CJ.by (fun w hs => Sep.rowNil (e := 65) (t := (.cons (.int .i64) (.cons (.int .i64) (.cons (.int .i64) (.cons (.int .i64) (.one .bool)))))) hs) ?_
    refine CJ.ret ?_
    have e := Option.some.inj h
    subst e
    exact ⟨_, [Row Hp.nil 65 (.cons (.int .i64) (.cons (.int .i64) (.cons (.int .i64) (.cons (.int .i64) (.one .bool))))) (.slice none ((([] : List (Int × Int × Int × Int × Bool))).length) 0) (([] : List (Int × Int × Int × Int × Bool)))], Res.two rfl rfl rfl, ⟨[], i1046, none, 0, rfl, rfl, rfl⟩, (Hp.le_refl _), fun w hs => (Sep.dropAt 1 rfl (Sep.dropAt 1 rfl hs))⟩
  · have h := cf hc1050 h
    refine CJ.skip ?_
    refine CJ.seq ?_
    refine CJ.region ?_
    refine J.val (v := .slice none 0 0) rfl rfl (V.as rfl) ?_
    refine J.nil ?_
    refine CJ.seq ?_
    refine CJ.seq ?_
    refine CJ.region ?_
    refine J.val rfl rfl (V.fad Try.underlying28 rfl nz22 rfl) ?_
    refine J.val (v := .slice adxa_1 xa.2.1.length cpxa_1) rfl rfl (V.ld rfl (Ld.sc sc22 (Rd.cl 1 rfl rfl))) ?_
    refine J.val (v := .int .i64 (((xa.2.1.length : Nat) : Int))) rfl rfl (V.len Try.underlying22 rfl) ?_
    refine J.val (v := .int .i64 0) rfl rfl (V.mv rfl) ?_
    refine J.nil ?_
    obtain ⟨o1259, ho1260, h⟩ := ob h
    refine CJ.meetN (fun ρ K' L' => ∃ (l1254 : (List (Int × Int × Int × Int × Bool))) (ad1255 : Option Addr) (cp1256 : Nat), l1254 = o1259 ∧ Fits [(1, .slice adxb_0 xb.length cpxb_0), (2, .slice adxc_0 xc.length cpxc_0), (4, .pointer (some ⟨b1042, 0, none⟩)), (7, .pointer (some ⟨b1043, 0, none⟩)), (11, .slice ad1255 l1254.length cp1256)] ρ ∧ K = K' ∧ L' = Cl b1042 28 [.int .i64 xa.1, .slice adxa_1 xa.2.1.length cpxa_1, .slice adxa_2 xa.2.2.1.length cpxa_2, .slice adxa_3 xa.2.2.2.length cpxa_3] :: Cl b1043 26 [.slice adxd_0 xd.length cpxd_0] :: Row Hp.nil 65 (.cons (.int .i64) (.cons (.int .i64) (.cons (.int .i64) (.cons (.int .i64) (.one .bool))))) (.slice ad1255 l1254.length cp1256) l1254 :: F) ?_ ?_
    · skip
      refine CJ.block ?_
      refine CJ.by (fun w hs => Sep.rowNil (e := 65) (t := (.cons (.int .i64) (.cons (.int .i64) (.cons (.int .i64) (.cons (.int .i64) (.one .bool)))))) hs) ?_
      refine CJ.front 1 rfl ?_
      refine CJ.front 2 rfl ?_
      refine CJ.loop (fun s ρ K' L' => ∃ (l1328 : (List (Int × Int × Int × Int × Bool))) (i1333 : Int) (ad1329 : Option Addr) (cp1330 : Nat), (l1328, i1333) = s ∧ Fits [(1, .slice adxb_0 xb.length cpxb_0), (2, .slice adxc_0 xc.length cpxc_0), (4, .pointer (some ⟨b1042, 0, none⟩)), (7, .pointer (some ⟨b1043, 0, none⟩)), (11, .slice ad1329 l1328.length cp1330), (33, .slice adxa_1 xa.2.1.length cpxa_1), (34, .int .i64 (((xa.2.1.length : Nat) : Int))), (35, .int .i64 i1333)] ρ ∧ K = K' ∧ L' = Cl b1042 28 [.int .i64 xa.1, .slice adxa_1 xa.2.1.length cpxa_1, .slice adxa_2 xa.2.2.1.length cpxa_2, .slice adxa_3 xa.2.2.2.length cpxa_3] :: Cl b1043 26 [.slice adxd_0 xd.length cpxd_0] :: Row Hp.nil 65 (.cons (.int .i64) (.cons (.int .i64) (.cons (.int .i64) (.cons (.int .i64) (.one .bool))))) (.slice ad1329 l1328.length cp1330) l1328 :: F) ho1260 ⟨[], 0, none, 0, rfl, ⟨rfl, rfl, rfl, rfl, rfl, rfl, rfl, rfl, trivial⟩, rfl, rfl⟩ ?_
      rintro s ρ _ _ r1403 ⟨l1328, i1333, ad1329, cp1330, rfl, hf1401, rfl, rfl⟩ h1399
      obtain ⟨ρ, rfl⟩ := hf1401.ex
      refine CJ.front 2 rfl ?_
      refine CJ.wit Row.hn (fun hn1332 => ?_)
      refine CJ.seq ?_
      refine CJ.region ?_
      refine J.val (v := .bool (decide (i1333 < (((xa.2.1.length : Nat) : Int))))) rfl rfl (V.lss rfl rfl) ?_
      refine J.nil ?_
      refine CJ.seq ?_
      refine CJ.cond rfl (fun hc1404 => ?_) (fun hc1404 => ?_)
      · have h1399 := ct hc1404 h1399
        refine CJ.skip ?_
        refine CJ.seq ?_
        refine CJ.block ?_
        refine CJ.seq ?_
        refine CJ.region ?_
        refine J.val (v := .int .i64 i1333) rfl rfl (V.mv rfl) ?_
        obtain ⟨x1405, hx1406, h1399⟩ := ob h1399
        obtain ⟨p1407, p1408, p1409⟩ := getI_some hx1406
        obtain ⟨b1410, o1411, e1412, a1413⟩ := (fxa_1).at p1408
        refine J.val rfl rfl (V.iad Try.underlying22 sz63 rfl e1412 rfl p1407 p1409) ?_
        refine J.val (v := .agg #[.int .i64 x1405.1, .int .i64 x1405.2]) rfl rfl (V.ld rfl (Ld.aggK (cs := [.int .i64 x1405.1, .int .i64 x1405.2]) Try.underlying63 sz63 rfl ⟨((a1413).fst).int, (((a1413).snd).one).int, trivial⟩ (Hp.le_refl _))) ?_
        refine J.op rfl (A.alloc (cs := [.int .i64 0, .int .i64 0]) inf63 rfl) ?_
        rintro _ _ _ ⟨b1414, rfl, rfl, rfl⟩
        refine J.val (v := .int .i64 i1333) rfl rfl (V.as rfl) ?_
        refine J.op rfl (A.store (v := .agg #[.int .i64 x1405.1, .int .i64 x1405.2]) (cs' := [.int .i64 x1405.1, .int .i64 x1405.2]) sz63 rfl rfl rfl rfl rfl rfl) ?_
        rintro _ _ _ ⟨rfl, rfl, rfl⟩
        refine J.nil ?_
        refine CJ.mix [Cl b1414 63 [.int .i64 x1405.1, .int .i64 x1405.2], Row Hp.nil 65 (.cons (.int .i64) (.cons (.int .i64) (.cons (.int .i64) (.cons (.int .i64) (.one .bool))))) (.slice ad1329 l1328.length cp1330) l1328, Cl b1042 28 [.int .i64 xa.1, .slice adxa_1 xa.2.1.length cpxa_1, .slice adxa_2 xa.2.2.1.length cpxa_2, .slice adxa_3 xa.2.2.2.length cpxa_3], Cl b1043 26 [.slice adxd_0 xd.length cpxd_0]] [([0, 1, 2, 3, 4, 5, 6, 7, 8, 9, 10, 11, 12], 13)] [] [14, 15] mixO (by decide +kernel) ⟨0, rfl, 0, rfl, 0, rfl, 0, rfl, trivial⟩ rfl rfl rfl ?_
        refine JM.cons ?_
        refine JQ.val (v := .slice ad1329 l1328.length cp1330) rfl rfl (V.mv rfl) ?_
        refine JQ.val (v := .slice adxb_0 xb.length cpxb_0) rfl rfl (V.mv rfl) ?_
        refine JQ.val rfl rfl (V.fad Try.underlying63 rfl nz3 rfl) ?_
        refine JQ.val (v := .int .i64 x1405.1) rfl rfl (V.ld rfl (Ld.sc sc3 (Rd.cl 0 rfl rfl))) ?_
        obtain ⟨x1436, hx1437, h1399⟩ := ob h1399
        obtain ⟨p1438, p1439, p1440⟩ := getI_some hx1437
        obtain ⟨b1441, o1442, e1443, a1444⟩ := (fxb_0).at p1439
        refine JQ.val rfl rfl (V.iad Try.underlying29 sz3 rfl e1443 rfl p1438 p1440) ?_
        refine JQ.val (v := .int .i64 x1436) rfl rfl (V.ld rfl (Ld.sc sc3 (Rd.k (a1444).int (Hp.le_refl _)))) ?_
        refine JQ.val (v := .slice adxb_0 xb.length cpxb_0) rfl rfl (V.mv rfl) ?_
        refine JQ.val rfl rfl (V.fad Try.underlying63 rfl nz3 rfl) ?_
        refine JQ.val (v := .int .i64 x1405.2) rfl rfl (V.ld rfl (Ld.sc sc3 (Rd.cl 0 rfl rfl))) ?_
        obtain ⟨x1445, hx1446, h1399⟩ := ob h1399
        obtain ⟨p1447, p1448, p1449⟩ := getI_some hx1446
        obtain ⟨b1450, o1451, e1452, a1453⟩ := (fxb_0).at p1448
        refine JQ.val rfl rfl (V.iad Try.underlying29 sz3 rfl e1452 rfl p1447 p1449) ?_
        refine JQ.val (v := .int .i64 x1445) rfl rfl (V.ld rfl (Ld.sc sc3 (Rd.k (a1453).int (Hp.le_refl _)))) ?_
        refine JQ.val (v := .int .i64 i1333) rfl rfl (V.mv rfl) ?_
        refine JQ.val (v := .agg #[.int .i64 x1436, .int .i64 x1445, .int .i64 4, .int .i64 i1333, .bool false]) rfl rfl (V.build inf65 places65 rfl rfl) ?_
        refine JQ.nil ?_
        refine JA.op rfl (A.lit (K0 := Hp.nil) (ty := (.cons (.int .i64) (.cons (.int .i64) (.cons (.int .i64) (.cons (.int .i64) (.one .bool)))))) (xs := ([(x1436, x1445, 4, i1333, false)] : List (Int × Int × Int × Int × Bool))) Try.underlying34 inf65 rfl (by decide) rfl rfl rfl ⟨_, _, rfl, ⟨_, _, rfl, rfl, rfl, ⟨_, _, rfl, rfl, rfl, ⟨_, _, rfl, rfl, rfl, ⟨_, _, rfl, rfl, rfl, rfl⟩⟩⟩⟩, rfl⟩ rfl (by decide)) ?_
        rintro _ _ _ ⟨b1454, rfl, rfl, rfl⟩
        have hn1455 : ([(x1436, x1445, 4, i1333, false)] : List (Int × Int × Int × Int × Bool)) ≠ [] → ∃ g, (some ⟨b1454, 0, none⟩ : Option Addr) = some ⟨g, 0, none⟩ := fun _ => ⟨b1454, rfl⟩
        refine ⟨fun w hs => Hold.sub (Hp.le_refl _) ⟨1, rfl, 1, rfl, 1, rfl, 1, rfl, trivial⟩ hs, ?_⟩
        refine JM.nil ?_
        refine JQ.nil ?_
        obtain ⟨z1457, hz1458, h1399⟩ := ob h1399
        refine J.front 2 rfl ?_
        refine J.op rfl (A.appR (Kr := Hp.nil) Try.underlying34 inf65 rfl rfl (by decide) (by decide) rfl rfl (Els.flat rfl) (Els.flat rfl) hz1458) ?_
        rintro _ _ _ ⟨v1459, rfl, rfl, rfl⟩
        refine J.wit Row.form ?_
        rintro ⟨ad1460, cp1461, rfl, _, _, hn1462⟩
        refine J.val (v := .slice ad1460 z1457.length cp1461) rfl rfl (V.as rfl) ?_
        refine J.nil ?_
        refine CJ.region ?_
        refine J.val (v := .int .i64 (IntKind.wrap .i64 (i1333 + 1))) rfl rfl (V.add rfl rfl) ?_
        refine J.val (v := .int .i64 (IntKind.wrap .i64 (i1333 + 1))) rfl rfl (V.mv rfl) ?_
        refine J.dropAt 1 rfl ?_
        refine J.front 2 rfl ?_
        refine J.front 2 rfl ?_
        refine J.nil ?_
        have e := Option.some.inj h1399
        subst e
        exact ⟨rfl, ⟨z1457, IntKind.wrap .i64 (i1333 + 1), ad1460, cp1461, rfl, ⟨rfl, rfl, rfl, rfl, rfl, rfl, rfl, rfl, trivial⟩, rfl, rfl⟩⟩
      · have h1399 := cf hc1404 h1399
        refine CJ.front 2 rfl ?_
        refine CJ.front 2 rfl ?_
        refine CJ.exit ?_
        have e := Option.some.inj h1399
        subst e
        refine ⟨nofun, fun e => ?_⟩
        subst e
        exact ⟨rfl, ⟨l1328, ad1329, cp1330, rfl, ⟨rfl, rfl, rfl, rfl, rfl, trivial⟩, rfl, rfl⟩⟩
    · rintro ρ _ _ ⟨l1254, ad1255, cp1256, rfl, hf1463, rfl, rfl⟩
      obtain ⟨ρ, rfl⟩ := hf1463.ex
      refine PJ.front 2 rfl ?_
      refine PJ.wit Row.hn (fun hn1258 => ?_)
      refine PJ.done ?_
      refine CJ.seq ?_
      refine CJ.seq ?_
      refine CJ.region ?_
      refine J.val rfl rfl (V.fad Try.underlying28 rfl nz23 rfl) ?_
      refine J.val (v := .slice adxa_2 xa.2.2.1.length cpxa_2) rfl rfl (V.ld rfl (Ld.sc sc23 (Rd.cl 1 rfl rfl))) ?_
      refine J.val (v := .int .i64 (((xa.2.2.1.length : Nat) : Int))) rfl rfl (V.len Try.underlying23 rfl) ?_
      refine J.val (v := .int .i64 0) rfl rfl (V.mv rfl) ?_
      refine J.nil ?_
      obtain ⟨o1756, ho1757, h⟩ := ob h
      refine CJ.meetN (fun ρ K' L' => ∃ (l1751 : (List (Int × Int × Int × Int × Bool))) (ad1752 : Option Addr) (cp1753 : Nat), l1751 = o1756 ∧ Fits [(1, .slice adxb_0 xb.length cpxb_0), (4, .pointer (some ⟨b1042, 0, none⟩)), (7, .pointer (some ⟨b1043, 0, none⟩)), (11, .slice ad1752 l1751.length cp1753)] ρ ∧ Hp.le K K' ∧ L' = Cl b1042 28 [.int .i64 xa.1, .slice adxa_1 xa.2.1.length cpxa_1, .slice adxa_2 xa.2.2.1.length cpxa_2, .slice adxa_3 xa.2.2.2.length cpxa_3] :: Cl b1043 26 [.slice adxd_0 xd.length cpxd_0] :: Row Hp.nil 65 (.cons (.int .i64) (.cons (.int .i64) (.cons (.int .i64) (.cons (.int .i64) (.one .bool))))) (.slice ad1752 l1751.length cp1753) l1751 :: F) ?_ ?_
      · skip
        refine CJ.block ?_
        refine CJ.front 2 rfl ?_
        refine CJ.front 2 rfl ?_
        refine CJ.loop (fun s ρ K' L' => ∃ (l1852 : (List (Int × Int × Int × Int × Bool))) (i1857 : Int) (ad1853 : Option Addr) (cp1854 : Nat), (l1852, i1857) = s ∧ Fits [(1, .slice adxb_0 xb.length cpxb_0), (2, .slice adxc_0 xc.length cpxc_0), (4, .pointer (some ⟨b1042, 0, none⟩)), (7, .pointer (some ⟨b1043, 0, none⟩)), (11, .slice ad1853 l1852.length cp1854), (57, .slice adxa_2 xa.2.2.1.length cpxa_2), (58, .int .i64 (((xa.2.2.1.length : Nat) : Int))), (59, .int .i64 i1857)] ρ ∧ Hp.le K K' ∧ L' = Cl b1042 28 [.int .i64 xa.1, .slice adxa_1 xa.2.1.length cpxa_1, .slice adxa_2 xa.2.2.1.length cpxa_2, .slice adxa_3 xa.2.2.2.length cpxa_3] :: Cl b1043 26 [.slice adxd_0 xd.length cpxd_0] :: Row Hp.nil 65 (.cons (.int .i64) (.cons (.int .i64) (.cons (.int .i64) (.cons (.int .i64) (.one .bool))))) (.slice ad1853 l1852.length cp1854) l1852 :: F) ho1757 ⟨l1254, 0, ad1255, cp1256, rfl, ⟨rfl, rfl, rfl, rfl, rfl, rfl, rfl, rfl, trivial⟩, (Hp.le_refl _), rfl⟩ ?_
        rintro s ρ K1851 _ r1955 ⟨l1852, i1857, ad1853, cp1854, rfl, hf1953, hk1954, rfl⟩ h1952
        obtain ⟨ρ, rfl⟩ := hf1953.ex
        refine CJ.front 2 rfl ?_
        refine CJ.wit Row.hn (fun hn1856 => ?_)
        refine CJ.seq ?_
        refine CJ.region ?_
        refine J.val (v := .bool (decide (i1857 < (((xa.2.2.1.length : Nat) : Int))))) rfl rfl (V.lss rfl rfl) ?_
        refine J.nil ?_
        refine CJ.seq ?_
        refine CJ.cond rfl (fun hc1956 => ?_) (fun hc1956 => ?_)
        · have h1952 := ct hc1956 h1952
          refine CJ.skip ?_
          refine CJ.seq ?_
          refine CJ.block ?_
          refine CJ.seq ?_
          refine CJ.region ?_
          refine J.val (v := .int .i64 i1857) rfl rfl (V.mv rfl) ?_
          obtain ⟨x1957, hx1958, h1952⟩ := ob h1952
          obtain ⟨p1959, p1960, p1961⟩ := getI_some hx1958
          obtain ⟨b1962, o1963, e1964, a1965⟩ := ((fxa_2.mono hk1954)).at p1960
          refine J.val rfl rfl (V.iad Try.underlying23 sz26 rfl e1964 rfl p1959 p1961) ?_
          obtain ⟨ad1966, cp1967, c1968, f1969⟩ := ((a1965).one).sl
          refine J.val (v := .agg #[.slice ad1966 x1957.length cp1967]) rfl rfl (V.ld rfl (Ld.aggK (cs := [.slice ad1966 x1957.length cp1967]) Try.underlying26 sz26 rfl ⟨c1968, trivial⟩ (Hp.le_refl _))) ?_
          refine J.op rfl (A.alloc (cs := [.slice none 0 0]) inf26 rfl) ?_
          rintro _ _ _ ⟨b1970, rfl, rfl, rfl⟩
          refine J.val (v := .int .i64 i1857) rfl rfl (V.as rfl) ?_
          refine J.op rfl (A.store (v := .agg #[.slice ad1966 x1957.length cp1967]) (cs' := [.slice ad1966 x1957.length cp1967]) sz26 rfl rfl rfl rfl rfl rfl) ?_
          rintro _ _ _ ⟨rfl, rfl, rfl⟩
          refine J.nil ?_
          refine CJ.seq ?_
          refine CJ.region ?_
          refine J.val (v := .agg #[.slice ad1966 x1957.length cp1967]) rfl rfl (V.ld rfl (Ld.agg (cs := [.slice ad1966 x1957.length cp1967]) Try.underlying26 sz26 rfl (Rd.cls 0 0 rfl rfl))) ?_
          refine J.val (v := .slice adxb_0 xb.length cpxb_0) rfl rfl (V.mv rfl) ?_
          obtain ⟨r1971, hr1972, h1952⟩ := ob h1952
          refine J.op rfl (A.call (L1 := []) Try.call32 rfl (row_Subst_ok f1969 (fxb_0.mono hk1954) hr1972) rfl rfl) ?_
          rintro _ _ _ ⟨v1978, _, rfl, ⟨⟨l1973, i1974, ad1975, cp1976, rfl, rfl, rfl⟩, rfl⟩, _, rfl⟩
          refine J.wit Row.hn (fun hn1977 => ?_)
          refine J.val (v := .tuple #[.agg #[.slice ad1975 l1973.length cp1976], .int .i64 i1974]) rfl rfl (V.mv rfl) ?_
          refine J.val (v := .agg #[.slice ad1975 l1973.length cp1976]) rfl rfl (V.ext rfl rfl) ?_
          refine J.val (v := .int .i64 i1974) rfl rfl (V.ext rfl rfl) ?_
          refine J.op rfl (A.alloc (cs := [.slice none 0 0]) inf26 rfl) ?_
          rintro _ _ _ ⟨b1982, rfl, rfl, rfl⟩
          refine J.op rfl (A.store (v := .agg #[.slice ad1975 l1973.length cp1976]) (cs' := [.slice ad1975 l1973.length cp1976]) sz26 rfl rfl rfl rfl rfl rfl) ?_
          rintro _ _ _ ⟨rfl, rfl, rfl⟩
          refine J.val (v := .int .i64 i1974) rfl rfl (V.as rfl) ?_
          refine J.nil ?_
          refine CJ.seq ?_
          refine CJ.mix [Cl b1982 26 [.slice ad1975 l1973.length cp1976], Cl b1970 26 [.slice ad1966 x1957.length cp1967], Row Hp.nil 65 (.cons (.int .i64) (.cons (.int .i64) (.cons (.int .i64) (.cons (.int .i64) (.one .bool))))) (.slice ad1853 l1852.length cp1854) l1852, Cl b1042 28 [.int .i64 xa.1, .slice adxa_1 xa.2.1.length cpxa_1, .slice adxa_2 xa.2.2.1.length cpxa_2, .slice adxa_3 xa.2.2.2.length cpxa_3], Cl b1043 26 [.slice adxd_0 xd.length cpxd_0]] [([0, 1, 2, 3, 4, 5, 6], 7)] [8, 9, 10, 11, 12] [] mixO (by decide +kernel) ⟨0, rfl, 1, rfl, 1, rfl, 1, rfl, 1, rfl, trivial⟩ rfl rfl rfl ?_
          refine JM.cons ?_
          refine JQ.val (v := .slice adxc_0 xc.length cpxc_0) rfl rfl (V.mv rfl) ?_
          refine JQ.val (v := .int .i64 i1857) rfl rfl (V.mv rfl) ?_
          obtain ⟨x2010, hx2011, h1952⟩ := ob h1952
          obtain ⟨p2012, p2013, p2014⟩ := getI_some hx2011
          obtain ⟨b2015, o2016, e2017, a2018⟩ := ((fxc_0.mono hk1954)).at p2013
          refine JQ.val rfl rfl (V.iad Try.underlying23 sz26 rfl e2017 rfl p2012 p2014) ?_
          obtain ⟨ad2019, cp2020, c2021, f2022⟩ := ((a2018).one).sl
          refine JQ.val (v := .agg #[.slice ad2019 x2010.length cp2020]) rfl rfl (V.ld rfl (Ld.aggK (cs := [.slice ad2019 x2010.length cp2020]) Try.underlying26 sz26 rfl ⟨c2021, trivial⟩ (Hp.le_refl _))) ?_
          refine JQ.val (v := .agg #[.slice ad1975 l1973.length cp1976]) rfl rfl (V.ld rfl (Ld.agg (cs := [.slice ad1975 l1973.length cp1976]) Try.underlying26 sz26 rfl (Rd.cls 0 0 rfl rfl))) ?_
          refine JQ.val (v := .int .i64 i1857) rfl rfl (V.mv rfl) ?_
          refine JQ.val (v := .int .i64 (IntKind.wrap .i64 (16 * i1857))) rfl rfl (V.mul rfl rfl) ?_
          refine JQ.nil ?_
          refine JA.front 1 rfl ?_
          refine JA.persist (Hp.nil_le _) (by decide) (fun K2023 hK2024 f2025 => ?_)
          obtain ⟨r2026, hr2027, h1952⟩ := ob h1952
          refine JA.op rfl (A.call (L1 := []) Try.call33 rfl (relate_Flow_ok (f2022.mono hK2024) f2025 hr2027) rfl rfl) ?_
          rintro _ _ _ ⟨v2033, _, rfl, ⟨⟨l2028, i2029, ad2030, cp2031, rfl, rfl, rfl⟩, rfl⟩, _, rfl⟩
          refine ⟨fun w hs => Hold.sub hK2024 ⟨1, rfl, 1, rfl, 1, rfl, 1, rfl, 1, rfl, trivial⟩ hs, ?_⟩
          refine JM.wit Row.hn (fun hn2032 => ?_)
          refine JM.nil ?_
          refine JQ.val (v := .tuple #[.slice ad2030 l2028.length cp2031, .int .i64 i2029]) rfl rfl (V.mv rfl) ?_
          refine JQ.val (v := .slice ad2030 l2028.length cp2031) rfl rfl (V.ext rfl rfl) ?_
          refine JQ.val (v := .int .i64 i2029) rfl rfl (V.ext rfl rfl) ?_
          refine JQ.val (v := .slice ad2030 l2028.length cp2031) rfl rfl (V.as rfl) ?_
          refine JQ.val (v := .int .i64 i2029) rfl rfl (V.as rfl) ?_
          refine JQ.nil ?_
          refine J.nil ?_
          refine CJ.region ?_
          refine J.val (v := .slice ad1853 l1852.length cp1854) rfl rfl (V.mv rfl) ?_
          refine J.val (v := .slice ad2030 l2028.length cp2031) rfl rfl (V.mv rfl) ?_
          obtain ⟨z2037, hz2038, h1952⟩ := ob h1952
          refine J.front 3 rfl ?_
          refine J.op rfl (A.appR (Kr := Hp.nil) Try.underlying34 inf65 rfl rfl (by decide) (by decide) rfl rfl (Els.flat rfl) (Els.flat rfl) hz2038) ?_
          rintro _ _ _ ⟨v2039, rfl, rfl, rfl⟩
          refine J.wit Row.form ?_
          rintro ⟨ad2040, cp2041, rfl, _, _, hn2042⟩
          refine J.val (v := .slice ad2040 z2037.length cp2041) rfl rfl (V.as rfl) ?_
          refine J.nil ?_
          refine CJ.region ?_
          refine J.val (v := .int .i64 (IntKind.wrap .i64 (i1857 + 1))) rfl rfl (V.add rfl rfl) ?_
          refine J.val (v := .int .i64 (IntKind.wrap .i64 (i1857 + 1))) rfl rfl (V.mv rfl) ?_
          refine J.dropAt 1 rfl ?_
          refine J.dropAt 1 rfl ?_
          refine J.front 2 rfl ?_
          refine J.front 2 rfl ?_
          refine J.nil ?_
          have e := Option.some.inj h1952
          subst e
          exact ⟨rfl, ⟨z2037, IntKind.wrap .i64 (i1857 + 1), ad2040, cp2041, rfl, ⟨rfl, rfl, rfl, rfl, rfl, rfl, rfl, rfl, trivial⟩, (hk1954.trans hK2024), rfl⟩⟩
        · have h1952 := cf hc1956 h1952
          refine CJ.front 2 rfl ?_
          refine CJ.front 2 rfl ?_
          refine CJ.exit ?_
          have e := Option.some.inj h1952
          subst e
          refine ⟨nofun, fun e => ?_⟩
          subst e
          exact ⟨rfl, ⟨l1852, ad1853, cp1854, rfl, ⟨rfl, rfl, rfl, rfl, trivial⟩, hk1954, rfl⟩⟩
      · rintro ρ K1750 _ ⟨l1751, ad1752, cp1753, rfl, hf2043, hk2044, rfl⟩
        obtain ⟨ρ, rfl⟩ := hf2043.ex
        refine PJ.front 2 rfl ?_
        refine PJ.wit Row.hn (fun hn1755 => ?_)
        refine PJ.done ?_
        refine CJ.seq ?_
        refine CJ.region ?_
        refine J.val rfl rfl (V.fad Try.underlying28 rfl nz26 rfl) ?_
        refine J.val (v := .agg #[.slice adxa_3 xa.2.2.2.length cpxa_3]) rfl rfl (V.ld rfl (Ld.agg (cs := [.slice adxa_3 xa.2.2.2.length cpxa_3]) Try.underlying26 sz26 rfl (Rd.cls 1 3 rfl rfl))) ?_
        refine J.val (v := .slice adxb_0 xb.length cpxb_0) rfl rfl (V.mv rfl) ?_
        obtain ⟨r2045, hr2046, h⟩ := ob h
        refine J.op rfl (A.call (L1 := []) Try.call32 rfl (row_Subst_ok (fxa_3.mono hk2044) (fxb_0.mono hk2044) hr2046) rfl rfl) ?_
        rintro _ _ _ ⟨v2052, _, rfl, ⟨⟨l2047, i2048, ad2049, cp2050, rfl, rfl, rfl⟩, rfl⟩, _, rfl⟩
        refine J.wit Row.hn (fun hn2051 => ?_)
        refine J.val (v := .tuple #[.agg #[.slice ad2049 l2047.length cp2050], .int .i64 i2048]) rfl rfl (V.mv rfl) ?_
        refine J.val (v := .agg #[.slice ad2049 l2047.length cp2050]) rfl rfl (V.ext rfl rfl) ?_
        refine J.val (v := .int .i64 i2048) rfl rfl (V.ext rfl rfl) ?_
        refine J.op rfl (A.alloc (cs := [.slice none 0 0]) inf26 rfl) ?_
        rintro _ _ _ ⟨b2056, rfl, rfl, rfl⟩
        refine J.op rfl (A.store (v := .agg #[.slice ad2049 l2047.length cp2050]) (cs' := [.slice ad2049 l2047.length cp2050]) sz26 rfl rfl rfl rfl rfl rfl) ?_
        rintro _ _ _ ⟨rfl, rfl, rfl⟩
        refine J.val (v := .int .i64 i2048) rfl rfl (V.as rfl) ?_
        refine J.nil ?_
        refine CJ.seq ?_
        refine CJ.region ?_
        refine J.val (v := .agg #[.slice ad2049 l2047.length cp2050]) rfl rfl (V.ld rfl (Ld.agg (cs := [.slice ad2049 l2047.length cp2050]) Try.underlying26 sz26 rfl (Rd.cls 0 0 rfl rfl))) ?_
        refine J.val (v := .agg #[.slice adxd_0 xd.length cpxd_0]) rfl rfl (V.ld rfl (Ld.agg (cs := [.slice adxd_0 xd.length cpxd_0]) Try.underlying26 sz26 rfl (Rd.cls 4 0 rfl rfl))) ?_
        refine J.front 1 rfl ?_
        refine J.persist (Hp.nil_le _) (by decide) (fun K2057 hK2058 f2059 => ?_)
        obtain ⟨r2060, hr2061, h⟩ := ob h
        refine J.op rfl (A.call (L1 := []) Try.call33 rfl (relate_Flow_ok f2059 (fxd_0.mono (hk2044.trans hK2058)) hr2061) rfl rfl) ?_
        rintro _ _ _ ⟨v2067, _, rfl, ⟨⟨l2062, i2063, ad2064, cp2065, rfl, rfl, rfl⟩, rfl⟩, _, rfl⟩
        refine J.wit Row.hn (fun hn2066 => ?_)
        refine J.val (v := .tuple #[.slice ad2064 l2062.length cp2065, .int .i64 i2063]) rfl rfl (V.mv rfl) ?_
        refine J.val (v := .slice ad2064 l2062.length cp2065) rfl rfl (V.ext rfl rfl) ?_
        refine J.val (v := .int .i64 i2063) rfl rfl (V.ext rfl rfl) ?_
        refine J.val (v := .slice ad2064 l2062.length cp2065) rfl rfl (V.as rfl) ?_
        refine J.val (v := .int .i64 i2063) rfl rfl (V.as rfl) ?_
        refine J.nil ?_
        refine CJ.seq ?_
        refine CJ.region ?_
        refine J.val (v := .slice ad1752 l1751.length cp1753) rfl rfl (V.mv rfl) ?_
        refine J.val (v := .slice ad2064 l2062.length cp2065) rfl rfl (V.mv rfl) ?_
        obtain ⟨z2071, hz2072, h⟩ := ob h
        refine J.front 2 rfl ?_
        refine J.op rfl (A.appR (Kr := Hp.nil) Try.underlying34 inf65 rfl rfl (by decide) (by decide) rfl rfl (Els.flat rfl) (Els.flat rfl) hz2072) ?_
        rintro _ _ _ ⟨v2073, rfl, rfl, rfl⟩
        refine J.wit Row.form ?_
        rintro ⟨ad2074, cp2075, rfl, _, _, hn2076⟩
        refine J.val (v := .slice ad2074 z2071.length cp2075) rfl rfl (V.as rfl) ?_
        refine J.val (v := .int .i64 0) rfl rfl (V.as rfl) ?_
        refine J.nil ?_
        refine CJ.ret ?_
        have e := Option.some.inj h
        subst e
        exact ⟨_, [Row Hp.nil 65 (.cons (.int .i64) (.cons (.int .i64) (.cons (.int .i64) (.cons (.int .i64) (.one .bool))))) (.slice ad2074 z2071.length cp2075) z2071], Res.two rfl rfl rfl, ⟨z2071, 0, ad2074, cp2075, rfl, rfl, rfl⟩, (hk2044.trans hK2058), fun w hs => (Sep.dropAt 1 rfl (Sep.dropAt 1 rfl (Sep.dropAt 1 rfl hs)))⟩
noncomputable def fn_ref15_Check_l1 (xa : (List (Int × Bool))) (xb : Int) : Int → Option (Int ⊕ (Unit ⊕ Int)) := fun (i365 : Int) => cond (decide (i365 < (((xa.length : Nat) : Int)))) ((getI xa i365).bind fun x405 => (cond (decide (x405.1 < 0)) (some (true)) ((getI xa i365).bind fun x427 => some (decide (xb ≤ x427.1)))).bind fun t424 => cond (t424) (some (.inr ((.inr (7))))) (some (.inl (IntKind.wrap .i64 (i365 + 1))))) (some (.inr ((.inl ()))))
noncomputable def fn_ref15_Check (xa : (List (Int × Bool))) (xb : Int) : Option Int :=
  cond (decide (16 < (((xa.length : Nat) : Int)))) (some (6)) ((loop (fn_ref15_Check_l1 xa xb) 0 : Option (Unit ⊕ Int)).bind fun o => match o with | .inr r => some r | .inl () => some (0))
set_option maxRecDepth 100000 in
set_option maxHeartbeats 4000000 in
theorem ref15_Check_ok {K : Hp} {xa : (List (Int × Bool))} {xb : Int} {adxa_0 : Option Addr} {cpxa_0 : Nat} (fxa_0 : Is K (.sl (.cons (.int .i64) (.one .bool))) [.slice adxa_0 xa.length cpxa_0] xa) {r : Int} (h : fn_ref15_Check xa xb = some r) :
    Tr Try.prog 38 #[.agg #[.slice adxa_0 xa.length cpxa_0], .int .i64 xb] K [] (fun v K' L' => (∃ (i220 : Int), i220 = r ∧ .int .i64 i220 = v ∧ L' = []) ∧ K = K') := by
  refine Tr.k ?_
  refine Tr.of Try.func38 rfl Try.ntmps38 rfl (fun E F => ?_)
  unfold fn_ref15_Check at h
  refine CJ.seq ?_
  refine CJ.region ?_
  refine J.op rfl (A.box (v := .agg #[.slice adxa_0 xa.length cpxa_0]) (cs := [.slice adxa_0 xa.length cpxa_0]) rfl rfl) ?_
  rintro _ _ _ ⟨b221, rfl, rfl, rfl⟩
  refine J.val (v := .int .i64 0) rfl rfl (V.as rfl) ?_
  refine J.nil ?_
  refine CJ.seq ?_
  refine CJ.seq ?_
  refine CJ.region ?_
  refine J.val rfl rfl (V.fad Try.underlying26 rfl nz24 rfl) ?_
  refine J.val (v := .slice adxa_0 xa.length cpxa_0) rfl rfl (V.ld rfl (Ld.sc sc24 (Rd.cl 0 rfl rfl))) ?_
  refine J.val (v := .int .i64 (((xa.length : Nat) : Int))) rfl rfl (V.len Try.underlying24 rfl) ?_
  refine J.val (v := .bool (decide (16 < (((xa.length : Nat) : Int))))) rfl rfl (V.gtr rfl rfl) ?_
  refine J.nil ?_
  refine CJ.cond rfl (fun hc222 => ?_) (fun hc222 => ?_)
  · have h := ct hc222 h
    refine CJ.seq ?_
    refine CJ.region ?_
    refine J.val (v := .int .i64 6) rfl rfl (V.as rfl) ?_
    refine J.nil ?_
    refine CJ.ret ?_
    have e := Option.some.inj h
    subst e
    exact ⟨_, [], Res.one rfl rfl, ⟨6, rfl, rfl, rfl⟩, (Hp.le_refl _), fun w hs => (Sep.dropAt 0 rfl hs)⟩
  · have h := cf hc222 h
    refine CJ.skip ?_
    refine CJ.seq ?_
    refine CJ.seq ?_
    refine CJ.region ?_
    refine J.val (v := .int .i64 0) rfl rfl (V.as rfl) ?_
    refine J.nil ?_
    obtain ⟨o329, ho330, h⟩ := ob h
    refine CJ.joinN (o := o329) (fun s ρ K' L' => () = s ∧ Fits [] ρ ∧ K = K' ∧ F = L') ?_ ?_
    · skip
      refine CJ.block ?_
      refine CJ.loop (fun s ρ K' L' => ∃ (i365 : Int), i365 = s ∧ Fits [(1, .int .i64 xb), (2, .pointer (some ⟨b221, 0, none⟩)), (5, .int .i64 i365)] ρ ∧ K = K' ∧ L' = Cl b221 26 [.slice adxa_0 xa.length cpxa_0] :: F) ho330 ⟨0, rfl, ⟨rfl, rfl, rfl, trivial⟩, rfl, rfl⟩ ?_
      rintro s ρ _ _ r403 ⟨i365, rfl, hf401, rfl, rfl⟩ h400
      obtain ⟨ρ, rfl⟩ := hf401.ex
      refine CJ.seq ?_
      refine CJ.seq ?_
      refine CJ.region ?_
      refine J.val (v := .int .i64 i365) rfl rfl (V.mv rfl) ?_
      refine J.val rfl rfl (V.fad Try.underlying26 rfl nz24 rfl) ?_
      refine J.val (v := .slice adxa_0 xa.length cpxa_0) rfl rfl (V.ld rfl (Ld.sc sc24 (Rd.cl 0 rfl rfl))) ?_
      refine J.val (v := .int .i64 (((xa.length : Nat) : Int))) rfl rfl (V.len Try.underlying24 rfl) ?_
      refine J.val (v := .bool (decide (i365 < (((xa.length : Nat) : Int))))) rfl rfl (V.lss rfl rfl) ?_
      refine J.nil ?_
      refine CJ.cond rfl (fun hc404 => ?_) (fun hc404 => ?_)
      · have h400 := ct hc404 h400
        refine CJ.skip ?_
        refine CJ.seq ?_
        refine CJ.block ?_
        refine CJ.seq ?_
        refine CJ.region ?_
        refine J.val rfl rfl (V.fad Try.underlying26 rfl nz24 rfl) ?_
        refine J.val (v := .slice adxa_0 xa.length cpxa_0) rfl rfl (V.ld rfl (Ld.sc sc24 (Rd.cl 0 rfl rfl))) ?_
        refine J.val (v := .int .i64 i365) rfl rfl (V.mv rfl) ?_
        obtain ⟨x405, hx406, h400⟩ := ob h400
        obtain ⟨p407, p408, p409⟩ := getI_some hx406
        obtain ⟨b410, o411, e412, a413⟩ := (fxa_0).at p408
        refine J.val rfl rfl (V.iad Try.underlying24 sz60 rfl e412 rfl p407 p409) ?_
        refine J.val rfl rfl (V.fad Try.underlying60 rfl nz3 rfl) ?_
        refine J.val (v := .int .i64 x405.1) rfl rfl (V.ld rfl (Ld.sc sc3 (Rd.k ((a413).fst).int (Hp.le_refl _)))) ?_
        refine J.val (v := .bool (decide (x405.1 < 0))) rfl rfl (V.lss rfl rfl) ?_
        refine J.val (v := .bool (decide (x405.1 < 0))) rfl rfl (V.mv rfl) ?_
        refine J.cut 9 ?_
        obtain ⟨t424, ht425, h400⟩ := ob h400
        refine @J.meet _ _ _ _ _ _ _ _ _ _ (fun ρ K' L' => Fits [(33, .bool t424), (1, .int .i64 xb), (2, .pointer (some ⟨b221, 0, none⟩)), (5, .int .i64 i365)] ρ ∧ K = K' ∧ L' = Cl b221 26 [.slice adxa_0 xa.length cpxa_0] :: F) ?_ ?_
        · skip
          rcases bt (decide (x405.1 < 0)) with hc426 | hc426
          · have ht425 := ct hc426 ht425
            refine J.skip rfl rfl rfl rfl hc426 ?_
            refine J.skip rfl rfl rfl rfl hc426 ?_
            refine J.skip rfl rfl rfl rfl hc426 ?_
            refine J.skip rfl rfl rfl rfl hc426 ?_
            refine J.skip rfl rfl rfl rfl hc426 ?_
            refine J.skip rfl rfl rfl rfl hc426 ?_
            refine J.skip rfl rfl rfl rfl hc426 ?_
            refine J.skip rfl rfl rfl rfl hc426 ?_
            refine J.val (v := .bool true) rfl rfl (V.pickT rfl hc426 rfl) ?_
            refine J.nil ?_
            have e := Option.some.inj ht425
            subst e
            exact ⟨rfl, ⟨rfl, rfl, rfl, rfl, trivial⟩, rfl, rfl⟩
          · have ht425 := cf hc426 ht425
            refine J.run rfl rfl rfl hc426 ?_
            refine J.val rfl rfl (V.fad Try.underlying26 rfl nz24 rfl) ?_
            refine J.run rfl rfl rfl hc426 ?_
            refine J.val (v := .slice adxa_0 xa.length cpxa_0) rfl rfl (V.ld rfl (Ld.sc sc24 (Rd.cl 0 rfl rfl))) ?_
            refine J.run rfl rfl rfl hc426 ?_
            refine J.val (v := .int .i64 i365) rfl rfl (V.mv rfl) ?_
            refine J.run rfl rfl rfl hc426 ?_
            obtain ⟨x427, hx428, ht425⟩ := ob ht425
            obtain ⟨p429, p430, p431⟩ := getI_some hx428
            obtain ⟨b432, o433, e434, a435⟩ := (fxa_0).at p430
            refine J.val rfl rfl (V.iad Try.underlying24 sz60 rfl e434 rfl p429 p431) ?_
            refine J.run rfl rfl rfl hc426 ?_
            refine J.val rfl rfl (V.fad Try.underlying60 rfl nz3 rfl) ?_
            refine J.run rfl rfl rfl hc426 ?_
            refine J.val (v := .int .i64 x427.1) rfl rfl (V.ld rfl (Ld.sc sc3 (Rd.k ((a435).fst).int (Hp.le_refl _)))) ?_
            refine J.run rfl rfl rfl hc426 ?_
            refine J.val (v := .int .i64 xb) rfl rfl (V.mv rfl) ?_
            refine J.run rfl rfl rfl hc426 ?_
            refine J.val (v := .bool (decide (xb ≤ x427.1))) rfl rfl (V.geq rfl rfl) ?_
            refine J.val (v := .bool (decide (xb ≤ x427.1))) rfl rfl (V.pickF rfl hc426 rfl) ?_
            refine J.nil ?_
            have e := Option.some.inj ht425
            subst e
            exact ⟨rfl, ⟨rfl, rfl, rfl, rfl, trivial⟩, rfl, rfl⟩
        · rintro ρ _ _ ⟨hf, rfl, rfl⟩
          obtain ⟨ρ, rfl⟩ := hf.ex
          refine J.nil ?_
          refine CJ.cond rfl (fun hc436 => ?_) (fun hc436 => ?_)
          · have h400 := ct hc436 h400
            refine CJ.seq ?_
            refine CJ.region ?_
            refine J.val (v := .int .i64 7) rfl rfl (V.as rfl) ?_
            refine J.nil ?_
            refine CJ.ret ?_
            have e := Option.some.inj h400
            subst e
            refine ⟨nofun, fun e => ?_⟩
            subst e
            refine .inr ⟨nofun, ?_⟩
            have e := Option.some.inj h
            subst e
            exact ⟨_, [], Res.one rfl rfl, ⟨7, rfl, rfl, rfl⟩, (Hp.le_refl _), fun w hs => (Sep.dropAt 0 rfl hs)⟩
          · have h400 := cf hc436 h400
            refine CJ.skip ?_
            refine CJ.region ?_
            refine J.val (v := .int .i64 i365) rfl rfl (V.mv rfl) ?_
            refine J.val (v := .int .i64 (IntKind.wrap .i64 (i365 + 1))) rfl rfl (V.add rfl rfl) ?_
            refine J.val (v := .int .i64 (IntKind.wrap .i64 (i365 + 1))) rfl rfl (V.as rfl) ?_
            refine J.nil ?_
            have e := Option.some.inj h400
            subst e
            exact ⟨rfl, ⟨IntKind.wrap .i64 (i365 + 1), rfl, ⟨rfl, rfl, rfl, trivial⟩, rfl, rfl⟩⟩
      · have h400 := cf hc404 h400
        refine CJ.dropAt 0 rfl ?_
        refine CJ.exit ?_
        have e := Option.some.inj h400
        subst e
        refine ⟨nofun, fun e => ?_⟩
        subst e
        exact .inl ⟨rfl, _, rfl, ⟨rfl, trivial, rfl, rfl⟩⟩
    · rintro s ρ _ _ ho437 ⟨rfl, hf438, rfl, rfl⟩
      subst ho437
      obtain ⟨ρ, rfl⟩ := hf438.ex
      refine PJ.done ?_
      refine CJ.seq ?_
      refine CJ.region ?_
      refine J.val (v := .int .i64 0) rfl rfl (V.as rfl) ?_
      refine J.nil ?_
      refine CJ.ret ?_
      have e := Option.some.inj h
      subst e
      exact ⟨_, [], Res.one rfl rfl, ⟨0, rfl, rfl, rfl⟩, (Hp.le_refl _), fun w hs => hs⟩
noncomputable def fn_ref17_Check_l1 (xa : (Int × (List (Int × Int)) × (List (List (Int × Bool))) × (List (Int × Bool)))) : Int → Option (Int ⊕ (Unit ⊕ Int)) := fun (i526 : Int) => cond (decide (i526 < (((xa.2.1.length : Nat) : Int)))) ((getI xa.2.1 i526).bind fun x554 => cond ((((decide (x554.1 < 0)) || (decide (xa.1 ≤ x554.1))) || (decide (x554.2 < 0))) || (decide (xa.1 ≤ x554.2))) (some (.inr ((.inr (7))))) (some (.inl (IntKind.wrap .i64 (i526 + 1))))) (some (.inr ((.inl ()))))
noncomputable def fn_ref17_Check_l2 (xa : (Int × (List (Int × Int)) × (List (List (Int × Bool))) × (List (Int × Bool)))) : Int → Option (Int ⊕ (Unit ⊕ Int)) := fun (i747 : Int) => cond (decide (i747 < (((xa.2.2.1.length : Nat) : Int)))) ((getI xa.2.2.1 i747).bind fun x813 => (fn_ref15_Check x813 xa.1).bind fun i828 => cond (!decide (i828 = 0)) (some (.inr ((.inr (i828))))) (some (.inl (IntKind.wrap .i64 (i747 + 1))))) (some (.inr ((.inl ()))))
noncomputable def fn_ref17_Check (xa : (Int × (List (Int × Int)) × (List (List (Int × Bool))) × (List (Int × Bool)))) : Option Int :=
  cond (decide (xa.1 < 0)) (some (7)) (cond (((decide (16 < xa.1)) || (decide (16 < (((xa.2.1.length : Nat) : Int))))) || (decide (16 < (((xa.2.2.1.length : Nat) : Int))))) (some (6)) ((loop (fn_ref17_Check_l1 xa) 0 : Option (Unit ⊕ Int)).bind fun o => match o with | .inr r => some r | .inl () => (loop (fn_ref17_Check_l2 xa) 0 : Option (Unit ⊕ Int)).bind fun o => match o with | .inr r => some r | .inl () => (fn_ref15_Check xa.2.2.2 xa.1).bind fun i838 => some (i838)))
set_option maxRecDepth 100000 in
set_option maxHeartbeats 4000000 in
theorem ref17_Check_ok {K : Hp} {xa : (Int × (List (Int × Int)) × (List (List (Int × Bool))) × (List (Int × Bool)))} {adxa_1 : Option Addr} {cpxa_1 : Nat} {adxa_2 : Option Addr} {cpxa_2 : Nat} {adxa_3 : Option Addr} {cpxa_3 : Nat} (fxa_1 : Is K (.sl (.cons (.int .i64) (.one (.int .i64)))) [.slice adxa_1 xa.2.1.length cpxa_1] xa.2.1) (fxa_2 : Is K (.sl (.one (.sl (.cons (.int .i64) (.one .bool))))) [.slice adxa_2 xa.2.2.1.length cpxa_2] xa.2.2.1) (fxa_3 : Is K (.sl (.cons (.int .i64) (.one .bool))) [.slice adxa_3 xa.2.2.2.length cpxa_3] xa.2.2.2) {r : Int} (h : fn_ref17_Check xa = some r) :
    Tr Try.prog 13 #[.agg #[.int .i64 xa.1, .slice adxa_1 xa.2.1.length cpxa_1, .slice adxa_2 xa.2.2.1.length cpxa_2, .slice adxa_3 xa.2.2.2.length cpxa_3]] K [] (fun v K' L' => (∃ (i422 : Int), i422 = r ∧ .int .i64 i422 = v ∧ L' = []) ∧ K = K') := by
  refine Tr.k ?_
  refine Tr.of Try.func13 rfl Try.ntmps13 rfl (fun E F => ?_)
  unfold fn_ref17_Check at h
  refine CJ.seq ?_
  refine CJ.region ?_
  refine J.op rfl (A.box (v := .agg #[.int .i64 xa.1, .slice adxa_1 xa.2.1.length cpxa_1, .slice adxa_2 xa.2.2.1.length cpxa_2, .slice adxa_3 xa.2.2.2.length cpxa_3]) (cs := [.int .i64 xa.1, .slice adxa_1 xa.2.1.length cpxa_1, .slice adxa_2 xa.2.2.1.length cpxa_2, .slice adxa_3 xa.2.2.2.length cpxa_3]) rfl rfl) ?_
  rintro _ _ _ ⟨b423, rfl, rfl, rfl⟩
  refine J.val (v := .int .i64 0) rfl rfl (V.as rfl) ?_
  refine J.nil ?_
  refine CJ.seq ?_
  refine CJ.seq ?_
  refine CJ.region ?_
  refine J.val rfl rfl (V.fad Try.underlying28 rfl nz3 rfl) ?_
  refine J.val (v := .int .i64 xa.1) rfl rfl (V.ld rfl (Ld.sc sc3 (Rd.cl 0 rfl rfl))) ?_
  refine J.val (v := .bool (decide (xa.1 < 0))) rfl rfl (V.lss rfl rfl) ?_
  refine J.nil ?_
  refine CJ.cond rfl (fun hc424 => ?_) (fun hc424 => ?_)
  · have h := ct hc424 h
    refine CJ.seq ?_
    refine CJ.region ?_
    refine J.val (v := .int .i64 7) rfl rfl (V.as rfl) ?_
    refine J.nil ?_
    refine CJ.ret ?_
    have e := Option.some.inj h
    subst e
    exact ⟨_, [], Res.one rfl rfl, ⟨7, rfl, rfl, rfl⟩, (Hp.le_refl _), fun w hs => (Sep.dropAt 0 rfl hs)⟩
  · have h := cf hc424 h
    refine CJ.skip ?_
    refine CJ.seq ?_
    refine CJ.seq ?_
    refine CJ.region ?_
    refine J.val rfl rfl (V.fad Try.underlying28 rfl nz3 rfl) ?_
    refine J.val (v := .int .i64 xa.1) rfl rfl (V.ld rfl (Ld.sc sc3 (Rd.cl 0 rfl rfl))) ?_
    refine J.val (v := .bool (decide (16 < xa.1))) rfl rfl (V.gtr rfl rfl) ?_
    refine J.val (v := .bool (decide (16 < xa.1))) rfl rfl (V.mv rfl) ?_
    refine J.cut 5 ?_
    refine @J.meet _ _ _ _ _ _ _ _ _ _ (fun ρ K' L' => Fits [(18, .bool ((decide (16 < xa.1)) || (decide (16 < (((xa.2.1.length : Nat) : Int)))))), (1, .pointer (some ⟨b423, 0, none⟩))] ρ ∧ K = K' ∧ L' = Cl b423 28 [.int .i64 xa.1, .slice adxa_1 xa.2.1.length cpxa_1, .slice adxa_2 xa.2.2.1.length cpxa_2, .slice adxa_3 xa.2.2.2.length cpxa_3] :: F) ?_ ?_
    · skip
      rcases bt (decide (16 < xa.1)) with hc427 | hc427
      · skip
        refine J.skip rfl rfl rfl rfl hc427 ?_
        refine J.skip rfl rfl rfl rfl hc427 ?_
        refine J.skip rfl rfl rfl rfl hc427 ?_
        refine J.skip rfl rfl rfl rfl hc427 ?_
        refine J.val (v := .bool true) rfl rfl (V.pickT rfl hc427 rfl) ?_
        refine J.nil ?_
        exact ⟨rfl, ⟨(by simp only [hc427]; rfl), rfl, trivial⟩, rfl, rfl⟩
      · skip
        refine J.run rfl rfl rfl hc427 ?_
        refine J.val rfl rfl (V.fad Try.underlying28 rfl nz22 rfl) ?_
        refine J.run rfl rfl rfl hc427 ?_
        refine J.val (v := .slice adxa_1 xa.2.1.length cpxa_1) rfl rfl (V.ld rfl (Ld.sc sc22 (Rd.cl 0 rfl rfl))) ?_
        refine J.run rfl rfl rfl hc427 ?_
        refine J.val (v := .int .i64 (((xa.2.1.length : Nat) : Int))) rfl rfl (V.len Try.underlying22 rfl) ?_
        refine J.run rfl rfl rfl hc427 ?_
        refine J.val (v := .bool (decide (16 < (((xa.2.1.length : Nat) : Int))))) rfl rfl (V.gtr rfl rfl) ?_
        refine J.val (v := .bool (decide (16 < (((xa.2.1.length : Nat) : Int))))) rfl rfl (V.pickF rfl hc427 rfl) ?_
        refine J.nil ?_
        exact ⟨rfl, ⟨(by simp only [hc427]; rfl), rfl, trivial⟩, rfl, rfl⟩
    · rintro ρ _ _ ⟨hf, rfl, rfl⟩
      obtain ⟨ρ, rfl⟩ := hf.ex
      refine J.val (v := .bool ((decide (16 < xa.1)) || (decide (16 < (((xa.2.1.length : Nat) : Int)))))) rfl rfl (V.mv rfl) ?_
      refine J.cut 5 ?_
      refine @J.meet _ _ _ _ _ _ _ _ _ _ (fun ρ K' L' => Fits [(24, .bool (((decide (16 < xa.1)) || (decide (16 < (((xa.2.1.length : Nat) : Int))))) || (decide (16 < (((xa.2.2.1.length : Nat) : Int)))))), (1, .pointer (some ⟨b423, 0, none⟩))] ρ ∧ K = K' ∧ L' = Cl b423 28 [.int .i64 xa.1, .slice adxa_1 xa.2.1.length cpxa_1, .slice adxa_2 xa.2.2.1.length cpxa_2, .slice adxa_3 xa.2.2.2.length cpxa_3] :: F) ?_ ?_
      · skip
        rcases bt ((decide (16 < xa.1)) || (decide (16 < (((xa.2.1.length : Nat) : Int))))) with hc430 | hc430
        · skip
          refine J.skip rfl rfl rfl rfl hc430 ?_
          refine J.skip rfl rfl rfl rfl hc430 ?_
          refine J.skip rfl rfl rfl rfl hc430 ?_
          refine J.skip rfl rfl rfl rfl hc430 ?_
          refine J.val (v := .bool true) rfl rfl (V.pickT rfl hc430 rfl) ?_
          refine J.nil ?_
          exact ⟨rfl, ⟨(by simp only [hc430]; rfl), rfl, trivial⟩, rfl, rfl⟩
        · skip
          refine J.run rfl rfl rfl hc430 ?_
          refine J.val rfl rfl (V.fad Try.underlying28 rfl nz23 rfl) ?_
          refine J.run rfl rfl rfl hc430 ?_
          refine J.val (v := .slice adxa_2 xa.2.2.1.length cpxa_2) rfl rfl (V.ld rfl (Ld.sc sc23 (Rd.cl 0 rfl rfl))) ?_
          refine J.run rfl rfl rfl hc430 ?_
          refine J.val (v := .int .i64 (((xa.2.2.1.length : Nat) : Int))) rfl rfl (V.len Try.underlying23 rfl) ?_
          refine J.run rfl rfl rfl hc430 ?_
          refine J.val (v := .bool (decide (16 < (((xa.2.2.1.length : Nat) : Int))))) rfl rfl (V.gtr rfl rfl) ?_
          refine J.val (v := .bool (decide (16 < (((xa.2.2.1.length : Nat) : Int))))) rfl rfl (V.pickF rfl hc430 rfl) ?_
          refine J.nil ?_
          exact ⟨rfl, ⟨(by simp only [hc430]; rfl), rfl, trivial⟩, rfl, rfl⟩
      · rintro ρ _ _ ⟨hf, rfl, rfl⟩
        obtain ⟨ρ, rfl⟩ := hf.ex
        refine J.nil ?_
        refine CJ.cond rfl (fun hc431 => ?_) (fun hc431 => ?_)
        · have h := ct hc431 h
          refine CJ.seq ?_
          refine CJ.region ?_
          refine J.val (v := .int .i64 6) rfl rfl (V.as rfl) ?_
          refine J.nil ?_
          refine CJ.ret ?_
          have e := Option.some.inj h
          subst e
          exact ⟨_, [], Res.one rfl rfl, ⟨6, rfl, rfl, rfl⟩, (Hp.le_refl _), fun w hs => (Sep.dropAt 0 rfl hs)⟩
        · have h := cf hc431 h
          refine CJ.skip ?_
          refine CJ.seq ?_
          refine CJ.seq ?_
          refine CJ.region ?_
          refine J.val (v := .int .i64 0) rfl rfl (V.as rfl) ?_
          refine J.nil ?_
          obtain ⟨o502, ho503, h⟩ := ob h
          refine CJ.joinN (o := o502) (fun s ρ K' L' => () = s ∧ Fits [(1, .pointer (some ⟨b423, 0, none⟩))] ρ ∧ K = K' ∧ L' = Cl b423 28 [.int .i64 xa.1, .slice adxa_1 xa.2.1.length cpxa_1, .slice adxa_2 xa.2.2.1.length cpxa_2, .slice adxa_3 xa.2.2.2.length cpxa_3] :: F) ?_ ?_
          · skip
            refine CJ.block ?_
            refine CJ.loop (fun s ρ K' L' => ∃ (i526 : Int), i526 = s ∧ Fits [(1, .pointer (some ⟨b423, 0, none⟩)), (3, .int .i64 i526)] ρ ∧ K = K' ∧ L' = Cl b423 28 [.int .i64 xa.1, .slice adxa_1 xa.2.1.length cpxa_1, .slice adxa_2 xa.2.2.1.length cpxa_2, .slice adxa_3 xa.2.2.2.length cpxa_3] :: F) ho503 ⟨0, rfl, ⟨rfl, rfl, trivial⟩, rfl, rfl⟩ ?_
            rintro s ρ _ _ r552 ⟨i526, rfl, hf550, rfl, rfl⟩ h549
            obtain ⟨ρ, rfl⟩ := hf550.ex
            refine CJ.seq ?_
            refine CJ.seq ?_
            refine CJ.region ?_
            refine J.val (v := .int .i64 i526) rfl rfl (V.mv rfl) ?_
            refine J.val rfl rfl (V.fad Try.underlying28 rfl nz22 rfl) ?_
            refine J.val (v := .slice adxa_1 xa.2.1.length cpxa_1) rfl rfl (V.ld rfl (Ld.sc sc22 (Rd.cl 0 rfl rfl))) ?_
            refine J.val (v := .int .i64 (((xa.2.1.length : Nat) : Int))) rfl rfl (V.len Try.underlying22 rfl) ?_
            refine J.val (v := .bool (decide (i526 < (((xa.2.1.length : Nat) : Int))))) rfl rfl (V.lss rfl rfl) ?_
            refine J.nil ?_
            refine CJ.cond rfl (fun hc553 => ?_) (fun hc553 => ?_)
            · have h549 := ct hc553 h549
              refine CJ.skip ?_
              refine CJ.seq ?_
              refine CJ.block ?_
              refine CJ.seq ?_
              refine CJ.region ?_
              refine J.val rfl rfl (V.fad Try.underlying28 rfl nz22 rfl) ?_
              refine J.val (v := .slice adxa_1 xa.2.1.length cpxa_1) rfl rfl (V.ld rfl (Ld.sc sc22 (Rd.cl 0 rfl rfl))) ?_
              refine J.val (v := .int .i64 i526) rfl rfl (V.mv rfl) ?_
              obtain ⟨x554, hx555, h549⟩ := ob h549
              obtain ⟨p556, p557, p558⟩ := getI_some hx555
              obtain ⟨b559, o560, e561, a562⟩ := (fxa_1).at p557
              refine J.val rfl rfl (V.iad Try.underlying22 sz63 rfl e561 rfl p556 p558) ?_
              refine J.val (v := .agg #[.int .i64 x554.1, .int .i64 x554.2]) rfl rfl (V.ld rfl (Ld.aggK (cs := [.int .i64 x554.1, .int .i64 x554.2]) Try.underlying63 sz63 rfl ⟨((a562).fst).int, (((a562).snd).one).int, trivial⟩ (Hp.le_refl _))) ?_
              refine J.op rfl (A.alloc (cs := [.int .i64 0, .int .i64 0]) inf63 rfl) ?_
              rintro _ _ _ ⟨b563, rfl, rfl, rfl⟩
              refine J.op rfl (A.store (v := .agg #[.int .i64 x554.1, .int .i64 x554.2]) (cs' := [.int .i64 x554.1, .int .i64 x554.2]) sz63 rfl rfl rfl rfl rfl rfl) ?_
              rintro _ _ _ ⟨rfl, rfl, rfl⟩
              refine J.nil ?_
              refine CJ.seq ?_
              refine CJ.region ?_
              refine J.val rfl rfl (V.fad Try.underlying63 rfl nz3 rfl) ?_
              refine J.val (v := .int .i64 x554.1) rfl rfl (V.ld rfl (Ld.sc sc3 (Rd.cl 0 rfl rfl))) ?_
              refine J.val (v := .bool (decide (x554.1 < 0))) rfl rfl (V.lss rfl rfl) ?_
              refine J.val (v := .bool (decide (x554.1 < 0))) rfl rfl (V.mv rfl) ?_
              refine J.cut 6 ?_
              refine @J.meet _ _ _ _ _ _ _ _ _ _ (fun ρ K' L' => Fits [(46, .bool ((decide (x554.1 < 0)) || (decide (xa.1 ≤ x554.1)))), (1, .pointer (some ⟨b423, 0, none⟩)), (3, .int .i64 i526), (4, .pointer (some ⟨b563, 0, none⟩))] ρ ∧ K = K' ∧ L' = Cl b563 63 [.int .i64 x554.1, .int .i64 x554.2] :: Cl b423 28 [.int .i64 xa.1, .slice adxa_1 xa.2.1.length cpxa_1, .slice adxa_2 xa.2.2.1.length cpxa_2, .slice adxa_3 xa.2.2.2.length cpxa_3] :: F) ?_ ?_
              · skip
                rcases bt (decide (x554.1 < 0)) with hc566 | hc566
                · skip
                  refine J.skip rfl rfl rfl rfl hc566 ?_
                  refine J.skip rfl rfl rfl rfl hc566 ?_
                  refine J.skip rfl rfl rfl rfl hc566 ?_
                  refine J.skip rfl rfl rfl rfl hc566 ?_
                  refine J.skip rfl rfl rfl rfl hc566 ?_
                  refine J.val (v := .bool true) rfl rfl (V.pickT rfl hc566 rfl) ?_
                  refine J.nil ?_
                  exact ⟨rfl, ⟨(by simp only [hc566]; rfl), rfl, rfl, rfl, trivial⟩, rfl, rfl⟩
                · skip
                  refine J.run rfl rfl rfl hc566 ?_
                  refine J.val rfl rfl (V.fad Try.underlying63 rfl nz3 rfl) ?_
                  refine J.run rfl rfl rfl hc566 ?_
                  refine J.val (v := .int .i64 x554.1) rfl rfl (V.ld rfl (Ld.sc sc3 (Rd.cl 0 rfl rfl))) ?_
                  refine J.run rfl rfl rfl hc566 ?_
                  refine J.val rfl rfl (V.fad Try.underlying28 rfl nz3 rfl) ?_
                  refine J.run rfl rfl rfl hc566 ?_
                  refine J.val (v := .int .i64 xa.1) rfl rfl (V.ld rfl (Ld.sc sc3 (Rd.cl 1 rfl rfl))) ?_
                  refine J.run rfl rfl rfl hc566 ?_
                  refine J.val (v := .bool (decide (xa.1 ≤ x554.1))) rfl rfl (V.geq rfl rfl) ?_
                  refine J.val (v := .bool (decide (xa.1 ≤ x554.1))) rfl rfl (V.pickF rfl hc566 rfl) ?_
                  refine J.nil ?_
                  exact ⟨rfl, ⟨(by simp only [hc566]; rfl), rfl, rfl, rfl, trivial⟩, rfl, rfl⟩
              · rintro ρ _ _ ⟨hf, rfl, rfl⟩
                obtain ⟨ρ, rfl⟩ := hf.ex
                refine J.val (v := .bool ((decide (x554.1 < 0)) || (decide (xa.1 ≤ x554.1)))) rfl rfl (V.mv rfl) ?_
                refine J.cut 4 ?_
                refine @J.meet _ _ _ _ _ _ _ _ _ _ (fun ρ K' L' => Fits [(51, .bool (((decide (x554.1 < 0)) || (decide (xa.1 ≤ x554.1))) || (decide (x554.2 < 0)))), (1, .pointer (some ⟨b423, 0, none⟩)), (3, .int .i64 i526), (4, .pointer (some ⟨b563, 0, none⟩))] ρ ∧ K = K' ∧ L' = Cl b563 63 [.int .i64 x554.1, .int .i64 x554.2] :: Cl b423 28 [.int .i64 xa.1, .slice adxa_1 xa.2.1.length cpxa_1, .slice adxa_2 xa.2.2.1.length cpxa_2, .slice adxa_3 xa.2.2.2.length cpxa_3] :: F) ?_ ?_
                · skip
                  rcases bt ((decide (x554.1 < 0)) || (decide (xa.1 ≤ x554.1))) with hc569 | hc569
                  · skip
                    refine J.skip rfl rfl rfl rfl hc569 ?_
                    refine J.skip rfl rfl rfl rfl hc569 ?_
                    refine J.skip rfl rfl rfl rfl hc569 ?_
                    refine J.val (v := .bool true) rfl rfl (V.pickT rfl hc569 rfl) ?_
                    refine J.nil ?_
                    exact ⟨rfl, ⟨(by simp only [hc569]; rfl), rfl, rfl, rfl, trivial⟩, rfl, rfl⟩
                  · skip
                    refine J.run rfl rfl rfl hc569 ?_
                    refine J.val rfl rfl (V.fad Try.underlying63 rfl nz3 rfl) ?_
                    refine J.run rfl rfl rfl hc569 ?_
                    refine J.val (v := .int .i64 x554.2) rfl rfl (V.ld rfl (Ld.sc sc3 (Rd.cl 0 rfl rfl))) ?_
                    refine J.run rfl rfl rfl hc569 ?_
                    refine J.val (v := .bool (decide (x554.2 < 0))) rfl rfl (V.lss rfl rfl) ?_
                    refine J.val (v := .bool (decide (x554.2 < 0))) rfl rfl (V.pickF rfl hc569 rfl) ?_
                    refine J.nil ?_
                    exact ⟨rfl, ⟨(by simp only [hc569]; rfl), rfl, rfl, rfl, trivial⟩, rfl, rfl⟩
                · rintro ρ _ _ ⟨hf, rfl, rfl⟩
                  obtain ⟨ρ, rfl⟩ := hf.ex
                  refine J.val (v := .bool (((decide (x554.1 < 0)) || (decide (xa.1 ≤ x554.1))) || (decide (x554.2 < 0)))) rfl rfl (V.mv rfl) ?_
                  refine J.cut 6 ?_
                  refine @J.meet _ _ _ _ _ _ _ _ _ _ (fun ρ K' L' => Fits [(58, .bool ((((decide (x554.1 < 0)) || (decide (xa.1 ≤ x554.1))) || (decide (x554.2 < 0))) || (decide (xa.1 ≤ x554.2)))), (1, .pointer (some ⟨b423, 0, none⟩)), (3, .int .i64 i526)] ρ ∧ K = K' ∧ L' = Cl b563 63 [.int .i64 x554.1, .int .i64 x554.2] :: Cl b423 28 [.int .i64 xa.1, .slice adxa_1 xa.2.1.length cpxa_1, .slice adxa_2 xa.2.2.1.length cpxa_2, .slice adxa_3 xa.2.2.2.length cpxa_3] :: F) ?_ ?_
                  · skip
                    rcases bt (((decide (x554.1 < 0)) || (decide (xa.1 ≤ x554.1))) || (decide (x554.2 < 0))) with hc572 | hc572
                    · skip
                      refine J.skip rfl rfl rfl rfl hc572 ?_
                      refine J.skip rfl rfl rfl rfl hc572 ?_
                      refine J.skip rfl rfl rfl rfl hc572 ?_
                      refine J.skip rfl rfl rfl rfl hc572 ?_
                      refine J.skip rfl rfl rfl rfl hc572 ?_
                      refine J.val (v := .bool true) rfl rfl (V.pickT rfl hc572 rfl) ?_
                      refine J.nil ?_
                      exact ⟨rfl, ⟨(by simp only [hc572]; rfl), rfl, rfl, trivial⟩, rfl, rfl⟩
                    · skip
                      refine J.run rfl rfl rfl hc572 ?_
                      refine J.val rfl rfl (V.fad Try.underlying63 rfl nz3 rfl) ?_
                      refine J.run rfl rfl rfl hc572 ?_
                      refine J.val (v := .int .i64 x554.2) rfl rfl (V.ld rfl (Ld.sc sc3 (Rd.cl 0 rfl rfl))) ?_
                      refine J.run rfl rfl rfl hc572 ?_
                      refine J.val rfl rfl (V.fad Try.underlying28 rfl nz3 rfl) ?_
                      refine J.run rfl rfl rfl hc572 ?_
                      refine J.val (v := .int .i64 xa.1) rfl rfl (V.ld rfl (Ld.sc sc3 (Rd.cl 1 rfl rfl))) ?_
                      refine J.run rfl rfl rfl hc572 ?_
                      refine J.val (v := .bool (decide (xa.1 ≤ x554.2))) rfl rfl (V.geq rfl rfl) ?_
                      refine J.val (v := .bool (decide (xa.1 ≤ x554.2))) rfl rfl (V.pickF rfl hc572 rfl) ?_
                      refine J.nil ?_
                      exact ⟨rfl, ⟨(by simp only [hc572]; rfl), rfl, rfl, trivial⟩, rfl, rfl⟩
                  · rintro ρ _ _ ⟨hf, rfl, rfl⟩
                    obtain ⟨ρ, rfl⟩ := hf.ex
                    refine J.nil ?_
                    refine CJ.cond rfl (fun hc573 => ?_) (fun hc573 => ?_)
                    · have h549 := ct hc573 h549
                      refine CJ.seq ?_
                      refine CJ.region ?_
                      refine J.val (v := .int .i64 7) rfl rfl (V.as rfl) ?_
                      refine J.nil ?_
                      refine CJ.ret ?_
                      have e := Option.some.inj h549
                      subst e
                      refine ⟨nofun, fun e => ?_⟩
                      subst e
                      refine .inr ⟨nofun, ?_⟩
                      have e := Option.some.inj h
                      subst e
                      exact ⟨_, [], Res.one rfl rfl, ⟨7, rfl, rfl, rfl⟩, (Hp.le_refl _), fun w hs => (Sep.dropAt 0 rfl (Sep.dropAt 0 rfl hs))⟩
                    · have h549 := cf hc573 h549
                      refine CJ.skip ?_
                      refine CJ.region ?_
                      refine J.val (v := .int .i64 i526) rfl rfl (V.mv rfl) ?_
                      refine J.val (v := .int .i64 (IntKind.wrap .i64 (i526 + 1))) rfl rfl (V.add rfl rfl) ?_
                      refine J.val (v := .int .i64 (IntKind.wrap .i64 (i526 + 1))) rfl rfl (V.as rfl) ?_
                      refine J.dropAt 0 rfl ?_
                      refine J.nil ?_
                      have e := Option.some.inj h549
                      subst e
                      exact ⟨rfl, ⟨IntKind.wrap .i64 (i526 + 1), rfl, ⟨rfl, rfl, trivial⟩, rfl, rfl⟩⟩
            · have h549 := cf hc553 h549
              refine CJ.exit ?_
              have e := Option.some.inj h549
              subst e
              refine ⟨nofun, fun e => ?_⟩
              subst e
              exact .inl ⟨rfl, _, rfl, ⟨rfl, ⟨rfl, trivial⟩, rfl, rfl⟩⟩
          · rintro s ρ _ _ ho574 ⟨rfl, hf575, rfl, rfl⟩
            subst ho574
            obtain ⟨ρ, rfl⟩ := hf575.ex
            refine PJ.done ?_
            refine CJ.seq ?_
            refine CJ.seq ?_
            refine CJ.region ?_
            refine J.val (v := .int .i64 0) rfl rfl (V.as rfl) ?_
            refine J.nil ?_
            obtain ⟨o704, ho705, h⟩ := ob h
            refine CJ.joinN (o := o704) (fun s ρ K' L' => () = s ∧ Fits [(1, .pointer (some ⟨b423, 0, none⟩))] ρ ∧ K = K' ∧ L' = Cl b423 28 [.int .i64 xa.1, .slice adxa_1 xa.2.1.length cpxa_1, .slice adxa_2 xa.2.2.1.length cpxa_2, .slice adxa_3 xa.2.2.2.length cpxa_3] :: F) ?_ ?_
            · skip
              refine CJ.block ?_
              refine CJ.loop (fun s ρ K' L' => ∃ (i747 : Int), i747 = s ∧ Fits [(1, .pointer (some ⟨b423, 0, none⟩)), (5, .int .i64 i747)] ρ ∧ K = K' ∧ L' = Cl b423 28 [.int .i64 xa.1, .slice adxa_1 xa.2.1.length cpxa_1, .slice adxa_2 xa.2.2.1.length cpxa_2, .slice adxa_3 xa.2.2.2.length cpxa_3] :: F) ho705 ⟨0, rfl, ⟨rfl, rfl, trivial⟩, rfl, rfl⟩ ?_
              rintro s ρ _ _ r792 ⟨i747, rfl, hf790, rfl, rfl⟩ h789
              obtain ⟨ρ, rfl⟩ := hf790.ex
              refine CJ.seq ?_
              refine CJ.seq ?_
              refine CJ.region ?_
              refine J.val (v := .int .i64 i747) rfl rfl (V.mv rfl) ?_
              refine J.val rfl rfl (V.fad Try.underlying28 rfl nz23 rfl) ?_
              refine J.val (v := .slice adxa_2 xa.2.2.1.length cpxa_2) rfl rfl (V.ld rfl (Ld.sc sc23 (Rd.cl 0 rfl rfl))) ?_
              refine J.val (v := .int .i64 (((xa.2.2.1.length : Nat) : Int))) rfl rfl (V.len Try.underlying23 rfl) ?_
              refine J.val (v := .bool (decide (i747 < (((xa.2.2.1.length : Nat) : Int))))) rfl rfl (V.lss rfl rfl) ?_
              refine J.nil ?_
              refine CJ.cond rfl (fun hc793 => ?_) (fun hc793 => ?_)
              · have h789 := ct hc793 h789
                refine CJ.skip ?_
                refine CJ.seq ?_
                refine CJ.block ?_
                refine CJ.seq ?_
                refine CJ.mix [Cl b423 28 [.int .i64 xa.1, .slice adxa_1 xa.2.1.length cpxa_1, .slice adxa_2 xa.2.2.1.length cpxa_2, .slice adxa_3 xa.2.2.2.length cpxa_3]] [([0, 1, 2, 3, 4, 5, 6], 7)] [8] [] mixO (by decide +kernel) ⟨0, rfl, trivial⟩ rfl rfl rfl ?_
                refine JM.cons ?_
                refine JQ.val rfl rfl (V.fad Try.underlying28 rfl nz23 rfl) ?_
                refine JQ.val (v := .slice adxa_2 xa.2.2.1.length cpxa_2) rfl rfl (V.ld rfl (Ld.sc sc23 (Rd.cl 0 rfl rfl))) ?_
                refine JQ.val (v := .int .i64 i747) rfl rfl (V.mv rfl) ?_
                obtain ⟨x813, hx814, h789⟩ := ob h789
                obtain ⟨p815, p816, p817⟩ := getI_some hx814
                obtain ⟨b818, o819, e820, a821⟩ := (fxa_2).at p816
                refine JQ.val rfl rfl (V.iad Try.underlying23 sz26 rfl e820 rfl p815 p817) ?_
                obtain ⟨ad822, cp823, c824, f825⟩ := ((a821).one).sl
                refine JQ.val (v := .agg #[.slice ad822 x813.length cp823]) rfl rfl (V.ld rfl (Ld.aggK (cs := [.slice ad822 x813.length cp823]) Try.underlying26 sz26 rfl ⟨c824, trivial⟩ (Hp.le_refl _))) ?_
                refine JQ.val rfl rfl (V.fad Try.underlying28 rfl nz3 rfl) ?_
                refine JQ.val (v := .int .i64 xa.1) rfl rfl (V.ld rfl (Ld.sc sc3 (Rd.cl 0 rfl rfl))) ?_
                refine JQ.nil ?_
                obtain ⟨r826, hr827, h789⟩ := ob h789
                refine JA.op rfl (A.call (L1 := []) Try.call38 rfl (ref15_Check_ok f825 hr827) rfl rfl) ?_
                rintro _ _ _ ⟨v829, _, rfl, ⟨⟨i828, rfl, rfl, rfl⟩, rfl⟩, _, rfl⟩
                refine ⟨fun w hs => Hold.sub (Hp.le_refl _) ⟨0, rfl, trivial⟩ hs, ?_⟩
                refine JM.nil ?_
                refine JQ.val (v := .int .i64 i828) rfl rfl (V.as rfl) ?_
                refine JQ.nil ?_
                refine J.nil ?_
                refine CJ.seq ?_
                refine CJ.region ?_
                refine J.val (v := .int .i64 i828) rfl rfl (V.mv rfl) ?_
                refine J.val (v := .bool (!decide (i828 = 0))) rfl rfl (V.neq rfl rfl) ?_
                refine J.nil ?_
                refine CJ.cond rfl (fun hc832 => ?_) (fun hc832 => ?_)
                · have h789 := ct hc832 h789
                  refine CJ.seq ?_
                  refine CJ.region ?_
                  refine J.val (v := .int .i64 i828) rfl rfl (V.mv rfl) ?_
                  refine J.val (v := .int .i64 i828) rfl rfl (V.as rfl) ?_
                  refine J.nil ?_
                  refine CJ.ret ?_
                  have e := Option.some.inj h789
                  subst e
                  refine ⟨nofun, fun e => ?_⟩
                  subst e
                  refine .inr ⟨nofun, ?_⟩
                  have e := Option.some.inj h
                  subst e
                  exact ⟨_, [], Res.one rfl rfl, ⟨i828, rfl, rfl, rfl⟩, (Hp.le_refl _), fun w hs => (Sep.dropAt 0 rfl hs)⟩
                · have h789 := cf hc832 h789
                  refine CJ.skip ?_
                  refine CJ.region ?_
                  refine J.val (v := .int .i64 i747) rfl rfl (V.mv rfl) ?_
                  refine J.val (v := .int .i64 (IntKind.wrap .i64 (i747 + 1))) rfl rfl (V.add rfl rfl) ?_
                  refine J.val (v := .int .i64 (IntKind.wrap .i64 (i747 + 1))) rfl rfl (V.as rfl) ?_
                  refine J.nil ?_
                  have e := Option.some.inj h789
                  subst e
                  exact ⟨rfl, ⟨IntKind.wrap .i64 (i747 + 1), rfl, ⟨rfl, rfl, trivial⟩, rfl, rfl⟩⟩
              · have h789 := cf hc793 h789
                refine CJ.exit ?_
                have e := Option.some.inj h789
                subst e
                refine ⟨nofun, fun e => ?_⟩
                subst e
                exact .inl ⟨rfl, _, rfl, ⟨rfl, ⟨rfl, trivial⟩, rfl, rfl⟩⟩
            · rintro s ρ _ _ ho833 ⟨rfl, hf834, rfl, rfl⟩
              subst ho833
              obtain ⟨ρ, rfl⟩ := hf834.ex
              refine PJ.done ?_
              refine CJ.seq ?_
              refine CJ.region ?_
              refine J.val rfl rfl (V.fad Try.underlying28 rfl nz26 rfl) ?_
              refine J.val (v := .agg #[.slice adxa_3 xa.2.2.2.length cpxa_3]) rfl rfl (V.ld rfl (Ld.agg (cs := [.slice adxa_3 xa.2.2.2.length cpxa_3]) Try.underlying26 sz26 rfl (Rd.cls 0 3 rfl rfl))) ?_
              refine J.val rfl rfl (V.fad Try.underlying28 rfl nz3 rfl) ?_
              refine J.val (v := .int .i64 xa.1) rfl rfl (V.ld rfl (Ld.sc sc3 (Rd.cl 0 rfl rfl))) ?_
              obtain ⟨r836, hr837, h⟩ := ob h
              refine J.op rfl (A.call (L1 := []) Try.call38 rfl (ref15_Check_ok fxa_3 hr837) rfl rfl) ?_
              rintro _ _ _ ⟨v839, _, rfl, ⟨⟨i838, rfl, rfl, rfl⟩, rfl⟩, _, rfl⟩
              refine J.val (v := .int .i64 i838) rfl rfl (V.as rfl) ?_
              refine J.nil ?_
              refine CJ.ret ?_
              have e := Option.some.inj h
              subst e
              exact ⟨_, [], Res.one rfl rfl, ⟨i838, rfl, rfl, rfl⟩, (Hp.le_refl _), fun w hs => (Sep.dropAt 0 rfl hs)⟩
noncomputable def fn_ref15_Subst_l1 (xa : (List (Int × Bool))) (xb : (List Int)) : ((List (Int × Bool)) × Int) → Option (((List (Int × Bool)) × Int) ⊕ ((List (Int × Bool)) ⊕ ((List (Int × Bool)) × Int))) := fun ((l726, i731) : ((List (Int × Bool)) × Int)) => cond (decide (i731 < (((xa.length : Nat) : Int)))) ((getI xa i731).bind fun x805 => cond ((decide (x805.1 < 0)) || (decide ((((xb.length : Nat) : Int)) ≤ x805.1))) (some (.inr ((.inr (([], 7)))))) ((getI xb x805.1).bind fun x840 => (getI xa i731).bind fun x849 => (app l726 (([(x840, x849.2)] : List (Int × Bool)))).bind fun z861 => some (.inl ((z861, IntKind.wrap .i64 (i731 + 1)))))) (some (.inr (.inl l726)))
noncomputable def fn_ref15_Subst (xa : (List (Int × Bool))) (xb : (List Int)) : Option (((List (Int × Bool)) × Int)) :=
  (loop (fn_ref15_Subst_l1 xa xb) ((([] : List (Int × Bool)), 0)) : Option ((List (Int × Bool)) ⊕ ((List (Int × Bool)) × Int))).bind fun o => match o with | .inr r => some r | .inl l651 => some ((l651, 0))
set_option maxRecDepth 100000 in
set_option maxHeartbeats 4000000 in
theorem ref15_Subst_ok {K : Hp} {xa : (List (Int × Bool))} {xb : (List Int)} {adxa_0 : Option Addr} {cpxa_0 : Nat} {adxb_0 : Option Addr} {cpxb_0 : Nat} (fxa_0 : Is K (.sl (.cons (.int .i64) (.one .bool))) [.slice adxa_0 xa.length cpxa_0] xa) (fxb_0 : Is K (.sl (.int .i64)) [.slice adxb_0 xb.length cpxb_0] xb) {r : ((List (Int × Bool)) × Int)} (h : fn_ref15_Subst xa xb = some r) :
    Tr Try.prog 34 #[.agg #[.slice adxa_0 xa.length cpxa_0], .slice adxb_0 xb.length cpxb_0] K [] (fun v K' L' => (∃ (l432 : (List (Int × Bool))) (i437 : Int) (ad433 : Option Addr) (cp434 : Nat), (l432, i437) = r ∧ .tuple #[.agg #[.slice ad433 l432.length cp434], .int .i64 i437] = v ∧ L' = [Row Hp.nil 60 (.cons (.int .i64) (.one .bool)) (.slice ad433 l432.length cp434) l432]) ∧ K = K') := by
  refine Tr.k ?_
  refine Tr.of Try.func34 rfl Try.ntmps34 rfl (fun E F => ?_)
  unfold fn_ref15_Subst at h
  refine CJ.seq ?_
  refine CJ.region ?_
  refine J.op rfl (A.box (v := .agg #[.slice adxa_0 xa.length cpxa_0]) (cs := [.slice adxa_0 xa.length cpxa_0]) rfl rfl) ?_
  rintro _ _ _ ⟨b438, rfl, rfl, rfl⟩
  refine J.op rfl (A.alloc (cs := [.slice none 0 0]) inf26 rfl) ?_
  rintro _ _ _ ⟨b439, rfl, rfl, rfl⟩
  refine J.val (v := .int .i64 0) rfl rfl (V.as rfl) ?_
  refine J.nil ?_
  refine CJ.seq ?_
  refine CJ.region ?_
  refine J.op rfl (A.lit (K0 := Hp.nil) (ty := (.cons (.int .i64) (.one .bool))) (xs := ([] : List (Int × Bool))) Try.underlying24 inf60 rfl (by decide) rfl rfl rfl rfl rfl (by decide)) ?_
  rintro _ _ _ ⟨b440, rfl, rfl, rfl⟩
  have hn441 : ([] : List (Int × Bool)) ≠ [] → ∃ g, (some ⟨b440, 0, none⟩ : Option Addr) = some ⟨g, 0, none⟩ := fun _ => ⟨b440, rfl⟩
  refine J.val (v := .slice (some ⟨b440, 0, none⟩) ((([] : List (Int × Bool))).length) 0) rfl rfl (V.as rfl) ?_
  refine J.nil ?_
  refine CJ.seq ?_
  refine CJ.seq ?_
  refine CJ.region ?_
  refine J.val (v := .int .i64 0) rfl rfl (V.as rfl) ?_
  refine J.nil ?_
  obtain ⟨o656, ho657, h⟩ := ob h
  refine CJ.joinN (o := o656) (fun s ρ K' L' => ∃ (l651 : (List (Int × Bool))) (ad652 : Option Addr) (cp653 : Nat), l651 = s ∧ Fits [(4, .pointer (some ⟨b439, 0, none⟩)), (6, .slice ad652 l651.length cp653)] ρ ∧ K = K' ∧ L' = Cl b439 26 [.slice none 0 0] :: Row Hp.nil 60 (.cons (.int .i64) (.one .bool)) (.slice ad652 l651.length cp653) l651 :: F) ?_ ?_
  · skip
    refine CJ.block ?_
    refine CJ.front 1 rfl ?_
    refine CJ.front 2 rfl ?_
    refine CJ.loop (fun s ρ K' L' => ∃ (l726 : (List (Int × Bool))) (i731 : Int) (ad727 : Option Addr) (cp728 : Nat), (l726, i731) = s ∧ Fits [(1, .slice adxb_0 xb.length cpxb_0), (2, .pointer (some ⟨b438, 0, none⟩)), (4, .pointer (some ⟨b439, 0, none⟩)), (6, .slice ad727 l726.length cp728), (7, .int .i64 i731)] ρ ∧ K = K' ∧ L' = Cl b438 26 [.slice adxa_0 xa.length cpxa_0] :: Cl b439 26 [.slice none 0 0] :: Row Hp.nil 60 (.cons (.int .i64) (.one .bool)) (.slice ad727 l726.length cp728) l726 :: F) ho657 ⟨([] : List (Int × Bool)), 0, (some ⟨b440, 0, none⟩), 0, rfl, ⟨rfl, rfl, rfl, rfl, rfl, trivial⟩, rfl, rfl⟩ ?_
    rintro s ρ _ _ r803 ⟨l726, i731, ad727, cp728, rfl, hf801, rfl, rfl⟩ h800
    obtain ⟨ρ, rfl⟩ := hf801.ex
    refine CJ.front 2 rfl ?_
    refine CJ.wit Row.hn (fun hn730 => ?_)
    refine CJ.seq ?_
    refine CJ.seq ?_
    refine CJ.region ?_
    refine J.val (v := .int .i64 i731) rfl rfl (V.mv rfl) ?_
    refine J.val rfl rfl (V.fad Try.underlying26 rfl nz24 rfl) ?_
    refine J.val (v := .slice adxa_0 xa.length cpxa_0) rfl rfl (V.ld rfl (Ld.sc sc24 (Rd.cl 1 rfl rfl))) ?_
    refine J.val (v := .int .i64 (((xa.length : Nat) : Int))) rfl rfl (V.len Try.underlying24 rfl) ?_
    refine J.val (v := .bool (decide (i731 < (((xa.length : Nat) : Int))))) rfl rfl (V.lss rfl rfl) ?_
    refine J.nil ?_
    refine CJ.cond rfl (fun hc804 => ?_) (fun hc804 => ?_)
    · have h800 := ct hc804 h800
      refine CJ.skip ?_
      refine CJ.seq ?_
      refine CJ.block ?_
      refine CJ.seq ?_
      refine CJ.region ?_
      refine J.val rfl rfl (V.fad Try.underlying26 rfl nz24 rfl) ?_
      refine J.val (v := .slice adxa_0 xa.length cpxa_0) rfl rfl (V.ld rfl (Ld.sc sc24 (Rd.cl 1 rfl rfl))) ?_
      refine J.val (v := .int .i64 i731) rfl rfl (V.mv rfl) ?_
      obtain ⟨x805, hx806, h800⟩ := ob h800
      obtain ⟨p807, p808, p809⟩ := getI_some hx806
      obtain ⟨b810, o811, e812, a813⟩ := (fxa_0).at p808
      refine J.val rfl rfl (V.iad Try.underlying24 sz60 rfl e812 rfl p807 p809) ?_
      refine J.val rfl rfl (V.fad Try.underlying60 rfl nz3 rfl) ?_
      refine J.val (v := .int .i64 x805.1) rfl rfl (V.ld rfl (Ld.sc sc3 (Rd.k ((a813).fst).int (Hp.le_refl _)))) ?_
      refine J.val (v := .int .i64 x805.1) rfl rfl (V.as rfl) ?_
      refine J.nil ?_
      refine CJ.seq ?_
      refine CJ.seq ?_
      refine CJ.region ?_
      refine J.val (v := .int .i64 x805.1) rfl rfl (V.mv rfl) ?_
      refine J.val (v := .bool (decide (x805.1 < 0))) rfl rfl (V.lss rfl rfl) ?_
      refine J.val (v := .bool (decide (x805.1 < 0))) rfl rfl (V.mv rfl) ?_
      refine J.cut 5 ?_
      refine @J.meet _ _ _ _ _ _ _ _ _ _ (fun ρ K' L' => Fits [(30, .bool ((decide (x805.1 < 0)) || (decide ((((xb.length : Nat) : Int)) ≤ x805.1)))), (1, .slice adxb_0 xb.length cpxb_0), (2, .pointer (some ⟨b438, 0, none⟩)), (4, .pointer (some ⟨b439, 0, none⟩)), (6, .slice ad727 l726.length cp728), (7, .int .i64 i731), (8, .int .i64 x805.1)] ρ ∧ K = K' ∧ L' = Row Hp.nil 60 (.cons (.int .i64) (.one .bool)) (.slice ad727 l726.length cp728) l726 :: Cl b438 26 [.slice adxa_0 xa.length cpxa_0] :: Cl b439 26 [.slice none 0 0] :: F) ?_ ?_
      · skip
        rcases bt (decide (x805.1 < 0)) with hc816 | hc816
        · skip
          refine J.skip rfl rfl rfl rfl hc816 ?_
          refine J.skip rfl rfl rfl rfl hc816 ?_
          refine J.skip rfl rfl rfl rfl hc816 ?_
          refine J.skip rfl rfl rfl rfl hc816 ?_
          refine J.val (v := .bool true) rfl rfl (V.pickT rfl hc816 rfl) ?_
          refine J.nil ?_
          exact ⟨rfl, ⟨(by simp only [hc816]; rfl), rfl, rfl, rfl, rfl, rfl, rfl, trivial⟩, rfl, rfl⟩
        · skip
          refine J.run rfl rfl rfl hc816 ?_
          refine J.val (v := .int .i64 x805.1) rfl rfl (V.mv rfl) ?_
          refine J.run rfl rfl rfl hc816 ?_
          refine J.val (v := .slice adxb_0 xb.length cpxb_0) rfl rfl (V.mv rfl) ?_
          refine J.run rfl rfl rfl hc816 ?_
          refine J.val (v := .int .i64 (((xb.length : Nat) : Int))) rfl rfl (V.len Try.underlying29 rfl) ?_
          refine J.run rfl rfl rfl hc816 ?_
          refine J.val (v := .bool (decide ((((xb.length : Nat) : Int)) ≤ x805.1))) rfl rfl (V.geq rfl rfl) ?_
          refine J.val (v := .bool (decide ((((xb.length : Nat) : Int)) ≤ x805.1))) rfl rfl (V.pickF rfl hc816 rfl) ?_
          refine J.nil ?_
          exact ⟨rfl, ⟨(by simp only [hc816]; rfl), rfl, rfl, rfl, rfl, rfl, rfl, trivial⟩, rfl, rfl⟩
      · rintro ρ _ _ ⟨hf, rfl, rfl⟩
        obtain ⟨ρ, rfl⟩ := hf.ex
        refine J.nil ?_
        refine CJ.cond rfl (fun hc817 => ?_) (fun hc817 => ?_)
        · have h800 := ct hc817 h800
          refine CJ.seq ?_
          refine CJ.region ?_
          refine J.val (v := .agg #[.slice none 0 0]) rfl rfl (V.build inf26 places26 rfl rfl) ?_
          refine J.front 2 rfl ?_
          refine J.op rfl (A.store (v := .agg #[.slice none 0 0]) (cs' := [.slice none 0 0]) sz26 rfl rfl rfl rfl rfl rfl) ?_
          rintro _ _ _ ⟨rfl, rfl, rfl⟩
          refine J.val (v := .int .i64 7) rfl rfl (V.as rfl) ?_
          refine J.nil ?_
          refine CJ.by (fun w hs => Sep.rowNil (e := 60) (t := (.cons (.int .i64) (.one .bool))) hs) ?_
          refine CJ.ret ?_
          have e := Option.some.inj h800
          subst e
          refine ⟨nofun, fun e => ?_⟩
          subst e
          refine .inr ⟨nofun, ?_⟩
          have e := Option.some.inj h
          subst e
          exact ⟨_, [Row Hp.nil 60 (.cons (.int .i64) (.one .bool)) (.slice none ((([] : List (Int × Bool))).length) 0) (([] : List (Int × Bool)))], Res.two rfl ⟨_, _, rfl, Ld.agg (cs := [.slice none 0 0]) Try.underlying26 sz26 rfl (Rd.cls 1 0 rfl rfl)⟩ rfl, ⟨[], 7, none, 0, rfl, rfl, rfl⟩, (Hp.le_refl _), fun w hs => (Sep.dropAt 1 rfl (Sep.dropAt 1 rfl (Sep.dropAt 1 rfl hs)))⟩
        · have h800 := cf hc817 h800
          refine CJ.skip ?_
          refine CJ.mix [Row Hp.nil 60 (.cons (.int .i64) (.one .bool)) (.slice ad727 l726.length cp728) l726, Cl b438 26 [.slice adxa_0 xa.length cpxa_0], Cl b439 26 [.slice none 0 0]] [([0, 1, 2, 3, 4, 5, 6, 7, 8, 9, 10, 11], 12)] [] [13, 14] mixO (by decide +kernel) ⟨0, rfl, 0, rfl, 0, rfl, trivial⟩ rfl rfl rfl ?_
          refine JM.cons ?_
          refine JQ.val (v := .slice ad727 l726.length cp728) rfl rfl (V.mv rfl) ?_
          refine JQ.val (v := .slice adxb_0 xb.length cpxb_0) rfl rfl (V.mv rfl) ?_
          refine JQ.val (v := .int .i64 x805.1) rfl rfl (V.mv rfl) ?_
          obtain ⟨x840, hx841, h800⟩ := ob h800
          obtain ⟨p842, p843, p844⟩ := getI_some hx841
          obtain ⟨b845, o846, e847, a848⟩ := (fxb_0).at p843
          refine JQ.val rfl rfl (V.iad Try.underlying29 sz3 rfl e847 rfl p842 p844) ?_
          refine JQ.val (v := .int .i64 x840) rfl rfl (V.ld rfl (Ld.sc sc3 (Rd.k (a848).int (Hp.le_refl _)))) ?_
          refine JQ.val rfl rfl (V.fad Try.underlying26 rfl nz24 rfl) ?_
          refine JQ.val (v := .slice adxa_0 xa.length cpxa_0) rfl rfl (V.ld rfl (Ld.sc sc24 (Rd.cl 1 rfl rfl))) ?_
          refine JQ.val (v := .int .i64 i731) rfl rfl (V.mv rfl) ?_
          obtain ⟨x849, hx850, h800⟩ := ob h800
          obtain ⟨p851, p852, p853⟩ := getI_some hx850
          obtain ⟨b854, o855, e856, a857⟩ := (fxa_0).at p852
          refine JQ.val rfl rfl (V.iad Try.underlying24 sz60 rfl e856 rfl p851 p853) ?_
          refine JQ.val rfl rfl (V.fad Try.underlying60 rfl nz4 rfl) ?_
          refine JQ.val (v := .bool x849.2) rfl rfl (V.ld rfl (Ld.sc sc4 (Rd.k (((a857).snd).one).bool (Hp.le_refl _)))) ?_
          refine JQ.val (v := .agg #[.int .i64 x840, .bool x849.2]) rfl rfl (V.build inf60 places60 rfl rfl) ?_
          refine JQ.nil ?_
          refine JA.op rfl (A.lit (K0 := Hp.nil) (ty := (.cons (.int .i64) (.one .bool))) (xs := ([(x840, x849.2)] : List (Int × Bool))) Try.underlying24 inf60 rfl (by decide) rfl rfl rfl ⟨_, _, rfl, ⟨_, _, rfl, rfl, rfl, rfl⟩, rfl⟩ rfl (by decide)) ?_
          rintro _ _ _ ⟨b858, rfl, rfl, rfl⟩
          have hn859 : ([(x840, x849.2)] : List (Int × Bool)) ≠ [] → ∃ g, (some ⟨b858, 0, none⟩ : Option Addr) = some ⟨g, 0, none⟩ := fun _ => ⟨b858, rfl⟩
          refine ⟨fun w hs => Hold.sub (Hp.le_refl _) ⟨1, rfl, 1, rfl, 1, rfl, trivial⟩ hs, ?_⟩
          refine JM.nil ?_
          refine JQ.nil ?_
          obtain ⟨z861, hz862, h800⟩ := ob h800
          refine J.front 1 rfl ?_
          refine J.op rfl (A.appR (Kr := Hp.nil) Try.underlying24 inf60 rfl rfl (by decide) (by decide) rfl rfl (Els.flat rfl) (Els.flat rfl) hz862) ?_
          rintro _ _ _ ⟨v863, rfl, rfl, rfl⟩
          refine J.wit Row.form ?_
          rintro ⟨ad864, cp865, rfl, _, _, hn866⟩
          refine J.val (v := .slice ad864 z861.length cp865) rfl rfl (V.as rfl) ?_
          refine J.nil ?_
          refine CJ.region ?_
          refine J.val (v := .int .i64 i731) rfl rfl (V.mv rfl) ?_
          refine J.val (v := .int .i64 (IntKind.wrap .i64 (i731 + 1))) rfl rfl (V.add rfl rfl) ?_
          refine J.val (v := .int .i64 (IntKind.wrap .i64 (i731 + 1))) rfl rfl (V.as rfl) ?_
          refine J.front 2 rfl ?_
          refine J.front 2 rfl ?_
          refine J.nil ?_
          have e := Option.some.inj h800
          subst e
          exact ⟨rfl, ⟨z861, IntKind.wrap .i64 (i731 + 1), ad864, cp865, rfl, ⟨rfl, rfl, rfl, rfl, rfl, trivial⟩, rfl, rfl⟩⟩
    · have h800 := cf hc804 h800
      refine CJ.dropAt 1 rfl ?_
      refine CJ.front 1 rfl ?_
      refine CJ.exit ?_
      have e := Option.some.inj h800
      subst e
      refine ⟨nofun, fun e => ?_⟩
      subst e
      exact .inl ⟨rfl, _, rfl, ⟨l726, ad727, cp728, rfl, ⟨rfl, rfl, trivial⟩, rfl, rfl⟩⟩
  · rintro s ρ _ _ ho867 ⟨l651, ad652, cp653, rfl, hf868, rfl, rfl⟩
    subst ho867
    obtain ⟨ρ, rfl⟩ := hf868.ex
    refine PJ.front 1 rfl ?_
    refine PJ.wit Row.hn (fun hn655 => ?_)
    refine PJ.done ?_
    refine CJ.seq ?_
    refine CJ.region ?_
    refine J.val (v := .slice ad652 l651.length cp653) rfl rfl (V.mv rfl) ?_
    refine J.val (v := .agg #[.slice ad652 l651.length cp653]) rfl rfl (V.build inf26 places26 rfl rfl) ?_
    refine J.front 1 rfl ?_
    refine J.op rfl (A.store (v := .agg #[.slice ad652 l651.length cp653]) (cs' := [.slice ad652 l651.length cp653]) sz26 rfl rfl rfl rfl rfl rfl) ?_
    rintro _ _ _ ⟨rfl, rfl, rfl⟩
    refine J.val (v := .int .i64 0) rfl rfl (V.as rfl) ?_
    refine J.nil ?_
    refine CJ.ret ?_
    have e := Option.some.inj h
    subst e
    exact ⟨_, [Row Hp.nil 60 (.cons (.int .i64) (.one .bool)) (.slice ad652 l651.length cp653) l651], Res.two rfl ⟨_, _, rfl, Ld.agg (cs := [.slice ad652 l651.length cp653]) Try.underlying26 sz26 rfl (Rd.cls 0 0 rfl rfl)⟩ rfl, ⟨l651, 0, ad652, cp653, rfl, rfl, rfl⟩, (Hp.le_refl _), fun w hs => (Sep.dropAt 0 rfl hs)⟩
noncomputable def fn_ref15_Shape_l1 (xa : (List (Int × Bool))) (xb : (List (Int × Bool))) : Int → Option (Int ⊕ (Unit ⊕ Bool)) := fun (i417 : Int) => cond (decide (i417 < (((xa.length : Nat) : Int)))) ((getI xa i417).bind fun x480 => (getI xb i417).bind fun x489 => cond (!(x480.2 == x489.2)) (some (.inr ((.inr (false))))) (some (.inl (IntKind.wrap .i64 (i417 + 1))))) (some (.inr ((.inl ()))))
noncomputable def fn_ref15_Shape (xa : (List (Int × Bool))) (xb : (List (Int × Bool))) : Option Bool :=
  cond (!decide ((((xa.length : Nat) : Int)) = (((xb.length : Nat) : Int)))) (some (false)) ((loop (fn_ref15_Shape_l1 xa xb) 0 : Option (Unit ⊕ Bool)).bind fun o => match o with | .inr r => some r | .inl () => some (true))
set_option maxRecDepth 100000 in
set_option maxHeartbeats 4000000 in
theorem ref15_Shape_ok {K : Hp} {xa : (List (Int × Bool))} {xb : (List (Int × Bool))} {adxa_0 : Option Addr} {cpxa_0 : Nat} {adxb_0 : Option Addr} {cpxb_0 : Nat} (fxa_0 : Is K (.sl (.cons (.int .i64) (.one .bool))) [.slice adxa_0 xa.length cpxa_0] xa) (fxb_0 : Is K (.sl (.cons (.int .i64) (.one .bool))) [.slice adxb_0 xb.length cpxb_0] xb) {r : Bool} (h : fn_ref15_Shape xa xb = some r) :
    Tr Try.prog 48 #[.agg #[.slice adxa_0 xa.length cpxa_0], .agg #[.slice adxb_0 xb.length cpxb_0]] K [] (fun v K' L' => (∃ (t251 : Bool), t251 = r ∧ .bool t251 = v ∧ L' = []) ∧ K = K') := by
  refine Tr.k ?_
  refine Tr.of Try.func48 rfl Try.ntmps48 rfl (fun E F => ?_)
  unfold fn_ref15_Shape at h
  refine CJ.seq ?_
  refine CJ.region ?_
  refine J.op rfl (A.box (v := .agg #[.slice adxa_0 xa.length cpxa_0]) (cs := [.slice adxa_0 xa.length cpxa_0]) rfl rfl) ?_
  rintro _ _ _ ⟨b252, rfl, rfl, rfl⟩
  refine J.op rfl (A.box (v := .agg #[.slice adxb_0 xb.length cpxb_0]) (cs := [.slice adxb_0 xb.length cpxb_0]) rfl rfl) ?_
  rintro _ _ _ ⟨b253, rfl, rfl, rfl⟩
  refine J.val (v := .bool false) rfl rfl (V.as rfl) ?_
  refine J.nil ?_
  refine CJ.seq ?_
  refine CJ.seq ?_
  refine CJ.region ?_
  refine J.val rfl rfl (V.fad Try.underlying26 rfl nz24 rfl) ?_
  refine J.val (v := .slice adxa_0 xa.length cpxa_0) rfl rfl (V.ld rfl (Ld.sc sc24 (Rd.cl 1 rfl rfl))) ?_
  refine J.val (v := .int .i64 (((xa.length : Nat) : Int))) rfl rfl (V.len Try.underlying24 rfl) ?_
  refine J.val rfl rfl (V.fad Try.underlying26 rfl nz24 rfl) ?_
  refine J.val (v := .slice adxb_0 xb.length cpxb_0) rfl rfl (V.ld rfl (Ld.sc sc24 (Rd.cl 0 rfl rfl))) ?_
  refine J.val (v := .int .i64 (((xb.length : Nat) : Int))) rfl rfl (V.len Try.underlying24 rfl) ?_
  refine J.val (v := .bool (!decide ((((xa.length : Nat) : Int)) = (((xb.length : Nat) : Int))))) rfl rfl (V.neq rfl rfl) ?_
  refine J.nil ?_
  refine CJ.cond rfl (fun hc254 => ?_) (fun hc254 => ?_)
  · have h := ct hc254 h
    refine CJ.seq ?_
    refine CJ.region ?_
    refine J.val (v := .bool false) rfl rfl (V.as rfl) ?_
    refine J.nil ?_
    refine CJ.ret ?_
    have e := Option.some.inj h
    subst e
    exact ⟨_, [], Res.one rfl rfl, ⟨false, rfl, rfl, rfl⟩, (Hp.le_refl _), fun w hs => (Sep.dropAt 0 rfl (Sep.dropAt 0 rfl hs))⟩
  · have h := cf hc254 h
    refine CJ.skip ?_
    refine CJ.seq ?_
    refine CJ.seq ?_
    refine CJ.region ?_
    refine J.val (v := .int .i64 0) rfl rfl (V.as rfl) ?_
    refine J.nil ?_
    obtain ⟨o376, ho377, h⟩ := ob h
    refine CJ.joinN (o := o376) (fun s ρ K' L' => () = s ∧ Fits [] ρ ∧ K = K' ∧ F = L') ?_ ?_
    · skip
      refine CJ.block ?_
      refine CJ.front 1 rfl ?_
      refine CJ.loop (fun s ρ K' L' => ∃ (i417 : Int), i417 = s ∧ Fits [(2, .pointer (some ⟨b252, 0, none⟩)), (3, .pointer (some ⟨b253, 0, none⟩)), (5, .int .i64 i417)] ρ ∧ K = K' ∧ L' = Cl b252 26 [.slice adxa_0 xa.length cpxa_0] :: Cl b253 26 [.slice adxb_0 xb.length cpxb_0] :: F) ho377 ⟨0, rfl, ⟨rfl, rfl, rfl, trivial⟩, rfl, rfl⟩ ?_
      rintro s ρ _ _ r460 ⟨i417, rfl, hf458, rfl, rfl⟩ h457
      obtain ⟨ρ, rfl⟩ := hf458.ex
      refine CJ.seq ?_
      refine CJ.seq ?_
      refine CJ.region ?_
      refine J.val (v := .int .i64 i417) rfl rfl (V.mv rfl) ?_
      refine J.val rfl rfl (V.fad Try.underlying26 rfl nz24 rfl) ?_
      refine J.val (v := .slice adxa_0 xa.length cpxa_0) rfl rfl (V.ld rfl (Ld.sc sc24 (Rd.cl 0 rfl rfl))) ?_
      refine J.val (v := .int .i64 (((xa.length : Nat) : Int))) rfl rfl (V.len Try.underlying24 rfl) ?_
      refine J.val (v := .bool (decide (i417 < (((xa.length : Nat) : Int))))) rfl rfl (V.lss rfl rfl) ?_
      refine J.nil ?_
      refine CJ.cond rfl (fun hc461 => ?_) (fun hc461 => ?_)
      · have h457 := ct hc461 h457
        refine CJ.skip ?_
        refine CJ.seq ?_
        refine CJ.block ?_
        refine CJ.seq ?_
        refine CJ.mix [Cl b252 26 [.slice adxa_0 xa.length cpxa_0], Cl b253 26 [.slice adxb_0 xb.length cpxb_0]] [] [0, 1, 2, 3, 4, 5, 6, 7, 8, 9, 10, 11, 12] [] mixO (by decide +kernel) ⟨0, rfl, 0, rfl, trivial⟩ rfl rfl rfl ?_
        refine JM.nil ?_
        refine JQ.val rfl rfl (V.fad Try.underlying26 rfl nz24 rfl) ?_
        refine JQ.val (v := .slice adxa_0 xa.length cpxa_0) rfl rfl (V.ld rfl (Ld.sc sc24 (Rd.cl 0 rfl rfl))) ?_
        refine JQ.val (v := .int .i64 i417) rfl rfl (V.mv rfl) ?_
        obtain ⟨x480, hx481, h457⟩ := ob h457
        obtain ⟨p482, p483, p484⟩ := getI_some hx481
        obtain ⟨b485, o486, e487, a488⟩ := (fxa_0).at p483
        refine JQ.val rfl rfl (V.iad Try.underlying24 sz60 rfl e487 rfl p482 p484) ?_
        refine JQ.val rfl rfl (V.fad Try.underlying60 rfl nz4 rfl) ?_
        refine JQ.val (v := .bool x480.2) rfl rfl (V.ld rfl (Ld.sc sc4 (Rd.k (((a488).snd).one).bool (Hp.le_refl _)))) ?_
        refine JQ.val rfl rfl (V.fad Try.underlying26 rfl nz24 rfl) ?_
        refine JQ.val (v := .slice adxb_0 xb.length cpxb_0) rfl rfl (V.ld rfl (Ld.sc sc24 (Rd.cl 1 rfl rfl))) ?_
        refine JQ.val (v := .int .i64 i417) rfl rfl (V.mv rfl) ?_
        obtain ⟨x489, hx490, h457⟩ := ob h457
        obtain ⟨p491, p492, p493⟩ := getI_some hx490
        obtain ⟨b494, o495, e496, a497⟩ := (fxb_0).at p492
        refine JQ.val rfl rfl (V.iad Try.underlying24 sz60 rfl e496 rfl p491 p493) ?_
        refine JQ.val rfl rfl (V.fad Try.underlying60 rfl nz4 rfl) ?_
        refine JQ.val (v := .bool x489.2) rfl rfl (V.ld rfl (Ld.sc sc4 (Rd.k (((a497).snd).one).bool (Hp.le_refl _)))) ?_
        refine JQ.val (v := .bool (!(x480.2 == x489.2))) rfl rfl (V.neb Try.underlying4 rfl rfl) ?_
        refine JQ.nil ?_
        refine J.nil ?_
        refine CJ.cond rfl (fun hc498 => ?_) (fun hc498 => ?_)
        · have h457 := ct hc498 h457
          refine CJ.seq ?_
          refine CJ.region ?_
          refine J.val (v := .bool false) rfl rfl (V.as rfl) ?_
          refine J.nil ?_
          refine CJ.ret ?_
          have e := Option.some.inj h457
          subst e
          refine ⟨nofun, fun e => ?_⟩
          subst e
          refine .inr ⟨nofun, ?_⟩
          have e := Option.some.inj h
          subst e
          exact ⟨_, [], Res.one rfl rfl, ⟨false, rfl, rfl, rfl⟩, (Hp.le_refl _), fun w hs => (Sep.dropAt 0 rfl (Sep.dropAt 0 rfl hs))⟩
        · have h457 := cf hc498 h457
          refine CJ.skip ?_
          refine CJ.region ?_
          refine J.val (v := .int .i64 i417) rfl rfl (V.mv rfl) ?_
          refine J.val (v := .int .i64 (IntKind.wrap .i64 (i417 + 1))) rfl rfl (V.add rfl rfl) ?_
          refine J.val (v := .int .i64 (IntKind.wrap .i64 (i417 + 1))) rfl rfl (V.as rfl) ?_
          refine J.nil ?_
          have e := Option.some.inj h457
          subst e
          exact ⟨rfl, ⟨IntKind.wrap .i64 (i417 + 1), rfl, ⟨rfl, rfl, rfl, trivial⟩, rfl, rfl⟩⟩
      · have h457 := cf hc461 h457
        refine CJ.dropAt 0 rfl ?_
        refine CJ.dropAt 0 rfl ?_
        refine CJ.exit ?_
        have e := Option.some.inj h457
        subst e
        refine ⟨nofun, fun e => ?_⟩
        subst e
        exact .inl ⟨rfl, _, rfl, ⟨rfl, trivial, rfl, rfl⟩⟩
    · rintro s ρ _ _ ho499 ⟨rfl, hf500, rfl, rfl⟩
      subst ho499
      obtain ⟨ρ, rfl⟩ := hf500.ex
      refine PJ.done ?_
      refine CJ.seq ?_
      refine CJ.region ?_
      refine J.val (v := .bool true) rfl rfl (V.as rfl) ?_
      refine J.nil ?_
      refine CJ.ret ?_
      have e := Option.some.inj h
      subst e
      exact ⟨_, [], Res.one rfl rfl, ⟨true, rfl, rfl, rfl⟩, (Hp.le_refl _), fun w hs => hs⟩
noncomputable def fn_ref16_slots_rkkii_l1 (xb : (List (Int × Bool))) (xc : (List (Int × Bool))) (xd : Int) (xe : Int) : ((List (Int × Int × Int × Int × Bool)) × Int) → Option (((List (Int × Int × Int × Int × Bool)) × Int) ⊕ (List (Int × Int × Int × Int × Bool))) := fun ((l1164, i1169) : ((List (Int × Int × Int × Int × Bool)) × Int)) => cond (decide (i1169 < (((xb.length : Nat) : Int)))) ((getI xb i1169).bind fun x1309 => (getI xc i1169).bind fun x1318 => (app l1164 (([(x1309.1, x1318.1, xd, IntKind.wrap .i64 (xe + i1169), false)] : List (Int × Int × Int × Int × Bool)))).bind fun z1330 => (getI xc i1169).bind fun x1336 => cond (x1336.2) ((getI xc i1169).bind fun x1367 => (getI xb i1169).bind fun x1376 => (app z1330 (([(x1367.1, x1376.1, xd, IntKind.wrap .i64 (xe + i1169), true)] : List (Int × Int × Int × Int × Bool)))).bind fun z1388 => some (.inl ((z1388, IntKind.wrap .i64 (i1169 + 1))))) (some (.inl ((z1330, IntKind.wrap .i64 (i1169 + 1)))))) (some (.inr (l1164)))
noncomputable def fn_ref16_slots_rkkii (xb : (List (Int × Bool))) (xc : (List (Int × Bool))) (xd : Int) (xe : Int) (qxa : (List (Int × Int × Int × Int × Bool))) : Option ((List (Int × Int × Int × Int × Bool))) :=
  (loop (fn_ref16_slots_rkkii_l1 xb xc xd xe) (qxa, 0) : Option ((List (Int × Int × Int × Int × Bool)))).bind fun l1044 => some (l1044)
set_option maxRecDepth 100000 in
set_option maxHeartbeats 4000000 in
theorem ref16_slots_rkkii_ok {K : Hp} {xb : (List (Int × Bool))} {xc : (List (Int × Bool))} {xd : Int} {xe : Int} {qxa : (List (Int × Int × Int × Int × Bool))} {adxb_0 : Option Addr} {cpxb_0 : Nat} {adxc_0 : Option Addr} {cpxc_0 : Nat} {adqxa : Option Addr} {cpqxa : Nat} (fxb_0 : Is K (.sl (.cons (.int .i64) (.one .bool))) [.slice adxb_0 xb.length cpxb_0] xb) (fxc_0 : Is K (.sl (.cons (.int .i64) (.one .bool))) [.slice adxc_0 xc.length cpxc_0] xc) {r : (List (Int × Int × Int × Int × Bool))} (h : fn_ref16_slots_rkkii xb xc xd xe qxa = some r) :
    Tr Try.prog 59 #[.slice adqxa qxa.length cpqxa, .slice adxb_0 xb.length cpxb_0, .slice adxc_0 xc.length cpxc_0, .int .i64 xd, .int .i64 xe] K [Row Hp.nil 69 (.cons (.int .i64) (.cons (.int .i64) (.cons (.int .i64) (.cons (.int .i64) (.one .bool))))) (.slice adqxa qxa.length cpqxa) qxa] (fun v K' L' => (∃ (l696 : (List (Int × Int × Int × Int × Bool))) (ad697 : Option Addr) (cp698 : Nat), l696 = r ∧ .slice ad697 l696.length cp698 = v ∧ L' = [Row Hp.nil 69 (.cons (.int .i64) (.cons (.int .i64) (.cons (.int .i64) (.cons (.int .i64) (.one .bool))))) (.slice ad697 l696.length cp698) l696]) ∧ K = K') := by
  refine Tr.k ?_
  refine Tr.of Try.func59 rfl Try.ntmps59 rfl (fun E F => ?_)
  unfold fn_ref16_slots_rkkii at h
  refine CJ.wit Row.hn (fun hnqxa => ?_)
  refine CJ.seq ?_
  refine CJ.region ?_
  refine J.val (v := .slice none 0 0) rfl rfl (V.as rfl) ?_
  refine J.nil ?_
  refine CJ.seq ?_
  refine CJ.seq ?_
  refine CJ.region ?_
  refine J.val (v := .int .i64 0) rfl rfl (V.as rfl) ?_
  refine J.nil ?_
  obtain ⟨o1049, ho1050, h⟩ := ob h
  refine CJ.meetN (fun ρ K' L' => ∃ (l1044 : (List (Int × Int × Int × Int × Bool))) (ad1045 : Option Addr) (cp1046 : Nat), l1044 = o1049 ∧ Fits [(0, .slice ad1045 l1044.length cp1046)] ρ ∧ K = K' ∧ L' = Row Hp.nil 69 (.cons (.int .i64) (.cons (.int .i64) (.cons (.int .i64) (.cons (.int .i64) (.one .bool))))) (.slice ad1045 l1044.length cp1046) l1044 :: F) ?_ ?_
  · skip
    refine CJ.block ?_
    refine CJ.loop (fun s ρ K' L' => ∃ (l1164 : (List (Int × Int × Int × Int × Bool))) (i1169 : Int) (ad1165 : Option Addr) (cp1166 : Nat), (l1164, i1169) = s ∧ Fits [(0, .slice ad1165 l1164.length cp1166), (1, .slice adxb_0 xb.length cpxb_0), (2, .slice adxc_0 xc.length cpxc_0), (3, .int .i64 xd), (4, .int .i64 xe), (11, .int .i64 i1169)] ρ ∧ K = K' ∧ L' = Row Hp.nil 69 (.cons (.int .i64) (.cons (.int .i64) (.cons (.int .i64) (.cons (.int .i64) (.one .bool))))) (.slice ad1165 l1164.length cp1166) l1164 :: F) ho1050 ⟨qxa, 0, adqxa, cpqxa, rfl, ⟨rfl, rfl, rfl, rfl, rfl, rfl, trivial⟩, rfl, rfl⟩ ?_
    rintro s ρ _ _ r1286 ⟨l1164, i1169, ad1165, cp1166, rfl, hf1284, rfl, rfl⟩ h1283
    obtain ⟨ρ, rfl⟩ := hf1284.ex
    refine CJ.wit Row.hn (fun hn1168 => ?_)
    refine CJ.seq ?_
    refine CJ.seq ?_
    refine CJ.region ?_
    refine J.val (v := .int .i64 i1169) rfl rfl (V.mv rfl) ?_
    refine J.val (v := .slice adxb_0 xb.length cpxb_0) rfl rfl (V.mv rfl) ?_
    refine J.val (v := .int .i64 (((xb.length : Nat) : Int))) rfl rfl (V.len Try.underlying24 rfl) ?_
    refine J.val (v := .bool (decide (i1169 < (((xb.length : Nat) : Int))))) rfl rfl (V.lss rfl rfl) ?_
    refine J.nil ?_
    refine CJ.cond rfl (fun hc1287 => ?_) (fun hc1287 => ?_)
    · have h1283 := ct hc1287 h1283
      refine CJ.skip ?_
      refine CJ.seq ?_
      refine CJ.block ?_
      refine CJ.seq ?_
      refine CJ.mix [Row Hp.nil 69 (.cons (.int .i64) (.cons (.int .i64) (.cons (.int .i64) (.cons (.int .i64) (.one .bool))))) (.slice ad1165 l1164.length cp1166) l1164] [([0, 1, 2, 3, 4, 5, 6, 7, 8, 9, 10, 11, 12, 13, 14, 15], 16)] [] [17, 18] mixO (by decide +kernel) ⟨0, rfl, trivial⟩ rfl rfl rfl ?_
      refine JM.cons ?_
      refine JQ.val (v := .slice ad1165 l1164.length cp1166) rfl rfl (V.mv rfl) ?_
      refine JQ.val (v := .slice adxb_0 xb.length cpxb_0) rfl rfl (V.mv rfl) ?_
      refine JQ.val (v := .int .i64 i1169) rfl rfl (V.mv rfl) ?_
      obtain ⟨x1309, hx1310, h1283⟩ := ob h1283
      obtain ⟨p1311, p1312, p1313⟩ := getI_some hx1310
      obtain ⟨b1314, o1315, e1316, a1317⟩ := (fxb_0).at p1312
      refine JQ.val rfl rfl (V.iad Try.underlying24 sz60 rfl e1316 rfl p1311 p1313) ?_
      refine JQ.val rfl rfl (V.fad Try.underlying60 rfl nz3 rfl) ?_
      refine JQ.val (v := .int .i64 x1309.1) rfl rfl (V.ld rfl (Ld.sc sc3 (Rd.k ((a1317).fst).int (Hp.le_refl _)))) ?_
      refine JQ.val (v := .slice adxc_0 xc.length cpxc_0) rfl rfl (V.mv rfl) ?_
      refine JQ.val (v := .int .i64 i1169) rfl rfl (V.mv rfl) ?_
      obtain ⟨x1318, hx1319, h1283⟩ := ob h1283
      obtain ⟨p1320, p1321, p1322⟩ := getI_some hx1319
      obtain ⟨b1323, o1324, e1325, a1326⟩ := (fxc_0).at p1321
      refine JQ.val rfl rfl (V.iad Try.underlying24 sz60 rfl e1325 rfl p1320 p1322) ?_
      refine JQ.val rfl rfl (V.fad Try.underlying60 rfl nz3 rfl) ?_
      refine JQ.val (v := .int .i64 x1318.1) rfl rfl (V.ld rfl (Ld.sc sc3 (Rd.k ((a1326).fst).int (Hp.le_refl _)))) ?_
      refine JQ.val (v := .int .i64 xd) rfl rfl (V.mv rfl) ?_
      refine JQ.val (v := .int .i64 xe) rfl rfl (V.mv rfl) ?_
      refine JQ.val (v := .int .i64 i1169) rfl rfl (V.mv rfl) ?_
      refine JQ.val (v := .int .i64 (IntKind.wrap .i64 (xe + i1169))) rfl rfl (V.add rfl rfl) ?_
      refine JQ.val (v := .agg #[.int .i64 x1309.1, .int .i64 x1318.1, .int .i64 xd, .int .i64 (IntKind.wrap .i64 (xe + i1169)), .bool false]) rfl rfl (V.build inf69 places69 rfl rfl) ?_
      refine JQ.nil ?_
      refine JA.op rfl (A.lit (K0 := Hp.nil) (ty := (.cons (.int .i64) (.cons (.int .i64) (.cons (.int .i64) (.cons (.int .i64) (.one .bool)))))) (xs := ([(x1309.1, x1318.1, xd, IntKind.wrap .i64 (xe + i1169), false)] : List (Int × Int × Int × Int × Bool))) Try.underlying38 inf69 rfl (by decide) rfl rfl rfl ⟨_, _, rfl, ⟨_, _, rfl, rfl, rfl, ⟨_, _, rfl, rfl, rfl, ⟨_, _, rfl, rfl, rfl, ⟨_, _, rfl, rfl, rfl, rfl⟩⟩⟩⟩, rfl⟩ rfl (by decide)) ?_
      rintro _ _ _ ⟨b1327, rfl, rfl, rfl⟩
      have hn1328 : ([(x1309.1, x1318.1, xd, IntKind.wrap .i64 (xe + i1169), false)] : List (Int × Int × Int × Int × Bool)) ≠ [] → ∃ g, (some ⟨b1327, 0, none⟩ : Option Addr) = some ⟨g, 0, none⟩ := fun _ => ⟨b1327, rfl⟩
      refine ⟨fun w hs => Hold.sub (Hp.le_refl _) ⟨1, rfl, trivial⟩ hs, ?_⟩
      refine JM.nil ?_
      refine JQ.nil ?_
      obtain ⟨z1330, hz1331, h1283⟩ := ob h1283
      refine J.front 1 rfl ?_
      refine J.op rfl (A.appR (Kr := Hp.nil) Try.underlying38 inf69 rfl rfl (by decide) (by decide) rfl rfl (Els.flat rfl) (Els.flat rfl) hz1331) ?_
      rintro _ _ _ ⟨v1332, rfl, rfl, rfl⟩
      refine J.wit Row.form ?_
      rintro ⟨ad1333, cp1334, rfl, _, _, hn1335⟩
      refine J.val (v := .slice ad1333 z1330.length cp1334) rfl rfl (V.as rfl) ?_
      refine J.nil ?_
      refine CJ.seq ?_
      refine CJ.region ?_
      refine J.val (v := .slice adxc_0 xc.length cpxc_0) rfl rfl (V.mv rfl) ?_
      refine J.val (v := .int .i64 i1169) rfl rfl (V.mv rfl) ?_
      obtain ⟨x1336, hx1337, h1283⟩ := ob h1283
      obtain ⟨p1338, p1339, p1340⟩ := getI_some hx1337
      obtain ⟨b1341, o1342, e1343, a1344⟩ := (fxc_0).at p1339
      refine J.val rfl rfl (V.iad Try.underlying24 sz60 rfl e1343 rfl p1338 p1340) ?_
      refine J.val rfl rfl (V.fad Try.underlying60 rfl nz4 rfl) ?_
      refine J.val (v := .bool x1336.2) rfl rfl (V.ld rfl (Ld.sc sc4 (Rd.k (((a1344).snd).one).bool (Hp.le_refl _)))) ?_
      refine J.nil ?_
      refine CJ.cond rfl (fun hc1345 => ?_) (fun hc1345 => ?_)
      · have h1283 := ct hc1345 h1283
        refine CJ.mix [Row Hp.nil 69 (.cons (.int .i64) (.cons (.int .i64) (.cons (.int .i64) (.cons (.int .i64) (.one .bool))))) (.slice ad1333 z1330.length cp1334) z1330] [([0, 1, 2, 3, 4, 5, 6, 7, 8, 9, 10, 11, 12, 13, 14, 15], 16)] [] [17, 18] mixO (by decide +kernel) ⟨0, rfl, trivial⟩ rfl rfl rfl ?_
        refine JM.cons ?_
        refine JQ.val (v := .slice ad1333 z1330.length cp1334) rfl rfl (V.mv rfl) ?_
        refine JQ.val (v := .slice adxc_0 xc.length cpxc_0) rfl rfl (V.mv rfl) ?_
        refine JQ.val (v := .int .i64 i1169) rfl rfl (V.mv rfl) ?_
        obtain ⟨x1367, hx1368, h1283⟩ := ob h1283
        obtain ⟨p1369, p1370, p1371⟩ := getI_some hx1368
        obtain ⟨b1372, o1373, e1374, a1375⟩ := (fxc_0).at p1370
        refine JQ.val rfl rfl (V.iad Try.underlying24 sz60 rfl e1374 rfl p1369 p1371) ?_
        refine JQ.val rfl rfl (V.fad Try.underlying60 rfl nz3 rfl) ?_
        refine JQ.val (v := .int .i64 x1367.1) rfl rfl (V.ld rfl (Ld.sc sc3 (Rd.k ((a1375).fst).int (Hp.le_refl _)))) ?_
        refine JQ.val (v := .slice adxb_0 xb.length cpxb_0) rfl rfl (V.mv rfl) ?_
        refine JQ.val (v := .int .i64 i1169) rfl rfl (V.mv rfl) ?_
        obtain ⟨x1376, hx1377, h1283⟩ := ob h1283
        obtain ⟨p1378, p1379, p1380⟩ := getI_some hx1377
        obtain ⟨b1381, o1382, e1383, a1384⟩ := (fxb_0).at p1379
        refine JQ.val rfl rfl (V.iad Try.underlying24 sz60 rfl e1383 rfl p1378 p1380) ?_
        refine JQ.val rfl rfl (V.fad Try.underlying60 rfl nz3 rfl) ?_
        refine JQ.val (v := .int .i64 x1376.1) rfl rfl (V.ld rfl (Ld.sc sc3 (Rd.k ((a1384).fst).int (Hp.le_refl _)))) ?_
        refine JQ.val (v := .int .i64 xd) rfl rfl (V.mv rfl) ?_
        refine JQ.val (v := .int .i64 xe) rfl rfl (V.mv rfl) ?_
        refine JQ.val (v := .int .i64 i1169) rfl rfl (V.mv rfl) ?_
        refine JQ.val (v := .int .i64 (IntKind.wrap .i64 (xe + i1169))) rfl rfl (V.add rfl rfl) ?_
        refine JQ.val (v := .agg #[.int .i64 x1367.1, .int .i64 x1376.1, .int .i64 xd, .int .i64 (IntKind.wrap .i64 (xe + i1169)), .bool true]) rfl rfl (V.build inf69 places69 rfl rfl) ?_
        refine JQ.nil ?_
        refine JA.op rfl (A.lit (K0 := Hp.nil) (ty := (.cons (.int .i64) (.cons (.int .i64) (.cons (.int .i64) (.cons (.int .i64) (.one .bool)))))) (xs := ([(x1367.1, x1376.1, xd, IntKind.wrap .i64 (xe + i1169), true)] : List (Int × Int × Int × Int × Bool))) Try.underlying38 inf69 rfl (by decide) rfl rfl rfl ⟨_, _, rfl, ⟨_, _, rfl, rfl, rfl, ⟨_, _, rfl, rfl, rfl, ⟨_, _, rfl, rfl, rfl, ⟨_, _, rfl, rfl, rfl, rfl⟩⟩⟩⟩, rfl⟩ rfl (by decide)) ?_
        rintro _ _ _ ⟨b1385, rfl, rfl, rfl⟩
        have hn1386 : ([(x1367.1, x1376.1, xd, IntKind.wrap .i64 (xe + i1169), true)] : List (Int × Int × Int × Int × Bool)) ≠ [] → ∃ g, (some ⟨b1385, 0, none⟩ : Option Addr) = some ⟨g, 0, none⟩ := fun _ => ⟨b1385, rfl⟩
        refine ⟨fun w hs => Hold.sub (Hp.le_refl _) ⟨1, rfl, trivial⟩ hs, ?_⟩
        refine JM.nil ?_
        refine JQ.nil ?_
        obtain ⟨z1388, hz1389, h1283⟩ := ob h1283
        refine J.front 1 rfl ?_
        refine J.op rfl (A.appR (Kr := Hp.nil) Try.underlying38 inf69 rfl rfl (by decide) (by decide) rfl rfl (Els.flat rfl) (Els.flat rfl) hz1389) ?_
        rintro _ _ _ ⟨v1390, rfl, rfl, rfl⟩
        refine J.wit Row.form ?_
        rintro ⟨ad1391, cp1392, rfl, _, _, hn1393⟩
        refine J.val (v := .slice ad1391 z1388.length cp1392) rfl rfl (V.as rfl) ?_
        refine J.nil ?_
        refine CJ.region ?_
        refine J.val (v := .int .i64 i1169) rfl rfl (V.mv rfl) ?_
        refine J.val (v := .int .i64 (IntKind.wrap .i64 (i1169 + 1))) rfl rfl (V.add rfl rfl) ?_
        refine J.val (v := .int .i64 (IntKind.wrap .i64 (i1169 + 1))) rfl rfl (V.as rfl) ?_
        refine J.nil ?_
        have e := Option.some.inj h1283
        subst e
        exact ⟨rfl, ⟨z1388, IntKind.wrap .i64 (i1169 + 1), ad1391, cp1392, rfl, ⟨rfl, rfl, rfl, rfl, rfl, rfl, trivial⟩, rfl, rfl⟩⟩
      · have h1283 := cf hc1345 h1283
        refine CJ.skip ?_
        refine CJ.region ?_
        refine J.val (v := .int .i64 i1169) rfl rfl (V.mv rfl) ?_
        refine J.val (v := .int .i64 (IntKind.wrap .i64 (i1169 + 1))) rfl rfl (V.add rfl rfl) ?_
        refine J.val (v := .int .i64 (IntKind.wrap .i64 (i1169 + 1))) rfl rfl (V.as rfl) ?_
        refine J.nil ?_
        have e := Option.some.inj h1283
        subst e
        exact ⟨rfl, ⟨z1330, IntKind.wrap .i64 (i1169 + 1), ad1333, cp1334, rfl, ⟨rfl, rfl, rfl, rfl, rfl, rfl, trivial⟩, rfl, rfl⟩⟩
    · have h1283 := cf hc1287 h1283
      refine CJ.exit ?_
      have e := Option.some.inj h1283
      subst e
      refine ⟨nofun, fun e => ?_⟩
      subst e
      exact ⟨rfl, ⟨l1164, ad1165, cp1166, rfl, ⟨rfl, trivial⟩, rfl, rfl⟩⟩
  · rintro ρ _ _ ⟨l1044, ad1045, cp1046, rfl, hf1394, rfl, rfl⟩
    obtain ⟨ρ, rfl⟩ := hf1394.ex
    refine PJ.wit Row.hn (fun hn1048 => ?_)
    refine PJ.done ?_
    refine CJ.seq ?_
    refine CJ.region ?_
    refine J.val (v := .slice ad1045 l1044.length cp1046) rfl rfl (V.mv rfl) ?_
    refine J.val (v := .slice ad1045 l1044.length cp1046) rfl rfl (V.as rfl) ?_
    refine J.nil ?_
    refine CJ.ret ?_
    have e := Option.some.inj h
    subst e
    exact ⟨_, [Row Hp.nil 69 (.cons (.int .i64) (.cons (.int .i64) (.cons (.int .i64) (.cons (.int .i64) (.one .bool))))) (.slice ad1045 l1044.length cp1046) l1044], Res.one rfl rfl, ⟨l1044, ad1045, cp1046, rfl, rfl, rfl⟩, (Hp.le_refl _), fun w hs => hs⟩

noncomputable def fn_ref16_Flow (xa : (List (Int × Bool))) (xb : (List (Int × Bool))) (xc : Int) (xd : Int) : Option (((List (Int × Int × Int × Int × Bool)) × Int)) :=
  (fn_ref15_Shape xa xb).bind fun t34 => cond (!t34) (some (([], 8))) ((fn_ref16_slots_rkkii xa xb xc xd (([] : List (Int × Int × Int × Int × Bool)))).bind fun l45 => some ((l45, 0)))
set_option maxRecDepth 100000 in
set_option maxHeartbeats 4000000 in
theorem ref16_Flow_ok {K : Hp} {xa : (List (Int × Bool))} {xb : (List (Int × Bool))} {xc : Int} {xd : Int} {adxa_0 : Option Addr} {cpxa_0 : Nat} {adxb_0 : Option Addr} {cpxb_0 : Nat} (fxa_0 : Is K (.sl (.cons (.int .i64) (.one .bool))) [.slice adxa_0 xa.length cpxa_0] xa) (fxb_0 : Is K (.sl (.cons (.int .i64) (.one .bool))) [.slice adxb_0 xb.length cpxb_0] xb) {r : ((List (Int × Int × Int × Int × Bool)) × Int)} (h : fn_ref16_Flow xa xb xc xd = some r) :
    Tr Try.prog 35 #[.agg #[.slice adxa_0 xa.length cpxa_0], .agg #[.slice adxb_0 xb.length cpxb_0], .int .i64 xc, .int .i64 xd] K [] (fun v K' L' => (∃ (l24 : (List (Int × Int × Int × Int × Bool))) (i29 : Int) (ad25 : Option Addr) (cp26 : Nat), (l24, i29) = r ∧ .tuple #[.slice ad25 l24.length cp26, .int .i64 i29] = v ∧ L' = [Row Hp.nil 69 (.cons (.int .i64) (.cons (.int .i64) (.cons (.int .i64) (.cons (.int .i64) (.one .bool))))) (.slice ad25 l24.length cp26) l24]) ∧ K = K') := by
  refine Tr.k ?_
  refine Tr.of Try.func35 rfl Try.ntmps35 rfl (fun E F => ?_)
  unfold fn_ref16_Flow at h
  refine CJ.seq ?_
  refine CJ.region ?_
  refine J.op rfl (A.box (v := .agg #[.slice adxa_0 xa.length cpxa_0]) (cs := [.slice adxa_0 xa.length cpxa_0]) rfl rfl) ?_
  rintro _ _ _ ⟨b30, rfl, rfl, rfl⟩
  refine J.op rfl (A.box (v := .agg #[.slice adxb_0 xb.length cpxb_0]) (cs := [.slice adxb_0 xb.length cpxb_0]) rfl rfl) ?_
  rintro _ _ _ ⟨b31, rfl, rfl, rfl⟩
  refine J.val (v := .slice none 0 0) rfl rfl (V.as rfl) ?_
  refine J.val (v := .int .i64 0) rfl rfl (V.as rfl) ?_
  refine J.nil ?_
  refine CJ.seq ?_
  refine CJ.seq ?_
  refine CJ.region ?_
  refine J.val (v := .agg #[.slice adxa_0 xa.length cpxa_0]) rfl rfl (V.ld rfl (Ld.agg (cs := [.slice adxa_0 xa.length cpxa_0]) Try.underlying26 sz26 rfl (Rd.cls 1 0 rfl rfl))) ?_
  refine J.val (v := .agg #[.slice adxb_0 xb.length cpxb_0]) rfl rfl (V.ld rfl (Ld.agg (cs := [.slice adxb_0 xb.length cpxb_0]) Try.underlying26 sz26 rfl (Rd.cls 0 0 rfl rfl))) ?_
  obtain ⟨r32, hr33, h⟩ := ob h
  refine J.op rfl (A.call (L1 := []) Try.call48 rfl (ref15_Shape_ok fxa_0 fxb_0 hr33) rfl rfl) ?_
  rintro _ _ _ ⟨v35, _, rfl, ⟨⟨t34, rfl, rfl, rfl⟩, rfl⟩, _, rfl⟩
  refine J.val (v := .bool (!t34)) rfl rfl (V.not rfl) ?_
  refine J.nil ?_
  refine CJ.cond rfl (fun hc38 => ?_) (fun hc38 => ?_)
  · have h := ct hc38 h
    refine CJ.seq ?_
    refine CJ.region ?_
    refine J.val (v := .slice none 0 0) rfl rfl (V.as rfl) ?_
    refine J.val (v := .int .i64 8) rfl rfl (V.as rfl) ?_
    refine J.nil ?_
    refine CJ.by (fun w hs => Sep.rowNil (e := 69) (t := (.cons (.int .i64) (.cons (.int .i64) (.cons (.int .i64) (.cons (.int .i64) (.one .bool)))))) hs) ?_
    refine CJ.ret ?_
    have e := Option.some.inj h
    subst e
    exact ⟨_, [Row Hp.nil 69 (.cons (.int .i64) (.cons (.int .i64) (.cons (.int .i64) (.cons (.int .i64) (.one .bool))))) (.slice none ((([] : List (Int × Int × Int × Int × Bool))).length) 0) (([] : List (Int × Int × Int × Int × Bool)))], Res.two rfl rfl rfl, ⟨[], 8, none, 0, rfl, rfl, rfl⟩, (Hp.le_refl _), fun w hs => (Sep.dropAt 1 rfl (Sep.dropAt 1 rfl hs))⟩
  · have h := cf hc38 h
    refine CJ.skip ?_
    refine CJ.seq ?_
    refine CJ.region ?_
    refine J.op rfl (A.lit (K0 := Hp.nil) (ty := (.cons (.int .i64) (.cons (.int .i64) (.cons (.int .i64) (.cons (.int .i64) (.one .bool)))))) (xs := ([] : List (Int × Int × Int × Int × Bool))) Try.underlying38 inf69 rfl (by decide) rfl rfl rfl rfl rfl (by decide)) ?_
    rintro _ _ _ ⟨b40, rfl, rfl, rfl⟩
    have hn41 : ([] : List (Int × Int × Int × Int × Bool)) ≠ [] → ∃ g, (some ⟨b40, 0, none⟩ : Option Addr) = some ⟨g, 0, none⟩ := fun _ => ⟨b40, rfl⟩
    refine J.val rfl rfl (V.fad Try.underlying26 rfl nz24 rfl) ?_
    refine J.val (v := .slice adxa_0 xa.length cpxa_0) rfl rfl (V.ld rfl (Ld.sc sc24 (Rd.cl 2 rfl rfl))) ?_
    refine J.val rfl rfl (V.fad Try.underlying26 rfl nz24 rfl) ?_
    refine J.val (v := .slice adxb_0 xb.length cpxb_0) rfl rfl (V.ld rfl (Ld.sc sc24 (Rd.cl 1 rfl rfl))) ?_
    refine J.val (v := .int .i64 xc) rfl rfl (V.mv rfl) ?_
    refine J.val (v := .int .i64 xd) rfl rfl (V.mv rfl) ?_
    obtain ⟨r43, hr44, h⟩ := ob h
    refine J.op rfl (A.call (L1 := [Row Hp.nil 69 (.cons (.int .i64) (.cons (.int .i64) (.cons (.int .i64) (.cons (.int .i64) (.one .bool))))) (.slice (some ⟨b40, 0, none⟩) ((([] : List (Int × Int × Int × Int × Bool))).length) 0) (([] : List (Int × Int × Int × Int × Bool)))]) Try.call59 rfl (ref16_slots_rkkii_ok fxa_0 fxb_0 hr44) rfl rfl) ?_
    rintro _ _ _ ⟨v49, _, rfl, ⟨⟨l45, ad46, cp47, rfl, rfl, rfl⟩, rfl⟩, _, rfl⟩
    refine J.wit Row.hn (fun hn48 => ?_)
    refine J.val (v := .slice ad46 l45.length cp47) rfl rfl (V.as rfl) ?_
    refine J.val (v := .int .i64 0) rfl rfl (V.as rfl) ?_
    refine J.nil ?_
    refine CJ.ret ?_
    have e := Option.some.inj h
    subst e
    exact ⟨_, [Row Hp.nil 69 (.cons (.int .i64) (.cons (.int .i64) (.cons (.int .i64) (.cons (.int .i64) (.one .bool))))) (.slice ad46 l45.length cp47) l45], Res.two rfl rfl rfl, ⟨l45, 0, ad46, cp47, rfl, rfl, rfl⟩, (Hp.le_refl _), fun w hs => (Sep.dropAt 1 rfl (Sep.dropAt 1 rfl hs))⟩
noncomputable def fn_ref17_Call_l1 (xa : (Int × (List (Int × Int)) × (List (List (Int × Bool))) × (List (Int × Bool)))) (xb : (List Int)) : ((List (Int × Int × Int × Int × Bool)) × Int) → Option (((List (Int × Int × Int × Int × Bool)) × Int) ⊕ (List (Int × Int × Int × Int × Bool))) := fun ((l1594, i1599) : ((List (Int × Int × Int × Int × Bool)) × Int)) => cond (decide (i1599 < (((xa.2.1.length : Nat) : Int)))) ((getI xa.2.1 i1599).bind fun x1735 => (getI xb x1735.1).bind fun x1744 => (getI xa.2.1 i1599).bind fun x1753 => (getI xb x1753.2).bind fun x1762 => (app l1594 (([(x1744, x1762, 4, i1599, false)] : List (Int × Int × Int × Int × Bool)))).bind fun z1774 => some (.inl ((z1774, IntKind.wrap .i64 (i1599 + 1))))) (some (.inr (l1594)))
noncomputable def fn_ref17_Call_l2 (xa : (Int × (List (Int × Int)) × (List (List (Int × Bool))) × (List (Int × Bool)))) (xb : (List Int)) (xc : (List (List (Int × Bool)))) : ((List (Int × Int × Int × Int × Bool)) × Int) → Option (((List (Int × Int × Int × Int × Bool)) × Int) ⊕ ((List (Int × Int × Int × Int × Bool)) ⊕ ((List (Int × Int × Int × Int × Bool)) × Int))) := fun ((l2169, i2174) : ((List (Int × Int × Int × Int × Bool)) × Int)) => cond (decide (i2174 < (((xa.2.2.1.length : Nat) : Int)))) ((getI xa.2.2.1 i2174).bind fun x2274 => (fn_ref15_Subst x2274 xb).bind fun (l2289, i2290) => (getI xc i2174).bind fun x2326 => (fn_ref16_Flow x2326 l2289 5 (IntKind.wrap .i64 (16 * i2174))).bind fun (l2344, i2345) => cond (!decide (i2345 = 0)) (some (.inr ((.inr (([], i2345)))))) ((app l2169 l2344).bind fun z2355 => some (.inl ((z2355, IntKind.wrap .i64 (i2174 + 1)))))) (some (.inr (.inl l2169)))
noncomputable def fn_ref17_Call (xa : (Int × (List (Int × Int)) × (List (List (Int × Bool))) × (List (Int × Bool)))) (xb : (List Int)) (xc : (List (List (Int × Bool)))) (xd : (List (Int × Bool))) : Option (((List (Int × Int × Int × Int × Bool)) × Int)) :=
  (fn_ref17_Check (xa.1, xa.2.1, xa.2.2.1, xa.2.2.2)).bind fun i1205 => cond (!decide (i1205 = 0)) (some (([], i1205))) (cond ((!decide ((((xb.length : Nat) : Int)) = xa.1)) || (!decide ((((xc.length : Nat) : Int)) = (((xa.2.2.1.length : Nat) : Int))))) (some (([], 2))) ((loop (fn_ref17_Call_l1 xa xb) ((([] : List (Int × Int × Int × Int × Bool)), 0)) : Option ((List (Int × Int × Int × Int × Bool)))).bind fun l1496 => (loop (fn_ref17_Call_l2 xa xb xc) (l1496, 0) : Option ((List (Int × Int × Int × Int × Bool)) ⊕ ((List (Int × Int × Int × Int × Bool)) × Int))).bind fun o => match o with | .inr r => some r | .inl l2068 => (fn_ref15_Subst xa.2.2.2 xb).bind fun (l2366, i2367) => (fn_ref16_Flow l2366 xd 6 0).bind fun (l2381, i2382) => cond (!decide (i2382 = 0)) (some (([], i2382))) ((app l2068 l2381).bind fun z2392 => some ((z2392, 0)))))
set_option maxRecDepth 100000 in
set_option maxHeartbeats 4000000 in
theorem ref17_Call_ok {K : Hp} {xa : (Int × (List (Int × Int)) × (List (List (Int × Bool))) × (List (Int × Bool)))} {xb : (List Int)} {xc : (List (List (Int × Bool)))} {xd : (List (Int × Bool))} {adxa_1 : Option Addr} {cpxa_1 : Nat} {adxa_2 : Option Addr} {cpxa_2 : Nat} {adxa_3 : Option Addr} {cpxa_3 : Nat} {adxb_0 : Option Addr} {cpxb_0 : Nat} {adxc_0 : Option Addr} {cpxc_0 : Nat} {adxd_0 : Option Addr} {cpxd_0 : Nat} (fxa_1 : Is K (.sl (.cons (.int .i64) (.one (.int .i64)))) [.slice adxa_1 xa.2.1.length cpxa_1] xa.2.1) (fxa_2 : Is K (.sl (.one (.sl (.cons (.int .i64) (.one .bool))))) [.slice adxa_2 xa.2.2.1.length cpxa_2] xa.2.2.1) (fxa_3 : Is K (.sl (.cons (.int .i64) (.one .bool))) [.slice adxa_3 xa.2.2.2.length cpxa_3] xa.2.2.2) (fxb_0 : Is K (.sl (.int .i64)) [.slice adxb_0 xb.length cpxb_0] xb) (fxc_0 : Is K (.sl (.one (.sl (.cons (.int .i64) (.one .bool))))) [.slice adxc_0 xc.length cpxc_0] xc) (fxd_0 : Is K (.sl (.cons (.int .i64) (.one .bool))) [.slice adxd_0 xd.length cpxd_0] xd) {r : ((List (Int × Int × Int × Int × Bool)) × Int)} (h : fn_ref17_Call xa xb xc xd = some r) :
    Tr Try.prog 11 #[.agg #[.int .i64 xa.1, .slice adxa_1 xa.2.1.length cpxa_1, .slice adxa_2 xa.2.2.1.length cpxa_2, .slice adxa_3 xa.2.2.2.length cpxa_3], .slice adxb_0 xb.length cpxb_0, .slice adxc_0 xc.length cpxc_0, .agg #[.slice adxd_0 xd.length cpxd_0]] K [] (fun v K' L' => (∃ (l1195 : (List (Int × Int × Int × Int × Bool))) (i1200 : Int) (ad1196 : Option Addr) (cp1197 : Nat), (l1195, i1200) = r ∧ .tuple #[.slice ad1196 l1195.length cp1197, .int .i64 i1200] = v ∧ L' = [Row Hp.nil 69 (.cons (.int .i64) (.cons (.int .i64) (.cons (.int .i64) (.cons (.int .i64) (.one .bool))))) (.slice ad1196 l1195.length cp1197) l1195]) ∧ K = K') := by
  refine Tr.k ?_
  refine Tr.of Try.func11 rfl Try.ntmps11 rfl (fun E F => ?_)
  unfold fn_ref17_Call at h
  refine CJ.seq ?_
  refine CJ.region ?_
  refine J.op rfl (A.box (v := .agg #[.int .i64 xa.1, .slice adxa_1 xa.2.1.length cpxa_1, .slice adxa_2 xa.2.2.1.length cpxa_2, .slice adxa_3 xa.2.2.2.length cpxa_3]) (cs := [.int .i64 xa.1, .slice adxa_1 xa.2.1.length cpxa_1, .slice adxa_2 xa.2.2.1.length cpxa_2, .slice adxa_3 xa.2.2.2.length cpxa_3]) rfl rfl) ?_
  rintro _ _ _ ⟨b1201, rfl, rfl, rfl⟩
  refine J.op rfl (A.box (v := .agg #[.slice adxd_0 xd.length cpxd_0]) (cs := [.slice adxd_0 xd.length cpxd_0]) rfl rfl) ?_
  rintro _ _ _ ⟨b1202, rfl, rfl, rfl⟩
  refine J.val (v := .slice none 0 0) rfl rfl (V.as rfl) ?_
  refine J.val (v := .int .i64 0) rfl rfl (V.as rfl) ?_
  refine J.nil ?_
  refine CJ.seq ?_
  refine CJ.region ?_
  refine J.val (v := .agg #[.int .i64 xa.1, .slice adxa_1 xa.2.1.length cpxa_1, .slice adxa_2 xa.2.2.1.length cpxa_2, .slice adxa_3 xa.2.2.2.length cpxa_3]) rfl rfl (V.ld rfl (Ld.agg (cs := [.int .i64 xa.1, .slice adxa_1 xa.2.1.length cpxa_1, .slice adxa_2 xa.2.2.1.length cpxa_2, .slice adxa_3 xa.2.2.2.length cpxa_3]) Try.underlying28 sz28 rfl (Rd.cls 1 0 rfl rfl))) ?_
  obtain ⟨r1203, hr1204, h⟩ := ob h
  refine J.op rfl (A.call (L1 := []) Try.call13 rfl (ref17_Check_ok fxa_1 fxa_2 fxa_3 hr1204) rfl rfl) ?_
  rintro _ _ _ ⟨v1206, _, rfl, ⟨⟨i1205, rfl, rfl, rfl⟩, rfl⟩, _, rfl⟩
  refine J.val (v := .int .i64 i1205) rfl rfl (V.as rfl) ?_
  refine J.nil ?_
  refine CJ.seq ?_
  refine CJ.seq ?_
  refine CJ.region ?_
  refine J.val (v := .int .i64 i1205) rfl rfl (V.mv rfl) ?_
  refine J.val (v := .bool (!decide (i1205 = 0))) rfl rfl (V.neq rfl rfl) ?_
  refine J.nil ?_
  refine CJ.cond rfl (fun hc1209 => ?_) (fun hc1209 => ?_)
  · have h := ct hc1209 h
    refine CJ.seq ?_
    refine CJ.region ?_
    refine J.val (v := .int .i64 i1205) rfl rfl (V.mv rfl) ?_
    refine J.val (v := .slice none 0 0) rfl rfl (V.as rfl) ?_
    refine J.val (v := .int .i64 i1205) rfl rfl (V.as rfl) ?_
    refine J.nil ?_
    refine CJ.by (fun w hs => Sep.rowNil (e := 69) (t := (.cons (.int .i64) (.cons (.int .i64) (.cons (.int .i64) (.cons (.int .i64) (.one .bool)))))) hs) ?_
    refine CJ.ret ?_
    have e := Option.some.inj h
    subst e
    exact ⟨_, [Row Hp.nil 69 (.cons (.int .i64) (.cons (.int .i64) (.cons (.int .i64) (.cons (.int .i64) (.one .bool))))) (.slice none ((([] : List (Int × Int × Int × Int × Bool))).length) 0) (([] : List (Int × Int × Int × Int × Bool)))], Res.two rfl rfl rfl, ⟨[], i1205, none, 0, rfl, rfl, rfl⟩, (Hp.le_refl _), fun w hs => (Sep.dropAt 1 rfl (Sep.dropAt 1 rfl hs))⟩
  · have h := cf hc1209 h
    refine CJ.skip ?_
    refine CJ.seq ?_
    refine CJ.seq ?_
    refine CJ.region ?_
    refine J.val (v := .slice adxb_0 xb.length cpxb_0) rfl rfl (V.mv rfl) ?_
    refine J.val (v := .int .i64 (((xb.length : Nat) : Int))) rfl rfl (V.len Try.underlying29 rfl) ?_
    refine J.val rfl rfl (V.fad Try.underlying28 rfl nz3 rfl) ?_
    refine J.val (v := .int .i64 xa.1) rfl rfl (V.ld rfl (Ld.sc sc3 (Rd.cl 1 rfl rfl))) ?_
    refine J.val (v := .bool (!decide ((((xb.length : Nat) : Int)) = xa.1))) rfl rfl (V.neq rfl rfl) ?_
    refine J.val (v := .bool (!decide ((((xb.length : Nat) : Int)) = xa.1))) rfl rfl (V.mv rfl) ?_
    refine J.cut 7 ?_
    refine @J.meet _ _ _ _ _ _ _ _ _ _ (fun ρ K' L' => Fits [(39, .bool ((!decide ((((xb.length : Nat) : Int)) = xa.1)) || (!decide ((((xc.length : Nat) : Int)) = (((xa.2.2.1.length : Nat) : Int)))))), (1, .slice adxb_0 xb.length cpxb_0), (2, .slice adxc_0 xc.length cpxc_0), (4, .pointer (some ⟨b1201, 0, none⟩)), (7, .pointer (some ⟨b1202, 0, none⟩))] ρ ∧ K = K' ∧ L' = Cl b1202 26 [.slice adxd_0 xd.length cpxd_0] :: Cl b1201 28 [.int .i64 xa.1, .slice adxa_1 xa.2.1.length cpxa_1, .slice adxa_2 xa.2.2.1.length cpxa_2, .slice adxa_3 xa.2.2.2.length cpxa_3] :: F) ?_ ?_
    · skip
      rcases bt (!decide ((((xb.length : Nat) : Int)) = xa.1)) with hc1213 | hc1213
      · skip
        refine J.skip rfl rfl rfl rfl hc1213 ?_
        refine J.skip rfl rfl rfl rfl hc1213 ?_
        refine J.skip rfl rfl rfl rfl hc1213 ?_
        refine J.skip rfl rfl rfl rfl hc1213 ?_
        refine J.skip rfl rfl rfl rfl hc1213 ?_
        refine J.skip rfl rfl rfl rfl hc1213 ?_
        refine J.val (v := .bool true) rfl rfl (V.pickT rfl hc1213 rfl) ?_
        refine J.nil ?_
        exact ⟨rfl, ⟨(by simp only [hc1213]; rfl), rfl, rfl, rfl, rfl, trivial⟩, rfl, rfl⟩
      · skip
        refine J.run rfl rfl rfl hc1213 ?_
        refine J.val (v := .slice adxc_0 xc.length cpxc_0) rfl rfl (V.mv rfl) ?_
        refine J.run rfl rfl rfl hc1213 ?_
        refine J.val (v := .int .i64 (((xc.length : Nat) : Int))) rfl rfl (V.len Try.underlying23 rfl) ?_
        refine J.run rfl rfl rfl hc1213 ?_
        refine J.val rfl rfl (V.fad Try.underlying28 rfl nz23 rfl) ?_
        refine J.run rfl rfl rfl hc1213 ?_
        refine J.val (v := .slice adxa_2 xa.2.2.1.length cpxa_2) rfl rfl (V.ld rfl (Ld.sc sc23 (Rd.cl 1 rfl rfl))) ?_
        refine J.run rfl rfl rfl hc1213 ?_
        refine J.val (v := .int .i64 (((xa.2.2.1.length : Nat) : Int))) rfl rfl (V.len Try.underlying23 rfl) ?_
        refine J.run rfl rfl rfl hc1213 ?_
        refine J.val (v := .bool (!decide ((((xc.length : Nat) : Int)) = (((xa.2.2.1.length : Nat) : Int))))) rfl rfl (V.neq rfl rfl) ?_
        refine J.val (v := .bool (!decide ((((xc.length : Nat) : Int)) = (((xa.2.2.1.length : Nat) : Int))))) rfl rfl (V.pickF rfl hc1213 rfl) ?_
        refine J.nil ?_
        exact ⟨rfl, ⟨(by simp only [hc1213]; rfl), rfl, rfl, rfl, rfl, trivial⟩, rfl, rfl⟩
    · rintro ρ _ _ ⟨hf, rfl, rfl⟩
      obtain ⟨ρ, rfl⟩ := hf.ex
      refine J.nil ?_
      refine CJ.cond rfl (fun hc1214 => ?_) (fun hc1214 => ?_)
      · have h := ct hc1214 h
        refine CJ.seq ?_
        refine CJ.region ?_
        refine J.val (v := .slice none 0 0) rfl rfl (V.as rfl) ?_
        refine J.val (v := .int .i64 2) rfl rfl (V.as rfl) ?_
        refine J.nil ?_
        refine CJ.by (fun w hs => Sep.rowNil (e := 69) (t := (.cons (.int .i64) (.cons (.int .i64) (.cons (.int .i64) (.cons (.int .i64) (.one .bool)))))) hs) ?_
        refine CJ.ret ?_
        have e := Option.some.inj h
        subst e
        exact ⟨_, [Row Hp.nil 69 (.cons (.int .i64) (.cons (.int .i64) (.cons (.int .i64) (.cons (.int .i64) (.one .bool))))) (.slice none ((([] : List (Int × Int × Int × Int × Bool))).length) 0) (([] : List (Int × Int × Int × Int × Bool)))], Res.two rfl rfl rfl, ⟨[], 2, none, 0, rfl, rfl, rfl⟩, (Hp.le_refl _), fun w hs => (Sep.dropAt 1 rfl (Sep.dropAt 1 rfl hs))⟩
      · have h := cf hc1214 h
        refine CJ.skip ?_
        refine CJ.seq ?_
        refine CJ.region ?_
        refine J.op rfl (A.lit (K0 := Hp.nil) (ty := (.cons (.int .i64) (.cons (.int .i64) (.cons (.int .i64) (.cons (.int .i64) (.one .bool)))))) (xs := ([] : List (Int × Int × Int × Int × Bool))) Try.underlying38 inf69 rfl (by decide) rfl rfl rfl rfl rfl (by decide)) ?_
        rintro _ _ _ ⟨b1216, rfl, rfl, rfl⟩
        have hn1217 : ([] : List (Int × Int × Int × Int × Bool)) ≠ [] → ∃ g, (some ⟨b1216, 0, none⟩ : Option Addr) = some ⟨g, 0, none⟩ := fun _ => ⟨b1216, rfl⟩
        refine J.val (v := .slice (some ⟨b1216, 0, none⟩) ((([] : List (Int × Int × Int × Int × Bool))).length) 0) rfl rfl (V.as rfl) ?_
        refine J.nil ?_
        refine CJ.seq ?_
        refine CJ.seq ?_
        refine CJ.region ?_
        refine J.val (v := .int .i64 0) rfl rfl (V.as rfl) ?_
        refine J.nil ?_
        obtain ⟨o1501, ho1502, h⟩ := ob h
        refine CJ.meetN (fun ρ K' L' => ∃ (l1496 : (List (Int × Int × Int × Int × Bool))) (ad1497 : Option Addr) (cp1498 : Nat), l1496 = o1501 ∧ Fits [(1, .slice adxb_0 xb.length cpxb_0), (2, .slice adxc_0 xc.length cpxc_0), (4, .pointer (some ⟨b1201, 0, none⟩)), (7, .pointer (some ⟨b1202, 0, none⟩)), (11, .slice ad1497 l1496.length cp1498)] ρ ∧ K = K' ∧ L' = Cl b1201 28 [.int .i64 xa.1, .slice adxa_1 xa.2.1.length cpxa_1, .slice adxa_2 xa.2.2.1.length cpxa_2, .slice adxa_3 xa.2.2.2.length cpxa_3] :: Cl b1202 26 [.slice adxd_0 xd.length cpxd_0] :: Row Hp.nil 69 (.cons (.int .i64) (.cons (.int .i64) (.cons (.int .i64) (.cons (.int .i64) (.one .bool))))) (.slice ad1497 l1496.length cp1498) l1496 :: F) ?_ ?_
        · skip
          refine CJ.block ?_
          refine CJ.front 1 rfl ?_
          refine CJ.front 2 rfl ?_
          refine CJ.loop (fun s ρ K' L' => ∃ (l1594 : (List (Int × Int × Int × Int × Bool))) (i1599 : Int) (ad1595 : Option Addr) (cp1596 : Nat), (l1594, i1599) = s ∧ Fits [(1, .slice adxb_0 xb.length cpxb_0), (2, .slice adxc_0 xc.length cpxc_0), (4, .pointer (some ⟨b1201, 0, none⟩)), (7, .pointer (some ⟨b1202, 0, none⟩)), (11, .slice ad1595 l1594.length cp1596), (12, .int .i64 i1599)] ρ ∧ K = K' ∧ L' = Cl b1201 28 [.int .i64 xa.1, .slice adxa_1 xa.2.1.length cpxa_1, .slice adxa_2 xa.2.2.1.length cpxa_2, .slice adxa_3 xa.2.2.2.length cpxa_3] :: Cl b1202 26 [.slice adxd_0 xd.length cpxd_0] :: Row Hp.nil 69 (.cons (.int .i64) (.cons (.int .i64) (.cons (.int .i64) (.cons (.int .i64) (.one .bool))))) (.slice ad1595 l1594.length cp1596) l1594 :: F) ho1502 ⟨([] : List (Int × Int × Int × Int × Bool)), 0, (some ⟨b1216, 0, none⟩), 0, rfl, ⟨rfl, rfl, rfl, rfl, rfl, rfl, trivial⟩, rfl, rfl⟩ ?_
          rintro s ρ _ _ r1694 ⟨l1594, i1599, ad1595, cp1596, rfl, hf1692, rfl, rfl⟩ h1691
          obtain ⟨ρ, rfl⟩ := hf1692.ex
          refine CJ.front 2 rfl ?_
          refine CJ.wit Row.hn (fun hn1598 => ?_)
          refine CJ.seq ?_
          refine CJ.seq ?_
          refine CJ.region ?_
          refine J.val (v := .int .i64 i1599) rfl rfl (V.mv rfl) ?_
          refine J.val rfl rfl (V.fad Try.underlying28 rfl nz22 rfl) ?_
          refine J.val (v := .slice adxa_1 xa.2.1.length cpxa_1) rfl rfl (V.ld rfl (Ld.sc sc22 (Rd.cl 1 rfl rfl))) ?_
          refine J.val (v := .int .i64 (((xa.2.1.length : Nat) : Int))) rfl rfl (V.len Try.underlying22 rfl) ?_
          refine J.val (v := .bool (decide (i1599 < (((xa.2.1.length : Nat) : Int))))) rfl rfl (V.lss rfl rfl) ?_
          refine J.nil ?_
          refine CJ.cond rfl (fun hc1695 => ?_) (fun hc1695 => ?_)
          · have h1691 := ct hc1695 h1691
            refine CJ.skip ?_
            refine CJ.seq ?_
            refine CJ.block ?_
            refine CJ.mix [Row Hp.nil 69 (.cons (.int .i64) (.cons (.int .i64) (.cons (.int .i64) (.cons (.int .i64) (.one .bool))))) (.slice ad1595 l1594.length cp1596) l1594, Cl b1201 28 [.int .i64 xa.1, .slice adxa_1 xa.2.1.length cpxa_1, .slice adxa_2 xa.2.2.1.length cpxa_2, .slice adxa_3 xa.2.2.2.length cpxa_3], Cl b1202 26 [.slice adxd_0 xd.length cpxd_0]] [([0, 1, 2, 3, 4, 5, 6, 7, 8, 9, 10, 11, 12, 13, 14, 15, 16, 17, 18, 19, 20], 21)] [] [22, 23] mixO (by decide +kernel) ⟨0, rfl, 0, rfl, 0, rfl, trivial⟩ rfl rfl rfl ?_
            refine JM.cons ?_
            refine JQ.val (v := .slice ad1595 l1594.length cp1596) rfl rfl (V.mv rfl) ?_
            refine JQ.val (v := .slice adxb_0 xb.length cpxb_0) rfl rfl (V.mv rfl) ?_
            refine JQ.val rfl rfl (V.fad Try.underlying28 rfl nz22 rfl) ?_
            refine JQ.val (v := .slice adxa_1 xa.2.1.length cpxa_1) rfl rfl (V.ld rfl (Ld.sc sc22 (Rd.cl 1 rfl rfl))) ?_
            refine JQ.val (v := .int .i64 i1599) rfl rfl (V.mv rfl) ?_
            obtain ⟨x1735, hx1736, h1691⟩ := ob h1691
            obtain ⟨p1737, p1738, p1739⟩ := getI_some hx1736
            obtain ⟨b1740, o1741, e1742, a1743⟩ := (fxa_1).at p1738
            refine JQ.val rfl rfl (V.iad Try.underlying22 sz63 rfl e1742 rfl p1737 p1739) ?_
            refine JQ.val rfl rfl (V.fad Try.underlying63 rfl nz3 rfl) ?_
            refine JQ.val (v := .int .i64 x1735.1) rfl rfl (V.ld rfl (Ld.sc sc3 (Rd.k ((a1743).fst).int (Hp.le_refl _)))) ?_
            obtain ⟨x1744, hx1745, h1691⟩ := ob h1691
            obtain ⟨p1746, p1747, p1748⟩ := getI_some hx1745
            obtain ⟨b1749, o1750, e1751, a1752⟩ := (fxb_0).at p1747
            refine JQ.val rfl rfl (V.iad Try.underlying29 sz3 rfl e1751 rfl p1746 p1748) ?_
            refine JQ.val (v := .int .i64 x1744) rfl rfl (V.ld rfl (Ld.sc sc3 (Rd.k (a1752).int (Hp.le_refl _)))) ?_
            refine JQ.val (v := .slice adxb_0 xb.length cpxb_0) rfl rfl (V.mv rfl) ?_
            refine JQ.val rfl rfl (V.fad Try.underlying28 rfl nz22 rfl) ?_
            refine JQ.val (v := .slice adxa_1 xa.2.1.length cpxa_1) rfl rfl (V.ld rfl (Ld.sc sc22 (Rd.cl 1 rfl rfl))) ?_
            refine JQ.val (v := .int .i64 i1599) rfl rfl (V.mv rfl) ?_
            obtain ⟨x1753, hx1754, h1691⟩ := ob h1691
            obtain ⟨p1755, p1756, p1757⟩ := getI_some hx1754
            obtain ⟨b1758, o1759, e1760, a1761⟩ := (fxa_1).at p1756
            refine JQ.val rfl rfl (V.iad Try.underlying22 sz63 rfl e1760 rfl p1755 p1757) ?_
            refine JQ.val rfl rfl (V.fad Try.underlying63 rfl nz3 rfl) ?_
            refine JQ.val (v := .int .i64 x1753.2) rfl rfl (V.ld rfl (Ld.sc sc3 (Rd.k (((a1761).snd).one).int (Hp.le_refl _)))) ?_
            obtain ⟨x1762, hx1763, h1691⟩ := ob h1691
            obtain ⟨p1764, p1765, p1766⟩ := getI_some hx1763
            obtain ⟨b1767, o1768, e1769, a1770⟩ := (fxb_0).at p1765
            refine JQ.val rfl rfl (V.iad Try.underlying29 sz3 rfl e1769 rfl p1764 p1766) ?_
            refine JQ.val (v := .int .i64 x1762) rfl rfl (V.ld rfl (Ld.sc sc3 (Rd.k (a1770).int (Hp.le_refl _)))) ?_
            refine JQ.val (v := .int .i64 i1599) rfl rfl (V.mv rfl) ?_
            refine JQ.val (v := .agg #[.int .i64 x1744, .int .i64 x1762, .int .i64 4, .int .i64 i1599, .bool false]) rfl rfl (V.build inf69 places69 rfl rfl) ?_
            refine JQ.nil ?_
            refine JA.op rfl (A.lit (K0 := Hp.nil) (ty := (.cons (.int .i64) (.cons (.int .i64) (.cons (.int .i64) (.cons (.int .i64) (.one .bool)))))) (xs := ([(x1744, x1762, 4, i1599, false)] : List (Int × Int × Int × Int × Bool))) Try.underlying38 inf69 rfl (by decide) rfl rfl rfl ⟨_, _, rfl, ⟨_, _, rfl, rfl, rfl, ⟨_, _, rfl, rfl, rfl, ⟨_, _, rfl, rfl, rfl, ⟨_, _, rfl, rfl, rfl, rfl⟩⟩⟩⟩, rfl⟩ rfl (by decide)) ?_
            rintro _ _ _ ⟨b1771, rfl, rfl, rfl⟩
            have hn1772 : ([(x1744, x1762, 4, i1599, false)] : List (Int × Int × Int × Int × Bool)) ≠ [] → ∃ g, (some ⟨b1771, 0, none⟩ : Option Addr) = some ⟨g, 0, none⟩ := fun _ => ⟨b1771, rfl⟩
            refine ⟨fun w hs => Hold.sub (Hp.le_refl _) ⟨1, rfl, 1, rfl, 1, rfl, trivial⟩ hs, ?_⟩
            refine JM.nil ?_
            refine JQ.nil ?_
            obtain ⟨z1774, hz1775, h1691⟩ := ob h1691
            refine J.front 1 rfl ?_
            refine J.op rfl (A.appR (Kr := Hp.nil) Try.underlying38 inf69 rfl rfl (by decide) (by decide) rfl rfl (Els.flat rfl) (Els.flat rfl) hz1775) ?_
            rintro _ _ _ ⟨v1776, rfl, rfl, rfl⟩
            refine J.wit Row.form ?_
            rintro ⟨ad1777, cp1778, rfl, _, _, hn1779⟩
            refine J.val (v := .slice ad1777 z1774.length cp1778) rfl rfl (V.as rfl) ?_
            refine J.nil ?_
            refine CJ.region ?_
            refine J.val (v := .int .i64 i1599) rfl rfl (V.mv rfl) ?_
            refine J.val (v := .int .i64 (IntKind.wrap .i64 (i1599 + 1))) rfl rfl (V.add rfl rfl) ?_
            refine J.val (v := .int .i64 (IntKind.wrap .i64 (i1599 + 1))) rfl rfl (V.as rfl) ?_
            refine J.front 2 rfl ?_
            refine J.front 2 rfl ?_
            refine J.nil ?_
            have e := Option.some.inj h1691
            subst e
            exact ⟨rfl, ⟨z1774, IntKind.wrap .i64 (i1599 + 1), ad1777, cp1778, rfl, ⟨rfl, rfl, rfl, rfl, rfl, rfl, trivial⟩, rfl, rfl⟩⟩
          · have h1691 := cf hc1695 h1691
            refine CJ.front 2 rfl ?_
            refine CJ.front 2 rfl ?_
            refine CJ.exit ?_
            have e := Option.some.inj h1691
            subst e
            refine ⟨nofun, fun e => ?_⟩
            subst e
            exact ⟨rfl, ⟨l1594, ad1595, cp1596, rfl, ⟨rfl, rfl, rfl, rfl, rfl, trivial⟩, rfl, rfl⟩⟩
        · rintro ρ _ _ ⟨l1496, ad1497, cp1498, rfl, hf1780, rfl, rfl⟩
          obtain ⟨ρ, rfl⟩ := hf1780.ex
          refine PJ.front 2 rfl ?_
          refine PJ.wit Row.hn (fun hn1500 => ?_)
          refine PJ.done ?_
          refine CJ.seq ?_
          refine CJ.seq ?_
          refine CJ.region ?_
          refine J.val (v := .int .i64 0) rfl rfl (V.as rfl) ?_
          refine J.nil ?_
          obtain ⟨o2073, ho2074, h⟩ := ob h
          refine CJ.joinN (o := o2073) (fun s ρ K' L' => ∃ (l2068 : (List (Int × Int × Int × Int × Bool))) (ad2069 : Option Addr) (cp2070 : Nat), l2068 = s ∧ Fits [(1, .slice adxb_0 xb.length cpxb_0), (4, .pointer (some ⟨b1201, 0, none⟩)), (7, .pointer (some ⟨b1202, 0, none⟩)), (11, .slice ad2069 l2068.length cp2070)] ρ ∧ Hp.le K K' ∧ L' = Cl b1201 28 [.int .i64 xa.1, .slice adxa_1 xa.2.1.length cpxa_1, .slice adxa_2 xa.2.2.1.length cpxa_2, .slice adxa_3 xa.2.2.2.length cpxa_3] :: Cl b1202 26 [.slice adxd_0 xd.length cpxd_0] :: Row Hp.nil 69 (.cons (.int .i64) (.cons (.int .i64) (.cons (.int .i64) (.cons (.int .i64) (.one .bool))))) (.slice ad2069 l2068.length cp2070) l2068 :: F) ?_ ?_
          · skip
            refine CJ.block ?_
            refine CJ.front 2 rfl ?_
            refine CJ.front 2 rfl ?_
            refine CJ.loop (fun s ρ K' L' => ∃ (l2169 : (List (Int × Int × Int × Int × Bool))) (i2174 : Int) (ad2170 : Option Addr) (cp2171 : Nat), (l2169, i2174) = s ∧ Fits [(1, .slice adxb_0 xb.length cpxb_0), (2, .slice adxc_0 xc.length cpxc_0), (4, .pointer (some ⟨b1201, 0, none⟩)), (7, .pointer (some ⟨b1202, 0, none⟩)), (11, .slice ad2170 l2169.length cp2171), (13, .int .i64 i2174)] ρ ∧ Hp.le K K' ∧ L' = Cl b1201 28 [.int .i64 xa.1, .slice adxa_1 xa.2.1.length cpxa_1, .slice adxa_2 xa.2.2.1.length cpxa_2, .slice adxa_3 xa.2.2.2.length cpxa_3] :: Cl b1202 26 [.slice adxd_0 xd.length cpxd_0] :: Row Hp.nil 69 (.cons (.int .i64) (.cons (.int .i64) (.cons (.int .i64) (.cons (.int .i64) (.one .bool))))) (.slice ad2170 l2169.length cp2171) l2169 :: F) ho2074 ⟨l1496, 0, ad1497, cp1498, rfl, ⟨rfl, rfl, rfl, rfl, rfl, rfl, trivial⟩, (Hp.le_refl _), rfl⟩ ?_
            rintro s ρ K2168 _ r2272 ⟨l2169, i2174, ad2170, cp2171, rfl, hf2270, hk2271, rfl⟩ h2269
            obtain ⟨ρ, rfl⟩ := hf2270.ex
            refine CJ.front 2 rfl ?_
            refine CJ.wit Row.hn (fun hn2173 => ?_)
            refine CJ.seq ?_
            refine CJ.seq ?_
            refine CJ.region ?_
            refine J.val (v := .int .i64 i2174) rfl rfl (V.mv rfl) ?_
            refine J.val rfl rfl (V.fad Try.underlying28 rfl nz23 rfl) ?_
            refine J.val (v := .slice adxa_2 xa.2.2.1.length cpxa_2) rfl rfl (V.ld rfl (Ld.sc sc23 (Rd.cl 1 rfl rfl))) ?_
            refine J.val (v := .int .i64 (((xa.2.2.1.length : Nat) : Int))) rfl rfl (V.len Try.underlying23 rfl) ?_
            refine J.val (v := .bool (decide (i2174 < (((xa.2.2.1.length : Nat) : Int))))) rfl rfl (V.lss rfl rfl) ?_
            refine J.nil ?_
            refine CJ.cond rfl (fun hc2273 => ?_) (fun hc2273 => ?_)
            · have h2269 := ct hc2273 h2269
              refine CJ.skip ?_
              refine CJ.seq ?_
              refine CJ.block ?_
              refine CJ.seq ?_
              refine CJ.region ?_
              refine J.val rfl rfl (V.fad Try.underlying28 rfl nz23 rfl) ?_
              refine J.val (v := .slice adxa_2 xa.2.2.1.length cpxa_2) rfl rfl (V.ld rfl (Ld.sc sc23 (Rd.cl 1 rfl rfl))) ?_
              refine J.val (v := .int .i64 i2174) rfl rfl (V.mv rfl) ?_
              obtain ⟨x2274, hx2275, h2269⟩ := ob h2269
              obtain ⟨p2276, p2277, p2278⟩ := getI_some hx2275
              obtain ⟨b2279, o2280, e2281, a2282⟩ := ((fxa_2.mono hk2271)).at p2277
              refine J.val rfl rfl (V.iad Try.underlying23 sz26 rfl e2281 rfl p2276 p2278) ?_
              obtain ⟨ad2283, cp2284, c2285, f2286⟩ := ((a2282).one).sl
              refine J.val (v := .agg #[.slice ad2283 x2274.length cp2284]) rfl rfl (V.ld rfl (Ld.aggK (cs := [.slice ad2283 x2274.length cp2284]) Try.underlying26 sz26 rfl ⟨c2285, trivial⟩ (Hp.le_refl _))) ?_
              refine J.val (v := .slice adxb_0 xb.length cpxb_0) rfl rfl (V.mv rfl) ?_
              obtain ⟨r2287, hr2288, h2269⟩ := ob h2269
              refine J.op rfl (A.call (L1 := []) Try.call34 rfl (ref15_Subst_ok f2286 (fxb_0.mono hk2271) hr2288) rfl rfl) ?_
              rintro _ _ _ ⟨v2294, _, rfl, ⟨⟨l2289, i2290, ad2291, cp2292, rfl, rfl, rfl⟩, rfl⟩, _, rfl⟩
              refine J.wit Row.hn (fun hn2293 => ?_)
              refine J.val (v := .tuple #[.agg #[.slice ad2291 l2289.length cp2292], .int .i64 i2290]) rfl rfl (V.mv rfl) ?_
              refine J.val (v := .agg #[.slice ad2291 l2289.length cp2292]) rfl rfl (V.ext rfl rfl) ?_
              refine J.val (v := .int .i64 i2290) rfl rfl (V.ext rfl rfl) ?_
              refine J.op rfl (A.alloc (cs := [.slice none 0 0]) inf26 rfl) ?_
              rintro _ _ _ ⟨b2298, rfl, rfl, rfl⟩
              refine J.op rfl (A.store (v := .agg #[.slice ad2291 l2289.length cp2292]) (cs' := [.slice ad2291 l2289.length cp2292]) sz26 rfl rfl rfl rfl rfl rfl) ?_
              rintro _ _ _ ⟨rfl, rfl, rfl⟩
              refine J.val (v := .int .i64 i2290) rfl rfl (V.as rfl) ?_
              refine J.nil ?_
              refine CJ.seq ?_
              refine CJ.mix [Cl b2298 26 [.slice ad2291 l2289.length cp2292], Row Hp.nil 69 (.cons (.int .i64) (.cons (.int .i64) (.cons (.int .i64) (.cons (.int .i64) (.one .bool))))) (.slice ad2170 l2169.length cp2171) l2169, Cl b1201 28 [.int .i64 xa.1, .slice adxa_1 xa.2.1.length cpxa_1, .slice adxa_2 xa.2.2.1.length cpxa_2, .slice adxa_3 xa.2.2.2.length cpxa_3], Cl b1202 26 [.slice adxd_0 xd.length cpxd_0]] [([0, 1, 2, 3, 4, 5, 6], 7)] [8, 9, 10, 11, 12] [] mixO (by decide +kernel) ⟨0, rfl, 1, rfl, 1, rfl, 1, rfl, trivial⟩ rfl rfl rfl ?_
              refine JM.cons ?_
              refine JQ.val (v := .slice adxc_0 xc.length cpxc_0) rfl rfl (V.mv rfl) ?_
              refine JQ.val (v := .int .i64 i2174) rfl rfl (V.mv rfl) ?_
              obtain ⟨x2326, hx2327, h2269⟩ := ob h2269
              obtain ⟨p2328, p2329, p2330⟩ := getI_some hx2327
              obtain ⟨b2331, o2332, e2333, a2334⟩ := ((fxc_0.mono hk2271)).at p2329
              refine JQ.val rfl rfl (V.iad Try.underlying23 sz26 rfl e2333 rfl p2328 p2330) ?_
              obtain ⟨ad2335, cp2336, c2337, f2338⟩ := ((a2334).one).sl
              refine JQ.val (v := .agg #[.slice ad2335 x2326.length cp2336]) rfl rfl (V.ld rfl (Ld.aggK (cs := [.slice ad2335 x2326.length cp2336]) Try.underlying26 sz26 rfl ⟨c2337, trivial⟩ (Hp.le_refl _))) ?_
              refine JQ.val (v := .agg #[.slice ad2291 l2289.length cp2292]) rfl rfl (V.ld rfl (Ld.agg (cs := [.slice ad2291 l2289.length cp2292]) Try.underlying26 sz26 rfl (Rd.cls 0 0 rfl rfl))) ?_
              refine JQ.val (v := .int .i64 i2174) rfl rfl (V.mv rfl) ?_
              refine JQ.val (v := .int .i64 (IntKind.wrap .i64 (16 * i2174))) rfl rfl (V.mul rfl rfl) ?_
              refine JQ.nil ?_
              refine JA.front 1 rfl ?_
              refine JA.persist (Hp.nil_le _) (by decide) (fun K2339 hK2340 f2341 => ?_)
              obtain ⟨r2342, hr2343, h2269⟩ := ob h2269
              refine JA.op rfl (A.call (L1 := []) Try.call35 rfl (ref16_Flow_ok (f2338.mono hK2340) f2341 hr2343) rfl rfl) ?_
              rintro _ _ _ ⟨v2349, _, rfl, ⟨⟨l2344, i2345, ad2346, cp2347, rfl, rfl, rfl⟩, rfl⟩, _, rfl⟩
              refine ⟨fun w hs => Hold.sub hK2340 ⟨1, rfl, 1, rfl, 1, rfl, 1, rfl, trivial⟩ hs, ?_⟩
              refine JM.wit Row.hn (fun hn2348 => ?_)
              refine JM.nil ?_
              refine JQ.val (v := .tuple #[.slice ad2346 l2344.length cp2347, .int .i64 i2345]) rfl rfl (V.mv rfl) ?_
              refine JQ.val (v := .slice ad2346 l2344.length cp2347) rfl rfl (V.ext rfl rfl) ?_
              refine JQ.val (v := .int .i64 i2345) rfl rfl (V.ext rfl rfl) ?_
              refine JQ.val (v := .slice ad2346 l2344.length cp2347) rfl rfl (V.as rfl) ?_
              refine JQ.val (v := .int .i64 i2345) rfl rfl (V.as rfl) ?_
              refine JQ.nil ?_
              refine J.nil ?_
              refine CJ.seq ?_
              refine CJ.seq ?_
              refine CJ.region ?_
              refine J.val (v := .int .i64 i2345) rfl rfl (V.mv rfl) ?_
              refine J.val (v := .bool (!decide (i2345 = 0))) rfl rfl (V.neq rfl rfl) ?_
              refine J.nil ?_
              refine CJ.cond rfl (fun hc2353 => ?_) (fun hc2353 => ?_)
              · have h2269 := ct hc2353 h2269
                refine CJ.seq ?_
                refine CJ.region ?_
                refine J.val (v := .int .i64 i2345) rfl rfl (V.mv rfl) ?_
                refine J.val (v := .slice none 0 0) rfl rfl (V.as rfl) ?_
                refine J.val (v := .int .i64 i2345) rfl rfl (V.as rfl) ?_
                refine J.nil ?_
                refine CJ.by (fun w hs => Sep.rowNil (e := 69) (t := (.cons (.int .i64) (.cons (.int .i64) (.cons (.int .i64) (.cons (.int .i64) (.one .bool)))))) hs) ?_
                refine CJ.ret ?_
                have e := Option.some.inj h2269
                subst e
                refine ⟨nofun, fun e => ?_⟩
                subst e
                refine .inr ⟨nofun, ?_⟩
                have e := Option.some.inj h
                subst e
                exact ⟨_, [Row Hp.nil 69 (.cons (.int .i64) (.cons (.int .i64) (.cons (.int .i64) (.cons (.int .i64) (.one .bool))))) (.slice none ((([] : List (Int × Int × Int × Int × Bool))).length) 0) (([] : List (Int × Int × Int × Int × Bool)))], Res.two rfl rfl rfl, ⟨[], i2345, none, 0, rfl, rfl, rfl⟩, (hk2271.trans hK2340), fun w hs => (Sep.dropAt 1 rfl (Sep.dropAt 1 rfl (Sep.dropAt 1 rfl (Sep.dropAt 1 rfl (Sep.dropAt 1 rfl hs)))))⟩
              · have h2269 := cf hc2353 h2269
                refine CJ.skip ?_
                refine CJ.region ?_
                refine J.val (v := .slice ad2170 l2169.length cp2171) rfl rfl (V.mv rfl) ?_
                refine J.val (v := .slice ad2346 l2344.length cp2347) rfl rfl (V.mv rfl) ?_
                obtain ⟨z2355, hz2356, h2269⟩ := ob h2269
                refine J.front 2 rfl ?_
                refine J.op rfl (A.appR (Kr := Hp.nil) Try.underlying38 inf69 rfl rfl (by decide) (by decide) rfl rfl (Els.flat rfl) (Els.flat rfl) hz2356) ?_
                rintro _ _ _ ⟨v2357, rfl, rfl, rfl⟩
                refine J.wit Row.form ?_
                rintro ⟨ad2358, cp2359, rfl, _, _, hn2360⟩
                refine J.val (v := .slice ad2358 z2355.length cp2359) rfl rfl (V.as rfl) ?_
                refine J.nil ?_
                refine CJ.region ?_
                refine J.val (v := .int .i64 i2174) rfl rfl (V.mv rfl) ?_
                refine J.val (v := .int .i64 (IntKind.wrap .i64 (i2174 + 1))) rfl rfl (V.add rfl rfl) ?_
                refine J.val (v := .int .i64 (IntKind.wrap .i64 (i2174 + 1))) rfl rfl (V.as rfl) ?_
                refine J.dropAt 1 rfl ?_
                refine J.front 2 rfl ?_
                refine J.front 2 rfl ?_
                refine J.nil ?_
                have e := Option.some.inj h2269
                subst e
                exact ⟨rfl, ⟨z2355, IntKind.wrap .i64 (i2174 + 1), ad2358, cp2359, rfl, ⟨rfl, rfl, rfl, rfl, rfl, rfl, trivial⟩, (hk2271.trans hK2340), rfl⟩⟩
            · have h2269 := cf hc2273 h2269
              refine CJ.front 2 rfl ?_
              refine CJ.front 2 rfl ?_
              refine CJ.exit ?_
              have e := Option.some.inj h2269
              subst e
              refine ⟨nofun, fun e => ?_⟩
              subst e
              exact .inl ⟨rfl, _, rfl, ⟨l2169, ad2170, cp2171, rfl, ⟨rfl, rfl, rfl, rfl, trivial⟩, hk2271, rfl⟩⟩
          · rintro s ρ K2067 _ ho2361 ⟨l2068, ad2069, cp2070, rfl, hf2362, hk2363, rfl⟩
            subst ho2361
            obtain ⟨ρ, rfl⟩ := hf2362.ex
            refine PJ.front 2 rfl ?_
            refine PJ.wit Row.hn (fun hn2072 => ?_)
            refine PJ.done ?_
            refine CJ.seq ?_
            refine CJ.region ?_
            refine J.val rfl rfl (V.fad Try.underlying28 rfl nz26 rfl) ?_
            refine J.val (v := .agg #[.slice adxa_3 xa.2.2.2.length cpxa_3]) rfl rfl (V.ld rfl (Ld.agg (cs := [.slice adxa_3 xa.2.2.2.length cpxa_3]) Try.underlying26 sz26 rfl (Rd.cls 1 3 rfl rfl))) ?_
            refine J.val (v := .slice adxb_0 xb.length cpxb_0) rfl rfl (V.mv rfl) ?_
            obtain ⟨r2364, hr2365, h⟩ := ob h
            refine J.op rfl (A.call (L1 := []) Try.call34 rfl (ref15_Subst_ok (fxa_3.mono hk2363) (fxb_0.mono hk2363) hr2365) rfl rfl) ?_
            rintro _ _ _ ⟨v2371, _, rfl, ⟨⟨l2366, i2367, ad2368, cp2369, rfl, rfl, rfl⟩, rfl⟩, _, rfl⟩
            refine J.wit Row.hn (fun hn2370 => ?_)
            refine J.val (v := .tuple #[.agg #[.slice ad2368 l2366.length cp2369], .int .i64 i2367]) rfl rfl (V.mv rfl) ?_
            refine J.val (v := .agg #[.slice ad2368 l2366.length cp2369]) rfl rfl (V.ext rfl rfl) ?_
            refine J.val (v := .int .i64 i2367) rfl rfl (V.ext rfl rfl) ?_
            refine J.op rfl (A.alloc (cs := [.slice none 0 0]) inf26 rfl) ?_
            rintro _ _ _ ⟨b2375, rfl, rfl, rfl⟩
            refine J.op rfl (A.store (v := .agg #[.slice ad2368 l2366.length cp2369]) (cs' := [.slice ad2368 l2366.length cp2369]) sz26 rfl rfl rfl rfl rfl rfl) ?_
            rintro _ _ _ ⟨rfl, rfl, rfl⟩
            refine J.val (v := .int .i64 i2367) rfl rfl (V.as rfl) ?_
            refine J.nil ?_
            refine CJ.seq ?_
            refine CJ.region ?_
            refine J.val (v := .agg #[.slice ad2368 l2366.length cp2369]) rfl rfl (V.ld rfl (Ld.agg (cs := [.slice ad2368 l2366.length cp2369]) Try.underlying26 sz26 rfl (Rd.cls 0 0 rfl rfl))) ?_
            refine J.val (v := .agg #[.slice adxd_0 xd.length cpxd_0]) rfl rfl (V.ld rfl (Ld.agg (cs := [.slice adxd_0 xd.length cpxd_0]) Try.underlying26 sz26 rfl (Rd.cls 4 0 rfl rfl))) ?_
            refine J.front 1 rfl ?_
            refine J.persist (Hp.nil_le _) (by decide) (fun K2376 hK2377 f2378 => ?_)
            obtain ⟨r2379, hr2380, h⟩ := ob h
            refine J.op rfl (A.call (L1 := []) Try.call35 rfl (ref16_Flow_ok f2378 (fxd_0.mono (hk2363.trans hK2377)) hr2380) rfl rfl) ?_
            rintro _ _ _ ⟨v2386, _, rfl, ⟨⟨l2381, i2382, ad2383, cp2384, rfl, rfl, rfl⟩, rfl⟩, _, rfl⟩
            refine J.wit Row.hn (fun hn2385 => ?_)
            refine J.val (v := .tuple #[.slice ad2383 l2381.length cp2384, .int .i64 i2382]) rfl rfl (V.mv rfl) ?_
            refine J.val (v := .slice ad2383 l2381.length cp2384) rfl rfl (V.ext rfl rfl) ?_
            refine J.val (v := .int .i64 i2382) rfl rfl (V.ext rfl rfl) ?_
            refine J.val (v := .slice ad2383 l2381.length cp2384) rfl rfl (V.as rfl) ?_
            refine J.val (v := .int .i64 i2382) rfl rfl (V.as rfl) ?_
            refine J.nil ?_
            refine CJ.seq ?_
            refine CJ.seq ?_
            refine CJ.region ?_
            refine J.val (v := .int .i64 i2382) rfl rfl (V.mv rfl) ?_
            refine J.val (v := .bool (!decide (i2382 = 0))) rfl rfl (V.neq rfl rfl) ?_
            refine J.nil ?_
            refine CJ.cond rfl (fun hc2390 => ?_) (fun hc2390 => ?_)
            · have h := ct hc2390 h
              refine CJ.seq ?_
              refine CJ.region ?_
              refine J.val (v := .int .i64 i2382) rfl rfl (V.mv rfl) ?_
              refine J.val (v := .slice none 0 0) rfl rfl (V.as rfl) ?_
              refine J.val (v := .int .i64 i2382) rfl rfl (V.as rfl) ?_
              refine J.nil ?_
              refine CJ.by (fun w hs => Sep.rowNil (e := 69) (t := (.cons (.int .i64) (.cons (.int .i64) (.cons (.int .i64) (.cons (.int .i64) (.one .bool)))))) hs) ?_
              refine CJ.ret ?_
              have e := Option.some.inj h
              subst e
              exact ⟨_, [Row Hp.nil 69 (.cons (.int .i64) (.cons (.int .i64) (.cons (.int .i64) (.cons (.int .i64) (.one .bool))))) (.slice none ((([] : List (Int × Int × Int × Int × Bool))).length) 0) (([] : List (Int × Int × Int × Int × Bool)))], Res.two rfl rfl rfl, ⟨[], i2382, none, 0, rfl, rfl, rfl⟩, (hk2363.trans hK2377), fun w hs => (Sep.dropAt 1 rfl (Sep.dropAt 1 rfl (Sep.dropAt 1 rfl (Sep.dropAt 1 rfl (Sep.dropAt 1 rfl hs)))))⟩
            · have h := cf hc2390 h
              refine CJ.skip ?_
              refine CJ.seq ?_
              refine CJ.region ?_
              refine J.val (v := .slice ad2069 l2068.length cp2070) rfl rfl (V.mv rfl) ?_
              refine J.val (v := .slice ad2383 l2381.length cp2384) rfl rfl (V.mv rfl) ?_
              obtain ⟨z2392, hz2393, h⟩ := ob h
              refine J.front 2 rfl ?_
              refine J.op rfl (A.appR (Kr := Hp.nil) Try.underlying38 inf69 rfl rfl (by decide) (by decide) rfl rfl (Els.flat rfl) (Els.flat rfl) hz2393) ?_
              rintro _ _ _ ⟨v2394, rfl, rfl, rfl⟩
              refine J.wit Row.form ?_
              rintro ⟨ad2395, cp2396, rfl, _, _, hn2397⟩
              refine J.val (v := .slice ad2395 z2392.length cp2396) rfl rfl (V.as rfl) ?_
              refine J.val (v := .int .i64 0) rfl rfl (V.as rfl) ?_
              refine J.nil ?_
              refine CJ.ret ?_
              have e := Option.some.inj h
              subst e
              exact ⟨_, [Row Hp.nil 69 (.cons (.int .i64) (.cons (.int .i64) (.cons (.int .i64) (.cons (.int .i64) (.one .bool))))) (.slice ad2395 z2392.length cp2396) z2392], Res.two rfl rfl rfl, ⟨z2392, 0, ad2395, cp2396, rfl, rfl, rfl⟩, (hk2363.trans hK2377), fun w hs => (Sep.dropAt 1 rfl (Sep.dropAt 1 rfl (Sep.dropAt 1 rfl hs)))⟩
noncomputable def fn_law16_Doc_l1 (xa : (List (Int × Int × Int × Int × Bool))) : ((List (Int × Int × Int × Int × Bool)) × Int) → Option (((List (Int × Int × Int × Int × Bool)) × Int) ⊕ (List (Int × Int × Int × Int × Bool))) := fun ((l1130, i1135) : ((List (Int × Int × Int × Int × Bool)) × Int)) => cond (decide (i1135 < (((xa.length : Nat) : Int)))) ((getI xa i1135).bind fun x1298 => (getI xa i1135).bind fun x1307 => (getI xa i1135).bind fun x1316 => (getI xa i1135).bind fun x1325 => (getI xa i1135).bind fun x1334 => (app l1130 (([(x1298.1, x1307.2.1, x1316.2.2.1, x1325.2.2.2.1, x1334.2.2.2.2)] : List (Int × Int × Int × Int × Bool)))).bind fun z1346 => some (.inl ((z1346, IntKind.wrap .i64 (i1135 + 1))))) (some (.inr (l1130)))
noncomputable def fn_law16_Doc (xa : (List (Int × Int × Int × Int × Bool))) : Option ((List (Int × Int × Int × Int × Bool))) :=
  (loop (fn_law16_Doc_l1 xa) ((([] : List (Int × Int × Int × Int × Bool)), 0)) : Option ((List (Int × Int × Int × Int × Bool)))).bind fun l1014 => some (l1014)
set_option maxRecDepth 100000 in
set_option maxHeartbeats 4000000 in
theorem law16_Doc_ok {K : Hp} {xa : (List (Int × Int × Int × Int × Bool))} {adxa_0 : Option Addr} {cpxa_0 : Nat} (fxa_0 : Is K (.sl (.cons (.int .i64) (.cons (.int .i64) (.cons (.int .i64) (.cons (.int .i64) (.one .bool)))))) [.slice adxa_0 xa.length cpxa_0] xa) {r : (List (Int × Int × Int × Int × Bool))} (h : fn_law16_Doc xa = some r) :
    Tr Try.prog 15 #[.slice adxa_0 xa.length cpxa_0] K [] (fun v K' L' => (∃ (l675 : (List (Int × Int × Int × Int × Bool))) (ad676 : Option Addr) (cp677 : Nat), l675 = r ∧ .slice ad676 l675.length cp677 = v ∧ L' = [Row Hp.nil 69 (.cons (.int .i64) (.cons (.int .i64) (.cons (.int .i64) (.cons (.int .i64) (.one .bool))))) (.slice ad676 l675.length cp677) l675]) ∧ K = K') := by
  refine Tr.k ?_
  refine Tr.of Try.func15 rfl Try.ntmps15 rfl (fun E F => ?_)
  unfold fn_law16_Doc at h
  refine CJ.seq ?_
  refine CJ.region ?_
  refine J.val (v := .slice none 0 0) rfl rfl (V.as rfl) ?_
  refine J.nil ?_
  refine CJ.seq ?_
  refine CJ.region ?_
  refine J.op rfl (A.lit (K0 := Hp.nil) (ty := (.cons (.int .i64) (.cons (.int .i64) (.cons (.int .i64) (.cons (.int .i64) (.one .bool)))))) (xs := ([] : List (Int × Int × Int × Int × Bool))) Try.underlying38 inf69 rfl (by decide) rfl rfl rfl rfl rfl (by decide)) ?_
  rintro _ _ _ ⟨b680, rfl, rfl, rfl⟩
  have hn681 : ([] : List (Int × Int × Int × Int × Bool)) ≠ [] → ∃ g, (some ⟨b680, 0, none⟩ : Option Addr) = some ⟨g, 0, none⟩ := fun _ => ⟨b680, rfl⟩
  refine J.val (v := .slice (some ⟨b680, 0, none⟩) ((([] : List (Int × Int × Int × Int × Bool))).length) 0) rfl rfl (V.as rfl) ?_
  refine J.nil ?_
  refine CJ.seq ?_
  refine CJ.seq ?_
  refine CJ.region ?_
  refine J.val (v := .int .i64 0) rfl rfl (V.as rfl) ?_
  refine J.nil ?_
  obtain ⟨o1019, ho1020, h⟩ := ob h
  refine CJ.meetN (fun ρ K' L' => ∃ (l1014 : (List (Int × Int × Int × Int × Bool))) (ad1015 : Option Addr) (cp1016 : Nat), l1014 = o1019 ∧ Fits [(3, .slice ad1015 l1014.length cp1016)] ρ ∧ K = K' ∧ L' = Row Hp.nil 69 (.cons (.int .i64) (.cons (.int .i64) (.cons (.int .i64) (.cons (.int .i64) (.one .bool))))) (.slice ad1015 l1014.length cp1016) l1014 :: F) ?_ ?_
  · skip
    refine CJ.block ?_
    refine CJ.loop (fun s ρ K' L' => ∃ (l1130 : (List (Int × Int × Int × Int × Bool))) (i1135 : Int) (ad1131 : Option Addr) (cp1132 : Nat), (l1130, i1135) = s ∧ Fits [(0, .slice adxa_0 xa.length cpxa_0), (3, .slice ad1131 l1130.length cp1132), (4, .int .i64 i1135)] ρ ∧ K = K' ∧ L' = Row Hp.nil 69 (.cons (.int .i64) (.cons (.int .i64) (.cons (.int .i64) (.cons (.int .i64) (.one .bool))))) (.slice ad1131 l1130.length cp1132) l1130 :: F) ho1020 ⟨([] : List (Int × Int × Int × Int × Bool)), 0, (some ⟨b680, 0, none⟩), 0, rfl, ⟨rfl, rfl, rfl, trivial⟩, rfl, rfl⟩ ?_
    rintro s ρ _ _ r1248 ⟨l1130, i1135, ad1131, cp1132, rfl, hf1246, rfl, rfl⟩ h1245
    obtain ⟨ρ, rfl⟩ := hf1246.ex
    refine CJ.wit Row.hn (fun hn1134 => ?_)
    refine CJ.seq ?_
    refine CJ.seq ?_
    refine CJ.region ?_
    refine J.val (v := .int .i64 i1135) rfl rfl (V.mv rfl) ?_
    refine J.val (v := .slice adxa_0 xa.length cpxa_0) rfl rfl (V.mv rfl) ?_
    refine J.val (v := .int .i64 (((xa.length : Nat) : Int))) rfl rfl (V.len Try.underlying34 rfl) ?_
    refine J.val (v := .bool (decide (i1135 < (((xa.length : Nat) : Int))))) rfl rfl (V.lss rfl rfl) ?_
    refine J.nil ?_
    refine CJ.cond rfl (fun hc1249 => ?_) (fun hc1249 => ?_)
    · have h1245 := ct hc1249 h1245
      refine CJ.skip ?_
      refine CJ.seq ?_
      refine CJ.block ?_
      refine CJ.mix [Row Hp.nil 69 (.cons (.int .i64) (.cons (.int .i64) (.cons (.int .i64) (.cons (.int .i64) (.one .bool))))) (.slice ad1131 l1130.length cp1132) l1130] [([0, 1, 2, 3, 4, 5, 6, 7, 8, 9, 10, 11, 12, 13, 14, 15, 16, 17, 18, 19, 20, 21, 22, 23, 24, 25, 26], 27)] [] [28, 29] mixO (by decide +kernel) ⟨0, rfl, trivial⟩ rfl rfl rfl ?_
      refine JM.cons ?_
      refine JQ.val (v := .slice ad1131 l1130.length cp1132) rfl rfl (V.mv rfl) ?_
      refine JQ.val (v := .slice adxa_0 xa.length cpxa_0) rfl rfl (V.mv rfl) ?_
      refine JQ.val (v := .int .i64 i1135) rfl rfl (V.mv rfl) ?_
      obtain ⟨x1298, hx1299, h1245⟩ := ob h1245
      obtain ⟨p1300, p1301, p1302⟩ := getI_some hx1299
      obtain ⟨b1303, o1304, e1305, a1306⟩ := (fxa_0).at p1301
      refine JQ.val rfl rfl (V.iad Try.underlying34 sz65 rfl e1305 rfl p1300 p1302) ?_
      refine JQ.val rfl rfl (V.fad Try.underlying65 rfl nz3 rfl) ?_
      refine JQ.val (v := .int .i64 x1298.1) rfl rfl (V.ld rfl (Ld.sc sc3 (Rd.k ((a1306).fst).int (Hp.le_refl _)))) ?_
      refine JQ.val (v := .slice adxa_0 xa.length cpxa_0) rfl rfl (V.mv rfl) ?_
      refine JQ.val (v := .int .i64 i1135) rfl rfl (V.mv rfl) ?_
      obtain ⟨x1307, hx1308, h1245⟩ := ob h1245
      obtain ⟨p1309, p1310, p1311⟩ := getI_some hx1308
      obtain ⟨b1312, o1313, e1314, a1315⟩ := (fxa_0).at p1310
      refine JQ.val rfl rfl (V.iad Try.underlying34 sz65 rfl e1314 rfl p1309 p1311) ?_
      refine JQ.val rfl rfl (V.fad Try.underlying65 rfl nz3 rfl) ?_
      refine JQ.val (v := .int .i64 x1307.2.1) rfl rfl (V.ld rfl (Ld.sc sc3 (Rd.k (((a1315).snd).fst).int (Hp.le_refl _)))) ?_
      refine JQ.val (v := .slice adxa_0 xa.length cpxa_0) rfl rfl (V.mv rfl) ?_
      refine JQ.val (v := .int .i64 i1135) rfl rfl (V.mv rfl) ?_
      obtain ⟨x1316, hx1317, h1245⟩ := ob h1245
      obtain ⟨p1318, p1319, p1320⟩ := getI_some hx1317
      obtain ⟨b1321, o1322, e1323, a1324⟩ := (fxa_0).at p1319
      refine JQ.val rfl rfl (V.iad Try.underlying34 sz65 rfl e1323 rfl p1318 p1320) ?_
      refine JQ.val rfl rfl (V.fad Try.underlying65 rfl nz3 rfl) ?_
      refine JQ.val (v := .int .i64 x1316.2.2.1) rfl rfl (V.ld rfl (Ld.sc sc3 (Rd.k ((((a1324).snd).snd).fst).int (Hp.le_refl _)))) ?_
      refine JQ.val (v := .slice adxa_0 xa.length cpxa_0) rfl rfl (V.mv rfl) ?_
      refine JQ.val (v := .int .i64 i1135) rfl rfl (V.mv rfl) ?_
      obtain ⟨x1325, hx1326, h1245⟩ := ob h1245
      obtain ⟨p1327, p1328, p1329⟩ := getI_some hx1326
      obtain ⟨b1330, o1331, e1332, a1333⟩ := (fxa_0).at p1328
      refine JQ.val rfl rfl (V.iad Try.underlying34 sz65 rfl e1332 rfl p1327 p1329) ?_
      refine JQ.val rfl rfl (V.fad Try.underlying65 rfl nz3 rfl) ?_
      refine JQ.val (v := .int .i64 x1325.2.2.2.1) rfl rfl (V.ld rfl (Ld.sc sc3 (Rd.k (((((a1333).snd).snd).snd).fst).int (Hp.le_refl _)))) ?_
      refine JQ.val (v := .slice adxa_0 xa.length cpxa_0) rfl rfl (V.mv rfl) ?_
      refine JQ.val (v := .int .i64 i1135) rfl rfl (V.mv rfl) ?_
      obtain ⟨x1334, hx1335, h1245⟩ := ob h1245
      obtain ⟨p1336, p1337, p1338⟩ := getI_some hx1335
      obtain ⟨b1339, o1340, e1341, a1342⟩ := (fxa_0).at p1337
      refine JQ.val rfl rfl (V.iad Try.underlying34 sz65 rfl e1341 rfl p1336 p1338) ?_
      refine JQ.val rfl rfl (V.fad Try.underlying65 rfl nz4 rfl) ?_
      refine JQ.val (v := .bool x1334.2.2.2.2) rfl rfl (V.ld rfl (Ld.sc sc4 (Rd.k ((((((a1342).snd).snd).snd).snd).one).bool (Hp.le_refl _)))) ?_
      refine JQ.val (v := .agg #[.int .i64 x1298.1, .int .i64 x1307.2.1, .int .i64 x1316.2.2.1, .int .i64 x1325.2.2.2.1, .bool x1334.2.2.2.2]) rfl rfl (V.build inf69 places69 rfl rfl) ?_
      refine JQ.nil ?_
      refine JA.op rfl (A.lit (K0 := Hp.nil) (ty := (.cons (.int .i64) (.cons (.int .i64) (.cons (.int .i64) (.cons (.int .i64) (.one .bool)))))) (xs := ([(x1298.1, x1307.2.1, x1316.2.2.1, x1325.2.2.2.1, x1334.2.2.2.2)] : List (Int × Int × Int × Int × Bool))) Try.underlying38 inf69 rfl (by decide) rfl rfl rfl ⟨_, _, rfl, ⟨_, _, rfl, rfl, rfl, ⟨_, _, rfl, rfl, rfl, ⟨_, _, rfl, rfl, rfl, ⟨_, _, rfl, rfl, rfl, rfl⟩⟩⟩⟩, rfl⟩ rfl (by decide)) ?_
      rintro _ _ _ ⟨b1343, rfl, rfl, rfl⟩
      have hn1344 : ([(x1298.1, x1307.2.1, x1316.2.2.1, x1325.2.2.2.1, x1334.2.2.2.2)] : List (Int × Int × Int × Int × Bool)) ≠ [] → ∃ g, (some ⟨b1343, 0, none⟩ : Option Addr) = some ⟨g, 0, none⟩ := fun _ => ⟨b1343, rfl⟩
      refine ⟨fun w hs => Hold.sub (Hp.le_refl _) ⟨1, rfl, trivial⟩ hs, ?_⟩
      refine JM.nil ?_
      refine JQ.nil ?_
      obtain ⟨z1346, hz1347, h1245⟩ := ob h1245
      refine J.front 1 rfl ?_
      refine J.op rfl (A.appR (Kr := Hp.nil) Try.underlying38 inf69 rfl rfl (by decide) (by decide) rfl rfl (Els.flat rfl) (Els.flat rfl) hz1347) ?_
      rintro _ _ _ ⟨v1348, rfl, rfl, rfl⟩
      refine J.wit Row.form ?_
      rintro ⟨ad1349, cp1350, rfl, _, _, hn1351⟩
      refine J.val (v := .slice ad1349 z1346.length cp1350) rfl rfl (V.as rfl) ?_
      refine J.nil ?_
      refine CJ.region ?_
      refine J.val (v := .int .i64 i1135) rfl rfl (V.mv rfl) ?_
      refine J.val (v := .int .i64 (IntKind.wrap .i64 (i1135 + 1))) rfl rfl (V.add rfl rfl) ?_
      refine J.val (v := .int .i64 (IntKind.wrap .i64 (i1135 + 1))) rfl rfl (V.as rfl) ?_
      refine J.nil ?_
      have e := Option.some.inj h1245
      subst e
      exact ⟨rfl, ⟨z1346, IntKind.wrap .i64 (i1135 + 1), ad1349, cp1350, rfl, ⟨rfl, rfl, rfl, trivial⟩, rfl, rfl⟩⟩
    · have h1245 := cf hc1249 h1245
      refine CJ.exit ?_
      have e := Option.some.inj h1245
      subst e
      refine ⟨nofun, fun e => ?_⟩
      subst e
      exact ⟨rfl, ⟨l1130, ad1131, cp1132, rfl, ⟨rfl, trivial⟩, rfl, rfl⟩⟩
  · rintro ρ _ _ ⟨l1014, ad1015, cp1016, rfl, hf1352, rfl, rfl⟩
    obtain ⟨ρ, rfl⟩ := hf1352.ex
    refine PJ.wit Row.hn (fun hn1018 => ?_)
    refine PJ.done ?_
    refine CJ.seq ?_
    refine CJ.region ?_
    refine J.val (v := .slice ad1015 l1014.length cp1016) rfl rfl (V.mv rfl) ?_
    refine J.val (v := .slice ad1015 l1014.length cp1016) rfl rfl (V.as rfl) ?_
    refine J.nil ?_
    refine CJ.ret ?_
    have e := Option.some.inj h
    subst e
    exact ⟨_, [Row Hp.nil 69 (.cons (.int .i64) (.cons (.int .i64) (.cons (.int .i64) (.cons (.int .i64) (.one .bool))))) (.slice ad1015 l1014.length cp1016) l1014], Res.one rfl rfl, ⟨l1014, ad1015, cp1016, rfl, rfl, rfl⟩, (Hp.le_refl _), fun w hs => hs⟩
end Go.Proofs.Ytjhgiaafaahbjaa
