/- A part of the proof: what lies ahead of the law. Nothing is claimed here. -/
import Derived.Test.YteciehjlefldmaaDoorZ4
import Derived.Test.YteciehjlefldmaaDoorRows
import Derived.Lib.SplitLaws
import Derived.Lib.IndexMore
import Derived.Lib.Join
namespace Go.Proofs.YteciehjlefldmaaDoor
set_option linter.unusedVariables false
set_option linter.unnecessarySimpa false
set_option linter.unusedSimpArgs false
set_option linter.unusedSectionVars false
set_option maxRecDepth 20000
open Go.RowKit
section
theorem inf87 : Inf Tryd.prog 87 (.agg #[.int .u8 0, .int .u8 0, .int .u8 0, .int .u8 0, .int .u8 0, .int .u8 0, .int .u8 0, .int .u8 0, .int .u8 0, .int .u8 0, .int .u8 0, .int .u8 0, .int .u8 0, .int .u8 0, .int .u8 0, .int .u8 0, .int .u8 0, .int .u8 0, .int .u8 0, .int .u8 0]) 20 20 := by unfold Inf; kernel_rfl
theorem sz5 : (Tryd.prog.info? 5).map (·.size) = some 1 := by kernel_rfl
theorem mixO : Tryd.prog.follows .mixedOrders = true := by kernel_rfl
noncomputable def fn_numeral_Text_l1  : (Int × (List Int) × Int) → Option ((Int × (List Int) × Int) ⊕ List UInt8) := fun ((i262, l263, i266) : (Int × (List Int) × Int)) => (getI l263 (IntKind.wrap .i64 (i266 - 1))).bind fun x295 => (some (l263.set (IntKind.wrap .i64 (i266 - 1)).toNat (IntKind.wrap .u8 (IntKind.wrap .i64 (48 + (Int.tmod i262 10)))))).bind fun z300 => cond (decide ((IntKind.wrap .i64 (Int.tdiv i262 10)) = 0)) ((subL z300 (IntKind.wrap .i64 (i266 - 1)) (((20 : Nat) : Int))).bind fun y308 => some (.inr (toU8 y308))) (some (.inl ((IntKind.wrap .i64 (Int.tdiv i262 10), z300, IntKind.wrap .i64 (i266 - 1)))))
noncomputable def fn_numeral_Text (xa : Int) : Option (List UInt8) :=
  cond (decide (xa < 0)) (some (([] : List UInt8))) (loop (fn_numeral_Text_l1) ((xa, ([0, 0, 0, 0, 0, 0, 0, 0, 0, 0, 0, 0, 0, 0, 0, 0, 0, 0, 0, 0] : List Int), 20)))
set_option maxRecDepth 100000 in
set_option maxHeartbeats 4000000 in
theorem numeral_Text_ok {K : Hp} {xa : Int}   {r : List UInt8} (h : fn_numeral_Text xa = some r) :
    Tr Tryd.prog 24 #[ii xa] K [] (fun v K' L' => (∃ (s157 : List UInt8), s157 = r ∧ .string ⟨s157.toArray⟩ = v ∧ L' = []) ∧ K = K') := by
 refine Tr.k <| Tr.of Tryd.func24 rfl Tryd.ntmps24 rfl fun E F => ?_
 unfold fn_numeral_Text at h
 refine cr <| ja (.string ⟨([] : List UInt8).toArray⟩) rfl <| J.nil <| CJ.seq <| CJ.seq <| CJ.region ?_
 refine jm (ii xa) rfl <| jv (.bool (decide (xa < 0))) (V.lss rfl rfl) <| J.nil <| cc rfl h (fun hc158 h => ?_) fun hc158 h => ?_
 · refine cr <| ja (.string ⟨([] : List UInt8).toArray⟩) rfl <| J.nil <| CJ.ret ?_
   obtain rfl := si h
   exact ⟨_, _, Res.one rfl rfl, ⟨([] : List UInt8), rfl, rfl, rfl⟩, (Hp.le_refl _), fun w hs => hs⟩
 refine CJ.skip <| cr <| jal inf87 [.int .u8 0, .int .u8 0, .int .u8 0, .int .u8 0, .int .u8 0, .int .u8 0, .int .u8 0, .int .u8 0, .int .u8 0, .int .u8 0, .int .u8 0, .int .u8 0, .int .u8 0, .int .u8 0, .int .u8 0, .int .u8 0, .int .u8 0, .int .u8 0, .int .u8 0, .int .u8 0] rfl fun b159 => ?_
 have hl160 : ([0, 0, 0, 0, 0, 0, 0, 0, 0, 0, 0, 0, 0, 0, 0, 0, 0, 0, 0, 0] : List Int).length = 20 := rfl
 refine J.by (fun w hs => Sep.arr (t := (.int .u8)) (xs := ([0, 0, 0, 0, 0, 0, 0, 0, 0, 0, 0, 0, 0, 0, 0, 0, 0, 0, 0, 0] : List Int)) ⟨_, _, rfl, rfl, ⟨_, _, rfl, rfl, ⟨_, _, rfl, rfl, ⟨_, _, rfl, rfl, ⟨_, _, rfl, rfl, ⟨_, _, rfl, rfl, ⟨_, _, rfl, rfl, ⟨_, _, rfl, rfl, ⟨_, _, rfl, rfl, ⟨_, _, rfl, rfl, ⟨_, _, rfl, rfl, ⟨_, _, rfl, rfl, ⟨_, _, rfl, rfl, ⟨_, _, rfl, rfl, ⟨_, _, rfl, rfl, ⟨_, _, rfl, rfl, ⟨_, _, rfl, rfl, ⟨_, _, rfl, rfl, ⟨_, _, rfl, rfl, ⟨_, _, rfl, rfl, rfl⟩⟩⟩⟩⟩⟩⟩⟩⟩⟩⟩⟩⟩⟩⟩⟩⟩⟩⟩⟩ hl160 rfl hs) <| J.nil <| cr <| ja (ii 20) rfl <| J.nil <| CJ.block ?_
 refine CJ.loop (fun s ρ K' L' => ∃ (i262 : Int) (l263 : (List Int)) (i266 : Int), (i262, l263, i266) = s ∧ Fits [(0, ii i262), (3, .pointer (some ⟨b159, 0, none⟩)), (4, ii i266)] ρ ∧ K = K' ∧ L' = Row Hp.nil 87 (.int .u8) (.slice (some ⟨b159, 0, none⟩) 20 20) l263 :: F) h ⟨xa, ([0, 0, 0, 0, 0, 0, 0, 0, 0, 0, 0, 0, 0, 0, 0, 0, 0, 0, 0, 0] : List Int), 20, rfl, ⟨rfl, rfl, rfl, trivial⟩, rfl, rfl⟩ ?_
 rintro s ρ _ _ r294 ⟨i262, l263, i266, rfl, hf292, rfl, rfl⟩ h291
 obtain ⟨ρ, rfl⟩ := hf292.ex
 refine CJ.wit Row.len fun hl265 => CJ.block <| cr <| jm (ii i266) rfl <| jv (ii (IntKind.wrap .i64 (i266 - 1))) (V.sub rfl rfl) <| ja (ii (IntKind.wrap .i64 (i266 - 1))) rfl ?_
 refine J.nil <| cr <| jm (ii (IntKind.wrap .i64 (i266 - 1))) rfl <| jm (ii i262) rfl <| jv (ii (Int.tmod i262 10)) (V.rem rfl rfl (by decide)) <| jv (ii (IntKind.wrap .i64 (48 + (Int.tmod i262 10)))) (V.add rfl rfl) ?_
 refine jv (.int .u8 (IntKind.wrap .u8 (IntKind.wrap .i64 (48 + (Int.tmod i262 10))))) (V.conv Tryd.underlying3 Tryd.underlying5 rfl) ?_
 obtain ⟨x295, hx296, h291⟩ := ob h291
 obtain ⟨p297, p298, p299⟩ := getI_some hx296
 refine jv _ (V.iadA Tryd.underlying87 sz5 rfl rfl p297 (lt_cap p299 hl265)) ?_
 obtain ⟨z300, hz301, h291⟩ := ob h291
 have e302 := Option.some.inj hz301
 have hl303 : z300.length = 20 := by rw [← e302, List.length_set]; exact hl265
 refine J.op rfl (A.storeR (ty := (.int .u8)) (q := 0) (y0 := IntKind.wrap .u8 (IntKind.wrap .i64 (48 + (Int.tmod i262 10)))) (zs := z300) sz5 rfl rfl rfl rfl rfl p298 (by simp [Tp.size]) (by decide) (by rintro _ rfl; exact rfl) e302) ?_
 rintro _ _ _ ⟨rfl, rfl, rfl⟩
 refine J.nil <| cr <| jm (ii i262) rfl <| jv (ii (IntKind.wrap .i64 (Int.tdiv i262 10))) (V.quo rfl rfl (by decide)) <| ja (ii (IntKind.wrap .i64 (Int.tdiv i262 10))) rfl <| J.nil ?_
 refine cr <| jm (ii (IntKind.wrap .i64 (Int.tdiv i262 10))) rfl <| jv (.bool (decide ((IntKind.wrap .i64 (Int.tdiv i262 10)) = 0))) (V.eql rfl rfl) <| J.nil <| cc rfl h291 (fun hc304 h291 => ?_) fun hc304 h291 => ?_
 · refine cr <| jm (ii (IntKind.wrap .i64 (i266 - 1))) rfl <| J.persist (Hp.nil_le _) (by decide) fun K305 hK306 f307 => ?_
   obtain ⟨y308, hy309, h291⟩ := ob h291
   obtain ⟨ad310, cp311, hv312, f313⟩ := V.subA (tp := (.int .u8)) Tryd.underlying87 sz5 hl303 f307 hy309
   refine jv (.slice ad310 y308.length cp311) (hv312 rfl (fun _ h => by cases h; exact ⟨_, rfl⟩) nofun nofun (fun _ => rfl)) <| jv (.string ⟨(toU8 y308).toArray⟩) (V.b2sK Tryd.underlying88 Tryd.underlying5 Tryd.underlying9 rfl f313 (Hp.le_refl _)) <| ja (.string ⟨(toU8 y308).toArray⟩) rfl <| J.nil <| CJ.ret ?_
   obtain rfl := si h291
   refine ⟨nofun, fun e => ?_⟩
   subst e
   exact ⟨_, _, Res.one rfl rfl, ⟨toU8 y308, rfl, rfl, rfl⟩, hK306, fun w hs => hs⟩
 refine CJ.skip ?_
 obtain rfl := si h291
 exact ⟨rfl, ⟨IntKind.wrap .i64 (Int.tdiv i262 10), z300, IntKind.wrap .i64 (i266 - 1), rfl, ⟨rfl, rfl, rfl, trivial⟩, rfl, rfl⟩⟩

noncomputable def fnr_ref01_Text : Nat → Int → Option (List UInt8)
  | 0, _ => none
  | fuel + 1, xa => cond (decide (xa < 0)) (some (([] : List UInt8))) (cond (decide (xa < 10)) ((subL ([48, 49, 50, 51, 52, 53, 54, 55, 56, 57] : List UInt8) xa (IntKind.wrap .i64 (xa + 1))).bind fun y37 => some (y37)) ((subL ([48, 49, 50, 51, 52, 53, 54, 55, 56, 57] : List UInt8) (Int.tmod xa 10) (IntKind.wrap .i64 ((Int.tmod xa 10) + 1))).bind fun y49 => (fnr_ref01_Text fuel (IntKind.wrap .i64 (Int.tdiv xa 10))).bind fun s53 => (app s53 y49).bind fun z57 => some (z57)))
noncomputable def fn_ref01_Text (xa : Int) : Option (List UInt8) := lev (fun n => fnr_ref01_Text n xa)
set_option maxRecDepth 100000 in
set_option maxHeartbeats 4000000 in
theorem ref01_Text_okr : ∀ (fuel : Nat) {K : Hp} {xa : Int}   {r : List UInt8} (h : fnr_ref01_Text fuel xa = some r),
    Tr Tryd.prog 26 #[ii xa] K [] (fun v K' L' => (∃ (s34 : List UInt8), s34 = r ∧ .string ⟨s34.toArray⟩ = v ∧ L' = []) ∧ K = K') := by
  intro fuel
  induction fuel with
  | zero => intro K xa r h; rw [fnr_ref01_Text] at h; cases h
  | succ fuel ih =>
    intro K xa r h
    refine Tr.k <| Tr.of Tryd.func26 rfl Tryd.ntmps26 rfl fun E F => ?_
    rw [fnr_ref01_Text] at h
    refine cr <| ja (.string ⟨([] : List UInt8).toArray⟩) rfl <| J.nil <| CJ.seq <| CJ.seq <| CJ.region ?_
    refine jm (ii xa) rfl <| jv (.bool (decide (xa < 0))) (V.lss rfl rfl) <| J.nil <| cc rfl h (fun hc35 h => ?_) fun hc35 h => ?_
    · refine cr <| ja (.string ⟨([] : List UInt8).toArray⟩) rfl <| J.nil <| CJ.ret ?_
      obtain rfl := si h
      exact ⟨_, _, Res.one rfl rfl, ⟨([] : List UInt8), rfl, rfl, rfl⟩, (Hp.le_refl _), fun w hs => hs⟩
    refine CJ.skip <| CJ.seq <| cr <| jm (ii xa) rfl <| jv (.bool (decide (xa < 10))) (V.lss rfl rfl) <| J.nil ?_
    refine cc rfl h (fun hc36 h => ?_) fun hc36 h => ?_
    · refine cr <| jm (ii xa) rfl <| jm (ii xa) rfl <| jv (ii (IntKind.wrap .i64 (xa + 1))) (V.add rfl rfl) ?_
      obtain ⟨y37, hy38, h⟩ := ob h
      refine jv (.string ⟨y37.toArray⟩) (V.subs Tryd.underlying9 rfl (fun _ h => by cases h; exact ⟨_, rfl⟩) nofun (fun _ h => by cases h; exact ⟨_, rfl⟩) nofun hy38) <| ja (.string ⟨y37.toArray⟩) rfl <| J.nil <| CJ.ret ?_
      obtain rfl := si h
      exact ⟨_, _, Res.one rfl rfl, ⟨y37, rfl, rfl, rfl⟩, (Hp.le_refl _), fun w hs => hs⟩
    refine CJ.skip <| CJ.seq <| CJ.mix [] [([0, 1, 3, 4, 5, 6, 7, 8], 2)] [9, 10] [] mixO (by decide +kernel) trivial rfl rfl rfl <| JM.cons <| qm (ii xa) rfl <| qv (ii (IntKind.wrap .i64 (Int.tdiv xa 10))) (V.quo rfl rfl (by decide)) <| qm (ii xa) rfl ?_
    refine qv (ii (Int.tmod xa 10)) (V.rem rfl rfl (by decide)) <| qm (ii xa) rfl <| qv (ii (Int.tmod xa 10)) (V.rem rfl rfl (by decide)) <| qv (ii (IntKind.wrap .i64 ((Int.tmod xa 10) + 1))) (V.add rfl rfl) ?_
    obtain ⟨y49, hy50, h⟩ := ob h
    refine qv (.string ⟨y49.toArray⟩) (V.subs Tryd.underlying9 rfl (fun _ h => by cases h; exact ⟨_, rfl⟩) nofun (fun _ h => by cases h; exact ⟨_, rfl⟩) nofun hy50) <| JQ.nil ?_
    obtain ⟨r51, hr52, h⟩ := ob h
    refine JA.op rfl (A.call (L1 := []) Tryd.call26 rfl (ih hr52) rfl rfl) ?_
    rintro _ _ _ ⟨v54, _, rfl, ⟨⟨s53, rfl, rfl, rfl⟩, rfl⟩, _, rfl⟩
    refine ⟨fun w hs => Hold.sub (Hp.le_refl _) trivial hs, ?_⟩
    refine JM.nil ?_
    obtain ⟨z57, hz58, h⟩ := ob h
    refine qv (.string ⟨z57.toArray⟩) (V.cat rfl rfl hz58) <| qa (.string ⟨z57.toArray⟩) rfl <| JQ.nil <| J.nil <| CJ.ret ?_
    obtain rfl := si h
    exact ⟨_, _, Res.one rfl rfl, ⟨z57, rfl, rfl, rfl⟩, (Hp.le_refl _), fun w hs => hs⟩
set_option maxRecDepth 100000 in
set_option maxHeartbeats 4000000 in
theorem ref01_Text_ok {K : Hp} {xa : Int}   {r : List UInt8} (h : fn_ref01_Text xa = some r) :
    Tr Tryd.prog 26 #[ii xa] K [] (fun v K' L' => (∃ (s34 : List UInt8), s34 = r ∧ .string ⟨s34.toArray⟩ = v ∧ L' = []) ∧ K = K') := by
  obtain ⟨n, hn⟩ := lev_some h
  exact ref01_Text_okr n  hn
variable [BldA]
theorem text1_is {P : Program} {f : Nat} {fn : Int → Option (List UInt8)} (ok : ∀ {K : Hp} {xa : Int} {r : List UInt8}, fn xa = some r → Tr P f #[ii xa] K [] (fun v K' L' => (∃ s : List UInt8, s = r ∧ .string ⟨s.toArray⟩ = v ∧ L' = []) ∧ K = K')) : SpecOk P ⟨f, ⟨[(0, .dat (.int .i64))], []⟩, [⟨[(0, .dat .str)], []⟩], fn⟩ := by
  intro x r hr vs u hu m K args hgk hm hH hsl E w F hs
  have hu' : Sh.un ⟨[(0, .dat (.int .i64))], []⟩ (TL.list [Tp.int .i64] x) 0 = some ([(0, .int .i64 x)], ⟨[], 0, [], []⟩) := rfl
  rw [show (Spec.inn ⟨f, ⟨[(0, .dat (.int .i64))], []⟩, [⟨[(0, .dat .str)], []⟩], fn⟩).un (TL.list _ x) 0 = _ from hu'] at hu
  cases hu
  obtain ⟨v, q, rfl, h1, rfl⟩ := hsl
  obtain rfl : v = ii x := h1
  refine (ok (K := K) hr E w F hs).mono ?_
  rintro e w' ⟨v, K', L', rfl, ⟨⟨s, rfl, rfl, rfl⟩, rfl⟩, h1, h2⟩
  exact ⟨_, K, [], rfl, ⟨[(0, .str s)], ⟨[], 0, [], []⟩, m, rfl, List.prefix_rfl, hm, fun a h => (by cases h), rfl, rfl⟩, h1, h2⟩
theorem join_is {P : Program} {f : Nat} {fn : List (List UInt8) → List UInt8 → Option (List UInt8)} (ok : ∀ {K : Hp} {xa : List (List UInt8)} {xb : List UInt8} {ad : Option Addr} {cp : Nat} (fa : Is K (.sl .str) [.slice ad xa.length cp] xa) {r : List UInt8}, fn xa xb = some r → Tr P f #[.slice ad xa.length cp, .string ⟨xb.toArray⟩] K [] (fun v K' L' => (∃ s1 : List UInt8, s1 = r ∧ v = .string ⟨s1.toArray⟩ ∧ L' = []) ∧ K = K')) : SpecOk P ⟨f, ⟨[(0, .dat (.sl .str)), (1, .dat .str)], []⟩, [⟨[(0, .dat .str)], []⟩], fun x => fn x.1 x.2⟩ := by
  intro x r hr vs u hu m K args hgk hm hH hsl E w F hs
  have hu' : Sh.un ⟨[(0, .dat (.sl .str)), (1, .dat .str)], []⟩ (TL.list [Tp.sl .str, Tp.str] x) 0 = some ([(0, .row .str x.1 (List.length (α := List UInt8) x.1)), (1, .str x.2)], ⟨[], 0, [], []⟩) := rfl
  rw [show (Spec.inn ⟨f, ⟨[(0, .dat (.sl .str)), (1, .dat .str)], []⟩, [⟨[(0, .dat .str)], []⟩], fun x => fn x.1 x.2⟩).un (TL.list _ x) 0 = _ from hu'] at hu
  cases hu
  obtain ⟨v, q, rfl, h1, v2, q2, rfl, h2, rfl⟩ := hsl
  obtain rfl : v2 = .string ⟨x.2.toArray⟩ := h2
  obtain ⟨fa, _⟩ := h1
  have fa0 := fa
  simp only [Is] at fa
  obtain ⟨ad, cp, e0, _⟩ := fa
  simp only [List.cons.injEq, and_true] at e0
  subst e0
  refine (ok (K := K) fa0 hr E w F hs).mono ?_
  rintro e w' ⟨v, K', L', rfl, ⟨⟨s, rfl, rfl, rfl⟩, rfl⟩, h1, h2⟩
  exact ⟨_, K, [], rfl, ⟨[(0, .str s)], ⟨[], 0, [], []⟩, m, rfl, List.prefix_rfl, hm, fun a h => (by cases h), rfl, rfl⟩, h1, h2⟩
noncomputable def sp_numeral_Text : Spec := ⟨24, ⟨[(0, .dat (.int .i64))], []⟩, [⟨[(0, .dat .str)], []⟩], fn_numeral_Text⟩
theorem numeral_Text_is : SpecOk Tryd.prog sp_numeral_Text := text1_is fun h => numeral_Text_ok h
noncomputable def ok_numeral_Text : OkSpec Tryd.prog := ⟨sp_numeral_Text, numeral_Text_is, Tryd.call24⟩
noncomputable def sp_ref01_Text : Spec := ⟨26, ⟨[(0, .dat (.int .i64))], []⟩, [⟨[(0, .dat .str)], []⟩], fn_ref01_Text⟩
theorem ref01_Text_is : SpecOk Tryd.prog sp_ref01_Text := text1_is fun h => ref01_Text_ok h
noncomputable def ok_ref01_Text : OkSpec Tryd.prog := ⟨sp_ref01_Text, ref01_Text_is, Tryd.call26⟩
noncomputable def sp_Join : Spec := ⟨25, ⟨[(0, .dat (.sl .str)), (1, .dat .str)], []⟩, [⟨[(0, .dat .str)], []⟩], fun x => joinF x.1 x.2⟩
theorem Join_is : SpecOk Tryd.prog sp_Join := join_is strings_Join_ok
noncomputable def ok_Join : OkSpec Tryd.prog := ⟨sp_Join, Join_is, Tryd.call25⟩
end
set_option maxRecDepth 100000
set_option maxHeartbeats 4000000
noncomputable instance nob : BldA := ⟨91, Bld, fun h => Bld.fresh h, Gk, Gk.monoC⟩
noncomputable def ok_Cut : OkSpec Tryd.prog := ⟨sp_Cut, Cut_is (fun _ h => h), Tryd.call106⟩
noncomputable def ok_Split : OkSpec Tryd.prog := ⟨sp_Split, Split_is (fun _ h => h), Tryd.call19⟩
noncomputable def ok_Index : OkSpec Tryd.prog := ⟨sp_Index, Index_is (fun _ h => h), Tryd.call69⟩
noncomputable def ok_WriteByte : OkSpec Tryd.prog := ⟨sp_WriteByte, WriteByte_is (fun _ _ => rfl), Tryd.call73⟩
noncomputable def ok_WriteString : OkSpec Tryd.prog := ⟨sp_WriteString, WriteString_is (fun _ _ => rfl), Tryd.call50⟩
noncomputable def ok_BString : OkSpec Tryd.prog := ⟨sp_BString, BString_is (fun _ _ => rfl), Tryd.call51⟩

noncomputable def fn_ref15_Few (xa : (List (Int × Bool))) (xb : Int) : Option Bool :=
 some (decide ((((xa.length : Nat) : Int)) ≤ xb))
noncomputable def h_ref15_Few : Hn Tryd.prog := .nil
noncomputable def sp_ref15_Few : Spec := ⟨5, ⟨[(0, .dat (.one (.sl (.cons (.int .i64) (.one .bool))))), (1, .dat (.int .i64))], []⟩, [⟨[(0, .dat .bool)], []⟩], fun x => fn_ref15_Few x.1 x.2⟩
theorem ref15_Few_is : SpecOk Tryd.prog sp_ref15_Few := fn_is Tryd.func5 h_ref15_Few (by kernel_rfl) (by kernel_rfl)
noncomputable def ok_ref15_Few : OkSpec Tryd.prog := ⟨sp_ref15_Few, ref15_Few_is, Tryd.call5⟩

noncomputable def fn_strings_splitSeq (xa : (List UInt8)) (xb : (List UInt8)) (xc : Int) : Option (List UInt8 × List UInt8 × Int) :=
 some ((xb, xa, xc))
noncomputable def h_strings_splitSeq : Hn Tryd.prog := .nil
noncomputable def sp_strings_splitSeq : Spec := ⟨54, ⟨[(0, .dat .str), (1, .dat .str), (2, .dat (.int .i64))], []⟩, [⟨[(0, .fn 74 [.ptr 0 0, .ptr 1 0, .ptr 2 0])], [⟨none, 9, [.dat .str], false, false, none, false⟩, ⟨none, 9, [.dat .str], false, false, none, false⟩, ⟨none, 3, [.dat (.int .i64)], false, false, none, false⟩]⟩], fun x => fn_strings_splitSeq x.1 x.2.1 x.2.2⟩
theorem strings_splitSeq_is : SpecOk Tryd.prog sp_strings_splitSeq := fn_is Tryd.func54 h_strings_splitSeq (by kernel_rfl) (by kernel_rfl)
noncomputable def ok_strings_splitSeq : OkSpec Tryd.prog := ⟨sp_strings_splitSeq, strings_splitSeq_is, Tryd.call54⟩

noncomputable def fn_strings_SplitSeq (xa : (List UInt8)) (xb : (List UInt8)) : Option (List UInt8 × List UInt8 × Int) :=
 (fn_strings_splitSeq xa xb 0).bind fun (s20, s21, i22) => some ((s20, s21, i22))
noncomputable def h_strings_SplitSeq : Hn Tryd.prog := .cl ok_strings_splitSeq [] (.nil)
noncomputable def sp_strings_SplitSeq : Spec := ⟨32, ⟨[(0, .dat .str), (1, .dat .str)], []⟩, [⟨[(0, .fn 74 [.ptr 0 0, .ptr 1 0, .ptr 2 0])], [⟨none, 9, [.dat .str], false, false, none, false⟩, ⟨none, 9, [.dat .str], false, false, none, false⟩, ⟨none, 3, [.dat (.int .i64)], false, false, none, false⟩]⟩], fun x => fn_strings_SplitSeq x.1 x.2⟩
theorem strings_SplitSeq_is : SpecOk Tryd.prog sp_strings_SplitSeq := fn_is Tryd.func32 h_strings_SplitSeq (by kernel_rfl) (by kernel_rfl)
noncomputable def ok_strings_SplitSeq : OkSpec Tryd.prog := ⟨sp_strings_SplitSeq, strings_SplitSeq_is, Tryd.call32⟩
def fn_unicode_utf8_DecodeRuneInString (xa : List UInt8) : Option (Int × Int) := none
noncomputable def sp_unicode_utf8_DecodeRuneInString : Spec := ⟨75, ⟨[(0, .dat .str)], []⟩, [⟨[(0, .tup [.dat (.int .i32), .dat (.int .i64)])], []⟩], fun _ => none⟩
theorem unicode_utf8_DecodeRuneInString_is : SpecOk Tryd.prog sp_unicode_utf8_DecodeRuneInString := fun _ _ h => by cases h
noncomputable def ok_unicode_utf8_DecodeRuneInString : OkSpec Tryd.prog := ⟨sp_unicode_utf8_DecodeRuneInString, unicode_utf8_DecodeRuneInString_is, Tryd.call75⟩

noncomputable def fn_text_Parse_1 (xa : (List UInt8)) : Option Bool :=
 some (decide (xa = ([] : List UInt8)))
noncomputable def h_text_Parse_1 : Hn Tryd.prog := .nil
noncomputable def sp_text_Parse_1 : Spec := ⟨34, ⟨[(0, .dat .str)], []⟩, [⟨[(0, .dat .bool)], []⟩], fun x => fn_text_Parse_1 x⟩
theorem text_Parse_1_is : SpecOk Tryd.prog sp_text_Parse_1 := fn_is Tryd.func34 h_text_Parse_1 (by kernel_rfl) (by kernel_rfl)
noncomputable def ok_text_Parse_1 : OkSpec Tryd.prog := ⟨sp_text_Parse_1, text_Parse_1_is, Tryd.call34⟩
noncomputable def fn_slices_IndexFunc_string_string_k_text_Parse_1_l1 (xa : (List (List UInt8))) : Int → Option (Int ⊕ (Unit ⊕ Int)) := fun (i185 : Int) => cond (decide (i185 < (((xa.length : Nat) : Int)))) ((getI xa i185).bind fun x206 => (fn_text_Parse_1 x206).bind fun t217 => cond (t217) (some (.inr ((.inr (i185))))) (some (.inl (IntKind.wrap .i64 (i185 + 1))))) (some (.inr ((.inl ()))))
noncomputable def fn_slices_IndexFunc_string_string_k_text_Parse_1 (xa : (List (List UInt8))) : Option Int :=
 (loop (fn_slices_IndexFunc_string_string_k_text_Parse_1_l1 xa) 0 : Option (Unit ⊕ Int)).bind fun o => match o with | .inr r => some r | .inl () => some ((-1))
noncomputable def h_slices_IndexFunc_string_string_k_text_Parse_1 : Hn Tryd.prog := .jx [] ⟨[], []⟩ [] (.lp ⟨[(8, .dat (.int .i64))], []⟩ (.tw 9 (.cl ok_text_Parse_1 [] (.tw 16 (.nil) (.nil))) (.nil))) (.nil)
noncomputable def sp_slices_IndexFunc_string_string_k_text_Parse_1 : Spec := ⟨55, ⟨[(0, .dat (.sl .str)), (1, .fn 34 [])], []⟩, [⟨[(0, .dat (.int .i64))], []⟩], fun x => fn_slices_IndexFunc_string_string_k_text_Parse_1 x⟩
theorem slices_IndexFunc_string_string_k_text_Parse_1_is : SpecOk Tryd.prog sp_slices_IndexFunc_string_string_k_text_Parse_1 := fn_is Tryd.func55 h_slices_IndexFunc_string_string_k_text_Parse_1 (by kernel_rfl) (by kernel_rfl)
noncomputable def ok_slices_IndexFunc_string_string_k_text_Parse_1 : OkSpec Tryd.prog := ⟨sp_slices_IndexFunc_string_string_k_text_Parse_1, slices_IndexFunc_string_string_k_text_Parse_1_is, Tryd.call55⟩
noncomputable def fn_slices_DeleteFunc_string_string_r_text_Parse_1_l1  : ((List (List UInt8)) × Int × Int) → Option (((List (List UInt8)) × Int × Int) ⊕ ((List (List UInt8)) × Int)) := fun ((l524, i529, i530) : ((List (List UInt8)) × Int × Int)) => cond (decide (i530 < (((l524.length : Nat) : Int)))) ((getI l524 i530).bind fun x567 => (fn_text_Parse_1 x567).bind fun t576 => cond (!t576) ((getI l524 i529).bind fun x581 => (some (l524.set i529.toNat x567)).bind fun z588 => some (.inl ((z588, IntKind.wrap .i64 (i529 + 1), IntKind.wrap .i64 (i530 + 1))))) (some (.inl ((l524, i529, IntKind.wrap .i64 (i530 + 1)))))) (some (.inr (((l524, i529)))))
noncomputable def fn_slices_DeleteFunc_string_string_r_text_Parse_1 (qxa : (List (List UInt8))) : Option ((List (List UInt8))) :=
 (fn_slices_IndexFunc_string_string_k_text_Parse_1 qxa).bind fun i373 => cond (decide (i373 = (-1))) (some (qxa)) ((loop (fn_slices_DeleteFunc_string_string_r_text_Parse_1_l1) ((qxa, i373, IntKind.wrap .i64 (i373 + 1))) : Option (((List (List UInt8)) × Int))).bind fun (l484, i489) => (subL l484 i489 (((l484.length : Nat) : Int))).bind fun _ => (some (cpy l484 (i489 : Int).toNat (List.replicate ((((l484.length : Nat) : Int) : Int).toNat - (i489 : Int).toNat) ([] : List UInt8)))).bind fun z593 => (subL z593 0 i489).bind fun y598 => some (y598))
noncomputable def h_slices_DeleteFunc_string_string_r_text_Parse_1 : Hn Tryd.prog := .cl ok_slices_IndexFunc_string_string_k_text_Parse_1 [0] (.tw 12 (.per 0 1 (.nil)) (.jn [] ⟨[(0, .own 9 .str), (5, .dat (.int .i64)), (8, .any)], []⟩ [0] (.lp ⟨[(0, .own 9 .str), (5, .dat (.int .i64)), (6, .dat (.int .i64))], []⟩ (.tw 19 (.cl ok_text_Parse_1 [] (.tw 29 (.nil) (.nil))) (.nil))) (.per 2 4 (.nil))))
noncomputable def sp_slices_DeleteFunc_string_string_r_text_Parse_1 : Spec := ⟨33, ⟨[(0, .own 9 .str), (1, .fn 34 [])], []⟩, [⟨[(0, .dat (.sl .str))], []⟩], fun x => fn_slices_DeleteFunc_string_string_r_text_Parse_1 x⟩
theorem slices_DeleteFunc_string_string_r_text_Parse_1_is : SpecOk Tryd.prog sp_slices_DeleteFunc_string_string_r_text_Parse_1 := fn_is Tryd.func33 h_slices_DeleteFunc_string_string_r_text_Parse_1 (by kernel_rfl) (by kernel_rfl)
noncomputable def ok_slices_DeleteFunc_string_string_r_text_Parse_1 : OkSpec Tryd.prog := ⟨sp_slices_DeleteFunc_string_string_r_text_Parse_1, slices_DeleteFunc_string_string_r_text_Parse_1_is, Tryd.call33⟩

noncomputable def fn_internal_stringslite_HasPrefix (xa : (List UInt8)) (xb : (List UInt8)) : Option Bool :=
 (cond (decide ((((xb.length : Nat) : Int)) ≤ (((xa.length : Nat) : Int)))) ((subL xa 0 (((xb.length : Nat) : Int))).bind fun y14 => some (decide (y14 = xb))) (some (false))).bind fun t12 => some (t12)
noncomputable def h_internal_stringslite_HasPrefix : Hn Tryd.prog := .gj 6 ⟨[(17, .dat .bool)], []⟩ [] (.two 10 (.nil) (.nil)) (.nil)
noncomputable def sp_internal_stringslite_HasPrefix : Spec := ⟨56, ⟨[(0, .dat .str), (1, .dat .str)], []⟩, [⟨[(0, .dat .bool)], []⟩], fun x => fn_internal_stringslite_HasPrefix x.1 x.2⟩
theorem internal_stringslite_HasPrefix_is : SpecOk Tryd.prog sp_internal_stringslite_HasPrefix := fn_is Tryd.func56 h_internal_stringslite_HasPrefix (by kernel_rfl) (by kernel_rfl)
noncomputable def ok_internal_stringslite_HasPrefix : OkSpec Tryd.prog := ⟨sp_internal_stringslite_HasPrefix, internal_stringslite_HasPrefix_is, Tryd.call56⟩

noncomputable def fn_strings_HasPrefix (xa : (List UInt8)) (xb : (List UInt8)) : Option Bool :=
 (fn_internal_stringslite_HasPrefix xa xb).bind fun t10 => some (t10)
noncomputable def h_strings_HasPrefix : Hn Tryd.prog := .cl ok_internal_stringslite_HasPrefix [] (.nil)
noncomputable def sp_strings_HasPrefix : Spec := ⟨35, ⟨[(0, .dat .str), (1, .dat .str)], []⟩, [⟨[(0, .dat .bool)], []⟩], fun x => fn_strings_HasPrefix x.1 x.2⟩
theorem strings_HasPrefix_is : SpecOk Tryd.prog sp_strings_HasPrefix := fn_is Tryd.func35 h_strings_HasPrefix (by kernel_rfl) (by kernel_rfl)
noncomputable def ok_strings_HasPrefix : OkSpec Tryd.prog := ⟨sp_strings_HasPrefix, strings_HasPrefix_is, Tryd.call35⟩

noncomputable def fn_text_many (xa : (List UInt8)) : Option (Int × Int) :=
 (cond (decide (xa = ([98, 111, 117, 110, 100, 115] : List UInt8))) (some (decide (xa = ([98, 111, 117, 110, 100, 115] : List UInt8)))) (some (decide (xa = ([110, 101, 101, 100, 115] : List UInt8)))) : Option Bool).bind fun t36 => cond (t36) (some ((1, 9223372036854775807))) ((cond (decide (xa = ([98, 108, 111, 99, 107] : List UInt8))) (some (decide (xa = ([98, 108, 111, 99, 107] : List UInt8)))) (cond (decide (xa = ([110, 111, 112] : List UInt8))) (some (decide (xa = ([110, 111, 112] : List UInt8)))) (some (decide (xa = ([114, 101, 116, 117, 114, 110] : List UInt8))))) : Option Bool).bind fun t41 => cond (t41) (some ((1, 1))) ((cond (decide (xa = ([108, 111, 99, 97, 108] : List UInt8))) (some (decide (xa = ([108, 111, 99, 97, 108] : List UInt8)))) (cond (decide (xa = ([103, 105, 118, 101, 115] : List UInt8))) (some (decide (xa = ([103, 105, 118, 101, 115] : List UInt8)))) (cond (decide (xa = ([97, 114, 103] : List UInt8))) (some (decide (xa = ([97, 114, 103] : List UInt8)))) (cond (decide (xa = ([117, 115, 101] : List UInt8))) (some (decide (xa = ([117, 115, 101] : List UInt8)))) (cond (decide (xa = ([100, 101, 97, 100] : List UInt8))) (some (decide (xa = ([100, 101, 97, 100] : List UInt8)))) (some (decide (xa = ([103, 111, 116, 111] : List UInt8)))))))) : Option Bool).bind fun t50 => cond (t50) (some ((2, 2))) ((cond (decide (xa = ([114, 101, 103, 105, 111, 110, 115] : List UInt8))) (some (decide (xa = ([114, 101, 103, 105, 111, 110, 115] : List UInt8)))) (cond (decide (xa = ([115, 105, 103] : List UInt8))) (some (decide (xa = ([115, 105, 103] : List UInt8)))) (cond (decide (xa = ([97, 115, 115, 105, 103, 110] : List UInt8))) (some (decide (xa = ([97, 115, 115, 105, 103, 110] : List UInt8)))) (some (decide (xa = ([115, 119, 105, 116, 99, 104] : List UInt8)))))) : Option Bool).bind fun t60 => cond (t60) (some ((3, 3))) (cond (decide (xa = ([98, 111, 114, 114, 111, 119] : List UInt8))) (some ((4, 5))) (cond (decide (xa = ([114, 101, 98, 111, 114, 114, 111, 119] : List UInt8))) (some ((4, 5))) (some ((6, 6))))))))
noncomputable def h_text_many : Hn Tryd.prog := .pl (.pl (.pl (.sq [] ⟨[(5, .dat .bool)], []⟩ [] (.tw 5 (.nil) (.nil)) (.tw 5 (.nil) (.sq [] ⟨[(8, .dat .bool)], []⟩ [] (.tw 8 (.nil) (.tw 8 (.nil) (.nil))) (.tw 8 (.nil) (.sq [] ⟨[(12, .dat .bool)], []⟩ [] (.tw 12 (.nil) (.tw 12 (.nil) (.tw 12 (.nil) (.tw 12 (.nil) (.tw 12 (.nil) (.nil)))))) (.tw 12 (.nil) (.sq [] ⟨[(19, .dat .bool)], []⟩ [] (.tw 19 (.nil) (.tw 19 (.nil) (.tw 19 (.nil) (.nil)))) (.tw 19 (.nil) (.two 24 (.nil) (.tw 24 (.nil) (.nil)))))))))))))
noncomputable def sp_text_many : Spec := ⟨57, ⟨[(0, .dat .str)], []⟩, [⟨[(0, .tup [.dat (.int .i64), .dat (.int .i64)])], []⟩], fun x => fn_text_many x⟩
theorem text_many_is : SpecOk Tryd.prog sp_text_many := fn_is Tryd.func57 h_text_many (by kernel_rfl) (by kernel_rfl)
noncomputable def ok_text_many : OkSpec Tryd.prog := ⟨sp_text_many, text_many_is, Tryd.call57⟩
noncomputable def fn_slices_Index_string_string_l1 (xa : (List (List UInt8))) (xb : (List UInt8)) : Int → Option (Int ⊕ (Unit ⊕ Int)) := fun (i125 : Int) => cond (decide (i125 < (((xa.length : Nat) : Int)))) ((getI xa i125).bind fun x140 => cond (decide (xb = x140)) (some (.inr ((.inr (i125))))) (some (.inl (IntKind.wrap .i64 (i125 + 1))))) (some (.inr ((.inl ()))))
noncomputable def fn_slices_Index_string_string (xa : (List (List UInt8))) (xb : (List UInt8)) : Option Int :=
 (loop (fn_slices_Index_string_string_l1 xa xb) 0 : Option (Unit ⊕ Int)).bind fun o => match o with | .inr r => some r | .inl () => some ((-1))
noncomputable def h_slices_Index_string_string : Hn Tryd.prog := .jx [] ⟨[], []⟩ [] (.lp ⟨[(8, .dat (.int .i64))], []⟩ (.tw 9 (.tw 16 (.nil) (.nil)) (.nil))) (.nil)
noncomputable def sp_slices_Index_string_string : Spec := ⟨90, ⟨[(0, .dat (.sl .str)), (1, .dat .str)], []⟩, [⟨[(0, .dat (.int .i64))], []⟩], fun x => fn_slices_Index_string_string x.1 x.2⟩
theorem slices_Index_string_string_is : SpecOk Tryd.prog sp_slices_Index_string_string := fn_is Tryd.func90 h_slices_Index_string_string (by kernel_rfl) (by kernel_rfl)
noncomputable def ok_slices_Index_string_string : OkSpec Tryd.prog := ⟨sp_slices_Index_string_string, slices_Index_string_string_is, Tryd.call90⟩

noncomputable def fn_slices_Contains_string_string (xa : (List (List UInt8))) (xb : (List UInt8)) : Option Bool :=
 (fn_slices_Index_string_string xa xb).bind fun i10 => some (decide (0 ≤ i10))
noncomputable def h_slices_Contains_string_string : Hn Tryd.prog := .cl ok_slices_Index_string_string [] (.nil)
noncomputable def sp_slices_Contains_string_string : Spec := ⟨76, ⟨[(0, .dat (.sl .str)), (1, .dat .str)], []⟩, [⟨[(0, .dat .bool)], []⟩], fun x => fn_slices_Contains_string_string x.1 x.2⟩
theorem slices_Contains_string_string_is : SpecOk Tryd.prog sp_slices_Contains_string_string := fn_is Tryd.func76 h_slices_Contains_string_string (by kernel_rfl) (by kernel_rfl)
noncomputable def ok_slices_Contains_string_string : OkSpec Tryd.prog := ⟨sp_slices_Contains_string_string, slices_Contains_string_string_is, Tryd.call76⟩

noncomputable def fn_text_parser_mayStand_p0s_iirnrododi (xb : (List UInt8)) (qa0 : Int) (qa1 : Int) (qa2 : (List (Int × Int))) (qa4 : (List (Int × Bool))) (qa5 : (List (Int × (List (Int × Int)) × (List (List (Int × Bool))) × (List (Int × Bool))))) (qa6 : (List ((List (Int × Int × Int × Int × Bool)) × (Int × Int × Int × (List Int) × (List Int) × (List Int))))) (qa7 : Int) : Option ((Bool × (List (Int × Int)) × (List (Int × Bool)) × (List (Int × (List (Int × Int)) × (List (List (Int × Bool))) × (List (Int × Bool)))) × (List ((List (Int × Int × Int × Int × Bool)) × (Int × Int × Int × (List Int) × (List Int) × (List Int)))))) :=
 cond (decide (qa7 = 0)) ((fn_slices_Contains_string_string (([([114, 101, 103, 105, 111, 110, 115] : List UInt8)] : List (List UInt8))) xb).bind fun t249 => some ((t249, qa2, qa4, qa5, qa6))) (cond (decide (qa7 = 1)) ((fn_slices_Contains_string_string (([([98, 111, 117, 110, 100, 115] : List UInt8)] : List (List UInt8))) xb).bind fun t274 => some ((t274, qa2, qa4, qa5, qa6))) (cond (decide (qa7 = 2)) ((fn_slices_Contains_string_string (([([108, 111, 99, 97, 108] : List UInt8), ([103, 105, 118, 101, 115] : List UInt8)] : List (List UInt8))) xb).bind fun t299 => some ((t299, qa2, qa4, qa5, qa6))) (cond (decide (qa7 = 3)) ((fn_slices_Contains_string_string (([([115, 105, 103] : List UInt8), ([98, 108, 111, 99, 107] : List UInt8)] : List (List UInt8))) xb).bind fun t324 => some ((t324, qa2, qa4, qa5, qa6))) (cond (decide (qa7 = 4)) ((fn_slices_Contains_string_string (([([110, 101, 101, 100, 115] : List UInt8)] : List (List UInt8))) xb).bind fun t349 => some ((t349, qa2, qa4, qa5, qa6))) (cond (decide (qa7 = 5)) ((fn_slices_Contains_string_string (([([97, 114, 103] : List UInt8), ([115, 105, 103] : List UInt8), ([98, 108, 111, 99, 107] : List UInt8)] : List (List UInt8))) xb).bind fun t374 => some ((t374, qa2, qa4, qa5, qa6))) (cond (decide (qa7 = 6)) ((fn_slices_Contains_string_string (([([110, 111, 112] : List UInt8), ([97, 115, 115, 105, 103, 110] : List UInt8), ([98, 111, 114, 114, 111, 119] : List UInt8), ([114, 101, 98, 111, 114, 114, 111, 119] : List UInt8), ([117, 115, 101] : List UInt8), ([100, 101, 97, 100] : List UInt8), ([103, 111, 116, 111] : List UInt8), ([115, 119, 105, 116, 99, 104] : List UInt8), ([114, 101, 116, 117, 114, 110] : List UInt8), ([99, 97, 108, 108] : List UInt8)] : List (List UInt8))) xb).bind fun t399 => some ((t399, qa2, qa4, qa5, qa6))) (cond (decide (qa7 = 7)) ((fn_slices_Contains_string_string (([([98, 108, 111, 99, 107] : List UInt8)] : List (List UInt8))) xb).bind fun t424 => some ((t424, qa2, qa4, qa5, qa6))) ((fn_slices_Contains_string_string ([]) xb).bind fun t436 => some ((t436, qa2, qa4, qa5, qa6))))))))))
noncomputable def h_text_parser_mayStand_p0s_iirnrododi : Hn Tryd.prog := .tw 10 (.cl ok_slices_Contains_string_string [13] (.nil)) (.tw 13 (.cl ok_slices_Contains_string_string [13] (.nil)) (.tw 16 (.cl ok_slices_Contains_string_string [13] (.nil)) (.tw 19 (.cl ok_slices_Contains_string_string [13] (.nil)) (.tw 22 (.cl ok_slices_Contains_string_string [13] (.nil)) (.tw 25 (.cl ok_slices_Contains_string_string [13] (.nil)) (.tw 28 (.cl ok_slices_Contains_string_string [13] (.nil)) (.tw 31 (.cl ok_slices_Contains_string_string [13] (.nil)) (.cl ok_slices_Contains_string_string [] (.nil)))))))))
noncomputable def sp_text_parser_mayStand_p0s_iirnrododi : Spec := ⟨58, ⟨[(0, .ptr 0 0), (1, .dat .str)], [⟨none, 65, [.is 1 (.dat (.int .i64)), .is 2 (.dat (.int .i64)), .own 117 (.cons (.int .i64) (.one (.int .i64))), .nils, .own 51 (.cons (.int .i64) (.one .bool)), .od (.row 84 (.cons (.dat (.int .i64)) (.cons (.dat (.sl (.cons (.int .i64) (.one (.int .i64))))) (.cons (.row 24 (.dat (.one (.sl (.cons (.int .i64) (.one .bool)))))) (.one (.dat (.one (.sl (.cons (.int .i64) (.one .bool)))))))))), .od (.row 79 (.cons (.row 26 (.dat (.cons (.int .i64) (.cons (.int .i64) (.cons (.int .i64) (.cons (.int .i64) (.one .bool))))))) (.one (.dat (.cons (.int .i64) (.cons (.int .i64) (.cons (.int .i64) (.cons (.sl (.int .i64)) (.cons (.sl (.int .i64)) (.one (.sl (.int .i64)))))))))))), .is 3 (.dat (.int .i64))], false, false, none, false⟩, ⟨none, 0, [], false, true, none, false⟩, ⟨none, 0, [], false, true, none, false⟩, ⟨none, 0, [], false, true, none, false⟩]⟩, [⟨[(0, .dat .bool)], [⟨(some 0), 65, [.is 1 (.any), .is 2 (.any), .own 117 (.cons (.int .i64) (.one (.int .i64))), .nils, .own 51 (.cons (.int .i64) (.one .bool)), .od (.row 84 (.cons (.dat (.int .i64)) (.cons (.dat (.sl (.cons (.int .i64) (.one (.int .i64))))) (.cons (.row 24 (.dat (.one (.sl (.cons (.int .i64) (.one .bool)))))) (.one (.dat (.one (.sl (.cons (.int .i64) (.one .bool)))))))))), .od (.row 79 (.cons (.row 26 (.dat (.cons (.int .i64) (.cons (.int .i64) (.cons (.int .i64) (.cons (.int .i64) (.one .bool))))))) (.one (.dat (.cons (.int .i64) (.cons (.int .i64) (.cons (.int .i64) (.cons (.sl (.int .i64)) (.cons (.sl (.int .i64)) (.one (.sl (.int .i64)))))))))))), .is 3 (.any)], false, false, none, false⟩, ⟨(some 1), 0, [], false, true, none, false⟩, ⟨(some 2), 0, [], false, true, none, false⟩, ⟨(some 3), 0, [], false, true, none, false⟩]⟩], fun x => fn_text_parser_mayStand_p0s_iirnrododi x.1 x.2.1 x.2.2.1 x.2.2.2.1 x.2.2.2.2.1 x.2.2.2.2.2.1 x.2.2.2.2.2.2.1 x.2.2.2.2.2.2.2⟩
theorem text_parser_mayStand_p0s_iirnrododi_is : SpecOk Tryd.prog sp_text_parser_mayStand_p0s_iirnrododi := fn_is Tryd.func58 h_text_parser_mayStand_p0s_iirnrododi (by kernel_rfl) (by kernel_rfl)
noncomputable def ok_text_parser_mayStand_p0s_iirnrododi : OkSpec Tryd.prog := ⟨sp_text_parser_mayStand_p0s_iirnrododi, text_parser_mayStand_p0s_iirnrododi_is, Tryd.call58⟩
noncomputable def fn_numeral_isNumber_l1 (xa : (List UInt8)) : Int → Option (Int ⊕ (Unit ⊕ Bool)) := fun (i275 : Int) => cond (decide (i275 < (((xa.length : Nat) : Int)))) ((getI xa i275).bind fun x299 => (cond (decide ((((x299.toNat : Nat) : Int)) < 48)) (some (true)) ((getI xa i275).bind fun x312 => some (decide (57 < (((x312.toNat : Nat) : Int)))))).bind fun t310 => cond (t310) (some (.inr ((.inr (false))))) (some (.inl (IntKind.wrap .i64 (i275 + 1))))) (some (.inr ((.inl ()))))
noncomputable def fn_numeral_isNumber (xa : (List UInt8)) : Option Bool :=
 (cond (decide (xa = ([] : List UInt8))) (some (true)) ((cond (decide (1 < (((xa.length : Nat) : Int)))) ((getI xa 0).bind fun x184 => some (decide ((((x184.toNat : Nat) : Int)) = 48))) (some (false))).bind fun t182 => some (t182))).bind fun t174 => cond (t174) (some (false)) ((loop (fn_numeral_isNumber_l1 xa) 0 : Option (Unit ⊕ Bool)).bind fun o => match o with | .inr r => some r | .inl () => some (true))
noncomputable def h_numeral_isNumber : Hn Tryd.prog := .gj 8 ⟨[(15, .dat .bool)], []⟩ [] (.two 6 (.nil) (.wt 10 (.gj 3 ⟨[(14, .dat .bool)], []⟩ [] (.two 10 (.nil) (.nil)) (.nil)))) (.tw 15 (.nil) (.jx [] ⟨[], []⟩ [] (.lp ⟨[(3, .dat (.int .i64))], []⟩ (.tw 19 (.gj 4 ⟨[(31, .dat .bool)], []⟩ [] (.two 26 (.nil) (.nil)) (.tw 31 (.nil) (.nil))) (.nil))) (.nil)))
noncomputable def sp_numeral_isNumber : Spec := ⟨47, ⟨[(0, .dat .str)], []⟩, [⟨[(0, .dat .bool)], []⟩], fun x => fn_numeral_isNumber x⟩
theorem numeral_isNumber_is : SpecOk Tryd.prog sp_numeral_isNumber := fn_is Tryd.func47 h_numeral_isNumber (by kernel_rfl) (by kernel_rfl)
noncomputable def ok_numeral_isNumber : OkSpec Tryd.prog := ⟨sp_numeral_isNumber, numeral_isNumber_is, Tryd.call47⟩
noncomputable def fn_numeral_Parse_l1 (xa : (List UInt8)) (xb : Int) : (Int × Int) → Option ((Int × Int) ⊕ (Int ⊕ (Int × Int))) := fun ((i143, i144) : (Int × Int)) => cond (decide (i144 < (((xa.length : Nat) : Int)))) ((getI xa i144).bind fun x159 => cond ((decide (xb < (IntKind.wrap .i64 (IntKind.wrap .u8 ((((x159.toNat : Nat) : Int)) - 48))))) || (decide ((IntKind.wrap .i64 (Int.tdiv (IntKind.wrap .i64 (xb - (IntKind.wrap .i64 (IntKind.wrap .u8 ((((x159.toNat : Nat) : Int)) - 48))))) 10)) < i143))) (some (.inr ((.inr ((0, 5)))))) (some (.inl ((IntKind.wrap .i64 ((IntKind.wrap .i64 (i143 * 10)) + (IntKind.wrap .i64 (IntKind.wrap .u8 ((((x159.toNat : Nat) : Int)) - 48)))), IntKind.wrap .i64 (i144 + 1)))))) (some (.inr (.inl i143)))
noncomputable def fn_numeral_Parse (xa : (List UInt8)) (xb : Int) : Option (Int × Int) :=
 (fn_numeral_isNumber xa).bind fun t88 => cond (!t88) (some ((0, 3))) ((loop (fn_numeral_Parse_l1 xa xb) (0, 0) : Option (Int ⊕ (Int × Int))).bind fun o => match o with | .inr r => some r | .inl i130 => some ((i130, 0)))
noncomputable def h_numeral_Parse : Hn Tryd.prog := .cl ok_numeral_isNumber [] (.tw 11 (.nil) (.jx [] ⟨[(6, .dat (.int .i64))], []⟩ [] (.lp ⟨[(6, .dat (.int .i64)), (7, .dat (.int .i64))], []⟩ (.tw 15 (.gp 6 (.tw 33 (.nil) (.nil))) (.nil))) (.nil)))
noncomputable def sp_numeral_Parse : Spec := ⟨21, ⟨[(0, .dat .str), (1, .dat (.int .i64))], []⟩, [⟨[(0, .tup [.dat (.int .i64), .dat (.int .i64)])], []⟩], fun x => fn_numeral_Parse x.1 x.2⟩
theorem numeral_Parse_is : SpecOk Tryd.prog sp_numeral_Parse := fn_is Tryd.func21 h_numeral_Parse (by kernel_rfl) (by kernel_rfl)
noncomputable def ok_numeral_Parse : OkSpec Tryd.prog := ⟨sp_numeral_Parse, numeral_Parse_is, Tryd.call21⟩
noncomputable def fn_numeral_ParseList_l1 (xb : Int) (l338 : List (List UInt8)) : ((List Int) × Int) → Option (((List Int) × Int) ⊕ ((List Int) ⊕ ((List Int) × Int))) := fun ((l477, i482) : ((List Int) × Int)) => cond (decide (i482 < (((l338.length : Nat) : Int)))) ((getI l338 i482).bind fun x517 => (fn_numeral_Parse x517 xb).bind fun (i526, i527) => cond (!decide (i527 = 0)) (some (.inr ((.inr (([], i527)))))) ((app l477 ([i526] : List Int)).bind fun z536 => some (.inl ((z536, IntKind.wrap .i64 (i482 + 1)))))) (some (.inr (.inl l477)))
noncomputable def fn_numeral_ParseList (xa : (List UInt8)) (xb : Int) : Option (((List Int) × Int)) :=
 cond (decide (xa = ([] : List UInt8))) (some (([], 0))) ((splF xa ([44] : List UInt8)).bind fun l338 => (loop (fn_numeral_ParseList_l1 xb l338) ([], 0) : Option ((List Int) ⊕ ((List Int) × Int))).bind fun o => match o with | .inr r => some r | .inl l439 => some ((l439, 0)))
noncomputable def h_numeral_ParseList : Hn Tryd.prog := .tw 12 (.nil) (.cl ok_Split [] (.jx [] ⟨[(6, .own 3 (.int .i64))], []⟩ [] (.lp ⟨[(6, .own 3 (.int .i64)), (16, .dat (.int .i64))], []⟩ (.tw 17 (.cl ok_numeral_Parse [] (.tw 27 (.nil) (.nil))) (.nil))) (.nil)))
noncomputable def sp_numeral_ParseList : Spec := ⟨105, ⟨[(0, .dat .str), (1, .dat (.int .i64))], []⟩, [⟨[(0, .tup [.own 3 (.int .i64), .dat (.int .i64)])], []⟩], fun x => fn_numeral_ParseList x.1 x.2⟩
theorem numeral_ParseList_is : SpecOk Tryd.prog sp_numeral_ParseList := fn_is Tryd.func105 h_numeral_ParseList (by kernel_rfl) (by kernel_rfl)
noncomputable def ok_numeral_ParseList : OkSpec Tryd.prog := ⟨sp_numeral_ParseList, numeral_ParseList_is, Tryd.call105⟩

noncomputable def fn_text_reader_list_1 (xa : (List UInt8)) : Option (((List Int) × Int)) :=
 cond (decide (xa = ([45] : List UInt8))) (some (([], 0))) ((fn_numeral_ParseList xa 1048576).bind fun (l23, i24) => some ((l23, i24)))
noncomputable def h_text_reader_list_1 : Hn Tryd.prog := .tw 5 (.nil) (.cl ok_numeral_ParseList [] (.nil))
noncomputable def sp_text_reader_list_1 : Spec := ⟨104, ⟨[(0, .dat .str)], []⟩, [⟨[(0, .tup [.own 3 (.int .i64), .dat (.int .i64)])], []⟩], fun x => fn_text_reader_list_1 x⟩
theorem text_reader_list_1_is : SpecOk Tryd.prog sp_text_reader_list_1 := fn_is Tryd.func104 h_text_reader_list_1 (by kernel_rfl) (by kernel_rfl)
noncomputable def ok_text_reader_list_1 : OkSpec Tryd.prog := ⟨sp_text_reader_list_1, text_reader_list_1_is, Tryd.call104⟩

noncomputable def fn_text_take_int_p0_text_reader_list_1__ki (qa0 : (List (List UInt8))) (qa1 : Int) : Option (((List Int) × (List (List UInt8)) × Int)) :=
 cond (!decide (qa1 = 0)) (some (([], qa0, qa1))) ((getI qa0 0).bind fun x40 => (fn_text_reader_list_1 x40).bind fun (l51, i52) => (subL qa0 1 (((qa0.length : Nat) : Int))).bind fun y60 => some ((l51, y60, i52)))
noncomputable def h_text_take_int_p0_text_reader_list_1__ki : Hn Tryd.prog := .tw 10 (.nil) (.cl ok_text_reader_list_1 [] (.nil))
noncomputable def sp_text_take_int_p0_text_reader_list_1__ki : Spec := ⟨103, ⟨[(0, .ptr 0 0), (1, .fn 104 [])], [⟨none, 105, [.dat (.sl .str), .dat (.int .i64)], false, false, none, false⟩]⟩, [⟨[(0, .own 3 (.int .i64))], [⟨(some 0), 105, [.dat (.sl .str), .dat (.int .i64)], false, false, none, false⟩]⟩], fun x => fn_text_take_int_p0_text_reader_list_1__ki x.1 x.2⟩
theorem text_take_int_p0_text_reader_list_1__ki_is : SpecOk Tryd.prog sp_text_take_int_p0_text_reader_list_1__ki := fn_is Tryd.func103 h_text_take_int_p0_text_reader_list_1__ki (by kernel_rfl) (by kernel_rfl)
noncomputable def ok_text_take_int_p0_text_reader_list_1__ki : OkSpec Tryd.prog := ⟨sp_text_take_int_p0_text_reader_list_1__ki, text_take_int_p0_text_reader_list_1__ki_is, Tryd.call103⟩

noncomputable def fn_text_reader_list_p0_ki (qa0 : (List (List UInt8))) (qa1 : Int) : Option (((List Int) × (List (List UInt8)) × Int)) :=
 (fn_text_take_int_p0_text_reader_list_1__ki qa0 qa1).bind fun (l28, l29, i30) => some ((l28, l29, i30))
noncomputable def h_text_reader_list_p0_ki : Hn Tryd.prog := .cl ok_text_take_int_p0_text_reader_list_1__ki [] (.nil)
noncomputable def sp_text_reader_list_p0_ki : Spec := ⟨91, ⟨[(0, .ptr 0 0)], [⟨none, 105, [.dat (.sl .str), .dat (.int .i64)], false, false, none, false⟩]⟩, [⟨[(0, .own 3 (.int .i64))], [⟨(some 0), 105, [.dat (.sl .str), .dat (.int .i64)], false, false, none, false⟩]⟩], fun x => fn_text_reader_list_p0_ki x.1 x.2⟩
theorem text_reader_list_p0_ki_is : SpecOk Tryd.prog sp_text_reader_list_p0_ki := fn_is Tryd.func91 h_text_reader_list_p0_ki (by kernel_rfl) (by kernel_rfl)
noncomputable def ok_text_reader_list_p0_ki : OkSpec Tryd.prog := ⟨sp_text_reader_list_p0_ki, text_reader_list_p0_ki_is, Tryd.call91⟩

noncomputable def fn_text_reader_number_1 (xa : (List UInt8)) : Option (Int × Int) :=
 (fn_numeral_Parse xa 1048576).bind fun (i13, i14) => some ((i13, i14))
noncomputable def h_text_reader_number_1 : Hn Tryd.prog := .cl ok_numeral_Parse [] (.nil)
noncomputable def sp_text_reader_number_1 : Spec := ⟨93, ⟨[(0, .dat .str)], []⟩, [⟨[(0, .tup [.dat (.int .i64), .dat (.int .i64)])], []⟩], fun x => fn_text_reader_number_1 x⟩
theorem text_reader_number_1_is : SpecOk Tryd.prog sp_text_reader_number_1 := fn_is Tryd.func93 h_text_reader_number_1 (by kernel_rfl) (by kernel_rfl)
noncomputable def ok_text_reader_number_1 : OkSpec Tryd.prog := ⟨sp_text_reader_number_1, text_reader_number_1_is, Tryd.call93⟩

noncomputable def fn_text_take_int_p0_text_reader_number_1__ki (qa0 : (List (List UInt8))) (qa1 : Int) : Option ((Int × (List (List UInt8)) × Int)) :=
 cond (!decide (qa1 = 0)) (some ((0, qa0, qa1))) ((getI qa0 0).bind fun x31 => (fn_text_reader_number_1 x31).bind fun (i42, i43) => (subL qa0 1 (((qa0.length : Nat) : Int))).bind fun y47 => some ((i42, y47, i43)))
noncomputable def h_text_take_int_p0_text_reader_number_1__ki : Hn Tryd.prog := .tw 10 (.nil) (.cl ok_text_reader_number_1 [] (.nil))
noncomputable def sp_text_take_int_p0_text_reader_number_1__ki : Spec := ⟨92, ⟨[(0, .ptr 0 0), (1, .fn 93 [])], [⟨none, 105, [.dat (.sl .str), .dat (.int .i64)], false, false, none, false⟩]⟩, [⟨[(0, .dat (.int .i64))], [⟨(some 0), 105, [.dat (.sl .str), .dat (.int .i64)], false, false, none, false⟩]⟩], fun x => fn_text_take_int_p0_text_reader_number_1__ki x.1 x.2⟩
theorem text_take_int_p0_text_reader_number_1__ki_is : SpecOk Tryd.prog sp_text_take_int_p0_text_reader_number_1__ki := fn_is Tryd.func92 h_text_take_int_p0_text_reader_number_1__ki (by kernel_rfl) (by kernel_rfl)
noncomputable def ok_text_take_int_p0_text_reader_number_1__ki : OkSpec Tryd.prog := ⟨sp_text_take_int_p0_text_reader_number_1__ki, text_take_int_p0_text_reader_number_1__ki_is, Tryd.call92⟩

noncomputable def fn_text_reader_number_p0_ki (qa0 : (List (List UInt8))) (qa1 : Int) : Option ((Int × (List (List UInt8)) × Int)) :=
 (fn_text_take_int_p0_text_reader_number_1__ki qa0 qa1).bind fun (i21, l22, i23) => some ((i21, l22, i23))
noncomputable def h_text_reader_number_p0_ki : Hn Tryd.prog := .cl ok_text_take_int_p0_text_reader_number_1__ki [] (.nil)
noncomputable def sp_text_reader_number_p0_ki : Spec := ⟨79, ⟨[(0, .ptr 0 0)], [⟨none, 105, [.dat (.sl .str), .dat (.int .i64)], false, false, none, false⟩]⟩, [⟨[(0, .dat (.int .i64))], [⟨(some 0), 105, [.dat (.sl .str), .dat (.int .i64)], false, false, none, false⟩]⟩], fun x => fn_text_reader_number_p0_ki x.1 x.2⟩
theorem text_reader_number_p0_ki_is : SpecOk Tryd.prog sp_text_reader_number_p0_ki := fn_is Tryd.func79 h_text_reader_number_p0_ki (by kernel_rfl) (by kernel_rfl)
noncomputable def ok_text_reader_number_p0_ki : OkSpec Tryd.prog := ⟨sp_text_reader_number_p0_ki, text_reader_number_p0_ki_is, Tryd.call79⟩

noncomputable def fn_text_terminator_sp0_ki (xa : (List UInt8)) (qa0 : (List (List UInt8))) (qa1 : Int) : Option ((Int × Int × Int × (List Int) × (List Int) × (List Int) × Bool × (List (List UInt8)) × Int)) :=
 cond (decide (xa = ([103, 111, 116, 111] : List UInt8))) ((fn_text_reader_list_p0_ki qa0 qa1).bind fun (l149, l150, i151) => some ((1, 0, 0, l149, [], [], true, l150, i151))) (cond (decide (xa = ([115, 119, 105, 116, 99, 104] : List UInt8))) ((fn_text_reader_list_p0_ki qa0 qa1).bind fun (l167, l168, i169) => (fn_text_reader_list_p0_ki l168 i169).bind fun (l182, l183, i184) => some ((2, 0, 0, l167, l182, [], true, l183, i184))) (cond (decide (xa = ([114, 101, 116, 117, 114, 110] : List UInt8))) (some ((3, 0, 0, [], [], [], true, qa0, qa1))) (cond (decide (xa = ([99, 97, 108, 108] : List UInt8))) ((fn_text_reader_number_p0_ki qa0 qa1).bind fun (i203, l204, i205) => (fn_text_reader_number_p0_ki l204 i205).bind fun (i214, l215, i216) => (fn_text_reader_list_p0_ki l215 i216).bind fun (l225, l226, i227) => (fn_text_reader_list_p0_ki l226 i227).bind fun (l240, l241, i242) => (fn_text_reader_list_p0_ki l241 i242).bind fun (l255, l256, i257) => some ((4, i203, i214, l225, l255, l240, true, l256, i257))) (some ((0, 0, 0, [], [], [], false, qa0, qa1))))))
noncomputable def h_text_terminator_sp0_ki : Hn Tryd.prog := .tw 9 (.cl ok_text_reader_list_p0_ki [] (.nil)) (.tw 15 (.cl ok_text_reader_list_p0_ki [] (.cl ok_text_reader_list_p0_ki [] (.nil))) (.tw 24 (.nil) (.tw 27 (.cl ok_text_reader_number_p0_ki [] (.cl ok_text_reader_number_p0_ki [] (.cl ok_text_reader_list_p0_ki [] (.cl ok_text_reader_list_p0_ki [] (.cl ok_text_reader_list_p0_ki [] (.nil)))))) (.nil))))
noncomputable def sp_text_terminator_sp0_ki : Spec := ⟨77, ⟨[(0, .dat .str), (1, .ptr 0 0)], [⟨none, 105, [.dat (.sl .str), .dat (.int .i64)], false, false, none, false⟩]⟩, [⟨[(0, .tup [.agg [.dat (.int .i64), .dat (.int .i64), .dat (.int .i64), .own 3 (.int .i64), .own 3 (.int .i64), .own 3 (.int .i64)], .dat .bool])], [⟨(some 0), 105, [.dat (.sl .str), .dat (.int .i64)], false, false, none, false⟩]⟩], fun x => fn_text_terminator_sp0_ki x.1 x.2.1 x.2.2⟩
theorem text_terminator_sp0_ki_is : SpecOk Tryd.prog sp_text_terminator_sp0_ki := fn_is Tryd.func77 h_text_terminator_sp0_ki (by kernel_rfl) (by kernel_rfl)
noncomputable def ok_text_terminator_sp0_ki : OkSpec Tryd.prog := ⟨sp_text_terminator_sp0_ki, text_terminator_sp0_ki_is, Tryd.call77⟩

noncomputable def fn_text_statement_kp0_ki (xa : (List (List UInt8))) (qa0 : (List (List UInt8))) (qa1 : Int) : Option ((Int × Int × Int × Int × Bool × (List (List UInt8)) × Int)) :=
 (getI xa 0).bind fun x174 => cond (decide (x174 = ([97, 115, 115, 105, 103, 110] : List UInt8))) ((fn_text_reader_number_p0_ki qa0 qa1).bind fun (i186, l187, i188) => (fn_text_reader_number_p0_ki l187 i188).bind fun (i197, l198, i199) => some ((1, i186, i197, 0, false, l198, i199))) ((cond (decide (x174 = ([98, 111, 114, 114, 111, 119] : List UInt8))) (some (decide (x174 = ([98, 111, 114, 114, 111, 119] : List UInt8)))) (some (decide (x174 = ([114, 101, 98, 111, 114, 114, 111, 119] : List UInt8)))) : Option Bool).bind fun t207 => cond (t207) (((getI xa 0).bind fun x221 => cond (decide (x221 = ([114, 101, 98, 111, 114, 114, 111, 119] : List UInt8))) (some (3)) (some (2)) : Option Int).bind fun i220 => ((cond (decide ((((xa.length : Nat) : Int)) = 5)) ((getI xa 4).bind fun x266 => some (!decide (x266 = ([109, 117, 116] : List UInt8)))) (some (false))).bind fun t264 => cond (t264) (some (3)) (some (qa1)) : Option Int).bind fun i253 => (fn_text_reader_number_p0_ki qa0 i253).bind fun (i278, l279, i280) => (fn_text_reader_number_p0_ki l279 i280).bind fun (i289, l290, i291) => (fn_text_reader_number_p0_ki l290 i291).bind fun (i300, l301, i302) => some ((i220, i278, i289, i300, decide ((((xa.length : Nat) : Int)) = 5), l301, i302))) (cond (decide (x174 = ([117, 115, 101] : List UInt8))) ((fn_text_reader_number_p0_ki qa0 qa1).bind fun (i312, l313, i314) => some ((4, 0, i312, 0, false, l313, i314))) (cond (decide (x174 = ([100, 101, 97, 100] : List UInt8))) ((fn_text_reader_number_p0_ki qa0 qa1).bind fun (i324, l325, i326) => some ((5, i324, 0, 0, false, l325, i326))) (some ((0, 0, 0, 0, false, qa0, qa1))))))
noncomputable def h_text_statement_kp0_ki : Hn Tryd.prog := .tw 9 (.cl ok_text_reader_number_p0_ki [] (.cl ok_text_reader_number_p0_ki [] (.nil))) (.sq [] ⟨[(18, .dat .bool)], []⟩ [] (.tw 18 (.nil) (.nil)) (.tw 18 (.pl (.sq [] ⟨[], [⟨(some 4), 26, [.dat (.int .i64), .lit (.int .i64 0), .lit (.int .i64 0), .lit (.int .i64 0), .lit (.bool false)], false, false, none, false⟩]⟩ [4] (.tw 25 (.nil) (.nil)) (.pl (.sq [(0, 0)] ⟨[], [⟨(some 0), 105, [.is 1 (.any), .dat (.int .i64)], false, false, none, false⟩, ⟨(some 9), 0, [], false, true, none, false⟩]⟩ [0] (.gj 4 ⟨[(38, .dat .bool)], []⟩ [] (.two 33 (.nil) (.nil)) (.tw 38 (.nil) (.nil))) (.cl ok_text_reader_number_p0_ki [] (.cl ok_text_reader_number_p0_ki [] (.cl ok_text_reader_number_p0_ki [] (.nil)))))))) (.tw 51 (.cl ok_text_reader_number_p0_ki [] (.nil)) (.tw 57 (.cl ok_text_reader_number_p0_ki [] (.nil)) (.nil)))))
noncomputable def sp_text_statement_kp0_ki : Spec := ⟨78, ⟨[(0, .dat (.sl .str)), (1, .ptr 0 0)], [⟨none, 105, [.dat (.sl .str), .dat (.int .i64)], false, false, none, false⟩]⟩, [⟨[(0, .agg [.dat (.int .i64), .dat (.int .i64), .dat (.int .i64), .dat (.int .i64), .dat .bool])], [⟨(some 0), 105, [.dat (.sl .str), .dat (.int .i64)], false, false, none, false⟩]⟩], fun x => fn_text_statement_kp0_ki x.1 x.2.1 x.2.2⟩
theorem text_statement_kp0_ki_is : SpecOk Tryd.prog sp_text_statement_kp0_ki := fn_is Tryd.func78 h_text_statement_kp0_ki (by kernel_rfl) (by kernel_rfl)
noncomputable def ok_text_statement_kp0_ki : OkSpec Tryd.prog := ⟨sp_text_statement_kp0_ki, text_statement_kp0_ki_is, Tryd.call78⟩

noncomputable def fn_text_parser_code_p0kp1_iirnrododi_ki (xb : (List (List UInt8))) (qa0 : Int) (qa1 : Int) (qa2 : (List (Int × Int))) (qa4 : (List (Int × Bool))) (qa5 : (List (Int × (List (Int × Int)) × (List (List (Int × Bool))) × (List (Int × Bool))))) (qa6 : (List ((List (Int × Int × Int × Int × Bool)) × (Int × Int × Int × (List Int) × (List Int) × (List Int))))) (qa7 : Int) (qb0 : (List (List UInt8))) (qb1 : Int) : Option (((List (Int × Int)) × (List (Int × Bool)) × (List (Int × (List (Int × Int)) × (List (List (Int × Bool))) × (List (Int × Bool)))) × (List ((List (Int × Int × Int × Int × Bool)) × (Int × Int × Int × (List Int) × (List Int) × (List Int)))) × Int × (List (List UInt8)) × Int)) :=
 (getI qa6 (IntKind.wrap .i64 ((((qa6.length : Nat) : Int)) - 1))).bind fun _ => (getI xb 0).bind fun x731 => (fn_text_terminator_sp0_ki x731 qb0 qb1).bind fun (i742, i743, i744, l745, l746, l747, t748, l749, i750) => cond (t748) ((getI qa6 (IntKind.wrap .i64 ((((qa6.length : Nat) : Int)) - 1))).bind fun x790 => (chkI (IntKind.wrap .i64 ((((qa6.length : Nat) : Int)) - 1)) (IntKind.wrap .i64 ((((qa6.length : Nat) : Int)) - 1))).bind fun _ => some ((qa2, qa4, qa5, qa6.set (IntKind.wrap .i64 ((((qa6.length : Nat) : Int)) - 1)).toNat ((x790.1, (i742, i743, i744, l745, l746, l747))), 7, l749, i750))) ((((getI qa6 (IntKind.wrap .i64 ((((qa6.length : Nat) : Int)) - 1))).bind fun x1089 => (chkI (IntKind.wrap .i64 ((((qa6.length : Nat) : Int)) - 1)) (IntKind.wrap .i64 ((((qa6.length : Nat) : Int)) - 1))).bind fun _ => (fn_text_statement_kp0_ki xb l749 i750).bind fun (i1101, i1102, i1103, i1104, t1105, l1106, i1107) => (app x1089.1 (([(i1101, i1102, i1103, i1104, t1105)] : List (Int × Int × Int × Int × Bool)))).bind fun z1117 => (chkI (IntKind.wrap .i64 ((((qa6.length : Nat) : Int)) - 1)) (IntKind.wrap .i64 ((((qa6.length : Nat) : Int)) - 1))).bind fun _ => some ((l1106, i1107, qa6.set (IntKind.wrap .i64 ((((qa6.length : Nat) : Int)) - 1)).toNat ((z1117, (x1089.2.1, x1089.2.2.1, x1089.2.2.2.1, x1089.2.2.2.2.1, x1089.2.2.2.2.2.1, x1089.2.2.2.2.2.2)))))).bind fun x1178 => ((fn_text_statement_kp0_ki xb l749 i750).bind fun (i1125, i1126, i1127, i1128, t1129, l1130, i1131) => ((getI qa6 (IntKind.wrap .i64 ((((qa6.length : Nat) : Int)) - 1))).bind fun x1138 => (chkI (IntKind.wrap .i64 ((((qa6.length : Nat) : Int)) - 1)) (IntKind.wrap .i64 ((((qa6.length : Nat) : Int)) - 1))).bind fun _ => (app x1138.1 (([(i1125, i1126, i1127, i1128, t1129)] : List (Int × Int × Int × Int × Bool)))).bind fun z1151 => (chkI (IntKind.wrap .i64 ((((qa6.length : Nat) : Int)) - 1)) (IntKind.wrap .i64 ((((qa6.length : Nat) : Int)) - 1))).bind fun _ => some ((l1130, i1131, qa6.set (IntKind.wrap .i64 ((((qa6.length : Nat) : Int)) - 1)).toNat ((z1151, (x1138.2.1, x1138.2.2.1, x1138.2.2.2.1, x1138.2.2.2.2.1, x1138.2.2.2.2.2.1, x1138.2.2.2.2.2.2)))))).bind fun x1176 => ((getI qa6 (IntKind.wrap .i64 ((((qa6.length : Nat) : Int)) - 1))).bind fun x1160 => (chkI (IntKind.wrap .i64 ((((qa6.length : Nat) : Int)) - 1)) (IntKind.wrap .i64 ((((qa6.length : Nat) : Int)) - 1))).bind fun _ => (app x1160.1 (([(i1125, i1126, i1127, i1128, t1129)] : List (Int × Int × Int × Int × Bool)))).bind fun z1170 => (chkI (IntKind.wrap .i64 ((((qa6.length : Nat) : Int)) - 1)) (IntKind.wrap .i64 ((((qa6.length : Nat) : Int)) - 1))).bind fun _ => some ((l1130, i1131, qa6.set (IntKind.wrap .i64 ((((qa6.length : Nat) : Int)) - 1)).toNat ((z1170, (x1160.2.1, x1160.2.2.1, x1160.2.2.2.1, x1160.2.2.2.2.1, x1160.2.2.2.2.2.1, x1160.2.2.2.2.2.2)))))).bind fun y1177 => agr x1176 y1177 (some x1176)).bind fun y1179 => agr x1178 y1179 (some x1178) : Option (((List (List UInt8)) × Int × (List ((List (Int × Int × Int × Int × Bool)) × (Int × Int × Int × (List Int) × (List Int) × (List Int))))))).bind fun (l992, i996, l997) => some ((qa2, qa4, qa5, l997, qa7, l992, i996)))
noncomputable def h_text_parser_code_p0kp1_iirnrododi_ki : Hn Tryd.prog := .mix [] [0, 1, 2, 3, 4, 5, 6, 7, 8, 9, 10, 11, 12, 13] [] [] (.cl ok_text_terminator_sp0_ki [] (.tw 30 (.wt 34 (.opn 10 1000020 (.per 15 16 (.per 17 18 (.per 19 20 (.cls 10 28 (.nil))))))) (.tr (.still [0, 1, 2, 3, 5, 6] (.alt 4 (.alt 7 (.alt 8 (.alt 9 (.still [10, 11] (.alt 12 (.leaf []) .done)) .done) .done) .done) (.alt 7 (.alt 4 (.alt 8 (.alt 9 (.still [10, 11] (.alt 12 (.leaf []) .done)) .done) .done) (.alt 8 (.alt 4 (.alt 9 (.still [10, 11] (.alt 12 (.leaf []) .done)) .done) .done) .done)) .done))) ⟨[], [⟨(some 1), 105, [.dat (.sl .str), .dat (.int .i64)], false, false, none, false⟩, ⟨(some 10), 0, [], false, false, some (.row 79 (.cons (.row 26 (.dat (.cons (.int .i64) (.cons (.int .i64) (.cons (.int .i64) (.cons (.int .i64) (.one .bool))))))) (.one (.dat (.cons (.int .i64) (.cons (.int .i64) (.cons (.int .i64) (.cons (.sl (.int .i64)) (.cons (.sl (.int .i64)) (.one (.sl (.int .i64)))))))))))), false⟩]⟩ [1, 10] (.two 0 (.wt 41 (.opn 10 1000020 (.cl ok_text_statement_kp0_ki [] (.cls 10 34 (.nil))))) (.cl ok_text_statement_kp0_ki [] (.two 0 (.wt 41 (.opn 10 1000020 (.cls 10 34 (.nil)))) (.wt 41 (.opn 10 1000020 (.cls 10 34 (.nil))))))) (.nil))))
noncomputable def sp_text_parser_code_p0kp1_iirnrododi_ki : Spec := ⟨59, ⟨[(0, .ptr 0 0), (1, .dat (.sl .str)), (2, .ptr 1 0)], [⟨none, 65, [.is 2 (.dat (.int .i64)), .is 3 (.dat (.int .i64)), .own 117 (.cons (.int .i64) (.one (.int .i64))), .nils, .own 51 (.cons (.int .i64) (.one .bool)), .od (.row 84 (.cons (.dat (.int .i64)) (.cons (.dat (.sl (.cons (.int .i64) (.one (.int .i64))))) (.cons (.row 24 (.dat (.one (.sl (.cons (.int .i64) (.one .bool)))))) (.one (.dat (.one (.sl (.cons (.int .i64) (.one .bool)))))))))), .od (.row 79 (.cons (.row 26 (.dat (.cons (.int .i64) (.cons (.int .i64) (.cons (.int .i64) (.cons (.int .i64) (.one .bool))))))) (.one (.dat (.cons (.int .i64) (.cons (.int .i64) (.cons (.int .i64) (.cons (.sl (.int .i64)) (.cons (.sl (.int .i64)) (.one (.sl (.int .i64)))))))))))), .dat (.int .i64)], false, false, none, false⟩, ⟨none, 105, [.dat (.sl .str), .dat (.int .i64)], false, false, none, false⟩, ⟨none, 0, [], false, true, none, false⟩, ⟨none, 0, [], false, true, none, false⟩]⟩, [⟨[], [⟨(some 0), 65, [.is 2 (.any), .is 3 (.any), .own 117 (.cons (.int .i64) (.one (.int .i64))), .nils, .own 51 (.cons (.int .i64) (.one .bool)), .od (.row 84 (.cons (.dat (.int .i64)) (.cons (.dat (.sl (.cons (.int .i64) (.one (.int .i64))))) (.cons (.row 24 (.dat (.one (.sl (.cons (.int .i64) (.one .bool)))))) (.one (.dat (.one (.sl (.cons (.int .i64) (.one .bool)))))))))), .od (.row 79 (.cons (.row 26 (.dat (.cons (.int .i64) (.cons (.int .i64) (.cons (.int .i64) (.cons (.int .i64) (.one .bool))))))) (.one (.dat (.cons (.int .i64) (.cons (.int .i64) (.cons (.int .i64) (.cons (.sl (.int .i64)) (.cons (.sl (.int .i64)) (.one (.sl (.int .i64)))))))))))), .dat (.int .i64)], false, false, none, false⟩, ⟨(some 1), 105, [.dat (.sl .str), .dat (.int .i64)], false, false, none, false⟩, ⟨(some 2), 0, [], false, true, none, false⟩, ⟨(some 3), 0, [], false, true, none, false⟩]⟩], fun x => fn_text_parser_code_p0kp1_iirnrododi_ki x.1 x.2.1 x.2.2.1 x.2.2.2.1 x.2.2.2.2.1 x.2.2.2.2.2.1 x.2.2.2.2.2.2.1 x.2.2.2.2.2.2.2.1 x.2.2.2.2.2.2.2.2.1 x.2.2.2.2.2.2.2.2.2⟩
theorem text_parser_code_p0kp1_iirnrododi_ki_is : SpecOk Tryd.prog sp_text_parser_code_p0kp1_iirnrododi_ki := fn_is Tryd.func59 h_text_parser_code_p0kp1_iirnrododi_ki (by kernel_rfl) (by kernel_rfl)
noncomputable def ok_text_parser_code_p0kp1_iirnrododi_ki : OkSpec Tryd.prog := ⟨sp_text_parser_code_p0kp1_iirnrododi_ki, text_parser_code_p0kp1_iirnrododi_ki_is, Tryd.call59⟩

noncomputable def fn_numeral_ParsePair (xa : (List UInt8)) (xb : Int) : Option (Int × Int × Int) :=
 (cutF xa ([58] : List UInt8)).bind fun (s33, s34, t35) => cond (!t35) (some ((0, 0, 3))) ((fn_numeral_Parse s33 xb).bind fun (i42, i43) => cond (!decide (i43 = 0)) (some ((0, 0, i43))) ((fn_numeral_Parse s34 xb).bind fun (i50, i51) => cond (!decide (i51 = 0)) (some ((0, 0, i51))) (some ((i42, i50, 0)))))
noncomputable def h_numeral_ParsePair : Hn Tryd.prog := .cl ok_Cut [] (.tw 19 (.nil) (.cl ok_numeral_Parse [] (.tw 28 (.nil) (.cl ok_numeral_Parse [] (.tw 38 (.nil) (.nil))))))
noncomputable def sp_numeral_ParsePair : Spec := ⟨96, ⟨[(0, .dat .str), (1, .dat (.int .i64))], []⟩, [⟨[(0, .tup [.agg [.dat (.int .i64), .dat (.int .i64)], .dat (.int .i64)])], []⟩], fun x => fn_numeral_ParsePair x.1 x.2⟩
theorem numeral_ParsePair_is : SpecOk Tryd.prog sp_numeral_ParsePair := fn_is Tryd.func96 h_numeral_ParsePair (by kernel_rfl) (by kernel_rfl)
noncomputable def ok_numeral_ParsePair : OkSpec Tryd.prog := ⟨sp_numeral_ParsePair, numeral_ParsePair_is, Tryd.call96⟩

noncomputable def fn_text_reader_bounds_1 (xa : (List UInt8)) : Option (Int × Int × Int) :=
 (fn_numeral_ParsePair xa 1048576).bind fun (i17, i18, i19) => some ((i17, i18, i19))
noncomputable def h_text_reader_bounds_1 : Hn Tryd.prog := .cl ok_numeral_ParsePair [] (.nil)
noncomputable def sp_text_reader_bounds_1 : Spec := ⟨95, ⟨[(0, .dat .str)], []⟩, [⟨[(0, .tup [.agg [.dat (.int .i64), .dat (.int .i64)], .dat (.int .i64)])], []⟩], fun x => fn_text_reader_bounds_1 x⟩
theorem text_reader_bounds_1_is : SpecOk Tryd.prog sp_text_reader_bounds_1 := fn_is Tryd.func95 h_text_reader_bounds_1 (by kernel_rfl) (by kernel_rfl)
noncomputable def ok_text_reader_bounds_1 : OkSpec Tryd.prog := ⟨sp_text_reader_bounds_1, text_reader_bounds_1_is, Tryd.call95⟩

noncomputable def fn_text_take_api_Bound_p0_text_reader_bounds_1__ki (qa0 : (List (List UInt8))) (qa1 : Int) : Option ((Int × Int × (List (List UInt8)) × Int)) :=
 cond (!decide (qa1 = 0)) (some ((0, 0, qa0, qa1))) ((getI qa0 0).bind fun x38 => (fn_text_reader_bounds_1 x38).bind fun (i49, i50, i51) => (subL qa0 1 (((qa0.length : Nat) : Int))).bind fun y55 => some ((i49, i50, y55, i51)))
noncomputable def h_text_take_api_Bound_p0_text_reader_bounds_1__ki : Hn Tryd.prog := .tw 10 (.nil) (.cl ok_text_reader_bounds_1 [] (.nil))
noncomputable def sp_text_take_api_Bound_p0_text_reader_bounds_1__ki : Spec := ⟨94, ⟨[(0, .ptr 0 0), (1, .fn 95 [])], [⟨none, 105, [.dat (.sl .str), .dat (.int .i64)], false, false, none, false⟩]⟩, [⟨[(0, .agg [.dat (.int .i64), .dat (.int .i64)])], [⟨(some 0), 105, [.dat (.sl .str), .dat (.int .i64)], false, false, none, false⟩]⟩], fun x => fn_text_take_api_Bound_p0_text_reader_bounds_1__ki x.1 x.2⟩
theorem text_take_api_Bound_p0_text_reader_bounds_1__ki_is : SpecOk Tryd.prog sp_text_take_api_Bound_p0_text_reader_bounds_1__ki := fn_is Tryd.func94 h_text_take_api_Bound_p0_text_reader_bounds_1__ki (by kernel_rfl) (by kernel_rfl)
noncomputable def ok_text_take_api_Bound_p0_text_reader_bounds_1__ki : OkSpec Tryd.prog := ⟨sp_text_take_api_Bound_p0_text_reader_bounds_1__ki, text_take_api_Bound_p0_text_reader_bounds_1__ki_is, Tryd.call94⟩
noncomputable def fn_text_reader_bounds_p0_ki_l1  : ((List (Int × Int)) × (List (List UInt8)) × Int) → Option (((List (Int × Int)) × (List (List UInt8)) × Int) ⊕ ((List (Int × Int)) × (List (List UInt8)) × Int)) := fun ((l398, l403, i407) : ((List (Int × Int)) × (List (List UInt8)) × Int)) => cond ((decide (0 < (((l403.length : Nat) : Int)))) && (decide (i407 = 0))) ((fn_text_take_api_Bound_p0_text_reader_bounds_1__ki l403 i407).bind fun (i451, i452, l453, i454) => (app l398 (([(i451, i452)] : List (Int × Int)))).bind fun z464 => some (.inl (z464, l453, i454))) (some (.inr (((l398, l403, i407)))))
noncomputable def fn_text_reader_bounds_p0_ki (qa0 : (List (List UInt8))) (qa1 : Int) : Option (((List (Int × Int)) × (List (List UInt8)) × Int)) :=
 (loop (fn_text_reader_bounds_p0_ki_l1) ([], qa0, qa1) : Option (((List (Int × Int)) × (List (List UInt8)) × Int))).bind fun (l351, l356, i360) => some ((l351, l356, i360))
noncomputable def h_text_reader_bounds_p0_ki : Hn Tryd.prog := .jn [] ⟨[(3, .own 117 (.cons (.int .i64) (.one (.int .i64))))], [⟨(some 0), 105, [.dat (.sl .str), .dat (.int .i64)], false, false, none, false⟩]⟩ [0] (.lp ⟨[(3, .own 117 (.cons (.int .i64) (.one (.int .i64))))], [⟨(some 0), 105, [.dat (.sl .str), .dat (.int .i64)], false, false, none, false⟩]⟩ (.gp 5 (.tw 16 (.cl ok_text_take_api_Bound_p0_text_reader_bounds_1__ki [] (.nil)) (.nil)))) (.nil)
noncomputable def sp_text_reader_bounds_p0_ki : Spec := ⟨80, ⟨[(0, .ptr 0 0)], [⟨none, 105, [.dat (.sl .str), .dat (.int .i64)], false, false, none, false⟩]⟩, [⟨[(0, .own 117 (.cons (.int .i64) (.one (.int .i64))))], [⟨(some 0), 105, [.dat (.sl .str), .dat (.int .i64)], false, false, none, false⟩]⟩], fun x => fn_text_reader_bounds_p0_ki x.1 x.2⟩
theorem text_reader_bounds_p0_ki_is : SpecOk Tryd.prog sp_text_reader_bounds_p0_ki := fn_is Tryd.func80 h_text_reader_bounds_p0_ki (by kernel_rfl) (by kernel_rfl)
noncomputable def ok_text_reader_bounds_p0_ki : OkSpec Tryd.prog := ⟨sp_text_reader_bounds_p0_ki, text_reader_bounds_p0_ki_is, Tryd.call80⟩

noncomputable def fn_internal_stringslite_HasSuffix (xa : (List UInt8)) (xb : (List UInt8)) : Option Bool :=
 (cond (decide ((((xb.length : Nat) : Int)) ≤ (((xa.length : Nat) : Int)))) ((subL xa (IntKind.wrap .i64 ((((xa.length : Nat) : Int)) - (((xb.length : Nat) : Int)))) (((xa.length : Nat) : Int))).bind fun y14 => some (decide (y14 = xb))) (some (false))).bind fun t12 => some (t12)
noncomputable def h_internal_stringslite_HasSuffix : Hn Tryd.prog := .gj 9 ⟨[(20, .dat .bool)], []⟩ [] (.two 10 (.nil) (.nil)) (.nil)
noncomputable def sp_internal_stringslite_HasSuffix : Spec := ⟨70, ⟨[(0, .dat .str), (1, .dat .str)], []⟩, [⟨[(0, .dat .bool)], []⟩], fun x => fn_internal_stringslite_HasSuffix x.1 x.2⟩
theorem internal_stringslite_HasSuffix_is : SpecOk Tryd.prog sp_internal_stringslite_HasSuffix := fn_is Tryd.func70 h_internal_stringslite_HasSuffix (by kernel_rfl) (by kernel_rfl)
noncomputable def ok_internal_stringslite_HasSuffix : OkSpec Tryd.prog := ⟨sp_internal_stringslite_HasSuffix, internal_stringslite_HasSuffix_is, Tryd.call70⟩

noncomputable def fn_internal_stringslite_CutSuffix (xa : (List UInt8)) (xb : (List UInt8)) : Option (List UInt8 × Bool) :=
 (fn_internal_stringslite_HasSuffix xa xb).bind fun t14 => cond (!t14) (some ((xa, false))) ((subL xa 0 (IntKind.wrap .i64 ((((xa.length : Nat) : Int)) - (((xb.length : Nat) : Int))))).bind fun y19 => some ((y19, true)))
noncomputable def h_internal_stringslite_CutSuffix : Hn Tryd.prog := .cl ok_internal_stringslite_HasSuffix [] (.tw 9 (.nil) (.nil))
noncomputable def sp_internal_stringslite_CutSuffix : Spec := ⟨46, ⟨[(0, .dat .str), (1, .dat .str)], []⟩, [⟨[(0, .tup [.dat .str, .dat .bool])], []⟩], fun x => fn_internal_stringslite_CutSuffix x.1 x.2⟩
theorem internal_stringslite_CutSuffix_is : SpecOk Tryd.prog sp_internal_stringslite_CutSuffix := fn_is Tryd.func46 h_internal_stringslite_CutSuffix (by kernel_rfl) (by kernel_rfl)
noncomputable def ok_internal_stringslite_CutSuffix : OkSpec Tryd.prog := ⟨sp_internal_stringslite_CutSuffix, internal_stringslite_CutSuffix_is, Tryd.call46⟩

noncomputable def fn_strings_CutSuffix (xa : (List UInt8)) (xb : (List UInt8)) : Option (List UInt8 × Bool) :=
 (fn_internal_stringslite_CutSuffix xa xb).bind fun (s12, t13) => some ((s12, t13))
noncomputable def h_strings_CutSuffix : Hn Tryd.prog := .cl ok_internal_stringslite_CutSuffix [] (.nil)
noncomputable def sp_strings_CutSuffix : Spec := ⟨20, ⟨[(0, .dat .str), (1, .dat .str)], []⟩, [⟨[(0, .tup [.dat .str, .dat .bool])], []⟩], fun x => fn_strings_CutSuffix x.1 x.2⟩
theorem strings_CutSuffix_is : SpecOk Tryd.prog sp_strings_CutSuffix := fn_is Tryd.func20 h_strings_CutSuffix (by kernel_rfl) (by kernel_rfl)
noncomputable def ok_strings_CutSuffix : OkSpec Tryd.prog := ⟨sp_strings_CutSuffix, strings_CutSuffix_is, Tryd.call20⟩
noncomputable def fn_text_ParseType_l1 (l411 : List (List UInt8)) : (Int × (List (Int × Bool))) → Option ((Int × (List (Int × Bool))) ⊕ ((List (Int × Bool)) ⊕ ((List (Int × Bool)) × Int))) := fun ((i578, l579) : (Int × (List (Int × Bool)))) => cond (decide (i578 < (((l411.length : Nat) : Int)))) ((getI l411 i578).bind fun x625 => (fn_strings_CutSuffix x625 ([33] : List UInt8)).bind fun (s634, t635) => (fn_numeral_Parse s634 1048576).bind fun (i641, i642) => cond (!decide (i642 = 0)) (some (.inr ((.inr (([], i642)))))) ((app l579 (([(i641, t635)] : List (Int × Bool)))).bind fun z651 => some (.inl ((IntKind.wrap .i64 (i578 + 1), z651))))) (some (.inr (.inl l579)))
noncomputable def fn_text_ParseType (xa : (List UInt8)) : Option (((List (Int × Bool)) × Int)) :=
 cond (decide (xa = ([45] : List UInt8))) (some (([], 0))) ((splF xa ([47] : List UInt8)).bind fun l411 => (loop (fn_text_ParseType_l1 l411) (0, []) : Option ((List (Int × Bool)) ⊕ ((List (Int × Bool)) × Int))).bind fun o => match o with | .inr r => some r | .inl l533 => some ((l533, 0)))
noncomputable def h_text_ParseType : Hn Tryd.prog := .tw 12 (.nil) (.cl ok_Split [] (.jx [] ⟨[], [⟨(some 0), 24, [.nils], false, false, none, false⟩, ⟨(some 2), 24, [.own 51 (.cons (.int .i64) (.one .bool))], false, false, none, false⟩]⟩ [2, 0] (.lp ⟨[(17, .dat (.int .i64))], [⟨(some 0), 24, [.nils], false, false, none, false⟩, ⟨(some 2), 24, [.own 51 (.cons (.int .i64) (.one .bool))], false, false, none, false⟩]⟩ (.tw 18 (.cl ok_strings_CutSuffix [] (.cl ok_numeral_Parse [] (.tw 32 (.nil) (.nil)))) (.nil))) (.nil)))
noncomputable def sp_text_ParseType : Spec := ⟨7, ⟨[(0, .dat .str)], []⟩, [⟨[(0, .tup [.agg [.own 51 (.cons (.int .i64) (.one .bool))], .dat (.int .i64)])], []⟩], fun x => fn_text_ParseType x⟩
theorem text_ParseType_is : SpecOk Tryd.prog sp_text_ParseType := fn_is Tryd.func7 h_text_ParseType (by kernel_rfl) (by kernel_rfl)
noncomputable def ok_text_ParseType : OkSpec Tryd.prog := ⟨sp_text_ParseType, text_ParseType_is, Tryd.call7⟩

noncomputable def fn_text_take_api_Type_p0_text_ParseType__ki (qa0 : (List (List UInt8))) (qa1 : Int) : Option (((List (Int × Bool)) × (List (List UInt8)) × Int)) :=
 cond (!decide (qa1 = 0)) (some (([], qa0, qa1))) ((getI qa0 0).bind fun x45 => (fn_text_ParseType x45).bind fun (l56, i57) => (subL qa0 1 (((qa0.length : Nat) : Int))).bind fun y65 => some ((l56, y65, i57)))
noncomputable def h_text_take_api_Type_p0_text_ParseType__ki : Hn Tryd.prog := .tw 10 (.nil) (.cl ok_text_ParseType [] (.nil))
noncomputable def sp_text_take_api_Type_p0_text_ParseType__ki : Spec := ⟨97, ⟨[(0, .ptr 0 0), (1, .fn 7 [])], [⟨none, 105, [.dat (.sl .str), .dat (.int .i64)], false, false, none, false⟩]⟩, [⟨[(0, .agg [.own 51 (.cons (.int .i64) (.one .bool))])], [⟨(some 0), 105, [.dat (.sl .str), .dat (.int .i64)], false, false, none, false⟩]⟩], fun x => fn_text_take_api_Type_p0_text_ParseType__ki x.1 x.2⟩
theorem text_take_api_Type_p0_text_ParseType__ki_is : SpecOk Tryd.prog sp_text_take_api_Type_p0_text_ParseType__ki := fn_is Tryd.func97 h_text_take_api_Type_p0_text_ParseType__ki (by kernel_rfl) (by kernel_rfl)
noncomputable def ok_text_take_api_Type_p0_text_ParseType__ki : OkSpec Tryd.prog := ⟨sp_text_take_api_Type_p0_text_ParseType__ki, text_take_api_Type_p0_text_ParseType__ki_is, Tryd.call97⟩

noncomputable def fn_text_reader_typ_p0_ki (qa0 : (List (List UInt8))) (qa1 : Int) : Option (((List (Int × Bool)) × (List (List UInt8)) × Int)) :=
 (fn_text_take_api_Type_p0_text_ParseType__ki qa0 qa1).bind fun (l30, l31, i33) => some ((l30, l31, i33))
noncomputable def h_text_reader_typ_p0_ki : Hn Tryd.prog := .cl ok_text_take_api_Type_p0_text_ParseType__ki [] (.nil)
noncomputable def sp_text_reader_typ_p0_ki : Spec := ⟨81, ⟨[(0, .ptr 0 0)], [⟨none, 105, [.dat (.sl .str), .dat (.int .i64)], false, false, none, false⟩]⟩, [⟨[(0, .agg [.own 51 (.cons (.int .i64) (.one .bool))])], [⟨(some 0), 105, [.dat (.sl .str), .dat (.int .i64)], false, false, none, false⟩]⟩], fun x => fn_text_reader_typ_p0_ki x.1 x.2⟩
theorem text_reader_typ_p0_ki_is : SpecOk Tryd.prog sp_text_reader_typ_p0_ki := fn_is Tryd.func81 h_text_reader_typ_p0_ki (by kernel_rfl) (by kernel_rfl)
noncomputable def ok_text_reader_typ_p0_ki : OkSpec Tryd.prog := ⟨sp_text_reader_typ_p0_ki, text_reader_typ_p0_ki_is, Tryd.call81⟩

noncomputable def fn_text_parser_head_p0sp1_iirnrododi_ki (xb : (List UInt8)) (qa0 : Int) (qa1 : Int) (qa2 : (List (Int × Int))) (qa4 : (List (Int × Bool))) (qa5 : (List (Int × (List (Int × Int)) × (List (List (Int × Bool))) × (List (Int × Bool))))) (qa6 : (List ((List (Int × Int × Int × Int × Bool)) × (Int × Int × Int × (List Int) × (List Int) × (List Int))))) (qa7 : Int) (qb0 : (List (List UInt8))) (qb1 : Int) : Option ((Int × Int × (List (Int × Int)) × (List (List (Int × Bool))) × (List (Int × Bool)) × (List (Int × (List (Int × Int)) × (List (List (Int × Bool))) × (List (Int × Bool)))) × (List ((List (Int × Int × Int × Int × Bool)) × (Int × Int × Int × (List Int) × (List Int) × (List Int)))) × Int × (List (List UInt8)) × Int)) :=
 cond (decide (xb = ([114, 101, 103, 105, 111, 110, 115] : List UInt8))) ((fn_text_reader_number_p0_ki qb0 qb1).bind fun (i1055, l1056, i1057) => (fn_text_reader_number_p0_ki l1056 i1057).bind fun (i1077, l1078, i1079) => some ((i1055, i1077, qa2, [], qa4, qa5, qa6, 1, l1078, i1079))) (cond (decide (xb = ([98, 111, 117, 110, 100, 115] : List UInt8))) ((fn_text_reader_bounds_p0_ki qb0 qb1).bind fun (l1105, l1106, i1107) => some ((qa0, qa1, l1105, [], qa4, qa5, qa6, 2, l1106, i1107))) (cond (decide (xb = ([108, 111, 99, 97, 108] : List UInt8))) ((fn_text_reader_typ_p0_ki qb0 qb1).bind fun (l1238, l1239, i1240) => (app (([] : List (List (Int × Bool)))) (([l1238] : List (List (Int × Bool))))).bind fun z1259 => some ((qa0, qa1, qa2, z1259, qa4, qa5, qa6, qa7, l1239, i1240))) (cond (decide (xb = ([103, 105, 118, 101, 115] : List UInt8))) ((fn_text_reader_typ_p0_ki qb0 qb1).bind fun (l1283, l1284, i1285) => some ((qa0, qa1, qa2, [], l1283, qa5, qa6, 3, l1284, i1285))) (cond (decide (xb = ([115, 105, 103] : List UInt8))) ((fn_text_reader_number_p0_ki qb0 qb1).bind fun (i1313, l1314, i1315) => (fn_text_reader_typ_p0_ki l1314 i1315).bind fun (l1339, l1340, i1341) => (app (qa5 : List (Int × (List (Int × Int)) × (List (List (Int × Bool))) × (List (Int × Bool)))) (([(i1313, [], [], l1339)] : List (Int × (List (Int × Int)) × (List (List (Int × Bool))) × (List (Int × Bool)))) : List (Int × (List (Int × Int)) × (List (List (Int × Bool))) × (List (Int × Bool))))).bind fun z1377 => some ((qa0, qa1, qa2, [], qa4, z1377, qa6, 4, l1340, i1341))) (cond (decide (xb = ([110, 101, 101, 100, 115] : List UInt8))) ((fn_text_reader_bounds_p0_ki qb0 qb1).bind fun (l1454, l1455, i1456) => (getI qa5 (IntKind.wrap .i64 ((((qa5.length : Nat) : Int)) - 1))).bind fun _ => (getI qa5 (IntKind.wrap .i64 ((((qa5.length : Nat) : Int)) - 1))).bind fun x1467 => (chkI (IntKind.wrap .i64 ((((qa5.length : Nat) : Int)) - 1)) (IntKind.wrap .i64 ((((qa5.length : Nat) : Int)) - 1))).bind fun _ => some ((qa0, qa1, qa2, [], qa4, qa5.set (IntKind.wrap .i64 ((((qa5.length : Nat) : Int)) - 1)).toNat (x1467.1, l1454, x1467.2.2.1, x1467.2.2.2), qa6, 5, l1455, i1456))) (cond (decide (xb = ([97, 114, 103] : List UInt8))) ((getI qa5 (IntKind.wrap .i64 ((((qa5.length : Nat) : Int)) - 1))).bind fun _ => (((getI qa5 (IntKind.wrap .i64 ((((qa5.length : Nat) : Int)) - 1))).bind fun x1769 => (chkI (IntKind.wrap .i64 ((((qa5.length : Nat) : Int)) - 1)) (IntKind.wrap .i64 ((((qa5.length : Nat) : Int)) - 1))).bind fun _ => (fn_text_reader_typ_p0_ki qb0 qb1).bind fun (l1779, l1780, i1781) => (app x1769.2.2.1 (([l1779] : List (List (Int × Bool))))).bind fun z1798 => (chkI (IntKind.wrap .i64 ((((qa5.length : Nat) : Int)) - 1)) (IntKind.wrap .i64 ((((qa5.length : Nat) : Int)) - 1))).bind fun _ => some ((l1780, i1781, qa5.set (IntKind.wrap .i64 ((((qa5.length : Nat) : Int)) - 1)).toNat (x1769.1, x1769.2.1, z1798, x1769.2.2.2)))).bind fun x1861 => ((fn_text_reader_typ_p0_ki qb0 qb1).bind fun (l1806, l1807, i1808) => ((getI qa5 (IntKind.wrap .i64 ((((qa5.length : Nat) : Int)) - 1))).bind fun x1819 => (chkI (IntKind.wrap .i64 ((((qa5.length : Nat) : Int)) - 1)) (IntKind.wrap .i64 ((((qa5.length : Nat) : Int)) - 1))).bind fun _ => (app x1819.2.2.1 (([l1806] : List (List (Int × Bool))))).bind fun z1833 => (chkI (IntKind.wrap .i64 ((((qa5.length : Nat) : Int)) - 1)) (IntKind.wrap .i64 ((((qa5.length : Nat) : Int)) - 1))).bind fun _ => some ((l1807, i1808, qa5.set (IntKind.wrap .i64 ((((qa5.length : Nat) : Int)) - 1)).toNat (x1819.1, x1819.2.1, z1833, x1819.2.2.2)))).bind fun x1859 => ((getI qa5 (IntKind.wrap .i64 ((((qa5.length : Nat) : Int)) - 1))).bind fun x1845 => (chkI (IntKind.wrap .i64 ((((qa5.length : Nat) : Int)) - 1)) (IntKind.wrap .i64 ((((qa5.length : Nat) : Int)) - 1))).bind fun _ => (app x1845.2.2.1 (([l1806] : List (List (Int × Bool))))).bind fun z1853 => (chkI (IntKind.wrap .i64 ((((qa5.length : Nat) : Int)) - 1)) (IntKind.wrap .i64 ((((qa5.length : Nat) : Int)) - 1))).bind fun _ => some ((l1807, i1808, qa5.set (IntKind.wrap .i64 ((((qa5.length : Nat) : Int)) - 1)).toNat (x1845.1, x1845.2.1, z1853, x1845.2.2.2)))).bind fun y1860 => agr x1859 y1860 (some x1859)).bind fun y1862 => agr x1861 y1862 (some x1861) : Option (((List (List UInt8)) × Int × (List (Int × (List (Int × Int)) × (List (List (Int × Bool))) × (List (Int × Bool))))))).bind fun (l1669, i1673, l1674) => some ((qa0, qa1, qa2, [], qa4, l1674, qa6, qa7, l1669, i1673))) (cond (decide (xb = ([98, 108, 111, 99, 107] : List UInt8))) ((app (qa6 : List ((List (Int × Int × Int × Int × Bool)) × (Int × Int × Int × (List Int) × (List Int) × (List Int)))) (([([], (0, 0, 0, [], [], []))] : List ((List (Int × Int × Int × Int × Bool)) × (Int × Int × Int × (List Int) × (List Int) × (List Int)))) : List ((List (Int × Int × Int × Int × Bool)) × (Int × Int × Int × (List Int) × (List Int) × (List Int))))).bind fun z1870 => some ((qa0, qa1, qa2, [], qa4, qa5, z1870, 6, qb0, qb1))) (some ((qa0, qa1, qa2, [], qa4, qa5, qa6, qa7, qb0, qb1))))))))))
noncomputable def h_text_parser_head_p0sp1_iirnrododi_ki : Hn Tryd.prog := .tw 13 (.cl ok_text_reader_number_p0_ki [] (.cl ok_text_reader_number_p0_ki [] (.nil))) (.tw 28 (.cl ok_text_reader_bounds_p0_ki [] (.nil)) (.tw 38 (.mix [([0, 1, 2, 3, 4, 5], 6), ([], 7), ([], 8)] [9, 10] [11] [1] (.cl ok_text_reader_typ_p0_ki [] (.per 13 14 (.nil)))) (.tw 51 (.cl ok_text_reader_typ_p0_ki [] (.nil)) (.tw 61 (.cl ok_text_reader_number_p0_ki [] (.cl ok_text_reader_typ_p0_ki [] (.per 18 19 (.mix [([0, 1, 2, 3, 4, 5], 6), ([], 7)] [8, 9] [10] [6] (.ot (.cons (.dat (.int .i64)) (.cons (.dat (.sl (.cons (.int .i64) (.one (.int .i64))))) (.cons (.row 24 (.dat (.one (.sl (.cons (.int .i64) (.one .bool)))))) (.one (.dat (.one (.sl (.cons (.int .i64) (.one .bool))))))))) (.ot (.cons (.dat (.int .i64)) (.cons (.dat (.sl (.cons (.int .i64) (.one (.int .i64))))) (.cons (.row 24 (.dat (.one (.sl (.cons (.int .i64) (.one .bool)))))) (.one (.dat (.one (.sl (.cons (.int .i64) (.one .bool))))))))) (.nil))))))) (.tw 82 (.mix [([0, 1, 2, 3, 4, 5, 6, 7, 8, 9, 10], 11)] [12, 13] [14] [1] (.cl ok_text_reader_bounds_p0_ki [] (.wt 97 (.opn 6 1000093 (.per 13 14 (.cls 6 19 (.nil))))))) (.tw 101 (.mix [] [0, 1, 2, 3, 4, 5, 6, 7, 8, 9, 10, 11] [] [] (.tr (.still [0, 1, 2, 3, 5] (.alt 4 (.alt 6 (.alt 7 (.alt 8 (.still [9, 10] (.alt 11 (.leaf []) .done)) .done) .done) .done) (.alt 6 (.alt 4 (.alt 7 (.alt 8 (.still [9, 10] (.alt 11 (.leaf []) .done)) .done) .done) (.alt 7 (.alt 4 (.alt 8 (.still [9, 10] (.alt 11 (.leaf []) .done)) .done) .done) .done)) .done))) ⟨[], [⟨(some 1), 105, [.dat (.sl .str), .dat (.int .i64)], false, false, none, false⟩, ⟨(some 6), 0, [], false, false, some (.row 84 (.cons (.dat (.int .i64)) (.cons (.dat (.sl (.cons (.int .i64) (.one (.int .i64))))) (.cons (.row 24 (.dat (.one (.sl (.cons (.int .i64) (.one .bool)))))) (.one (.dat (.one (.sl (.cons (.int .i64) (.one .bool)))))))))), false⟩]⟩ [1, 6] (.two 0 (.wt 117 (.opn 6 1000112 (.cl ok_text_reader_typ_p0_ki [] (.per 16 17 (.cls 6 23 (.nil)))))) (.cl ok_text_reader_typ_p0_ki [] (.two 0 (.wt 117 (.opn 6 1000112 (.per 13 14 (.cls 6 23 (.nil))))) (.per 13 14 (.wt 117 (.opn 6 1000112 (.cls 6 23 (.nil)))))))) (.nil))) (.tw 125 (.ot (.cons (.row 26 (.dat (.cons (.int .i64) (.cons (.int .i64) (.cons (.int .i64) (.cons (.int .i64) (.one .bool))))))) (.one (.dat (.cons (.int .i64) (.cons (.int .i64) (.cons (.int .i64) (.cons (.sl (.int .i64)) (.cons (.sl (.int .i64)) (.one (.sl (.int .i64))))))))))) (.ot (.cons (.row 26 (.dat (.cons (.int .i64) (.cons (.int .i64) (.cons (.int .i64) (.cons (.int .i64) (.one .bool))))))) (.one (.dat (.cons (.int .i64) (.cons (.int .i64) (.cons (.int .i64) (.cons (.sl (.int .i64)) (.cons (.sl (.int .i64)) (.one (.sl (.int .i64))))))))))) (.nil))) (.nil))))))))
noncomputable def sp_text_parser_head_p0sp1_iirnrododi_ki : Spec := ⟨60, ⟨[(0, .ptr 0 0), (1, .dat .str), (2, .ptr 1 0)], [⟨none, 65, [.dat (.int .i64), .dat (.int .i64), .own 117 (.cons (.int .i64) (.one (.int .i64))), .nils, .own 51 (.cons (.int .i64) (.one .bool)), .od (.row 84 (.cons (.dat (.int .i64)) (.cons (.dat (.sl (.cons (.int .i64) (.one (.int .i64))))) (.cons (.row 24 (.dat (.one (.sl (.cons (.int .i64) (.one .bool)))))) (.one (.dat (.one (.sl (.cons (.int .i64) (.one .bool)))))))))), .od (.row 79 (.cons (.row 26 (.dat (.cons (.int .i64) (.cons (.int .i64) (.cons (.int .i64) (.cons (.int .i64) (.one .bool))))))) (.one (.dat (.cons (.int .i64) (.cons (.int .i64) (.cons (.int .i64) (.cons (.sl (.int .i64)) (.cons (.sl (.int .i64)) (.one (.sl (.int .i64)))))))))))), .dat (.int .i64)], false, false, none, false⟩, ⟨none, 105, [.dat (.sl .str), .dat (.int .i64)], false, false, none, false⟩]⟩, [⟨[], [⟨(some 0), 65, [.dat (.int .i64), .dat (.int .i64), .own 117 (.cons (.int .i64) (.one (.int .i64))), .own 24 (.one (.sl (.cons (.int .i64) (.one .bool)))), .own 51 (.cons (.int .i64) (.one .bool)), .od (.row 84 (.cons (.dat (.int .i64)) (.cons (.dat (.sl (.cons (.int .i64) (.one (.int .i64))))) (.cons (.row 24 (.dat (.one (.sl (.cons (.int .i64) (.one .bool)))))) (.one (.dat (.one (.sl (.cons (.int .i64) (.one .bool)))))))))), .od (.row 79 (.cons (.row 26 (.dat (.cons (.int .i64) (.cons (.int .i64) (.cons (.int .i64) (.cons (.int .i64) (.one .bool))))))) (.one (.dat (.cons (.int .i64) (.cons (.int .i64) (.cons (.int .i64) (.cons (.sl (.int .i64)) (.cons (.sl (.int .i64)) (.one (.sl (.int .i64)))))))))))), .dat (.int .i64)], false, false, none, false⟩, ⟨(some 1), 105, [.dat (.sl .str), .dat (.int .i64)], false, false, none, false⟩]⟩], fun x => fn_text_parser_head_p0sp1_iirnrododi_ki x.1 x.2.1 x.2.2.1 x.2.2.2.1 x.2.2.2.2.1 x.2.2.2.2.2.1 x.2.2.2.2.2.2.1 x.2.2.2.2.2.2.2.1 x.2.2.2.2.2.2.2.2.1 x.2.2.2.2.2.2.2.2.2⟩
theorem text_parser_head_p0sp1_iirnrododi_ki_is : SpecOk Tryd.prog sp_text_parser_head_p0sp1_iirnrododi_ki := fn_is Tryd.func60 h_text_parser_head_p0sp1_iirnrododi_ki (by kernel_rfl) (by kernel_rfl)
noncomputable def ok_text_parser_head_p0sp1_iirnrododi_ki : OkSpec Tryd.prog := ⟨sp_text_parser_head_p0sp1_iirnrododi_ki, text_parser_head_p0sp1_iirnrododi_ki_is, Tryd.call60⟩

noncomputable def fn_text_parser_line_p0k_iirnrododi (xb : (List (List UInt8))) (qa0 : Int) (qa1 : Int) (qa2 : (List (Int × Int))) (qa4 : (List (Int × Bool))) (qa5 : (List (Int × (List (Int × Int)) × (List (List (Int × Bool))) × (List (Int × Bool))))) (qa6 : (List ((List (Int × Int × Int × Int × Bool)) × (Int × Int × Int × (List Int) × (List Int) × (List Int))))) (qa7 : Int) : Option ((Int × Int × Int × (List (Int × Int)) × (List (List (Int × Bool))) × (List (Int × Bool)) × (List (Int × (List (Int × Int)) × (List (List (Int × Bool))) × (List (Int × Bool)))) × (List ((List (Int × Int × Int × Int × Bool)) × (Int × Int × Int × (List Int) × (List Int) × (List Int)))) × Int)) :=
 (getI xb 0).bind fun x469 => (fn_text_many x469).bind fun (i480, i481) => (getI xb 0).bind fun x520 => (fn_text_parser_mayStand_p0s_iirnrododi x520 qa0 qa1 qa2 qa4 qa5 qa6 qa7).bind fun (t531, l532, l533, l534, l535) => cond (((!t531) || (decide ((((xb.length : Nat) : Int)) < i480))) || (decide (i481 < (((xb.length : Nat) : Int))))) (some ((3, qa0, qa1, l532, [], l533, l534, l535, qa7))) ((subL xb 1 (((xb.length : Nat) : Int))).bind fun y564 => (cond (decide (qa7 = 6)) ((fn_text_parser_code_p0kp1_iirnrododi_ki xb qa0 qa1 l532 l533 l534 l535 qa7 y564 0).bind fun (l770, l771, l772, l773, i774, l775, i776) => some ((qa0, qa1, l770, [], l771, l772, l773, i774, l775, i776))) ((getI xb 0).bind fun x839 => (fn_text_parser_head_p0sp1_iirnrododi_ki x839 qa0 qa1 l532 l533 l534 l535 qa7 y564 0).bind fun (i850, i851, l852, l853, l854, l855, l856, i857, l858, i859) => some ((i850, i851, l852, l853, l854, l855, l856, i857, l858, i859))) : Option ((Int × Int × (List (Int × Int)) × (List (List (Int × Bool))) × (List (Int × Bool)) × (List (Int × (List (Int × Int)) × (List (List (Int × Bool))) × (List (Int × Bool)))) × (List ((List (Int × Int × Int × Int × Bool)) × (Int × Int × Int × (List Int) × (List Int) × (List Int)))) × Int × (List (List UInt8)) × Int))).bind fun (i713, i714, l715, l720, l725, l730, l732, i734, l735, i739) => some ((i739, i713, i714, l715, l720, l725, l730, l732, i734)))
noncomputable def h_text_parser_line_p0k_iirnrododi : Hn Tryd.prog := .cl ok_text_many [] (.mc 0 0 9 (.mc 0 1 9 (.mc 0 7 9 (.cl ok_text_parser_mayStand_p0s_iirnrododi [] (.gp 4 (.wt 27 (.gp 4 (.tw 32 (.nil) (.pl (.sq [] ⟨[], [⟨(some 0), 65, [.dat (.int .i64), .dat (.int .i64), .own 117 (.cons (.int .i64) (.one (.int .i64))), .own 24 (.one (.sl (.cons (.int .i64) (.one .bool)))), .own 51 (.cons (.int .i64) (.one .bool)), .od (.row 84 (.cons (.dat (.int .i64)) (.cons (.dat (.sl (.cons (.int .i64) (.one (.int .i64))))) (.cons (.row 24 (.dat (.one (.sl (.cons (.int .i64) (.one .bool)))))) (.one (.dat (.one (.sl (.cons (.int .i64) (.one .bool)))))))))), .od (.row 79 (.cons (.row 26 (.dat (.cons (.int .i64) (.cons (.int .i64) (.cons (.int .i64) (.cons (.int .i64) (.one .bool))))))) (.one (.dat (.cons (.int .i64) (.cons (.int .i64) (.cons (.int .i64) (.cons (.sl (.int .i64)) (.cons (.sl (.int .i64)) (.one (.sl (.int .i64)))))))))))), .dat (.int .i64)], false, false, none, false⟩, ⟨(some 31), 105, [.dat (.sl .str), .dat (.int .i64)], false, false, none, false⟩]⟩ [31, 24, 22, 0, 26, 28] (.tw 41 (.cl ok_text_parser_code_p0kp1_iirnrododi_ki [] (.nil)) (.cl ok_text_parser_head_p0sp1_iirnrododi_ki [] (.nil))) (.nil)))))))))))
noncomputable def sp_text_parser_line_p0k_iirnrododi : Spec := ⟨36, ⟨[(0, .ptr 0 0), (1, .dat (.sl .str))], [⟨none, 65, [.dat (.int .i64), .dat (.int .i64), .own 117 (.cons (.int .i64) (.one (.int .i64))), .nils, .own 51 (.cons (.int .i64) (.one .bool)), .od (.row 84 (.cons (.dat (.int .i64)) (.cons (.dat (.sl (.cons (.int .i64) (.one (.int .i64))))) (.cons (.row 24 (.dat (.one (.sl (.cons (.int .i64) (.one .bool)))))) (.one (.dat (.one (.sl (.cons (.int .i64) (.one .bool)))))))))), .od (.row 79 (.cons (.row 26 (.dat (.cons (.int .i64) (.cons (.int .i64) (.cons (.int .i64) (.cons (.int .i64) (.one .bool))))))) (.one (.dat (.cons (.int .i64) (.cons (.int .i64) (.cons (.int .i64) (.cons (.sl (.int .i64)) (.cons (.sl (.int .i64)) (.one (.sl (.int .i64)))))))))))), .dat (.int .i64)], false, false, none, false⟩]⟩, [⟨[(0, .dat (.int .i64))], [⟨(some 0), 65, [.dat (.int .i64), .dat (.int .i64), .own 117 (.cons (.int .i64) (.one (.int .i64))), .own 24 (.one (.sl (.cons (.int .i64) (.one .bool)))), .own 51 (.cons (.int .i64) (.one .bool)), .od (.row 84 (.cons (.dat (.int .i64)) (.cons (.dat (.sl (.cons (.int .i64) (.one (.int .i64))))) (.cons (.row 24 (.dat (.one (.sl (.cons (.int .i64) (.one .bool)))))) (.one (.dat (.one (.sl (.cons (.int .i64) (.one .bool)))))))))), .od (.row 79 (.cons (.row 26 (.dat (.cons (.int .i64) (.cons (.int .i64) (.cons (.int .i64) (.cons (.int .i64) (.one .bool))))))) (.one (.dat (.cons (.int .i64) (.cons (.int .i64) (.cons (.int .i64) (.cons (.sl (.int .i64)) (.cons (.sl (.int .i64)) (.one (.sl (.int .i64)))))))))))), .dat (.int .i64)], false, false, none, false⟩]⟩], fun x => fn_text_parser_line_p0k_iirnrododi x.1 x.2.1 x.2.2.1 x.2.2.2.1 x.2.2.2.2.1 x.2.2.2.2.2.1 x.2.2.2.2.2.2.1 x.2.2.2.2.2.2.2⟩
theorem text_parser_line_p0k_iirnrododi_is : SpecOk Tryd.prog sp_text_parser_line_p0k_iirnrododi := fn_is Tryd.func36 h_text_parser_line_p0k_iirnrododi (by kernel_rfl) (by kernel_rfl)
noncomputable def ok_text_parser_line_p0k_iirnrododi : OkSpec Tryd.prog := ⟨sp_text_parser_line_p0k_iirnrododi, text_parser_line_p0k_iirnrododi_is, Tryd.call36⟩

noncomputable def fn_text_parser_mayStand_p0s_iirrrododi (xb : (List UInt8)) (qa0 : Int) (qa1 : Int) (qa2 : (List (Int × Int))) (qa3 : (List (List (Int × Bool)))) (qa4 : (List (Int × Bool))) (qa5 : (List (Int × (List (Int × Int)) × (List (List (Int × Bool))) × (List (Int × Bool))))) (qa6 : (List ((List (Int × Int × Int × Int × Bool)) × (Int × Int × Int × (List Int) × (List Int) × (List Int))))) (qa7 : Int) : Option ((Bool × (List (Int × Int)) × (List (List (Int × Bool))) × (List (Int × Bool)) × (List (Int × (List (Int × Int)) × (List (List (Int × Bool))) × (List (Int × Bool)))) × (List ((List (Int × Int × Int × Int × Bool)) × (Int × Int × Int × (List Int) × (List Int) × (List Int)))))) :=
 cond (decide (qa7 = 0)) ((fn_slices_Contains_string_string (([([114, 101, 103, 105, 111, 110, 115] : List UInt8)] : List (List UInt8))) xb).bind fun t254 => some ((t254, qa2, qa3, qa4, qa5, qa6))) (cond (decide (qa7 = 1)) ((fn_slices_Contains_string_string (([([98, 111, 117, 110, 100, 115] : List UInt8)] : List (List UInt8))) xb).bind fun t279 => some ((t279, qa2, qa3, qa4, qa5, qa6))) (cond (decide (qa7 = 2)) ((fn_slices_Contains_string_string (([([108, 111, 99, 97, 108] : List UInt8), ([103, 105, 118, 101, 115] : List UInt8)] : List (List UInt8))) xb).bind fun t304 => some ((t304, qa2, qa3, qa4, qa5, qa6))) (cond (decide (qa7 = 3)) ((fn_slices_Contains_string_string (([([115, 105, 103] : List UInt8), ([98, 108, 111, 99, 107] : List UInt8)] : List (List UInt8))) xb).bind fun t329 => some ((t329, qa2, qa3, qa4, qa5, qa6))) (cond (decide (qa7 = 4)) ((fn_slices_Contains_string_string (([([110, 101, 101, 100, 115] : List UInt8)] : List (List UInt8))) xb).bind fun t354 => some ((t354, qa2, qa3, qa4, qa5, qa6))) (cond (decide (qa7 = 5)) ((fn_slices_Contains_string_string (([([97, 114, 103] : List UInt8), ([115, 105, 103] : List UInt8), ([98, 108, 111, 99, 107] : List UInt8)] : List (List UInt8))) xb).bind fun t379 => some ((t379, qa2, qa3, qa4, qa5, qa6))) (cond (decide (qa7 = 6)) ((fn_slices_Contains_string_string (([([110, 111, 112] : List UInt8), ([97, 115, 115, 105, 103, 110] : List UInt8), ([98, 111, 114, 114, 111, 119] : List UInt8), ([114, 101, 98, 111, 114, 114, 111, 119] : List UInt8), ([117, 115, 101] : List UInt8), ([100, 101, 97, 100] : List UInt8), ([103, 111, 116, 111] : List UInt8), ([115, 119, 105, 116, 99, 104] : List UInt8), ([114, 101, 116, 117, 114, 110] : List UInt8), ([99, 97, 108, 108] : List UInt8)] : List (List UInt8))) xb).bind fun t404 => some ((t404, qa2, qa3, qa4, qa5, qa6))) (cond (decide (qa7 = 7)) ((fn_slices_Contains_string_string (([([98, 108, 111, 99, 107] : List UInt8)] : List (List UInt8))) xb).bind fun t429 => some ((t429, qa2, qa3, qa4, qa5, qa6))) ((fn_slices_Contains_string_string ([]) xb).bind fun t441 => some ((t441, qa2, qa3, qa4, qa5, qa6))))))))))
noncomputable def h_text_parser_mayStand_p0s_iirrrododi : Hn Tryd.prog := .tw 10 (.cl ok_slices_Contains_string_string [15] (.nil)) (.tw 13 (.cl ok_slices_Contains_string_string [15] (.nil)) (.tw 16 (.cl ok_slices_Contains_string_string [15] (.nil)) (.tw 19 (.cl ok_slices_Contains_string_string [15] (.nil)) (.tw 22 (.cl ok_slices_Contains_string_string [15] (.nil)) (.tw 25 (.cl ok_slices_Contains_string_string [15] (.nil)) (.tw 28 (.cl ok_slices_Contains_string_string [15] (.nil)) (.tw 31 (.cl ok_slices_Contains_string_string [15] (.nil)) (.cl ok_slices_Contains_string_string [] (.nil)))))))))
noncomputable def sp_text_parser_mayStand_p0s_iirrrododi : Spec := ⟨58, ⟨[(0, .ptr 0 0), (1, .dat .str)], [⟨none, 65, [.is 1 (.dat (.int .i64)), .is 2 (.dat (.int .i64)), .own 117 (.cons (.int .i64) (.one (.int .i64))), .own 24 (.one (.sl (.cons (.int .i64) (.one .bool)))), .own 51 (.cons (.int .i64) (.one .bool)), .od (.row 84 (.cons (.dat (.int .i64)) (.cons (.dat (.sl (.cons (.int .i64) (.one (.int .i64))))) (.cons (.row 24 (.dat (.one (.sl (.cons (.int .i64) (.one .bool)))))) (.one (.dat (.one (.sl (.cons (.int .i64) (.one .bool)))))))))), .od (.row 79 (.cons (.row 26 (.dat (.cons (.int .i64) (.cons (.int .i64) (.cons (.int .i64) (.cons (.int .i64) (.one .bool))))))) (.one (.dat (.cons (.int .i64) (.cons (.int .i64) (.cons (.int .i64) (.cons (.sl (.int .i64)) (.cons (.sl (.int .i64)) (.one (.sl (.int .i64)))))))))))), .is 3 (.dat (.int .i64))], false, false, none, false⟩, ⟨none, 0, [], false, true, none, false⟩, ⟨none, 0, [], false, true, none, false⟩, ⟨none, 0, [], false, true, none, false⟩]⟩, [⟨[(0, .dat .bool)], [⟨(some 0), 65, [.is 1 (.any), .is 2 (.any), .own 117 (.cons (.int .i64) (.one (.int .i64))), .own 24 (.one (.sl (.cons (.int .i64) (.one .bool)))), .own 51 (.cons (.int .i64) (.one .bool)), .od (.row 84 (.cons (.dat (.int .i64)) (.cons (.dat (.sl (.cons (.int .i64) (.one (.int .i64))))) (.cons (.row 24 (.dat (.one (.sl (.cons (.int .i64) (.one .bool)))))) (.one (.dat (.one (.sl (.cons (.int .i64) (.one .bool)))))))))), .od (.row 79 (.cons (.row 26 (.dat (.cons (.int .i64) (.cons (.int .i64) (.cons (.int .i64) (.cons (.int .i64) (.one .bool))))))) (.one (.dat (.cons (.int .i64) (.cons (.int .i64) (.cons (.int .i64) (.cons (.sl (.int .i64)) (.cons (.sl (.int .i64)) (.one (.sl (.int .i64)))))))))))), .is 3 (.any)], false, false, none, false⟩, ⟨(some 1), 0, [], false, true, none, false⟩, ⟨(some 2), 0, [], false, true, none, false⟩, ⟨(some 3), 0, [], false, true, none, false⟩]⟩], fun x => fn_text_parser_mayStand_p0s_iirrrododi x.1 x.2.1 x.2.2.1 x.2.2.2.1 x.2.2.2.2.1 x.2.2.2.2.2.1 x.2.2.2.2.2.2.1 x.2.2.2.2.2.2.2.1 x.2.2.2.2.2.2.2.2⟩
theorem text_parser_mayStand_p0s_iirrrododi_is : SpecOk Tryd.prog sp_text_parser_mayStand_p0s_iirrrododi := fn_is Tryd.func58 h_text_parser_mayStand_p0s_iirrrododi (by kernel_rfl) (by kernel_rfl)
noncomputable def ok_text_parser_mayStand_p0s_iirrrododi : OkSpec Tryd.prog := ⟨sp_text_parser_mayStand_p0s_iirrrododi, text_parser_mayStand_p0s_iirrrododi_is, Tryd.call58⟩

noncomputable def fn_text_parser_code_p0kp1_iirrrododi_ki (xb : (List (List UInt8))) (qa0 : Int) (qa1 : Int) (qa2 : (List (Int × Int))) (qa3 : (List (List (Int × Bool)))) (qa4 : (List (Int × Bool))) (qa5 : (List (Int × (List (Int × Int)) × (List (List (Int × Bool))) × (List (Int × Bool))))) (qa6 : (List ((List (Int × Int × Int × Int × Bool)) × (Int × Int × Int × (List Int) × (List Int) × (List Int))))) (qa7 : Int) (qb0 : (List (List UInt8))) (qb1 : Int) : Option (((List (Int × Int)) × (List (List (Int × Bool))) × (List (Int × Bool)) × (List (Int × (List (Int × Int)) × (List (List (Int × Bool))) × (List (Int × Bool)))) × (List ((List (Int × Int × Int × Int × Bool)) × (Int × Int × Int × (List Int) × (List Int) × (List Int)))) × Int × (List (List UInt8)) × Int)) :=
 (getI qa6 (IntKind.wrap .i64 ((((qa6.length : Nat) : Int)) - 1))).bind fun _ => (getI xb 0).bind fun x736 => (fn_text_terminator_sp0_ki x736 qb0 qb1).bind fun (i747, i748, i749, l750, l751, l752, t753, l754, i755) => cond (t753) ((getI qa6 (IntKind.wrap .i64 ((((qa6.length : Nat) : Int)) - 1))).bind fun x795 => (chkI (IntKind.wrap .i64 ((((qa6.length : Nat) : Int)) - 1)) (IntKind.wrap .i64 ((((qa6.length : Nat) : Int)) - 1))).bind fun _ => some ((qa2, qa3, qa4, qa5, qa6.set (IntKind.wrap .i64 ((((qa6.length : Nat) : Int)) - 1)).toNat ((x795.1, (i747, i748, i749, l750, l751, l752))), 7, l754, i755))) ((((getI qa6 (IntKind.wrap .i64 ((((qa6.length : Nat) : Int)) - 1))).bind fun x1094 => (chkI (IntKind.wrap .i64 ((((qa6.length : Nat) : Int)) - 1)) (IntKind.wrap .i64 ((((qa6.length : Nat) : Int)) - 1))).bind fun _ => (fn_text_statement_kp0_ki xb l754 i755).bind fun (i1106, i1107, i1108, i1109, t1110, l1111, i1112) => (app x1094.1 (([(i1106, i1107, i1108, i1109, t1110)] : List (Int × Int × Int × Int × Bool)))).bind fun z1122 => (chkI (IntKind.wrap .i64 ((((qa6.length : Nat) : Int)) - 1)) (IntKind.wrap .i64 ((((qa6.length : Nat) : Int)) - 1))).bind fun _ => some ((l1111, i1112, qa6.set (IntKind.wrap .i64 ((((qa6.length : Nat) : Int)) - 1)).toNat ((z1122, (x1094.2.1, x1094.2.2.1, x1094.2.2.2.1, x1094.2.2.2.2.1, x1094.2.2.2.2.2.1, x1094.2.2.2.2.2.2)))))).bind fun x1183 => ((fn_text_statement_kp0_ki xb l754 i755).bind fun (i1130, i1131, i1132, i1133, t1134, l1135, i1136) => ((getI qa6 (IntKind.wrap .i64 ((((qa6.length : Nat) : Int)) - 1))).bind fun x1143 => (chkI (IntKind.wrap .i64 ((((qa6.length : Nat) : Int)) - 1)) (IntKind.wrap .i64 ((((qa6.length : Nat) : Int)) - 1))).bind fun _ => (app x1143.1 (([(i1130, i1131, i1132, i1133, t1134)] : List (Int × Int × Int × Int × Bool)))).bind fun z1156 => (chkI (IntKind.wrap .i64 ((((qa6.length : Nat) : Int)) - 1)) (IntKind.wrap .i64 ((((qa6.length : Nat) : Int)) - 1))).bind fun _ => some ((l1135, i1136, qa6.set (IntKind.wrap .i64 ((((qa6.length : Nat) : Int)) - 1)).toNat ((z1156, (x1143.2.1, x1143.2.2.1, x1143.2.2.2.1, x1143.2.2.2.2.1, x1143.2.2.2.2.2.1, x1143.2.2.2.2.2.2)))))).bind fun x1181 => ((getI qa6 (IntKind.wrap .i64 ((((qa6.length : Nat) : Int)) - 1))).bind fun x1165 => (chkI (IntKind.wrap .i64 ((((qa6.length : Nat) : Int)) - 1)) (IntKind.wrap .i64 ((((qa6.length : Nat) : Int)) - 1))).bind fun _ => (app x1165.1 (([(i1130, i1131, i1132, i1133, t1134)] : List (Int × Int × Int × Int × Bool)))).bind fun z1175 => (chkI (IntKind.wrap .i64 ((((qa6.length : Nat) : Int)) - 1)) (IntKind.wrap .i64 ((((qa6.length : Nat) : Int)) - 1))).bind fun _ => some ((l1135, i1136, qa6.set (IntKind.wrap .i64 ((((qa6.length : Nat) : Int)) - 1)).toNat ((z1175, (x1165.2.1, x1165.2.2.1, x1165.2.2.2.1, x1165.2.2.2.2.1, x1165.2.2.2.2.2.1, x1165.2.2.2.2.2.2)))))).bind fun y1182 => agr x1181 y1182 (some x1181)).bind fun y1184 => agr x1183 y1184 (some x1183) : Option (((List (List UInt8)) × Int × (List ((List (Int × Int × Int × Int × Bool)) × (Int × Int × Int × (List Int) × (List Int) × (List Int))))))).bind fun (l997, i1001, l1002) => some ((qa2, qa3, qa4, qa5, l1002, qa7, l997, i1001)))
noncomputable def h_text_parser_code_p0kp1_iirrrododi_ki : Hn Tryd.prog := .mix [] [0, 1, 2, 3, 4, 5, 6, 7, 8, 9, 10, 11, 12, 13] [] [] (.cl ok_text_terminator_sp0_ki [] (.tw 30 (.wt 34 (.opn 12 1000020 (.per 17 18 (.per 19 20 (.per 21 22 (.cls 12 30 (.nil))))))) (.tr (.still [0, 1, 2, 3, 5, 6] (.alt 4 (.alt 7 (.alt 8 (.alt 9 (.still [10, 11] (.alt 12 (.leaf []) .done)) .done) .done) .done) (.alt 7 (.alt 4 (.alt 8 (.alt 9 (.still [10, 11] (.alt 12 (.leaf []) .done)) .done) .done) (.alt 8 (.alt 4 (.alt 9 (.still [10, 11] (.alt 12 (.leaf []) .done)) .done) .done) .done)) .done))) ⟨[], [⟨(some 1), 105, [.dat (.sl .str), .dat (.int .i64)], false, false, none, false⟩, ⟨(some 12), 0, [], false, false, some (.row 79 (.cons (.row 26 (.dat (.cons (.int .i64) (.cons (.int .i64) (.cons (.int .i64) (.cons (.int .i64) (.one .bool))))))) (.one (.dat (.cons (.int .i64) (.cons (.int .i64) (.cons (.int .i64) (.cons (.sl (.int .i64)) (.cons (.sl (.int .i64)) (.one (.sl (.int .i64)))))))))))), false⟩]⟩ [1, 12] (.two 0 (.wt 41 (.opn 12 1000020 (.cl ok_text_statement_kp0_ki [] (.cls 12 36 (.nil))))) (.cl ok_text_statement_kp0_ki [] (.two 0 (.wt 41 (.opn 12 1000020 (.cls 12 36 (.nil)))) (.wt 41 (.opn 12 1000020 (.cls 12 36 (.nil))))))) (.nil))))
noncomputable def sp_text_parser_code_p0kp1_iirrrododi_ki : Spec := ⟨59, ⟨[(0, .ptr 0 0), (1, .dat (.sl .str)), (2, .ptr 1 0)], [⟨none, 65, [.is 2 (.dat (.int .i64)), .is 3 (.dat (.int .i64)), .own 117 (.cons (.int .i64) (.one (.int .i64))), .own 24 (.one (.sl (.cons (.int .i64) (.one .bool)))), .own 51 (.cons (.int .i64) (.one .bool)), .od (.row 84 (.cons (.dat (.int .i64)) (.cons (.dat (.sl (.cons (.int .i64) (.one (.int .i64))))) (.cons (.row 24 (.dat (.one (.sl (.cons (.int .i64) (.one .bool)))))) (.one (.dat (.one (.sl (.cons (.int .i64) (.one .bool)))))))))), .od (.row 79 (.cons (.row 26 (.dat (.cons (.int .i64) (.cons (.int .i64) (.cons (.int .i64) (.cons (.int .i64) (.one .bool))))))) (.one (.dat (.cons (.int .i64) (.cons (.int .i64) (.cons (.int .i64) (.cons (.sl (.int .i64)) (.cons (.sl (.int .i64)) (.one (.sl (.int .i64)))))))))))), .dat (.int .i64)], false, false, none, false⟩, ⟨none, 105, [.dat (.sl .str), .dat (.int .i64)], false, false, none, false⟩, ⟨none, 0, [], false, true, none, false⟩, ⟨none, 0, [], false, true, none, false⟩]⟩, [⟨[], [⟨(some 0), 65, [.is 2 (.any), .is 3 (.any), .own 117 (.cons (.int .i64) (.one (.int .i64))), .own 24 (.one (.sl (.cons (.int .i64) (.one .bool)))), .own 51 (.cons (.int .i64) (.one .bool)), .od (.row 84 (.cons (.dat (.int .i64)) (.cons (.dat (.sl (.cons (.int .i64) (.one (.int .i64))))) (.cons (.row 24 (.dat (.one (.sl (.cons (.int .i64) (.one .bool)))))) (.one (.dat (.one (.sl (.cons (.int .i64) (.one .bool)))))))))), .od (.row 79 (.cons (.row 26 (.dat (.cons (.int .i64) (.cons (.int .i64) (.cons (.int .i64) (.cons (.int .i64) (.one .bool))))))) (.one (.dat (.cons (.int .i64) (.cons (.int .i64) (.cons (.int .i64) (.cons (.sl (.int .i64)) (.cons (.sl (.int .i64)) (.one (.sl (.int .i64)))))))))))), .dat (.int .i64)], false, false, none, false⟩, ⟨(some 1), 105, [.dat (.sl .str), .dat (.int .i64)], false, false, none, false⟩, ⟨(some 2), 0, [], false, true, none, false⟩, ⟨(some 3), 0, [], false, true, none, false⟩]⟩], fun x => fn_text_parser_code_p0kp1_iirrrododi_ki x.1 x.2.1 x.2.2.1 x.2.2.2.1 x.2.2.2.2.1 x.2.2.2.2.2.1 x.2.2.2.2.2.2.1 x.2.2.2.2.2.2.2.1 x.2.2.2.2.2.2.2.2.1 x.2.2.2.2.2.2.2.2.2.1 x.2.2.2.2.2.2.2.2.2.2⟩
theorem text_parser_code_p0kp1_iirrrododi_ki_is : SpecOk Tryd.prog sp_text_parser_code_p0kp1_iirrrododi_ki := fn_is Tryd.func59 h_text_parser_code_p0kp1_iirrrododi_ki (by kernel_rfl) (by kernel_rfl)
noncomputable def ok_text_parser_code_p0kp1_iirrrododi_ki : OkSpec Tryd.prog := ⟨sp_text_parser_code_p0kp1_iirrrododi_ki, text_parser_code_p0kp1_iirrrododi_ki_is, Tryd.call59⟩

noncomputable def fn_text_parser_head_p0sp1_iirrrododi_ki (xb : (List UInt8)) (qa0 : Int) (qa1 : Int) (qa2 : (List (Int × Int))) (qa3 : (List (List (Int × Bool)))) (qa4 : (List (Int × Bool))) (qa5 : (List (Int × (List (Int × Int)) × (List (List (Int × Bool))) × (List (Int × Bool))))) (qa6 : (List ((List (Int × Int × Int × Int × Bool)) × (Int × Int × Int × (List Int) × (List Int) × (List Int))))) (qa7 : Int) (qb0 : (List (List UInt8))) (qb1 : Int) : Option ((Int × Int × (List (Int × Int)) × (List (List (Int × Bool))) × (List (Int × Bool)) × (List (Int × (List (Int × Int)) × (List (List (Int × Bool))) × (List (Int × Bool)))) × (List ((List (Int × Int × Int × Int × Bool)) × (Int × Int × Int × (List Int) × (List Int) × (List Int)))) × Int × (List (List UInt8)) × Int)) :=
 cond (decide (xb = ([114, 101, 103, 105, 111, 110, 115] : List UInt8))) ((fn_text_reader_number_p0_ki qb0 qb1).bind fun (i1045, l1046, i1047) => (fn_text_reader_number_p0_ki l1046 i1047).bind fun (i1067, l1068, i1069) => some ((i1045, i1067, qa2, qa3, qa4, qa5, qa6, 1, l1068, i1069))) (cond (decide (xb = ([98, 111, 117, 110, 100, 115] : List UInt8))) ((fn_text_reader_bounds_p0_ki qb0 qb1).bind fun (l1094, l1095, i1096) => some ((qa0, qa1, l1094, qa3, qa4, qa5, qa6, 2, l1095, i1096))) (cond (decide (xb = ([108, 111, 99, 97, 108] : List UInt8))) ((fn_text_reader_typ_p0_ki qb0 qb1).bind fun (l1218, l1219, i1220) => (app qa3 (([l1218] : List (List (Int × Bool))))).bind fun z1237 => some ((qa0, qa1, qa2, z1237, qa4, qa5, qa6, qa7, l1219, i1220))) (cond (decide (xb = ([103, 105, 118, 101, 115] : List UInt8))) ((fn_text_reader_typ_p0_ki qb0 qb1).bind fun (l1261, l1262, i1263) => some ((qa0, qa1, qa2, qa3, l1261, qa5, qa6, 3, l1262, i1263))) (cond (decide (xb = ([115, 105, 103] : List UInt8))) ((fn_text_reader_number_p0_ki qb0 qb1).bind fun (i1290, l1291, i1292) => (fn_text_reader_typ_p0_ki l1291 i1292).bind fun (l1316, l1317, i1318) => (app (qa5 : List (Int × (List (Int × Int)) × (List (List (Int × Bool))) × (List (Int × Bool)))) (([(i1290, [], [], l1316)] : List (Int × (List (Int × Int)) × (List (List (Int × Bool))) × (List (Int × Bool)))) : List (Int × (List (Int × Int)) × (List (List (Int × Bool))) × (List (Int × Bool))))).bind fun z1354 => some ((qa0, qa1, qa2, qa3, qa4, z1354, qa6, 4, l1317, i1318))) (cond (decide (xb = ([110, 101, 101, 100, 115] : List UInt8))) ((fn_text_reader_bounds_p0_ki qb0 qb1).bind fun (l1430, l1431, i1432) => (getI qa5 (IntKind.wrap .i64 ((((qa5.length : Nat) : Int)) - 1))).bind fun _ => (getI qa5 (IntKind.wrap .i64 ((((qa5.length : Nat) : Int)) - 1))).bind fun x1443 => (chkI (IntKind.wrap .i64 ((((qa5.length : Nat) : Int)) - 1)) (IntKind.wrap .i64 ((((qa5.length : Nat) : Int)) - 1))).bind fun _ => some ((qa0, qa1, qa2, qa3, qa4, qa5.set (IntKind.wrap .i64 ((((qa5.length : Nat) : Int)) - 1)).toNat (x1443.1, l1430, x1443.2.2.1, x1443.2.2.2), qa6, 5, l1431, i1432))) (cond (decide (xb = ([97, 114, 103] : List UInt8))) ((getI qa5 (IntKind.wrap .i64 ((((qa5.length : Nat) : Int)) - 1))).bind fun _ => (((getI qa5 (IntKind.wrap .i64 ((((qa5.length : Nat) : Int)) - 1))).bind fun x1744 => (chkI (IntKind.wrap .i64 ((((qa5.length : Nat) : Int)) - 1)) (IntKind.wrap .i64 ((((qa5.length : Nat) : Int)) - 1))).bind fun _ => (fn_text_reader_typ_p0_ki qb0 qb1).bind fun (l1754, l1755, i1756) => (app x1744.2.2.1 (([l1754] : List (List (Int × Bool))))).bind fun z1773 => (chkI (IntKind.wrap .i64 ((((qa5.length : Nat) : Int)) - 1)) (IntKind.wrap .i64 ((((qa5.length : Nat) : Int)) - 1))).bind fun _ => some ((l1755, i1756, qa5.set (IntKind.wrap .i64 ((((qa5.length : Nat) : Int)) - 1)).toNat (x1744.1, x1744.2.1, z1773, x1744.2.2.2)))).bind fun x1836 => ((fn_text_reader_typ_p0_ki qb0 qb1).bind fun (l1781, l1782, i1783) => ((getI qa5 (IntKind.wrap .i64 ((((qa5.length : Nat) : Int)) - 1))).bind fun x1794 => (chkI (IntKind.wrap .i64 ((((qa5.length : Nat) : Int)) - 1)) (IntKind.wrap .i64 ((((qa5.length : Nat) : Int)) - 1))).bind fun _ => (app x1794.2.2.1 (([l1781] : List (List (Int × Bool))))).bind fun z1808 => (chkI (IntKind.wrap .i64 ((((qa5.length : Nat) : Int)) - 1)) (IntKind.wrap .i64 ((((qa5.length : Nat) : Int)) - 1))).bind fun _ => some ((l1782, i1783, qa5.set (IntKind.wrap .i64 ((((qa5.length : Nat) : Int)) - 1)).toNat (x1794.1, x1794.2.1, z1808, x1794.2.2.2)))).bind fun x1834 => ((getI qa5 (IntKind.wrap .i64 ((((qa5.length : Nat) : Int)) - 1))).bind fun x1820 => (chkI (IntKind.wrap .i64 ((((qa5.length : Nat) : Int)) - 1)) (IntKind.wrap .i64 ((((qa5.length : Nat) : Int)) - 1))).bind fun _ => (app x1820.2.2.1 (([l1781] : List (List (Int × Bool))))).bind fun z1828 => (chkI (IntKind.wrap .i64 ((((qa5.length : Nat) : Int)) - 1)) (IntKind.wrap .i64 ((((qa5.length : Nat) : Int)) - 1))).bind fun _ => some ((l1782, i1783, qa5.set (IntKind.wrap .i64 ((((qa5.length : Nat) : Int)) - 1)).toNat (x1820.1, x1820.2.1, z1828, x1820.2.2.2)))).bind fun y1835 => agr x1834 y1835 (some x1834)).bind fun y1837 => agr x1836 y1837 (some x1836) : Option (((List (List UInt8)) × Int × (List (Int × (List (Int × Int)) × (List (List (Int × Bool))) × (List (Int × Bool))))))).bind fun (l1644, i1648, l1649) => some ((qa0, qa1, qa2, qa3, qa4, l1649, qa6, qa7, l1644, i1648))) (cond (decide (xb = ([98, 108, 111, 99, 107] : List UInt8))) ((app (qa6 : List ((List (Int × Int × Int × Int × Bool)) × (Int × Int × Int × (List Int) × (List Int) × (List Int)))) (([([], (0, 0, 0, [], [], []))] : List ((List (Int × Int × Int × Int × Bool)) × (Int × Int × Int × (List Int) × (List Int) × (List Int)))) : List ((List (Int × Int × Int × Int × Bool)) × (Int × Int × Int × (List Int) × (List Int) × (List Int))))).bind fun z1844 => some ((qa0, qa1, qa2, qa3, qa4, qa5, z1844, 6, qb0, qb1))) (some ((qa0, qa1, qa2, qa3, qa4, qa5, qa6, qa7, qb0, qb1))))))))))
noncomputable def h_text_parser_head_p0sp1_iirrrododi_ki : Hn Tryd.prog := .tw 13 (.cl ok_text_reader_number_p0_ki [] (.cl ok_text_reader_number_p0_ki [] (.nil))) (.tw 28 (.cl ok_text_reader_bounds_p0_ki [] (.nil)) (.tw 38 (.mix [([0, 1, 2, 3, 4, 5], 6), ([], 7), ([], 8)] [9, 10] [11] [4, 1] (.cl ok_text_reader_typ_p0_ki [] (.per 15 16 (.nil)))) (.tw 51 (.cl ok_text_reader_typ_p0_ki [] (.nil)) (.tw 61 (.cl ok_text_reader_number_p0_ki [] (.cl ok_text_reader_typ_p0_ki [] (.per 20 21 (.mix [([0, 1, 2, 3, 4, 5], 6), ([], 7)] [8, 9] [10] [8] (.ot (.cons (.dat (.int .i64)) (.cons (.dat (.sl (.cons (.int .i64) (.one (.int .i64))))) (.cons (.row 24 (.dat (.one (.sl (.cons (.int .i64) (.one .bool)))))) (.one (.dat (.one (.sl (.cons (.int .i64) (.one .bool))))))))) (.ot (.cons (.dat (.int .i64)) (.cons (.dat (.sl (.cons (.int .i64) (.one (.int .i64))))) (.cons (.row 24 (.dat (.one (.sl (.cons (.int .i64) (.one .bool)))))) (.one (.dat (.one (.sl (.cons (.int .i64) (.one .bool))))))))) (.nil))))))) (.tw 82 (.mix [([0, 1, 2, 3, 4, 5, 6, 7, 8, 9, 10], 11)] [12, 13] [14] [1] (.cl ok_text_reader_bounds_p0_ki [] (.wt 97 (.opn 8 1000093 (.per 15 16 (.cls 8 21 (.nil))))))) (.tw 101 (.mix [] [0, 1, 2, 3, 4, 5, 6, 7, 8, 9, 10, 11] [] [] (.tr (.still [0, 1, 2, 3, 5] (.alt 4 (.alt 6 (.alt 7 (.alt 8 (.still [9, 10] (.alt 11 (.leaf []) .done)) .done) .done) .done) (.alt 6 (.alt 4 (.alt 7 (.alt 8 (.still [9, 10] (.alt 11 (.leaf []) .done)) .done) .done) (.alt 7 (.alt 4 (.alt 8 (.still [9, 10] (.alt 11 (.leaf []) .done)) .done) .done) .done)) .done))) ⟨[], [⟨(some 1), 105, [.dat (.sl .str), .dat (.int .i64)], false, false, none, false⟩, ⟨(some 8), 0, [], false, false, some (.row 84 (.cons (.dat (.int .i64)) (.cons (.dat (.sl (.cons (.int .i64) (.one (.int .i64))))) (.cons (.row 24 (.dat (.one (.sl (.cons (.int .i64) (.one .bool)))))) (.one (.dat (.one (.sl (.cons (.int .i64) (.one .bool)))))))))), false⟩]⟩ [1, 8] (.two 0 (.wt 117 (.opn 8 1000112 (.cl ok_text_reader_typ_p0_ki [] (.per 18 19 (.cls 8 25 (.nil)))))) (.cl ok_text_reader_typ_p0_ki [] (.two 0 (.wt 117 (.opn 8 1000112 (.per 15 16 (.cls 8 25 (.nil))))) (.per 15 16 (.wt 117 (.opn 8 1000112 (.cls 8 25 (.nil)))))))) (.nil))) (.tw 125 (.ot (.cons (.row 26 (.dat (.cons (.int .i64) (.cons (.int .i64) (.cons (.int .i64) (.cons (.int .i64) (.one .bool))))))) (.one (.dat (.cons (.int .i64) (.cons (.int .i64) (.cons (.int .i64) (.cons (.sl (.int .i64)) (.cons (.sl (.int .i64)) (.one (.sl (.int .i64))))))))))) (.ot (.cons (.row 26 (.dat (.cons (.int .i64) (.cons (.int .i64) (.cons (.int .i64) (.cons (.int .i64) (.one .bool))))))) (.one (.dat (.cons (.int .i64) (.cons (.int .i64) (.cons (.int .i64) (.cons (.sl (.int .i64)) (.cons (.sl (.int .i64)) (.one (.sl (.int .i64))))))))))) (.nil))) (.nil))))))))
noncomputable def sp_text_parser_head_p0sp1_iirrrododi_ki : Spec := ⟨60, ⟨[(0, .ptr 0 0), (1, .dat .str), (2, .ptr 1 0)], [⟨none, 65, [.dat (.int .i64), .dat (.int .i64), .own 117 (.cons (.int .i64) (.one (.int .i64))), .own 24 (.one (.sl (.cons (.int .i64) (.one .bool)))), .own 51 (.cons (.int .i64) (.one .bool)), .od (.row 84 (.cons (.dat (.int .i64)) (.cons (.dat (.sl (.cons (.int .i64) (.one (.int .i64))))) (.cons (.row 24 (.dat (.one (.sl (.cons (.int .i64) (.one .bool)))))) (.one (.dat (.one (.sl (.cons (.int .i64) (.one .bool)))))))))), .od (.row 79 (.cons (.row 26 (.dat (.cons (.int .i64) (.cons (.int .i64) (.cons (.int .i64) (.cons (.int .i64) (.one .bool))))))) (.one (.dat (.cons (.int .i64) (.cons (.int .i64) (.cons (.int .i64) (.cons (.sl (.int .i64)) (.cons (.sl (.int .i64)) (.one (.sl (.int .i64)))))))))))), .dat (.int .i64)], false, false, none, false⟩, ⟨none, 105, [.dat (.sl .str), .dat (.int .i64)], false, false, none, false⟩]⟩, [⟨[], [⟨(some 0), 65, [.dat (.int .i64), .dat (.int .i64), .own 117 (.cons (.int .i64) (.one (.int .i64))), .own 24 (.one (.sl (.cons (.int .i64) (.one .bool)))), .own 51 (.cons (.int .i64) (.one .bool)), .od (.row 84 (.cons (.dat (.int .i64)) (.cons (.dat (.sl (.cons (.int .i64) (.one (.int .i64))))) (.cons (.row 24 (.dat (.one (.sl (.cons (.int .i64) (.one .bool)))))) (.one (.dat (.one (.sl (.cons (.int .i64) (.one .bool)))))))))), .od (.row 79 (.cons (.row 26 (.dat (.cons (.int .i64) (.cons (.int .i64) (.cons (.int .i64) (.cons (.int .i64) (.one .bool))))))) (.one (.dat (.cons (.int .i64) (.cons (.int .i64) (.cons (.int .i64) (.cons (.sl (.int .i64)) (.cons (.sl (.int .i64)) (.one (.sl (.int .i64)))))))))))), .dat (.int .i64)], false, false, none, false⟩, ⟨(some 1), 105, [.dat (.sl .str), .dat (.int .i64)], false, false, none, false⟩]⟩], fun x => fn_text_parser_head_p0sp1_iirrrododi_ki x.1 x.2.1 x.2.2.1 x.2.2.2.1 x.2.2.2.2.1 x.2.2.2.2.2.1 x.2.2.2.2.2.2.1 x.2.2.2.2.2.2.2.1 x.2.2.2.2.2.2.2.2.1 x.2.2.2.2.2.2.2.2.2.1 x.2.2.2.2.2.2.2.2.2.2⟩
theorem text_parser_head_p0sp1_iirrrododi_ki_is : SpecOk Tryd.prog sp_text_parser_head_p0sp1_iirrrododi_ki := fn_is Tryd.func60 h_text_parser_head_p0sp1_iirrrododi_ki (by kernel_rfl) (by kernel_rfl)
noncomputable def ok_text_parser_head_p0sp1_iirrrododi_ki : OkSpec Tryd.prog := ⟨sp_text_parser_head_p0sp1_iirrrododi_ki, text_parser_head_p0sp1_iirrrododi_ki_is, Tryd.call60⟩

noncomputable def fn_text_parser_line_p0k_iirrrododi (xb : (List (List UInt8))) (qa0 : Int) (qa1 : Int) (qa2 : (List (Int × Int))) (qa3 : (List (List (Int × Bool)))) (qa4 : (List (Int × Bool))) (qa5 : (List (Int × (List (Int × Int)) × (List (List (Int × Bool))) × (List (Int × Bool))))) (qa6 : (List ((List (Int × Int × Int × Int × Bool)) × (Int × Int × Int × (List Int) × (List Int) × (List Int))))) (qa7 : Int) : Option ((Int × Int × Int × (List (Int × Int)) × (List (List (Int × Bool))) × (List (Int × Bool)) × (List (Int × (List (Int × Int)) × (List (List (Int × Bool))) × (List (Int × Bool)))) × (List ((List (Int × Int × Int × Int × Bool)) × (Int × Int × Int × (List Int) × (List Int) × (List Int)))) × Int)) :=
 (getI xb 0).bind fun x508 => (fn_text_many x508).bind fun (i519, i520) => (getI xb 0).bind fun x565 => (fn_text_parser_mayStand_p0s_iirrrododi x565 qa0 qa1 qa2 qa3 qa4 qa5 qa6 qa7).bind fun (t576, l577, l578, l579, l580, l581) => cond (((!t576) || (decide ((((xb.length : Nat) : Int)) < i519))) || (decide (i520 < (((xb.length : Nat) : Int))))) (some ((3, qa0, qa1, l577, l578, l579, l580, l581, qa7))) ((subL xb 1 (((xb.length : Nat) : Int))).bind fun y614 => (cond (decide (qa7 = 6)) ((fn_text_parser_code_p0kp1_iirrrododi_ki xb qa0 qa1 l577 l578 l579 l580 l581 qa7 y614 0).bind fun (l840, l841, l842, l843, l844, i845, l846, i847) => some ((qa0, qa1, l840, l841, l842, l843, l844, i845, l846, i847))) ((getI xb 0).bind fun x915 => (fn_text_parser_head_p0sp1_iirrrododi_ki x915 qa0 qa1 l577 l578 l579 l580 l581 qa7 y614 0).bind fun (i926, i927, l928, l929, l930, l931, l932, i933, l934, i935) => some ((i926, i927, l928, l929, l930, l931, l932, i933, l934, i935))) : Option ((Int × Int × (List (Int × Int)) × (List (List (Int × Bool))) × (List (Int × Bool)) × (List (Int × (List (Int × Int)) × (List (List (Int × Bool))) × (List (Int × Bool)))) × (List ((List (Int × Int × Int × Int × Bool)) × (Int × Int × Int × (List Int) × (List Int) × (List Int)))) × Int × (List (List UInt8)) × Int))).bind fun (i777, i778, l779, l784, l789, l794, l796, i798, l799, i803) => some ((i803, i777, i778, l779, l784, l789, l794, l796, i798)))
noncomputable def h_text_parser_line_p0k_iirrrododi : Hn Tryd.prog := .cl ok_text_many [] (.mc 0 0 11 (.mc 0 1 11 (.mc 0 7 11 (.cl ok_text_parser_mayStand_p0s_iirrrododi [] (.gp 4 (.wt 27 (.gp 4 (.tw 32 (.nil) (.pl (.sq [] ⟨[], [⟨(some 0), 65, [.dat (.int .i64), .dat (.int .i64), .own 117 (.cons (.int .i64) (.one (.int .i64))), .own 24 (.one (.sl (.cons (.int .i64) (.one .bool)))), .own 51 (.cons (.int .i64) (.one .bool)), .od (.row 84 (.cons (.dat (.int .i64)) (.cons (.dat (.sl (.cons (.int .i64) (.one (.int .i64))))) (.cons (.row 24 (.dat (.one (.sl (.cons (.int .i64) (.one .bool)))))) (.one (.dat (.one (.sl (.cons (.int .i64) (.one .bool)))))))))), .od (.row 79 (.cons (.row 26 (.dat (.cons (.int .i64) (.cons (.int .i64) (.cons (.int .i64) (.cons (.int .i64) (.one .bool))))))) (.one (.dat (.cons (.int .i64) (.cons (.int .i64) (.cons (.int .i64) (.cons (.sl (.int .i64)) (.cons (.sl (.int .i64)) (.one (.sl (.int .i64)))))))))))), .dat (.int .i64)], false, false, none, false⟩, ⟨(some 37), 105, [.dat (.sl .str), .dat (.int .i64)], false, false, none, false⟩]⟩ [37, 30, 28, 26, 0, 32, 34] (.tw 41 (.cl ok_text_parser_code_p0kp1_iirrrododi_ki [] (.nil)) (.cl ok_text_parser_head_p0sp1_iirrrododi_ki [] (.nil))) (.nil)))))))))))
noncomputable def sp_text_parser_line_p0k_iirrrododi : Spec := ⟨36, ⟨[(0, .ptr 0 0), (1, .dat (.sl .str))], [⟨none, 65, [.dat (.int .i64), .dat (.int .i64), .own 117 (.cons (.int .i64) (.one (.int .i64))), .own 24 (.one (.sl (.cons (.int .i64) (.one .bool)))), .own 51 (.cons (.int .i64) (.one .bool)), .od (.row 84 (.cons (.dat (.int .i64)) (.cons (.dat (.sl (.cons (.int .i64) (.one (.int .i64))))) (.cons (.row 24 (.dat (.one (.sl (.cons (.int .i64) (.one .bool)))))) (.one (.dat (.one (.sl (.cons (.int .i64) (.one .bool)))))))))), .od (.row 79 (.cons (.row 26 (.dat (.cons (.int .i64) (.cons (.int .i64) (.cons (.int .i64) (.cons (.int .i64) (.one .bool))))))) (.one (.dat (.cons (.int .i64) (.cons (.int .i64) (.cons (.int .i64) (.cons (.sl (.int .i64)) (.cons (.sl (.int .i64)) (.one (.sl (.int .i64)))))))))))), .dat (.int .i64)], false, false, none, false⟩]⟩, [⟨[(0, .dat (.int .i64))], [⟨(some 0), 65, [.dat (.int .i64), .dat (.int .i64), .own 117 (.cons (.int .i64) (.one (.int .i64))), .own 24 (.one (.sl (.cons (.int .i64) (.one .bool)))), .own 51 (.cons (.int .i64) (.one .bool)), .od (.row 84 (.cons (.dat (.int .i64)) (.cons (.dat (.sl (.cons (.int .i64) (.one (.int .i64))))) (.cons (.row 24 (.dat (.one (.sl (.cons (.int .i64) (.one .bool)))))) (.one (.dat (.one (.sl (.cons (.int .i64) (.one .bool)))))))))), .od (.row 79 (.cons (.row 26 (.dat (.cons (.int .i64) (.cons (.int .i64) (.cons (.int .i64) (.cons (.int .i64) (.one .bool))))))) (.one (.dat (.cons (.int .i64) (.cons (.int .i64) (.cons (.int .i64) (.cons (.sl (.int .i64)) (.cons (.sl (.int .i64)) (.one (.sl (.int .i64)))))))))))), .dat (.int .i64)], false, false, none, false⟩]⟩], fun x => fn_text_parser_line_p0k_iirrrododi x.1 x.2.1 x.2.2.1 x.2.2.2.1 x.2.2.2.2.1 x.2.2.2.2.2.1 x.2.2.2.2.2.2.1 x.2.2.2.2.2.2.2.1 x.2.2.2.2.2.2.2.2⟩
theorem text_parser_line_p0k_iirrrododi_is : SpecOk Tryd.prog sp_text_parser_line_p0k_iirrrododi := fn_is Tryd.func36 h_text_parser_line_p0k_iirrrododi (by kernel_rfl) (by kernel_rfl)
noncomputable def ok_text_parser_line_p0k_iirrrododi : OkSpec Tryd.prog := ⟨sp_text_parser_line_p0k_iirrrododi, text_parser_line_p0k_iirrrododi_is, Tryd.call36⟩

noncomputable def fn_text_parser_mayEnd_p0_iirrrododi (qa0 : Int) (qa1 : Int) (qa2 : (List (Int × Int))) (qa3 : (List (List (Int × Bool)))) (qa4 : (List (Int × Bool))) (qa5 : (List (Int × (List (Int × Int)) × (List (List (Int × Bool))) × (List (Int × Bool))))) (qa6 : (List ((List (Int × Int × Int × Int × Bool)) × (Int × Int × Int × (List Int) × (List Int) × (List Int))))) (qa7 : Int) : Option ((Bool × (List (Int × Int)) × (List (List (Int × Bool))) × (List (Int × Bool)) × (List (Int × (List (Int × Int)) × (List (List (Int × Bool))) × (List (Int × Bool)))) × (List ((List (Int × Int × Int × Int × Bool)) × (Int × Int × Int × (List Int) × (List Int) × (List Int)))))) :=
 some ((((decide (qa7 = 3)) || (decide (qa7 = 5))) || (decide (qa7 = 7)), qa2, qa3, qa4, qa5, qa6))
noncomputable def h_text_parser_mayEnd_p0_iirrrododi : Hn Tryd.prog := .gp 5 (.wt 15 (.gp 5 (.nil)))
noncomputable def sp_text_parser_mayEnd_p0_iirrrododi : Spec := ⟨37, ⟨[(0, .ptr 0 0)], [⟨none, 65, [.is 1 (.dat (.int .i64)), .is 2 (.dat (.int .i64)), .own 117 (.cons (.int .i64) (.one (.int .i64))), .own 24 (.one (.sl (.cons (.int .i64) (.one .bool)))), .own 51 (.cons (.int .i64) (.one .bool)), .od (.row 84 (.cons (.dat (.int .i64)) (.cons (.dat (.sl (.cons (.int .i64) (.one (.int .i64))))) (.cons (.row 24 (.dat (.one (.sl (.cons (.int .i64) (.one .bool)))))) (.one (.dat (.one (.sl (.cons (.int .i64) (.one .bool)))))))))), .od (.row 79 (.cons (.row 26 (.dat (.cons (.int .i64) (.cons (.int .i64) (.cons (.int .i64) (.cons (.int .i64) (.one .bool))))))) (.one (.dat (.cons (.int .i64) (.cons (.int .i64) (.cons (.int .i64) (.cons (.sl (.int .i64)) (.cons (.sl (.int .i64)) (.one (.sl (.int .i64)))))))))))), .is 3 (.dat (.int .i64))], false, false, none, false⟩, ⟨none, 0, [], false, true, none, false⟩, ⟨none, 0, [], false, true, none, false⟩, ⟨none, 0, [], false, true, none, false⟩]⟩, [⟨[(0, .dat .bool)], [⟨(some 0), 65, [.is 1 (.any), .is 2 (.any), .own 117 (.cons (.int .i64) (.one (.int .i64))), .own 24 (.one (.sl (.cons (.int .i64) (.one .bool)))), .own 51 (.cons (.int .i64) (.one .bool)), .od (.row 84 (.cons (.dat (.int .i64)) (.cons (.dat (.sl (.cons (.int .i64) (.one (.int .i64))))) (.cons (.row 24 (.dat (.one (.sl (.cons (.int .i64) (.one .bool)))))) (.one (.dat (.one (.sl (.cons (.int .i64) (.one .bool)))))))))), .od (.row 79 (.cons (.row 26 (.dat (.cons (.int .i64) (.cons (.int .i64) (.cons (.int .i64) (.cons (.int .i64) (.one .bool))))))) (.one (.dat (.cons (.int .i64) (.cons (.int .i64) (.cons (.int .i64) (.cons (.sl (.int .i64)) (.cons (.sl (.int .i64)) (.one (.sl (.int .i64)))))))))))), .is 3 (.any)], false, false, none, false⟩, ⟨(some 1), 0, [], false, true, none, false⟩, ⟨(some 2), 0, [], false, true, none, false⟩, ⟨(some 3), 0, [], false, true, none, false⟩]⟩], fun x => fn_text_parser_mayEnd_p0_iirrrododi x.1 x.2.1 x.2.2.1 x.2.2.2.1 x.2.2.2.2.1 x.2.2.2.2.2.1 x.2.2.2.2.2.2.1 x.2.2.2.2.2.2.2⟩
theorem text_parser_mayEnd_p0_iirrrododi_is : SpecOk Tryd.prog sp_text_parser_mayEnd_p0_iirrrododi := fn_is Tryd.func37 h_text_parser_mayEnd_p0_iirrrododi (by kernel_rfl) (by kernel_rfl)
noncomputable def ok_text_parser_mayEnd_p0_iirrrododi : OkSpec Tryd.prog := ⟨sp_text_parser_mayEnd_p0_iirrrododi, text_parser_mayEnd_p0_iirrrododi_is, Tryd.call37⟩
noncomputable def fn_text_Parse_l1  : (Int × Int × (List (Int × Int)) × (List (List (Int × Bool))) × (List (Int × Bool)) × (List (Int × (List (Int × Int)) × (List (List (Int × Bool))) × (List (Int × Bool)))) × (List ((List (Int × Int × Int × Int × Bool)) × (Int × Int × Int × (List Int) × (List Int) × (List Int)))) × Int × Int × List UInt8) → Option ((Int × Int × (List (Int × Int)) × (List (List (Int × Bool))) × (List (Int × Bool)) × (List (Int × (List (Int × Int)) × (List (List (Int × Bool))) × (List (Int × Bool)))) × (List ((List (Int × Int × Int × Int × Bool)) × (Int × Int × Int × (List Int) × (List Int) × (List Int)))) × Int × Int × List UInt8) ⊕ ((Int × Int × (List (Int × Int)) × (List (List (Int × Bool))) × (List (Int × Bool)) × (List (Int × (List (Int × Int)) × (List (List (Int × Bool))) × (List (Int × Bool)))) × (List ((List (Int × Int × Int × Int × Bool)) × (Int × Int × Int × (List Int) × (List Int) × (List Int)))) × Int × Int × List UInt8) ⊕ (Int × Int × (List (Int × Int)) × (List (List (Int × Bool))) × (List (Int × Bool)) × (List (Int × (List (Int × Int)) × (List (List (Int × Bool))) × (List (Int × Bool)))) × (List ((List (Int × Int × Int × Int × Bool)) × (Int × Int × Int × (List Int) × (List Int) × (List Int)))) × Int × Int))) := fun ((i3337, i3338, l3339, l3344, l3349, l3354, l3356, i3358, i3359, s3360) : (Int × Int × (List (Int × Int)) × (List (List (Int × Bool))) × (List (Int × Bool)) × (List (Int × (List (Int × Int)) × (List (List (Int × Bool))) × (List (Int × Bool)))) × (List ((List (Int × Int × Int × Int × Bool)) × (Int × Int × Int × (List Int) × (List Int) × (List Int)))) × Int × Int × List UInt8)) => cond (decide (0 < (((s3360.length : Nat) : Int)))) ((fn_unicode_utf8_DecodeRuneInString s3360).bind fun (v3584, v3585) => (subL s3360 0 v3585).bind fun y3589 => (splF y3589 ([32] : List UInt8)).bind fun l3605 => (fn_slices_DeleteFunc_string_string_r_text_Parse_1 l3605).bind fun l3611 => (cond (decide ((((l3611.length : Nat) : Int)) = 0)) (some (true)) ((getI l3611 0).bind fun x3670 => (fn_strings_HasPrefix x3670 ([35] : List UInt8)).bind fun t3681 => some (t3681))).bind fun t3668 => cond (t3668) ((subL s3360 v3585 (((s3360.length : Nat) : Int))).bind fun y3688 => some (.inl ((i3337, i3338, l3339, l3344, l3349, l3354, l3356, i3358, IntKind.wrap .i64 (i3359 + 1), y3688)))) ((fn_text_parser_line_p0k_iirrrododi l3611 i3337 i3338 l3339 l3344 l3349 l3354 l3356 i3358).bind fun (i3723, i3724, i3725, l3726, l3727, l3728, l3729, l3730, i3731) => cond (!decide (i3723 = 0)) (some (.inr ((.inr ((0, 0, [], [], [], [], [], IntKind.wrap .i64 (i3359 + 1), i3723)))))) ((subL s3360 v3585 (((s3360.length : Nat) : Int))).bind fun y3758 => some (.inl ((i3724, i3725, l3726, l3727, l3728, l3729, l3730, i3731, IntKind.wrap .i64 (i3359 + 1), y3758)))))) (some (.inr ((.inl (i3337, i3338, l3339, l3344, l3349, l3354, l3356, i3358, i3359, s3360)))))
noncomputable def fn_text_Parse_l2 (s2625 : List UInt8) (i2627 : Int) : (Int × Int × (List (Int × Int)) × (List (List (Int × Bool))) × (List (Int × Bool)) × (List (Int × (List (Int × Int)) × (List (List (Int × Bool))) × (List (Int × Bool)))) × (List ((List (Int × Int × Int × Int × Bool)) × (Int × Int × Int × (List Int) × (List Int) × (List Int)))) × Int × Int × List UInt8) → Option ((Int × Int × (List (Int × Int)) × (List (List (Int × Bool))) × (List (Int × Bool)) × (List (Int × (List (Int × Int)) × (List (List (Int × Bool))) × (List (Int × Bool)))) × (List ((List (Int × Int × Int × Int × Bool)) × (Int × Int × Int × (List Int) × (List Int) × (List Int)))) × Int × Int × List UInt8) ⊕ ((Int × Int × (List (Int × Int)) × (List (List (Int × Bool))) × (List (Int × Bool)) × (List (Int × (List (Int × Int)) × (List (List (Int × Bool))) × (List (Int × Bool)))) × (List ((List (Int × Int × Int × Int × Bool)) × (Int × Int × Int × (List Int) × (List Int) × (List Int)))) × Int × Int × List UInt8) ⊕ (Int × Int × (List (Int × Int)) × (List (List (Int × Bool))) × (List (Int × Bool)) × (List (Int × (List (Int × Int)) × (List (List (Int × Bool))) × (List (Int × Bool)))) × (List ((List (Int × Int × Int × Int × Bool)) × (Int × Int × Int × (List Int) × (List Int) × (List Int)))) × Int × Int))) := fun ((i4520, i4521, l4522, l4527, l4532, l4537, l4539, i4541, i4542, s4543) : (Int × Int × (List (Int × Int)) × (List (List (Int × Bool))) × (List (Int × Bool)) × (List (Int × (List (Int × Int)) × (List (List (Int × Bool))) × (List (Int × Bool)))) × (List ((List (Int × Int × Int × Int × Bool)) × (Int × Int × Int × (List Int) × (List Int) × (List Int)))) × Int × Int × List UInt8)) => (idxF s4543 s2625).bind fun i4765 => cond (decide (i4765 < 0)) (some (.inr ((.inl (i4520, i4521, l4522, l4527, l4532, l4537, l4539, i4541, i4542, s4543))))) ((subL s4543 0 (IntKind.wrap .i64 (i4765 + i2627))).bind fun y4772 => (splF y4772 ([32] : List UInt8)).bind fun l4788 => (fn_slices_DeleteFunc_string_string_r_text_Parse_1 l4788).bind fun l4794 => (cond (decide ((((l4794.length : Nat) : Int)) = 0)) (some (true)) ((getI l4794 0).bind fun x4853 => (fn_strings_HasPrefix x4853 ([35] : List UInt8)).bind fun t4864 => some (t4864))).bind fun t4851 => cond (t4851) ((subL s4543 (IntKind.wrap .i64 (i4765 + (((s2625.length : Nat) : Int)))) (((s4543.length : Nat) : Int))).bind fun y4871 => some (.inl ((i4520, i4521, l4522, l4527, l4532, l4537, l4539, i4541, IntKind.wrap .i64 (i4542 + 1), y4871)))) ((fn_text_parser_line_p0k_iirrrododi l4794 i4520 i4521 l4522 l4527 l4532 l4537 l4539 i4541).bind fun (i4906, i4907, i4908, l4909, l4910, l4911, l4912, l4913, i4914) => cond (!decide (i4906 = 0)) (some (.inr ((.inr ((0, 0, [], [], [], [], [], IntKind.wrap .i64 (i4542 + 1), i4906)))))) ((subL s4543 (IntKind.wrap .i64 (i4765 + (((s2625.length : Nat) : Int)))) (((s4543.length : Nat) : Int))).bind fun y4941 => some (.inl ((i4907, i4908, l4909, l4910, l4911, l4912, l4913, i4914, IntKind.wrap .i64 (i4542 + 1), y4941))))))
noncomputable def fn_text_Parse (xa : (List UInt8)) : Option ((Int × Int × (List (Int × Int)) × (List (List (Int × Bool))) × (List (Int × Bool)) × (List (Int × (List (Int × Int)) × (List (List (Int × Bool))) × (List (Int × Bool)))) × (List ((List (Int × Int × Int × Int × Bool)) × (Int × Int × Int × (List Int) × (List Int) × (List Int)))) × Int × Int)) :=
 cond (decide (1048576 < (((xa.length : Nat) : Int)))) (some ((0, 0, [], [], [], [], [], 0, 5))) ((fn_strings_SplitSeq xa ([10] : List UInt8)).bind fun (s2625, s2626, i2627) => cond (decide ((((s2625.length : Nat) : Int)) = 0)) ((loop (fn_text_Parse_l1) (0, 0, [], [], [], [], [], 0, 0, s2626) : Option ((Int × Int × (List (Int × Int)) × (List (List (Int × Bool))) × (List (Int × Bool)) × (List (Int × (List (Int × Int)) × (List (List (Int × Bool))) × (List (Int × Bool)))) × (List ((List (Int × Int × Int × Int × Bool)) × (Int × Int × Int × (List Int) × (List Int) × (List Int)))) × Int × Int × List UInt8) ⊕ (Int × Int × (List (Int × Int)) × (List (List (Int × Bool))) × (List (Int × Bool)) × (List (Int × (List (Int × Int)) × (List (List (Int × Bool))) × (List (Int × Bool)))) × (List ((List (Int × Int × Int × Int × Bool)) × (Int × Int × Int × (List Int) × (List Int) × (List Int)))) × Int × Int))).bind fun o => match o with | .inr r => some r | .inl (i3185, i3186, l3187, l3192, l3197, l3202, l3204, i3206, i3207, s3208) => (fn_text_parser_mayEnd_p0_iirrrododi i3185 i3186 l3187 l3192 l3197 l3202 l3204 i3206).bind fun (t3791, l3792, l3793, l3794, l3795, l3796) => cond (!t3791) (some ((0, 0, [], [], [], [], [], 0, 14))) (some ((i3185, i3186, l3792, l3793, l3794, l3795, l3796, 0, 0)))) ((loop (fn_text_Parse_l2 s2625 i2627) (0, 0, [], [], [], [], [], 0, 0, s2626) : Option ((Int × Int × (List (Int × Int)) × (List (List (Int × Bool))) × (List (Int × Bool)) × (List (Int × (List (Int × Int)) × (List (List (Int × Bool))) × (List (Int × Bool)))) × (List ((List (Int × Int × Int × Int × Bool)) × (Int × Int × Int × (List Int) × (List Int) × (List Int)))) × Int × Int × List UInt8) ⊕ (Int × Int × (List (Int × Int)) × (List (List (Int × Bool))) × (List (Int × Bool)) × (List (Int × (List (Int × Int)) × (List (List (Int × Bool))) × (List (Int × Bool)))) × (List ((List (Int × Int × Int × Int × Bool)) × (Int × Int × Int × (List Int) × (List Int) × (List Int)))) × Int × Int))).bind fun o => match o with | .inr r => some r | .inl (i4369, i4370, l4371, l4376, l4381, l4386, l4388, i4390, i4391, s4392) => (splF s4392 ([32] : List UInt8)).bind fun l4958 => (fn_slices_DeleteFunc_string_string_r_text_Parse_1 l4958).bind fun l4964 => (cond (decide ((((l4964.length : Nat) : Int)) = 0)) (some (true)) ((getI l4964 0).bind fun x5023 => (fn_strings_HasPrefix x5023 ([35] : List UInt8)).bind fun t5034 => some (t5034))).bind fun t5021 => cond (t5021) ((fn_text_parser_mayEnd_p0_iirrrododi i4369 i4370 l4371 l4376 l4381 l4386 l4388 i4390).bind fun (t5069, l5070, l5071, l5072, l5073, l5074) => cond (!t5069) (some ((0, 0, [], [], [], [], [], 0, 14))) (some ((i4369, i4370, l5070, l5071, l5072, l5073, l5074, 0, 0)))) ((fn_text_parser_line_p0k_iirrrododi l4964 i4369 i4370 l4371 l4376 l4381 l4386 l4388 i4390).bind fun (i5132, i5133, i5134, l5135, l5136, l5137, l5138, l5139, i5140) => cond (!decide (i5132 = 0)) (some ((0, 0, [], [], [], [], [], IntKind.wrap .i64 (i4391 + 1), i5132))) ((fn_text_parser_mayEnd_p0_iirrrododi i5133 i5134 l5135 l5136 l5137 l5138 l5139 i5140).bind fun (t5195, l5196, l5197, l5198, l5199, l5200) => cond (!t5195) (some ((0, 0, [], [], [], [], [], 0, 14))) (some ((i5133, i5134, l5196, l5197, l5198, l5199, l5200, 0, 0)))))))
noncomputable def h_text_Parse : Hn Tryd.prog := .tw 12 (.nil) (.cl ok_strings_SplitSeq [] (.rg ⟨74, _, Tryd.func74, Tryd.call74⟩ (.tw 11 (.jx [] ⟨[], [⟨(some 0), 45, [.lit (.int .i64 0), .lit (.int .i64 0), .nils, .nils, .nils, .nils, .nils], false, false, none, false⟩, ⟨(some 2), 3, [.lit (.int .i64 0)], false, false, none, false⟩, ⟨(some 4), 32, [.lit (.int .i64 0)], false, false, none, false⟩, ⟨(some 6), 65, [.dat (.int .i64), .dat (.int .i64), .own 117 (.cons (.int .i64) (.one (.int .i64))), .own 24 (.one (.sl (.cons (.int .i64) (.one .bool)))), .own 51 (.cons (.int .i64) (.one .bool)), .od (.row 84 (.cons (.dat (.int .i64)) (.cons (.dat (.sl (.cons (.int .i64) (.one (.int .i64))))) (.cons (.row 24 (.dat (.one (.sl (.cons (.int .i64) (.one .bool)))))) (.one (.dat (.one (.sl (.cons (.int .i64) (.one .bool)))))))))), .od (.row 79 (.cons (.row 26 (.dat (.cons (.int .i64) (.cons (.int .i64) (.cons (.int .i64) (.cons (.int .i64) (.one .bool))))))) (.one (.dat (.cons (.int .i64) (.cons (.int .i64) (.cons (.int .i64) (.cons (.sl (.int .i64)) (.cons (.sl (.int .i64)) (.one (.sl (.int .i64)))))))))))), .dat (.int .i64)], false, false, none, false⟩, ⟨(some 9), 3, [.dat (.int .i64)], false, false, none, false⟩, ⟨(some 13), 9, [.dat .str], false, false, none, false⟩, ⟨(some 18), 0, [], false, false, none, true⟩]⟩ [18, 13, 9, 6, 4, 2, 0] (.lp ⟨[], [⟨(some 0), 45, [.lit (.int .i64 0), .lit (.int .i64 0), .nils, .nils, .nils, .nils, .nils], false, false, none, false⟩, ⟨(some 2), 3, [.lit (.int .i64 0)], false, false, none, false⟩, ⟨(some 4), 32, [.lit (.int .i64 0)], false, false, none, false⟩, ⟨(some 6), 65, [.dat (.int .i64), .dat (.int .i64), .own 117 (.cons (.int .i64) (.one (.int .i64))), .own 24 (.one (.sl (.cons (.int .i64) (.one .bool)))), .own 51 (.cons (.int .i64) (.one .bool)), .od (.row 84 (.cons (.dat (.int .i64)) (.cons (.dat (.sl (.cons (.int .i64) (.one (.int .i64))))) (.cons (.row 24 (.dat (.one (.sl (.cons (.int .i64) (.one .bool)))))) (.one (.dat (.one (.sl (.cons (.int .i64) (.one .bool)))))))))), .od (.row 79 (.cons (.row 26 (.dat (.cons (.int .i64) (.cons (.int .i64) (.cons (.int .i64) (.cons (.int .i64) (.one .bool))))))) (.one (.dat (.cons (.int .i64) (.cons (.int .i64) (.cons (.int .i64) (.cons (.sl (.int .i64)) (.cons (.sl (.int .i64)) (.one (.sl (.int .i64)))))))))))), .dat (.int .i64)], false, false, none, false⟩, ⟨(some 9), 3, [.dat (.int .i64)], false, false, none, false⟩, ⟨(some 13), 9, [.dat .str], false, false, none, false⟩, ⟨(some 18), 0, [], false, false, none, true⟩]⟩ (.tw 14 (.cl ok_unicode_utf8_DecodeRuneInString [] (.yl 4 (.cl ok_Split [] (.cl ok_slices_DeleteFunc_string_string_r_text_Parse_1 [] (.gj 4 ⟨[(31, .dat .bool)], []⟩ [] (.two 26 (.nil) (.cl ok_strings_HasPrefix [] (.nil))) (.tw 31 (.nil) (.cl ok_text_parser_line_p0k_iirrrododi [] (.tw 35 (.mix [([0, 1, 2], 3), ([], 4)] [] [5] [0, 2] (.nil)) (.nil))))))))) (.nil))) (.wt 1000035 (.mc 6 0 32 (.mc 6 1 32 (.mc 6 7 32 (.cl ok_text_parser_mayEnd_p0_iirrrododi [] (.tw 40 (.nil) (.nil)))))))) (.jx [] ⟨[], [⟨(some 0), 45, [.lit (.int .i64 0), .lit (.int .i64 0), .nils, .nils, .nils, .nils, .nils], false, false, none, false⟩, ⟨(some 2), 3, [.lit (.int .i64 0)], false, false, none, false⟩, ⟨(some 4), 32, [.lit (.int .i64 0)], false, false, none, false⟩, ⟨(some 6), 65, [.dat (.int .i64), .dat (.int .i64), .own 117 (.cons (.int .i64) (.one (.int .i64))), .own 24 (.one (.sl (.cons (.int .i64) (.one .bool)))), .own 51 (.cons (.int .i64) (.one .bool)), .od (.row 84 (.cons (.dat (.int .i64)) (.cons (.dat (.sl (.cons (.int .i64) (.one (.int .i64))))) (.cons (.row 24 (.dat (.one (.sl (.cons (.int .i64) (.one .bool)))))) (.one (.dat (.one (.sl (.cons (.int .i64) (.one .bool)))))))))), .od (.row 79 (.cons (.row 26 (.dat (.cons (.int .i64) (.cons (.int .i64) (.cons (.int .i64) (.cons (.int .i64) (.one .bool))))))) (.one (.dat (.cons (.int .i64) (.cons (.int .i64) (.cons (.int .i64) (.cons (.sl (.int .i64)) (.cons (.sl (.int .i64)) (.one (.sl (.int .i64)))))))))))), .dat (.int .i64)], false, false, none, false⟩, ⟨(some 9), 3, [.dat (.int .i64)], false, false, none, false⟩, ⟨(some 13), 9, [.dat .str], false, false, none, false⟩, ⟨(some 18), 0, [], false, false, none, true⟩]⟩ [18, 13, 9, 6, 4, 2, 0] (.lp ⟨[], [⟨(some 0), 45, [.lit (.int .i64 0), .lit (.int .i64 0), .nils, .nils, .nils, .nils, .nils], false, false, none, false⟩, ⟨(some 2), 3, [.lit (.int .i64 0)], false, false, none, false⟩, ⟨(some 4), 32, [.lit (.int .i64 0)], false, false, none, false⟩, ⟨(some 6), 65, [.dat (.int .i64), .dat (.int .i64), .own 117 (.cons (.int .i64) (.one (.int .i64))), .own 24 (.one (.sl (.cons (.int .i64) (.one .bool)))), .own 51 (.cons (.int .i64) (.one .bool)), .od (.row 84 (.cons (.dat (.int .i64)) (.cons (.dat (.sl (.cons (.int .i64) (.one (.int .i64))))) (.cons (.row 24 (.dat (.one (.sl (.cons (.int .i64) (.one .bool)))))) (.one (.dat (.one (.sl (.cons (.int .i64) (.one .bool)))))))))), .od (.row 79 (.cons (.row 26 (.dat (.cons (.int .i64) (.cons (.int .i64) (.cons (.int .i64) (.cons (.int .i64) (.one .bool))))))) (.one (.dat (.cons (.int .i64) (.cons (.int .i64) (.cons (.int .i64) (.cons (.sl (.int .i64)) (.cons (.sl (.int .i64)) (.one (.sl (.int .i64)))))))))))), .dat (.int .i64)], false, false, none, false⟩, ⟨(some 9), 3, [.dat (.int .i64)], false, false, none, false⟩, ⟨(some 13), 9, [.dat .str], false, false, none, false⟩, ⟨(some 18), 0, [], false, false, none, true⟩]⟩ (.cl ok_Index [] (.tw 33 (.nil) (.wt 8 (.yl 2 (.cl ok_Split [] (.cl ok_slices_DeleteFunc_string_string_r_text_Parse_1 [] (.gj 4 ⟨[(31, .dat .bool)], []⟩ [] (.two 26 (.nil) (.cl ok_strings_HasPrefix [] (.nil))) (.tw 31 (.nil) (.cl ok_text_parser_line_p0k_iirrrododi [] (.tw 35 (.mix [([0, 1, 2], 3), ([], 4)] [] [5] [0, 2] (.nil)) (.nil)))))))))))) (.yl 2 (.cl ok_Split [] (.cl ok_slices_DeleteFunc_string_string_r_text_Parse_1 [] (.gj 4 ⟨[(31, .dat .bool)], []⟩ [] (.two 26 (.nil) (.cl ok_strings_HasPrefix [] (.nil))) (.tw 31 (.wt 1000040 (.mc 6 0 32 (.mc 6 1 32 (.mc 6 7 32 (.cl ok_text_parser_mayEnd_p0_iirrrododi [] (.tw 40 (.nil) (.nil))))))) (.cl ok_text_parser_line_p0k_iirrrododi [] (.tw 35 (.mix [([0, 1, 2], 3), ([], 4)] [] [5] [0, 2] (.nil)) (.mc 6 0 61 (.mc 6 1 61 (.mc 6 7 61 (.cl ok_text_parser_mayEnd_p0_iirrrododi [] (.tw 40 (.nil) (.nil)))))))))))))))))
noncomputable def sp_text_Parse : Spec := ⟨16, ⟨[(0, .dat .str)], []⟩, [⟨[(0, .tup [.agg [.dat (.int .i64), .dat (.int .i64), .own 117 (.cons (.int .i64) (.one (.int .i64))), .own 24 (.one (.sl (.cons (.int .i64) (.one .bool)))), .own 51 (.cons (.int .i64) (.one .bool)), .od (.row 84 (.cons (.dat (.int .i64)) (.cons (.dat (.sl (.cons (.int .i64) (.one (.int .i64))))) (.cons (.row 24 (.dat (.one (.sl (.cons (.int .i64) (.one .bool)))))) (.one (.dat (.one (.sl (.cons (.int .i64) (.one .bool)))))))))), .od (.row 79 (.cons (.row 26 (.dat (.cons (.int .i64) (.cons (.int .i64) (.cons (.int .i64) (.cons (.int .i64) (.one .bool))))))) (.one (.dat (.cons (.int .i64) (.cons (.int .i64) (.cons (.int .i64) (.cons (.sl (.int .i64)) (.cons (.sl (.int .i64)) (.one (.sl (.int .i64))))))))))))], .dat (.int .i64), .dat (.int .i64)])], []⟩], fun x => fn_text_Parse x⟩
theorem text_Parse_is : SpecOk Tryd.prog sp_text_Parse := fn_is Tryd.func16 h_text_Parse (by kernel_rfl) (by kernel_rfl)
noncomputable def ok_text_Parse : OkSpec Tryd.prog := ⟨sp_text_Parse, text_Parse_is, Tryd.call16⟩
noncomputable def fn_text_Type_l1 (xa : (List (Int × Bool))) : ((List (List UInt8)) × Int) → Option (((List (List UInt8)) × Int) ⊕ (List (List UInt8))) := fun ((l432, i437) : ((List (List UInt8)) × Int)) => cond (decide (i437 < (((xa.length : Nat) : Int)))) ((getI xa i437).bind fun x480 => (fn_numeral_Text x480.1).bind fun s492 => (cond (x480.2) ((app s492 ([33] : List UInt8)).bind fun z501 => some (z501)) (some (s492)) : Option (List UInt8)).bind fun s499 => (app l432 (([s499] : List (List UInt8)))).bind fun z506 => some (.inl ((z506, IntKind.wrap .i64 (i437 + 1))))) (some (.inr (l432)))
noncomputable def fn_text_Type (xa : (List (Int × Bool))) : Option (List UInt8) :=
 cond (decide ((((xa.length : Nat) : Int)) = 0)) (some (([45] : List UInt8))) ((loop (fn_text_Type_l1 xa) ([], 0) : Option ((List (List UInt8)))).bind fun l386 => (joinF l386 ([47] : List UInt8)).bind fun s517 => some (s517))
noncomputable def h_text_Type : Hn Tryd.prog := .tw 10 (.nil) (.jn [] ⟨[(3, .own 9 .str)], []⟩ [0] (.lp ⟨[(3, .own 9 .str), (14, .dat (.int .i64))], []⟩ (.tw 15 (.cl ok_numeral_Text [] (.sq [] ⟨[(6, .dat .str)], []⟩ [] (.tw 22 (.nil) (.nil)) (.nil))) (.nil))) (.cl ok_Join [2] (.nil)))
noncomputable def sp_text_Type : Spec := ⟨9, ⟨[(0, .dat (.one (.sl (.cons (.int .i64) (.one .bool)))))], []⟩, [⟨[(0, .dat .str)], []⟩], fun x => fn_text_Type x⟩
theorem text_Type_is : SpecOk Tryd.prog sp_text_Type := fn_is Tryd.func9 h_text_Type (by kernel_rfl) (by kernel_rfl)
noncomputable def ok_text_Type : OkSpec Tryd.prog := ⟨sp_text_Type, text_Type_is, Tryd.call9⟩

noncomputable def fn_text_line (xa : (List (List UInt8))) : Option (List UInt8) :=
 (joinF xa ([32] : List UInt8)).bind fun s10 => some (s10)
noncomputable def h_text_line : Hn Tryd.prog := .cl ok_Join [] (.nil)
noncomputable def sp_text_line : Spec := ⟨28, ⟨[(0, .dat (.sl .str))], []⟩, [⟨[(0, .dat .str)], []⟩], fun x => fn_text_line x⟩
theorem text_line_is : SpecOk Tryd.prog sp_text_line := fn_is Tryd.func28 h_text_line (by kernel_rfl) (by kernel_rfl)
noncomputable def ok_text_line : OkSpec Tryd.prog := ⟨sp_text_line, text_line_is, Tryd.call28⟩

noncomputable def fn_text_loan (xa : (List UInt8)) (xb : (Int × Int × Int × Int × Bool)) : Option (List UInt8) :=
 (fn_numeral_Text xb.2.1).bind fun s181 => (fn_numeral_Text xb.2.2.1).bind fun s187 => (fn_numeral_Text xb.2.2.2.1).bind fun s193 => cond (xb.2.2.2.2) ((app (([xa, s181, s187, s193] : List (List UInt8))) (([([109, 117, 116] : List UInt8)] : List (List UInt8)))).bind fun z204 => (fn_text_line z204).bind fun s215 => some (s215)) ((fn_text_line (([xa, s181, s187, s193] : List (List UInt8)))).bind fun s224 => some (s224))
noncomputable def h_text_loan : Hn Tryd.prog := .mix [([0, 1, 2, 4, 5, 7, 8], 3), ([], 6), ([], 9), ([], 10)] [11] [] [] (.cl ok_numeral_Text [] (.cl ok_numeral_Text [] (.cl ok_numeral_Text [] (.tw 18 (.cl ok_text_line [6] (.nil)) (.cl ok_text_line [2] (.nil))))))
noncomputable def sp_text_loan : Spec := ⟨29, ⟨[(0, .dat .str), (1, .dat (.cons (.int .i64) (.cons (.int .i64) (.cons (.int .i64) (.cons (.int .i64) (.one .bool))))))], []⟩, [⟨[(0, .dat .str)], []⟩], fun x => fn_text_loan x.1 x.2⟩
theorem text_loan_is : SpecOk Tryd.prog sp_text_loan := fn_is Tryd.func29 h_text_loan (by kernel_rfl) (by kernel_rfl)
noncomputable def ok_text_loan : OkSpec Tryd.prog := ⟨sp_text_loan, text_loan_is, Tryd.call29⟩

noncomputable def fn_text_Stmt (xa : (Int × Int × Int × Int × Bool)) : Option (List UInt8) :=
 (fn_numeral_Text xa.2.1).bind fun s108 => (fn_numeral_Text xa.2.2.1).bind fun s114 => cond (decide (xa.1 = 0)) (some (([110, 111, 112] : List UInt8))) (cond (decide (xa.1 = 1)) ((fn_text_line (([([97, 115, 115, 105, 103, 110] : List UInt8), s108, s114] : List (List UInt8)))).bind fun s128 => some (s128)) (cond (decide (xa.1 = 2)) ((fn_text_loan ([98, 111, 114, 114, 111, 119] : List UInt8) (xa.1, xa.2.1, xa.2.2.1, xa.2.2.2.1, xa.2.2.2.2)).bind fun s135 => some (s135)) (cond (decide (xa.1 = 3)) ((fn_text_loan ([114, 101, 98, 111, 114, 114, 111, 119] : List UInt8) (xa.1, xa.2.1, xa.2.2.1, xa.2.2.2.1, xa.2.2.2.2)).bind fun s142 => some (s142)) (cond (decide (xa.1 = 4)) ((fn_text_line (([([117, 115, 101] : List UInt8), s114] : List (List UInt8)))).bind fun s155 => some (s155)) (cond (decide (xa.1 = 5)) ((fn_text_line (([([100, 101, 97, 100] : List UInt8), s108] : List (List UInt8)))).bind fun s168 => some (s168)) (some (([63] : List UInt8))))))))
noncomputable def h_text_Stmt : Hn Tryd.prog := .mix [([0, 1, 3, 4], 2)] [] [5, 6, 7] [] (.cl ok_numeral_Text [] (.cl ok_numeral_Text [] (.tw 13 (.nil) (.tw 15 (.cl ok_text_line [2] (.nil)) (.tw 21 (.cl ok_text_loan [] (.nil)) (.tw 25 (.cl ok_text_loan [] (.nil)) (.tw 29 (.cl ok_text_line [2] (.nil)) (.tw 34 (.cl ok_text_line [2] (.nil)) (.nil)))))))))
noncomputable def sp_text_Stmt : Spec := ⟨12, ⟨[(0, .dat (.cons (.int .i64) (.cons (.int .i64) (.cons (.int .i64) (.cons (.int .i64) (.one .bool))))))], []⟩, [⟨[(0, .dat .str)], []⟩], fun x => fn_text_Stmt x⟩
theorem text_Stmt_is : SpecOk Tryd.prog sp_text_Stmt := fn_is Tryd.func12 h_text_Stmt (by kernel_rfl) (by kernel_rfl)
noncomputable def ok_text_Stmt : OkSpec Tryd.prog := ⟨sp_text_Stmt, text_Stmt_is, Tryd.call12⟩

noncomputable def fn_law38_awake  : Option Bool :=
 (fn_text_Parse ([114, 101, 103, 105, 111, 110, 115, 32, 49, 32, 49, 10, 98, 111, 117, 110, 100, 115, 10, 108, 111, 99, 97, 108, 32, 45, 10, 103, 105, 118, 101, 115, 32, 45, 10, 98, 108, 111, 99, 107, 10, 114, 101, 116, 117, 114, 110, 10] : List UInt8)).bind fun (i103, i104, l105, l106, l107, l108, l109, i110, i111) => (fn_text_Type (([(1, false), (2, true)] : List (Int × Bool)))).bind fun s165 => (cond (decide (s165 = ([49, 47, 50, 33] : List UInt8))) ((fn_text_Stmt (2, 0, 1, 3, true)).bind fun s180 => some (decide (s180 = ([98, 111, 114, 114, 111, 119, 32, 48, 32, 49, 32, 51, 32, 109, 117, 116] : List UInt8)))) (some (false))).bind fun t176 => some (((t176 && (decide (i110 = 0))) && (decide (i111 = 0))) && (decide ((((l109.length : Nat) : Int)) = 1)))
noncomputable def h_law38_awake : Hn Tryd.prog := .cl ok_text_Parse [] (.cl ok_text_Type [0] (.gj 3 ⟨[(21, .dat .bool)], []⟩ [] (.two 17 (.cl ok_text_Stmt [] (.nil)) (.nil)) (.wt 22 (.gp 2 (.wt 26 (.gp 2 (.wt 30 (.gp 4 (.nil)))))))))
noncomputable def sp_law38_awake : Spec := ⟨6, ⟨[], []⟩, [⟨[(0, .dat .bool)], []⟩], fun x => fn_law38_awake⟩
theorem law38_awake_is : SpecOk Tryd.prog sp_law38_awake := fn_is Tryd.func6 h_law38_awake (by kernel_rfl) (by kernel_rfl)
noncomputable def ok_law38_awake : OkSpec Tryd.prog := ⟨sp_law38_awake, law38_awake_is, Tryd.call6⟩
noncomputable def fn_ref38_Cut_l1 (xa : (List UInt8)) (xb : Int) : ((List (List UInt8)) × Int × Int) → Option (((List (List UInt8)) × Int × Int) ⊕ (List (List UInt8))) := fun ((l481, i486, i487) : ((List (List UInt8)) × Int × Int)) => cond (decide (i487 ≤ (((xa.length : Nat) : Int)))) ((cond (decide (i487 = (((xa.length : Nat) : Int)))) (some (true)) ((getI xa i487).bind fun x531 => some (decide ((((x531.toNat : Nat) : Int)) = xb)))).bind fun t529 => cond (t529) ((subL xa i486 i487).bind fun y537 => (app l481 (([y537] : List (List UInt8)))).bind fun z542 => some (.inl ((z542, IntKind.wrap .i64 (i487 + 1), IntKind.wrap .i64 (i487 + 1))))) (some (.inl ((l481, i486, IntKind.wrap .i64 (i487 + 1)))))) (some (.inr (l481)))
noncomputable def fn_ref38_Cut (xa : (List UInt8)) (xb : Int) : Option ((List (List UInt8))) :=
 (loop (fn_ref38_Cut_l1 xa xb) ((([] : List (List UInt8)), 0, 0)) : Option ((List (List UInt8)))).bind fun l443 => some (l443)
noncomputable def h_ref38_Cut : Hn Tryd.prog := .jn [] ⟨[(5, .own 9 .str), (8, .any)], []⟩ [0] (.lp ⟨[(5, .own 9 .str), (6, .dat (.int .i64)), (7, .dat (.int .i64))], []⟩ (.tw 12 (.gj 5 ⟨[(25, .dat .bool)], []⟩ [] (.two 19 (.nil) (.nil)) (.tw 25 (.nil) (.nil))) (.nil))) (.nil)
noncomputable def sp_ref38_Cut : Spec := ⟨22, ⟨[(0, .dat .str), (1, .dat (.int .u8))], []⟩, [⟨[(0, .own 9 .str)], []⟩], fun x => fn_ref38_Cut x.1 x.2⟩
theorem ref38_Cut_is : SpecOk Tryd.prog sp_ref38_Cut := fn_is Tryd.func22 h_ref38_Cut (by kernel_rfl) (by kernel_rfl)
noncomputable def ok_ref38_Cut : OkSpec Tryd.prog := ⟨sp_ref38_Cut, ref38_Cut_is, Tryd.call22⟩
noncomputable def fn_ref01_Form_l1 (xa : (List UInt8)) : Int → Option (Int ⊕ (Unit ⊕ Bool)) := fun (i244 : Int) => cond (decide (i244 < (((xa.length : Nat) : Int)))) ((getI xa i244).bind fun x268 => (cond (decide ((((x268.toNat : Nat) : Int)) < 48)) (some (true)) ((getI xa i244).bind fun x281 => some (decide (57 < (((x281.toNat : Nat) : Int)))))).bind fun t279 => cond (t279) (some (.inr ((.inr (false))))) (some (.inl (IntKind.wrap .i64 (i244 + 1))))) (some (.inr ((.inl ()))))
noncomputable def fn_ref01_Form (xa : (List UInt8)) : Option Bool :=
 (loop (fn_ref01_Form_l1 xa) 0 : Option (Unit ⊕ Bool)).bind fun o => match o with | .inr r => some r | .inl () => (cond (decide ((((xa.length : Nat) : Int)) = 1)) (some (true)) ((cond (decide (1 < (((xa.length : Nat) : Int)))) ((getI xa 0).bind fun x311 => some (!decide ((((x311.toNat : Nat) : Int)) = 48))) (some (false))).bind fun t309 => some (t309))).bind fun t301 => some (t301)
noncomputable def h_ref01_Form : Hn Tryd.prog := .jx [] ⟨[], []⟩ [] (.lp ⟨[(3, .dat (.int .i64))], []⟩ (.tw 7 (.gj 4 ⟨[(19, .dat .bool)], []⟩ [] (.two 14 (.nil) (.nil)) (.tw 19 (.nil) (.nil))) (.nil))) (.gj 8 ⟨[(32, .dat .bool)], []⟩ [] (.two 23 (.nil) (.wt 27 (.gj 3 ⟨[(31, .dat .bool)], []⟩ [] (.two 27 (.nil) (.nil)) (.nil)))) (.nil))
noncomputable def sp_ref01_Form : Spec := ⟨48, ⟨[(0, .dat .str)], []⟩, [⟨[(0, .dat .bool)], []⟩], fun x => fn_ref01_Form x⟩
theorem ref01_Form_is : SpecOk Tryd.prog sp_ref01_Form := fn_is Tryd.func48 h_ref01_Form (by kernel_rfl) (by kernel_rfl)
noncomputable def ok_ref01_Form : OkSpec Tryd.prog := ⟨sp_ref01_Form, ref01_Form_is, Tryd.call48⟩
noncomputable def fn_ref01_Parse_l1 (xa : (List UInt8)) : (Int × Int) → Option ((Int × Int) ⊕ (Int ⊕ (Int × Int))) := fun ((i203, i204) : (Int × Int)) => cond (decide (i204 < (((xa.length : Nat) : Int)))) ((getI xa i204).bind fun x225 => cond ((decide (922337203685477580 < i203)) || ((decide (i203 = 922337203685477580)) && (decide (7 < (IntKind.wrap .i64 (IntKind.wrap .u8 ((((x225.toNat : Nat) : Int)) - 48))))))) (some (.inr ((.inr ((0, 5)))))) (some (.inl ((IntKind.wrap .i64 ((IntKind.wrap .i64 (i203 * 10)) + (IntKind.wrap .i64 (IntKind.wrap .u8 ((((x225.toNat : Nat) : Int)) - 48)))), IntKind.wrap .i64 (i204 + 1)))))) (some (.inr (.inl i203)))
noncomputable def fn_ref01_Parse (xa : (List UInt8)) (xb : Int) : Option (Int × Int) :=
 (fn_ref01_Form xa).bind fun t124 => cond (!t124) (some ((0, 3))) ((loop (fn_ref01_Parse_l1 xa) (0, 0) : Option (Int ⊕ (Int × Int))).bind fun o => match o with | .inr r => some r | .inl i184 => cond (decide (xb < i184)) (some ((0, 5))) (some ((i184, 0))))
noncomputable def h_ref01_Parse : Hn Tryd.prog := .cl ok_ref01_Form [] (.tw 11 (.nil) (.jx [] ⟨[(6, .dat (.int .i64))], []⟩ [] (.lp ⟨[(6, .dat (.int .i64)), (7, .dat (.int .i64))], []⟩ (.tw 15 (.gp 6 (.tw 32 (.nil) (.nil))) (.nil))) (.tw 39 (.nil) (.nil))))
noncomputable def sp_ref01_Parse : Spec := ⟨23, ⟨[(0, .dat .str), (1, .dat (.int .i64))], []⟩, [⟨[(0, .tup [.dat (.int .i64), .dat (.int .i64)])], []⟩], fun x => fn_ref01_Parse x.1 x.2⟩
theorem ref01_Parse_is : SpecOk Tryd.prog sp_ref01_Parse := fn_is Tryd.func23 h_ref01_Parse (by kernel_rfl) (by kernel_rfl)
noncomputable def ok_ref01_Parse : OkSpec Tryd.prog := ⟨sp_ref01_Parse, ref01_Parse_is, Tryd.call23⟩
noncomputable def fn_ref38_ParseType_l1 (l545 : (List (List UInt8))) : ((List (Int × Bool)) × Int) → Option (((List (Int × Bool)) × Int) ⊕ ((List (Int × Bool)) ⊕ ((List (Int × Bool)) × Int))) := fun ((l763, i768) : ((List (Int × Bool)) × Int)) => cond (decide (i768 < (((l545.length : Nat) : Int)))) ((getI l545 i768).bind fun x822 => (cond (decide (0 < (((x822.length : Nat) : Int)))) ((getI x822 (IntKind.wrap .i64 ((((x822.length : Nat) : Int)) - 1))).bind fun x837 => some (decide ((((x837.toNat : Nat) : Int)) = 33))) (some (false))).bind fun t835 => (cond (t835) ((subL x822 0 (IntKind.wrap .i64 ((((x822.length : Nat) : Int)) - 1))).bind fun y847 => some (y847)) (some (x822)) : Option (List UInt8)).bind fun s845 => (fn_ref01_Parse s845 1048576).bind fun (i851, i852) => cond (!decide (i852 = 0)) (some (.inr ((.inr (([], i852)))))) ((app l763 (([(i851, t835)] : List (Int × Bool)))).bind fun z861 => some (.inl ((z861, IntKind.wrap .i64 (i768 + 1)))))) (some (.inr (.inl l763)))
noncomputable def fn_ref38_ParseType (xa : (List UInt8)) : Option (((List (Int × Bool)) × Int)) :=
 cond (decide (xa = ([45] : List UInt8))) (some (([], 0))) ((fn_ref38_Cut xa 47).bind fun l545 => (loop (fn_ref38_ParseType_l1 l545) ((([] : List (Int × Bool)), 0)) : Option ((List (Int × Bool)) ⊕ ((List (Int × Bool)) × Int))).bind fun o => match o with | .inr r => some r | .inl l707 => some ((l707, 0)))
noncomputable def h_ref38_ParseType : Hn Tryd.prog := .tw 12 (.nil) (.cl ok_ref38_Cut [] (.jx [] ⟨[(4, .own 51 (.cons (.int .i64) (.one .bool))), (14, .any)], [⟨(some 0), 24, [.nils], false, false, none, false⟩]⟩ [2, 0] (.lp ⟨[(4, .own 51 (.cons (.int .i64) (.one .bool))), (6, .dat (.int .i64))], [⟨(some 0), 24, [.nils], false, false, none, false⟩]⟩ (.tw 20 (.gj 6 ⟨[(37, .dat .bool)], []⟩ [] (.two 30 (.nil) (.nil)) (.sq [] ⟨[(7, .dat .str)], []⟩ [] (.tw 38 (.nil) (.nil)) (.cl ok_ref01_Parse [] (.tw 50 (.nil) (.nil))))) (.nil))) (.nil)))
noncomputable def sp_ref38_ParseType : Spec := ⟨8, ⟨[(0, .dat .str)], []⟩, [⟨[(0, .tup [.agg [.own 51 (.cons (.int .i64) (.one .bool))], .dat (.int .i64)])], []⟩], fun x => fn_ref38_ParseType x⟩
theorem ref38_ParseType_is : SpecOk Tryd.prog sp_ref38_ParseType := fn_is Tryd.func8 h_ref38_ParseType (by kernel_rfl) (by kernel_rfl)
noncomputable def ok_ref38_ParseType : OkSpec Tryd.prog := ⟨sp_ref38_ParseType, ref38_ParseType_is, Tryd.call8⟩
noncomputable def fn_ref38_Type_l1 (xa : (List (Int × Bool))) : (List UInt8 × Int) → Option ((List UInt8 × Int) ⊕ List UInt8) := fun ((s401, i402) : (List UInt8 × Int)) => cond (decide (i402 < (((xa.length : Nat) : Int)))) ((cond (decide (0 < i402)) ((app s401 ([47] : List UInt8)).bind fun z449 => some (z449)) (some (s401)) : Option (List UInt8)).bind fun s447 => (getI xa i402).bind fun x451 => (fn_ref01_Text x451.1).bind fun s462 => (app s447 s462).bind fun z466 => (getI xa i402).bind fun x468 => cond (x468.2) ((app z466 ([33] : List UInt8)).bind fun z478 => some (.inl ((z478, IntKind.wrap .i64 (i402 + 1))))) (some (.inl ((z466, IntKind.wrap .i64 (i402 + 1)))))) (some (.inr (s401)))
noncomputable def fn_ref38_Type (xa : (List (Int × Bool))) : Option (List UInt8) :=
 cond (decide ((((xa.length : Nat) : Int)) = 0)) (some (([45] : List UInt8))) ((loop (fn_ref38_Type_l1 xa) ((([] : List UInt8), 0)) : Option (List UInt8)).bind fun s361 => some (s361))
noncomputable def h_ref38_Type : Hn Tryd.prog := .tw 8 (.nil) (.jn [] ⟨[(3, .dat .str)], []⟩ [] (.lp ⟨[(3, .dat .str), (4, .dat (.int .i64))], []⟩ (.tw 13 (.pl (.sq [] ⟨[(3, .dat .str)], []⟩ [] (.tw 17 (.nil) (.nil)) (.cl ok_ref01_Text [] (.tw 34 (.nil) (.nil))))) (.nil))) (.nil))
noncomputable def sp_ref38_Type : Spec := ⟨10, ⟨[(0, .dat (.one (.sl (.cons (.int .i64) (.one .bool)))))], []⟩, [⟨[(0, .dat .str)], []⟩], fun x => fn_ref38_Type x⟩
theorem ref38_Type_is : SpecOk Tryd.prog sp_ref38_Type := fn_is Tryd.func10 h_ref38_Type (by kernel_rfl) (by kernel_rfl)
noncomputable def ok_ref38_Type : OkSpec Tryd.prog := ⟨sp_ref38_Type, ref38_Type_is, Tryd.call10⟩
noncomputable def fn_ref15_Shape_l1 (xa : (List (Int × Bool))) (xb : (List (Int × Bool))) : Int → Option (Int ⊕ (Unit ⊕ Bool)) := fun (i761 : Int) => cond (decide (i761 < (((xa.length : Nat) : Int)))) ((getI xa i761).bind fun x893 => (getI xb i761).bind fun x902 => cond (!(x893.2 == x902.2)) (some (.inr ((.inr (false))))) (some (.inl (IntKind.wrap .i64 (i761 + 1))))) (some (.inr ((.inl ()))))
noncomputable def fn_ref15_Shape (xa : (List (Int × Bool))) (xb : (List (Int × Bool))) : Option Bool :=
 cond (!decide ((((xa.length : Nat) : Int)) = (((xb.length : Nat) : Int)))) (some (false)) ((loop (fn_ref15_Shape_l1 xa xb) 0 : Option (Unit ⊕ Bool)).bind fun o => match o with | .inr r => some r | .inl () => some (true))
noncomputable def h_ref15_Shape : Hn Tryd.prog := .tw 12 (.nil) (.jx [] ⟨[], []⟩ [] (.lp ⟨[(5, .dat (.int .i64))], []⟩ (.tw 17 (.mix [] [0, 1, 2, 3, 4, 5, 6, 7, 8, 9, 10, 11, 12] [] [] (.tw 32 (.nil) (.nil))) (.nil))) (.nil))
noncomputable def sp_ref15_Shape : Spec := ⟨27, ⟨[(0, .dat (.one (.sl (.cons (.int .i64) (.one .bool))))), (1, .dat (.one (.sl (.cons (.int .i64) (.one .bool)))))], []⟩, [⟨[(0, .dat .bool)], []⟩], fun x => fn_ref15_Shape x.1 x.2⟩
theorem ref15_Shape_is : SpecOk Tryd.prog sp_ref15_Shape := fn_is Tryd.func27 h_ref15_Shape (by kernel_rfl) (by kernel_rfl)
noncomputable def ok_ref15_Shape : OkSpec Tryd.prog := ⟨sp_ref15_Shape, ref15_Shape_is, Tryd.call27⟩
noncomputable def fn_ref15_Same_l1 (xa : (List (Int × Bool))) (xb : (List (Int × Bool))) : Int → Option (Int ⊕ (Unit ⊕ Bool)) := fun (i773 : Int) => cond (decide (i773 < (((xa.length : Nat) : Int)))) ((getI xa i773).bind fun x905 => (getI xb i773).bind fun x914 => cond (!decide (x905.1 = x914.1)) (some (.inr ((.inr (false))))) (some (.inl (IntKind.wrap .i64 (i773 + 1))))) (some (.inr ((.inl ()))))
noncomputable def fn_ref15_Same (xa : (List (Int × Bool))) (xb : (List (Int × Bool))) : Option Bool :=
 (fn_ref15_Shape xa xb).bind fun t467 => cond (!t467) (some (false)) ((loop (fn_ref15_Same_l1 xa xb) 0 : Option (Unit ⊕ Bool)).bind fun o => match o with | .inr r => some r | .inl () => some (true))
noncomputable def h_ref15_Same : Hn Tryd.prog := .cl ok_ref15_Shape [] (.tw 9 (.nil) (.jx [] ⟨[], []⟩ [] (.lp ⟨[(5, .dat (.int .i64))], []⟩ (.tw 14 (.mix [] [0, 1, 2, 3, 4, 5, 6, 7, 8, 9, 10, 11, 12] [] [] (.tw 29 (.nil) (.nil))) (.nil))) (.nil)))
noncomputable def sp_ref15_Same : Spec := ⟨11, ⟨[(0, .dat (.one (.sl (.cons (.int .i64) (.one .bool))))), (1, .dat (.one (.sl (.cons (.int .i64) (.one .bool)))))], []⟩, [⟨[(0, .dat .bool)], []⟩], fun x => fn_ref15_Same x.1 x.2⟩
theorem ref15_Same_is : SpecOk Tryd.prog sp_ref15_Same := fn_is Tryd.func11 h_ref15_Same (by kernel_rfl) (by kernel_rfl)
noncomputable def ok_ref15_Same : OkSpec Tryd.prog := ⟨sp_ref15_Same, ref15_Same_is, Tryd.call11⟩

noncomputable def fn_ref38_Stmt (xa : (Int × Int × Int × Int × Bool)) : Option (List UInt8) :=
 (fn_ref01_Text xa.2.1).bind fun s139 => (fn_ref01_Text xa.2.2.1).bind fun s145 => (fn_ref01_Text xa.2.2.2.1).bind fun s151 => (cond (xa.2.2.2.2) (some (([32, 109, 117, 116] : List UInt8))) (some (([] : List UInt8))) : Option (List UInt8)).bind fun s156 => cond (decide (xa.1 = 0)) (some (([110, 111, 112] : List UInt8))) (cond (decide (xa.1 = 1)) ((app ([97, 115, 115, 105, 103, 110, 32] : List UInt8) s139).bind fun z160 => (app z160 ([32] : List UInt8)).bind fun z162 => (app z162 s145).bind fun z164 => some (z164)) (cond (decide (xa.1 = 2)) ((app ([98, 111, 114, 114, 111, 119, 32] : List UInt8) s139).bind fun z167 => (app z167 ([32] : List UInt8)).bind fun z169 => (app z169 s145).bind fun z171 => (app z171 ([32] : List UInt8)).bind fun z173 => (app z173 s151).bind fun z175 => (app z175 s156).bind fun z177 => some (z177)) (cond (decide (xa.1 = 3)) ((app ([114, 101, 98, 111, 114, 114, 111, 119, 32] : List UInt8) s139).bind fun z180 => (app z180 ([32] : List UInt8)).bind fun z182 => (app z182 s145).bind fun z184 => (app z184 ([32] : List UInt8)).bind fun z186 => (app z186 s151).bind fun z188 => (app z188 s156).bind fun z190 => some (z190)) (cond (decide (xa.1 = 4)) ((app ([117, 115, 101, 32] : List UInt8) s145).bind fun z193 => some (z193)) (cond (decide (xa.1 = 5)) ((app ([100, 101, 97, 100, 32] : List UInt8) s139).bind fun z196 => some (z196)) (some (([63] : List UInt8))))))))
noncomputable def h_ref38_Stmt : Hn Tryd.prog := .mix [([0, 1, 3, 4, 6, 7], 2), ([], 5)] [] [8, 9, 10, 11] [] (.cl ok_ref01_Text [] (.cl ok_ref01_Text [] (.cl ok_ref01_Text [] (.pl (.sq [] ⟨[(6, .dat .str)], []⟩ [] (.tw 17 (.nil) (.nil)) (.tw 20 (.nil) (.tw 22 (.nil) (.tw 29 (.nil) (.tw 41 (.nil) (.tw 53 (.nil) (.tw 57 (.nil) (.nil))))))))))))
noncomputable def sp_ref38_Stmt : Spec := ⟨13, ⟨[(0, .dat (.cons (.int .i64) (.cons (.int .i64) (.cons (.int .i64) (.cons (.int .i64) (.one .bool))))))], []⟩, [⟨[(0, .dat .str)], []⟩], fun x => fn_ref38_Stmt x⟩
theorem ref38_Stmt_is : SpecOk Tryd.prog sp_ref38_Stmt := fn_is Tryd.func13 h_ref38_Stmt (by kernel_rfl) (by kernel_rfl)
noncomputable def ok_ref38_Stmt : OkSpec Tryd.prog := ⟨sp_ref38_Stmt, ref38_Stmt_is, Tryd.call13⟩
noncomputable def fn_numeral_List_l1 (xa : (List Int)) : (Int × List UInt8) → Option ((Int × List UInt8) ⊕ List UInt8) := fun ((i290, s291) : (Int × List UInt8)) => cond (decide (i290 < (((xa.length : Nat) : Int)))) ((getI xa i290).bind fun x322 => cond (decide (0 < i290)) ((wrB s291 44).bind fun z332 => (fn_numeral_Text x322).bind fun s335 => (wrS z332 s335).bind fun z339 => some (.inl ((IntKind.wrap .i64 (i290 + 1), z339)))) ((fn_numeral_Text x322).bind fun s342 => (wrS s291 s342).bind fun z346 => some (.inl ((IntKind.wrap .i64 (i290 + 1), z346))))) (some (.inr (s291)))
noncomputable def fn_numeral_List (xa : (List Int)) : Option (List UInt8) :=
 (loop (fn_numeral_List_l1 xa) ((0, ([] : List UInt8))) : Option (List UInt8)).bind fun s261 => (some s261).bind fun s347 => some (s347)
noncomputable def h_numeral_List : Hn Tryd.prog := .jn [] ⟨[], [⟨(some 0), 0, [], true, false, none, false⟩]⟩ [0] (.lp ⟨[(8, .dat (.int .i64))], [⟨(some 0), 0, [], true, false, none, false⟩]⟩ (.tw 9 (.tw 14 (.cl ok_WriteByte [] (.cl ok_numeral_Text [] (.cl ok_WriteString [] (.nil)))) (.cl ok_numeral_Text [] (.cl ok_WriteString [] (.nil)))) (.nil))) (.cl ok_BString [] (.nil))
noncomputable def sp_numeral_List : Spec := ⟨52, ⟨[(0, .dat (.sl (.int .i64)))], []⟩, [⟨[(0, .dat .str)], []⟩], fun x => fn_numeral_List x⟩
theorem numeral_List_is : SpecOk Tryd.prog sp_numeral_List := fn_is Tryd.func52 h_numeral_List (by kernel_rfl) (by kernel_rfl)
noncomputable def ok_numeral_List : OkSpec Tryd.prog := ⟨sp_numeral_List, numeral_List_is, Tryd.call52⟩

noncomputable def fn_text_list (xa : (List Int)) : Option (List UInt8) :=
 cond (decide ((((xa.length : Nat) : Int)) = 0)) (some (([45] : List UInt8))) ((fn_numeral_List xa).bind fun s12 => some (s12))
noncomputable def h_text_list : Hn Tryd.prog := .tw 5 (.nil) (.cl ok_numeral_List [] (.nil))
noncomputable def sp_text_list : Spec := ⟨30, ⟨[(0, .dat (.sl (.int .i64)))], []⟩, [⟨[(0, .dat .str)], []⟩], fun x => fn_text_list x⟩
theorem text_list_is : SpecOk Tryd.prog sp_text_list := fn_is Tryd.func30 h_text_list (by kernel_rfl) (by kernel_rfl)
noncomputable def ok_text_list : OkSpec Tryd.prog := ⟨sp_text_list, text_list_is, Tryd.call30⟩

noncomputable def fn_text_Term (xa : (Int × Int × Int × (List Int) × (List Int) × (List Int))) : Option (List UInt8) :=
 cond (decide (xa.1 = 1)) ((fn_text_list xa.2.2.2.1).bind fun s186 => (fn_text_line (([([103, 111, 116, 111] : List UInt8), s186] : List (List UInt8)))).bind fun s198 => some (s198)) (cond (decide (xa.1 = 2)) ((fn_text_list xa.2.2.2.1).bind fun s223 => (fn_text_list xa.2.2.2.2.1).bind fun s229 => (fn_text_line (([([115, 119, 105, 116, 99, 104] : List UInt8), s223, s229] : List (List UInt8)))).bind fun s241 => some (s241)) (cond (decide (xa.1 = 3)) (some (([114, 101, 116, 117, 114, 110] : List UInt8))) (cond (decide (xa.1 = 4)) ((fn_numeral_Text xa.2.1).bind fun s321 => (fn_numeral_Text xa.2.2.1).bind fun s327 => (fn_text_list xa.2.2.2.1).bind fun s333 => (fn_text_list xa.2.2.2.2.2).bind fun s339 => (fn_text_list xa.2.2.2.2.1).bind fun s345 => (fn_text_line (([([99, 97, 108, 108] : List UInt8), s321, s327, s333, s339, s345] : List (List UInt8)))).bind fun s357 => some (s357)) (some (([63] : List UInt8))))))
noncomputable def h_text_Term : Hn Tryd.prog := .tw 5 (.cl ok_text_list [] (.cl ok_text_line [2] (.nil))) (.tw 12 (.mix [([0, 1, 3, 4], 2)] [] [5, 6, 7, 8] [] (.cl ok_text_list [] (.cl ok_text_list [] (.cl ok_text_line [2] (.nil))))) (.tw 22 (.nil) (.tw 24 (.mix [([0, 1, 3, 4, 6, 7, 9, 10, 12, 13], 2), ([], 5), ([], 8), ([], 11)] [] [14, 15, 16, 17] [] (.cl ok_numeral_Text [] (.cl ok_numeral_Text [] (.cl ok_text_list [] (.cl ok_text_list [] (.cl ok_text_list [] (.cl ok_text_line [2] (.nil)))))))) (.nil))))
noncomputable def sp_text_Term : Spec := ⟨14, ⟨[(0, .dat (.cons (.int .i64) (.cons (.int .i64) (.cons (.int .i64) (.cons (.sl (.int .i64)) (.cons (.sl (.int .i64)) (.one (.sl (.int .i64)))))))))], []⟩, [⟨[(0, .dat .str)], []⟩], fun x => fn_text_Term x⟩
theorem text_Term_is : SpecOk Tryd.prog sp_text_Term := fn_is Tryd.func14 h_text_Term (by kernel_rfl) (by kernel_rfl)
noncomputable def ok_text_Term : OkSpec Tryd.prog := ⟨sp_text_Term, text_Term_is, Tryd.call14⟩
noncomputable def fn_ref01_List_l1 (xa : (List Int)) : (List UInt8 × Int) → Option ((List UInt8 × Int) ⊕ List UInt8) := fun ((s277, i278) : (List UInt8 × Int)) => cond (decide (i278 < (((xa.length : Nat) : Int)))) ((cond (decide (0 < i278)) ((app s277 ([44] : List UInt8)).bind fun z313 => some (z313)) (some (s277)) : Option (List UInt8)).bind fun s311 => (getI xa i278).bind fun x315 => (fn_ref01_Text x315).bind fun s326 => (app s311 s326).bind fun z330 => some (.inl ((z330, IntKind.wrap .i64 (i278 + 1))))) (some (.inr (s277)))
noncomputable def fn_ref01_List (xa : (List Int)) : Option (List UInt8) :=
 (loop (fn_ref01_List_l1 xa) ((([] : List UInt8), 0)) : Option (List UInt8)).bind fun s249 => some (s249)
noncomputable def h_ref01_List : Hn Tryd.prog := .jn [] ⟨[(3, .dat .str)], []⟩ [] (.lp ⟨[(3, .dat .str), (4, .dat (.int .i64))], []⟩ (.tw 8 (.pl (.sq [] ⟨[(3, .dat .str)], []⟩ [] (.tw 12 (.nil) (.nil)) (.cl ok_ref01_Text [] (.nil)))) (.nil))) (.nil)
noncomputable def sp_ref01_List : Spec := ⟨53, ⟨[(0, .dat (.sl (.int .i64)))], []⟩, [⟨[(0, .dat .str)], []⟩], fun x => fn_ref01_List x⟩
theorem ref01_List_is : SpecOk Tryd.prog sp_ref01_List := fn_is Tryd.func53 h_ref01_List (by kernel_rfl) (by kernel_rfl)
noncomputable def ok_ref01_List : OkSpec Tryd.prog := ⟨sp_ref01_List, ref01_List_is, Tryd.call53⟩

noncomputable def fn_ref38_list (xa : (List Int)) : Option (List UInt8) :=
 cond (decide ((((xa.length : Nat) : Int)) = 0)) (some (([45] : List UInt8))) ((fn_ref01_List xa).bind fun s12 => some (s12))
noncomputable def h_ref38_list : Hn Tryd.prog := .tw 5 (.nil) (.cl ok_ref01_List [] (.nil))
noncomputable def sp_ref38_list : Spec := ⟨31, ⟨[(0, .dat (.sl (.int .i64)))], []⟩, [⟨[(0, .dat .str)], []⟩], fun x => fn_ref38_list x⟩
theorem ref38_list_is : SpecOk Tryd.prog sp_ref38_list := fn_is Tryd.func31 h_ref38_list (by kernel_rfl) (by kernel_rfl)
noncomputable def ok_ref38_list : OkSpec Tryd.prog := ⟨sp_ref38_list, ref38_list_is, Tryd.call31⟩

noncomputable def fn_ref38_Term (xa : (Int × Int × Int × (List Int) × (List Int) × (List Int))) : Option (List UInt8) :=
 cond (decide (xa.1 = 1)) ((fn_ref38_list xa.2.2.2.1).bind fun s283 => (app ([103, 111, 116, 111, 32] : List UInt8) s283).bind fun z287 => some (z287)) (cond (decide (xa.1 = 2)) ((fn_ref38_list xa.2.2.2.1).bind fun s346 => (app ([115, 119, 105, 116, 99, 104, 32] : List UInt8) s346).bind fun z350 => (app z350 ([32] : List UInt8)).bind fun z352 => (fn_ref38_list xa.2.2.2.2.1).bind fun s356 => (app z352 s356).bind fun z360 => some (z360)) (cond (decide (xa.1 = 3)) (some (([114, 101, 116, 117, 114, 110] : List UInt8))) (cond (decide (xa.1 = 4)) ((fn_ref01_Text xa.2.1).bind fun s510 => (app ([99, 97, 108, 108, 32] : List UInt8) s510).bind fun z514 => (app z514 ([32] : List UInt8)).bind fun z516 => (fn_ref01_Text xa.2.2.1).bind fun s520 => (app z516 s520).bind fun z524 => (app z524 ([32] : List UInt8)).bind fun z526 => (fn_ref38_list xa.2.2.2.1).bind fun s530 => (app z526 s530).bind fun z534 => (app z534 ([32] : List UInt8)).bind fun z536 => (fn_ref38_list xa.2.2.2.2.2).bind fun s540 => (app z536 s540).bind fun z544 => (app z544 ([32] : List UInt8)).bind fun z546 => (fn_ref38_list xa.2.2.2.2.1).bind fun s550 => (app z546 s550).bind fun z554 => some (z554)) (some (([63] : List UInt8))))))
noncomputable def h_ref38_Term : Hn Tryd.prog := .tw 5 (.cl ok_ref38_list [] (.nil)) (.tw 11 (.mix [([0, 1, 5, 6], 2), ([3, 4], 7)] [8, 9] [] [] (.cl ok_ref38_list [] (.cl ok_ref38_list [] (.nil)))) (.tw 22 (.nil) (.tw 24 (.mix [([0, 1, 5, 6, 10, 11, 15, 16, 20, 21], 2), ([3, 4], 7), ([8, 9], 12), ([13, 14], 17), ([18, 19], 22)] [23, 24] [] [] (.cl ok_ref01_Text [] (.cl ok_ref01_Text [] (.cl ok_ref38_list [] (.cl ok_ref38_list [] (.cl ok_ref38_list [] (.nil))))))) (.nil))))
noncomputable def sp_ref38_Term : Spec := ⟨15, ⟨[(0, .dat (.cons (.int .i64) (.cons (.int .i64) (.cons (.int .i64) (.cons (.sl (.int .i64)) (.cons (.sl (.int .i64)) (.one (.sl (.int .i64)))))))))], []⟩, [⟨[(0, .dat .str)], []⟩], fun x => fn_ref38_Term x⟩
theorem ref38_Term_is : SpecOk Tryd.prog sp_ref38_Term := fn_is Tryd.func15 h_ref38_Term (by kernel_rfl) (by kernel_rfl)
noncomputable def ok_ref38_Term : OkSpec Tryd.prog := ⟨sp_ref38_Term, ref38_Term_is, Tryd.call15⟩

noncomputable def fn_law38_TextTypes (xa : (List (Int × Bool))) (xb : (List UInt8)) (xc : (Int × Int × Int × Int × Bool)) (xd : (Int × Int × Int × (List Int) × (List Int) × (List Int))) : Option Bool :=
 (fn_ref15_Few xa 30).bind fun t252 => cond (((((!t252) || (decide (200 < (((xb.length : Nat) : Int))))) || (decide (30 < (((xd.2.2.2.1.length : Nat) : Int))))) || (decide (30 < (((xd.2.2.2.2.1.length : Nat) : Int))))) || (decide (30 < (((xd.2.2.2.2.2.length : Nat) : Int))))) ((fn_law38_awake).bind fun t267 => some (t267)) ((fn_text_ParseType xb).bind fun (l273, i274) => (fn_ref38_ParseType xb).bind fun (l285, i286) => (fn_text_Type xa).bind fun s435 => (fn_ref38_Type xa).bind fun s441 => cond (decide (s435 = s441)) ((fn_ref15_Same l273 l285).bind fun t454 => cond (t454) (cond (decide (i274 = i286)) ((fn_text_Stmt (xc.1, xc.2.1, xc.2.2.1, xc.2.2.2.1, xc.2.2.2.2)).bind fun s462 => (fn_ref38_Stmt (xc.1, xc.2.1, xc.2.2.1, xc.2.2.2.1, xc.2.2.2.2)).bind fun s468 => cond (decide (s462 = s468)) ((fn_text_Term (xd.1, xd.2.1, xd.2.2.1, xd.2.2.2.1, xd.2.2.2.2.1, xd.2.2.2.2.2)).bind fun s475 => (fn_ref38_Term (xd.1, xd.2.1, xd.2.2.1, xd.2.2.2.1, xd.2.2.2.2.1, xd.2.2.2.2.2)).bind fun s481 => cond (decide (s475 = s481)) ((fn_law38_awake).bind fun t488 => some (t488)) (some (false))) (some (false))) (some (false))) (some (false))) (some (false)))
noncomputable def h_law38_TextTypes : Hn Tryd.prog := .cl ok_ref15_Few [] (.gp 3 (.wt 21 (.gp 4 (.wt 27 (.gp 4 (.wt 33 (.gp 4 (.tw 38 (.cl ok_law38_awake [] (.nil)) (.cl ok_text_ParseType [] (.cl ok_ref38_ParseType [] (.mix [([0, 2], 1), ([], 3), ([4, 5, 6, 7], 8), ([9, 10, 11, 12, 13, 14, 15, 16, 18], 17), ([], 19), ([20, 21, 22, 23, 25], 24)] [] [26, 27, 28, 29, 30, 31, 32] [] (.cl ok_text_Type [] (.cl ok_ref38_Type [] (.two 55 (.cl ok_ref15_Same [6, 11] (.two 60 (.two 65 (.cl ok_text_Stmt [] (.cl ok_ref38_Stmt [] (.two 72 (.cl ok_text_Term [] (.cl ok_ref38_Term [] (.two 79 (.cl ok_law38_awake [] (.nil)) (.nil)))) (.nil)))) (.nil)) (.nil))) (.nil)))))))))))))))
noncomputable def sp_law38_TextTypes : Spec := ⟨3, ⟨[(0, .dat (.one (.sl (.cons (.int .i64) (.one .bool))))), (1, .dat .str), (2, .dat (.cons (.int .i64) (.cons (.int .i64) (.cons (.int .i64) (.cons (.int .i64) (.one .bool)))))), (3, .dat (.cons (.int .i64) (.cons (.int .i64) (.cons (.int .i64) (.cons (.sl (.int .i64)) (.cons (.sl (.int .i64)) (.one (.sl (.int .i64)))))))))], []⟩, [⟨[(0, .dat .bool)], []⟩], fun x => fn_law38_TextTypes x.1 x.2.1 x.2.2.1 x.2.2.2⟩
theorem law38_TextTypes_is : SpecOk Tryd.prog sp_law38_TextTypes := fn_is Tryd.func3 h_law38_TextTypes (by kernel_rfl) (by kernel_rfl)
noncomputable def ok_law38_TextTypes : OkSpec Tryd.prog := ⟨sp_law38_TextTypes, law38_TextTypes_is, Tryd.call3⟩
section
section
variable {σ β : Type} {body : σ → Option (σ ⊕ β)}
theorem loop_nat (st : Nat → σ) (n : Nat) {b : β} (h : ∀ k, k < n → body (st k) = some (.inl (st (k + 1)))) (he : body (st n) = some (.inr b)) : loop body (st 0) = some b := by
 have : ∀ m k, k + m = n → loop body (st k) = some b := by
   intro m
   induction m with
   | zero => intro k hk; have : k = n := by omega
             subst this; exact loop_end he
   | succ m ih => intro k hk; rw [loop_next (h k (by omega))]; exact ih (k + 1) (by omega)
 exact this n 0 (by omega)
theorem least (p : Nat → Prop) : ∀ n, (∃ k, k < n ∧ p k ∧ ∀ j, j < k → ¬ p j) ∨ ∀ j, j < n → ¬ p j
 | 0 => .inr (fun j hj => by omega)
 | n + 1 => by
   rcases least p n with ⟨k, h1, h2, h3⟩ | h
   · exact .inl ⟨k, by omega, h2, h3⟩
   · by_cases hp : p n
     · exact .inl ⟨n, by omega, hp, h⟩
     · exact .inr (fun j hj => if e : j = n then e ▸ hp else h j (by omega))
theorem loop_find (p : Nat → Prop) (st : Nat → σ) (n : Nat) (hit : Nat → β) (e : β) (hgo : ∀ k, k < n → ¬ p k → body (st k) = some (.inl (st (k + 1)))) (hhit : ∀ k, k < n → p k → body (st k) = some (.inr (hit k))) (hend : body (st n) = some (.inr e)) :
   (∃ k, k < n ∧ p k ∧ (∀ j, j < k → ¬ p j) ∧ loop body (st 0) = some (hit k)) ∨ ((∀ j, j < n → ¬ p j) ∧ loop body (st 0) = some e) := by
 rcases least p n with ⟨k, h1, h2, h3⟩ | h
 · exact .inl ⟨k, h1, h2, h3, loop_nat st k (fun j hj => hgo j (by omega) (h3 j hj)) (hhit k h1 h2)⟩
 · exact .inr ⟨h, loop_nat st n (fun k hk => hgo k hk (h k hk)) hend⟩
open Classical in
theorem loop_any (p : Nat → Prop) (st : Nat → σ) (n : Nat) (b e : β) (hgo : ∀ k, k < n → ¬ p k → body (st k) = some (.inl (st (k + 1)))) (hhit : ∀ k, k < n → p k → body (st k) = some (.inr b)) (hend : body (st n) = some (.inr e)) :
   loop body (st 0) = some (if ∃ k, k < n ∧ p k then b else e) := by
 rcases loop_find p st n (fun _ => b) e hgo hhit hend with ⟨k, h1, h2, h3, h4⟩ | ⟨h1, h2⟩
 · rw [if_pos ⟨k, h1, h2⟩]; exact h4
 · rw [if_neg (fun ⟨k, h3, h4⟩ => h1 k h3 h4)]; exact h2
end
theorem w64 {x : Int} (h1 : -9223372036854775808 ≤ x) (h2 : x ≤ 9223372036854775807) : IntKind.wrap .i64 x = x := by
 rw [IntWalk.i64_left, IntWalk.wrap64_in _ ⟨h1, h2⟩]
theorem w64s {k n : Nat} (h : k < n) (hn : n ≤ 9223372036854775807) : IntKind.wrap .i64 ((k : Int) + 1) = ((k + 1 : Nat) : Int) := by
 rw [w64 (by omega) (by omega)]; rfl
theorem ne_list {α : Type} {xs ys : List α} (h : xs.length = ys.length) : (∃ k, k < xs.length ∧ xs[k]? ≠ ys[k]?) ↔ xs ≠ ys := by
 constructor
 · rintro ⟨k, _, h2⟩ rfl; exact h2 rfl
 · intro hne
   rcases least (fun k => xs[k]? ≠ ys[k]?) xs.length with ⟨k, h1, h2, _⟩ | h'
   · exact ⟨k, h1, h2⟩
   · exfalso; apply hne
     apply List.ext_getElem? 
     intro k
     by_cases hk : k < xs.length
     · exact Classical.byContradiction (fun hc => h' k hk hc)
     · rw [List.getElem?_eq_none (by omega), List.getElem?_eq_none (by omega)]
theorem getN {α : Type} {l : List α} {k : Nat} (h : k < l.length) : getI l (k : Int) = some l[k] := getI_eq rfl h
theorem any_ex {α : Type} {t : α → Bool} {l : List α} : l.any t = true ↔ ∃ k, k < l.length ∧ (l[k]?.map t) = some true := by
 rw [List.any_eq_true]
 constructor
 · rintro ⟨x, hx, h⟩
   obtain ⟨k, hk, rfl⟩ := List.getElem_of_mem hx
   exact ⟨k, hk, by simp [hk, h]⟩
 · rintro ⟨k, hk, h⟩
   exact ⟨l[k], List.getElem_mem hk, by simpa [hk] using h⟩
theorem loop_one {α β : Type} (xa : List α) (t : α → Bool) (hit e : β) (hn : xa.length ≤ 9223372036854775807) :
   loop (fun (i : Int) => (cond (decide (i < ((xa.length : Nat) : Int))) ((getI xa i).bind fun x => cond (t x) (some (.inr hit)) (some (.inl (IntKind.wrap .i64 (i + 1))))) (some (.inr e)) : Option (Int ⊕ β))) 0 = some (if xa.any t then hit else e) := by
 classical
 have h := loop_any (body := fun (i : Int) => (cond (decide (i < ((xa.length : Nat) : Int))) ((getI xa i).bind fun x => cond (t x) (some (.inr hit)) (some (.inl (IntKind.wrap .i64 (i + 1))))) (some (.inr e)) : Option (Int ⊕ β)))
   (fun k => (xa[k]?.map t) = some true) (fun k : Nat => (k : Int)) xa.length hit e ?_ ?_ ?_
 · refine h.trans ?_
   by_cases hh : xa.any t = true
   · rw [if_pos (any_ex.1 hh), if_pos hh]
   · rw [if_neg (fun h => hh (any_ex.2 h)), if_neg hh]
 · intro k hk hp
   simp [hk] at hp
   simp [hk, getN hk, hp, w64s hk hn]
 · intro k hk hp
   simp [hk] at hp
   simp [hk, getN hk, hp]
 · simp
theorem loop_two {α γ β : Type} (xa : List α) (xb : List γ) (t : α → γ → Bool) (hit e : β) (hl : xa.length = xb.length) (hn : xa.length ≤ 9223372036854775807) :
   loop (fun (i : Int) => (cond (decide (i < ((xa.length : Nat) : Int))) ((getI xa i).bind fun x => (getI xb i).bind fun y => cond (t x y) (some (.inr hit)) (some (.inl (IntKind.wrap .i64 (i + 1))))) (some (.inr e)) : Option (Int ⊕ β))) 0 = some (if (xa.zip xb).any (fun p => t p.1 p.2) then hit else e) := by
 classical
 have hz : (xa.zip xb).length = xa.length := by simp [hl]
 have h := loop_any (body := fun (i : Int) => (cond (decide (i < ((xa.length : Nat) : Int))) ((getI xa i).bind fun x => (getI xb i).bind fun y => cond (t x y) (some (.inr hit)) (some (.inl (IntKind.wrap .i64 (i + 1))))) (some (.inr e)) : Option (Int ⊕ β)))
   (fun k => ((xa.zip xb)[k]?.map fun p => t p.1 p.2) = some true) (fun k : Nat => (k : Int)) xa.length hit e ?_ ?_ ?_
 · refine h.trans ?_
   have ha := any_ex (t := fun p : α × γ => t p.1 p.2) (l := xa.zip xb)
   rw [hz] at ha
   by_cases hh : (xa.zip xb).any (fun p => t p.1 p.2) = true
   · rw [if_pos (ha.1 hh), if_pos hh]
   · rw [if_neg (fun h => hh (ha.2 h)), if_neg hh]
 · intro k hk hp
   have hk2 : k < xb.length := by omega
   have hk3 : k < (xa.zip xb).length := by omega
   have hz3 : (xa.zip xb)[k]? = some (xa[k], xb[k]) := by rw [List.getElem?_eq_getElem hk3, List.getElem_zip]
   rw [hz3] at hp
   simp at hp
   simp [hk, getN hk, getN hk2, hp, w64s hk hn]
 · intro k hk hp
   have hk2 : k < xb.length := by omega
   have hk3 : k < (xa.zip xb).length := by omega
   have hz3 : (xa.zip xb)[k]? = some (xa[k], xb[k]) := by rw [List.getElem?_eq_getElem hk3, List.getElem_zip]
   rw [hz3] at hp
   simp at hp
   simp [hk, getN hk, getN hk2, hp]
 · simp
theorem zip_any_ne {α : Type} [DecidableEq α] {xs ys : List α} (h : xs.length = ys.length) : (xs.zip ys).any (fun p => !decide (p.1 = p.2)) = !decide (xs = ys) := by
 induction xs generalizing ys with
 | nil => cases ys with
   | nil => rfl
   | cons => cases h
 | cons x xs ih => cases ys with
   | nil => cases h
   | cons y ys =>
     simp only [List.zip_cons_cons, List.any_cons, ih (by simpa using h), List.cons.injEq]
     by_cases h1 : x = y <;> simp [h1]
theorem loop_idx {α γ : Type} (xa : List α) (t : α → γ → Bool) (q : γ) (hn : xa.length ≤ 9223372036854775807) :
   ∃ r, loop (fun ((i, c) : Int × γ) => (cond (decide (i < ((xa.length : Nat) : Int))) ((getI xa i).bind fun x => cond (t x c) (some (.inr (.inr (i, c)))) (some (.inl (IntKind.wrap .i64 (i + 1), c)))) (some (.inr (.inl c))) : Option ((Int × γ) ⊕ (γ ⊕ (Int × γ))))) (0, q) = some r ∧ ((r = .inl q ∧ xa.any (t · q) = false) ∨ ∃ k : Nat, r = .inr ((k : Int), q) ∧ xa.any (t · q) = true) := by
 have h := loop_find (body := fun ((i, c) : Int × γ) => (cond (decide (i < ((xa.length : Nat) : Int))) ((getI xa i).bind fun x => cond (t x c) (some (.inr (.inr (i, c)))) (some (.inl (IntKind.wrap .i64 (i + 1), c)))) (some (.inr (.inl c))) : Option ((Int × γ) ⊕ (γ ⊕ (Int × γ)))))
   (fun k => (xa[k]?.map (t · q)) = some true) (fun k : Nat => ((k : Int), q)) xa.length (fun k => .inr ((k : Int), q)) (.inl q) ?_ ?_ ?_
 · rcases h with ⟨k, h1, h2, _, h3⟩ | ⟨h1, h2⟩
   · exact ⟨_, h3, .inr ⟨k, rfl, any_ex.2 ⟨k, h1, h2⟩⟩⟩
   · refine ⟨_, h2, .inl ⟨rfl, ?_⟩⟩
     cases hh : xa.any (t · q) with
     | false => rfl
     | true => obtain ⟨k, h3, h4⟩ := any_ex.1 hh; exact absurd h4 (h1 k h3)
 · intro k hk hp
   simp [hk] at hp
   simp [hk, getN hk, hp, w64s hk hn]
 · intro k hk hp
   simp [hk] at hp
   simp [hk, getN hk, hp]
 · simp
theorem loop_fold {α γ : Type} (xa : List α) (f : γ → α → γ) (c0 : γ) (hn : xa.length ≤ 9223372036854775807) {body : γ × Int → Option ((γ × Int) ⊕ γ)}
   (hb : ∀ k x, xa[k]? = some x → body ((xa.take k).foldl f c0, (k : Int)) = some (.inl (f ((xa.take k).foldl f c0) x, IntKind.wrap .i64 ((k : Int) + 1)))) (he : body (xa.foldl f c0, (xa.length : Int)) = some (.inr (xa.foldl f c0))) : loop body (c0, 0) = some (xa.foldl f c0) := by
 have h := loop_nat (body := body) (fun k : Nat => ((xa.take k).foldl f c0, (k : Int))) xa.length (b := xa.foldl f c0) ?_ ?_
 · simpa using h
 · intro k hk
   rw [hb k xa[k] (by simp [hk]), w64s hk hn]
   congr 3
   rw [List.take_succ_eq_append_getElem hk, List.foldl_append]; rfl
 · simpa using he
theorem foldl_snoc {α γ : Type} (g : α → γ) (xa : List α) (c : List γ) : xa.foldl (fun c x => c ++ [g x]) c = c ++ xa.map g := by
 induction xa generalizing c with
 | nil => simp
 | cons x xa ih => simp [ih]
theorem loop_map {α γ : Type} (xa : List α) (g : α → γ) (c0 : List γ) (hn : c0.length + xa.length ≤ 1073741824) {body : List γ × Int → Option ((List γ × Int) ⊕ List γ)}
   (hb : ∀ (c : List γ) (i : Int), body (c, i) = cond (decide (i < ((xa.length : Nat) : Int))) ((getI xa i).bind fun x => (app c [g x]).bind fun z => some (.inl (z, IntKind.wrap .i64 (i + 1)))) (some (.inr c))) : loop body (c0, 0) = some (c0 ++ xa.map g) := by
 rw [← foldl_snoc]
 refine loop_fold xa (fun c x => c ++ [g x]) c0 (by omega) (fun k x hx => ?_) ?_
 · have hk := (List.getElem?_eq_some_iff.1 hx).1
   rw [hb, foldl_snoc]
   have hx' : xa[k] = x := by rw [List.getElem?_eq_getElem hk] at hx; exact Option.some.inj hx
   have ha := app_eq (a := c0 ++ (xa.take k).map g) (b := [g x]) (by simp; omega)
   simp only [Option.bind_some, getN hk, hx', ha, Int.ofNat_lt.2 hk, decide_true, cond_true]
 · rw [hb]; simp
end
section
theorem bind_of {α β : Type} {m : Option α} {f : α → Option β} {y : β} {Q : α → Prop} (h : ∃ r, m = some r ∧ Q r) (k : ∀ r, Q r → f r = some y) : m.bind f = some y := by
 obtain ⟨r, rfl, h2⟩ := h; exact k r h2
theorem bind_ex {α β : Type} {m : Option α} {f : α → Option β} {Q : α → Prop} {R : β → Prop} (h : ∃ r, m = some r ∧ Q r) (k : ∀ r, Q r → ∃ y, f r = some y ∧ R y) : ∃ y, m.bind f = some y ∧ R y := by
 obtain ⟨r, rfl, h2⟩ := h; exact k r h2
theorem getZ {α : Type} {l : List α} {i : Int} (h0 : 0 ≤ i) (h1 : i < (l.length : Nat)) : getI l i = some (l[i.toNat]'(by omega)) := by
 unfold getI; rw [if_pos h0]; simp
theorem getN1 {α : Type} {l : List α} {k : Nat} (h : k + 1 < l.length) : getI l ((k : Int) + 1) = some l[k + 1] := getI_eq rfl h
theorem dlt {k n : Nat} (h : k < n) : decide ((k : Int) < (n : Int)) = true := by simp; omega
theorem dge {k n : Nat} (h : ¬ k < n) : decide ((k : Int) < (n : Int)) = false := by simp; omega
theorem beq_dec {α : Type} [DecidableEq α] (a b : α) : (a == b) = decide (a = b) := Bool.beq_eq_decide_eq a b
section
variable {α β γ σ : Type}
theorem loop_stop {body : σ → Option (σ ⊕ β)} (n : Nat) (st : Nat → σ) (stop : Nat → Option β) (e : β) (h : ∀ k, k < n → body (st k) = some (match stop k with | none => .inl (st (k + 1)) | some b => .inr b)) (he : body (st n) = some (.inr e)) :
   loop body (st 0) = some (((List.range n).findSome? stop).getD e) := by
 rcases loop_find (fun k => (stop k).isSome = true) st n (fun k => (stop k).getD e) e (fun k hk hp => by
     rw [h k hk]; cases hs : stop k with
     | none => rfl
     | some b => simp [hs] at hp) (fun k hk hp => by
     rw [h k hk]; cases hs : stop k with
     | none => simp [hs] at hp
     | some b => rfl) he with ⟨k, h1, h2, h3, h4⟩ | ⟨h1, h2⟩
 · rw [h4]
   obtain ⟨b, hb⟩ := Option.isSome_iff_exists.1 h2
   have : (List.range n).findSome? stop = some b := by
     rw [List.findSome?_eq_some_iff]
     refine ⟨List.range k, k, (List.range' (k + 1) (n - k - 1)), ?_, hb, fun a ha => ?_⟩
     · rw [List.range_eq_range', List.range_eq_range', ← List.range'_succ (s := k) (n := n - k - 1)]
       rw [show n - k - 1 + 1 = n - k by omega]
       have := List.range'_append_1 (s := 0) (m := k) (n := n - k)
       rw [Nat.zero_add, show k + (n - k) = n by omega] at this
       exact this.symm
     · have := h3 a (List.mem_range.1 ha)
       cases hs : stop a with
       | none => rfl
       | some b => simp [hs] at this
   rw [this, hb]
 · rw [h2]
   have : (List.range n).findSome? stop = none := by
     rw [List.findSome?_eq_none_iff]
     intro a ha
     have := h1 a (List.mem_range.1 ha)
     cases hs : stop a with
     | none => rfl
     | some b => simp [hs] at this
   rw [this]; rfl
theorem loop_search {body : Int → Option (Int ⊕ β)} (xa : List α) (t : α → Bool) (hit : Nat → β) (e : β) (hb : ∀ (k : Nat) (h : k < xa.length), body (k : Int) = some (if t xa[k] then .inr (hit k) else .inl ((k + 1 : Nat) : Int))) (he : body (xa.length : Int) = some (.inr e)) :
   loop body 0 = some (match xa.findIdx? t with | some k => hit k | none => e) := by
 rcases loop_find (fun k => ∃ h : k < xa.length, t xa[k] = true) (fun k : Nat => (k : Int)) xa.length hit e (fun k hk hp => by
     rw [hb k hk, if_neg (fun h => hp ⟨hk, h⟩)]) (fun k hk ⟨_, hp⟩ => by rw [hb k hk, if_pos hp]) he with ⟨k, h1, ⟨_, h2⟩, h3, h4⟩ | ⟨h1, h2⟩
 · rw [show ((0 : Int)) = ((0 : Nat) : Int) from rfl, h4]
   have : xa.findIdx? t = some k := by
     rw [List.findIdx?_eq_some_iff_getElem]
     exact ⟨h1, h2, fun j hj => fun hc => h3 j hj ⟨by omega, by simpa using hc⟩⟩
   rw [this]
 · rw [show ((0 : Int)) = ((0 : Nat) : Int) from rfl, h2]
   have : xa.findIdx? t = none := by
     rw [List.findIdx?_eq_none_iff]
     intro x hx
     obtain ⟨k, hk, rfl⟩ := List.getElem_of_mem hx
     cases hc : t xa[k] with
     | false => rfl
     | true => exact absurd ⟨hk, hc⟩ (h1 k hk)
   rw [this]
theorem loop_some {body : Int → Option (Int ⊕ β)} (xa : List α) (t : α → Bool) (hit e : β) (hb : ∀ (k : Nat) (h : k < xa.length), body (k : Int) = some (if t xa[k] then .inr hit else .inl ((k + 1 : Nat) : Int))) (he : body (xa.length : Int) = some (.inr e)) :
   loop body 0 = some (if xa.any t then hit else e) := by
 rw [loop_search xa t (fun _ => hit) e hb he]
 cases h : xa.findIdx? t with
 | none =>
   have : xa.any t = false := by
     rw [List.any_eq_false]; intro x hx; have := List.findIdx?_eq_none_iff.1 h x hx; simp [this]
   rw [this]; rfl
 | some k =>
   obtain ⟨hk, h1, _⟩ := List.findIdx?_eq_some_iff_getElem.1 h
   have : xa.any t = true := List.any_eq_true.2 ⟨_, List.getElem_mem hk, h1⟩
   rw [this]; rfl
theorem loop_carry {δ : Type} {body : (γ × Int) → Option ((γ × Int) ⊕ δ)} (xa : List α) (acc : Nat → γ) (out : δ) (hb : ∀ (k : Nat) (h : k < xa.length), body (acc k, (k : Int)) = some (.inl (acc (k + 1), ((k + 1 : Nat) : Int)))) (he : body (acc xa.length, (xa.length : Int)) = some (.inr out)) :
   loop body (acc 0, 0) = some out := loop_nat (fun k => (acc k, (k : Int))) xa.length hb he
theorem loop_alike [DecidableEq α] {body : Int → Option (Int ⊕ β)} (xa xb : List α) (hit e : β) (hl : xa.length = xb.length) (hb : ∀ (k : Nat) (h : k < xa.length), body (k : Int) = some (if xa[k] = (xb[k]'(by omega)) then .inl ((k + 1 : Nat) : Int) else .inr hit)) (he : body (xa.length : Int) = some (.inr e)) :
   loop body 0 = some (if xa = xb then e else hit) := by
 rw [loop_search (List.range xa.length) (fun k => decide (xa[k]? ≠ xb[k]?)) (fun _ => hit) e (fun k h => by
     simp at h
     rw [hb k h]
     have h2 : k < xb.length := by omega
     by_cases hq : xa[k] = xb[k] <;> simp [h, h2, hq]) (by simpa using he)]
 by_cases hq : xa = xb
 · subst hq
   have : (List.range xa.length).findIdx? (fun k => decide (xa[k]? ≠ xa[k]?)) = none := by rw [List.findIdx?_eq_none_iff]; simp
   rw [this]; simp
 · cases h : (List.range xa.length).findIdx? (fun k => decide (xa[k]? ≠ xb[k]?)) with
   | some k => simp [hq]
   | none =>
     exfalso; apply hq
     rw [List.findIdx?_eq_none_iff] at h
     apply List.ext_getElem?
     intro k
     by_cases hk : k < xa.length
     · simpa using h k (List.mem_range.2 hk)
     · rw [List.getElem?_eq_none (by omega), List.getElem?_eq_none (by omega)]
theorem take_snoc {l : List α} {k : Nat} (h : k < l.length) : l.take (k + 1) = l.take k ++ [l[k]] := List.take_succ_eq_append_getElem h
theorem dlen {a b : Nat} (h : a = b) : (!decide ((a : Int) = (b : Int))) = false := by simp [h]
theorem dlen' {a b : Nat} (h : ¬ a = b) : (!decide ((a : Int) = (b : Int))) = true := by simp; omega
end
theorem ok64 {x : Int} (h : Tp.Ok (.int .i64) x) : -9223372036854775808 ≤ x ∧ x ≤ 9223372036854775807 := by
 have h' : (Lit.int .i64 x).wf = true := h
 simp only [Lit.wf, IntKind.min, IntKind.max, IntKind.signed, IntKind.bits, Bool.and_eq_true, decide_eq_true_eq] at h'
 simp at h'; omega
theorem sub1 {α : Type} {l : List α} (h : 1 ≤ l.length) : subL l 1 ((l.length : Nat) : Int) = some (l.drop 1) := by
 rw [subL_eq (by omega) (by omega) (by omega)]; simp
end
section
namespace Nu
set_option linter.unusedVariables false
set_option linter.unnecessarySimpa false
set_option linter.unusedSimpArgs false
theorem head_app {α : Type} {l m : List α} (h : l ≠ []) : (l ++ m).head? = l.head? := by cases l with
 | nil => exact absurd rfl h
 | cons a l => rfl
def ch (d : Nat) : UInt8 := UInt8.ofNat (48 + d)
theorem ch_nat {d : Nat} (h : d < 10) : (ch d).toNat = 48 + d := by unfold ch; simp; omega
def dec (n : Nat) : List UInt8 := if h : n < 10 then [ch n] else dec (n / 10) ++ [ch (n % 10)]
termination_by n
theorem dec_lt {n : Nat} (h : n < 10) : dec n = [ch n] := by rw [dec, dif_pos h]
theorem dec_ge {n : Nat} (h : ¬ n < 10) : dec n = dec (n / 10) ++ [ch (n % 10)] := by rw [dec, dif_neg h]
def text (n : Int) : List UInt8 := if n < 0 then [] else dec n.toNat
def isDig (c : UInt8) : Bool := decide (48 ≤ c.toNat) && decide (c.toNat ≤ 57)
def dig (c : UInt8) : Nat := c.toNat - 48
def val (s : List UInt8) : Nat := s.foldl (fun a c => a * 10 + dig c) 0
theorem val_snoc (s : List UInt8) (c : UInt8) : val (s ++ [c]) = val s * 10 + dig c := by simp [val]
def isNum (s : List UInt8) : Bool := s.all isDig && (decide (s.length = 1) || (decide (1 < s.length) && !decide (s.head? = some 48)))
def parse (s : List UInt8) (most : Int) : Int × Int := if isNum s = true then (if most < (val s : Int) then (0, 5) else ((val s : Int), 0)) else (0, 3)
theorem isDig_ch {d : Nat} (h : d < 10) : isDig (ch d) = true := by unfold isDig; rw [ch_nat h]; simp; omega
theorem dig_ch {d : Nat} (h : d < 10) : dig (ch d) = d := by unfold dig; rw [ch_nat h]; omega
theorem ch_dig {c : UInt8} (h : isDig c = true) : ch (dig c) = c ∧ dig c < 10 := by
 unfold isDig at h; simp only [Bool.and_eq_true, decide_eq_true_eq] at h
 refine ⟨?_, by unfold dig; omega⟩
 unfold ch dig
 rw [show 48 + (c.toNat - 48) = c.toNat by omega]; simp
theorem dec_ne (n : Nat) : dec n ≠ [] := by
 by_cases h : n < 10
 · rw [dec_lt h]; simp
 · rw [dec_ge h]; simp
theorem dec_all (n : Nat) : (dec n).all isDig = true := by
 induction n using Nat.strongRecOn with
 | _ n ih =>
   by_cases h : n < 10
   · rw [dec_lt h]; simp [isDig_ch h]
   · rw [dec_ge h, List.all_append, ih (n / 10) (by omega)]; simp [isDig_ch (show n % 10 < 10 by omega)]
theorem val_dec (n : Nat) : val (dec n) = n := by
 induction n using Nat.strongRecOn with
 | _ n ih =>
   by_cases h : n < 10
   · rw [dec_lt h]; simp [val, dig_ch h]
   · rw [dec_ge h, val_snoc, ih (n / 10) (by omega), dig_ch (by omega)]; omega
theorem dec_head (n : Nat) (h0 : n ≠ 0) : (dec n).head? ≠ some 48 := by
 induction n using Nat.strongRecOn with
 | _ n ih =>
   by_cases h : n < 10
   · rw [dec_lt h]
     intro hc
     have h1 := ch_nat h
     simp only [List.head?_cons, Option.some.injEq] at hc
     rw [hc] at h1
     simp at h1; omega
   · rw [dec_ge h, head_app (dec_ne _)]
     exact ih (n / 10) (by omega) (by omega)
theorem isNum_dec (n : Nat) : isNum (dec n) = true := by
 unfold isNum
 rw [dec_all, Bool.true_and]
 by_cases h : n < 10
 · rw [dec_lt h]; simp
 · have h1 := dec_head n (by omega)
   have h2 : 1 < (dec n).length := by
     rw [dec_ge h, List.length_append]
     have := List.length_pos_iff.2 (dec_ne (n / 10))
     simp; omega
   simp [h1, h2]
theorem val_pos {s : List UInt8} (hs : s ≠ []) (ha : s.all isDig = true) (hh : s.head? ≠ some 48) : 0 < val s := by
 have key : ∀ (l : List UInt8) (a : Nat), 0 < a → 0 < l.foldl (fun a c => a * 10 + dig c) a := by
   intro l
   induction l with
   | nil => intro a h; exact h
   | cons c l ih => intro a h; rw [List.foldl_cons]; exact ih _ (by show 0 < a * 10 + dig c; omega)
 cases s with
 | nil => exact absurd rfl hs
 | cons c s =>
   unfold val
   rw [List.foldl_cons]
   refine key s _ ?_
   simp only [List.all_cons, Bool.and_eq_true] at ha
   have h1 : c ≠ 48 := fun e => hh (by rw [e]; rfl)
   have h2 := ha.1
   unfold isDig at h2; simp only [Bool.and_eq_true, decide_eq_true_eq] at h2
   have h3 : c.toNat ≠ 48 := fun e => h1 (by apply UInt8.toNat_inj.1; rw [e]; rfl)
   unfold dig; omega
theorem dec_val : ∀ (n : Nat) (s : List UInt8), s.length = n → isNum s = true → dec (val s) = s := by
 intro n
 induction n with
 | zero => intro s hl h; obtain rfl := List.length_eq_zero_iff.1 hl; simp [isNum] at h
 | succ n ih =>
   intro s hl h
   rcases List.eq_nil_or_concat s with rfl | ⟨t, c, rfl⟩
   · simp at hl
   rw [List.concat_eq_append] at *
   unfold isNum at h
   simp only [List.all_append, List.all_cons, List.all_nil, Bool.and_true, Bool.and_eq_true] at h
   obtain ⟨⟨h1, h2⟩, h3⟩ := h
   obtain ⟨h4, h5⟩ := ch_dig h2
   rw [val_snoc]
   by_cases ht : t = []
   · subst ht
     rw [show val [] = 0 from rfl, Nat.zero_mul, Nat.zero_add, dec_lt h5, h4]; rfl
   · have hh : t.head? ≠ some 48 := by
       have : 1 < (t ++ [c]).length := by have := List.length_pos_iff.2 ht; simp; omega
       have h6 : ¬ (t ++ [c]).length = 1 := by omega
       simp only [h6, this, decide_false, decide_true, Bool.false_or, Bool.true_and, Bool.not_eq_true', decide_eq_false_iff_not] at h3
       rwa [head_app ht] at h3
     have hv := val_pos ht h1 hh
     have hn : isNum t = true := by
       unfold isNum; rw [h1, Bool.true_and]
       have := List.length_pos_iff.2 ht
       by_cases h7 : t.length = 1
       · simp [h7]
       · have : 1 < t.length := by omega
         simp [this, hh]
     rw [dec_ge (by omega), show (val t * 10 + dig c) / 10 = val t by omega, show (val t * 10 + dig c) % 10 = dig c by omega, ih t (by simpa using hl) hn, h4]
theorem text_val {s : List UInt8} (h : isNum s = true) : text (val s : Int) = s := by
 unfold text; rw [if_neg (by omega)]; exact dec_val _ s rfl h
theorem parse_text {n : Int} (h : 0 ≤ n) (most : Int) : parse (text n) most = if most < n then (0, 5) else (n, 0) := by
 have e : text n = dec n.toNat := by unfold text; rw [if_neg (by omega)]
 rw [e]; unfold parse
 rw [if_pos (isNum_dec _), val_dec, Int.toNat_of_nonneg h]
theorem text_neg {n : Int} (h : n < 0) : text n = [] := by unfold text; rw [if_pos h]
theorem parse_nil (most : Int) : parse [] most = (0, 3) := rfl
theorem dec_len : ∀ (k n : Nat), n < 10 ^ (k + 1) → (dec n).length ≤ k + 1 := by
 intro k
 induction k with
 | zero => intro n h; rw [dec_lt (by simpa using h)]; simp
 | succ k ih =>
   intro n h
   by_cases hn : n < 10
   · rw [dec_lt hn]; simp
   · rw [dec_ge hn, List.length_append]
     have := ih (n / 10) (by rw [Nat.pow_succ] at h; omega)
     simp; omega
theorem text_len {n : Int} (h : n ≤ 9223372036854775807) : (text n).length ≤ 19 := by
 unfold text; split
 · simp
 · exact dec_len 18 _ (by omega)
theorem val_take_le (s : List UInt8) (k : Nat) : val (s.take k) ≤ val s := by
 have key : ∀ (l : List UInt8) (a : Nat), a ≤ l.foldl (fun a c => a * 10 + dig c) a := by
   intro l
   induction l with
   | nil => intro a; exact Nat.le_refl _
   | cons c l ih => intro a; rw [List.foldl_cons]; exact Nat.le_trans (by show a ≤ a * 10 + dig c; omega) (ih _)
 conv => rhs; rw [← List.take_append_drop k s]
 unfold val
 rw [List.foldl_append]
 exact key _ _
theorem text_no {n : Int} {c : UInt8} (hc : isDig c = false) : c ∉ text n := by
 unfold text; split
 · simp
 · intro h
   have := List.all_eq_true.1 (dec_all n.toNat) c h
   rw [hc] at this; cases this
theorem isNum_no {s : List UInt8} {c : UInt8} (hc : isDig c = false) (h : isNum s = true) : c ∉ s := by
 rw [← text_val h]; exact text_no hc
theorem index_one (c : UInt8) : ∀ s : List UInt8, Lib.index s [c] = match s.findIdx? (fun x => decide (x = c)) with | some k => (k : Int) | none => -1
 | [] => by simp [Lib.index]
 | b :: l => by
   unfold Lib.index
   rw [index_one c l, List.findIdx?_cons]
   by_cases h : b = c
   · subst h; simp
   · have : ([c] : List UInt8).isPrefixOf (b :: l) = false := by simp [List.isPrefixOf]; exact fun e => h e.symm
     rw [this]
     simp only [Bool.false_eq_true, if_false, h, decide_false]
     cases hq : l.findIdx? (fun x => decide (x = c)) with
     | none => simp
     | some k =>
       have : ((k : Int) == -1) = false := by rw [beq_eq_false_iff_ne]; omega
       simp [this]
theorem cut_one (c : UInt8) (s : List UInt8) : Lib.cut s [c] = match s.findIdx? (fun x => decide (x = c)) with | some k => (s.take k, s.drop (k + 1), true) | none => (s, [], false) := by
 unfold Lib.cut
 rw [index_one]
 cases s.findIdx? (fun x => decide (x = c)) with
 | none => simp
 | some k => simp
def hd (b : UInt8) : List (List UInt8) → List (List UInt8)
 | p :: ps => (b :: p) :: ps
 | [] => [[b]]
def pieces (c : UInt8) : List UInt8 → List (List UInt8)
 | [] => [[]]
 | b :: l => if b = c then [] :: pieces c l else hd b (pieces c l)
theorem pieces_cons (c b : UInt8) (l : List UInt8) : pieces c (b :: l) = if b = c then [] :: pieces c l else hd b (pieces c l) := rfl
theorem pieces_ne (c : UInt8) : ∀ s, pieces c s ≠ []
 | [] => by simp [pieces]
 | b :: l => by
   rw [pieces_cons]; split
   · simp
   · cases pieces c l <;> simp [hd]
theorem pieces_hit (c : UInt8) : ∀ (s : List UInt8) (k : Nat), s.findIdx? (fun x => decide (x = c)) = some k → pieces c s = s.take k :: pieces c (s.drop (k + 1))
 | [], k, h => by simp at h
 | b :: l, k, h => by
   rw [List.findIdx?_cons] at h
   rw [pieces_cons]
   by_cases hb : b = c
   · subst hb; simp at h; subst h; simp
   · simp only [hb, decide_false, Bool.false_eq_true, if_false] at h ⊢
     cases hq : l.findIdx? (fun x => decide (x = c)) with
     | none => rw [hq] at h; simp at h
     | some j =>
       rw [hq] at h; simp at h; subst h
       rw [pieces_hit c l j hq]; simp [hd]
theorem pieces_miss (c : UInt8) : ∀ (s : List UInt8), s.findIdx? (fun x => decide (x = c)) = none → pieces c s = [s]
 | [], h => rfl
 | b :: l, h => by
   rw [List.findIdx?_cons] at h
   rw [pieces_cons]
   by_cases hb : b = c
   · subst hb; simp at h
   · simp only [hb, decide_false, Bool.false_eq_true, if_false] at h ⊢
     cases hq : l.findIdx? (fun x => decide (x = c)) with
     | none => rw [pieces_miss c l hq]; rfl
     | some j => rw [hq] at h; simp at h
theorem splitK_pieces (c : UInt8) : ∀ (k : Nat) (s : List UInt8), s.count c = k → Lib.splitK [c] 0 k s = pieces c s := by
 intro k
 induction k with
 | zero =>
   intro s h
   have : s.findIdx? (fun x => decide (x = c)) = none := by
     rw [List.findIdx?_eq_none_iff]
     intro x hx
     rw [List.count_eq_zero] at h
     simp only [decide_eq_false_iff_not]
     rintro rfl; exact h hx
   rw [pieces_miss c s this]; rfl
 | succ k ih =>
   intro s h
   unfold Lib.splitK
   rw [index_one]
   cases hq : s.findIdx? (fun x => decide (x = c)) with
   | none =>
     rw [List.findIdx?_eq_none_iff] at hq
     have : c ∈ s := by rw [← List.count_pos_iff]; omega
     have := hq c this
     simp at this
   | some j =>
     have : ((j : Int) == -1) = false := by rw [beq_eq_false_iff_ne]; omega
     simp only [this, Bool.false_eq_true, if_false, Int.toNat_natCast, Nat.add_zero, List.length_cons, List.length_nil, Nat.zero_add]
     rw [pieces_hit c s j hq]
     have e : (s.drop (j + 1)).count c = k := by
       obtain ⟨hj, h1, h2⟩ := List.findIdx?_eq_some_iff_getElem.1 hq
       have e1 : s = s.take j ++ s[j] :: s.drop (j + 1) := by rw [List.getElem_cons_drop, List.take_append_drop]
       have e2 : (s.take j).count c = 0 := by
         rw [List.count_eq_zero]
         intro hm
         obtain ⟨i, hi, e⟩ := List.getElem_of_mem hm
         have hij : i < j := by rw [List.length_take] at hi; omega
         have := h2 i hij
         rw [List.getElem_take] at e
         simp [e] at this
       have e3 : s[j] = c := by simpa using h1
       have e4 := congrArg (List.count c) e1
       rw [List.count_append, e2, e3, List.count_cons_self] at e4
       omega
     rw [ih _ e]
theorem pieces_app (c : UInt8) : ∀ (p s : List UInt8), c ∉ p → pieces c (p ++ c :: s) = p :: pieces c s
 | [], s, h => by simp [pieces]
 | b :: p, s, h => by
   have hb : b ≠ c := fun e => h (by simp [e])
   rw [List.cons_append, pieces_cons, if_neg hb, pieces_app c p s (fun e => h (by simp [e]))]; rfl
theorem pieces_all (c : UInt8) (p : List UInt8) (h : c ∉ p) : pieces c p = [p] := by
 refine pieces_miss c p ?_
 rw [List.findIdx?_eq_none_iff]
 intro x hx
 simp only [decide_eq_false_iff_not]
 rintro rfl; exact h hx
def glue (c : UInt8) : List (List UInt8) → List UInt8
 | [] => []
 | p :: ps => p ++ ps.flatMap (c :: ·)
theorem glue_snoc (c : UInt8) (l : List (List UInt8)) (x : List UInt8) : glue c (l ++ [x]) = if l = [] then x else glue c l ++ c :: x := by
 cases l with
 | nil => simp [glue]
 | cons p ps => simp [glue]
theorem glue_cons2 (c : UInt8) (p q : List UInt8) (ps : List (List UInt8)) : glue c (p :: q :: ps) = p ++ c :: glue c (q :: ps) := by simp [glue]
theorem pieces_glue (c : UInt8) : ∀ (l : List (List UInt8)), l ≠ [] → (∀ p ∈ l, c ∉ p) → pieces c (glue c l) = l
 | [], h, _ => absurd rfl h
 | [p], _, h => by simp only [glue, List.flatMap_nil, List.append_nil]; exact pieces_all c p (h p (by simp))
 | p :: q :: ps, _, h => by
   rw [glue_cons2, pieces_app c p _ (h p (by simp)), pieces_glue c (q :: ps) (by simp) (fun x hx => h x (by simp at hx ⊢; exact .inr hx))]
theorem glue_pieces (c : UInt8) : ∀ (s : List UInt8), glue c (pieces c s) = s
 | [] => rfl
 | b :: l => by
   have ih := glue_pieces c l
   rw [pieces_cons]
   by_cases hb : b = c
   · subst hb
     rw [if_pos rfl]
     cases hq : pieces b l with
     | nil => exact absurd hq (pieces_ne b l)
     | cons p ps => rw [glue_cons2, ← hq, ih]; rfl
   · rw [if_neg hb]
     cases hq : pieces c l with
     | nil => exact absurd hq (pieces_ne c l)
     | cons p ps =>
       rw [hq] at ih
       simp only [glue, hd] at ih ⊢
       rw [List.cons_append, ih]
theorem join_glue (c : UInt8) : ∀ (l : List (List UInt8)), Lib.join l [c] = glue c l
 | [] => by simp [Lib.join, glue]
 | [p] => by simp [Lib.join, glue, List.intercalate]
 | p :: q :: ps => by
   have ih := join_glue c (q :: ps)
   rw [glue_cons2, ← ih]
   simp [Lib.join, List.intercalate]
def lst (l : List Int) : List UInt8 := glue 44 (l.map text)
end Nu
end
section
open Go.RowKit Nu
theorem byte48 (c : UInt8) (h : isDig c = true) : IntKind.wrap .i64 (IntKind.wrap .u8 (((c.toNat : Nat) : Int) - 48)) = (dig c : Int) ∧ dig c < 10 := by
 unfold isDig at h; simp only [Bool.and_eq_true, decide_eq_true_eq] at h
 have e : IntKind.wrap .u8 (((c.toNat : Nat) : Int) - 48) = (((c.toNat : Nat) : Int) - 48) % 256 := IntKind.wrap_u8' _
 have e2 : (((c.toNat : Nat) : Int) - 48) % 256 = ((c.toNat : Nat) : Int) - 48 := Int.emod_eq_of_lt (by omega) (by omega)
 rw [e, e2, w64 (by omega) (by omega)]
 unfold dig; omega
theorem all_of {s : List UInt8} (h : isNum s = true) : s.all isDig = true := by unfold isNum at h; rw [Bool.and_eq_true] at h; exact h.1
theorem ne_of {s : List UInt8} (h : isNum s = true) : s ≠ [] := by rintro rfl; simp [isNum] at h
theorem val_take {s : List UInt8} {k : Nat} (h : k < s.length) : val (s.take (k + 1)) = val (s.take k) * 10 + dig s[k] := by rw [take_snoc h, val_snoc]
theorem notDig (c : UInt8) : (decide ((((c.toNat : Nat) : Int)) < 48) || decide (57 < (((c.toNat : Nat) : Int)))) = !isDig c := by
 unfold isDig
 rw [Bool.eq_iff_iff]
 simp only [Bool.or_eq_true, decide_eq_true_eq, Bool.not_eq_true', Bool.and_eq_false_iff, decide_eq_false_iff_not]; omega
theorem digLoop {s : List UInt8} {β : Type} {body : Int → Option (Int ⊕ β)} (hit e : β) (hn : s.length ≤ 1000000)
   (hb : ∀ i : Int, body i = cond (decide (i < (((s.length : Nat) : Int)))) ((getI s i).bind fun x => (cond (decide ((((x.toNat : Nat) : Int)) < 48)) (some (true)) ((getI s i).bind fun x => some (decide (57 < (((x.toNat : Nat) : Int)))))).bind fun t => cond (t) (some (.inr hit)) (some (.inl (IntKind.wrap .i64 (i + 1))))) (some (.inr e))) :
   loop body 0 = some (if s.all isDig then e else hit) := by
 have h := loop_some (body := body) s (fun c => !isDig c) hit e (fun k hk => by
   rw [hb, dlt hk, cond_true, getN hk, Option.bind_some, w64s hk (by omega)]
   rw [← notDig]
   by_cases h1 : (((s[k].toNat : Nat) : Int)) < 48
   · simp only [h1, decide_true, cond_true, Option.bind_some, Bool.true_or, if_true]
   · simp only [h1, decide_false, cond_false, Option.bind_some, Bool.false_or]
     by_cases h2 : 57 < (((s[k].toNat : Nat) : Int)) <;> simp [h2]) (by rw [hb, dge (by omega), cond_false])
 rw [h]
 congr 1
 cases ha : s.all isDig with
 | true =>
   have : s.any (fun c => !isDig c) = false := by rw [List.any_eq_false]; intro x hx; simp [List.all_eq_true.1 ha x hx]
   rw [this]; rfl
 | false =>
   have : s.any (fun c => !isDig c) = true := by
     rw [List.all_eq_false] at ha
     obtain ⟨x, hx, h⟩ := ha
     exact List.any_eq_true.2 ⟨x, hx, by simpa using h⟩
   rw [this]; rfl
theorem get0 {s : List UInt8} (h : 0 < s.length) : getI s 0 = some (s[0]'h) := getN (k := 0) h
theorem head48 {s : List UInt8} (h : 0 < s.length) : decide ((((s[0]'h).toNat : Nat) : Int) = 48) = decide (s.head? = some 48) := by
 cases s with
 | nil => simp at h
 | cons b l =>
   simp only [List.getElem_cons_zero, List.head?_cons, Option.some.injEq]
   by_cases hb : b = 48
   · subst hb; rfl
   · have : ¬ ((b.toNat : Nat) : Int) = 48 := fun e => hb (by apply UInt8.toNat_inj.1; simpa using Int.ofNat.inj e)
     simp [hb, this]
theorem isNumber_eq (s : List UInt8) (hn : s.length ≤ 1000000) : fn_numeral_isNumber s = some (isNum s) := by
 unfold fn_numeral_isNumber
 by_cases h0 : s = []
 · subst h0; rfl
 have hp : 0 < s.length := List.length_pos_iff.2 h0
 have hl := digLoop (s := s) (body := fn_numeral_isNumber_l1 s) (.inr false) (.inl ()) hn (fun i => rfl)
 have he : decide (s = ([] : List UInt8)) = false := by simp [h0]
 rw [he, cond_false]
 by_cases h1 : 1 < s.length
 · have e1 : decide (1 < (((s.length : Nat) : Int))) = true := by simp; omega
   rw [e1, cond_true, get0 hp]
   simp only [Option.bind_some, head48 hp]
   unfold isNum
   have e2 : ¬ s.length = 1 := by omega
   by_cases h2 : s.head? = some 48
   · simp [h2, e2]
   · simp only [h2, decide_false, cond_false, hl, e2, h1, decide_true, Bool.false_or, Bool.true_and, Bool.not_false, Bool.and_true]
     cases s.all isDig <;> simp
 · have e1 : decide (1 < (((s.length : Nat) : Int))) = false := by simp; omega
   rw [e1, cond_false]
   simp only [Option.bind_some, cond_false, hl]
   unfold isNum
   have e2 : s.length = 1 := by omega
   simp only [e2, decide_true, Bool.true_or, Bool.and_true]
   cases s.all isDig <;> simp
theorem form_eq (s : List UInt8) (hn : s.length ≤ 1000000) : fn_ref01_Form s = some (isNum s) := by
 unfold fn_ref01_Form
 have hl := digLoop (s := s) (body := fn_ref01_Form_l1 s) (.inr false) (.inl ()) hn (fun i => rfl)
 rw [hl]
 unfold isNum
 cases ha : s.all isDig with
 | false => simp
 | true =>
   by_cases e2 : s.length = 1
   · simp [e2]
   · by_cases h1 : 1 < s.length
     · have hp : 0 < s.length := by omega
       have e1 : decide (1 < (((s.length : Nat) : Int))) = true := by simp; omega
       have e3 : decide ((((s.length : Nat) : Int)) = 1) = false := by simp; omega
       have := head48 hp
       simp only [e1, e3, e2, h1, get0 hp, if_true, Option.bind_some, cond_true, cond_false, decide_true, decide_false, Bool.false_or, Bool.true_and, this]
     · have e1 : decide (1 < (((s.length : Nat) : Int))) = false := by simp; omega
       have e3 : decide ((((s.length : Nat) : Int)) = 1) = false := by simp; omega
       simp [e1, e3, e2, h1]
theorem nParse_eq (s : List UInt8) (most : Int) (hn : s.length ≤ 1000000) (hm : -9223372036854775808 ≤ most) (hm2 : most ≤ 9223372036854775807) : fn_numeral_Parse s most = some (parse s most) := by
 unfold fn_numeral_Parse
 rw [isNumber_eq s hn]
 unfold parse
 cases hs : isNum s with
 | false => simp
 | true =>
   have ha := all_of hs
   simp only [Option.bind_some, Bool.not_true, cond_false, if_true]
   have h := loop_find (body := fn_numeral_Parse_l1 s most) (fun k => most < (val (s.take (k + 1)) : Int)) (fun k : Nat => (((val (s.take k) : Nat) : Int), (k : Int))) s.length (fun _ => .inr (0, 5)) (.inl ((val s : Nat) : Int))
   have step : ∀ k, k < s.length → (∀ j, j < k → ¬ most < (val (s.take (j + 1)) : Int)) → fn_numeral_Parse_l1 s most (((val (s.take k) : Nat) : Int), (k : Int)) = if most < (val (s.take (k + 1)) : Int) then some (.inr (.inr (0, 5))) else some (.inl ((((val (s.take (k + 1)) : Nat) : Int), ((k + 1 : Nat) : Int)))) := by
     intro k hk hprev
     obtain ⟨b1, b2⟩ := byte48 s[k] (List.all_eq_true.1 ha _ (List.getElem_mem hk))
     have hv := val_take hk
     have hpre : k = 0 ∨ ((val (s.take k) : Nat) : Int) ≤ most := by
       rcases Nat.eq_zero_or_pos k with h | h
       · exact .inl h
       · right
         have := hprev (k - 1) (by omega)
         rw [show k - 1 + 1 = k by omega] at this
         omega
     have hz : k = 0 → val (s.take k) = 0 := fun e => by subst e; rfl
     unfold fn_numeral_Parse_l1
     simp only [dlt hk, cond_true, getN hk, Option.bind_some, b1]
     rw [hv]
     by_cases h1 : most < (dig s[k] : Int)
     · have : most < ((val (s.take k) * 10 + dig s[k] : Nat) : Int) := by omega
       rw [if_pos this]; simp [h1]
     · have e1 : IntKind.wrap .i64 (most - (dig s[k] : Int)) = most - (dig s[k] : Int) := w64 (by omega) (by omega)
       have e2 : Int.tdiv (most - (dig s[k] : Int)) 10 = (most - (dig s[k] : Int)) / 10 := Int.tdiv_eq_ediv_of_nonneg (by omega)
       have e3 : IntKind.wrap .i64 ((most - (dig s[k] : Int)) / 10) = (most - (dig s[k] : Int)) / 10 := w64 (by omega) (by omega)
       rw [e1, e2, e3]
       by_cases h2 : most < ((val (s.take k) * 10 + dig s[k] : Nat) : Int)
       · have : (most - (dig s[k] : Int)) / 10 < ((val (s.take k) : Nat) : Int) := by omega
         rw [if_pos h2]; simp [this]
       · have : ¬ (most - (dig s[k] : Int)) / 10 < ((val (s.take k) : Nat) : Int) := by omega
         rw [if_neg h2]
         have w1 : IntKind.wrap .i64 (((val (s.take k) : Nat) : Int) * 10) = ((val (s.take k) : Nat) : Int) * 10 := w64 (by omega) (by omega)
         have w2 : IntKind.wrap .i64 (((val (s.take k) : Nat) : Int) * 10 + (dig s[k] : Int)) = ((val (s.take k) * 10 + dig s[k] : Nat) : Int) := by rw [w64 (by omega) (by omega)]; omega
         simp only [decide_eq_false h1, decide_eq_false this, Bool.or_self, cond_false, w1, w2, w64s hk (by omega)]
   rcases least (fun k => most < (val (s.take (k + 1)) : Int)) s.length with ⟨k, hk, hp, hmin⟩ | hall
   · have hl : loop (fn_numeral_Parse_l1 s most) (0, 0) = some (.inr (0, 5)) := by
       have := loop_nat (body := fn_numeral_Parse_l1 s most) (fun k : Nat => (((val (s.take k) : Nat) : Int), (k : Int))) k (b := .inr (0, 5)) (fun j hj => by rw [step j (by omega) (fun i hi => hmin i (by omega)), if_neg (hmin j hj)]) (by rw [step k hk hmin, if_pos hp])
       exact this
     rw [hl]
     have h9 : most < ((val s : Nat) : Int) := by have := val_take_le s (k + 1); omega
     simp [h9]
   · have hl : loop (fn_numeral_Parse_l1 s most) (0, 0) = some (.inl ((val s : Nat) : Int)) := by
       have := loop_nat (body := fn_numeral_Parse_l1 s most) (fun k : Nat => (((val (s.take k) : Nat) : Int), (k : Int))) s.length (b := .inl ((val s : Nat) : Int)) (fun j hj => by rw [step j hj (fun i hi => hall i (by omega)), if_neg (hall j hj)]) (by
         unfold fn_numeral_Parse_l1
         simp only [dge (show ¬ s.length < s.length by omega), cond_false, List.take_length])
       exact this
     rw [hl]
     have h9 : ¬ most < ((val s : Nat) : Int) := by
       have hp : 0 < s.length := List.length_pos_iff.2 (ne_of hs)
       have := hall (s.length - 1) (by omega)
       rw [show s.length - 1 + 1 = s.length by omega, List.take_length] at this
       exact this
     simp [h9]
theorem rParse_eq (s : List UInt8) (most : Int) (hn : s.length ≤ 1000000) (hm2 : most ≤ 9223372036854775807) : fn_ref01_Parse s most = some (parse s most) := by
 unfold fn_ref01_Parse
 rw [form_eq s hn]
 unfold parse
 cases hs : isNum s with
 | false => simp
 | true =>
   have ha := all_of hs
   simp only [Option.bind_some, Bool.not_true, cond_false, if_true]
   have step : ∀ k, k < s.length → ((val (s.take k) : Nat) : Int) ≤ 9223372036854775807 → fn_ref01_Parse_l1 s (((val (s.take k) : Nat) : Int), (k : Int)) = if 9223372036854775807 < (val (s.take (k + 1)) : Int) then some (.inr (.inr (0, 5))) else some (.inl ((((val (s.take (k + 1)) : Nat) : Int), ((k + 1 : Nat) : Int)))) := by
     intro k hk hprev
     obtain ⟨b1, b2⟩ := byte48 s[k] (List.all_eq_true.1 ha _ (List.getElem_mem hk))
     have hv := val_take hk
     unfold fn_ref01_Parse_l1
     simp only [dlt hk, cond_true, getN hk, Option.bind_some, b1]
     rw [hv]
     by_cases h2 : 9223372036854775807 < ((val (s.take k) * 10 + dig s[k] : Nat) : Int)
     · rw [if_pos h2]
       have : (decide (922337203685477580 < ((val (s.take k) : Nat) : Int)) || (decide (((val (s.take k) : Nat) : Int) = 922337203685477580) && decide (7 < (dig s[k] : Int)))) = true := by
         simp only [Bool.or_eq_true, Bool.and_eq_true, decide_eq_true_eq]; omega
       rw [this]; rfl
     · rw [if_neg h2]
       have : (decide (922337203685477580 < ((val (s.take k) : Nat) : Int)) || (decide (((val (s.take k) : Nat) : Int) = 922337203685477580) && decide (7 < (dig s[k] : Int)))) = false := by
         rw [Bool.eq_false_iff]; intro hc
         simp only [Bool.or_eq_true, Bool.and_eq_true, decide_eq_true_eq] at hc; omega
       rw [this, cond_false]
       have w1 : IntKind.wrap .i64 (((val (s.take k) : Nat) : Int) * 10) = ((val (s.take k) : Nat) : Int) * 10 := w64 (by omega) (by omega)
       have w2 : IntKind.wrap .i64 (((val (s.take k) : Nat) : Int) * 10 + (dig s[k] : Int)) = ((val (s.take k) * 10 + dig s[k] : Nat) : Int) := by rw [w64 (by omega) (by omega)]; omega
       rw [w1, w2, w64s hk (by omega)]
   have hpre : ∀ k, (∀ j, j < k → ¬ 9223372036854775807 < (val (s.take (j + 1)) : Int)) → ((val (s.take k) : Nat) : Int) ≤ 9223372036854775807 := fun k h => by
     rcases Nat.eq_zero_or_pos k with h0 | h0
     · subst h0; show ((0 : Nat) : Int) ≤ _; omega
     · have := h (k - 1) (by omega)
       rw [show k - 1 + 1 = k by omega] at this; omega
   rcases least (fun k => 9223372036854775807 < (val (s.take (k + 1)) : Int)) s.length with ⟨k, hk, hp, hmin⟩ | hall
   · have hl : loop (fn_ref01_Parse_l1 s) (0, 0) = some (.inr (0, 5)) := by
       have := loop_nat (body := fn_ref01_Parse_l1 s) (fun k : Nat => (((val (s.take k) : Nat) : Int), (k : Int))) k (b := .inr (0, 5)) (fun j hj => by rw [step j (by omega) (hpre j (fun i hi => hmin i (by omega))), if_neg (hmin j hj)]) (by rw [step k hk (hpre k hmin), if_pos hp])
       exact this
     rw [hl]
     have h9 : most < ((val s : Nat) : Int) := by have := val_take_le s (k + 1); omega
     simp [h9]
   · have hl : loop (fn_ref01_Parse_l1 s) (0, 0) = some (.inl ((val s : Nat) : Int)) := by
       have := loop_nat (body := fn_ref01_Parse_l1 s) (fun k : Nat => (((val (s.take k) : Nat) : Int), (k : Int))) s.length (b := .inl ((val s : Nat) : Int)) (fun j hj => by rw [step j hj (hpre j (fun i hi => hall i (by omega))), if_neg (hall j hj)]) (by
         unfold fn_ref01_Parse_l1
         simp only [dge (show ¬ s.length < s.length by omega), cond_false, List.take_length])
       exact this
     rw [hl]
     by_cases h9 : most < ((val s : Nat) : Int) <;> simp [h9]
theorem u8_48 {d : Nat} (h : d < 10) : IntKind.wrap .u8 (IntKind.wrap .i64 (48 + (d : Int))) = ((48 + d : Nat) : Int) := by
 rw [w64 (by omega) (by omega)]
 have e : IntKind.wrap .u8 (48 + (d : Int)) = (48 + (d : Int)) % 256 := IntKind.wrap_u8' _
 rw [e, Int.emod_eq_of_lt (by omega) (by omega)]; omega
theorem nText_key : ∀ (k n a : Nat) (l : List Int), n < 10 ^ (k + 1) → n ≤ 9223372036854775807 → k < a → a ≤ 20 → l.length = 20 → loop fn_numeral_Text_l1 ((n : Int), l, (a : Int)) = some (dec n ++ toU8 (l.drop a)) := by
 intro k
 induction k with
 | zero =>
   intro n a l hn hb ha ha2 hl
   have h10 : n < 10 := by simpa using hn
   have e0 : IntKind.wrap .i64 ((a : Int) - 1) = ((a - 1 : Nat) : Int) := by rw [w64 (by omega) (by omega)]; omega
   have e1 : Int.tmod (n : Int) 10 = (n : Int) := by rw [Int.tmod_eq_emod_of_nonneg (by omega)]; omega
   have e2 : Int.tdiv (n : Int) 10 = 0 := by rw [Int.tdiv_eq_ediv_of_nonneg (by omega)]; omega
   refine loop_end ?_
   unfold fn_numeral_Text_l1
   have hs : subL (l.set (a - 1) ((48 + n : Nat) : Int)) ((a - 1 : Nat) : Int) (((20 : Nat) : Int)) = some (((48 + n : Nat) : Int) :: l.drop a) := by
     rw [subL_eq (by omega) (by omega) (by rw [List.length_set, hl]; omega)]
     simp only [Int.toNat_natCast]
     rw [List.take_of_length_le (by rw [List.length_set, hl]; omega), List.drop_eq_getElem_cons (by rw [List.length_set]; omega), List.getElem_set_self, List.drop_set_of_lt (by omega), show a - 1 + 1 = a by omega]
   simp only [e0, getN (show a - 1 < l.length by omega), Option.bind_some, e1, u8_48 h10, e2, Int.toNat_natCast, show IntKind.wrap .i64 0 = 0 from rfl, decide_true, cond_true, hs]
   rw [dec_lt h10]
   simp only [toU8, List.map_cons, Int.toNat_natCast]; rfl
 | succ k ih =>
   intro n a l hn hb ha ha2 hl
   by_cases h10 : n < 10
   · have e0 : IntKind.wrap .i64 ((a : Int) - 1) = ((a - 1 : Nat) : Int) := by rw [w64 (by omega) (by omega)]; omega
     have e1 : Int.tmod (n : Int) 10 = (n : Int) := by rw [Int.tmod_eq_emod_of_nonneg (by omega)]; omega
     have e2 : Int.tdiv (n : Int) 10 = 0 := by rw [Int.tdiv_eq_ediv_of_nonneg (by omega)]; omega
     refine loop_end ?_
     unfold fn_numeral_Text_l1
     have hs : subL (l.set (a - 1) ((48 + n : Nat) : Int)) ((a - 1 : Nat) : Int) (((20 : Nat) : Int)) = some (((48 + n : Nat) : Int) :: l.drop a) := by
       rw [subL_eq (by omega) (by omega) (by rw [List.length_set, hl]; omega)]
       simp only [Int.toNat_natCast]
       rw [List.take_of_length_le (by rw [List.length_set, hl]; omega), List.drop_eq_getElem_cons (by rw [List.length_set]; omega), List.getElem_set_self, List.drop_set_of_lt (by omega), show a - 1 + 1 = a by omega]
     simp only [e0, getN (show a - 1 < l.length by omega), Option.bind_some, e1, u8_48 h10, e2, Int.toNat_natCast, show IntKind.wrap .i64 0 = 0 from rfl, decide_true, cond_true, hs]
     rw [dec_lt h10]
     simp only [toU8, List.map_cons, Int.toNat_natCast]; rfl
   · have e0 : IntKind.wrap .i64 ((a : Int) - 1) = ((a - 1 : Nat) : Int) := by rw [w64 (by omega) (by omega)]; omega
     have e1 : Int.tmod (n : Int) 10 = ((n % 10 : Nat) : Int) := by rw [Int.tmod_eq_emod_of_nonneg (by omega)]; omega
     have e2 : IntKind.wrap .i64 (Int.tdiv (n : Int) 10) = ((n / 10 : Nat) : Int) := by rw [Int.tdiv_eq_ediv_of_nonneg (by omega), w64 (by omega) (by omega)]; omega
     have e3 : decide (((n / 10 : Nat) : Int) = 0) = false := by simp; omega
     rw [loop_next (s' := (((n / 10 : Nat) : Int), l.set (a - 1) ((48 + n % 10 : Nat) : Int), ((a - 1 : Nat) : Int))), ih (n / 10) (a - 1) _ (by rw [Nat.pow_succ] at hn; omega) (by omega) (by omega) (by omega) (by rw [List.length_set, hl])]
     · rw [dec_ge h10, List.drop_eq_getElem_cons (by rw [List.length_set]; omega), List.getElem_set_self, List.drop_set_of_lt (by omega), show a - 1 + 1 = a by omega]
       simp only [toU8, List.map_cons, Int.toNat_natCast, List.append_assoc]; rfl
     · unfold fn_numeral_Text_l1
       simp only [e0, getN (show a - 1 < l.length by omega), Option.bind_some, e1, u8_48 (show n % 10 < 10 by omega), e2, e3, Int.toNat_natCast, cond_false]
theorem nText_eq (n : Int) (h : n ≤ 9223372036854775807) : fn_numeral_Text n = some (text n) := by
 unfold fn_numeral_Text text
 by_cases h0 : n < 0
 · simp [h0]
 · obtain ⟨m, rfl⟩ := Int.eq_ofNat_of_zero_le (show 0 ≤ n by omega)
   rw [if_neg h0, decide_eq_false h0, cond_false]
   have := nText_key 18 m 20 [0, 0, 0, 0, 0, 0, 0, 0, 0, 0, 0, 0, 0, 0, 0, 0, 0, 0, 0, 0] (by omega) (by omega) (by omega) (by omega) rfl
   rw [show ((20 : Nat) : Int) = 20 from rfl] at this
   rw [this]
   simp [toU8]
theorem sub1ch {d : Nat} (h : d < 10) : subL ([48, 49, 50, 51, 52, 53, 54, 55, 56, 57] : List UInt8) (d : Int) (IntKind.wrap .i64 ((d : Int) + 1)) = some [ch d] := by
 have : d = 0 ∨ d = 1 ∨ d = 2 ∨ d = 3 ∨ d = 4 ∨ d = 5 ∨ d = 6 ∨ d = 7 ∨ d = 8 ∨ d = 9 := by omega
 rcases this with h | h | h | h | h | h | h | h | h | h <;> subst h <;> decide
theorem rText_key : ∀ (k n fuel : Nat), n < 10 ^ (k + 1) → k < 19 → n ≤ 9223372036854775807 → k < fuel → fnr_ref01_Text fuel (n : Int) = some (dec n) := by
 intro k
 induction k with
 | zero =>
   intro n fuel hn hk hb hf
   have h10 : n < 10 := by simpa using hn
   cases fuel with
   | zero => omega
   | succ fuel =>
     unfold fnr_ref01_Text
     have e1 : decide ((n : Int) < 0) = false := decide_eq_false (by omega)
     have e2 : decide ((n : Int) < 10) = true := by simp; omega
     simp only [e1, e2, cond_true, cond_false, sub1ch h10, Option.bind_some]
     rw [dec_lt h10]
 | succ k ih =>
   intro n fuel hn hk hb hf
   cases fuel with
   | zero => omega
   | succ fuel =>
     unfold fnr_ref01_Text
     have e1 : decide ((n : Int) < 0) = false := decide_eq_false (by omega)
     by_cases h10 : n < 10
     · have e2 : decide ((n : Int) < 10) = true := by simp; omega
       simp only [e1, e2, cond_true, cond_false, sub1ch h10, Option.bind_some]
       rw [dec_lt h10]
     · have e2 : decide ((n : Int) < 10) = false := by simp; omega
       have e3 : Int.tmod (n : Int) 10 = ((n % 10 : Nat) : Int) := by rw [Int.tmod_eq_emod_of_nonneg (by omega)]; omega
       have e4 : IntKind.wrap .i64 (Int.tdiv (n : Int) 10) = ((n / 10 : Nat) : Int) := by rw [Int.tdiv_eq_ediv_of_nonneg (by omega), w64 (by omega) (by omega)]; omega
       have e5 := dec_len k (n / 10) (by rw [Nat.pow_succ] at hn; omega)
       simp only [e1, e2, e3, e4, cond_false, sub1ch (show n % 10 < 10 by omega), Option.bind_some, ih (n / 10) fuel (by rw [Nat.pow_succ] at hn; omega) (by omega) (by omega) (by omega)]
       rw [app_eq (by simp; omega)]
       simp only [Option.bind_some]
       rw [dec_ge h10]
theorem rText_eq (n : Int) (h : n ≤ 9223372036854775807) : fn_ref01_Text n = some (text n) := by
 unfold fn_ref01_Text text
 by_cases h0 : n < 0
 · refine lev_eq 1 (fun m hm => ?_)
   cases m with
   | zero => omega
   | succ m => unfold fnr_ref01_Text; simp [h0]
 · obtain ⟨m, rfl⟩ := Int.eq_ofNat_of_zero_le (show 0 ≤ n by omega)
   rw [if_neg h0]
   exact lev_eq 19 (fun f hf => rText_key 18 m f (by omega) (by omega) (by omega) (by omega))
def pair (b : Int × Int) : List UInt8 := if b.1 < 0 ∨ b.2 < 0 then [] else text b.1 ++ 58 :: text b.2
theorem glue_len {l : List Int} (h : ∀ x ∈ l, x ≤ 9223372036854775807) : (lst l).length ≤ l.length * 20 := by
 have key : ∀ l : List Int, (∀ x ∈ l, x ≤ 9223372036854775807) → (l.map text).flatMap (44 :: ·) = l.flatMap (fun x => 44 :: text x) ∧ (l.flatMap (fun x => 44 :: text x)).length ≤ l.length * 20 := by
   intro l
   induction l with
   | nil => intro _; simp
   | cons x l ih =>
     intro h
     obtain ⟨i1, i2⟩ := ih (fun y hy => h y (by simp [hy]))
     have := text_len (h x (by simp))
     refine ⟨by simp [List.flatMap_map], ?_⟩
     simp only [List.flatMap_cons, List.length_append, List.length_cons]; omega
 unfold lst
 cases l with
 | nil => simp [glue]
 | cons x l =>
   obtain ⟨i1, i2⟩ := key l (fun y hy => h y (by simp [hy]))
   have := text_len (h x (by simp))
   simp only [List.map_cons, glue, i1, List.length_append, List.length_cons]; omega
theorem lst_snoc (l : List Int) (x : Int) : lst (l ++ [x]) = if l = [] then text x else lst l ++ 44 :: text x := by
 unfold lst; rw [List.map_append, List.map_singleton, glue_snoc]; simp
theorem wrS_ok {a b : List UInt8} (h : a.length + b.length ≤ 100000) : wrS a b = some (a ++ b) := by unfold wrS; rw [app_eq (by omega)]
theorem nList_any (l : List Int) (hl : l.length ≤ 1000) (h : ∀ x ∈ l, x ≤ 9223372036854775807) : fn_numeral_List l = some (lst l) := by
 unfold fn_numeral_List
 have key := loop_nat (body := fn_numeral_List_l1 l) (fun k : Nat => ((k : Int), lst (l.take k))) l.length (b := lst l) ?_ ?_
 · have : loop (fn_numeral_List_l1 l) (0, ([] : List UInt8)) = some (lst l) := key
   rw [this]; rfl
 · intro k hk
   have hx := h l[k] (List.getElem_mem hk)
   have hlen := glue_len (l := l.take k) (fun x hx => h x (List.mem_of_mem_take hx))
   have hlt : (l.take k).length = k := by rw [List.length_take]; omega
   have tl := text_len hx
   unfold fn_numeral_List_l1
   simp only [dlt hk, cond_true, getN hk, Option.bind_some, nText_eq _ hx, w64s hk (by omega)]
   rw [take_snoc hk, lst_snoc]
   by_cases h0 : k = 0
   · subst h0
     simp only [List.take_zero, if_true, show ((0 : Nat) : Int) = 0 from rfl, show decide ((0 : Int) < 0) = false from rfl, cond_false]
     have : lst [] = [] := rfl
     rw [this, wrS_ok (by simp; omega)]; rfl
   · have e1 : decide ((0 : Int) < (k : Int)) = true := by simp; omega
     have e2 : ¬ l.take k = [] := by rw [← List.length_eq_zero_iff]; omega
     rw [e1, cond_true, if_neg e2]
     have e3 : wrB (lst (l.take k)) 44 = some (lst (l.take k) ++ [44]) := by unfold wrB; rw [if_pos (by omega), app_eq (by simp; omega)]; rfl
     rw [e3]
     simp only [Option.bind_some]
     rw [wrS_ok (by simp; omega)]
     simp
 · unfold fn_numeral_List_l1
   simp only [dge (show ¬ l.length < l.length by omega), cond_false, List.take_length]
theorem nList_eq (l : List Int) (hl : l.length ≤ 100) (h : ∀ x ∈ l, x ≤ 9223372036854775807) : fn_numeral_List l = some (lst l) := nList_any l (by omega) h
theorem rList_eq (l : List Int) (hl : l.length ≤ 100) (h : ∀ x ∈ l, x ≤ 9223372036854775807) : fn_ref01_List l = some (lst l) := by
 unfold fn_ref01_List
 have key := loop_nat (body := fn_ref01_List_l1 l) (fun k : Nat => (lst (l.take k), (k : Int))) l.length (b := lst l) ?_ ?_
 · have : loop (fn_ref01_List_l1 l) (([] : List UInt8), 0) = some (lst l) := key
   rw [this]; rfl
 · intro k hk
   have hx := h l[k] (List.getElem_mem hk)
   have hlen := glue_len (l := l.take k) (fun x hx => h x (List.mem_of_mem_take hx))
   have hlt : (l.take k).length = k := by rw [List.length_take]; omega
   have tl := text_len hx
   unfold fn_ref01_List_l1
   simp only [dlt hk, cond_true, getN hk, Option.bind_some, rText_eq _ hx, w64s hk (by omega)]
   rw [take_snoc hk, lst_snoc]
   by_cases h0 : k = 0
   · subst h0
     simp only [List.take_zero, if_true, show ((0 : Nat) : Int) = 0 from rfl, show decide ((0 : Int) < 0) = false from rfl, cond_false, Option.bind_some]
     have : lst [] = [] := rfl
     rw [this, app_eq (by simp; omega)]; rfl
   · have e1 : decide ((0 : Int) < (k : Int)) = true := by simp; omega
     have e2 : ¬ l.take k = [] := by rw [← List.length_eq_zero_iff]; omega
     rw [e1, cond_true, if_neg e2, app_eq (by simp; omega)]
     simp only [Option.bind_some]
     rw [app_eq (by simp; omega)]
     simp
 · unfold fn_ref01_List_l1
   simp only [dge (show ¬ l.length < l.length by omega), cond_false, List.take_length]
end
section
open Go.RowKit Nu
def two (a b : List UInt8) (most : Int) : Int × Int × Int :=
 if (parse a most).2 ≠ 0 then (0, 0, (parse a most).2) else if (parse b most).2 ≠ 0 then (0, 0, (parse b most).2) else ((parse a most).1, (parse b most).1, 0)
def readPair (s : List UInt8) (most : Int) : Int × Int × Int := match s.findIdx? (fun x => decide (x = 58)) with | some k => two (s.take k) (s.drop (k + 1)) most | none => (0, 0, 3)
theorem take_len {α : Type} {s : List α} {k n : Nat} (h : s.length ≤ n) : (s.take k).length ≤ n := by rw [List.length_take]; omega
theorem drop_len {α : Type} {s : List α} {k n : Nat} (h : s.length ≤ n) : (s.drop k).length ≤ n := by rw [List.length_drop]; omega
theorem nPair_read (s : List UInt8) (most : Int) (hn : s.length ≤ 1000000) (hm : -9223372036854775808 ≤ most) (hm2 : most ≤ 9223372036854775807) : fn_numeral_ParsePair s most = some (readPair s most) := by
 unfold fn_numeral_ParsePair cutF readPair
 rw [if_pos (by omega), cut_one]
 cases s.findIdx? (fun x => decide (x = 58)) with
 | none => rfl
 | some k =>
   simp only [Option.bind_some, Bool.not_true, cond_false, nParse_eq _ most (take_len (k := k) hn) hm hm2, nParse_eq _ most (drop_len (k := k + 1) hn) hm hm2]
   unfold two
   by_cases h1 : (parse (s.take k) most).2 = 0
   · by_cases h2 : (parse (s.drop (k + 1)) most).2 = 0 <;> simp [h1, h2]
   · simp [h1]
def plist (most : Int) : List (List UInt8) → List Int → List Int × Int
 | [], acc => (acc, 0)
 | p :: ps, acc => if (parse p most).2 ≠ 0 then ([], (parse p most).2) else plist most ps (acc ++ [(parse p most).1])
def readList (s : List UInt8) (most : Int) : List Int × Int := if s = [] then ([], 0) else plist most (pieces 44 s) []
theorem pieces_len (c : UInt8) : ∀ s, (pieces c s).length ≤ s.length + 1
 | [] => by simp [pieces]
 | b :: l => by
   have := pieces_len c l
   rw [pieces_cons]; split
   · simp; omega
   · cases hq : pieces c l with
     | nil => simp [hd]
     | cons p ps => rw [hq] at this; simp [hd] at this ⊢; omega
theorem pieces_each (c : UInt8) (n : Nat) : ∀ s, s.length ≤ n → ∀ p ∈ pieces c s, p.length ≤ n := by
 intro s hs p hp
 have key : ∀ s : List UInt8, ∀ p ∈ pieces c s, p.length ≤ s.length := by
   intro s
   induction s with
   | nil => intro p hp; simp [pieces] at hp; subst hp; simp
   | cons b l ih =>
     intro p hp
     rw [pieces_cons] at hp
     split at hp
     · rcases List.mem_cons.1 hp with rfl | hp
       · simp
       · have := ih p hp; simp; omega
     · cases hq : pieces c l with
       | nil => exact absurd hq (pieces_ne c l)
       | cons q qs =>
         rw [hq] at hp ih
         rcases List.mem_cons.1 hp with rfl | hp
         · have := ih q (by simp); simp; omega
         · have := ih p (by simp [hp]); simp; omega
 have := key s p hp
 omega
theorem nList_key (most : Int) (l : List (List UInt8)) (hl : l.length ≤ 1000001) (hs : ∀ p ∈ l, p.length ≤ 1000000) (hm : -9223372036854775808 ≤ most) (hm2 : most ≤ 9223372036854775807) :
   ∀ (m k : Nat) (acc : List Int), k + m = l.length → acc.length = k → loop (fn_numeral_ParseList_l1 most l) (acc, (k : Int)) = some (if (plist most (l.drop k) acc).2 = 0 then .inl (plist most (l.drop k) acc).1 else .inr (plist most (l.drop k) acc)) := by
 intro m
 induction m with
 | zero =>
   intro k acc hk ha
   refine loop_end ?_
   unfold fn_numeral_ParseList_l1
   rw [List.drop_eq_nil_of_le (by omega)]
   simp only [dge (show ¬ k < l.length by omega), cond_false, plist, if_true]
 | succ m ih =>
   intro k acc hk ha
   have hk' : k < l.length := by omega
   have hp := nParse_eq l[k] most (hs _ (List.getElem_mem hk')) hm hm2
   rw [List.drop_eq_getElem_cons hk']
   by_cases h1 : (parse l[k] most).2 = 0
   · have e : plist most (l[k] :: l.drop (k + 1)) acc = plist most (l.drop (k + 1)) (acc ++ [(parse l[k] most).1]) := by simp [plist, h1]
     rw [e, loop_next (s' := (acc ++ [(parse l[k] most).1], ((k + 1 : Nat) : Int))), ih (k + 1) _ (by omega) (by simp [ha])]
     unfold fn_numeral_ParseList_l1
     simp only [dlt hk', cond_true, getN hk', Option.bind_some, hp, w64s hk' (by omega), h1, decide_true, Bool.not_true, cond_false]
     rw [app_eq (by simp; omega)]
     rfl
   · have e : plist most (l[k] :: l.drop (k + 1)) acc = ([], (parse l[k] most).2) := by simp [plist, h1]
     rw [e]
     simp only [h1, if_false]
     refine loop_end ?_
     unfold fn_numeral_ParseList_l1
     simp only [dlt hk', cond_true, getN hk', Option.bind_some, hp, h1, decide_false, Bool.not_false]
theorem nList_read (s : List UInt8) (most : Int) (hn : s.length ≤ 1000000) (hm : -9223372036854775808 ≤ most) (hm2 : most ≤ 9223372036854775807) : fn_numeral_ParseList s most = some (readList s most) := by
 unfold fn_numeral_ParseList readList
 by_cases h0 : s = []
 · subst h0; rfl
 · rw [if_neg h0, decide_eq_false h0, cond_false]
   have e : splF s [44] = some (pieces 44 s) := by
     unfold splF
     rw [if_pos ⟨by omega, by simp⟩, Lib.splitB_data]
     congr 1
     show Lib.splitK [44] 0 (Lib.count s [44]) s = _
     rw [Lib.count_one]
     exact splitK_pieces 44 _ s rfl
   rw [e]
   have := nList_key most (pieces 44 s) (by have := pieces_len 44 s; omega) (pieces_each 44 _ s hn) hm hm2 (pieces 44 s).length 0 [] (by omega) rfl
   rw [show ((0 : Nat) : Int) = 0 from rfl, List.drop_zero] at this
   simp only [Option.bind_some]
   rw [this]
   by_cases h1 : (plist most (pieces 44 s) []).2 = 0
   · simp only [h1, if_true, Option.bind_some]; rw [← h1]
   · simp only [h1, if_false, Option.bind_some]
theorem parse_ok {s : List UInt8} {most : Int} (h : (parse s most).2 = 0) : isNum s = true ∧ text (parse s most).1 = s ∧ 0 ≤ (parse s most).1 ∧ (parse s most).1 ≤ most := by
 unfold parse at h ⊢
 cases hs : isNum s with
 | false => rw [hs] at h; simp at h
 | true =>
   rw [hs] at h
   simp only [if_true] at h ⊢
   split at h
   · simp at h
   · rename_i h1
     rw [if_neg h1]
     exact ⟨trivial, text_val hs, by show (0 : Int) ≤ ((val s : Nat) : Int); omega, by show ((val s : Nat) : Int) ≤ most; omega⟩
theorem d58 : isDig 58 = false := rfl
theorem d44 : isDig 44 = false := rfl
theorem idx_app {c : UInt8} {a b : List UInt8} (h : c ∉ a) : (a ++ c :: b).findIdx? (fun x => decide (x = c)) = some a.length := by
 rw [List.findIdx?_eq_some_iff_getElem]
 refine ⟨by simp, by simp, fun j hj => ?_⟩
 rw [List.getElem_append_left hj]
 simp only [Bool.not_eq_true, decide_eq_false_iff_not]
 intro e; exact h (e ▸ List.getElem_mem hj)
theorem readPair_pair {b : Int × Int} {most : Int} (h1 : 0 ≤ b.1) (h2 : 0 ≤ b.2) (m1 : b.1 ≤ most) (m2 : b.2 ≤ most) : readPair (pair b) most = (b.1, b.2, 0) := by
 unfold readPair pair
 rw [if_neg (by omega), idx_app (text_no d58)]
 simp only [List.take_left, List.drop_append, Nat.add_sub_cancel_left]
 have e : (text b.1).drop ((text b.1).length + 1) = [] := List.drop_eq_nil_of_le (by omega)
 rw [e]
 have p1 := parse_text h1 most; have p2 := parse_text h2 most
 rw [if_neg (by omega)] at p1 p2
 unfold two
 simp [p1, p2]
theorem readPair_ok {s : List UInt8} {most : Int} (h : (readPair s most).2.2 = 0) : pair ((readPair s most).1, (readPair s most).2.1) = s ∧ 0 ≤ (readPair s most).1 ∧ (readPair s most).1 ≤ most ∧ 0 ≤ (readPair s most).2.1 ∧ (readPair s most).2.1 ≤ most := by
 unfold readPair at h ⊢
 cases hq : s.findIdx? (fun x => decide (x = 58)) with
 | none => rw [hq] at h; simp at h
 | some k =>
   rw [hq] at h
   obtain ⟨hk, hc, _⟩ := List.findIdx?_eq_some_iff_getElem.1 hq
   have hc' : s[k] = 58 := by simpa using hc
   unfold two at h
   simp only at h ⊢
   by_cases h1 : (parse (s.take k) most).2 = 0
   · by_cases h2 : (parse (s.drop (k + 1)) most).2 = 0
     · obtain ⟨_, a1, a2, a3⟩ := parse_ok h1
       obtain ⟨_, b1, b2, b3⟩ := parse_ok h2
       have e : two (s.take k) (s.drop (k + 1)) most = ((parse (s.take k) most).1, (parse (s.drop (k + 1)) most).1, 0) := by unfold two; simp [h1, h2]
       rw [e]
       refine ⟨?_, a2, a3, b2, b3⟩
       unfold pair
       rw [if_neg (by simp only; omega)]
       simp only [a1, b1]
       rw [← hc', List.getElem_cons_drop, List.take_append_drop]
     · simp [h1, h2] at h
   · simp [h1] at h
theorem plist_app (most : Int) : ∀ (ps : List (List UInt8)) (acc : List Int), (plist most ps acc).2 = 0 → ∃ l, (plist most ps acc).1 = acc ++ l ∧ l.map text = ps ∧ (∀ x ∈ l, 0 ≤ x ∧ x ≤ most) ∧ l.length = ps.length
 | [], acc, h => ⟨[], by simp [plist], rfl, by simp, rfl⟩
 | p :: ps, acc, h => by
   unfold plist at h ⊢
   by_cases h1 : (parse p most).2 = 0
   · simp only [h1, ne_eq, not_true_eq_false, if_false] at h ⊢
     obtain ⟨l, e1, e2, e3, e4⟩ := plist_app most ps _ h
     obtain ⟨_, a1, a2, a3⟩ := parse_ok h1
     refine ⟨(parse p most).1 :: l, by rw [e1]; simp, by simp [a1, e2], fun x hx => ?_, by simp [e4]⟩
     rcases List.mem_cons.1 hx with rfl | hx
     · exact ⟨a2, a3⟩
     · exact e3 x hx
   · simp [h1] at h
theorem plist_text (most : Int) : ∀ (l acc : List Int), (∀ x ∈ l, 0 ≤ x ∧ x ≤ most) → plist most (l.map text) acc = (acc ++ l, 0)
 | [], acc, _ => by simp [plist]
 | x :: l, acc, h => by
   have hx := h x (by simp)
   have p1 := parse_text hx.1 most
   rw [if_neg (by omega)] at p1
   rw [List.map_cons]
   unfold plist
   rw [p1]
   simp only [ne_eq, not_true_eq_false, if_false]
   rw [plist_text most l _ (fun y hy => h y (by simp [hy]))]
   simp
theorem readList_lst {l : List Int} {most : Int} (h : ∀ x ∈ l, 0 ≤ x ∧ x ≤ most) : readList (lst l) most = (l, 0) := by
 unfold readList
 by_cases hl : l = []
 · subst hl; rfl
 · have hne : l.map text ≠ [] := by simpa using hl
   have hp : pieces 44 (lst l) = l.map text := pieces_glue 44 _ hne (fun p hp => by obtain ⟨x, _, rfl⟩ := List.mem_map.1 hp; exact text_no d44)
   have hnn : lst l ≠ [] := by
     intro e
     rw [e] at hp
     cases l with
     | nil => exact hl rfl
     | cons x l =>
       simp only [pieces, List.map_cons, List.cons.injEq] at hp
       have : text x = [] := hp.1.symm
       have h0 := (h x (by simp)).1
       unfold text at this
       rw [if_neg (by omega)] at this
       exact dec_ne _ this
   rw [if_neg hnn, hp, plist_text most l [] h]; simp
theorem readList_ok {s : List UInt8} {most : Int} (h : (readList s most).2 = 0) : lst (readList s most).1 = s ∧ (∀ x ∈ (readList s most).1, 0 ≤ x ∧ x ≤ most) ∧ (readList s most).1.length ≤ s.length + 1 := by
 unfold readList at h ⊢
 by_cases h0 : s = []
 · subst h0; simp [lst, glue]
 · rw [if_neg h0] at h ⊢
   obtain ⟨l, e1, e2, e3, e4⟩ := plist_app most _ [] h
   rw [e1, List.nil_append]
   refine ⟨?_, e3, by have := pieces_len 44 s; omega⟩
   unfold lst
   rw [e2, glue_pieces]
theorem readList_len {s : List UInt8} {most : Int} : (readList s most).1.length ≤ s.length + 1 := by
 by_cases h : (readList s most).2 = 0
 · exact (readList_ok h).2.2
 · have : (readList s most).1 = [] := by
     unfold readList at h ⊢
     split at h
     · simp at h
     · rename_i h0
       rw [if_neg h0]
       have key : ∀ (ps : List (List UInt8)) (acc : List Int), (plist most ps acc).2 ≠ 0 → (plist most ps acc).1 = [] := by
         intro ps
         induction ps with
         | nil => intro acc h; exact absurd rfl h
         | cons p ps ih =>
           intro acc h
           unfold plist at h ⊢
           by_cases h1 : (parse p most).2 = 0
           · simp only [h1, ne_eq, not_true_eq_false, if_false] at h ⊢; exact ih _ h
           · simp [h1]
       exact key _ _ h
   rw [this]; simp
end
abbrev St := Int × Bool
def shp (xa xb : List St) : Bool := decide (xa.map (·.2) = xb.map (·.2))
theorem shp_of_loop (xa xb : List St) {body : Int → Option (Int ⊕ (Unit ⊕ Bool))} (hl : xa.length = xb.length) (hb : ∀ (k : Nat) (h : k < xa.length), body (k : Int) = some (if xa[k].2 = (xb[k]'(by omega)).2 then .inl ((k + 1 : Nat) : Int) else .inr (.inr false))) (he : body (xa.length : Int) = some (.inr (.inl ()))) :
   loop body 0 = some (if shp xa xb then .inl () else .inr false) := by
 have := loop_alike (body := body) (xa.map (·.2)) (xb.map (·.2)) (.inr false) (.inl ()) (by simp [hl]) (fun k h => by simpa using hb k (by simpa using h)) (by simpa using he)
 rw [this]; unfold shp
 by_cases h : xa.map (·.2) = xb.map (·.2) <;> simp [h]
theorem shp_len {xa xb : List St} (h : ¬ xa.length = xb.length) : shp xa xb = false := by
 unfold shp; simp only [decide_eq_false_iff_not]
 intro e; exact h (by simpa using congrArg List.length e)
theorem shp_len' {xa xb : List St} (h : shp xa xb = true) : xa.length = xb.length := by
 unfold shp at h; simpa using congrArg List.length (of_decide_eq_true h)
theorem shp_comm (xa xb : List St) : shp xa xb = shp xb xa := by unfold shp; simp only [eq_comm]
theorem Few_eq (xa : List St) (n : Int) : fn_ref15_Few xa n = some (decide ((xa.length : Int) ≤ n)) := rfl
theorem refShape_eq (xa xb : List St) (hn : xa.length ≤ 1073741824) : fn_ref15_Shape xa xb = some (shp xa xb) := by
 unfold fn_ref15_Shape
 by_cases hl : xa.length = xb.length
 · rw [dlen hl, cond_false, shp_of_loop xa xb hl ?_ ?_]
   · cases shp xa xb <;> rfl
   · intro k h; unfold fn_ref15_Shape_l1
     have h2 : k < xb.length := by omega
     by_cases q : xa[k].2 = xb[k].2 <;> simp [getN h, getN h2, h, q, w64s h (by omega), beq_dec]
   · simp [fn_ref15_Shape_l1]
 · rw [dlen' hl, cond_true, shp_len hl]
theorem find_cases {α : Type} (xa : List α) (t : α → Bool) : (∃ k, xa.findIdx? t = some k ∧ xa.any t = true) ∨ (xa.findIdx? t = none ∧ xa.any t = false) := by
 cases h : xa.findIdx? t with
 | none =>
   refine .inr ⟨rfl, ?_⟩
   rw [List.any_eq_false]; intro x hx; have := List.findIdx?_eq_none_iff.1 h x hx; simp [this]
 | some k =>
   obtain ⟨hk, h1, _⟩ := List.findIdx?_eq_some_iff_getElem.1 h
   exact .inl ⟨k, rfl, List.any_eq_true.2 ⟨_, List.getElem_mem hk, h1⟩⟩
def rin (n : Int) (xa : List St) : Bool := xa.any fun x => decide (x.1 < 0) || decide (n ≤ x.1)
def rck (n : Int) (xa : List St) : Int := if 16 < xa.length then 6 else if rin n xa then 7 else 0
def sbs (xb : List Int) (x : St) : St := (xb.getD x.1.toNat 0, x.2)
theorem rin_false {n : Int} {xa : List St} (h : rin n xa = false) {k : Nat} {x : St} (hx : xa[k]? = some x) : 0 ≤ x.1 ∧ x.1 < n := by
 unfold rin at h
 have := List.any_eq_false.1 h x (List.mem_of_getElem? hx)
 simp at this; omega
theorem getI_in {xb : List Int} {i : Int} (h : 0 ≤ i) (h2 : i < (xb.length : Nat)) : getI xb i = some (xb.getD i.toNat 0) := by
 unfold getI; rw [if_pos h]
 have : i.toNat < xb.length := by omega
 simp [this]
section
open Go.RowKit Nu
theorem joinF_eq {c : UInt8} {l : List (List UInt8)} (h : (glue c l).length ≤ 140737488355328) (h2 : l.length ≤ 140737488355328) : joinF l [c] = some (glue c l) := by
 unfold joinF; rw [join_glue, if_pos ⟨h, h2⟩]
theorem glue_le (c : UInt8) (n : Nat) : ∀ (l : List (List UInt8)), (∀ p ∈ l, p.length ≤ n) → (glue c l).length ≤ l.length * (n + 1) := by
 intro l h
 cases l with
 | nil => simp [glue]
 | cons p ps =>
   have key : ∀ ps : List (List UInt8), (∀ p ∈ ps, p.length ≤ n) → (ps.flatMap (c :: ·)).length ≤ ps.length * (n + 1) := by
     intro ps
     induction ps with
     | nil => intro _; simp
     | cons q qs ih =>
       intro hq
       have h1 := ih (fun x hx => hq x (by simp [hx]))
       have h2 := hq q (by simp)
       simp only [List.flatMap_cons, List.length_append, List.length_cons, Nat.succ_mul]; omega
   have h1 := key ps (fun x hx => h x (by simp [hx]))
   have h2 := h p (by simp)
   show (p ++ ps.flatMap (c :: ·)).length ≤ _
   rw [List.length_append, List.length_cons, Nat.succ_mul]; omega
def slotW (x : St) : List UInt8 := text x.1 ++ if x.2 then [33] else []
def tyW (t : List St) : List UInt8 := if t = [] then [45] else glue 47 (t.map slotW)
def liW (l : List Int) : List UInt8 := if l = [] then [45] else lst l
abbrev I64 (n : Int) : Prop := n ≤ 9223372036854775807
theorem slotW_len {x : St} (h : I64 x.1) : (slotW x).length ≤ 20 := by
 have := text_len h; unfold slotW; split <;> simp <;> omega
theorem tyW_len {t : List St} (h : ∀ x ∈ t, I64 x.1) : (tyW t).length ≤ t.length * 21 + 1 := by
 unfold tyW; split
 · simp
 · have := glue_le 47 20 (t.map slotW) (fun p hp => by obtain ⟨x, hx, rfl⟩ := List.mem_map.1 hp; exact slotW_len (h x hx))
   rw [List.length_map] at this; omega
theorem liW_len {l : List Int} (h : ∀ x ∈ l, I64 x) : (liW l).length ≤ l.length * 20 + 1 := by
 unfold liW; split
 · simp
 · have := glue_len h; omega
theorem dl0 {α : Type} (t : List α) : decide (((t.length : Nat) : Int) = 0) = decide (t = []) := by
 cases t <;> simp; omega
theorem type38 (t : List St) (hn : t.length ≤ 100000) (h : ∀ x ∈ t, I64 x.1) : fn_text_Type t = some (tyW t) := by
 unfold fn_text_Type tyW
 rw [dl0]
 by_cases h0 : t = []
 · rw [if_pos h0, decide_eq_true h0]; rfl
 · rw [if_neg h0, decide_eq_false h0, cond_false]
   have hc := loop_carry (body := fn_text_Type_l1 t) t (fun k => (t.take k).map slotW) (t.map slotW) (fun k hk => by
     unfold fn_text_Type_l1
     have hx := h t[k] (List.getElem_mem hk)
     have hl := text_len hx
     simp only [dlt hk, cond_true, getN hk, Option.bind_some, nText_eq _ hx, w64s hk (by omega)]
     have hll : ((t.take k).map slotW).length ≤ 100000 := by rw [List.length_map, List.length_take]; omega
     rw [take_snoc hk, List.map_append, List.map_singleton]
     generalize (t.take k).map slotW = G at hll
     cases hb : t[k].2 with
     | true =>
       simp only [cond_true]
       rw [app_eq (by simp; omega)]
       simp only [Option.bind_some]
       rw [app_eq (by simp; omega)]
       simp [slotW, hb]
     | false =>
       simp only [cond_false, Option.bind_some]
       rw [app_eq (by simp; omega)]
       simp [slotW, hb]) (by unfold fn_text_Type_l1; simp only [dge (show ¬ t.length < t.length by omega), cond_false, List.take_length])
   rw [show loop (fn_text_Type_l1 t) ([], 0) = some (t.map slotW) from hc]
   simp only [Option.bind_some]
   have hg := glue_le 47 20 (t.map slotW) (fun p hp => by obtain ⟨x, hx, rfl⟩ := List.mem_map.1 hp; exact slotW_len (h x hx))
   rw [List.length_map] at hg
   rw [joinF_eq (by omega) (by simp; omega)]; rfl
theorem rtype38 (t : List St) (hn : t.length ≤ 100000) (h : ∀ x ∈ t, I64 x.1) : fn_ref38_Type t = some (tyW t) := by
 unfold fn_ref38_Type tyW
 rw [dl0]
 by_cases h0 : t = []
 · rw [if_pos h0, decide_eq_true h0]; rfl
 · rw [if_neg h0, decide_eq_false h0, cond_false]
   have hc := loop_carry (body := fn_ref38_Type_l1 t) t (fun k => glue 47 ((t.take k).map slotW)) (glue 47 (t.map slotW)) (fun k hk => by
     unfold fn_ref38_Type_l1
     have hx := h t[k] (List.getElem_mem hk)
     have hl := text_len hx
     have hg := glue_le 47 20 ((t.take k).map slotW) (fun p hp => by obtain ⟨x, hx, rfl⟩ := List.mem_map.1 hp; exact slotW_len (h x (List.mem_of_mem_take hx)))
     rw [List.length_map, List.length_take] at hg
     have hg' : (glue 47 ((t.take k).map slotW)).length ≤ 2200000 := by omega
     simp only [dlt hk, cond_true, getN hk, Option.bind_some, rText_eq _ hx, w64s hk (by omega)]
     rw [take_snoc hk, List.map_append, List.map_singleton, glue_snoc]
     rcases Nat.eq_zero_or_pos k with hk0 | hk0
     · subst hk0
       simp only [List.take_zero, List.map_nil, if_true, show ((0 : Nat) : Int) = 0 from rfl, show decide ((0 : Int) < 0) = false from rfl, cond_false, Option.bind_some, show glue 47 [] = [] from rfl]
       rw [app_eq (by simp; omega)]
       cases hb : t[0].2 with
       | true =>
         simp only [Option.bind_some, cond_true]
         rw [app_eq (by simp; omega)]
         simp [slotW, hb]
       | false => simp [slotW, hb]
     · have e1 : decide ((0 : Int) < (k : Int)) = true := by simp; omega
       have e2 : ¬ (t.take k).map slotW = [] := by
         intro e; have := congrArg List.length e; rw [List.length_map, List.length_take] at this; rw [List.length_nil] at this; omega
       rw [e1, cond_true, if_neg e2]
       clear hg e2
       generalize glue 47 ((t.take k).map slotW) = G at hg'
       rw [app_eq (by simp; omega)]
       simp only [Option.bind_some]
       rw [app_eq (by simp; omega)]
       cases hb : t[k].2 with
       | true =>
         simp only [Option.bind_some, cond_true]
         rw [app_eq (by simp; omega)]
         simp [slotW, hb]
       | false => simp [slotW, hb]) (by unfold fn_ref38_Type_l1; simp only [dge (show ¬ t.length < t.length by omega), cond_false, List.take_length])
   rw [show loop (fn_ref38_Type_l1 t) ([], 0) = some (glue 47 (t.map slotW)) from hc]; rfl
theorem list38 (l : List Int) (hl : l.length ≤ 100) (h : ∀ x ∈ l, I64 x) : fn_text_list l = some (liW l) := by
 unfold fn_text_list liW
 rw [dl0]
 by_cases h0 : l = []
 · rw [if_pos h0, decide_eq_true h0]; rfl
 · rw [if_neg h0, decide_eq_false h0, cond_false, nList_eq l hl h]; rfl
theorem rlist38 (l : List Int) (hl : l.length ≤ 100) (h : ∀ x ∈ l, I64 x) : fn_ref38_list l = some (liW l) := by
 unfold fn_ref38_list liW
 rw [dl0]
 by_cases h0 : l = []
 · rw [if_pos h0, decide_eq_true h0]; rfl
 · rw [if_neg h0, decide_eq_false h0, cond_false, rList_eq l hl h]; rfl
abbrev Wd := List UInt8
abbrev Stm38 := Int × Int × Int × Int × Bool
abbrev Tm38 := Int × Int × Int × List Int × List Int × List Int
def kNop : Wd := [110, 111, 112]
def kAss : Wd := [97, 115, 115, 105, 103, 110]
def kBor : Wd := [98, 111, 114, 114, 111, 119]
def kReb : Wd := [114, 101, 98, 111, 114, 114, 111, 119]
def kUse : Wd := [117, 115, 101]
def kDead : Wd := [100, 101, 97, 100]
def kMut : Wd := [109, 117, 116]
def kGoto : Wd := [103, 111, 116, 111]
def kSw : Wd := [115, 119, 105, 116, 99, 104]
def kRet : Wd := [114, 101, 116, 117, 114, 110]
def kCall : Wd := [99, 97, 108, 108]
def stWs (x : Stm38) : List Wd :=
 if x.1 = 0 then [kNop] else if x.1 = 1 then [kAss, text x.2.1, text x.2.2.1] else if x.1 = 2 then [kBor, text x.2.1, text x.2.2.1, text x.2.2.2.1] ++ (if x.2.2.2.2 then [kMut] else [])
 else if x.1 = 3 then [kReb, text x.2.1, text x.2.2.1, text x.2.2.2.1] ++ (if x.2.2.2.2 then [kMut] else []) else if x.1 = 4 then [kUse, text x.2.2.1] else if x.1 = 5 then [kDead, text x.2.1] else [[63]]
def tmWs (x : Tm38) : List Wd :=
 if x.1 = 1 then [kGoto, liW x.2.2.2.1] else if x.1 = 2 then [kSw, liW x.2.2.2.1, liW x.2.2.2.2.1] else if x.1 = 3 then [kRet]
 else if x.1 = 4 then [kCall, text x.2.1, text x.2.2.1, liW x.2.2.2.1, liW x.2.2.2.2.2, liW x.2.2.2.2.1] else [[63]]
theorem line38 {l : List Wd} (h : (glue 32 l).length ≤ 1000000000) (h2 : l.length ≤ 1000000000) : joinF l [32] = some (glue 32 l) := joinF_eq (by omega) (by omega)
theorem loan38 (w : Wd) (x : Stm38) (hw : w.length ≤ 100) (h1 : I64 x.2.1) (h2 : I64 x.2.2.1) (h3 : I64 x.2.2.2.1) : fn_text_loan w x = some (glue 32 ([w, text x.2.1, text x.2.2.1, text x.2.2.2.1] ++ if x.2.2.2.2 then [kMut] else [])) := by
 unfold fn_text_loan fn_text_line
 have l1 := text_len h1; have l2 := text_len h2; have l3 := text_len h3
 simp only [nText_eq _ h1, nText_eq _ h2, nText_eq _ h3, Option.bind_some]
 cases x.2.2.2.2 with
 | true =>
   simp only [cond_true]
   rw [app_eq (by simp)]
   simp only [Option.bind_some]
   rw [line38 (by simp [glue]; omega) (by simp)]; rfl
 | false =>
   simp only [cond_false]
   rw [line38 (by simp [glue]; omega) (by simp)]; rfl
theorem stmt38 (x : Stm38) (h1 : I64 x.2.1) (h2 : I64 x.2.2.1) (h3 : I64 x.2.2.2.1) : fn_text_Stmt x = some (glue 32 (stWs x)) := by
 unfold fn_text_Stmt stWs
 have l1 := text_len h1; have l2 := text_len h2
 have b1 := loan38 [98, 111, 114, 114, 111, 119] x (by simp) h1 h2 h3
 have b2 := loan38 [114, 101, 98, 111, 114, 114, 111, 119] x (by simp) h1 h2 h3
 simp only [nText_eq _ h1, nText_eq _ h2, Option.bind_some]
 by_cases c0 : x.1 = 0
 · simp only [c0, decide_true, cond_true, if_true]; rfl
 rw [decide_eq_false c0, cond_false, if_neg c0]
 by_cases c1 : x.1 = 1
 · simp only [c1, decide_true, cond_true, if_true, fn_text_line]
   rw [line38 (by simp [glue]; omega) (by simp)]; rfl
 rw [decide_eq_false c1, cond_false, if_neg c1]
 by_cases c2 : x.1 = 2
 · rw [decide_eq_true c2, cond_true, if_pos c2, show fn_text_loan [98, 111, 114, 114, 111, 119] (x.1, x.2.1, x.2.2.1, x.2.2.2.1, x.2.2.2.2) = _ from b1]; rfl
 rw [decide_eq_false c2, cond_false, if_neg c2]
 by_cases c3 : x.1 = 3
 · rw [decide_eq_true c3, cond_true, if_pos c3, show fn_text_loan [114, 101, 98, 111, 114, 114, 111, 119] (x.1, x.2.1, x.2.2.1, x.2.2.2.1, x.2.2.2.2) = _ from b2]; rfl
 rw [decide_eq_false c3, cond_false, if_neg c3]
 by_cases c4 : x.1 = 4
 · simp only [c4, decide_true, cond_true, if_true, fn_text_line]
   rw [line38 (by simp [glue]; omega) (by simp)]; rfl
 rw [decide_eq_false c4, cond_false, if_neg c4]
 by_cases c5 : x.1 = 5
 · simp only [c5, decide_true, cond_true, if_true, fn_text_line]
   rw [line38 (by simp [glue]; omega) (by simp)]; rfl
 rw [decide_eq_false c5, cond_false, if_neg c5]; rfl
theorem rstmt38 (x : Stm38) (h1 : I64 x.2.1) (h2 : I64 x.2.2.1) (h3 : I64 x.2.2.2.1) : fn_ref38_Stmt x = some (glue 32 (stWs x)) := by
 unfold fn_ref38_Stmt stWs
 have l1 := text_len h1; have l2 := text_len h2; have l3 := text_len h3
 simp only [rText_eq _ h1, rText_eq _ h2, rText_eq _ h3, Option.bind_some]
 have hm : (cond x.2.2.2.2 (some ([32, 109, 117, 116] : List UInt8)) (some [])) = some (if x.2.2.2.2 then 32 :: kMut else []) := by cases x.2.2.2.2 <;> rfl
 rw [hm]
 have lm : (if x.2.2.2.2 = true then 32 :: kMut else ([] : List UInt8)).length ≤ 4 := by cases x.2.2.2.2 <;> simp [kMut]
 simp only [Option.bind_some]
 generalize hq : (if x.2.2.2.2 = true then 32 :: kMut else ([] : List UInt8)) = q at lm
 by_cases c0 : x.1 = 0
 · simp only [c0, decide_true, cond_true, if_true]; rfl
 rw [decide_eq_false c0, cond_false, if_neg c0]
 by_cases c1 : x.1 = 1
 · rw [decide_eq_true c1, cond_true, if_pos c1, app_eq (by simp; omega)]
   simp only [Option.bind_some]
   rw [app_eq (by simp; omega)]
   simp only [Option.bind_some]
   rw [app_eq (by simp; omega)]
   simp [glue, kAss]
 rw [decide_eq_false c1, cond_false, if_neg c1]
 by_cases c2 : x.1 = 2
 · rw [decide_eq_true c2, cond_true, if_pos c2, app_eq (by simp; omega)]
   simp only [Option.bind_some]
   rw [app_eq (by simp; omega)]
   simp only [Option.bind_some]
   rw [app_eq (by simp; omega)]
   simp only [Option.bind_some]
   rw [app_eq (by simp; omega)]
   simp only [Option.bind_some]
   rw [app_eq (by simp; omega)]
   simp only [Option.bind_some]
   rw [app_eq (by simp; omega)]
   subst hq
   cases x.2.2.2.2 <;> simp [glue, kBor, kMut]
 rw [decide_eq_false c2, cond_false, if_neg c2]
 by_cases c3 : x.1 = 3
 · rw [decide_eq_true c3, cond_true, if_pos c3, app_eq (by simp; omega)]
   simp only [Option.bind_some]
   rw [app_eq (by simp; omega)]
   simp only [Option.bind_some]
   rw [app_eq (by simp; omega)]
   simp only [Option.bind_some]
   rw [app_eq (by simp; omega)]
   simp only [Option.bind_some]
   rw [app_eq (by simp; omega)]
   simp only [Option.bind_some]
   rw [app_eq (by simp; omega)]
   subst hq
   cases x.2.2.2.2 <;> simp [glue, kReb, kMut]
 rw [decide_eq_false c3, cond_false, if_neg c3]
 by_cases c4 : x.1 = 4
 · rw [decide_eq_true c4, cond_true, if_pos c4, app_eq (by simp; omega)]
   simp [glue, kUse]
 rw [decide_eq_false c4, cond_false, if_neg c4]
 by_cases c5 : x.1 = 5
 · rw [decide_eq_true c5, cond_true, if_pos c5, app_eq (by simp; omega)]
   simp [glue, kDead]
 rw [decide_eq_false c5, cond_false, if_neg c5]; rfl
structure TmS (x : Tm38) : Prop where
 sig : I64 x.2.1
 dst : I64 x.2.2.1
 nto : x.2.2.2.1.length ≤ 30
 args : x.2.2.2.2.1.length ≤ 30
 par : x.2.2.2.2.2.length ≤ 30
 hto : ∀ n ∈ x.2.2.2.1, I64 n
 hargs : ∀ n ∈ x.2.2.2.2.1, I64 n
 hpar : ∀ n ∈ x.2.2.2.2.2, I64 n
theorem term38 (x : Tm38) (h : TmS x) : fn_text_Term x = some (glue 32 (tmWs x)) := by
 unfold fn_text_Term tmWs
 have l1 := text_len h.sig; have l2 := text_len h.dst; have l3 := liW_len h.hto; have l4 := liW_len h.hargs; have l5 := liW_len h.hpar
 have p1 := h.nto; have p2 := h.args; have p3 := h.par
 simp only [nText_eq _ h.sig, nText_eq _ h.dst, list38 _ (show x.2.2.2.1.length ≤ 100 by omega) h.hto, list38 _ (show x.2.2.2.2.1.length ≤ 100 by omega) h.hargs, list38 _ (show x.2.2.2.2.2.length ≤ 100 by omega) h.hpar, Option.bind_some, fn_text_line]
 by_cases c1 : x.1 = 1
 · rw [decide_eq_true c1, cond_true, if_pos c1, line38 (by simp [glue]; omega) (by simp)]; rfl
 rw [decide_eq_false c1, cond_false, if_neg c1]
 by_cases c2 : x.1 = 2
 · rw [decide_eq_true c2, cond_true, if_pos c2, line38 (by simp [glue]; omega) (by simp)]; rfl
 rw [decide_eq_false c2, cond_false, if_neg c2]
 by_cases c3 : x.1 = 3
 · rw [decide_eq_true c3, cond_true, if_pos c3]; rfl
 rw [decide_eq_false c3, cond_false, if_neg c3]
 by_cases c4 : x.1 = 4
 · rw [decide_eq_true c4, cond_true, if_pos c4, line38 (by simp [glue]; omega) (by simp)]; rfl
 rw [decide_eq_false c4, cond_false, if_neg c4]; rfl
theorem rterm38 (x : Tm38) (h : TmS x) : fn_ref38_Term x = some (glue 32 (tmWs x)) := by
 unfold fn_ref38_Term tmWs
 have l1 := text_len h.sig; have l2 := text_len h.dst; have l3 := liW_len h.hto; have l4 := liW_len h.hargs; have l5 := liW_len h.hpar
 have p1 := h.nto; have p2 := h.args; have p3 := h.par
 simp only [rText_eq _ h.sig, rText_eq _ h.dst, rlist38 _ (show x.2.2.2.1.length ≤ 100 by omega) h.hto, rlist38 _ (show x.2.2.2.2.1.length ≤ 100 by omega) h.hargs, rlist38 _ (show x.2.2.2.2.2.length ≤ 100 by omega) h.hpar, Option.bind_some]
 by_cases c1 : x.1 = 1
 · rw [decide_eq_true c1, cond_true, if_pos c1, app_eq (by simp; omega)]
   simp [glue, kGoto]
 rw [decide_eq_false c1, cond_false, if_neg c1]
 by_cases c2 : x.1 = 2
 · rw [decide_eq_true c2, cond_true, if_pos c2, app_eq (by simp; omega)]
   simp only [Option.bind_some]
   rw [app_eq (by simp; omega)]
   simp only [Option.bind_some]
   rw [app_eq (by simp; omega)]
   simp [glue, kSw]
 rw [decide_eq_false c2, cond_false, if_neg c2]
 by_cases c3 : x.1 = 3
 · rw [decide_eq_true c3, cond_true, if_pos c3]; rfl
 rw [decide_eq_false c3, cond_false, if_neg c3]
 by_cases c4 : x.1 = 4
 · rw [decide_eq_true c4, cond_true, if_pos c4, app_eq (by simp; omega)]
   simp only [Option.bind_some]
   rw [app_eq (by simp; omega)]
   simp only [Option.bind_some]
   rw [app_eq (by simp; omega)]
   simp only [Option.bind_some]
   rw [app_eq (by simp; omega)]
   simp only [Option.bind_some]
   rw [app_eq (by simp; omega)]
   simp only [Option.bind_some]
   rw [app_eq (by simp; omega)]
   simp only [Option.bind_some]
   rw [app_eq (by simp; omega)]
   simp only [Option.bind_some]
   rw [app_eq (by simp; omega)]
   simp only [Option.bind_some]
   rw [app_eq (by simp; omega)]
   simp [glue, kCall]
 rw [decide_eq_false c4, cond_false, if_neg c4]; rfl
def pSl (p : Wd) : St × Int := let i := decide (p.getLast? = some 33); let r := parse (if i then p.dropLast else p) 1048576; ((r.1, i), r.2)
def pgo : List Wd → List St → List St × Int
 | [], acc => (acc, 0)
 | p :: ps, acc => if (pSl p).2 ≠ 0 then ([], (pSl p).2) else pgo ps (acc ++ [(pSl p).1])
def pTy (s : Wd) : List St × Int := if s = [45] then ([], 0) else pgo (pieces 47 s) []
theorem last33 (x : Wd) (c : UInt8) (h : 0 < x.length) : x.drop (x.length - 1) = [x[x.length - 1]] ∧ x.getLast? = some x[x.length - 1] ∧ x.take (x.length - 1) = x.dropLast := by
 refine ⟨?_, ?_, ?_⟩
 · rw [List.drop_eq_getElem_cons (by omega), List.drop_eq_nil_of_le (by omega)]
 · rw [List.getLast?_eq_getElem?, List.getElem?_eq_getElem (by omega)]
 · rw [List.dropLast_eq_take]
theorem cutS (x : Wd) (hn : x.length ≤ 1000000) : fn_strings_CutSuffix x [33] = some (if decide (x.getLast? = some 33) then x.dropLast else x, decide (x.getLast? = some 33)) := by
 unfold fn_strings_CutSuffix fn_internal_stringslite_CutSuffix fn_internal_stringslite_HasSuffix
 by_cases h0 : x = []
 · subst h0; rfl
 · have hp : 0 < x.length := List.length_pos_iff.2 h0
   obtain ⟨q1, q2, q3⟩ := last33 x 33 hp
   have e1 : decide (((([33] : List UInt8).length : Nat) : Int) ≤ (((x.length : Nat) : Int))) = true := by simp; omega
   have e2 : IntKind.wrap .i64 ((((x.length : Nat) : Int)) - ((([33] : List UInt8).length : Nat) : Int)) = ((x.length - 1 : Nat) : Int) := by
     simp only [List.length_cons, List.length_nil]; rw [w64 (by omega) (by omega)]; omega
   simp only [e1, e2, cond_true]
   rw [subL_eq (by omega) (by omega) (by omega), subL_eq (by omega) (by omega) (by omega)]
   simp only [Option.bind_some, Int.toNat_natCast, List.take_length, q1, q2, q3, show ((0 : Int).toNat) = 0 from rfl, List.drop_zero]
   by_cases hc : x[x.length - 1] = 33
   · simp [hc]
   · simp [hc]
theorem pieces_33 {s : Wd} (hn : s.length ≤ 1000000) : ∀ p ∈ pieces 47 s, p.length ≤ 1000000 := pieces_each 47 _ s hn
theorem dropLast_len {x : Wd} {n : Nat} (h : x.length ≤ n) : x.dropLast.length ≤ n := by rw [List.length_dropLast]; omega
theorem ite_len {x : Wd} {n : Nat} {b : Bool} (h : x.length ≤ n) : (if b = true then x.dropLast else x).length ≤ n := by split; exact dropLast_len h; exact h
theorem split47 (c : UInt8) (s : Wd) (hn : s.length ≤ 4000000) : splF s [c] = some (pieces c s) := by
 unfold splF
 rw [if_pos ⟨by omega, by simp⟩, Lib.splitB_data]
 congr 1
 show Lib.splitK [c] 0 (Lib.count s [c]) s = _
 rw [Lib.count_one]
 exact splitK_pieces c _ s rfl
theorem pty_key (l : List Wd) (hl : l.length ≤ 1000001) (hs : ∀ p ∈ l, p.length ≤ 1000000) : ∀ (m k : Nat) (acc : List St), k + m = l.length → acc.length = k →
   loop (fn_text_ParseType_l1 l) ((k : Int), acc) = some (if (pgo (l.drop k) acc).2 = 0 then .inl (pgo (l.drop k) acc).1 else .inr (pgo (l.drop k) acc)) := by
 intro m
 induction m with
 | zero =>
   intro k acc hk ha
   refine loop_end ?_
   unfold fn_text_ParseType_l1
   rw [List.drop_eq_nil_of_le (by omega)]
   simp only [dge (show ¬ k < l.length by omega), cond_false, pgo, if_true]
 | succ m ih =>
   intro k acc hk ha
   have hk' : k < l.length := by omega
   have hx := hs _ (List.getElem_mem hk')
   have hp := nParse_eq (if decide (l[k].getLast? = some 33) = true then l[k].dropLast else l[k]) 1048576 (ite_len hx) (by omega) (by omega)
   rw [List.drop_eq_getElem_cons hk']
   by_cases h1 : (pSl l[k]).2 = 0
   · have e : pgo (l[k] :: l.drop (k + 1)) acc = pgo (l.drop (k + 1)) (acc ++ [(pSl l[k]).1]) := by simp [pgo, h1]
     rw [e, loop_next (s' := (((k + 1 : Nat) : Int), acc ++ [(pSl l[k]).1])), ih (k + 1) _ (by omega) (by simp [ha])]
     unfold fn_text_ParseType_l1
     simp only [dlt hk', cond_true, getN hk', Option.bind_some, cutS _ hx, hp, w64s hk' (by omega)]
     unfold pSl at h1
     simp only at h1
     rw [h1]
     simp only [decide_true, Bool.not_true, cond_false]
     rw [app_eq (by simp; omega)]
     rfl
   · have e : pgo (l[k] :: l.drop (k + 1)) acc = ([], (pSl l[k]).2) := by simp [pgo, h1]
     rw [e]
     simp only [h1, if_false]
     refine loop_end ?_
     unfold fn_text_ParseType_l1
     simp only [dlt hk', cond_true, getN hk', Option.bind_some, cutS _ hx, hp]
     unfold pSl at h1 ⊢
     simp only at h1 ⊢
     rw [decide_eq_false h1]; rfl
theorem ptype38 (s : Wd) (hn : s.length ≤ 1000000) : fn_text_ParseType s = some (pTy s) := by
 unfold fn_text_ParseType pTy
 by_cases h0 : s = [45]
 · subst h0; rfl
 · rw [if_neg h0, decide_eq_false h0, cond_false, split47 47 s (by omega)]
   have := pty_key (pieces 47 s) (by have := pieces_len 47 s; omega) (pieces_33 hn) (pieces 47 s).length 0 [] (by omega) rfl
   rw [show ((0 : Nat) : Int) = 0 from rfl, List.drop_zero] at this
   simp only [Option.bind_some]
   rw [this]
   by_cases h1 : (pgo (pieces 47 s) []).2 = 0
   · simp only [h1, if_true, Option.bind_some]; rw [← h1]
   · simp only [h1, if_false, Option.bind_some]
theorem u8ne {a b : UInt8} (h : a ≠ b) : ¬ ((a.toNat : Nat) : Int) = ((b.toNat : Nat) : Int) := fun e => h (by apply UInt8.toNat_inj.1; simpa using Int.ofNat.inj e)
theorem cut_key (s : Wd) (c : UInt8) (hn : s.length ≤ 1000000) : ∀ (m i f : Nat) (out : List Wd), i + m = s.length → f ≤ i → c ∉ (s.take i).drop f → out.length ≤ f →
   loop (fn_ref38_Cut_l1 s ((c.toNat : Nat) : Int)) (out, (f : Int), (i : Int)) = some (out ++ pieces c (s.drop f)) := by
 have hd : ∀ {i f : Nat}, i ≤ s.length → f ≤ i → s.drop f = (s.take i).drop f ++ s.drop i := fun {i f} hi hf => by
   rw [← List.drop_append_of_le_length (by rw [List.length_take]; omega), List.take_append_drop]
 intro m
 induction m with
 | zero =>
   intro i f out hi hf hc ho
   have hi' : i = s.length := by omega
   subst hi'
   have e0 : decide (((s.length : Nat) : Int) ≤ ((s.length : Nat) : Int)) = true := by simp
   have e1 : decide (((s.length : Nat) : Int) = ((s.length : Nat) : Int)) = true := by simp
   have e2 : IntKind.wrap .i64 (((s.length : Nat) : Int) + 1) = ((s.length + 1 : Nat) : Int) := by rw [w64 (by omega) (by omega)]; omega
   rw [loop_next (s' := (out ++ [s.drop f], ((s.length + 1 : Nat) : Int), ((s.length + 1 : Nat) : Int)))]
   · rw [loop_end (b := out ++ [s.drop f])]
     · rw [hd (Nat.le_refl _) hf, List.drop_length, List.append_nil, pieces_all c _ hc]
     · unfold fn_ref38_Cut_l1
       have e3 : decide (((s.length + 1 : Nat) : Int) ≤ ((s.length : Nat) : Int)) = false := decide_eq_false (by omega)
       simp only [e3, cond_false]
   · unfold fn_ref38_Cut_l1
     simp only [e0, e1, e2, cond_true, Option.bind_some]
     rw [subL_eq (by omega) (by omega) (by omega)]
     simp only [Option.bind_some, Int.toNat_natCast, List.take_length]
     rw [app_eq (by simp; omega)]
     rfl
 | succ m ih =>
   intro i f out hi hf hc ho
   have hk : i < s.length := by omega
   have e0 : decide ((i : Int) ≤ ((s.length : Nat) : Int)) = true := decide_eq_true (by omega)
   have e1 : decide ((i : Int) = ((s.length : Nat) : Int)) = false := decide_eq_false (by omega)
   by_cases h1 : s[i] = c
   · have e2 : decide (((s[i].toNat : Nat) : Int) = ((c.toNat : Nat) : Int)) = true := by rw [h1]; simp
     rw [loop_next (s' := (out ++ [(s.take i).drop f], ((i + 1 : Nat) : Int), ((i + 1 : Nat) : Int)))]
     · rw [ih (i + 1) (i + 1) _ (by omega) (by omega) (by rw [List.drop_eq_nil_of_le (by rw [List.length_take]; omega)]; simp) (by simp; omega)]
       rw [hd (show i ≤ s.length by omega) hf, List.drop_eq_getElem_cons hk, h1, pieces_app c _ _ hc]; simp
     · unfold fn_ref38_Cut_l1
       simp only [e0, e1, cond_true, cond_false, getN hk, e2, Option.bind_some, w64s hk (by omega)]
       rw [subL_eq (by omega) (by omega) (by omega)]
       simp only [Option.bind_some, Int.toNat_natCast]
       rw [app_eq (by simp; omega)]
       rfl
   · have e2 : decide (((s[i].toNat : Nat) : Int) = ((c.toNat : Nat) : Int)) = false := decide_eq_false (u8ne h1)
     rw [loop_next (s' := (out, (f : Int), ((i + 1 : Nat) : Int)))]
     · refine ih (i + 1) f out (by omega) (by omega) ?_ ho
       rw [take_snoc hk, List.drop_append_of_le_length (by rw [List.length_take]; omega)]
       simp only [List.mem_append, List.mem_singleton, not_or]
       exact ⟨hc, fun e => h1 e.symm⟩
     · unfold fn_ref38_Cut_l1
       simp only [e0, e1, cond_true, cond_false, getN hk, e2, Option.bind_some, w64s hk (by omega)]
theorem rcut38 (s : Wd) (c : UInt8) (hn : s.length ≤ 1000000) : fn_ref38_Cut s ((c.toNat : Nat) : Int) = some (pieces c s) := by
 unfold fn_ref38_Cut
 have := cut_key s c hn s.length 0 0 [] (by omega) (by omega) (by simp) (by simp)
 rw [show ((0 : Nat) : Int) = 0 from rfl, List.drop_zero, List.nil_append] at this
 rw [this]; rfl
theorem rpty_key (l : List Wd) (hl : l.length ≤ 1000001) (hs : ∀ p ∈ l, p.length ≤ 1000000) : ∀ (m k : Nat) (acc : List St), k + m = l.length → acc.length = k →
   loop (fn_ref38_ParseType_l1 l) (acc, (k : Int)) = some (if (pgo (l.drop k) acc).2 = 0 then .inl (pgo (l.drop k) acc).1 else .inr (pgo (l.drop k) acc)) := by
 intro m
 induction m with
 | zero =>
   intro k acc hk ha
   refine loop_end ?_
   unfold fn_ref38_ParseType_l1
   rw [List.drop_eq_nil_of_le (by omega)]
   simp only [dge (show ¬ k < l.length by omega), cond_false, pgo, if_true]
 | succ m ih =>
   intro k acc hk ha
   have hk' : k < l.length := by omega
   have hx := hs _ (List.getElem_mem hk')
   have hp := rParse_eq (if decide (l[k].getLast? = some 33) = true then l[k].dropLast else l[k]) 1048576 (ite_len hx) (by omega)
   have hi : (cond (decide (0 < ((l[k].length : Nat) : Int))) ((getI l[k] (IntKind.wrap .i64 (((l[k].length : Nat) : Int) - 1))).bind fun x837 => some (decide (((x837.toNat : Nat) : Int) = 33))) (some false)) = some (decide (l[k].getLast? = some 33)) := by
     by_cases h0 : l[k] = []
     · rw [h0]; rfl
     · have hq : 0 < l[k].length := List.length_pos_iff.2 h0
       obtain ⟨q1, q2, q3⟩ := last33 l[k] 33 hq
       have e1 : decide (0 < ((l[k].length : Nat) : Int)) = true := by simp; omega
       have e2 : IntKind.wrap .i64 (((l[k].length : Nat) : Int) - 1) = ((l[k].length - 1 : Nat) : Int) := by rw [w64 (by omega) (by omega)]; omega
       rw [e1, cond_true, e2, getN (by omega), q2]
       simp only [Option.bind_some, Option.some.injEq]
       by_cases hc : l[k][l[k].length - 1] = 33
       · simp [hc]
       · have := u8ne hc
         simp only [hc, decide_false, decide_eq_false_iff_not]; exact this
   have hd : (cond (decide (l[k].getLast? = some 33)) ((subL l[k] 0 (IntKind.wrap .i64 (((l[k].length : Nat) : Int) - 1))).bind fun y847 => some y847) (some l[k]) : Option Wd) = some (if decide (l[k].getLast? = some 33) = true then l[k].dropLast else l[k]) := by
     cases hc : decide (l[k].getLast? = some 33) with
     | false => rfl
     | true =>
       have hq : 0 < l[k].length := by
         rcases Nat.eq_zero_or_pos l[k].length with h | h
         · rw [List.length_eq_zero_iff.1 h] at hc; simp at hc
         · exact h
       obtain ⟨q1, q2, q3⟩ := last33 l[k] 33 hq
       have e2 : IntKind.wrap .i64 (((l[k].length : Nat) : Int) - 1) = ((l[k].length - 1 : Nat) : Int) := by rw [w64 (by omega) (by omega)]; omega
       rw [cond_true, e2, subL_eq (by omega) (by omega) (by omega)]
       simp [q3]
   rw [List.drop_eq_getElem_cons hk']
   by_cases h1 : (pSl l[k]).2 = 0
   · have e : pgo (l[k] :: l.drop (k + 1)) acc = pgo (l.drop (k + 1)) (acc ++ [(pSl l[k]).1]) := by simp [pgo, h1]
     rw [e, loop_next (s' := (acc ++ [(pSl l[k]).1], ((k + 1 : Nat) : Int))), ih (k + 1) _ (by omega) (by simp [ha])]
     unfold fn_ref38_ParseType_l1
     simp only [dlt hk', cond_true, getN hk', Option.bind_some, hi, hd, hp, w64s hk' (by omega)]
     unfold pSl at h1
     simp only at h1
     rw [h1]
     simp only [decide_true, Bool.not_true, cond_false]
     rw [app_eq (by simp; omega)]
     rfl
   · have e : pgo (l[k] :: l.drop (k + 1)) acc = ([], (pSl l[k]).2) := by simp [pgo, h1]
     rw [e]
     simp only [h1, if_false]
     refine loop_end ?_
     unfold fn_ref38_ParseType_l1
     simp only [dlt hk', cond_true, getN hk', Option.bind_some, hi, hd, hp]
     unfold pSl at h1 ⊢
     simp only at h1 ⊢
     rw [decide_eq_false h1]; rfl
theorem rptype38 (s : Wd) (hn : s.length ≤ 1000000) : fn_ref38_ParseType s = some (pTy s) := by
 unfold fn_ref38_ParseType pTy
 by_cases h0 : s = [45]
 · subst h0; rfl
 · rw [if_neg h0, decide_eq_false h0, cond_false, show fn_ref38_Cut s 47 = _ from rcut38 s 47 hn]
   have := rpty_key (pieces 47 s) (by have := pieces_len 47 s; omega) (pieces_33 hn) (pieces 47 s).length 0 [] (by omega) rfl
   rw [show ((0 : Nat) : Int) = 0 from rfl, List.drop_zero] at this
   simp only [Option.bind_some]
   rw [this]
   by_cases h1 : (pgo (pieces 47 s) []).2 = 0
   · simp only [h1, if_true, Option.bind_some]; rw [← h1]
   · simp only [h1, if_false, Option.bind_some]
end
end Go.Proofs.YteciehjlefldmaaDoor
