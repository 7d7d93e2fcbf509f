/- What Go functions answer: generated. -/
import Derived.Test.YtaaicohpbafegaaF2
namespace Go.Proofs.Ytaaicohpbafegaa
open Go.RowKit
set_option linter.unusedVariables false

noncomputable def fn_stmt_Take (xa : (List UInt8)) : Option (Int × Int × Int × Int × Bool × Int × Int) :=
  (fn_leb_Take xa).bind fun (i62, i63, i65) => cond (!decide (i65 = 0)) (some ((0, 0, 0, 0, false, 0, i65))) ((fn_stmt_fieldsOf i62).bind fun (t74, t75, t76, t77) => cond (!t77) (some ((0, 0, 0, 0, false, 0, 3))) ((fn_stmt_Take_1_bp0p1p2_i_s_i t74 i65 xa i63).bind fun (i86, i87, i88) => (fn_stmt_Take_1_bp0p1p2_i_s_i t75 i87 xa i88).bind fun (i94, i95, i96) => (fn_stmt_Take_1_bp0p1p2_i_s_i t76 i95 xa i96).bind fun (i102, i103, i104) => cond (!decide (i103 = 0)) (some ((0, 0, 0, 0, false, 0, i103))) (some ((i62, i86, i94, IntKind.wrap .i64 (Int.tdiv i102 2), decide ((Int.tmod i102 2) = 1), i104, 0)))))
set_option maxRecDepth 100000 in
set_option maxHeartbeats 4000000 in
theorem stmt_Take_ok {K : Hp} {xa : (List UInt8)}   {r : (Int × Int × Int × Int × Bool × Int × Int)} (h : fn_stmt_Take xa = some r) :
    Tr Try.prog 13 #[.string ⟨xa.toArray⟩] K [] (fun v K' L' => (∃ (i51 : Int) (i52 : Int) (i53 : Int) (i54 : Int) (t55 : Bool) (i56 : Int) (i57 : Int), (i51, i52, i53, i54, t55, i56, i57) = r ∧ .tuple #[.agg #[.int .i64 i51, .int .i64 i52, .int .i64 i53, .int .i64 i54, .bool t55], .int .i64 i56, .int .i64 i57] = v ∧ L' = []) ∧ K = K') := by
  refine Tr.k ?_
  refine Tr.of Try.func13 rfl Try.ntmps13 rfl (fun E F => ?_)
  unfold fn_stmt_Take at h
  refine CJ.seq ?_
  refine CJ.region ?_
  refine J.op rfl (A.box (v := .string ⟨xa.toArray⟩) (cs := [.string ⟨xa.toArray⟩]) rfl rfl) ?_
  rintro _ _ _ ⟨b58, rfl, rfl, rfl⟩
  refine J.op rfl (A.alloc (cs := [.int .i64 0, .int .i64 0, .int .i64 0, .int .i64 0, .bool false]) inf23 rfl) ?_
  rintro _ _ _ ⟨b59, rfl, rfl, rfl⟩
  refine J.val (v := .int .i64 0) rfl rfl (V.as rfl) ?_
  refine J.val (v := .int .i64 0) rfl rfl (V.as rfl) ?_
  refine J.nil ?_
  refine CJ.seq ?_
  refine CJ.region ?_
  refine J.val (v := .string ⟨xa.toArray⟩) rfl rfl (V.ld rfl (Ld.sc sc9 (Rd.cl 1 rfl rfl))) ?_
  obtain ⟨r60, hr61, h⟩ := ob h
  refine J.op rfl (A.call (L1 := []) Try.call30 rfl (leb_Take_ok hr61) rfl rfl) ?_
  rintro _ _ _ ⟨v66, _, rfl, ⟨⟨i62, i63, i65, rfl, rfl, rfl⟩, rfl⟩, _, rfl⟩
  refine J.val (v := .tuple #[.int .i64 i62, .int .i64 i63, .int .i64 i65]) rfl rfl (V.mv rfl) ?_
  refine J.val (v := .int .i64 i62) rfl rfl (V.ext rfl rfl) ?_
  refine J.val (v := .int .i64 i63) rfl rfl (V.ext rfl rfl) ?_
  refine J.val (v := .int .i64 i65) rfl rfl (V.ext rfl rfl) ?_
  refine J.op rfl (A.alloc (cs := [.int .i64 0]) inf3 rfl) ?_
  rintro _ _ _ ⟨b69, rfl, rfl, rfl⟩
  refine J.op rfl (A.alloc (cs := [.int .i64 0]) inf28 rfl) ?_
  rintro _ _ _ ⟨b70, rfl, rfl, rfl⟩
  refine J.val (v := .int .i64 i62) rfl rfl (V.as rfl) ?_
  refine J.front 1 rfl ?_
  refine J.op rfl (A.store1 (v := .int .i64 i63) (cs' := [.int .i64 i63]) sz3 rfl rfl rfl rfl rfl rfl) ?_
  rintro _ _ _ ⟨rfl, rfl, rfl⟩
  refine J.front 1 rfl ?_
  refine J.op rfl (A.store1 (v := .int .i64 i65) (cs' := [.int .i64 i65]) sz28 rfl rfl rfl rfl rfl rfl) ?_
  rintro _ _ _ ⟨rfl, rfl, rfl⟩
  refine J.nil ?_
  refine CJ.seq ?_
  refine CJ.seq ?_
  refine CJ.region ?_
  refine J.val (v := .int .i64 i65) rfl rfl (V.ld rfl (Ld.sc sc28 (Rd.cl 0 rfl rfl))) ?_
  refine J.val (v := .bool (!decide (i65 = 0))) rfl rfl (V.neq rfl rfl) ?_
  refine J.nil ?_
  refine CJ.cond rfl (fun hc71 => ?_) (fun hc71 => ?_)
  · have h := ct hc71 h
    refine CJ.seq ?_
    refine CJ.mix [Cl b70 28 [.int .i64 i65], Cl b69 3 [.int .i64 i63], Cl b59 23 [.int .i64 0, .int .i64 0, .int .i64 0, .int .i64 0, .bool false], Cl b58 9 [.string ⟨xa.toArray⟩]] [([0, 1], 2)] [3, 4] [] mixO (by decide +kernel) ⟨0, rfl, 0, rfl, 0, rfl, 0, rfl, trivial⟩ rfl rfl rfl ?_
    refine JM.cons ?_
    refine JQ.val (v := .agg #[.int .i64 0, .int .i64 0, .int .i64 0, .int .i64 0, .bool false]) rfl rfl (V.build inf23 places23 rfl rfl) ?_
    refine JQ.val (v := .int .i64 i65) rfl rfl (V.ld rfl (Ld.sc sc28 (Rd.cl 0 rfl rfl))) ?_
    refine JQ.nil ?_
    refine JA.front 2 rfl ?_
    refine JA.op rfl (A.store (v := .agg #[.int .i64 0, .int .i64 0, .int .i64 0, .int .i64 0, .bool false]) (cs' := [.int .i64 0, .int .i64 0, .int .i64 0, .int .i64 0, .bool false]) sz23 rfl rfl rfl rfl rfl rfl) ?_
    rintro _ _ _ ⟨rfl, rfl, rfl⟩
    refine ⟨fun w hs => Hold.sub (Hp.le_refl _) ⟨1, rfl, 1, rfl, 0, rfl, 0, rfl, trivial⟩ hs, ?_⟩
    refine JM.nil ?_
    refine JQ.val (v := .int .i64 0) rfl rfl (V.as rfl) ?_
    refine JQ.val (v := .int .i64 i65) rfl rfl (V.as rfl) ?_
    refine JQ.nil ?_
    refine J.nil ?_
    refine CJ.ret ?_
    have e := Option.some.inj h
    subst e
    exact ⟨_, [], Res.three rfl ⟨_, _, rfl, Ld.agg (cs := [.int .i64 0, .int .i64 0, .int .i64 0, .int .i64 0, .bool false]) Try.underlying23 sz23 rfl (Rd.cls 0 0 rfl rfl)⟩ rfl rfl, ⟨0, 0, 0, 0, false, 0, i65, rfl, rfl, rfl⟩, (Hp.le_refl _), fun w hs => (Sep.dropAt 0 rfl (Sep.dropAt 0 rfl (Sep.dropAt 0 rfl (Sep.dropAt 0 rfl hs))))⟩
  · have h := cf hc71 h
    refine CJ.skip ?_
    refine CJ.seq ?_
    refine CJ.region ?_
    refine J.val (v := .int .i64 i62) rfl rfl (V.mv rfl) ?_
    obtain ⟨r72, hr73, h⟩ := ob h
    refine J.op rfl (A.call (L1 := []) Try.call31 rfl (stmt_fieldsOf_ok hr73) rfl rfl) ?_
    rintro _ _ _ ⟨v78, _, rfl, ⟨⟨t74, t75, t76, t77, rfl, rfl, rfl⟩, rfl⟩, _, rfl⟩
    refine J.val (v := .tuple #[.agg #[.bool t74, .bool t75, .bool t76], .bool t77]) rfl rfl (V.mv rfl) ?_
    refine J.val (v := .agg #[.bool t74, .bool t75, .bool t76]) rfl rfl (V.ext rfl rfl) ?_
    refine J.val (v := .bool t77) rfl rfl (V.ext rfl rfl) ?_
    refine J.op rfl (A.alloc (cs := [.bool false, .bool false, .bool false]) inf49 rfl) ?_
    rintro _ _ _ ⟨b81, rfl, rfl, rfl⟩
    refine J.op rfl (A.store (v := .agg #[.bool t74, .bool t75, .bool t76]) (cs' := [.bool t74, .bool t75, .bool t76]) sz49 rfl rfl rfl rfl rfl rfl) ?_
    rintro _ _ _ ⟨rfl, rfl, rfl⟩
    refine J.val (v := .bool t77) rfl rfl (V.as rfl) ?_
    refine J.nil ?_
    refine CJ.seq ?_
    refine CJ.seq ?_
    refine CJ.region ?_
    refine J.val (v := .bool t77) rfl rfl (V.mv rfl) ?_
    refine J.val (v := .bool (!t77)) rfl rfl (V.not rfl) ?_
    refine J.nil ?_
    refine CJ.cond rfl (fun hc82 => ?_) (fun hc82 => ?_)
    · have h := ct hc82 h
      refine CJ.seq ?_
      refine CJ.region ?_
      refine J.val (v := .agg #[.int .i64 0, .int .i64 0, .int .i64 0, .int .i64 0, .bool false]) rfl rfl (V.build inf23 places23 rfl rfl) ?_
      refine J.front 3 rfl ?_
      refine J.op rfl (A.store (v := .agg #[.int .i64 0, .int .i64 0, .int .i64 0, .int .i64 0, .bool false]) (cs' := [.int .i64 0, .int .i64 0, .int .i64 0, .int .i64 0, .bool false]) sz23 rfl rfl rfl rfl rfl rfl) ?_
      rintro _ _ _ ⟨rfl, rfl, rfl⟩
      refine J.val (v := .int .i64 0) rfl rfl (V.as rfl) ?_
      refine J.val (v := .int .i64 3) rfl rfl (V.as rfl) ?_
      refine J.nil ?_
      refine CJ.ret ?_
      have e := Option.some.inj h
      subst e
      exact ⟨_, [], Res.three rfl ⟨_, _, rfl, Ld.agg (cs := [.int .i64 0, .int .i64 0, .int .i64 0, .int .i64 0, .bool false]) Try.underlying23 sz23 rfl (Rd.cls 0 0 rfl rfl)⟩ rfl rfl, ⟨0, 0, 0, 0, false, 0, 3, rfl, rfl, rfl⟩, (Hp.le_refl _), fun w hs => (Sep.dropAt 0 rfl (Sep.dropAt 0 rfl (Sep.dropAt 0 rfl (Sep.dropAt 0 rfl (Sep.dropAt 0 rfl hs)))))⟩
    · have h := cf hc82 h
      refine CJ.skip ?_
      refine CJ.seq ?_
      refine CJ.region ?_
      refine J.val (v := .func (.func 32) #[] #[.pointer (some ⟨b70, 0, none⟩), .pointer (some ⟨b58, 0, none⟩), .pointer (some ⟨b69, 0, none⟩)]) rfl rfl (V.mkf rfl) ?_
      refine J.val (v := .func (.func 32) #[] #[.pointer (some ⟨b70, 0, none⟩), .pointer (some ⟨b58, 0, none⟩), .pointer (some ⟨b69, 0, none⟩)]) rfl rfl (V.as rfl) ?_
      refine J.nil ?_
      refine CJ.seq ?_
      refine CJ.region ?_
      refine J.val (v := .int .i64 i62) rfl rfl (V.mv rfl) ?_
      refine J.val (v := .agg #[.int .i64 i62, .int .i64 0, .int .i64 0, .int .i64 0, .bool false]) rfl rfl (V.build inf23 places23 rfl rfl) ?_
      refine J.op rfl (A.alloc (cs := [.int .i64 0, .int .i64 0, .int .i64 0, .int .i64 0, .bool false]) inf23 rfl) ?_
      rintro _ _ _ ⟨b83, rfl, rfl, rfl⟩
      refine J.op rfl (A.store (v := .agg #[.int .i64 i62, .int .i64 0, .int .i64 0, .int .i64 0, .bool false]) (cs' := [.int .i64 i62, .int .i64 0, .int .i64 0, .int .i64 0, .bool false]) sz23 rfl rfl rfl rfl rfl rfl) ?_
      rintro _ _ _ ⟨rfl, rfl, rfl⟩
      refine J.nil ?_
      refine CJ.seq ?_
      refine CJ.region ?_
      refine J.val (v := .func (.func 32) #[] #[.pointer (some ⟨b70, 0, none⟩), .pointer (some ⟨b58, 0, none⟩), .pointer (some ⟨b69, 0, none⟩)]) rfl rfl (V.mv rfl) ?_
      refine J.val rfl rfl (V.fad Try.underlying49 rfl nz4 rfl) ?_
      refine J.val (v := .bool t74) rfl rfl (V.ld rfl (Ld.sc sc4 (Rd.cl 1 rfl rfl))) ?_
      obtain ⟨r84, hr85, h⟩ := ob h
      refine J.front 3 rfl ?_
      refine J.front 5 rfl ?_
      refine J.front 4 rfl ?_
      refine J.op rfl (A.call (L1 := [Cl b70 28 [.int .i64 i65], Cl b58 9 [.string ⟨xa.toArray⟩], Cl b69 3 [.int .i64 i63]]) Try.call32 rfl (stmt_Take_1_bp0p1p2_i_s_i_ok hr85) rfl rfl) ?_
      rintro _ _ _ ⟨v89, _, rfl, ⟨⟨i86, i87, i88, rfl, rfl, rfl⟩, rfl⟩, _, rfl⟩
      refine J.val rfl rfl (V.fad Try.underlying23 rfl nz3 rfl) ?_
      refine J.front 3 rfl ?_
      refine J.op rfl (A.store1 (v := .int .i64 i86) (cs' := [.int .i64 i62, .int .i64 i86, .int .i64 0, .int .i64 0, .bool false]) sz3 rfl rfl rfl rfl rfl rfl) ?_
      rintro _ _ _ ⟨rfl, rfl, rfl⟩
      refine J.nil ?_
      refine CJ.seq ?_
      refine CJ.region ?_
      refine J.val (v := .func (.func 32) #[] #[.pointer (some ⟨b70, 0, none⟩), .pointer (some ⟨b58, 0, none⟩), .pointer (some ⟨b69, 0, none⟩)]) rfl rfl (V.mv rfl) ?_
      refine J.val rfl rfl (V.fad Try.underlying49 rfl nz4 rfl) ?_
      refine J.val (v := .bool t75) rfl rfl (V.ld rfl (Ld.sc sc4 (Rd.cl 4 rfl rfl))) ?_
      obtain ⟨r92, hr93, h⟩ := ob h
      refine J.front 3 rfl ?_
      refine J.front 3 rfl ?_
      refine J.front 3 rfl ?_
      refine J.op rfl (A.call (L1 := [Cl b70 28 [.int .i64 i87], Cl b58 9 [.string ⟨xa.toArray⟩], Cl b69 3 [.int .i64 i88]]) Try.call32 rfl (stmt_Take_1_bp0p1p2_i_s_i_ok hr93) rfl rfl) ?_
      rintro _ _ _ ⟨v97, _, rfl, ⟨⟨i94, i95, i96, rfl, rfl, rfl⟩, rfl⟩, _, rfl⟩
      refine J.val rfl rfl (V.fad Try.underlying23 rfl nz3 rfl) ?_
      refine J.front 3 rfl ?_
      refine J.op rfl (A.store1 (v := .int .i64 i94) (cs' := [.int .i64 i62, .int .i64 i86, .int .i64 i94, .int .i64 0, .bool false]) sz3 rfl rfl rfl rfl rfl rfl) ?_
      rintro _ _ _ ⟨rfl, rfl, rfl⟩
      refine J.nil ?_
      refine CJ.seq ?_
      refine CJ.region ?_
      refine J.val (v := .func (.func 32) #[] #[.pointer (some ⟨b70, 0, none⟩), .pointer (some ⟨b58, 0, none⟩), .pointer (some ⟨b69, 0, none⟩)]) rfl rfl (V.mv rfl) ?_
      refine J.val rfl rfl (V.fad Try.underlying49 rfl nz4 rfl) ?_
      refine J.val (v := .bool t76) rfl rfl (V.ld rfl (Ld.sc sc4 (Rd.cl 4 rfl rfl))) ?_
      obtain ⟨r100, hr101, h⟩ := ob h
      refine J.front 3 rfl ?_
      refine J.front 3 rfl ?_
      refine J.front 3 rfl ?_
      refine J.op rfl (A.call (L1 := [Cl b70 28 [.int .i64 i95], Cl b58 9 [.string ⟨xa.toArray⟩], Cl b69 3 [.int .i64 i96]]) Try.call32 rfl (stmt_Take_1_bp0p1p2_i_s_i_ok hr101) rfl rfl) ?_
      rintro _ _ _ ⟨v105, _, rfl, ⟨⟨i102, i103, i104, rfl, rfl, rfl⟩, rfl⟩, _, rfl⟩
      refine J.val (v := .int .i64 i102) rfl rfl (V.as rfl) ?_
      refine J.nil ?_
      refine CJ.seq ?_
      refine CJ.region ?_
      refine J.val (v := .int .i64 i102) rfl rfl (V.mv rfl) ?_
      refine J.val (v := .int .i64 (IntKind.wrap .i64 (Int.tdiv i102 2))) rfl rfl (V.quo rfl rfl (by decide)) ?_
      refine J.val (v := .int .i64 i102) rfl rfl (V.mv rfl) ?_
      refine J.val (v := .int .i64 (Int.tmod i102 2)) rfl rfl (V.rem rfl rfl (by decide)) ?_
      refine J.val (v := .bool (decide ((Int.tmod i102 2) = 1))) rfl rfl (V.eql rfl rfl) ?_
      refine J.val rfl rfl (V.fad Try.underlying23 rfl nz3 rfl) ?_
      refine J.front 3 rfl ?_
      refine J.op rfl (A.store1 (v := .int .i64 (IntKind.wrap .i64 (Int.tdiv i102 2))) (cs' := [.int .i64 i62, .int .i64 i86, .int .i64 i94, .int .i64 (IntKind.wrap .i64 (Int.tdiv i102 2)), .bool false]) sz3 rfl rfl rfl rfl rfl rfl) ?_
      rintro _ _ _ ⟨rfl, rfl, rfl⟩
      refine J.val rfl rfl (V.fad Try.underlying23 rfl nz4 rfl) ?_
      refine J.op rfl (A.store1 (v := .bool (decide ((Int.tmod i102 2) = 1))) (cs' := [.int .i64 i62, .int .i64 i86, .int .i64 i94, .int .i64 (IntKind.wrap .i64 (Int.tdiv i102 2)), .bool (decide ((Int.tmod i102 2) = 1))]) sz4 rfl rfl rfl rfl rfl rfl) ?_
      rintro _ _ _ ⟨rfl, rfl, rfl⟩
      refine J.nil ?_
      refine CJ.seq ?_
      refine CJ.seq ?_
      refine CJ.region ?_
      refine J.val (v := .int .i64 i103) rfl rfl (V.ld rfl (Ld.sc sc28 (Rd.cl 1 rfl rfl))) ?_
      refine J.val (v := .bool (!decide (i103 = 0))) rfl rfl (V.neq rfl rfl) ?_
      refine J.nil ?_
      refine CJ.cond rfl (fun hc108 => ?_) (fun hc108 => ?_)
      · have h := ct hc108 h
        refine CJ.seq ?_
        refine CJ.mix [Cl b83 23 [.int .i64 i62, .int .i64 i86, .int .i64 i94, .int .i64 (IntKind.wrap .i64 (Int.tdiv i102 2)), .bool (decide ((Int.tmod i102 2) = 1))], Cl b70 28 [.int .i64 i103], Cl b58 9 [.string ⟨xa.toArray⟩], Cl b69 3 [.int .i64 i104], Cl b81 49 [.bool t74, .bool t75, .bool t76], Cl b59 23 [.int .i64 0, .int .i64 0, .int .i64 0, .int .i64 0, .bool false]] [([0, 1], 2)] [3, 4] [] mixO (by decide +kernel) ⟨0, rfl, 0, rfl, 0, rfl, 0, rfl, 0, rfl, 0, rfl, trivial⟩ rfl rfl rfl ?_
        refine JM.cons ?_
        refine JQ.val (v := .agg #[.int .i64 0, .int .i64 0, .int .i64 0, .int .i64 0, .bool false]) rfl rfl (V.build inf23 places23 rfl rfl) ?_
        refine JQ.val (v := .int .i64 i103) rfl rfl (V.ld rfl (Ld.sc sc28 (Rd.cl 1 rfl rfl))) ?_
        refine JQ.nil ?_
        refine JA.front 5 rfl ?_
        refine JA.op rfl (A.store (v := .agg #[.int .i64 0, .int .i64 0, .int .i64 0, .int .i64 0, .bool false]) (cs' := [.int .i64 0, .int .i64 0, .int .i64 0, .int .i64 0, .bool false]) sz23 rfl rfl rfl rfl rfl rfl) ?_
        rintro _ _ _ ⟨rfl, rfl, rfl⟩
        refine ⟨fun w hs => Hold.sub (Hp.le_refl _) ⟨1, rfl, 1, rfl, 1, rfl, 1, rfl, 1, rfl, 0, rfl, trivial⟩ hs, ?_⟩
        refine JM.nil ?_
        refine JQ.val (v := .int .i64 0) rfl rfl (V.as rfl) ?_
        refine JQ.val (v := .int .i64 i103) rfl rfl (V.as rfl) ?_
        refine JQ.nil ?_
        refine J.nil ?_
        refine CJ.ret ?_
        have e := Option.some.inj h
        subst e
        exact ⟨_, [], Res.three rfl ⟨_, _, rfl, Ld.agg (cs := [.int .i64 0, .int .i64 0, .int .i64 0, .int .i64 0, .bool false]) Try.underlying23 sz23 rfl (Rd.cls 0 0 rfl rfl)⟩ rfl rfl, ⟨0, 0, 0, 0, false, 0, i103, rfl, rfl, rfl⟩, (Hp.le_refl _), fun w hs => (Sep.dropAt 0 rfl (Sep.dropAt 0 rfl (Sep.dropAt 0 rfl (Sep.dropAt 0 rfl (Sep.dropAt 0 rfl (Sep.dropAt 0 rfl hs))))))⟩
      · have h := cf hc108 h
        refine CJ.skip ?_
        refine CJ.seq ?_
        refine CJ.mix [Cl b83 23 [.int .i64 i62, .int .i64 i86, .int .i64 i94, .int .i64 (IntKind.wrap .i64 (Int.tdiv i102 2)), .bool (decide ((Int.tmod i102 2) = 1))], Cl b70 28 [.int .i64 i103], Cl b58 9 [.string ⟨xa.toArray⟩], Cl b69 3 [.int .i64 i104], Cl b81 49 [.bool t74, .bool t75, .bool t76]] [([0, 1], 2)] [3, 4] [] mixO (by decide +kernel) ⟨0, rfl, 0, rfl, 0, rfl, 0, rfl, 0, rfl, trivial⟩ rfl rfl rfl ?_
        refine JM.cons ?_
        refine JQ.val (v := .agg #[.int .i64 i62, .int .i64 i86, .int .i64 i94, .int .i64 (IntKind.wrap .i64 (Int.tdiv i102 2)), .bool (decide ((Int.tmod i102 2) = 1))]) rfl rfl (V.ld rfl (Ld.agg (cs := [.int .i64 i62, .int .i64 i86, .int .i64 i94, .int .i64 (IntKind.wrap .i64 (Int.tdiv i102 2)), .bool (decide ((Int.tmod i102 2) = 1))]) Try.underlying23 sz23 rfl (Rd.cls 0 0 rfl rfl))) ?_
        refine JQ.val (v := .int .i64 i104) rfl rfl (V.ld rfl (Ld.sc sc3 (Rd.cl 3 rfl rfl))) ?_
        refine JQ.nil ?_
        refine JA.front 5 rfl ?_
        refine JA.op rfl (A.store (v := .agg #[.int .i64 i62, .int .i64 i86, .int .i64 i94, .int .i64 (IntKind.wrap .i64 (Int.tdiv i102 2)), .bool (decide ((Int.tmod i102 2) = 1))]) (cs' := [.int .i64 i62, .int .i64 i86, .int .i64 i94, .int .i64 (IntKind.wrap .i64 (Int.tdiv i102 2)), .bool (decide ((Int.tmod i102 2) = 1))]) sz23 rfl rfl rfl rfl rfl rfl) ?_
        rintro _ _ _ ⟨rfl, rfl, rfl⟩
        refine ⟨fun w hs => Hold.sub (Hp.le_refl _) ⟨1, rfl, 1, rfl, 1, rfl, 1, rfl, 1, rfl, trivial⟩ hs, ?_⟩
        refine JM.nil ?_
        refine JQ.val (v := .int .i64 i104) rfl rfl (V.as rfl) ?_
        refine JQ.val (v := .int .i64 0) rfl rfl (V.as rfl) ?_
        refine JQ.nil ?_
        refine J.nil ?_
        refine CJ.ret ?_
        have e := Option.some.inj h
        subst e
        exact ⟨_, [], Res.three rfl ⟨_, _, rfl, Ld.agg (cs := [.int .i64 i62, .int .i64 i86, .int .i64 i94, .int .i64 (IntKind.wrap .i64 (Int.tdiv i102 2)), .bool (decide ((Int.tmod i102 2) = 1))]) Try.underlying23 sz23 rfl (Rd.cls 0 0 rfl rfl)⟩ rfl rfl, ⟨i62, i86, i94, IntKind.wrap .i64 (Int.tdiv i102 2), decide ((Int.tmod i102 2) = 1), i104, 0, rfl, rfl, rfl⟩, (Hp.le_refl _), fun w hs => (Sep.dropAt 0 rfl (Sep.dropAt 0 rfl (Sep.dropAt 0 rfl (Sep.dropAt 0 rfl (Sep.dropAt 0 rfl (Sep.dropAt 0 rfl hs))))))⟩

noncomputable def fnr_ref02_digits : Nat → Int → Option (List UInt8)
  | 0, _ => none
  | fuel + 1, xa => cond (decide (xa < 256)) (some (toU8 ([IntKind.wrap .u8 xa] : List Int))) (((fnr_ref02_digits fuel (IntKind.wrap .i64 (Int.tdiv xa 256))).bind fun s212 => (app s212 (toU8 (([IntKind.wrap .u8 (Int.tmod xa 256)] : List Int)))).bind fun z222 => some (z222) : Option (List UInt8)).bind fun s182 => some (s182))
noncomputable def fn_ref02_digits (xa : Int) : Option (List UInt8) := lev (fun n => fnr_ref02_digits n xa)
set_option maxRecDepth 100000 in
set_option maxHeartbeats 4000000 in
theorem ref02_digits_okr : ∀ (fuel : Nat) {K : Hp} {xa : Int}   {r : List UInt8} (h : fnr_ref02_digits fuel xa = some r),
    Tr Try.prog 48 #[.int .i64 xa] K [] (fun v K' L' => (∃ (s123 : List UInt8), s123 = r ∧ .string ⟨s123.toArray⟩ = v ∧ L' = []) ∧ K = K') := by
  intro fuel
  induction fuel with
  | zero => intro K xa r h; rw [fnr_ref02_digits] at h; cases h
  | succ fuel ih =>
    intro K xa r h
    refine Tr.k ?_
    refine Tr.of Try.func48 rfl Try.ntmps48 rfl (fun E F => ?_)
    rw [fnr_ref02_digits] at h
    refine CJ.seq ?_
    refine CJ.region ?_
    refine J.val (v := .string ⟨([] : List UInt8).toArray⟩) rfl rfl (V.as rfl) ?_
    refine J.nil ?_
    refine CJ.seq ?_
    refine CJ.seq ?_
    refine CJ.region ?_
    refine J.val (v := .int .i64 xa) rfl rfl (V.mv rfl) ?_
    refine J.val (v := .bool (decide (xa < 256))) rfl rfl (V.lss rfl rfl) ?_
    refine J.nil ?_
    refine CJ.cond rfl (fun hc124 => ?_) (fun hc124 => ?_)
    · have h := ct hc124 h
      refine CJ.seq ?_
      refine CJ.region ?_
      refine J.val (v := .int .i64 xa) rfl rfl (V.mv rfl) ?_
      refine J.val (v := .int .u8 (IntKind.wrap .u8 xa)) rfl rfl (V.conv Try.underlying3 Try.underlying5 rfl) ?_
      refine J.op rfl (A.lit (K0 := Hp.nil) (ty := (.int .u8)) (xs := ([IntKind.wrap .u8 xa] : List Int)) Try.underlying80 inf5 rfl (by decide) rfl rfl rfl ⟨_, _, rfl, rfl, rfl⟩ rfl (by decide)) ?_
      rintro _ _ _ ⟨b125, rfl, rfl, rfl⟩
      have hn126 : ([IntKind.wrap .u8 xa] : List Int) ≠ [] → ∃ g, (some ⟨b125, 0, none⟩ : Option Addr) = some ⟨g, 0, none⟩ := fun _ => ⟨b125, rfl⟩
      refine J.val (v := .string ⟨(toU8 ([IntKind.wrap .u8 xa] : List Int)).toArray⟩) rfl rfl (V.b2sR 0 rfl Try.underlying80 Try.underlying5 Try.underlying9 rfl) ?_
      refine J.val (v := .string ⟨(toU8 ([IntKind.wrap .u8 xa] : List Int)).toArray⟩) rfl rfl (V.as rfl) ?_
      refine J.nil ?_
      refine CJ.ret ?_
      have e := Option.some.inj h
      subst e
      exact ⟨_, [], Res.one rfl rfl, ⟨toU8 ([IntKind.wrap .u8 xa] : List Int), rfl, rfl, rfl⟩, (Hp.le_refl _), fun w hs => (Sep.dropAt 0 rfl hs)⟩
    · have h := cf hc124 h
      refine CJ.skip ?_
      refine CJ.seq ?_
      obtain ⟨o183, ho184, h⟩ := ob h
      refine CJ.meetN (fun ρ K' L' => ∃ (s182 : List UInt8), s182 = o183 ∧ Fits [(2, .string ⟨s182.toArray⟩)] ρ ∧ K = K' ∧ F = L') ?_ ?_
      · skip
        refine CJ.tree [] (.still [0, 1, 3, 4, 5] (.alt 2 (.alt 6 (.alt 7 (.leaf [8, 9]) .done) .done) (.alt 6 (.alt 2 (.alt 7 (.leaf [8, 9]) .done) (.alt 7 (.alt 2 (.leaf [8, 9]) .done) .done)) .done))) [] mixO (by decide +kernel) trivial rfl ?_
        refine JT.still rfl ?_
        refine JQ.val (v := .int .i64 xa) rfl rfl (V.mv rfl) ?_
        refine JQ.val (v := .int .i64 (IntKind.wrap .i64 (Int.tdiv xa 256))) rfl rfl (V.quo rfl rfl (by decide)) ?_
        refine JQ.val (v := .int .i64 xa) rfl rfl (V.mv rfl) ?_
        refine JQ.val (v := .int .i64 (Int.tmod xa 256)) rfl rfl (V.rem rfl rfl (by decide)) ?_
        refine JQ.val (v := .int .u8 (IntKind.wrap .u8 (Int.tmod xa 256))) rfl rfl (V.conv Try.underlying3 Try.underlying5 rfl) ?_
        refine JQ.nil ?_
        obtain ⟨r213, hr214, ho184⟩ := ob ho184
        refine JT.alt rfl ?_ ?_
        · skip
          refine JB.op rfl (A.call (L1 := []) Try.call48 rfl (ih hr214) rfl rfl) ?_
          rintro _ _ _ ⟨v216, _, rfl, ⟨⟨s212, rfl, rfl, rfl⟩, rfl⟩, _, rfl⟩
          refine ⟨fun w hs => Hold.sub (Hp.le_refl _) trivial hs, ?_⟩
          refine JT.alt rfl ?_ JT.done
          refine JB.op rfl (A.lit (K0 := Hp.nil) (ty := (.int .u8)) (xs := ([IntKind.wrap .u8 (Int.tmod xa 256)] : List Int)) Try.underlying80 inf5 rfl (by decide) rfl rfl rfl ⟨_, _, rfl, rfl, rfl⟩ rfl (by decide)) ?_
          rintro _ _ _ ⟨b219, rfl, rfl, rfl⟩
          have hn220 : ([IntKind.wrap .u8 (Int.tmod xa 256)] : List Int) ≠ [] → ∃ g, (some ⟨b219, 0, none⟩ : Option Addr) = some ⟨g, 0, none⟩ := fun _ => ⟨b219, rfl⟩
          refine ⟨fun w hs => Hold.sub (Hp.le_refl _) trivial hs, ?_⟩
          refine JT.alt rfl ?_ JT.done
          refine JB.op rfl (A.val (v := .string ⟨(toU8 (([IntKind.wrap .u8 (Int.tmod xa 256)] : List Int))).toArray⟩) rfl (V.b2sR 0 rfl Try.underlying80 Try.underlying5 Try.underlying9 rfl)) ?_
          rintro _ _ _ ⟨rfl, rfl, rfl⟩
          refine ⟨fun w hs => Hold.sub (Hp.le_refl _) trivial hs, ?_⟩
          refine JT.leaf rfl ?_
          obtain ⟨z222, hz223, ho184⟩ := ob ho184
          refine JQ.val (v := .string ⟨z222.toArray⟩) rfl rfl (V.cat rfl rfl hz223) ?_
          refine JQ.val (v := .string ⟨z222.toArray⟩) rfl rfl (V.as rfl) ?_
          refine JQ.nil ?_
          refine J.dropAt 0 rfl ?_
          refine J.nil ?_
          have e := Option.some.inj ho184
          subst e
          exact ⟨rfl, ⟨z222, rfl, ⟨rfl, trivial⟩, rfl, rfl⟩⟩
        · skip
          refine JT.alt rfl ?_ JT.done
          refine JB.op rfl (A.lit (K0 := Hp.nil) (ty := (.int .u8)) (xs := ([IntKind.wrap .u8 (Int.tmod xa 256)] : List Int)) Try.underlying80 inf5 rfl (by decide) rfl rfl rfl ⟨_, _, rfl, rfl, rfl⟩ rfl (by decide)) ?_
          rintro _ _ _ ⟨b224, rfl, rfl, rfl⟩
          have hn225 : ([IntKind.wrap .u8 (Int.tmod xa 256)] : List Int) ≠ [] → ∃ g, (some ⟨b224, 0, none⟩ : Option Addr) = some ⟨g, 0, none⟩ := fun _ => ⟨b224, rfl⟩
          refine ⟨fun w hs => Hold.sub (Hp.le_refl _) trivial hs, ?_⟩
          refine JT.alt rfl ?_ ?_
          · skip
            refine JB.op rfl (A.call (L1 := []) Try.call48 rfl (ih hr214) rfl rfl) ?_
            rintro _ _ _ ⟨v228, _, rfl, ⟨⟨s212, rfl, rfl, rfl⟩, rfl⟩, _, rfl⟩
            refine ⟨fun w hs => Hold.sub (Hp.le_refl _) trivial hs, ?_⟩
            refine JT.alt rfl ?_ JT.done
            refine JB.op rfl (A.val (v := .string ⟨(toU8 (([IntKind.wrap .u8 (Int.tmod xa 256)] : List Int))).toArray⟩) rfl (V.b2sR 0 rfl Try.underlying80 Try.underlying5 Try.underlying9 rfl)) ?_
            rintro _ _ _ ⟨rfl, rfl, rfl⟩
            refine ⟨fun w hs => Hold.sub (Hp.le_refl _) trivial hs, ?_⟩
            refine JT.leaf rfl ?_
            obtain ⟨z231, hz232, ho184⟩ := ob ho184
            refine JQ.val (v := .string ⟨z231.toArray⟩) rfl rfl (V.cat rfl rfl hz232) ?_
            refine JQ.val (v := .string ⟨z231.toArray⟩) rfl rfl (V.as rfl) ?_
            refine JQ.nil ?_
            refine J.dropAt 0 rfl ?_
            refine J.nil ?_
            have e := Option.some.inj ho184
            subst e
            exact ⟨rfl, ⟨z231, rfl, ⟨rfl, trivial⟩, rfl, rfl⟩⟩
          · skip
            refine JT.alt rfl ?_ JT.done
            refine JB.op rfl (A.val (v := .string ⟨(toU8 (([IntKind.wrap .u8 (Int.tmod xa 256)] : List Int))).toArray⟩) rfl (V.b2sR 0 rfl Try.underlying80 Try.underlying5 Try.underlying9 rfl)) ?_
            rintro _ _ _ ⟨rfl, rfl, rfl⟩
            refine ⟨fun w hs => Hold.sub (Hp.le_refl _) trivial hs, ?_⟩
            refine JT.alt rfl ?_ JT.done
            refine JB.op rfl (A.call (L1 := []) Try.call48 rfl (ih hr214) rfl rfl) ?_
            rintro _ _ _ ⟨v234, _, rfl, ⟨⟨s212, rfl, rfl, rfl⟩, rfl⟩, _, rfl⟩
            refine ⟨fun w hs => Hold.sub (Hp.le_refl _) trivial hs, ?_⟩
            refine JT.leaf rfl ?_
            obtain ⟨z237, hz238, ho184⟩ := ob ho184
            refine JQ.val (v := .string ⟨z237.toArray⟩) rfl rfl (V.cat rfl rfl hz238) ?_
            refine JQ.val (v := .string ⟨z237.toArray⟩) rfl rfl (V.as rfl) ?_
            refine JQ.nil ?_
            refine J.dropAt 0 rfl ?_
            refine J.nil ?_
            have e := Option.some.inj ho184
            subst e
            exact ⟨rfl, ⟨z237, rfl, ⟨rfl, trivial⟩, rfl, rfl⟩⟩
      · rintro ρ _ _ ⟨s182, rfl, hf239, rfl, rfl⟩
        obtain ⟨ρ, rfl⟩ := hf239.ex
        refine PJ.done ?_
        refine CJ.ret ?_
        have e := Option.some.inj h
        subst e
        exact ⟨_, [], Res.one rfl rfl, ⟨s182, rfl, rfl, rfl⟩, (Hp.le_refl _), fun w hs => hs⟩
set_option maxRecDepth 100000 in
set_option maxHeartbeats 4000000 in
theorem ref02_digits_ok {K : Hp} {xa : Int}   {r : List UInt8} (h : fn_ref02_digits xa = some r) :
    Tr Try.prog 48 #[.int .i64 xa] K [] (fun v K' L' => (∃ (s123 : List UInt8), s123 = r ∧ .string ⟨s123.toArray⟩ = v ∧ L' = []) ∧ K = K') := by
  obtain ⟨n, hn⟩ := lev_some h
  exact ref02_digits_okr n  hn

noncomputable def fn_ref02_Put (xa : Int) : Option (List UInt8) :=
  cond ((decide (xa < 0)) || (decide (4294967295 < xa))) (some (([] : List UInt8))) (cond (decide (xa < 248)) (some (toU8 ([IntKind.wrap .u8 xa] : List Int))) ((fn_ref02_digits xa).bind fun s31 => (app (toU8 (([IntKind.wrap .u8 (IntKind.wrap .i64 (247 + (((s31.length : Nat) : Int))))] : List Int))) s31).bind fun z38 => some (z38)))
set_option maxRecDepth 100000 in
set_option maxHeartbeats 4000000 in
theorem ref02_Put_ok {K : Hp} {xa : Int}   {r : List UInt8} (h : fn_ref02_Put xa = some r) :
    Tr Try.prog 35 #[.int .i64 xa] K [] (fun v K' L' => (∃ (s20 : List UInt8), s20 = r ∧ .string ⟨s20.toArray⟩ = v ∧ L' = []) ∧ K = K') := by
  refine Tr.k ?_
  refine Tr.of Try.func35 rfl Try.ntmps35 rfl (fun E F => ?_)
  unfold fn_ref02_Put at h
  refine CJ.seq ?_
  refine CJ.region ?_
  refine J.val (v := .string ⟨([] : List UInt8).toArray⟩) rfl rfl (V.as rfl) ?_
  refine J.nil ?_
  refine CJ.seq ?_
  refine CJ.seq ?_
  refine CJ.region ?_
  refine J.val (v := .int .i64 xa) rfl rfl (V.mv rfl) ?_
  refine J.val (v := .bool (decide (xa < 0))) rfl rfl (V.lss rfl rfl) ?_
  refine J.val (v := .bool (decide (xa < 0))) rfl rfl (V.mv rfl) ?_
  refine J.cut 3 ?_
  refine @J.meet _ _ _ _ _ _ _ _ _ _ (fun ρ K' L' => Fits [(9, .bool ((decide (xa < 0)) || (decide (4294967295 < xa)))), (0, .int .i64 xa)] ρ ∧ K = K' ∧ F = L') ?_ ?_
  · skip
    rcases bt (decide (xa < 0)) with hc23 | hc23
    · skip
      refine J.skip rfl rfl rfl rfl hc23 ?_
      refine J.skip rfl rfl rfl rfl hc23 ?_
      refine J.val (v := .bool true) rfl rfl (V.pickT rfl hc23 rfl) ?_
      refine J.nil ?_
      exact ⟨rfl, ⟨(by simp only [hc23]; rfl), rfl, trivial⟩, rfl, rfl⟩
    · skip
      refine J.run rfl rfl rfl hc23 ?_
      refine J.val (v := .int .i64 xa) rfl rfl (V.mv rfl) ?_
      refine J.run rfl rfl rfl hc23 ?_
      refine J.val (v := .bool (decide (4294967295 < xa))) rfl rfl (V.gtr rfl rfl) ?_
      refine J.val (v := .bool (decide (4294967295 < xa))) rfl rfl (V.pickF rfl hc23 rfl) ?_
      refine J.nil ?_
      exact ⟨rfl, ⟨(by simp only [hc23]; rfl), rfl, trivial⟩, rfl, rfl⟩
  · rintro ρ _ _ ⟨hf, rfl, rfl⟩
    obtain ⟨ρ, rfl⟩ := hf.ex
    refine J.nil ?_
    refine CJ.cond rfl (fun hc24 => ?_) (fun hc24 => ?_)
    · have h := ct hc24 h
      refine CJ.seq ?_
      refine CJ.region ?_
      refine J.val (v := .string ⟨([] : List UInt8).toArray⟩) rfl rfl (V.as rfl) ?_
      refine J.nil ?_
      refine CJ.ret ?_
      have e := Option.some.inj h
      subst e
      exact ⟨_, [], Res.one rfl rfl, ⟨([] : List UInt8), rfl, rfl, rfl⟩, (Hp.le_refl _), fun w hs => hs⟩
    · have h := cf hc24 h
      refine CJ.skip ?_
      refine CJ.seq ?_
      refine CJ.seq ?_
      refine CJ.region ?_
      refine J.val (v := .int .i64 xa) rfl rfl (V.mv rfl) ?_
      refine J.val (v := .bool (decide (xa < 248))) rfl rfl (V.lss rfl rfl) ?_
      refine J.nil ?_
      refine CJ.cond rfl (fun hc25 => ?_) (fun hc25 => ?_)
      · have h := ct hc25 h
        refine CJ.seq ?_
        refine CJ.region ?_
        refine J.val (v := .int .i64 xa) rfl rfl (V.mv rfl) ?_
        refine J.val (v := .int .u8 (IntKind.wrap .u8 xa)) rfl rfl (V.conv Try.underlying3 Try.underlying5 rfl) ?_
        refine J.op rfl (A.lit (K0 := Hp.nil) (ty := (.int .u8)) (xs := ([IntKind.wrap .u8 xa] : List Int)) Try.underlying80 inf5 rfl (by decide) rfl rfl rfl ⟨_, _, rfl, rfl, rfl⟩ rfl (by decide)) ?_
        rintro _ _ _ ⟨b26, rfl, rfl, rfl⟩
        have hn27 : ([IntKind.wrap .u8 xa] : List Int) ≠ [] → ∃ g, (some ⟨b26, 0, none⟩ : Option Addr) = some ⟨g, 0, none⟩ := fun _ => ⟨b26, rfl⟩
        refine J.val (v := .string ⟨(toU8 ([IntKind.wrap .u8 xa] : List Int)).toArray⟩) rfl rfl (V.b2sR 0 rfl Try.underlying80 Try.underlying5 Try.underlying9 rfl) ?_
        refine J.val (v := .string ⟨(toU8 ([IntKind.wrap .u8 xa] : List Int)).toArray⟩) rfl rfl (V.as rfl) ?_
        refine J.nil ?_
        refine CJ.ret ?_
        have e := Option.some.inj h
        subst e
        exact ⟨_, [], Res.one rfl rfl, ⟨toU8 ([IntKind.wrap .u8 xa] : List Int), rfl, rfl, rfl⟩, (Hp.le_refl _), fun w hs => (Sep.dropAt 0 rfl hs)⟩
      · have h := cf hc25 h
        refine CJ.skip ?_
        refine CJ.seq ?_
        refine CJ.region ?_
        refine J.val (v := .int .i64 xa) rfl rfl (V.mv rfl) ?_
        obtain ⟨r29, hr30, h⟩ := ob h
        refine J.op rfl (A.call (L1 := []) Try.call48 rfl (ref02_digits_ok hr30) rfl rfl) ?_
        rintro _ _ _ ⟨v32, _, rfl, ⟨⟨s31, rfl, rfl, rfl⟩, rfl⟩, _, rfl⟩
        refine J.val (v := .string ⟨s31.toArray⟩) rfl rfl (V.as rfl) ?_
        refine J.nil ?_
        refine CJ.seq ?_
        refine CJ.region ?_
        refine J.val (v := .string ⟨s31.toArray⟩) rfl rfl (V.mv rfl) ?_
        refine J.val (v := .int .i64 (((s31.length : Nat) : Int))) rfl rfl (V.lens Try.underlying9 rfl) ?_
        refine J.val (v := .int .i64 (IntKind.wrap .i64 (247 + (((s31.length : Nat) : Int))))) rfl rfl (V.add rfl rfl) ?_
        refine J.val (v := .int .u8 (IntKind.wrap .u8 (IntKind.wrap .i64 (247 + (((s31.length : Nat) : Int)))))) rfl rfl (V.conv Try.underlying3 Try.underlying5 rfl) ?_
        refine J.op rfl (A.lit (K0 := Hp.nil) (ty := (.int .u8)) (xs := ([IntKind.wrap .u8 (IntKind.wrap .i64 (247 + (((s31.length : Nat) : Int))))] : List Int)) Try.underlying80 inf5 rfl (by decide) rfl rfl rfl ⟨_, _, rfl, rfl, rfl⟩ rfl (by decide)) ?_
        rintro _ _ _ ⟨b35, rfl, rfl, rfl⟩
        have hn36 : ([IntKind.wrap .u8 (IntKind.wrap .i64 (247 + (((s31.length : Nat) : Int))))] : List Int) ≠ [] → ∃ g, (some ⟨b35, 0, none⟩ : Option Addr) = some ⟨g, 0, none⟩ := fun _ => ⟨b35, rfl⟩
        refine J.val (v := .string ⟨(toU8 (([IntKind.wrap .u8 (IntKind.wrap .i64 (247 + (((s31.length : Nat) : Int))))] : List Int))).toArray⟩) rfl rfl (V.b2sR 0 rfl Try.underlying80 Try.underlying5 Try.underlying9 rfl) ?_
        refine J.val (v := .string ⟨s31.toArray⟩) rfl rfl (V.mv rfl) ?_
        obtain ⟨z38, hz39, h⟩ := ob h
        refine J.val (v := .string ⟨z38.toArray⟩) rfl rfl (V.cat rfl rfl hz39) ?_
        refine J.val (v := .string ⟨z38.toArray⟩) rfl rfl (V.as rfl) ?_
        refine J.nil ?_
        refine CJ.ret ?_
        have e := Option.some.inj h
        subst e
        exact ⟨_, [], Res.one rfl rfl, ⟨z38, rfl, rfl, rfl⟩, (Hp.le_refl _), fun w hs => (Sep.dropAt 0 rfl hs)⟩
noncomputable def fn_ref02_Take_l1 (xa : (List UInt8)) (x94 : UInt8) : (Int × Int) → Option ((Int × Int) ⊕ Int) := fun ((i141, i142) : (Int × Int)) => cond (decide (i142 ≤ (IntKind.wrap .i64 ((IntKind.wrap .i64 (((x94.toNat : Nat) : Int))) - 247)))) ((getI xa i142).bind fun x156 => some (.inl ((IntKind.wrap .i64 ((IntKind.wrap .i64 (i141 * 256)) + (IntKind.wrap .i64 (((x156.toNat : Nat) : Int)))), IntKind.wrap .i64 (i142 + 1))))) (some (.inr (i141)))
noncomputable def fn_ref02_Take (xa : (List UInt8)) : Option (Int × Int × Int) :=
  cond (decide (xa = ([] : List UInt8))) (some ((0, 0, 4))) ((getI xa 0).bind fun x94 => cond (decide ((IntKind.wrap .i64 (((x94.toNat : Nat) : Int))) < 248)) (some ((IntKind.wrap .i64 (((x94.toNat : Nat) : Int)), 1, 0))) (cond (decide (251 < (IntKind.wrap .i64 (((x94.toNat : Nat) : Int))))) (some ((0, 0, 3))) (cond (decide ((((xa.length : Nat) : Int)) < (IntKind.wrap .i64 (1 + (IntKind.wrap .i64 ((IntKind.wrap .i64 (((x94.toNat : Nat) : Int))) - 247)))))) (some ((0, 0, 4))) ((loop (fn_ref02_Take_l1 xa x94) (0, 1) : Option Int).bind fun i130 => (subL xa 0 (IntKind.wrap .i64 (1 + (IntKind.wrap .i64 ((IntKind.wrap .i64 (((x94.toNat : Nat) : Int))) - 247))))).bind fun y171 => (fn_ref02_Put i130).bind fun s175 => cond (!decide (s175 = y171)) (some ((0, 0, 3))) (some ((i130, IntKind.wrap .i64 (1 + (IntKind.wrap .i64 ((IntKind.wrap .i64 (((x94.toNat : Nat) : Int))) - 247))), 0)))))))
set_option maxRecDepth 100000 in
set_option maxHeartbeats 4000000 in
theorem ref02_Take_ok {K : Hp} {xa : (List UInt8)}   {r : (Int × Int × Int)} (h : fn_ref02_Take xa = some r) :
    Tr Try.prog 33 #[.string ⟨xa.toArray⟩] K [] (fun v K' L' => (∃ (i90 : Int) (i91 : Int) (i92 : Int), (i90, i91, i92) = r ∧ .tuple #[.int .i64 i90, .int .i64 i91, .int .i64 i92] = v ∧ L' = []) ∧ K = K') := by
  refine Tr.k ?_
  refine Tr.of Try.func33 rfl Try.ntmps33 rfl (fun E F => ?_)
  unfold fn_ref02_Take at h
  refine CJ.seq ?_
  refine CJ.region ?_
  refine J.val (v := .int .i64 0) rfl rfl (V.as rfl) ?_
  refine J.val (v := .int .i64 0) rfl rfl (V.as rfl) ?_
  refine J.val (v := .int .i64 0) rfl rfl (V.as rfl) ?_
  refine J.nil ?_
  refine CJ.seq ?_
  refine CJ.seq ?_
  refine CJ.region ?_
  refine J.val (v := .string ⟨xa.toArray⟩) rfl rfl (V.mv rfl) ?_
  refine J.val (v := .bool (decide (xa = ([] : List UInt8)))) rfl rfl (V.eqs rfl rfl) ?_
  refine J.nil ?_
  refine CJ.cond rfl (fun hc93 => ?_) (fun hc93 => ?_)
  · have h := ct hc93 h
    refine CJ.seq ?_
    refine CJ.region ?_
    refine J.val (v := .int .i64 0) rfl rfl (V.as rfl) ?_
    refine J.val (v := .int .i64 0) rfl rfl (V.as rfl) ?_
    refine J.val (v := .int .i64 4) rfl rfl (V.as rfl) ?_
    refine J.nil ?_
    refine CJ.ret ?_
    have e := Option.some.inj h
    subst e
    exact ⟨_, [], Res.three rfl rfl rfl rfl, ⟨0, 0, 4, rfl, rfl, rfl⟩, (Hp.le_refl _), fun w hs => hs⟩
  · have h := cf hc93 h
    refine CJ.skip ?_
    refine CJ.seq ?_
    refine CJ.region ?_
    refine J.val (v := .string ⟨xa.toArray⟩) rfl rfl (V.mv rfl) ?_
    obtain ⟨x94, hx95, h⟩ := ob h
    obtain ⟨p96, p97, p98⟩ := getI_some hx95
    refine J.val (v := .int .u8 (((x94.toNat : Nat) : Int))) rfl rfl (V.ixs Try.underlying9 rfl rfl p96 p97) ?_
    refine J.val (v := .int .i64 (IntKind.wrap .i64 (((x94.toNat : Nat) : Int)))) rfl rfl (V.conv Try.underlying5 Try.underlying3 rfl) ?_
    refine J.val (v := .int .i64 (IntKind.wrap .i64 (((x94.toNat : Nat) : Int)))) rfl rfl (V.as rfl) ?_
    refine J.nil ?_
    refine CJ.seq ?_
    refine CJ.seq ?_
    refine CJ.region ?_
    refine J.val (v := .int .i64 (IntKind.wrap .i64 (((x94.toNat : Nat) : Int)))) rfl rfl (V.mv rfl) ?_
    refine J.val (v := .bool (decide ((IntKind.wrap .i64 (((x94.toNat : Nat) : Int))) < 248))) rfl rfl (V.lss rfl rfl) ?_
    refine J.nil ?_
    refine CJ.cond rfl (fun hc99 => ?_) (fun hc99 => ?_)
    · have h := ct hc99 h
      refine CJ.seq ?_
      refine CJ.region ?_
      refine J.val (v := .int .i64 (IntKind.wrap .i64 (((x94.toNat : Nat) : Int)))) rfl rfl (V.mv rfl) ?_
      refine J.val (v := .int .i64 (IntKind.wrap .i64 (((x94.toNat : Nat) : Int)))) rfl rfl (V.as rfl) ?_
      refine J.val (v := .int .i64 1) rfl rfl (V.as rfl) ?_
      refine J.val (v := .int .i64 0) rfl rfl (V.as rfl) ?_
      refine J.nil ?_
      refine CJ.ret ?_
      have e := Option.some.inj h
      subst e
      exact ⟨_, [], Res.three rfl rfl rfl rfl, ⟨IntKind.wrap .i64 (((x94.toNat : Nat) : Int)), 1, 0, rfl, rfl, rfl⟩, (Hp.le_refl _), fun w hs => hs⟩
    · have h := cf hc99 h
      refine CJ.skip ?_
      refine CJ.seq ?_
      refine CJ.seq ?_
      refine CJ.region ?_
      refine J.val (v := .int .i64 (IntKind.wrap .i64 (((x94.toNat : Nat) : Int)))) rfl rfl (V.mv rfl) ?_
      refine J.val (v := .bool (decide (251 < (IntKind.wrap .i64 (((x94.toNat : Nat) : Int)))))) rfl rfl (V.gtr rfl rfl) ?_
      refine J.nil ?_
      refine CJ.cond rfl (fun hc100 => ?_) (fun hc100 => ?_)
      · have h := ct hc100 h
        refine CJ.seq ?_
        refine CJ.region ?_
        refine J.val (v := .int .i64 0) rfl rfl (V.as rfl) ?_
        refine J.val (v := .int .i64 0) rfl rfl (V.as rfl) ?_
        refine J.val (v := .int .i64 3) rfl rfl (V.as rfl) ?_
        refine J.nil ?_
        refine CJ.ret ?_
        have e := Option.some.inj h
        subst e
        exact ⟨_, [], Res.three rfl rfl rfl rfl, ⟨0, 0, 3, rfl, rfl, rfl⟩, (Hp.le_refl _), fun w hs => hs⟩
      · have h := cf hc100 h
        refine CJ.skip ?_
        refine CJ.seq ?_
        refine CJ.region ?_
        refine J.val (v := .int .i64 (IntKind.wrap .i64 (((x94.toNat : Nat) : Int)))) rfl rfl (V.mv rfl) ?_
        refine J.val (v := .int .i64 (IntKind.wrap .i64 ((IntKind.wrap .i64 (((x94.toNat : Nat) : Int))) - 247))) rfl rfl (V.sub rfl rfl) ?_
        refine J.val (v := .int .i64 (IntKind.wrap .i64 ((IntKind.wrap .i64 (((x94.toNat : Nat) : Int))) - 247))) rfl rfl (V.as rfl) ?_
        refine J.nil ?_
        refine CJ.seq ?_
        refine CJ.seq ?_
        refine CJ.region ?_
        refine J.val (v := .string ⟨xa.toArray⟩) rfl rfl (V.mv rfl) ?_
        refine J.val (v := .int .i64 (((xa.length : Nat) : Int))) rfl rfl (V.lens Try.underlying9 rfl) ?_
        refine J.val (v := .int .i64 (IntKind.wrap .i64 ((IntKind.wrap .i64 (((x94.toNat : Nat) : Int))) - 247))) rfl rfl (V.mv rfl) ?_
        refine J.val (v := .int .i64 (IntKind.wrap .i64 (1 + (IntKind.wrap .i64 ((IntKind.wrap .i64 (((x94.toNat : Nat) : Int))) - 247))))) rfl rfl (V.add rfl rfl) ?_
        refine J.val (v := .bool (decide ((((xa.length : Nat) : Int)) < (IntKind.wrap .i64 (1 + (IntKind.wrap .i64 ((IntKind.wrap .i64 (((x94.toNat : Nat) : Int))) - 247))))))) rfl rfl (V.lss rfl rfl) ?_
        refine J.nil ?_
        refine CJ.cond rfl (fun hc101 => ?_) (fun hc101 => ?_)
        · have h := ct hc101 h
          refine CJ.seq ?_
          refine CJ.region ?_
          refine J.val (v := .int .i64 0) rfl rfl (V.as rfl) ?_
          refine J.val (v := .int .i64 0) rfl rfl (V.as rfl) ?_
          refine J.val (v := .int .i64 4) rfl rfl (V.as rfl) ?_
          refine J.nil ?_
          refine CJ.ret ?_
          have e := Option.some.inj h
          subst e
          exact ⟨_, [], Res.three rfl rfl rfl rfl, ⟨0, 0, 4, rfl, rfl, rfl⟩, (Hp.le_refl _), fun w hs => hs⟩
        · have h := cf hc101 h
          refine CJ.skip ?_
          refine CJ.seq ?_
          refine CJ.region ?_
          refine J.val (v := .int .i64 0) rfl rfl (V.as rfl) ?_
          refine J.nil ?_
          refine CJ.seq ?_
          refine CJ.seq ?_
          refine CJ.region ?_
          refine J.val (v := .int .i64 1) rfl rfl (V.as rfl) ?_
          refine J.nil ?_
          obtain ⟨o131, ho132, h⟩ := ob h
          refine CJ.meetN (fun ρ K' L' => ∃ (i130 : Int), i130 = o131 ∧ Fits [(0, .string ⟨xa.toArray⟩), (6, .int .i64 (IntKind.wrap .i64 ((IntKind.wrap .i64 (((x94.toNat : Nat) : Int))) - 247))), (7, .int .i64 i130)] ρ ∧ K = K' ∧ F = L') ?_ ?_
          · skip
            refine CJ.block ?_
            refine CJ.loop (fun s ρ K' L' => ∃ (i141 : Int) (i142 : Int), (i141, i142) = s ∧ Fits [(0, .string ⟨xa.toArray⟩), (6, .int .i64 (IntKind.wrap .i64 ((IntKind.wrap .i64 (((x94.toNat : Nat) : Int))) - 247))), (7, .int .i64 i141), (8, .int .i64 i142)] ρ ∧ K = K' ∧ F = L') ho132 ⟨0, 1, rfl, ⟨rfl, rfl, rfl, rfl, trivial⟩, rfl, rfl⟩ ?_
            rintro s ρ _ _ r154 ⟨i141, i142, rfl, hf152, rfl, rfl⟩ h151
            obtain ⟨ρ, rfl⟩ := hf152.ex
            refine CJ.seq ?_
            refine CJ.seq ?_
            refine CJ.region ?_
            refine J.val (v := .int .i64 i142) rfl rfl (V.mv rfl) ?_
            refine J.val (v := .int .i64 (IntKind.wrap .i64 ((IntKind.wrap .i64 (((x94.toNat : Nat) : Int))) - 247))) rfl rfl (V.mv rfl) ?_
            refine J.val (v := .bool (decide (i142 ≤ (IntKind.wrap .i64 ((IntKind.wrap .i64 (((x94.toNat : Nat) : Int))) - 247))))) rfl rfl (V.leq rfl rfl) ?_
            refine J.nil ?_
            refine CJ.cond rfl (fun hc155 => ?_) (fun hc155 => ?_)
            · have h151 := ct hc155 h151
              refine CJ.skip ?_
              refine CJ.seq ?_
              refine CJ.block ?_
              refine CJ.region ?_
              refine J.val (v := .int .i64 i141) rfl rfl (V.mv rfl) ?_
              refine J.val (v := .int .i64 (IntKind.wrap .i64 (i141 * 256))) rfl rfl (V.mul rfl rfl) ?_
              refine J.val (v := .string ⟨xa.toArray⟩) rfl rfl (V.mv rfl) ?_
              refine J.val (v := .int .i64 i142) rfl rfl (V.mv rfl) ?_
              obtain ⟨x156, hx157, h151⟩ := ob h151
              obtain ⟨p158, p159, p160⟩ := getI_some hx157
              refine J.val (v := .int .u8 (((x156.toNat : Nat) : Int))) rfl rfl (V.ixs Try.underlying9 rfl rfl p158 p159) ?_
              refine J.val (v := .int .i64 (IntKind.wrap .i64 (((x156.toNat : Nat) : Int)))) rfl rfl (V.conv Try.underlying5 Try.underlying3 rfl) ?_
              refine J.val (v := .int .i64 (IntKind.wrap .i64 ((IntKind.wrap .i64 (i141 * 256)) + (IntKind.wrap .i64 (((x156.toNat : Nat) : Int)))))) rfl rfl (V.add rfl rfl) ?_
              refine J.val (v := .int .i64 (IntKind.wrap .i64 ((IntKind.wrap .i64 (i141 * 256)) + (IntKind.wrap .i64 (((x156.toNat : Nat) : Int)))))) rfl rfl (V.as rfl) ?_
              refine J.nil ?_
              refine CJ.region ?_
              refine J.val (v := .int .i64 i142) rfl rfl (V.mv rfl) ?_
              refine J.val (v := .int .i64 (IntKind.wrap .i64 (i142 + 1))) rfl rfl (V.add rfl rfl) ?_
              refine J.val (v := .int .i64 (IntKind.wrap .i64 (i142 + 1))) rfl rfl (V.as rfl) ?_
              refine J.nil ?_
              have e := Option.some.inj h151
              subst e
              exact ⟨rfl, ⟨IntKind.wrap .i64 ((IntKind.wrap .i64 (i141 * 256)) + (IntKind.wrap .i64 (((x156.toNat : Nat) : Int)))), IntKind.wrap .i64 (i142 + 1), rfl, ⟨rfl, rfl, rfl, rfl, trivial⟩, rfl, rfl⟩⟩
            · have h151 := cf hc155 h151
              refine CJ.exit ?_
              have e := Option.some.inj h151
              subst e
              refine ⟨nofun, fun e => ?_⟩
              subst e
              exact ⟨rfl, ⟨i141, rfl, ⟨rfl, rfl, rfl, trivial⟩, rfl, rfl⟩⟩
          · rintro ρ _ _ ⟨i130, rfl, hf161, rfl, rfl⟩
            obtain ⟨ρ, rfl⟩ := hf161.ex
            refine PJ.done ?_
            refine CJ.seq ?_
            refine CJ.seq ?_
            refine CJ.mix [] [([0, 2, 3, 4, 5], 1)] [6] [] mixO (by decide +kernel) trivial rfl rfl rfl ?_
            refine JM.cons ?_
            refine JQ.val (v := .int .i64 i130) rfl rfl (V.mv rfl) ?_
            refine JQ.val (v := .string ⟨xa.toArray⟩) rfl rfl (V.mv rfl) ?_
            refine JQ.val (v := .int .i64 (IntKind.wrap .i64 ((IntKind.wrap .i64 (((x94.toNat : Nat) : Int))) - 247))) rfl rfl (V.mv rfl) ?_
            refine JQ.val (v := .int .i64 (IntKind.wrap .i64 (1 + (IntKind.wrap .i64 ((IntKind.wrap .i64 (((x94.toNat : Nat) : Int))) - 247))))) rfl rfl (V.add rfl rfl) ?_
            obtain ⟨y171, hy172, h⟩ := ob h
            refine JQ.val (v := .string ⟨y171.toArray⟩) rfl rfl (V.subs Try.underlying9 rfl nofun (fun _ => rfl) (fun _ h => by cases h; exact ⟨_, rfl⟩) nofun hy172) ?_
            refine JQ.nil ?_
            obtain ⟨r173, hr174, h⟩ := ob h
            refine JA.op rfl (A.call (L1 := []) Try.call35 rfl (ref02_Put_ok hr174) rfl rfl) ?_
            rintro _ _ _ ⟨v176, _, rfl, ⟨⟨s175, rfl, rfl, rfl⟩, rfl⟩, _, rfl⟩
            refine ⟨fun w hs => Hold.sub (Hp.le_refl _) trivial hs, ?_⟩
            refine JM.nil ?_
            refine JQ.val (v := .bool (!decide (s175 = y171))) rfl rfl (V.nes rfl rfl) ?_
            refine JQ.nil ?_
            refine J.nil ?_
            refine CJ.cond rfl (fun hc179 => ?_) (fun hc179 => ?_)
            · have h := ct hc179 h
              refine CJ.seq ?_
              refine CJ.region ?_
              refine J.val (v := .int .i64 0) rfl rfl (V.as rfl) ?_
              refine J.val (v := .int .i64 0) rfl rfl (V.as rfl) ?_
              refine J.val (v := .int .i64 3) rfl rfl (V.as rfl) ?_
              refine J.nil ?_
              refine CJ.ret ?_
              have e := Option.some.inj h
              subst e
              exact ⟨_, [], Res.three rfl rfl rfl rfl, ⟨0, 0, 3, rfl, rfl, rfl⟩, (Hp.le_refl _), fun w hs => hs⟩
            · have h := cf hc179 h
              refine CJ.skip ?_
              refine CJ.seq ?_
              refine CJ.region ?_
              refine J.val (v := .int .i64 i130) rfl rfl (V.mv rfl) ?_
              refine J.val (v := .int .i64 (IntKind.wrap .i64 ((IntKind.wrap .i64 (((x94.toNat : Nat) : Int))) - 247))) rfl rfl (V.mv rfl) ?_
              refine J.val (v := .int .i64 (IntKind.wrap .i64 (1 + (IntKind.wrap .i64 ((IntKind.wrap .i64 (((x94.toNat : Nat) : Int))) - 247))))) rfl rfl (V.add rfl rfl) ?_
              refine J.val (v := .int .i64 i130) rfl rfl (V.as rfl) ?_
              refine J.val (v := .int .i64 (IntKind.wrap .i64 (1 + (IntKind.wrap .i64 ((IntKind.wrap .i64 (((x94.toNat : Nat) : Int))) - 247))))) rfl rfl (V.as rfl) ?_
              refine J.val (v := .int .i64 0) rfl rfl (V.as rfl) ?_
              refine J.nil ?_
              refine CJ.ret ?_
              have e := Option.some.inj h
              subst e
              exact ⟨_, [], Res.three rfl rfl rfl rfl, ⟨i130, IntKind.wrap .i64 (1 + (IntKind.wrap .i64 ((IntKind.wrap .i64 (((x94.toNat : Nat) : Int))) - 247))), 0, rfl, rfl, rfl⟩, (Hp.le_refl _), fun w hs => hs⟩

noncomputable def fn_ref18_Take (xa : (List UInt8)) : Option (Int × Int × Int × Int × Bool × Int × Int) :=
  (fn_ref02_Take xa).bind fun (i162, i163, i164) => cond (!decide (i164 = 0)) (some ((0, 0, 0, 0, false, 0, i164))) (cond (decide (5 < i162)) (some ((0, 0, 0, 0, false, 0, 3))) (((fn_ref18_Dst i162).bind fun t195 => cond (t195) ((subL xa i163 (((xa.length : Nat) : Int))).bind fun y200 => (fn_ref02_Take y200).bind fun (i204, i205, i206) => cond (!decide (i206 = 0)) (some (.inr ((0, 0, 0, 0, false, 0, i206)))) (some (.inl ((IntKind.wrap .i64 (i163 + i205), i204))))) (some (.inl (i163, 0))) : Option ((Int × Int) ⊕ (Int × Int × Int × Int × Bool × Int × Int))).bind fun o => match o with | .inr r => some r | .inl (i189, i190) => ((fn_ref18_Src i162).bind fun t238 => cond (t238) ((subL xa i189 (((xa.length : Nat) : Int))).bind fun y243 => (fn_ref02_Take y243).bind fun (i247, i248, i249) => cond (!decide (i249 = 0)) (some (.inr ((0, 0, 0, 0, false, 0, i249)))) (some (.inl ((IntKind.wrap .i64 (i189 + i248), i247))))) (some (.inl (i189, 0))) : Option ((Int × Int) ⊕ (Int × Int × Int × Int × Bool × Int × Int))).bind fun o => match o with | .inr r => some r | .inl (i232, i233) => ((fn_ref18_Region i162).bind fun t282 => cond (t282) ((subL xa i232 (((xa.length : Nat) : Int))).bind fun y287 => (fn_ref02_Take y287).bind fun (i291, i292, i293) => cond (!decide (i293 = 0)) (some (.inr ((0, 0, 0, 0, false, 0, i293)))) (some (.inl ((IntKind.wrap .i64 (i232 + i292), IntKind.wrap .i64 (Int.tdiv i291 2), decide ((Int.tmod i291 2) = 1)))))) (some (.inl (i232, 0, false))) : Option ((Int × Int × Bool) ⊕ (Int × Int × Int × Int × Bool × Int × Int))).bind fun o => match o with | .inr r => some r | .inl (i275, i276, t277) => some ((i162, i190, i233, i276, t277, i275, 0))))
set_option maxRecDepth 100000 in
set_option maxHeartbeats 4000000 in
theorem ref18_Take_ok {K : Hp} {xa : (List UInt8)}   {r : (Int × Int × Int × Int × Bool × Int × Int)} (h : fn_ref18_Take xa = some r) :
    Tr Try.prog 14 #[.string ⟨xa.toArray⟩] K [] (fun v K' L' => (∃ (i152 : Int) (i153 : Int) (i154 : Int) (i155 : Int) (t156 : Bool) (i157 : Int) (i158 : Int), (i152, i153, i154, i155, t156, i157, i158) = r ∧ .tuple #[.agg #[.int .i64 i152, .int .i64 i153, .int .i64 i154, .int .i64 i155, .bool t156], .int .i64 i157, .int .i64 i158] = v ∧ L' = []) ∧ K = K') := by
  refine Tr.k ?_
  refine Tr.of Try.func14 rfl Try.ntmps14 rfl (fun E F => ?_)
  unfold fn_ref18_Take at h
  refine CJ.seq ?_
  refine CJ.region ?_
  refine J.op rfl (A.alloc (cs := [.int .i64 0, .int .i64 0, .int .i64 0, .int .i64 0, .bool false]) inf23 rfl) ?_
  rintro _ _ _ ⟨b159, rfl, rfl, rfl⟩
  refine J.val (v := .int .i64 0) rfl rfl (V.as rfl) ?_
  refine J.val (v := .int .i64 0) rfl rfl (V.as rfl) ?_
  refine J.nil ?_
  refine CJ.seq ?_
  refine CJ.region ?_
  refine J.val (v := .string ⟨xa.toArray⟩) rfl rfl (V.mv rfl) ?_
  obtain ⟨r160, hr161, h⟩ := ob h
  refine J.op rfl (A.call (L1 := []) Try.call33 rfl (ref02_Take_ok hr161) rfl rfl) ?_
  rintro _ _ _ ⟨v165, _, rfl, ⟨⟨i162, i163, i164, rfl, rfl, rfl⟩, rfl⟩, _, rfl⟩
  refine J.val (v := .tuple #[.int .i64 i162, .int .i64 i163, .int .i64 i164]) rfl rfl (V.mv rfl) ?_
  refine J.val (v := .int .i64 i162) rfl rfl (V.ext rfl rfl) ?_
  refine J.val (v := .int .i64 i163) rfl rfl (V.ext rfl rfl) ?_
  refine J.val (v := .int .i64 i164) rfl rfl (V.ext rfl rfl) ?_
  refine J.val (v := .int .i64 i162) rfl rfl (V.as rfl) ?_
  refine J.val (v := .int .i64 i163) rfl rfl (V.as rfl) ?_
  refine J.val (v := .int .i64 i164) rfl rfl (V.as rfl) ?_
  refine J.nil ?_
  refine CJ.seq ?_
  refine CJ.seq ?_
  refine CJ.region ?_
  refine J.val (v := .int .i64 i164) rfl rfl (V.mv rfl) ?_
  refine J.val (v := .bool (!decide (i164 = 0))) rfl rfl (V.neq rfl rfl) ?_
  refine J.nil ?_
  refine CJ.cond rfl (fun hc168 => ?_) (fun hc168 => ?_)
  · have h := ct hc168 h
    refine CJ.seq ?_
    refine CJ.region ?_
    refine J.val (v := .agg #[.int .i64 0, .int .i64 0, .int .i64 0, .int .i64 0, .bool false]) rfl rfl (V.build inf23 places23 rfl rfl) ?_
    refine J.val (v := .int .i64 i164) rfl rfl (V.mv rfl) ?_
    refine J.op rfl (A.store (v := .agg #[.int .i64 0, .int .i64 0, .int .i64 0, .int .i64 0, .bool false]) (cs' := [.int .i64 0, .int .i64 0, .int .i64 0, .int .i64 0, .bool false]) sz23 rfl rfl rfl rfl rfl rfl) ?_
    rintro _ _ _ ⟨rfl, rfl, rfl⟩
    refine J.val (v := .int .i64 0) rfl rfl (V.as rfl) ?_
    refine J.val (v := .int .i64 i164) rfl rfl (V.as rfl) ?_
    refine J.nil ?_
    refine CJ.ret ?_
    have e := Option.some.inj h
    subst e
    exact ⟨_, [], Res.three rfl ⟨_, _, rfl, Ld.agg (cs := [.int .i64 0, .int .i64 0, .int .i64 0, .int .i64 0, .bool false]) Try.underlying23 sz23 rfl (Rd.cls 0 0 rfl rfl)⟩ rfl rfl, ⟨0, 0, 0, 0, false, 0, i164, rfl, rfl, rfl⟩, (Hp.le_refl _), fun w hs => (Sep.dropAt 0 rfl hs)⟩
  · have h := cf hc168 h
    refine CJ.skip ?_
    refine CJ.seq ?_
    refine CJ.seq ?_
    refine CJ.region ?_
    refine J.val (v := .int .i64 i162) rfl rfl (V.mv rfl) ?_
    refine J.val (v := .bool (decide (5 < i162))) rfl rfl (V.gtr rfl rfl) ?_
    refine J.nil ?_
    refine CJ.cond rfl (fun hc169 => ?_) (fun hc169 => ?_)
    · have h := ct hc169 h
      refine CJ.seq ?_
      refine CJ.region ?_
      refine J.val (v := .agg #[.int .i64 0, .int .i64 0, .int .i64 0, .int .i64 0, .bool false]) rfl rfl (V.build inf23 places23 rfl rfl) ?_
      refine J.op rfl (A.store (v := .agg #[.int .i64 0, .int .i64 0, .int .i64 0, .int .i64 0, .bool false]) (cs' := [.int .i64 0, .int .i64 0, .int .i64 0, .int .i64 0, .bool false]) sz23 rfl rfl rfl rfl rfl rfl) ?_
      rintro _ _ _ ⟨rfl, rfl, rfl⟩
      refine J.val (v := .int .i64 0) rfl rfl (V.as rfl) ?_
      refine J.val (v := .int .i64 3) rfl rfl (V.as rfl) ?_
      refine J.nil ?_
      refine CJ.ret ?_
      have e := Option.some.inj h
      subst e
      exact ⟨_, [], Res.three rfl ⟨_, _, rfl, Ld.agg (cs := [.int .i64 0, .int .i64 0, .int .i64 0, .int .i64 0, .bool false]) Try.underlying23 sz23 rfl (Rd.cls 0 0 rfl rfl)⟩ rfl rfl, ⟨0, 0, 0, 0, false, 0, 3, rfl, rfl, rfl⟩, (Hp.le_refl _), fun w hs => (Sep.dropAt 0 rfl hs)⟩
    · have h := cf hc169 h
      refine CJ.skip ?_
      refine CJ.seq ?_
      refine CJ.region ?_
      refine J.val (v := .int .i64 i162) rfl rfl (V.mv rfl) ?_
      refine J.val (v := .agg #[.int .i64 i162, .int .i64 0, .int .i64 0, .int .i64 0, .bool false]) rfl rfl (V.build inf23 places23 rfl rfl) ?_
      refine J.op rfl (A.alloc (cs := [.int .i64 0, .int .i64 0, .int .i64 0, .int .i64 0, .bool false]) inf23 rfl) ?_
      rintro _ _ _ ⟨b170, rfl, rfl, rfl⟩
      refine J.op rfl (A.store (v := .agg #[.int .i64 i162, .int .i64 0, .int .i64 0, .int .i64 0, .bool false]) (cs' := [.int .i64 i162, .int .i64 0, .int .i64 0, .int .i64 0, .bool false]) sz23 rfl rfl rfl rfl rfl rfl) ?_
      rintro _ _ _ ⟨rfl, rfl, rfl⟩
      refine J.nil ?_
      refine CJ.seq ?_
      obtain ⟨o191, ho192, h⟩ := ob h
      refine CJ.joinN (o := o191) (fun s ρ K' L' => ∃ (i189 : Int) (i190 : Int), (i189, i190) = s ∧ Fits [(0, .string ⟨xa.toArray⟩), (2, .pointer (some ⟨b159, 0, none⟩)), (5, .int .i64 i162), (6, .int .i64 i189), (8, .pointer (some ⟨b170, 0, none⟩))] ρ ∧ K = K' ∧ L' = Cl b159 23 [.int .i64 0, .int .i64 0, .int .i64 0, .int .i64 0, .bool false] :: Cl b170 23 [.int .i64 i162, .int .i64 i190, .int .i64 0, .int .i64 0, .bool false] :: F) ?_ ?_
      · skip
        refine CJ.seq ?_
        refine CJ.region ?_
        refine J.val (v := .int .i64 i162) rfl rfl (V.mv rfl) ?_
        obtain ⟨r193, hr194, ho192⟩ := ob ho192
        refine J.op rfl (A.call (L1 := []) Try.call24 rfl (ref18_Dst_ok hr194) rfl rfl) ?_
        rintro _ _ _ ⟨v196, _, rfl, ⟨⟨t195, rfl, rfl, rfl⟩, rfl⟩, _, rfl⟩
        refine J.nil ?_
        refine CJ.cond rfl (fun hc199 => ?_) (fun hc199 => ?_)
        · have ho192 := ct hc199 ho192
          refine CJ.seq ?_
          refine CJ.region ?_
          refine J.val (v := .string ⟨xa.toArray⟩) rfl rfl (V.mv rfl) ?_
          refine J.val (v := .int .i64 i163) rfl rfl (V.mv rfl) ?_
          obtain ⟨y200, hy201, ho192⟩ := ob ho192
          refine J.val (v := .string ⟨y200.toArray⟩) rfl rfl (V.subs Try.underlying9 rfl (fun _ h => by cases h; exact ⟨_, rfl⟩) nofun nofun (fun _ => rfl) hy201) ?_
          obtain ⟨r202, hr203, ho192⟩ := ob ho192
          refine J.op rfl (A.call (L1 := []) Try.call33 rfl (ref02_Take_ok hr203) rfl rfl) ?_
          rintro _ _ _ ⟨v207, _, rfl, ⟨⟨i204, i205, i206, rfl, rfl, rfl⟩, rfl⟩, _, rfl⟩
          refine J.val (v := .tuple #[.int .i64 i204, .int .i64 i205, .int .i64 i206]) rfl rfl (V.mv rfl) ?_
          refine J.val (v := .int .i64 i204) rfl rfl (V.ext rfl rfl) ?_
          refine J.val (v := .int .i64 i205) rfl rfl (V.ext rfl rfl) ?_
          refine J.val (v := .int .i64 i206) rfl rfl (V.ext rfl rfl) ?_
          refine J.val (v := .int .i64 i204) rfl rfl (V.as rfl) ?_
          refine J.val (v := .int .i64 i205) rfl rfl (V.as rfl) ?_
          refine J.val (v := .int .i64 i206) rfl rfl (V.as rfl) ?_
          refine J.nil ?_
          refine CJ.seq ?_
          refine CJ.seq ?_
          refine CJ.region ?_
          refine J.val (v := .int .i64 i206) rfl rfl (V.mv rfl) ?_
          refine J.val (v := .bool (!decide (i206 = 0))) rfl rfl (V.neq rfl rfl) ?_
          refine J.nil ?_
          refine CJ.cond rfl (fun hc210 => ?_) (fun hc210 => ?_)
          · have ho192 := ct hc210 ho192
            refine CJ.seq ?_
            refine CJ.region ?_
            refine J.val (v := .agg #[.int .i64 0, .int .i64 0, .int .i64 0, .int .i64 0, .bool false]) rfl rfl (V.build inf23 places23 rfl rfl) ?_
            refine J.val (v := .int .i64 i206) rfl rfl (V.mv rfl) ?_
            refine J.front 1 rfl ?_
            refine J.op rfl (A.store (v := .agg #[.int .i64 0, .int .i64 0, .int .i64 0, .int .i64 0, .bool false]) (cs' := [.int .i64 0, .int .i64 0, .int .i64 0, .int .i64 0, .bool false]) sz23 rfl rfl rfl rfl rfl rfl) ?_
            rintro _ _ _ ⟨rfl, rfl, rfl⟩
            refine J.val (v := .int .i64 0) rfl rfl (V.as rfl) ?_
            refine J.val (v := .int .i64 i206) rfl rfl (V.as rfl) ?_
            refine J.nil ?_
            refine CJ.ret ?_
            have e := Option.some.inj ho192
            subst e
            refine .inr ⟨nofun, ?_⟩
            have e := Option.some.inj h
            subst e
            exact ⟨_, [], Res.three rfl ⟨_, _, rfl, Ld.agg (cs := [.int .i64 0, .int .i64 0, .int .i64 0, .int .i64 0, .bool false]) Try.underlying23 sz23 rfl (Rd.cls 0 0 rfl rfl)⟩ rfl rfl, ⟨0, 0, 0, 0, false, 0, i206, rfl, rfl, rfl⟩, (Hp.le_refl _), fun w hs => (Sep.dropAt 0 rfl (Sep.dropAt 0 rfl hs))⟩
          · have ho192 := cf hc210 ho192
            refine CJ.skip ?_
            refine CJ.seq ?_
            refine CJ.region ?_
            refine J.val (v := .int .i64 i204) rfl rfl (V.mv rfl) ?_
            refine J.val rfl rfl (V.fad Try.underlying23 rfl nz3 rfl) ?_
            refine J.op rfl (A.store1 (v := .int .i64 i204) (cs' := [.int .i64 i162, .int .i64 i204, .int .i64 0, .int .i64 0, .bool false]) sz3 rfl rfl rfl rfl rfl rfl) ?_
            rintro _ _ _ ⟨rfl, rfl, rfl⟩
            refine J.nil ?_
            refine CJ.region ?_
            refine J.val (v := .int .i64 i163) rfl rfl (V.mv rfl) ?_
            refine J.val (v := .int .i64 i205) rfl rfl (V.mv rfl) ?_
            refine J.val (v := .int .i64 (IntKind.wrap .i64 (i163 + i205))) rfl rfl (V.add rfl rfl) ?_
            refine J.val (v := .int .i64 (IntKind.wrap .i64 (i163 + i205))) rfl rfl (V.as rfl) ?_
            refine J.front 1 rfl ?_
            refine J.nil ?_
            have e := Option.some.inj ho192
            subst e
            exact .inl ⟨rfl, _, rfl, ⟨IntKind.wrap .i64 (i163 + i205), i204, rfl, ⟨rfl, rfl, rfl, rfl, rfl, trivial⟩, rfl, rfl⟩⟩
        · have ho192 := cf hc199 ho192
          refine CJ.front 1 rfl ?_
          refine CJ.skip ?_
          have e := Option.some.inj ho192
          subst e
          exact .inl ⟨rfl, _, rfl, ⟨i163, 0, rfl, ⟨rfl, rfl, rfl, rfl, rfl, trivial⟩, rfl, rfl⟩⟩
      · rintro s ρ _ _ ho211 ⟨i189, i190, rfl, hf212, rfl, rfl⟩
        subst ho211
        obtain ⟨ρ, rfl⟩ := hf212.ex
        refine PJ.done ?_
        refine CJ.seq ?_
        obtain ⟨o234, ho235, h⟩ := ob h
        refine CJ.joinN (o := o234) (fun s ρ K' L' => ∃ (i232 : Int) (i233 : Int), (i232, i233) = s ∧ Fits [(0, .string ⟨xa.toArray⟩), (2, .pointer (some ⟨b159, 0, none⟩)), (5, .int .i64 i162), (6, .int .i64 i232), (8, .pointer (some ⟨b170, 0, none⟩))] ρ ∧ K = K' ∧ L' = Cl b159 23 [.int .i64 0, .int .i64 0, .int .i64 0, .int .i64 0, .bool false] :: Cl b170 23 [.int .i64 i162, .int .i64 i190, .int .i64 i233, .int .i64 0, .bool false] :: F) ?_ ?_
        · skip
          refine CJ.seq ?_
          refine CJ.region ?_
          refine J.val (v := .int .i64 i162) rfl rfl (V.mv rfl) ?_
          obtain ⟨r236, hr237, ho235⟩ := ob ho235
          refine J.op rfl (A.call (L1 := []) Try.call25 rfl (ref18_Src_ok hr237) rfl rfl) ?_
          rintro _ _ _ ⟨v239, _, rfl, ⟨⟨t238, rfl, rfl, rfl⟩, rfl⟩, _, rfl⟩
          refine J.nil ?_
          refine CJ.cond rfl (fun hc242 => ?_) (fun hc242 => ?_)
          · have ho235 := ct hc242 ho235
            refine CJ.seq ?_
            refine CJ.region ?_
            refine J.val (v := .string ⟨xa.toArray⟩) rfl rfl (V.mv rfl) ?_
            refine J.val (v := .int .i64 i189) rfl rfl (V.mv rfl) ?_
            obtain ⟨y243, hy244, ho235⟩ := ob ho235
            refine J.val (v := .string ⟨y243.toArray⟩) rfl rfl (V.subs Try.underlying9 rfl (fun _ h => by cases h; exact ⟨_, rfl⟩) nofun nofun (fun _ => rfl) hy244) ?_
            obtain ⟨r245, hr246, ho235⟩ := ob ho235
            refine J.op rfl (A.call (L1 := []) Try.call33 rfl (ref02_Take_ok hr246) rfl rfl) ?_
            rintro _ _ _ ⟨v250, _, rfl, ⟨⟨i247, i248, i249, rfl, rfl, rfl⟩, rfl⟩, _, rfl⟩
            refine J.val (v := .tuple #[.int .i64 i247, .int .i64 i248, .int .i64 i249]) rfl rfl (V.mv rfl) ?_
            refine J.val (v := .int .i64 i247) rfl rfl (V.ext rfl rfl) ?_
            refine J.val (v := .int .i64 i248) rfl rfl (V.ext rfl rfl) ?_
            refine J.val (v := .int .i64 i249) rfl rfl (V.ext rfl rfl) ?_
            refine J.val (v := .int .i64 i247) rfl rfl (V.as rfl) ?_
            refine J.val (v := .int .i64 i248) rfl rfl (V.as rfl) ?_
            refine J.val (v := .int .i64 i249) rfl rfl (V.as rfl) ?_
            refine J.nil ?_
            refine CJ.seq ?_
            refine CJ.seq ?_
            refine CJ.region ?_
            refine J.val (v := .int .i64 i249) rfl rfl (V.mv rfl) ?_
            refine J.val (v := .bool (!decide (i249 = 0))) rfl rfl (V.neq rfl rfl) ?_
            refine J.nil ?_
            refine CJ.cond rfl (fun hc253 => ?_) (fun hc253 => ?_)
            · have ho235 := ct hc253 ho235
              refine CJ.seq ?_
              refine CJ.region ?_
              refine J.val (v := .agg #[.int .i64 0, .int .i64 0, .int .i64 0, .int .i64 0, .bool false]) rfl rfl (V.build inf23 places23 rfl rfl) ?_
              refine J.val (v := .int .i64 i249) rfl rfl (V.mv rfl) ?_
              refine J.op rfl (A.store (v := .agg #[.int .i64 0, .int .i64 0, .int .i64 0, .int .i64 0, .bool false]) (cs' := [.int .i64 0, .int .i64 0, .int .i64 0, .int .i64 0, .bool false]) sz23 rfl rfl rfl rfl rfl rfl) ?_
              rintro _ _ _ ⟨rfl, rfl, rfl⟩
              refine J.val (v := .int .i64 0) rfl rfl (V.as rfl) ?_
              refine J.val (v := .int .i64 i249) rfl rfl (V.as rfl) ?_
              refine J.nil ?_
              refine CJ.ret ?_
              have e := Option.some.inj ho235
              subst e
              refine .inr ⟨nofun, ?_⟩
              have e := Option.some.inj h
              subst e
              exact ⟨_, [], Res.three rfl ⟨_, _, rfl, Ld.agg (cs := [.int .i64 0, .int .i64 0, .int .i64 0, .int .i64 0, .bool false]) Try.underlying23 sz23 rfl (Rd.cls 0 0 rfl rfl)⟩ rfl rfl, ⟨0, 0, 0, 0, false, 0, i249, rfl, rfl, rfl⟩, (Hp.le_refl _), fun w hs => (Sep.dropAt 0 rfl (Sep.dropAt 0 rfl hs))⟩
            · have ho235 := cf hc253 ho235
              refine CJ.skip ?_
              refine CJ.seq ?_
              refine CJ.region ?_
              refine J.val (v := .int .i64 i247) rfl rfl (V.mv rfl) ?_
              refine J.val rfl rfl (V.fad Try.underlying23 rfl nz3 rfl) ?_
              refine J.front 1 rfl ?_
              refine J.op rfl (A.store1 (v := .int .i64 i247) (cs' := [.int .i64 i162, .int .i64 i190, .int .i64 i247, .int .i64 0, .bool false]) sz3 rfl rfl rfl rfl rfl rfl) ?_
              rintro _ _ _ ⟨rfl, rfl, rfl⟩
              refine J.nil ?_
              refine CJ.region ?_
              refine J.val (v := .int .i64 i189) rfl rfl (V.mv rfl) ?_
              refine J.val (v := .int .i64 i248) rfl rfl (V.mv rfl) ?_
              refine J.val (v := .int .i64 (IntKind.wrap .i64 (i189 + i248))) rfl rfl (V.add rfl rfl) ?_
              refine J.val (v := .int .i64 (IntKind.wrap .i64 (i189 + i248))) rfl rfl (V.as rfl) ?_
              refine J.front 1 rfl ?_
              refine J.nil ?_
              have e := Option.some.inj ho235
              subst e
              exact .inl ⟨rfl, _, rfl, ⟨IntKind.wrap .i64 (i189 + i248), i247, rfl, ⟨rfl, rfl, rfl, rfl, rfl, trivial⟩, rfl, rfl⟩⟩
          · have ho235 := cf hc242 ho235
            refine CJ.skip ?_
            have e := Option.some.inj ho235
            subst e
            exact .inl ⟨rfl, _, rfl, ⟨i189, 0, rfl, ⟨rfl, rfl, rfl, rfl, rfl, trivial⟩, rfl, rfl⟩⟩
        · rintro s ρ _ _ ho254 ⟨i232, i233, rfl, hf255, rfl, rfl⟩
          subst ho254
          obtain ⟨ρ, rfl⟩ := hf255.ex
          refine PJ.done ?_
          refine CJ.seq ?_
          obtain ⟨o278, ho279, h⟩ := ob h
          refine CJ.joinN (o := o278) (fun s ρ K' L' => ∃ (i275 : Int) (i276 : Int) (t277 : Bool), (i275, i276, t277) = s ∧ Fits [(2, .pointer (some ⟨b159, 0, none⟩)), (6, .int .i64 i275), (8, .pointer (some ⟨b170, 0, none⟩))] ρ ∧ K = K' ∧ L' = Cl b159 23 [.int .i64 0, .int .i64 0, .int .i64 0, .int .i64 0, .bool false] :: Cl b170 23 [.int .i64 i162, .int .i64 i190, .int .i64 i233, .int .i64 i276, .bool t277] :: F) ?_ ?_
          · skip
            refine CJ.seq ?_
            refine CJ.region ?_
            refine J.val (v := .int .i64 i162) rfl rfl (V.mv rfl) ?_
            obtain ⟨r280, hr281, ho279⟩ := ob ho279
            refine J.op rfl (A.call (L1 := []) Try.call26 rfl (ref18_Region_ok hr281) rfl rfl) ?_
            rintro _ _ _ ⟨v283, _, rfl, ⟨⟨t282, rfl, rfl, rfl⟩, rfl⟩, _, rfl⟩
            refine J.nil ?_
            refine CJ.cond rfl (fun hc286 => ?_) (fun hc286 => ?_)
            · have ho279 := ct hc286 ho279
              refine CJ.seq ?_
              refine CJ.region ?_
              refine J.val (v := .string ⟨xa.toArray⟩) rfl rfl (V.mv rfl) ?_
              refine J.val (v := .int .i64 i232) rfl rfl (V.mv rfl) ?_
              obtain ⟨y287, hy288, ho279⟩ := ob ho279
              refine J.val (v := .string ⟨y287.toArray⟩) rfl rfl (V.subs Try.underlying9 rfl (fun _ h => by cases h; exact ⟨_, rfl⟩) nofun nofun (fun _ => rfl) hy288) ?_
              obtain ⟨r289, hr290, ho279⟩ := ob ho279
              refine J.op rfl (A.call (L1 := []) Try.call33 rfl (ref02_Take_ok hr290) rfl rfl) ?_
              rintro _ _ _ ⟨v294, _, rfl, ⟨⟨i291, i292, i293, rfl, rfl, rfl⟩, rfl⟩, _, rfl⟩
              refine J.val (v := .tuple #[.int .i64 i291, .int .i64 i292, .int .i64 i293]) rfl rfl (V.mv rfl) ?_
              refine J.val (v := .int .i64 i291) rfl rfl (V.ext rfl rfl) ?_
              refine J.val (v := .int .i64 i292) rfl rfl (V.ext rfl rfl) ?_
              refine J.val (v := .int .i64 i293) rfl rfl (V.ext rfl rfl) ?_
              refine J.val (v := .int .i64 i291) rfl rfl (V.as rfl) ?_
              refine J.val (v := .int .i64 i292) rfl rfl (V.as rfl) ?_
              refine J.val (v := .int .i64 i293) rfl rfl (V.as rfl) ?_
              refine J.nil ?_
              refine CJ.seq ?_
              refine CJ.seq ?_
              refine CJ.region ?_
              refine J.val (v := .int .i64 i293) rfl rfl (V.mv rfl) ?_
              refine J.val (v := .bool (!decide (i293 = 0))) rfl rfl (V.neq rfl rfl) ?_
              refine J.nil ?_
              refine CJ.cond rfl (fun hc297 => ?_) (fun hc297 => ?_)
              · have ho279 := ct hc297 ho279
                refine CJ.seq ?_
                refine CJ.region ?_
                refine J.val (v := .agg #[.int .i64 0, .int .i64 0, .int .i64 0, .int .i64 0, .bool false]) rfl rfl (V.build inf23 places23 rfl rfl) ?_
                refine J.val (v := .int .i64 i293) rfl rfl (V.mv rfl) ?_
                refine J.op rfl (A.store (v := .agg #[.int .i64 0, .int .i64 0, .int .i64 0, .int .i64 0, .bool false]) (cs' := [.int .i64 0, .int .i64 0, .int .i64 0, .int .i64 0, .bool false]) sz23 rfl rfl rfl rfl rfl rfl) ?_
                rintro _ _ _ ⟨rfl, rfl, rfl⟩
                refine J.val (v := .int .i64 0) rfl rfl (V.as rfl) ?_
                refine J.val (v := .int .i64 i293) rfl rfl (V.as rfl) ?_
                refine J.nil ?_
                refine CJ.ret ?_
                have e := Option.some.inj ho279
                subst e
                refine .inr ⟨nofun, ?_⟩
                have e := Option.some.inj h
                subst e
                exact ⟨_, [], Res.three rfl ⟨_, _, rfl, Ld.agg (cs := [.int .i64 0, .int .i64 0, .int .i64 0, .int .i64 0, .bool false]) Try.underlying23 sz23 rfl (Rd.cls 0 0 rfl rfl)⟩ rfl rfl, ⟨0, 0, 0, 0, false, 0, i293, rfl, rfl, rfl⟩, (Hp.le_refl _), fun w hs => (Sep.dropAt 0 rfl (Sep.dropAt 0 rfl hs))⟩
              · have ho279 := cf hc297 ho279
                refine CJ.skip ?_
                refine CJ.seq ?_
                refine CJ.region ?_
                refine J.val (v := .int .i64 i291) rfl rfl (V.mv rfl) ?_
                refine J.val (v := .int .i64 (IntKind.wrap .i64 (Int.tdiv i291 2))) rfl rfl (V.quo rfl rfl (by decide)) ?_
                refine J.val rfl rfl (V.fad Try.underlying23 rfl nz3 rfl) ?_
                refine J.front 1 rfl ?_
                refine J.op rfl (A.store1 (v := .int .i64 (IntKind.wrap .i64 (Int.tdiv i291 2))) (cs' := [.int .i64 i162, .int .i64 i190, .int .i64 i233, .int .i64 (IntKind.wrap .i64 (Int.tdiv i291 2)), .bool false]) sz3 rfl rfl rfl rfl rfl rfl) ?_
                rintro _ _ _ ⟨rfl, rfl, rfl⟩
                refine J.nil ?_
                refine CJ.seq ?_
                refine CJ.region ?_
                refine J.val (v := .int .i64 i291) rfl rfl (V.mv rfl) ?_
                refine J.val (v := .int .i64 (Int.tmod i291 2)) rfl rfl (V.rem rfl rfl (by decide)) ?_
                refine J.val (v := .bool (decide ((Int.tmod i291 2) = 1))) rfl rfl (V.eql rfl rfl) ?_
                refine J.val rfl rfl (V.fad Try.underlying23 rfl nz4 rfl) ?_
                refine J.op rfl (A.store1 (v := .bool (decide ((Int.tmod i291 2) = 1))) (cs' := [.int .i64 i162, .int .i64 i190, .int .i64 i233, .int .i64 (IntKind.wrap .i64 (Int.tdiv i291 2)), .bool (decide ((Int.tmod i291 2) = 1))]) sz4 rfl rfl rfl rfl rfl rfl) ?_
                rintro _ _ _ ⟨rfl, rfl, rfl⟩
                refine J.nil ?_
                refine CJ.region ?_
                refine J.val (v := .int .i64 i232) rfl rfl (V.mv rfl) ?_
                refine J.val (v := .int .i64 i292) rfl rfl (V.mv rfl) ?_
                refine J.val (v := .int .i64 (IntKind.wrap .i64 (i232 + i292))) rfl rfl (V.add rfl rfl) ?_
                refine J.val (v := .int .i64 (IntKind.wrap .i64 (i232 + i292))) rfl rfl (V.as rfl) ?_
                refine J.front 1 rfl ?_
                refine J.nil ?_
                have e := Option.some.inj ho279
                subst e
                exact .inl ⟨rfl, _, rfl, ⟨IntKind.wrap .i64 (i232 + i292), IntKind.wrap .i64 (Int.tdiv i291 2), decide ((Int.tmod i291 2) = 1), rfl, ⟨rfl, rfl, rfl, trivial⟩, rfl, rfl⟩⟩
            · have ho279 := cf hc286 ho279
              refine CJ.skip ?_
              have e := Option.some.inj ho279
              subst e
              exact .inl ⟨rfl, _, rfl, ⟨i232, 0, false, rfl, ⟨rfl, rfl, rfl, trivial⟩, rfl, rfl⟩⟩
          · rintro s ρ _ _ ho298 ⟨i275, i276, t277, rfl, hf299, rfl, rfl⟩
            subst ho298
            obtain ⟨ρ, rfl⟩ := hf299.ex
            refine PJ.done ?_
            refine CJ.seq ?_
            refine CJ.region ?_
            refine J.val (v := .agg #[.int .i64 i162, .int .i64 i190, .int .i64 i233, .int .i64 i276, .bool t277]) rfl rfl (V.ld rfl (Ld.agg (cs := [.int .i64 i162, .int .i64 i190, .int .i64 i233, .int .i64 i276, .bool t277]) Try.underlying23 sz23 rfl (Rd.cls 1 0 rfl rfl))) ?_
            refine J.val (v := .int .i64 i275) rfl rfl (V.mv rfl) ?_
            refine J.op rfl (A.store (v := .agg #[.int .i64 i162, .int .i64 i190, .int .i64 i233, .int .i64 i276, .bool t277]) (cs' := [.int .i64 i162, .int .i64 i190, .int .i64 i233, .int .i64 i276, .bool t277]) sz23 rfl rfl rfl rfl rfl rfl) ?_
            rintro _ _ _ ⟨rfl, rfl, rfl⟩
            refine J.val (v := .int .i64 i275) rfl rfl (V.as rfl) ?_
            refine J.val (v := .int .i64 0) rfl rfl (V.as rfl) ?_
            refine J.nil ?_
            refine CJ.ret ?_
            have e := Option.some.inj h
            subst e
            exact ⟨_, [], Res.three rfl ⟨_, _, rfl, Ld.agg (cs := [.int .i64 i162, .int .i64 i190, .int .i64 i233, .int .i64 i276, .bool t277]) Try.underlying23 sz23 rfl (Rd.cls 0 0 rfl rfl)⟩ rfl rfl, ⟨i162, i190, i233, i276, t277, i275, 0, rfl, rfl, rfl⟩, (Hp.le_refl _), fun w hs => (Sep.dropAt 0 rfl (Sep.dropAt 0 rfl hs))⟩

noncomputable def fn_ref18_Put (xa : (Int × Int × Int × Int × Bool)) : Option (List UInt8 × Int) :=
  (fn_ref18_Form (xa.1, xa.2.1, xa.2.2.1, xa.2.2.2.1, xa.2.2.2.2)).bind fun t158 => cond (!t158) (some ((([] : List UInt8), 3))) ((fn_ref02_Put xa.1).bind fun s165 => ((fn_ref18_Dst xa.1).bind fun t189 => cond (t189) ((fn_ref02_Put xa.2.1).bind fun s196 => (app s165 s196).bind fun z200 => some (z200)) (some (s165)) : Option (List UInt8)).bind fun s184 => ((fn_ref18_Src xa.1).bind fun t224 => cond (t224) ((fn_ref02_Put xa.2.2.1).bind fun s231 => (app s184 s231).bind fun z235 => some (z235)) (some (s184)) : Option (List UInt8)).bind fun s219 => ((fn_ref18_Region xa.1).bind fun t262 => cond (t262 && xa.2.2.2.2) ((fn_ref02_Put (IntKind.wrap .i64 ((IntKind.wrap .i64 (2 * xa.2.2.2.1)) + 1))).bind fun s272 => (app s219 s272).bind fun z276 => some (z276)) (some (s219)) : Option (List UInt8)).bind fun s257 => (fn_ref18_Region xa.1).bind fun t282 => cond (t282 && (!xa.2.2.2.2)) ((fn_ref02_Put (IntKind.wrap .i64 (2 * xa.2.2.2.1))).bind fun s292 => (app s257 s292).bind fun z296 => some ((z296, 0))) (some ((s257, 0))))
set_option maxRecDepth 100000 in
set_option maxHeartbeats 4000000 in
theorem ref18_Put_ok {K : Hp} {xa : (Int × Int × Int × Int × Bool)}   {r : (List UInt8 × Int)} (h : fn_ref18_Put xa = some r) :
    Tr Try.prog 16 #[.agg #[.int .i64 xa.1, .int .i64 xa.2.1, .int .i64 xa.2.2.1, .int .i64 xa.2.2.2.1, .bool xa.2.2.2.2]] K [] (fun v K' L' => (∃ (s153 : List UInt8) (i154 : Int), (s153, i154) = r ∧ .tuple #[.string ⟨s153.toArray⟩, .int .i64 i154] = v ∧ L' = []) ∧ K = K') := by
  refine Tr.k ?_
  refine Tr.of Try.func16 rfl Try.ntmps16 rfl (fun E F => ?_)
  unfold fn_ref18_Put at h
  refine CJ.seq ?_
  refine CJ.region ?_
  refine J.op rfl (A.box (v := .agg #[.int .i64 xa.1, .int .i64 xa.2.1, .int .i64 xa.2.2.1, .int .i64 xa.2.2.2.1, .bool xa.2.2.2.2]) (cs := [.int .i64 xa.1, .int .i64 xa.2.1, .int .i64 xa.2.2.1, .int .i64 xa.2.2.2.1, .bool xa.2.2.2.2]) rfl rfl) ?_
  rintro _ _ _ ⟨b155, rfl, rfl, rfl⟩
  refine J.val (v := .string ⟨([] : List UInt8).toArray⟩) rfl rfl (V.as rfl) ?_
  refine J.val (v := .int .i64 0) rfl rfl (V.as rfl) ?_
  refine J.nil ?_
  refine CJ.seq ?_
  refine CJ.seq ?_
  refine CJ.region ?_
  refine J.val (v := .agg #[.int .i64 xa.1, .int .i64 xa.2.1, .int .i64 xa.2.2.1, .int .i64 xa.2.2.2.1, .bool xa.2.2.2.2]) rfl rfl (V.ld rfl (Ld.agg (cs := [.int .i64 xa.1, .int .i64 xa.2.1, .int .i64 xa.2.2.1, .int .i64 xa.2.2.2.1, .bool xa.2.2.2.2]) Try.underlying23 sz23 rfl (Rd.cls 0 0 rfl rfl))) ?_
  obtain ⟨r156, hr157, h⟩ := ob h
  refine J.op rfl (A.call (L1 := []) Try.call23 rfl (ref18_Form_ok hr157) rfl rfl) ?_
  rintro _ _ _ ⟨v159, _, rfl, ⟨⟨t158, rfl, rfl, rfl⟩, rfl⟩, _, rfl⟩
  refine J.val (v := .bool (!t158)) rfl rfl (V.not rfl) ?_
  refine J.nil ?_
  refine CJ.cond rfl (fun hc162 => ?_) (fun hc162 => ?_)
  · have h := ct hc162 h
    refine CJ.seq ?_
    refine CJ.region ?_
    refine J.val (v := .string ⟨([] : List UInt8).toArray⟩) rfl rfl (V.as rfl) ?_
    refine J.val (v := .int .i64 3) rfl rfl (V.as rfl) ?_
    refine J.nil ?_
    refine CJ.ret ?_
    have e := Option.some.inj h
    subst e
    exact ⟨_, [], Res.two rfl rfl rfl, ⟨([] : List UInt8), 3, rfl, rfl, rfl⟩, (Hp.le_refl _), fun w hs => (Sep.dropAt 0 rfl hs)⟩
  · have h := cf hc162 h
    refine CJ.skip ?_
    refine CJ.seq ?_
    refine CJ.region ?_
    refine J.val rfl rfl (V.fad Try.underlying23 rfl nz3 rfl) ?_
    refine J.val (v := .int .i64 xa.1) rfl rfl (V.ld rfl (Ld.sc sc3 (Rd.cl 0 rfl rfl))) ?_
    obtain ⟨r163, hr164, h⟩ := ob h
    refine J.op rfl (A.call (L1 := []) Try.call35 rfl (ref02_Put_ok hr164) rfl rfl) ?_
    rintro _ _ _ ⟨v166, _, rfl, ⟨⟨s165, rfl, rfl, rfl⟩, rfl⟩, _, rfl⟩
    refine J.val (v := .string ⟨s165.toArray⟩) rfl rfl (V.as rfl) ?_
    refine J.nil ?_
    refine CJ.seq ?_
    obtain ⟨o185, ho186, h⟩ := ob h
    refine CJ.meetN (fun ρ K' L' => ∃ (s184 : List UInt8), s184 = o185 ∧ Fits [(1, .pointer (some ⟨b155, 0, none⟩)), (4, .string ⟨s184.toArray⟩)] ρ ∧ K = K' ∧ L' = Cl b155 23 [.int .i64 xa.1, .int .i64 xa.2.1, .int .i64 xa.2.2.1, .int .i64 xa.2.2.2.1, .bool xa.2.2.2.2] :: F) ?_ ?_
    · skip
      refine CJ.seq ?_
      refine CJ.region ?_
      refine J.val rfl rfl (V.fad Try.underlying23 rfl nz3 rfl) ?_
      refine J.val (v := .int .i64 xa.1) rfl rfl (V.ld rfl (Ld.sc sc3 (Rd.cl 0 rfl rfl))) ?_
      obtain ⟨r187, hr188, ho186⟩ := ob ho186
      refine J.op rfl (A.call (L1 := []) Try.call24 rfl (ref18_Dst_ok hr188) rfl rfl) ?_
      rintro _ _ _ ⟨v190, _, rfl, ⟨⟨t189, rfl, rfl, rfl⟩, rfl⟩, _, rfl⟩
      refine J.nil ?_
      refine CJ.cond rfl (fun hc193 => ?_) (fun hc193 => ?_)
      · have ho186 := ct hc193 ho186
        refine CJ.region ?_
        refine J.val (v := .string ⟨s165.toArray⟩) rfl rfl (V.mv rfl) ?_
        refine J.val rfl rfl (V.fad Try.underlying23 rfl nz3 rfl) ?_
        refine J.val (v := .int .i64 xa.2.1) rfl rfl (V.ld rfl (Ld.sc sc3 (Rd.cl 0 rfl rfl))) ?_
        obtain ⟨r194, hr195, ho186⟩ := ob ho186
        refine J.op rfl (A.call (L1 := []) Try.call35 rfl (ref02_Put_ok hr195) rfl rfl) ?_
        rintro _ _ _ ⟨v197, _, rfl, ⟨⟨s196, rfl, rfl, rfl⟩, rfl⟩, _, rfl⟩
        obtain ⟨z200, hz201, ho186⟩ := ob ho186
        refine J.val (v := .string ⟨z200.toArray⟩) rfl rfl (V.cat rfl rfl hz201) ?_
        refine J.val (v := .string ⟨z200.toArray⟩) rfl rfl (V.as rfl) ?_
        refine J.nil ?_
        have e := Option.some.inj ho186
        subst e
        exact ⟨rfl, ⟨z200, rfl, ⟨rfl, rfl, trivial⟩, rfl, rfl⟩⟩
      · have ho186 := cf hc193 ho186
        refine CJ.skip ?_
        have e := Option.some.inj ho186
        subst e
        exact ⟨rfl, ⟨s165, rfl, ⟨rfl, rfl, trivial⟩, rfl, rfl⟩⟩
    · rintro ρ _ _ ⟨s184, rfl, hf202, rfl, rfl⟩
      obtain ⟨ρ, rfl⟩ := hf202.ex
      refine PJ.done ?_
      refine CJ.seq ?_
      obtain ⟨o220, ho221, h⟩ := ob h
      refine CJ.meetN (fun ρ K' L' => ∃ (s219 : List UInt8), s219 = o220 ∧ Fits [(1, .pointer (some ⟨b155, 0, none⟩)), (4, .string ⟨s219.toArray⟩)] ρ ∧ K = K' ∧ L' = Cl b155 23 [.int .i64 xa.1, .int .i64 xa.2.1, .int .i64 xa.2.2.1, .int .i64 xa.2.2.2.1, .bool xa.2.2.2.2] :: F) ?_ ?_
      · skip
        refine CJ.seq ?_
        refine CJ.region ?_
        refine J.val rfl rfl (V.fad Try.underlying23 rfl nz3 rfl) ?_
        refine J.val (v := .int .i64 xa.1) rfl rfl (V.ld rfl (Ld.sc sc3 (Rd.cl 0 rfl rfl))) ?_
        obtain ⟨r222, hr223, ho221⟩ := ob ho221
        refine J.op rfl (A.call (L1 := []) Try.call25 rfl (ref18_Src_ok hr223) rfl rfl) ?_
        rintro _ _ _ ⟨v225, _, rfl, ⟨⟨t224, rfl, rfl, rfl⟩, rfl⟩, _, rfl⟩
        refine J.nil ?_
        refine CJ.cond rfl (fun hc228 => ?_) (fun hc228 => ?_)
        · have ho221 := ct hc228 ho221
          refine CJ.region ?_
          refine J.val (v := .string ⟨s184.toArray⟩) rfl rfl (V.mv rfl) ?_
          refine J.val rfl rfl (V.fad Try.underlying23 rfl nz3 rfl) ?_
          refine J.val (v := .int .i64 xa.2.2.1) rfl rfl (V.ld rfl (Ld.sc sc3 (Rd.cl 0 rfl rfl))) ?_
          obtain ⟨r229, hr230, ho221⟩ := ob ho221
          refine J.op rfl (A.call (L1 := []) Try.call35 rfl (ref02_Put_ok hr230) rfl rfl) ?_
          rintro _ _ _ ⟨v232, _, rfl, ⟨⟨s231, rfl, rfl, rfl⟩, rfl⟩, _, rfl⟩
          obtain ⟨z235, hz236, ho221⟩ := ob ho221
          refine J.val (v := .string ⟨z235.toArray⟩) rfl rfl (V.cat rfl rfl hz236) ?_
          refine J.val (v := .string ⟨z235.toArray⟩) rfl rfl (V.as rfl) ?_
          refine J.nil ?_
          have e := Option.some.inj ho221
          subst e
          exact ⟨rfl, ⟨z235, rfl, ⟨rfl, rfl, trivial⟩, rfl, rfl⟩⟩
        · have ho221 := cf hc228 ho221
          refine CJ.skip ?_
          have e := Option.some.inj ho221
          subst e
          exact ⟨rfl, ⟨s184, rfl, ⟨rfl, rfl, trivial⟩, rfl, rfl⟩⟩
      · rintro ρ _ _ ⟨s219, rfl, hf237, rfl, rfl⟩
        obtain ⟨ρ, rfl⟩ := hf237.ex
        refine PJ.done ?_
        refine CJ.seq ?_
        obtain ⟨o258, ho259, h⟩ := ob h
        refine CJ.meetN (fun ρ K' L' => ∃ (s257 : List UInt8), s257 = o258 ∧ Fits [(1, .pointer (some ⟨b155, 0, none⟩)), (4, .string ⟨s257.toArray⟩)] ρ ∧ K = K' ∧ L' = Cl b155 23 [.int .i64 xa.1, .int .i64 xa.2.1, .int .i64 xa.2.2.1, .int .i64 xa.2.2.2.1, .bool xa.2.2.2.2] :: F) ?_ ?_
        · skip
          refine CJ.seq ?_
          refine CJ.region ?_
          refine J.val rfl rfl (V.fad Try.underlying23 rfl nz3 rfl) ?_
          refine J.val (v := .int .i64 xa.1) rfl rfl (V.ld rfl (Ld.sc sc3 (Rd.cl 0 rfl rfl))) ?_
          obtain ⟨r260, hr261, ho259⟩ := ob ho259
          refine J.op rfl (A.call (L1 := []) Try.call26 rfl (ref18_Region_ok hr261) rfl rfl) ?_
          rintro _ _ _ ⟨v263, _, rfl, ⟨⟨t262, rfl, rfl, rfl⟩, rfl⟩, _, rfl⟩
          refine J.val (v := .bool t262) rfl rfl (V.mv rfl) ?_
          refine J.cut 3 ?_
          refine @J.meet _ _ _ _ _ _ _ _ _ _ (fun ρ K' L' => Fits [(33, .bool (t262 && xa.2.2.2.2)), (1, .pointer (some ⟨b155, 0, none⟩)), (4, .string ⟨s219.toArray⟩)] ρ ∧ K = K' ∧ L' = Cl b155 23 [.int .i64 xa.1, .int .i64 xa.2.1, .int .i64 xa.2.2.1, .int .i64 xa.2.2.2.1, .bool xa.2.2.2.2] :: F) ?_ ?_
          · skip
            rcases bt (t262) with hc268 | hc268
            · skip
              refine J.run rfl rfl rfl hc268 ?_
              refine J.val rfl rfl (V.fad Try.underlying23 rfl nz4 rfl) ?_
              refine J.run rfl rfl rfl hc268 ?_
              refine J.val (v := .bool xa.2.2.2.2) rfl rfl (V.ld rfl (Ld.sc sc4 (Rd.cl 0 rfl rfl))) ?_
              refine J.val (v := .bool xa.2.2.2.2) rfl rfl (V.pickT rfl hc268 rfl) ?_
              refine J.nil ?_
              exact ⟨rfl, ⟨(by simp only [hc268]; rfl), rfl, rfl, trivial⟩, rfl, rfl⟩
            · skip
              refine J.skip rfl rfl rfl rfl hc268 ?_
              refine J.skip rfl rfl rfl rfl hc268 ?_
              refine J.val (v := .bool false) rfl rfl (V.pickF rfl hc268 rfl) ?_
              refine J.nil ?_
              exact ⟨rfl, ⟨(by simp only [hc268]; rfl), rfl, rfl, trivial⟩, rfl, rfl⟩
          · rintro ρ _ _ ⟨hf, rfl, rfl⟩
            obtain ⟨ρ, rfl⟩ := hf.ex
            refine J.nil ?_
            refine CJ.cond rfl (fun hc269 => ?_) (fun hc269 => ?_)
            · have ho259 := ct hc269 ho259
              refine CJ.region ?_
              refine J.val (v := .string ⟨s219.toArray⟩) rfl rfl (V.mv rfl) ?_
              refine J.val rfl rfl (V.fad Try.underlying23 rfl nz3 rfl) ?_
              refine J.val (v := .int .i64 xa.2.2.2.1) rfl rfl (V.ld rfl (Ld.sc sc3 (Rd.cl 0 rfl rfl))) ?_
              refine J.val (v := .int .i64 (IntKind.wrap .i64 (2 * xa.2.2.2.1))) rfl rfl (V.mul rfl rfl) ?_
              refine J.val (v := .int .i64 (IntKind.wrap .i64 ((IntKind.wrap .i64 (2 * xa.2.2.2.1)) + 1))) rfl rfl (V.add rfl rfl) ?_
              obtain ⟨r270, hr271, ho259⟩ := ob ho259
              refine J.op rfl (A.call (L1 := []) Try.call35 rfl (ref02_Put_ok hr271) rfl rfl) ?_
              rintro _ _ _ ⟨v273, _, rfl, ⟨⟨s272, rfl, rfl, rfl⟩, rfl⟩, _, rfl⟩
              obtain ⟨z276, hz277, ho259⟩ := ob ho259
              refine J.val (v := .string ⟨z276.toArray⟩) rfl rfl (V.cat rfl rfl hz277) ?_
              refine J.val (v := .string ⟨z276.toArray⟩) rfl rfl (V.as rfl) ?_
              refine J.nil ?_
              have e := Option.some.inj ho259
              subst e
              exact ⟨rfl, ⟨z276, rfl, ⟨rfl, rfl, trivial⟩, rfl, rfl⟩⟩
            · have ho259 := cf hc269 ho259
              refine CJ.skip ?_
              have e := Option.some.inj ho259
              subst e
              exact ⟨rfl, ⟨s219, rfl, ⟨rfl, rfl, trivial⟩, rfl, rfl⟩⟩
        · rintro ρ _ _ ⟨s257, rfl, hf278, rfl, rfl⟩
          obtain ⟨ρ, rfl⟩ := hf278.ex
          refine PJ.done ?_
          refine CJ.seq ?_
          refine CJ.seq ?_
          refine CJ.region ?_
          refine J.val rfl rfl (V.fad Try.underlying23 rfl nz3 rfl) ?_
          refine J.val (v := .int .i64 xa.1) rfl rfl (V.ld rfl (Ld.sc sc3 (Rd.cl 0 rfl rfl))) ?_
          obtain ⟨r280, hr281, h⟩ := ob h
          refine J.op rfl (A.call (L1 := []) Try.call26 rfl (ref18_Region_ok hr281) rfl rfl) ?_
          rintro _ _ _ ⟨v283, _, rfl, ⟨⟨t282, rfl, rfl, rfl⟩, rfl⟩, _, rfl⟩
          refine J.val (v := .bool t282) rfl rfl (V.mv rfl) ?_
          refine J.cut 4 ?_
          refine @J.meet _ _ _ _ _ _ _ _ _ _ (fun ρ K' L' => Fits [(48, .bool (t282 && (!xa.2.2.2.2))), (1, .pointer (some ⟨b155, 0, none⟩)), (4, .string ⟨s257.toArray⟩)] ρ ∧ K = K' ∧ L' = Cl b155 23 [.int .i64 xa.1, .int .i64 xa.2.1, .int .i64 xa.2.2.1, .int .i64 xa.2.2.2.1, .bool xa.2.2.2.2] :: F) ?_ ?_
          · skip
            rcases bt (t282) with hc288 | hc288
            · skip
              refine J.run rfl rfl rfl hc288 ?_
              refine J.val rfl rfl (V.fad Try.underlying23 rfl nz4 rfl) ?_
              refine J.run rfl rfl rfl hc288 ?_
              refine J.val (v := .bool xa.2.2.2.2) rfl rfl (V.ld rfl (Ld.sc sc4 (Rd.cl 0 rfl rfl))) ?_
              refine J.run rfl rfl rfl hc288 ?_
              refine J.val (v := .bool (!xa.2.2.2.2)) rfl rfl (V.not rfl) ?_
              refine J.val (v := .bool (!xa.2.2.2.2)) rfl rfl (V.pickT rfl hc288 rfl) ?_
              refine J.nil ?_
              exact ⟨rfl, ⟨(by simp only [hc288]; rfl), rfl, rfl, trivial⟩, rfl, rfl⟩
            · skip
              refine J.skip rfl rfl rfl rfl hc288 ?_
              refine J.skip rfl rfl rfl rfl hc288 ?_
              refine J.skip rfl rfl rfl rfl hc288 ?_
              refine J.val (v := .bool false) rfl rfl (V.pickF rfl hc288 rfl) ?_
              refine J.nil ?_
              exact ⟨rfl, ⟨(by simp only [hc288]; rfl), rfl, rfl, trivial⟩, rfl, rfl⟩
          · rintro ρ _ _ ⟨hf, rfl, rfl⟩
            obtain ⟨ρ, rfl⟩ := hf.ex
            refine J.nil ?_
            refine CJ.cond rfl (fun hc289 => ?_) (fun hc289 => ?_)
            · have h := ct hc289 h
              refine CJ.region ?_
              refine J.val (v := .string ⟨s257.toArray⟩) rfl rfl (V.mv rfl) ?_
              refine J.val rfl rfl (V.fad Try.underlying23 rfl nz3 rfl) ?_
              refine J.val (v := .int .i64 xa.2.2.2.1) rfl rfl (V.ld rfl (Ld.sc sc3 (Rd.cl 0 rfl rfl))) ?_
              refine J.val (v := .int .i64 (IntKind.wrap .i64 (2 * xa.2.2.2.1))) rfl rfl (V.mul rfl rfl) ?_
              obtain ⟨r290, hr291, h⟩ := ob h
              refine J.op rfl (A.call (L1 := []) Try.call35 rfl (ref02_Put_ok hr291) rfl rfl) ?_
              rintro _ _ _ ⟨v293, _, rfl, ⟨⟨s292, rfl, rfl, rfl⟩, rfl⟩, _, rfl⟩
              obtain ⟨z296, hz297, h⟩ := ob h
              refine J.val (v := .string ⟨z296.toArray⟩) rfl rfl (V.cat rfl rfl hz297) ?_
              refine J.val (v := .string ⟨z296.toArray⟩) rfl rfl (V.as rfl) ?_
              refine J.nil ?_
              refine CJ.seq ?_
              refine CJ.region ?_
              refine J.val (v := .string ⟨z296.toArray⟩) rfl rfl (V.mv rfl) ?_
              refine J.val (v := .string ⟨z296.toArray⟩) rfl rfl (V.as rfl) ?_
              refine J.val (v := .int .i64 0) rfl rfl (V.as rfl) ?_
              refine J.nil ?_
              refine CJ.ret ?_
              have e := Option.some.inj h
              subst e
              exact ⟨_, [], Res.two rfl rfl rfl, ⟨z296, 0, rfl, rfl, rfl⟩, (Hp.le_refl _), fun w hs => (Sep.dropAt 0 rfl hs)⟩
            · have h := cf hc289 h
              refine CJ.skip ?_
              refine CJ.seq ?_
              refine CJ.region ?_
              refine J.val (v := .string ⟨s257.toArray⟩) rfl rfl (V.mv rfl) ?_
              refine J.val (v := .string ⟨s257.toArray⟩) rfl rfl (V.as rfl) ?_
              refine J.val (v := .int .i64 0) rfl rfl (V.as rfl) ?_
              refine J.nil ?_
              refine CJ.ret ?_
              have e := Option.some.inj h
              subst e
              exact ⟨_, [], Res.two rfl rfl rfl, ⟨s257, 0, rfl, rfl, rfl⟩, (Hp.le_refl _), fun w hs => (Sep.dropAt 0 rfl hs)⟩

noncomputable def fn_law18_StmtTakes (xa : (List UInt8)) (xb : (Int × Int × Int × Int × Bool)) : Option Bool :=
  cond (decide (300 < (((xa.length : Nat) : Int)))) ((fn_law18_awake).bind fun t103 => some (t103)) ((fn_stmt_Take xa).bind fun (i109, i110, i111, i112, t113, i114, i115) => (fn_ref18_Take xa).bind fun (i122, i123, i124, i125, t126, i127, i128) => cond (((!((decide (i109 = i122)) && ((decide (i110 = i123)) && ((decide (i111 = i124)) && ((decide (i112 = i125)) && (t113 == t126)))))) || (!decide (i114 = i127))) || (!decide (i115 = i128))) (some (false)) (cond ((((((decide (xb.2.1 < 0)) || (decide (xb.2.2.1 < 0))) || (decide (xb.2.2.2.1 < 0))) || (decide (2147483648 ≤ xb.2.1))) || (decide (2147483648 ≤ xb.2.2.1))) || (decide (2147483648 ≤ xb.2.2.2.1))) ((fn_law18_awake).bind fun t158 => some (t158)) ((fn_stmt_Put (xb.1, xb.2.1, xb.2.2.1, xb.2.2.2.1, xb.2.2.2.2)).bind fun (s164, i165) => (fn_ref18_Put (xb.1, xb.2.1, xb.2.2.1, xb.2.2.2.1, xb.2.2.2.2)).bind fun (s171, i172) => (cond ((decide (s164 = s171)) && (decide (i165 = i172))) ((fn_law18_awake).bind fun t191 => some (t191)) (some (false))).bind fun t186 => some (t186))))
set_option maxRecDepth 100000 in
set_option maxHeartbeats 4000000 in
theorem law18_StmtTakes_ok {K : Hp} {xa : (List UInt8)} {xb : (Int × Int × Int × Int × Bool)}   {r : Bool} (h : fn_law18_StmtTakes xa xb = some r) :
    Tr Try.prog 4 #[.string ⟨xa.toArray⟩, .agg #[.int .i64 xb.1, .int .i64 xb.2.1, .int .i64 xb.2.2.1, .int .i64 xb.2.2.2.1, .bool xb.2.2.2.2]] K [] (fun v K' L' => (∃ (t98 : Bool), t98 = r ∧ .bool t98 = v ∧ L' = []) ∧ K = K') := by
  refine Tr.k ?_
  refine Tr.of Try.func4 rfl Try.ntmps4 rfl (fun E F => ?_)
  unfold fn_law18_StmtTakes at h
  refine CJ.seq ?_
  refine CJ.region ?_
  refine J.op rfl (A.box (v := .agg #[.int .i64 xb.1, .int .i64 xb.2.1, .int .i64 xb.2.2.1, .int .i64 xb.2.2.2.1, .bool xb.2.2.2.2]) (cs := [.int .i64 xb.1, .int .i64 xb.2.1, .int .i64 xb.2.2.1, .int .i64 xb.2.2.2.1, .bool xb.2.2.2.2]) rfl rfl) ?_
  rintro _ _ _ ⟨b99, rfl, rfl, rfl⟩
  refine J.val (v := .bool false) rfl rfl (V.as rfl) ?_
  refine J.nil ?_
  refine CJ.seq ?_
  refine CJ.seq ?_
  refine CJ.region ?_
  refine J.val (v := .string ⟨xa.toArray⟩) rfl rfl (V.mv rfl) ?_
  refine J.val (v := .int .i64 (((xa.length : Nat) : Int))) rfl rfl (V.lens Try.underlying9 rfl) ?_
  refine J.val (v := .bool (decide (300 < (((xa.length : Nat) : Int))))) rfl rfl (V.gtr rfl rfl) ?_
  refine J.nil ?_
  refine CJ.cond rfl (fun hc100 => ?_) (fun hc100 => ?_)
  · have h := ct hc100 h
    refine CJ.seq ?_
    refine CJ.region ?_
    obtain ⟨r101, hr102, h⟩ := ob h
    refine J.op rfl (A.call (L1 := []) Try.call7 rfl (law18_awake_ok hr102) rfl rfl) ?_
    rintro _ _ _ ⟨v104, _, rfl, ⟨⟨t103, rfl, rfl, rfl⟩, rfl⟩, _, rfl⟩
    refine J.val (v := .bool t103) rfl rfl (V.as rfl) ?_
    refine J.nil ?_
    refine CJ.ret ?_
    have e := Option.some.inj h
    subst e
    exact ⟨_, [], Res.one rfl rfl, ⟨t103, rfl, rfl, rfl⟩, (Hp.le_refl _), fun w hs => (Sep.dropAt 0 rfl hs)⟩
  · have h := cf hc100 h
    refine CJ.skip ?_
    refine CJ.seq ?_
    refine CJ.region ?_
    refine J.val (v := .string ⟨xa.toArray⟩) rfl rfl (V.mv rfl) ?_
    obtain ⟨r107, hr108, h⟩ := ob h
    refine J.op rfl (A.call (L1 := []) Try.call13 rfl (stmt_Take_ok hr108) rfl rfl) ?_
    rintro _ _ _ ⟨v116, _, rfl, ⟨⟨i109, i110, i111, i112, t113, i114, i115, rfl, rfl, rfl⟩, rfl⟩, _, rfl⟩
    refine J.val (v := .tuple #[.agg #[.int .i64 i109, .int .i64 i110, .int .i64 i111, .int .i64 i112, .bool t113], .int .i64 i114, .int .i64 i115]) rfl rfl (V.mv rfl) ?_
    refine J.val (v := .agg #[.int .i64 i109, .int .i64 i110, .int .i64 i111, .int .i64 i112, .bool t113]) rfl rfl (V.ext rfl rfl) ?_
    refine J.val (v := .int .i64 i114) rfl rfl (V.ext rfl rfl) ?_
    refine J.val (v := .int .i64 i115) rfl rfl (V.ext rfl rfl) ?_
    refine J.op rfl (A.alloc (cs := [.int .i64 0, .int .i64 0, .int .i64 0, .int .i64 0, .bool false]) inf23 rfl) ?_
    rintro _ _ _ ⟨b119, rfl, rfl, rfl⟩
    refine J.op rfl (A.store (v := .agg #[.int .i64 i109, .int .i64 i110, .int .i64 i111, .int .i64 i112, .bool t113]) (cs' := [.int .i64 i109, .int .i64 i110, .int .i64 i111, .int .i64 i112, .bool t113]) sz23 rfl rfl rfl rfl rfl rfl) ?_
    rintro _ _ _ ⟨rfl, rfl, rfl⟩
    refine J.val (v := .int .i64 i114) rfl rfl (V.as rfl) ?_
    refine J.val (v := .int .i64 i115) rfl rfl (V.as rfl) ?_
    refine J.nil ?_
    refine CJ.seq ?_
    refine CJ.region ?_
    refine J.val (v := .string ⟨xa.toArray⟩) rfl rfl (V.mv rfl) ?_
    obtain ⟨r120, hr121, h⟩ := ob h
    refine J.op rfl (A.call (L1 := []) Try.call14 rfl (ref18_Take_ok hr121) rfl rfl) ?_
    rintro _ _ _ ⟨v129, _, rfl, ⟨⟨i122, i123, i124, i125, t126, i127, i128, rfl, rfl, rfl⟩, rfl⟩, _, rfl⟩
    refine J.val (v := .tuple #[.agg #[.int .i64 i122, .int .i64 i123, .int .i64 i124, .int .i64 i125, .bool t126], .int .i64 i127, .int .i64 i128]) rfl rfl (V.mv rfl) ?_
    refine J.val (v := .agg #[.int .i64 i122, .int .i64 i123, .int .i64 i124, .int .i64 i125, .bool t126]) rfl rfl (V.ext rfl rfl) ?_
    refine J.val (v := .int .i64 i127) rfl rfl (V.ext rfl rfl) ?_
    refine J.val (v := .int .i64 i128) rfl rfl (V.ext rfl rfl) ?_
    refine J.op rfl (A.alloc (cs := [.int .i64 0, .int .i64 0, .int .i64 0, .int .i64 0, .bool false]) inf23 rfl) ?_
    rintro _ _ _ ⟨b132, rfl, rfl, rfl⟩
    refine J.op rfl (A.store (v := .agg #[.int .i64 i122, .int .i64 i123, .int .i64 i124, .int .i64 i125, .bool t126]) (cs' := [.int .i64 i122, .int .i64 i123, .int .i64 i124, .int .i64 i125, .bool t126]) sz23 rfl rfl rfl rfl rfl rfl) ?_
    rintro _ _ _ ⟨rfl, rfl, rfl⟩
    refine J.val (v := .int .i64 i127) rfl rfl (V.as rfl) ?_
    refine J.val (v := .int .i64 i128) rfl rfl (V.as rfl) ?_
    refine J.nil ?_
    refine CJ.seq ?_
    refine CJ.seq ?_
    refine CJ.region ?_
    refine J.val (v := .agg #[.int .i64 i109, .int .i64 i110, .int .i64 i111, .int .i64 i112, .bool t113]) rfl rfl (V.ld rfl (Ld.agg (cs := [.int .i64 i109, .int .i64 i110, .int .i64 i111, .int .i64 i112, .bool t113]) Try.underlying23 sz23 rfl (Rd.cls 1 0 rfl rfl))) ?_
    refine J.val (v := .agg #[.int .i64 i122, .int .i64 i123, .int .i64 i124, .int .i64 i125, .bool t126]) rfl rfl (V.ld rfl (Ld.agg (cs := [.int .i64 i122, .int .i64 i123, .int .i64 i124, .int .i64 i125, .bool t126]) Try.underlying23 sz23 rfl (Rd.cls 0 0 rfl rfl))) ?_
    refine J.val (v := .bool (!((decide (i109 = i122)) && ((decide (i110 = i123)) && ((decide (i111 = i124)) && ((decide (i112 = i125)) && (t113 == t126))))))) rfl rfl (V.nest eqg23 (EqIn.st (d := 9999) rfl Try.underlying23 sih23 (EqFs.cons (by decide) (Ld0.sc sc3 rfl) (Ld0.sc sc3 rfl) (EqIn.int (d := 9998) rfl Try.underlying3) (EqFs.cons (by decide) (Ld0.sc sc3 rfl) (Ld0.sc sc3 rfl) (EqIn.int (d := 9998) rfl Try.underlying3) (EqFs.cons (by decide) (Ld0.sc sc3 rfl) (Ld0.sc sc3 rfl) (EqIn.int (d := 9998) rfl Try.underlying3) (EqFs.cons (by decide) (Ld0.sc sc3 rfl) (Ld0.sc sc3 rfl) (EqIn.int (d := 9998) rfl Try.underlying3) (EqFs.last (by decide) (Ld0.sc sc4 rfl) (Ld0.sc sc4 rfl) (EqIn.bool (d := 9998) rfl Try.underlying4))))))) rfl rfl) ?_
    refine J.val (v := .bool (!((decide (i109 = i122)) && ((decide (i110 = i123)) && ((decide (i111 = i124)) && ((decide (i112 = i125)) && (t113 == t126))))))) rfl rfl (V.mv rfl) ?_
    refine J.cut 4 ?_
    refine @J.meet _ _ _ _ _ _ _ _ _ _ (fun ρ K' L' => Fits [(38, .bool ((!((decide (i109 = i122)) && ((decide (i110 = i123)) && ((decide (i111 = i124)) && ((decide (i112 = i125)) && (t113 == t126)))))) || (!decide (i114 = i127)))), (3, .pointer (some ⟨b99, 0, none⟩)), (7, .int .i64 i115), (10, .int .i64 i128)] ρ ∧ K = K' ∧ L' = Cl b132 23 [.int .i64 i122, .int .i64 i123, .int .i64 i124, .int .i64 i125, .bool t126] :: Cl b119 23 [.int .i64 i109, .int .i64 i110, .int .i64 i111, .int .i64 i112, .bool t113] :: Cl b99 23 [.int .i64 xb.1, .int .i64 xb.2.1, .int .i64 xb.2.2.1, .int .i64 xb.2.2.2.1, .bool xb.2.2.2.2] :: F) ?_ ?_
    · skip
      rcases bt (!((decide (i109 = i122)) && ((decide (i110 = i123)) && ((decide (i111 = i124)) && ((decide (i112 = i125)) && (t113 == t126)))))) with hc135 | hc135
      · skip
        refine J.skip rfl rfl rfl rfl hc135 ?_
        refine J.skip rfl rfl rfl rfl hc135 ?_
        refine J.skip rfl rfl rfl rfl hc135 ?_
        refine J.val (v := .bool true) rfl rfl (V.pickT rfl hc135 rfl) ?_
        refine J.nil ?_
        exact ⟨rfl, ⟨(by simp only [hc135]; rfl), rfl, rfl, rfl, trivial⟩, rfl, rfl⟩
      · skip
        refine J.run rfl rfl rfl hc135 ?_
        refine J.val (v := .int .i64 i114) rfl rfl (V.mv rfl) ?_
        refine J.run rfl rfl rfl hc135 ?_
        refine J.val (v := .int .i64 i127) rfl rfl (V.mv rfl) ?_
        refine J.run rfl rfl rfl hc135 ?_
        refine J.val (v := .bool (!decide (i114 = i127))) rfl rfl (V.neq rfl rfl) ?_
        refine J.val (v := .bool (!decide (i114 = i127))) rfl rfl (V.pickF rfl hc135 rfl) ?_
        refine J.nil ?_
        exact ⟨rfl, ⟨(by simp only [hc135]; rfl), rfl, rfl, rfl, trivial⟩, rfl, rfl⟩
    · rintro ρ _ _ ⟨hf, rfl, rfl⟩
      obtain ⟨ρ, rfl⟩ := hf.ex
      refine J.val (v := .bool ((!((decide (i109 = i122)) && ((decide (i110 = i123)) && ((decide (i111 = i124)) && ((decide (i112 = i125)) && (t113 == t126)))))) || (!decide (i114 = i127)))) rfl rfl (V.mv rfl) ?_
      refine J.cut 4 ?_
      refine @J.meet _ _ _ _ _ _ _ _ _ _ (fun ρ K' L' => Fits [(43, .bool (((!((decide (i109 = i122)) && ((decide (i110 = i123)) && ((decide (i111 = i124)) && ((decide (i112 = i125)) && (t113 == t126)))))) || (!decide (i114 = i127))) || (!decide (i115 = i128)))), (3, .pointer (some ⟨b99, 0, none⟩))] ρ ∧ K = K' ∧ L' = Cl b132 23 [.int .i64 i122, .int .i64 i123, .int .i64 i124, .int .i64 i125, .bool t126] :: Cl b119 23 [.int .i64 i109, .int .i64 i110, .int .i64 i111, .int .i64 i112, .bool t113] :: Cl b99 23 [.int .i64 xb.1, .int .i64 xb.2.1, .int .i64 xb.2.2.1, .int .i64 xb.2.2.2.1, .bool xb.2.2.2.2] :: F) ?_ ?_
      · skip
        rcases bt ((!((decide (i109 = i122)) && ((decide (i110 = i123)) && ((decide (i111 = i124)) && ((decide (i112 = i125)) && (t113 == t126)))))) || (!decide (i114 = i127))) with hc138 | hc138
        · skip
          refine J.skip rfl rfl rfl rfl hc138 ?_
          refine J.skip rfl rfl rfl rfl hc138 ?_
          refine J.skip rfl rfl rfl rfl hc138 ?_
          refine J.val (v := .bool true) rfl rfl (V.pickT rfl hc138 rfl) ?_
          refine J.nil ?_
          exact ⟨rfl, ⟨(by simp only [hc138]; rfl), rfl, trivial⟩, rfl, rfl⟩
        · skip
          refine J.run rfl rfl rfl hc138 ?_
          refine J.val (v := .int .i64 i115) rfl rfl (V.mv rfl) ?_
          refine J.run rfl rfl rfl hc138 ?_
          refine J.val (v := .int .i64 i128) rfl rfl (V.mv rfl) ?_
          refine J.run rfl rfl rfl hc138 ?_
          refine J.val (v := .bool (!decide (i115 = i128))) rfl rfl (V.neq rfl rfl) ?_
          refine J.val (v := .bool (!decide (i115 = i128))) rfl rfl (V.pickF rfl hc138 rfl) ?_
          refine J.nil ?_
          exact ⟨rfl, ⟨(by simp only [hc138]; rfl), rfl, trivial⟩, rfl, rfl⟩
      · rintro ρ _ _ ⟨hf, rfl, rfl⟩
        obtain ⟨ρ, rfl⟩ := hf.ex
        refine J.nil ?_
        refine CJ.cond rfl (fun hc139 => ?_) (fun hc139 => ?_)
        · have h := ct hc139 h
          refine CJ.seq ?_
          refine CJ.region ?_
          refine J.val (v := .bool false) rfl rfl (V.as rfl) ?_
          refine J.nil ?_
          refine CJ.ret ?_
          have e := Option.some.inj h
          subst e
          exact ⟨_, [], Res.one rfl rfl, ⟨false, rfl, rfl, rfl⟩, (Hp.le_refl _), fun w hs => (Sep.dropAt 0 rfl (Sep.dropAt 0 rfl (Sep.dropAt 0 rfl hs)))⟩
        · have h := cf hc139 h
          refine CJ.skip ?_
          refine CJ.seq ?_
          refine CJ.seq ?_
          refine CJ.region ?_
          refine J.val rfl rfl (V.fad Try.underlying23 rfl nz3 rfl) ?_
          refine J.val (v := .int .i64 xb.2.1) rfl rfl (V.ld rfl (Ld.sc sc3 (Rd.cl 2 rfl rfl))) ?_
          refine J.val (v := .bool (decide (xb.2.1 < 0))) rfl rfl (V.lss rfl rfl) ?_
          refine J.val (v := .bool (decide (xb.2.1 < 0))) rfl rfl (V.mv rfl) ?_
          refine J.cut 4 ?_
          refine @J.meet _ _ _ _ _ _ _ _ _ _ (fun ρ K' L' => Fits [(51, .bool ((decide (xb.2.1 < 0)) || (decide (xb.2.2.1 < 0)))), (3, .pointer (some ⟨b99, 0, none⟩))] ρ ∧ K = K' ∧ L' = Cl b132 23 [.int .i64 i122, .int .i64 i123, .int .i64 i124, .int .i64 i125, .bool t126] :: Cl b119 23 [.int .i64 i109, .int .i64 i110, .int .i64 i111, .int .i64 i112, .bool t113] :: Cl b99 23 [.int .i64 xb.1, .int .i64 xb.2.1, .int .i64 xb.2.2.1, .int .i64 xb.2.2.2.1, .bool xb.2.2.2.2] :: F) ?_ ?_
          · skip
            rcases bt (decide (xb.2.1 < 0)) with hc142 | hc142
            · skip
              refine J.skip rfl rfl rfl rfl hc142 ?_
              refine J.skip rfl rfl rfl rfl hc142 ?_
              refine J.skip rfl rfl rfl rfl hc142 ?_
              refine J.val (v := .bool true) rfl rfl (V.pickT rfl hc142 rfl) ?_
              refine J.nil ?_
              exact ⟨rfl, ⟨(by simp only [hc142]; rfl), rfl, trivial⟩, rfl, rfl⟩
            · skip
              refine J.run rfl rfl rfl hc142 ?_
              refine J.val rfl rfl (V.fad Try.underlying23 rfl nz3 rfl) ?_
              refine J.run rfl rfl rfl hc142 ?_
              refine J.val (v := .int .i64 xb.2.2.1) rfl rfl (V.ld rfl (Ld.sc sc3 (Rd.cl 2 rfl rfl))) ?_
              refine J.run rfl rfl rfl hc142 ?_
              refine J.val (v := .bool (decide (xb.2.2.1 < 0))) rfl rfl (V.lss rfl rfl) ?_
              refine J.val (v := .bool (decide (xb.2.2.1 < 0))) rfl rfl (V.pickF rfl hc142 rfl) ?_
              refine J.nil ?_
              exact ⟨rfl, ⟨(by simp only [hc142]; rfl), rfl, trivial⟩, rfl, rfl⟩
          · rintro ρ _ _ ⟨hf, rfl, rfl⟩
            obtain ⟨ρ, rfl⟩ := hf.ex
            refine J.val (v := .bool ((decide (xb.2.1 < 0)) || (decide (xb.2.2.1 < 0)))) rfl rfl (V.mv rfl) ?_
            refine J.cut 4 ?_
            refine @J.meet _ _ _ _ _ _ _ _ _ _ (fun ρ K' L' => Fits [(56, .bool (((decide (xb.2.1 < 0)) || (decide (xb.2.2.1 < 0))) || (decide (xb.2.2.2.1 < 0)))), (3, .pointer (some ⟨b99, 0, none⟩))] ρ ∧ K = K' ∧ L' = Cl b132 23 [.int .i64 i122, .int .i64 i123, .int .i64 i124, .int .i64 i125, .bool t126] :: Cl b119 23 [.int .i64 i109, .int .i64 i110, .int .i64 i111, .int .i64 i112, .bool t113] :: Cl b99 23 [.int .i64 xb.1, .int .i64 xb.2.1, .int .i64 xb.2.2.1, .int .i64 xb.2.2.2.1, .bool xb.2.2.2.2] :: F) ?_ ?_
            · skip
              rcases bt ((decide (xb.2.1 < 0)) || (decide (xb.2.2.1 < 0))) with hc145 | hc145
              · skip
                refine J.skip rfl rfl rfl rfl hc145 ?_
                refine J.skip rfl rfl rfl rfl hc145 ?_
                refine J.skip rfl rfl rfl rfl hc145 ?_
                refine J.val (v := .bool true) rfl rfl (V.pickT rfl hc145 rfl) ?_
                refine J.nil ?_
                exact ⟨rfl, ⟨(by simp only [hc145]; rfl), rfl, trivial⟩, rfl, rfl⟩
              · skip
                refine J.run rfl rfl rfl hc145 ?_
                refine J.val rfl rfl (V.fad Try.underlying23 rfl nz3 rfl) ?_
                refine J.run rfl rfl rfl hc145 ?_
                refine J.val (v := .int .i64 xb.2.2.2.1) rfl rfl (V.ld rfl (Ld.sc sc3 (Rd.cl 2 rfl rfl))) ?_
                refine J.run rfl rfl rfl hc145 ?_
                refine J.val (v := .bool (decide (xb.2.2.2.1 < 0))) rfl rfl (V.lss rfl rfl) ?_
                refine J.val (v := .bool (decide (xb.2.2.2.1 < 0))) rfl rfl (V.pickF rfl hc145 rfl) ?_
                refine J.nil ?_
                exact ⟨rfl, ⟨(by simp only [hc145]; rfl), rfl, trivial⟩, rfl, rfl⟩
            · rintro ρ _ _ ⟨hf, rfl, rfl⟩
              obtain ⟨ρ, rfl⟩ := hf.ex
              refine J.val (v := .bool (((decide (xb.2.1 < 0)) || (decide (xb.2.2.1 < 0))) || (decide (xb.2.2.2.1 < 0)))) rfl rfl (V.mv rfl) ?_
              refine J.cut 4 ?_
              refine @J.meet _ _ _ _ _ _ _ _ _ _ (fun ρ K' L' => Fits [(61, .bool ((((decide (xb.2.1 < 0)) || (decide (xb.2.2.1 < 0))) || (decide (xb.2.2.2.1 < 0))) || (decide (2147483648 ≤ xb.2.1)))), (3, .pointer (some ⟨b99, 0, none⟩))] ρ ∧ K = K' ∧ L' = Cl b132 23 [.int .i64 i122, .int .i64 i123, .int .i64 i124, .int .i64 i125, .bool t126] :: Cl b119 23 [.int .i64 i109, .int .i64 i110, .int .i64 i111, .int .i64 i112, .bool t113] :: Cl b99 23 [.int .i64 xb.1, .int .i64 xb.2.1, .int .i64 xb.2.2.1, .int .i64 xb.2.2.2.1, .bool xb.2.2.2.2] :: F) ?_ ?_
              · skip
                rcases bt (((decide (xb.2.1 < 0)) || (decide (xb.2.2.1 < 0))) || (decide (xb.2.2.2.1 < 0))) with hc148 | hc148
                · skip
                  refine J.skip rfl rfl rfl rfl hc148 ?_
                  refine J.skip rfl rfl rfl rfl hc148 ?_
                  refine J.skip rfl rfl rfl rfl hc148 ?_
                  refine J.val (v := .bool true) rfl rfl (V.pickT rfl hc148 rfl) ?_
                  refine J.nil ?_
                  exact ⟨rfl, ⟨(by simp only [hc148]; rfl), rfl, trivial⟩, rfl, rfl⟩
                · skip
                  refine J.run rfl rfl rfl hc148 ?_
                  refine J.val rfl rfl (V.fad Try.underlying23 rfl nz3 rfl) ?_
                  refine J.run rfl rfl rfl hc148 ?_
                  refine J.val (v := .int .i64 xb.2.1) rfl rfl (V.ld rfl (Ld.sc sc3 (Rd.cl 2 rfl rfl))) ?_
                  refine J.run rfl rfl rfl hc148 ?_
                  refine J.val (v := .bool (decide (2147483648 ≤ xb.2.1))) rfl rfl (V.geq rfl rfl) ?_
                  refine J.val (v := .bool (decide (2147483648 ≤ xb.2.1))) rfl rfl (V.pickF rfl hc148 rfl) ?_
                  refine J.nil ?_
                  exact ⟨rfl, ⟨(by simp only [hc148]; rfl), rfl, trivial⟩, rfl, rfl⟩
              · rintro ρ _ _ ⟨hf, rfl, rfl⟩
                obtain ⟨ρ, rfl⟩ := hf.ex
                refine J.val (v := .bool ((((decide (xb.2.1 < 0)) || (decide (xb.2.2.1 < 0))) || (decide (xb.2.2.2.1 < 0))) || (decide (2147483648 ≤ xb.2.1)))) rfl rfl (V.mv rfl) ?_
                refine J.cut 4 ?_
                refine @J.meet _ _ _ _ _ _ _ _ _ _ (fun ρ K' L' => Fits [(66, .bool (((((decide (xb.2.1 < 0)) || (decide (xb.2.2.1 < 0))) || (decide (xb.2.2.2.1 < 0))) || (decide (2147483648 ≤ xb.2.1))) || (decide (2147483648 ≤ xb.2.2.1)))), (3, .pointer (some ⟨b99, 0, none⟩))] ρ ∧ K = K' ∧ L' = Cl b132 23 [.int .i64 i122, .int .i64 i123, .int .i64 i124, .int .i64 i125, .bool t126] :: Cl b119 23 [.int .i64 i109, .int .i64 i110, .int .i64 i111, .int .i64 i112, .bool t113] :: Cl b99 23 [.int .i64 xb.1, .int .i64 xb.2.1, .int .i64 xb.2.2.1, .int .i64 xb.2.2.2.1, .bool xb.2.2.2.2] :: F) ?_ ?_
                · skip
                  rcases bt ((((decide (xb.2.1 < 0)) || (decide (xb.2.2.1 < 0))) || (decide (xb.2.2.2.1 < 0))) || (decide (2147483648 ≤ xb.2.1))) with hc151 | hc151
                  · skip
                    refine J.skip rfl rfl rfl rfl hc151 ?_
                    refine J.skip rfl rfl rfl rfl hc151 ?_
                    refine J.skip rfl rfl rfl rfl hc151 ?_
                    refine J.val (v := .bool true) rfl rfl (V.pickT rfl hc151 rfl) ?_
                    refine J.nil ?_
                    exact ⟨rfl, ⟨(by simp only [hc151]; rfl), rfl, trivial⟩, rfl, rfl⟩
                  · skip
                    refine J.run rfl rfl rfl hc151 ?_
                    refine J.val rfl rfl (V.fad Try.underlying23 rfl nz3 rfl) ?_
                    refine J.run rfl rfl rfl hc151 ?_
                    refine J.val (v := .int .i64 xb.2.2.1) rfl rfl (V.ld rfl (Ld.sc sc3 (Rd.cl 2 rfl rfl))) ?_
                    refine J.run rfl rfl rfl hc151 ?_
                    refine J.val (v := .bool (decide (2147483648 ≤ xb.2.2.1))) rfl rfl (V.geq rfl rfl) ?_
                    refine J.val (v := .bool (decide (2147483648 ≤ xb.2.2.1))) rfl rfl (V.pickF rfl hc151 rfl) ?_
                    refine J.nil ?_
                    exact ⟨rfl, ⟨(by simp only [hc151]; rfl), rfl, trivial⟩, rfl, rfl⟩
                · rintro ρ _ _ ⟨hf, rfl, rfl⟩
                  obtain ⟨ρ, rfl⟩ := hf.ex
                  refine J.val (v := .bool (((((decide (xb.2.1 < 0)) || (decide (xb.2.2.1 < 0))) || (decide (xb.2.2.2.1 < 0))) || (decide (2147483648 ≤ xb.2.1))) || (decide (2147483648 ≤ xb.2.2.1)))) rfl rfl (V.mv rfl) ?_
                  refine J.cut 4 ?_
                  refine @J.meet _ _ _ _ _ _ _ _ _ _ (fun ρ K' L' => Fits [(71, .bool ((((((decide (xb.2.1 < 0)) || (decide (xb.2.2.1 < 0))) || (decide (xb.2.2.2.1 < 0))) || (decide (2147483648 ≤ xb.2.1))) || (decide (2147483648 ≤ xb.2.2.1))) || (decide (2147483648 ≤ xb.2.2.2.1)))), (3, .pointer (some ⟨b99, 0, none⟩))] ρ ∧ K = K' ∧ L' = Cl b132 23 [.int .i64 i122, .int .i64 i123, .int .i64 i124, .int .i64 i125, .bool t126] :: Cl b119 23 [.int .i64 i109, .int .i64 i110, .int .i64 i111, .int .i64 i112, .bool t113] :: Cl b99 23 [.int .i64 xb.1, .int .i64 xb.2.1, .int .i64 xb.2.2.1, .int .i64 xb.2.2.2.1, .bool xb.2.2.2.2] :: F) ?_ ?_
                  · skip
                    rcases bt (((((decide (xb.2.1 < 0)) || (decide (xb.2.2.1 < 0))) || (decide (xb.2.2.2.1 < 0))) || (decide (2147483648 ≤ xb.2.1))) || (decide (2147483648 ≤ xb.2.2.1))) with hc154 | hc154
                    · skip
                      refine J.skip rfl rfl rfl rfl hc154 ?_
                      refine J.skip rfl rfl rfl rfl hc154 ?_
                      refine J.skip rfl rfl rfl rfl hc154 ?_
                      refine J.val (v := .bool true) rfl rfl (V.pickT rfl hc154 rfl) ?_
                      refine J.nil ?_
                      exact ⟨rfl, ⟨(by simp only [hc154]; rfl), rfl, trivial⟩, rfl, rfl⟩
                    · skip
                      refine J.run rfl rfl rfl hc154 ?_
                      refine J.val rfl rfl (V.fad Try.underlying23 rfl nz3 rfl) ?_
                      refine J.run rfl rfl rfl hc154 ?_
                      refine J.val (v := .int .i64 xb.2.2.2.1) rfl rfl (V.ld rfl (Ld.sc sc3 (Rd.cl 2 rfl rfl))) ?_
                      refine J.run rfl rfl rfl hc154 ?_
                      refine J.val (v := .bool (decide (2147483648 ≤ xb.2.2.2.1))) rfl rfl (V.geq rfl rfl) ?_
                      refine J.val (v := .bool (decide (2147483648 ≤ xb.2.2.2.1))) rfl rfl (V.pickF rfl hc154 rfl) ?_
                      refine J.nil ?_
                      exact ⟨rfl, ⟨(by simp only [hc154]; rfl), rfl, trivial⟩, rfl, rfl⟩
                  · rintro ρ _ _ ⟨hf, rfl, rfl⟩
                    obtain ⟨ρ, rfl⟩ := hf.ex
                    refine J.nil ?_
                    refine CJ.cond rfl (fun hc155 => ?_) (fun hc155 => ?_)
                    · have h := ct hc155 h
                      refine CJ.seq ?_
                      refine CJ.region ?_
                      obtain ⟨r156, hr157, h⟩ := ob h
                      refine J.op rfl (A.call (L1 := []) Try.call7 rfl (law18_awake_ok hr157) rfl rfl) ?_
                      rintro _ _ _ ⟨v159, _, rfl, ⟨⟨t158, rfl, rfl, rfl⟩, rfl⟩, _, rfl⟩
                      refine J.val (v := .bool t158) rfl rfl (V.as rfl) ?_
                      refine J.nil ?_
                      refine CJ.ret ?_
                      have e := Option.some.inj h
                      subst e
                      exact ⟨_, [], Res.one rfl rfl, ⟨t158, rfl, rfl, rfl⟩, (Hp.le_refl _), fun w hs => (Sep.dropAt 0 rfl (Sep.dropAt 0 rfl (Sep.dropAt 0 rfl hs)))⟩
                    · have h := cf hc155 h
                      refine CJ.skip ?_
                      refine CJ.seq ?_
                      refine CJ.region ?_
                      refine J.val (v := .agg #[.int .i64 xb.1, .int .i64 xb.2.1, .int .i64 xb.2.2.1, .int .i64 xb.2.2.2.1, .bool xb.2.2.2.2]) rfl rfl (V.ld rfl (Ld.agg (cs := [.int .i64 xb.1, .int .i64 xb.2.1, .int .i64 xb.2.2.1, .int .i64 xb.2.2.2.1, .bool xb.2.2.2.2]) Try.underlying23 sz23 rfl (Rd.cls 2 0 rfl rfl))) ?_
                      obtain ⟨r162, hr163, h⟩ := ob h
                      refine J.op rfl (A.call (L1 := []) Try.call15 rfl (stmt_Put_ok hr163) rfl rfl) ?_
                      rintro _ _ _ ⟨v166, _, rfl, ⟨⟨s164, i165, rfl, rfl, rfl⟩, rfl⟩, _, rfl⟩
                      refine J.val (v := .tuple #[.string ⟨s164.toArray⟩, .int .i64 i165]) rfl rfl (V.mv rfl) ?_
                      refine J.val (v := .string ⟨s164.toArray⟩) rfl rfl (V.ext rfl rfl) ?_
                      refine J.val (v := .int .i64 i165) rfl rfl (V.ext rfl rfl) ?_
                      refine J.val (v := .string ⟨s164.toArray⟩) rfl rfl (V.as rfl) ?_
                      refine J.val (v := .int .i64 i165) rfl rfl (V.as rfl) ?_
                      refine J.nil ?_
                      refine CJ.seq ?_
                      refine CJ.region ?_
                      refine J.val (v := .agg #[.int .i64 xb.1, .int .i64 xb.2.1, .int .i64 xb.2.2.1, .int .i64 xb.2.2.2.1, .bool xb.2.2.2.2]) rfl rfl (V.ld rfl (Ld.agg (cs := [.int .i64 xb.1, .int .i64 xb.2.1, .int .i64 xb.2.2.1, .int .i64 xb.2.2.2.1, .bool xb.2.2.2.2]) Try.underlying23 sz23 rfl (Rd.cls 2 0 rfl rfl))) ?_
                      obtain ⟨r169, hr170, h⟩ := ob h
                      refine J.op rfl (A.call (L1 := []) Try.call16 rfl (ref18_Put_ok hr170) rfl rfl) ?_
                      rintro _ _ _ ⟨v173, _, rfl, ⟨⟨s171, i172, rfl, rfl, rfl⟩, rfl⟩, _, rfl⟩
                      refine J.val (v := .tuple #[.string ⟨s171.toArray⟩, .int .i64 i172]) rfl rfl (V.mv rfl) ?_
                      refine J.val (v := .string ⟨s171.toArray⟩) rfl rfl (V.ext rfl rfl) ?_
                      refine J.val (v := .int .i64 i172) rfl rfl (V.ext rfl rfl) ?_
                      refine J.val (v := .string ⟨s171.toArray⟩) rfl rfl (V.as rfl) ?_
                      refine J.val (v := .int .i64 i172) rfl rfl (V.as rfl) ?_
                      refine J.nil ?_
                      refine CJ.seq ?_
                      refine CJ.region ?_
                      refine J.val (v := .string ⟨s164.toArray⟩) rfl rfl (V.mv rfl) ?_
                      refine J.val (v := .string ⟨s171.toArray⟩) rfl rfl (V.mv rfl) ?_
                      refine J.val (v := .bool (decide (s164 = s171))) rfl rfl (V.eqs rfl rfl) ?_
                      refine J.val (v := .bool (decide (s164 = s171))) rfl rfl (V.mv rfl) ?_
                      refine J.cut 4 ?_
                      refine @J.meet _ _ _ _ _ _ _ _ _ _ (fun ρ K' L' => Fits [(90, .bool ((decide (s164 = s171)) && (decide (i165 = i172))))] ρ ∧ K = K' ∧ L' = Cl b132 23 [.int .i64 i122, .int .i64 i123, .int .i64 i124, .int .i64 i125, .bool t126] :: Cl b119 23 [.int .i64 i109, .int .i64 i110, .int .i64 i111, .int .i64 i112, .bool t113] :: Cl b99 23 [.int .i64 xb.1, .int .i64 xb.2.1, .int .i64 xb.2.2.1, .int .i64 xb.2.2.2.1, .bool xb.2.2.2.2] :: F) ?_ ?_
                      · skip
                        rcases bt (decide (s164 = s171)) with hc178 | hc178
                        · skip
                          refine J.run rfl rfl rfl hc178 ?_
                          refine J.val (v := .int .i64 i165) rfl rfl (V.mv rfl) ?_
                          refine J.run rfl rfl rfl hc178 ?_
                          refine J.val (v := .int .i64 i172) rfl rfl (V.mv rfl) ?_
                          refine J.run rfl rfl rfl hc178 ?_
                          refine J.val (v := .bool (decide (i165 = i172))) rfl rfl (V.eql rfl rfl) ?_
                          refine J.val (v := .bool (decide (i165 = i172))) rfl rfl (V.pickT rfl hc178 rfl) ?_
                          refine J.nil ?_
                          exact ⟨rfl, ⟨(by simp only [hc178]; rfl), trivial⟩, rfl, rfl⟩
                        · skip
                          refine J.skip rfl rfl rfl rfl hc178 ?_
                          refine J.skip rfl rfl rfl rfl hc178 ?_
                          refine J.skip rfl rfl rfl rfl hc178 ?_
                          refine J.val (v := .bool false) rfl rfl (V.pickF rfl hc178 rfl) ?_
                          refine J.nil ?_
                          exact ⟨rfl, ⟨(by simp only [hc178]; rfl), trivial⟩, rfl, rfl⟩
                      · rintro ρ _ _ ⟨hf, rfl, rfl⟩
                        obtain ⟨ρ, rfl⟩ := hf.ex
                        refine J.val (v := .bool ((decide (s164 = s171)) && (decide (i165 = i172)))) rfl rfl (V.mv rfl) ?_
                        refine J.cut 2 ?_
                        obtain ⟨t186, ht187, h⟩ := ob h
                        refine @J.meet _ _ _ _ _ _ _ _ _ _ (fun ρ K' L' => Fits [(93, .bool t186)] ρ ∧ K = K' ∧ L' = Cl b132 23 [.int .i64 i122, .int .i64 i123, .int .i64 i124, .int .i64 i125, .bool t126] :: Cl b119 23 [.int .i64 i109, .int .i64 i110, .int .i64 i111, .int .i64 i112, .bool t113] :: Cl b99 23 [.int .i64 xb.1, .int .i64 xb.2.1, .int .i64 xb.2.2.1, .int .i64 xb.2.2.2.1, .bool xb.2.2.2.2] :: F) ?_ ?_
                        · skip
                          rcases bt ((decide (s164 = s171)) && (decide (i165 = i172))) with hc188 | hc188
                          · have ht187 := ct hc188 ht187
                            refine J.run rfl rfl rfl hc188 ?_
                            obtain ⟨r189, hr190, ht187⟩ := ob ht187
                            refine J.op rfl (A.call (L1 := []) Try.call7 rfl (law18_awake_ok hr190) rfl rfl) ?_
                            rintro _ _ _ ⟨v192, _, rfl, ⟨⟨t191, rfl, rfl, rfl⟩, rfl⟩, _, rfl⟩
                            refine J.val (v := .bool t191) rfl rfl (V.pickT rfl hc188 rfl) ?_
                            refine J.nil ?_
                            have e := Option.some.inj ht187
                            subst e
                            exact ⟨rfl, ⟨rfl, trivial⟩, rfl, rfl⟩
                          · have ht187 := cf hc188 ht187
                            refine J.skip rfl rfl rfl rfl hc188 ?_
                            refine J.val (v := .bool false) rfl rfl (V.pickF rfl hc188 rfl) ?_
                            refine J.nil ?_
                            have e := Option.some.inj ht187
                            subst e
                            exact ⟨rfl, ⟨rfl, trivial⟩, rfl, rfl⟩
                        · rintro ρ _ _ ⟨hf, rfl, rfl⟩
                          obtain ⟨ρ, rfl⟩ := hf.ex
                          refine J.val (v := .bool t186) rfl rfl (V.as rfl) ?_
                          refine J.nil ?_
                          refine CJ.ret ?_
                          have e := Option.some.inj h
                          subst e
                          exact ⟨_, [], Res.one rfl rfl, ⟨t186, rfl, rfl, rfl⟩, (Hp.le_refl _), fun w hs => (Sep.dropAt 0 rfl (Sep.dropAt 0 rfl (Sep.dropAt 0 rfl hs)))⟩

noncomputable def fn_law18_StmtBack (xa : (Int × Int × Int × Int × Bool)) (xb : (List UInt8)) : Option Bool :=
  cond (decide (300 < (((xb.length : Nat) : Int)))) ((fn_law18_awake).bind fun t139 => some (t139)) ((fn_stmt_Take xb).bind fun (i145, i146, i147, i148, t149, i150, i151) => (fn_stmt_Put (i145, i146, i147, i148, t149)).bind fun (s158, i159) => (cond (decide (i151 = 0)) ((cond (!decide (i159 = 0)) (some (true)) ((subL xb 0 i150).bind fun y181 => some (!decide (s158 = y181)))).bind fun t178 => some (t178)) (some (false))).bind fun t172 => cond (t172) (some (false)) (cond ((((((decide (xa.2.1 < 0)) || (decide (xa.2.2.1 < 0))) || (decide (xa.2.2.2.1 < 0))) || (decide (2147483648 ≤ xa.2.1))) || (decide (2147483648 ≤ xa.2.2.1))) || (decide (2147483648 ≤ xa.2.2.2.1))) ((fn_law18_awake).bind fun t202 => some (t202)) ((fn_stmt_Put (xa.1, xa.2.1, xa.2.2.1, xa.2.2.2.1, xa.2.2.2.2)).bind fun (s208, i209) => cond (!decide (i209 = 0)) ((cond (decide (s208 = ([] : List UInt8))) ((fn_law18_awake).bind fun t226 => some (t226)) (some (false))).bind fun t221 => some (t221)) ((app s208 xb).bind fun z230 => (fn_stmt_Take z230).bind fun (i234, i235, i236, i237, t238, i239, i240) => (cond (((decide (i240 = 0)) && (decide (i239 = (((s208.length : Nat) : Int))))) && ((decide (i234 = xa.1)) && ((decide (i235 = xa.2.1)) && ((decide (i236 = xa.2.2.1)) && ((decide (i237 = xa.2.2.2.1)) && (t238 == xa.2.2.2.2)))))) ((fn_law18_awake).bind fun t263 => some (t263)) (some (false))).bind fun t258 => some (t258)))))
set_option maxRecDepth 100000 in
set_option maxHeartbeats 4000000 in
theorem law18_StmtBack_ok {K : Hp} {xa : (Int × Int × Int × Int × Bool)} {xb : (List UInt8)}   {r : Bool} (h : fn_law18_StmtBack xa xb = some r) :
    Tr Try.prog 5 #[.agg #[.int .i64 xa.1, .int .i64 xa.2.1, .int .i64 xa.2.2.1, .int .i64 xa.2.2.2.1, .bool xa.2.2.2.2], .string ⟨xb.toArray⟩] K [] (fun v K' L' => (∃ (t134 : Bool), t134 = r ∧ .bool t134 = v ∧ L' = []) ∧ K = K') := by
  refine Tr.k ?_
  refine Tr.of Try.func5 rfl Try.ntmps5 rfl (fun E F => ?_)
  unfold fn_law18_StmtBack at h
  refine CJ.seq ?_
  refine CJ.region ?_
  refine J.op rfl (A.box (v := .agg #[.int .i64 xa.1, .int .i64 xa.2.1, .int .i64 xa.2.2.1, .int .i64 xa.2.2.2.1, .bool xa.2.2.2.2]) (cs := [.int .i64 xa.1, .int .i64 xa.2.1, .int .i64 xa.2.2.1, .int .i64 xa.2.2.2.1, .bool xa.2.2.2.2]) rfl rfl) ?_
  rintro _ _ _ ⟨b135, rfl, rfl, rfl⟩
  refine J.val (v := .bool false) rfl rfl (V.as rfl) ?_
  refine J.nil ?_
  refine CJ.seq ?_
  refine CJ.seq ?_
  refine CJ.region ?_
  refine J.val (v := .string ⟨xb.toArray⟩) rfl rfl (V.mv rfl) ?_
  refine J.val (v := .int .i64 (((xb.length : Nat) : Int))) rfl rfl (V.lens Try.underlying9 rfl) ?_
  refine J.val (v := .bool (decide (300 < (((xb.length : Nat) : Int))))) rfl rfl (V.gtr rfl rfl) ?_
  refine J.nil ?_
  refine CJ.cond rfl (fun hc136 => ?_) (fun hc136 => ?_)
  · have h := ct hc136 h
    refine CJ.seq ?_
    refine CJ.region ?_
    obtain ⟨r137, hr138, h⟩ := ob h
    refine J.op rfl (A.call (L1 := []) Try.call7 rfl (law18_awake_ok hr138) rfl rfl) ?_
    rintro _ _ _ ⟨v140, _, rfl, ⟨⟨t139, rfl, rfl, rfl⟩, rfl⟩, _, rfl⟩
    refine J.val (v := .bool t139) rfl rfl (V.as rfl) ?_
    refine J.nil ?_
    refine CJ.ret ?_
    have e := Option.some.inj h
    subst e
    exact ⟨_, [], Res.one rfl rfl, ⟨t139, rfl, rfl, rfl⟩, (Hp.le_refl _), fun w hs => (Sep.dropAt 0 rfl hs)⟩
  · have h := cf hc136 h
    refine CJ.skip ?_
    refine CJ.seq ?_
    refine CJ.region ?_
    refine J.val (v := .string ⟨xb.toArray⟩) rfl rfl (V.mv rfl) ?_
    obtain ⟨r143, hr144, h⟩ := ob h
    refine J.op rfl (A.call (L1 := []) Try.call13 rfl (stmt_Take_ok hr144) rfl rfl) ?_
    rintro _ _ _ ⟨v152, _, rfl, ⟨⟨i145, i146, i147, i148, t149, i150, i151, rfl, rfl, rfl⟩, rfl⟩, _, rfl⟩
    refine J.val (v := .tuple #[.agg #[.int .i64 i145, .int .i64 i146, .int .i64 i147, .int .i64 i148, .bool t149], .int .i64 i150, .int .i64 i151]) rfl rfl (V.mv rfl) ?_
    refine J.val (v := .agg #[.int .i64 i145, .int .i64 i146, .int .i64 i147, .int .i64 i148, .bool t149]) rfl rfl (V.ext rfl rfl) ?_
    refine J.val (v := .int .i64 i150) rfl rfl (V.ext rfl rfl) ?_
    refine J.val (v := .int .i64 i151) rfl rfl (V.ext rfl rfl) ?_
    refine J.op rfl (A.alloc (cs := [.int .i64 0, .int .i64 0, .int .i64 0, .int .i64 0, .bool false]) inf23 rfl) ?_
    rintro _ _ _ ⟨b155, rfl, rfl, rfl⟩
    refine J.op rfl (A.store (v := .agg #[.int .i64 i145, .int .i64 i146, .int .i64 i147, .int .i64 i148, .bool t149]) (cs' := [.int .i64 i145, .int .i64 i146, .int .i64 i147, .int .i64 i148, .bool t149]) sz23 rfl rfl rfl rfl rfl rfl) ?_
    rintro _ _ _ ⟨rfl, rfl, rfl⟩
    refine J.val (v := .int .i64 i150) rfl rfl (V.as rfl) ?_
    refine J.val (v := .int .i64 i151) rfl rfl (V.as rfl) ?_
    refine J.nil ?_
    refine CJ.seq ?_
    refine CJ.region ?_
    refine J.val (v := .agg #[.int .i64 i145, .int .i64 i146, .int .i64 i147, .int .i64 i148, .bool t149]) rfl rfl (V.ld rfl (Ld.agg (cs := [.int .i64 i145, .int .i64 i146, .int .i64 i147, .int .i64 i148, .bool t149]) Try.underlying23 sz23 rfl (Rd.cls 0 0 rfl rfl))) ?_
    obtain ⟨r156, hr157, h⟩ := ob h
    refine J.op rfl (A.call (L1 := []) Try.call15 rfl (stmt_Put_ok hr157) rfl rfl) ?_
    rintro _ _ _ ⟨v160, _, rfl, ⟨⟨s158, i159, rfl, rfl, rfl⟩, rfl⟩, _, rfl⟩
    refine J.val (v := .tuple #[.string ⟨s158.toArray⟩, .int .i64 i159]) rfl rfl (V.mv rfl) ?_
    refine J.val (v := .string ⟨s158.toArray⟩) rfl rfl (V.ext rfl rfl) ?_
    refine J.val (v := .int .i64 i159) rfl rfl (V.ext rfl rfl) ?_
    refine J.val (v := .string ⟨s158.toArray⟩) rfl rfl (V.as rfl) ?_
    refine J.val (v := .int .i64 i159) rfl rfl (V.as rfl) ?_
    refine J.nil ?_
    refine CJ.seq ?_
    refine CJ.seq ?_
    refine CJ.region ?_
    refine J.val (v := .int .i64 i151) rfl rfl (V.mv rfl) ?_
    refine J.val (v := .bool (decide (i151 = 0))) rfl rfl (V.eql rfl rfl) ?_
    refine J.val (v := .bool (decide (i151 = 0))) rfl rfl (V.mv rfl) ?_
    refine J.cut 10 ?_
    obtain ⟨t172, ht173, h⟩ := ob h
    refine @J.meet _ _ _ _ _ _ _ _ _ _ (fun ρ K' L' => Fits [(42, .bool t172), (1, .string ⟨xb.toArray⟩), (2, .pointer (some ⟨b135, 0, none⟩))] ρ ∧ K = K' ∧ L' = Cl b155 23 [.int .i64 i145, .int .i64 i146, .int .i64 i147, .int .i64 i148, .bool t149] :: Cl b135 23 [.int .i64 xa.1, .int .i64 xa.2.1, .int .i64 xa.2.2.1, .int .i64 xa.2.2.2.1, .bool xa.2.2.2.2] :: F) ?_ ?_
    · skip
      rcases bt (decide (i151 = 0)) with hc174 | hc174
      · have ht173 := ct hc174 ht173
        refine J.run rfl rfl rfl hc174 ?_
        refine J.val (v := .int .i64 i159) rfl rfl (V.mv rfl) ?_
        refine J.run rfl rfl rfl hc174 ?_
        refine J.val (v := .bool (!decide (i159 = 0))) rfl rfl (V.neq rfl rfl) ?_
        refine J.run rfl rfl rfl hc174 ?_
        refine J.val (v := .bool (!decide (i159 = 0))) rfl rfl (V.mv rfl) ?_
        refine J.cut 6 ?_
        obtain ⟨t178, ht179, ht173⟩ := ob ht173
        refine @J.meet _ _ _ _ _ _ _ _ _ _ (fun ρ K' L' => Fits [(41, .bool t178), (1, .string ⟨xb.toArray⟩), (2, .pointer (some ⟨b135, 0, none⟩)), (32, .bool (decide (i151 = 0)))] ρ ∧ K = K' ∧ L' = Cl b155 23 [.int .i64 i145, .int .i64 i146, .int .i64 i147, .int .i64 i148, .bool t149] :: Cl b135 23 [.int .i64 xa.1, .int .i64 xa.2.1, .int .i64 xa.2.2.1, .int .i64 xa.2.2.2.1, .bool xa.2.2.2.2] :: F) ?_ ?_
        · skip
          rcases bt (!decide (i159 = 0)) with hc180 | hc180
          · have ht179 := ct hc180 ht179
            refine J.skip rfl rfl rfl rfl hc180 ?_
            refine J.skip rfl rfl rfl rfl hc180 ?_
            refine J.skip rfl rfl rfl rfl hc180 ?_
            refine J.skip rfl rfl rfl rfl hc180 ?_
            refine J.skip rfl rfl rfl rfl hc180 ?_
            refine J.run rfl rfl rfl hc174 ?_
            refine J.val (v := .bool true) rfl rfl (V.pickT rfl hc180 rfl) ?_
            refine J.nil ?_
            have e := Option.some.inj ht179
            subst e
            exact ⟨rfl, ⟨rfl, rfl, rfl, rfl, trivial⟩, rfl, rfl⟩
          · have ht179 := cf hc180 ht179
            refine J.run rfl rfl rfl hc180 ?_
            refine J.val (v := .string ⟨s158.toArray⟩) rfl rfl (V.mv rfl) ?_
            refine J.run rfl rfl rfl hc180 ?_
            refine J.val (v := .string ⟨xb.toArray⟩) rfl rfl (V.mv rfl) ?_
            refine J.run rfl rfl rfl hc180 ?_
            refine J.val (v := .int .i64 i150) rfl rfl (V.mv rfl) ?_
            refine J.run rfl rfl rfl hc180 ?_
            obtain ⟨y181, hy182, ht179⟩ := ob ht179
            refine J.val (v := .string ⟨y181.toArray⟩) rfl rfl (V.subs Try.underlying9 rfl nofun (fun _ => rfl) (fun _ h => by cases h; exact ⟨_, rfl⟩) nofun hy182) ?_
            refine J.run rfl rfl rfl hc180 ?_
            refine J.val (v := .bool (!decide (s158 = y181))) rfl rfl (V.nes rfl rfl) ?_
            refine J.run rfl rfl rfl hc174 ?_
            refine J.val (v := .bool (!decide (s158 = y181))) rfl rfl (V.pickF rfl hc180 rfl) ?_
            refine J.nil ?_
            have e := Option.some.inj ht179
            subst e
            exact ⟨rfl, ⟨rfl, rfl, rfl, rfl, trivial⟩, rfl, rfl⟩
        · rintro ρ _ _ ⟨hf, rfl, rfl⟩
          obtain ⟨ρ, rfl⟩ := hf.ex
          refine J.val (v := .bool t178) rfl rfl (V.pickT rfl hc174 rfl) ?_
          refine J.nil ?_
          have e := Option.some.inj ht173
          subst e
          exact ⟨rfl, ⟨rfl, rfl, rfl, trivial⟩, rfl, rfl⟩
      · have ht173 := cf hc174 ht173
        refine J.skip rfl rfl rfl rfl hc174 ?_
        refine J.skip rfl rfl rfl rfl hc174 ?_
        refine J.skip rfl rfl rfl rfl hc174 ?_
        refine J.skipu rfl rfl rfl rfl ?_
        refine J.skipu rfl rfl rfl rfl ?_
        refine J.skipu rfl rfl rfl rfl ?_
        refine J.skipu rfl rfl rfl rfl ?_
        refine J.skipu rfl rfl rfl rfl ?_
        refine J.skip rfl rfl rfl rfl hc174 ?_
        refine J.val (v := .bool false) rfl rfl (V.pickF rfl hc174 rfl) ?_
        refine J.nil ?_
        have e := Option.some.inj ht173
        subst e
        exact ⟨rfl, ⟨rfl, rfl, rfl, trivial⟩, rfl, rfl⟩
    · rintro ρ _ _ ⟨hf, rfl, rfl⟩
      obtain ⟨ρ, rfl⟩ := hf.ex
      refine J.nil ?_
      refine CJ.cond rfl (fun hc183 => ?_) (fun hc183 => ?_)
      · have h := ct hc183 h
        refine CJ.seq ?_
        refine CJ.region ?_
        refine J.val (v := .bool false) rfl rfl (V.as rfl) ?_
        refine J.nil ?_
        refine CJ.ret ?_
        have e := Option.some.inj h
        subst e
        exact ⟨_, [], Res.one rfl rfl, ⟨false, rfl, rfl, rfl⟩, (Hp.le_refl _), fun w hs => (Sep.dropAt 0 rfl (Sep.dropAt 0 rfl hs))⟩
      · have h := cf hc183 h
        refine CJ.skip ?_
        refine CJ.seq ?_
        refine CJ.seq ?_
        refine CJ.region ?_
        refine J.val rfl rfl (V.fad Try.underlying23 rfl nz3 rfl) ?_
        refine J.val (v := .int .i64 xa.2.1) rfl rfl (V.ld rfl (Ld.sc sc3 (Rd.cl 1 rfl rfl))) ?_
        refine J.val (v := .bool (decide (xa.2.1 < 0))) rfl rfl (V.lss rfl rfl) ?_
        refine J.val (v := .bool (decide (xa.2.1 < 0))) rfl rfl (V.mv rfl) ?_
        refine J.cut 4 ?_
        refine @J.meet _ _ _ _ _ _ _ _ _ _ (fun ρ K' L' => Fits [(50, .bool ((decide (xa.2.1 < 0)) || (decide (xa.2.2.1 < 0)))), (1, .string ⟨xb.toArray⟩), (2, .pointer (some ⟨b135, 0, none⟩))] ρ ∧ K = K' ∧ L' = Cl b155 23 [.int .i64 i145, .int .i64 i146, .int .i64 i147, .int .i64 i148, .bool t149] :: Cl b135 23 [.int .i64 xa.1, .int .i64 xa.2.1, .int .i64 xa.2.2.1, .int .i64 xa.2.2.2.1, .bool xa.2.2.2.2] :: F) ?_ ?_
        · skip
          rcases bt (decide (xa.2.1 < 0)) with hc186 | hc186
          · skip
            refine J.skip rfl rfl rfl rfl hc186 ?_
            refine J.skip rfl rfl rfl rfl hc186 ?_
            refine J.skip rfl rfl rfl rfl hc186 ?_
            refine J.val (v := .bool true) rfl rfl (V.pickT rfl hc186 rfl) ?_
            refine J.nil ?_
            exact ⟨rfl, ⟨(by simp only [hc186]; rfl), rfl, rfl, trivial⟩, rfl, rfl⟩
          · skip
            refine J.run rfl rfl rfl hc186 ?_
            refine J.val rfl rfl (V.fad Try.underlying23 rfl nz3 rfl) ?_
            refine J.run rfl rfl rfl hc186 ?_
            refine J.val (v := .int .i64 xa.2.2.1) rfl rfl (V.ld rfl (Ld.sc sc3 (Rd.cl 1 rfl rfl))) ?_
            refine J.run rfl rfl rfl hc186 ?_
            refine J.val (v := .bool (decide (xa.2.2.1 < 0))) rfl rfl (V.lss rfl rfl) ?_
            refine J.val (v := .bool (decide (xa.2.2.1 < 0))) rfl rfl (V.pickF rfl hc186 rfl) ?_
            refine J.nil ?_
            exact ⟨rfl, ⟨(by simp only [hc186]; rfl), rfl, rfl, trivial⟩, rfl, rfl⟩
        · rintro ρ _ _ ⟨hf, rfl, rfl⟩
          obtain ⟨ρ, rfl⟩ := hf.ex
          refine J.val (v := .bool ((decide (xa.2.1 < 0)) || (decide (xa.2.2.1 < 0)))) rfl rfl (V.mv rfl) ?_
          refine J.cut 4 ?_
          refine @J.meet _ _ _ _ _ _ _ _ _ _ (fun ρ K' L' => Fits [(55, .bool (((decide (xa.2.1 < 0)) || (decide (xa.2.2.1 < 0))) || (decide (xa.2.2.2.1 < 0)))), (1, .string ⟨xb.toArray⟩), (2, .pointer (some ⟨b135, 0, none⟩))] ρ ∧ K = K' ∧ L' = Cl b155 23 [.int .i64 i145, .int .i64 i146, .int .i64 i147, .int .i64 i148, .bool t149] :: Cl b135 23 [.int .i64 xa.1, .int .i64 xa.2.1, .int .i64 xa.2.2.1, .int .i64 xa.2.2.2.1, .bool xa.2.2.2.2] :: F) ?_ ?_
          · skip
            rcases bt ((decide (xa.2.1 < 0)) || (decide (xa.2.2.1 < 0))) with hc189 | hc189
            · skip
              refine J.skip rfl rfl rfl rfl hc189 ?_
              refine J.skip rfl rfl rfl rfl hc189 ?_
              refine J.skip rfl rfl rfl rfl hc189 ?_
              refine J.val (v := .bool true) rfl rfl (V.pickT rfl hc189 rfl) ?_
              refine J.nil ?_
              exact ⟨rfl, ⟨(by simp only [hc189]; rfl), rfl, rfl, trivial⟩, rfl, rfl⟩
            · skip
              refine J.run rfl rfl rfl hc189 ?_
              refine J.val rfl rfl (V.fad Try.underlying23 rfl nz3 rfl) ?_
              refine J.run rfl rfl rfl hc189 ?_
              refine J.val (v := .int .i64 xa.2.2.2.1) rfl rfl (V.ld rfl (Ld.sc sc3 (Rd.cl 1 rfl rfl))) ?_
              refine J.run rfl rfl rfl hc189 ?_
              refine J.val (v := .bool (decide (xa.2.2.2.1 < 0))) rfl rfl (V.lss rfl rfl) ?_
              refine J.val (v := .bool (decide (xa.2.2.2.1 < 0))) rfl rfl (V.pickF rfl hc189 rfl) ?_
              refine J.nil ?_
              exact ⟨rfl, ⟨(by simp only [hc189]; rfl), rfl, rfl, trivial⟩, rfl, rfl⟩
          · rintro ρ _ _ ⟨hf, rfl, rfl⟩
            obtain ⟨ρ, rfl⟩ := hf.ex
            refine J.val (v := .bool (((decide (xa.2.1 < 0)) || (decide (xa.2.2.1 < 0))) || (decide (xa.2.2.2.1 < 0)))) rfl rfl (V.mv rfl) ?_
            refine J.cut 4 ?_
            refine @J.meet _ _ _ _ _ _ _ _ _ _ (fun ρ K' L' => Fits [(60, .bool ((((decide (xa.2.1 < 0)) || (decide (xa.2.2.1 < 0))) || (decide (xa.2.2.2.1 < 0))) || (decide (2147483648 ≤ xa.2.1)))), (1, .string ⟨xb.toArray⟩), (2, .pointer (some ⟨b135, 0, none⟩))] ρ ∧ K = K' ∧ L' = Cl b155 23 [.int .i64 i145, .int .i64 i146, .int .i64 i147, .int .i64 i148, .bool t149] :: Cl b135 23 [.int .i64 xa.1, .int .i64 xa.2.1, .int .i64 xa.2.2.1, .int .i64 xa.2.2.2.1, .bool xa.2.2.2.2] :: F) ?_ ?_
            · skip
              rcases bt (((decide (xa.2.1 < 0)) || (decide (xa.2.2.1 < 0))) || (decide (xa.2.2.2.1 < 0))) with hc192 | hc192
              · skip
                refine J.skip rfl rfl rfl rfl hc192 ?_
                refine J.skip rfl rfl rfl rfl hc192 ?_
                refine J.skip rfl rfl rfl rfl hc192 ?_
                refine J.val (v := .bool true) rfl rfl (V.pickT rfl hc192 rfl) ?_
                refine J.nil ?_
                exact ⟨rfl, ⟨(by simp only [hc192]; rfl), rfl, rfl, trivial⟩, rfl, rfl⟩
              · skip
                refine J.run rfl rfl rfl hc192 ?_
                refine J.val rfl rfl (V.fad Try.underlying23 rfl nz3 rfl) ?_
                refine J.run rfl rfl rfl hc192 ?_
                refine J.val (v := .int .i64 xa.2.1) rfl rfl (V.ld rfl (Ld.sc sc3 (Rd.cl 1 rfl rfl))) ?_
                refine J.run rfl rfl rfl hc192 ?_
                refine J.val (v := .bool (decide (2147483648 ≤ xa.2.1))) rfl rfl (V.geq rfl rfl) ?_
                refine J.val (v := .bool (decide (2147483648 ≤ xa.2.1))) rfl rfl (V.pickF rfl hc192 rfl) ?_
                refine J.nil ?_
                exact ⟨rfl, ⟨(by simp only [hc192]; rfl), rfl, rfl, trivial⟩, rfl, rfl⟩
            · rintro ρ _ _ ⟨hf, rfl, rfl⟩
              obtain ⟨ρ, rfl⟩ := hf.ex
              refine J.val (v := .bool ((((decide (xa.2.1 < 0)) || (decide (xa.2.2.1 < 0))) || (decide (xa.2.2.2.1 < 0))) || (decide (2147483648 ≤ xa.2.1)))) rfl rfl (V.mv rfl) ?_
              refine J.cut 4 ?_
              refine @J.meet _ _ _ _ _ _ _ _ _ _ (fun ρ K' L' => Fits [(65, .bool (((((decide (xa.2.1 < 0)) || (decide (xa.2.2.1 < 0))) || (decide (xa.2.2.2.1 < 0))) || (decide (2147483648 ≤ xa.2.1))) || (decide (2147483648 ≤ xa.2.2.1)))), (1, .string ⟨xb.toArray⟩), (2, .pointer (some ⟨b135, 0, none⟩))] ρ ∧ K = K' ∧ L' = Cl b155 23 [.int .i64 i145, .int .i64 i146, .int .i64 i147, .int .i64 i148, .bool t149] :: Cl b135 23 [.int .i64 xa.1, .int .i64 xa.2.1, .int .i64 xa.2.2.1, .int .i64 xa.2.2.2.1, .bool xa.2.2.2.2] :: F) ?_ ?_
              · skip
                rcases bt ((((decide (xa.2.1 < 0)) || (decide (xa.2.2.1 < 0))) || (decide (xa.2.2.2.1 < 0))) || (decide (2147483648 ≤ xa.2.1))) with hc195 | hc195
                · skip
                  refine J.skip rfl rfl rfl rfl hc195 ?_
                  refine J.skip rfl rfl rfl rfl hc195 ?_
                  refine J.skip rfl rfl rfl rfl hc195 ?_
                  refine J.val (v := .bool true) rfl rfl (V.pickT rfl hc195 rfl) ?_
                  refine J.nil ?_
                  exact ⟨rfl, ⟨(by simp only [hc195]; rfl), rfl, rfl, trivial⟩, rfl, rfl⟩
                · skip
                  refine J.run rfl rfl rfl hc195 ?_
                  refine J.val rfl rfl (V.fad Try.underlying23 rfl nz3 rfl) ?_
                  refine J.run rfl rfl rfl hc195 ?_
                  refine J.val (v := .int .i64 xa.2.2.1) rfl rfl (V.ld rfl (Ld.sc sc3 (Rd.cl 1 rfl rfl))) ?_
                  refine J.run rfl rfl rfl hc195 ?_
                  refine J.val (v := .bool (decide (2147483648 ≤ xa.2.2.1))) rfl rfl (V.geq rfl rfl) ?_
                  refine J.val (v := .bool (decide (2147483648 ≤ xa.2.2.1))) rfl rfl (V.pickF rfl hc195 rfl) ?_
                  refine J.nil ?_
                  exact ⟨rfl, ⟨(by simp only [hc195]; rfl), rfl, rfl, trivial⟩, rfl, rfl⟩
              · rintro ρ _ _ ⟨hf, rfl, rfl⟩
                obtain ⟨ρ, rfl⟩ := hf.ex
                refine J.val (v := .bool (((((decide (xa.2.1 < 0)) || (decide (xa.2.2.1 < 0))) || (decide (xa.2.2.2.1 < 0))) || (decide (2147483648 ≤ xa.2.1))) || (decide (2147483648 ≤ xa.2.2.1)))) rfl rfl (V.mv rfl) ?_
                refine J.cut 4 ?_
                refine @J.meet _ _ _ _ _ _ _ _ _ _ (fun ρ K' L' => Fits [(70, .bool ((((((decide (xa.2.1 < 0)) || (decide (xa.2.2.1 < 0))) || (decide (xa.2.2.2.1 < 0))) || (decide (2147483648 ≤ xa.2.1))) || (decide (2147483648 ≤ xa.2.2.1))) || (decide (2147483648 ≤ xa.2.2.2.1)))), (1, .string ⟨xb.toArray⟩), (2, .pointer (some ⟨b135, 0, none⟩))] ρ ∧ K = K' ∧ L' = Cl b155 23 [.int .i64 i145, .int .i64 i146, .int .i64 i147, .int .i64 i148, .bool t149] :: Cl b135 23 [.int .i64 xa.1, .int .i64 xa.2.1, .int .i64 xa.2.2.1, .int .i64 xa.2.2.2.1, .bool xa.2.2.2.2] :: F) ?_ ?_
                · skip
                  rcases bt (((((decide (xa.2.1 < 0)) || (decide (xa.2.2.1 < 0))) || (decide (xa.2.2.2.1 < 0))) || (decide (2147483648 ≤ xa.2.1))) || (decide (2147483648 ≤ xa.2.2.1))) with hc198 | hc198
                  · skip
                    refine J.skip rfl rfl rfl rfl hc198 ?_
                    refine J.skip rfl rfl rfl rfl hc198 ?_
                    refine J.skip rfl rfl rfl rfl hc198 ?_
                    refine J.val (v := .bool true) rfl rfl (V.pickT rfl hc198 rfl) ?_
                    refine J.nil ?_
                    exact ⟨rfl, ⟨(by simp only [hc198]; rfl), rfl, rfl, trivial⟩, rfl, rfl⟩
                  · skip
                    refine J.run rfl rfl rfl hc198 ?_
                    refine J.val rfl rfl (V.fad Try.underlying23 rfl nz3 rfl) ?_
                    refine J.run rfl rfl rfl hc198 ?_
                    refine J.val (v := .int .i64 xa.2.2.2.1) rfl rfl (V.ld rfl (Ld.sc sc3 (Rd.cl 1 rfl rfl))) ?_
                    refine J.run rfl rfl rfl hc198 ?_
                    refine J.val (v := .bool (decide (2147483648 ≤ xa.2.2.2.1))) rfl rfl (V.geq rfl rfl) ?_
                    refine J.val (v := .bool (decide (2147483648 ≤ xa.2.2.2.1))) rfl rfl (V.pickF rfl hc198 rfl) ?_
                    refine J.nil ?_
                    exact ⟨rfl, ⟨(by simp only [hc198]; rfl), rfl, rfl, trivial⟩, rfl, rfl⟩
                · rintro ρ _ _ ⟨hf, rfl, rfl⟩
                  obtain ⟨ρ, rfl⟩ := hf.ex
                  refine J.nil ?_
                  refine CJ.cond rfl (fun hc199 => ?_) (fun hc199 => ?_)
                  · have h := ct hc199 h
                    refine CJ.seq ?_
                    refine CJ.region ?_
                    obtain ⟨r200, hr201, h⟩ := ob h
                    refine J.op rfl (A.call (L1 := []) Try.call7 rfl (law18_awake_ok hr201) rfl rfl) ?_
                    rintro _ _ _ ⟨v203, _, rfl, ⟨⟨t202, rfl, rfl, rfl⟩, rfl⟩, _, rfl⟩
                    refine J.val (v := .bool t202) rfl rfl (V.as rfl) ?_
                    refine J.nil ?_
                    refine CJ.ret ?_
                    have e := Option.some.inj h
                    subst e
                    exact ⟨_, [], Res.one rfl rfl, ⟨t202, rfl, rfl, rfl⟩, (Hp.le_refl _), fun w hs => (Sep.dropAt 0 rfl (Sep.dropAt 0 rfl hs))⟩
                  · have h := cf hc199 h
                    refine CJ.skip ?_
                    refine CJ.seq ?_
                    refine CJ.region ?_
                    refine J.val (v := .agg #[.int .i64 xa.1, .int .i64 xa.2.1, .int .i64 xa.2.2.1, .int .i64 xa.2.2.2.1, .bool xa.2.2.2.2]) rfl rfl (V.ld rfl (Ld.agg (cs := [.int .i64 xa.1, .int .i64 xa.2.1, .int .i64 xa.2.2.1, .int .i64 xa.2.2.2.1, .bool xa.2.2.2.2]) Try.underlying23 sz23 rfl (Rd.cls 1 0 rfl rfl))) ?_
                    obtain ⟨r206, hr207, h⟩ := ob h
                    refine J.op rfl (A.call (L1 := []) Try.call15 rfl (stmt_Put_ok hr207) rfl rfl) ?_
                    rintro _ _ _ ⟨v210, _, rfl, ⟨⟨s208, i209, rfl, rfl, rfl⟩, rfl⟩, _, rfl⟩
                    refine J.val (v := .tuple #[.string ⟨s208.toArray⟩, .int .i64 i209]) rfl rfl (V.mv rfl) ?_
                    refine J.val (v := .string ⟨s208.toArray⟩) rfl rfl (V.ext rfl rfl) ?_
                    refine J.val (v := .int .i64 i209) rfl rfl (V.ext rfl rfl) ?_
                    refine J.val (v := .string ⟨s208.toArray⟩) rfl rfl (V.as rfl) ?_
                    refine J.val (v := .int .i64 i209) rfl rfl (V.as rfl) ?_
                    refine J.nil ?_
                    refine CJ.seq ?_
                    refine CJ.seq ?_
                    refine CJ.region ?_
                    refine J.val (v := .int .i64 i209) rfl rfl (V.mv rfl) ?_
                    refine J.val (v := .bool (!decide (i209 = 0))) rfl rfl (V.neq rfl rfl) ?_
                    refine J.nil ?_
                    refine CJ.cond rfl (fun hc213 => ?_) (fun hc213 => ?_)
                    · have h := ct hc213 h
                      refine CJ.seq ?_
                      refine CJ.region ?_
                      refine J.val (v := .string ⟨s208.toArray⟩) rfl rfl (V.mv rfl) ?_
                      refine J.val (v := .bool (decide (s208 = ([] : List UInt8)))) rfl rfl (V.eqs rfl rfl) ?_
                      refine J.val (v := .bool (decide (s208 = ([] : List UInt8)))) rfl rfl (V.mv rfl) ?_
                      refine J.cut 2 ?_
                      obtain ⟨t221, ht222, h⟩ := ob h
                      refine @J.meet _ _ _ _ _ _ _ _ _ _ (fun ρ K' L' => Fits [(83, .bool t221)] ρ ∧ K = K' ∧ L' = Cl b155 23 [.int .i64 i145, .int .i64 i146, .int .i64 i147, .int .i64 i148, .bool t149] :: Cl b135 23 [.int .i64 xa.1, .int .i64 xa.2.1, .int .i64 xa.2.2.1, .int .i64 xa.2.2.2.1, .bool xa.2.2.2.2] :: F) ?_ ?_
                      · skip
                        rcases bt (decide (s208 = ([] : List UInt8))) with hc223 | hc223
                        · have ht222 := ct hc223 ht222
                          refine J.run rfl rfl rfl hc223 ?_
                          obtain ⟨r224, hr225, ht222⟩ := ob ht222
                          refine J.op rfl (A.call (L1 := []) Try.call7 rfl (law18_awake_ok hr225) rfl rfl) ?_
                          rintro _ _ _ ⟨v227, _, rfl, ⟨⟨t226, rfl, rfl, rfl⟩, rfl⟩, _, rfl⟩
                          refine J.val (v := .bool t226) rfl rfl (V.pickT rfl hc223 rfl) ?_
                          refine J.nil ?_
                          have e := Option.some.inj ht222
                          subst e
                          exact ⟨rfl, ⟨rfl, trivial⟩, rfl, rfl⟩
                        · have ht222 := cf hc223 ht222
                          refine J.skip rfl rfl rfl rfl hc223 ?_
                          refine J.val (v := .bool false) rfl rfl (V.pickF rfl hc223 rfl) ?_
                          refine J.nil ?_
                          have e := Option.some.inj ht222
                          subst e
                          exact ⟨rfl, ⟨rfl, trivial⟩, rfl, rfl⟩
                      · rintro ρ _ _ ⟨hf, rfl, rfl⟩
                        obtain ⟨ρ, rfl⟩ := hf.ex
                        refine J.val (v := .bool t221) rfl rfl (V.as rfl) ?_
                        refine J.nil ?_
                        refine CJ.ret ?_
                        have e := Option.some.inj h
                        subst e
                        exact ⟨_, [], Res.one rfl rfl, ⟨t221, rfl, rfl, rfl⟩, (Hp.le_refl _), fun w hs => (Sep.dropAt 0 rfl (Sep.dropAt 0 rfl hs))⟩
                    · have h := cf hc213 h
                      refine CJ.skip ?_
                      refine CJ.seq ?_
                      refine CJ.region ?_
                      refine J.val (v := .string ⟨s208.toArray⟩) rfl rfl (V.mv rfl) ?_
                      refine J.val (v := .string ⟨xb.toArray⟩) rfl rfl (V.mv rfl) ?_
                      obtain ⟨z230, hz231, h⟩ := ob h
                      refine J.val (v := .string ⟨z230.toArray⟩) rfl rfl (V.cat rfl rfl hz231) ?_
                      obtain ⟨r232, hr233, h⟩ := ob h
                      refine J.op rfl (A.call (L1 := []) Try.call13 rfl (stmt_Take_ok hr233) rfl rfl) ?_
                      rintro _ _ _ ⟨v241, _, rfl, ⟨⟨i234, i235, i236, i237, t238, i239, i240, rfl, rfl, rfl⟩, rfl⟩, _, rfl⟩
                      refine J.val (v := .tuple #[.agg #[.int .i64 i234, .int .i64 i235, .int .i64 i236, .int .i64 i237, .bool t238], .int .i64 i239, .int .i64 i240]) rfl rfl (V.mv rfl) ?_
                      refine J.val (v := .agg #[.int .i64 i234, .int .i64 i235, .int .i64 i236, .int .i64 i237, .bool t238]) rfl rfl (V.ext rfl rfl) ?_
                      refine J.val (v := .int .i64 i239) rfl rfl (V.ext rfl rfl) ?_
                      refine J.val (v := .int .i64 i240) rfl rfl (V.ext rfl rfl) ?_
                      refine J.op rfl (A.alloc (cs := [.int .i64 0, .int .i64 0, .int .i64 0, .int .i64 0, .bool false]) inf23 rfl) ?_
                      rintro _ _ _ ⟨b244, rfl, rfl, rfl⟩
                      refine J.op rfl (A.store (v := .agg #[.int .i64 i234, .int .i64 i235, .int .i64 i236, .int .i64 i237, .bool t238]) (cs' := [.int .i64 i234, .int .i64 i235, .int .i64 i236, .int .i64 i237, .bool t238]) sz23 rfl rfl rfl rfl rfl rfl) ?_
                      rintro _ _ _ ⟨rfl, rfl, rfl⟩
                      refine J.val (v := .int .i64 i239) rfl rfl (V.as rfl) ?_
                      refine J.val (v := .int .i64 i240) rfl rfl (V.as rfl) ?_
                      refine J.nil ?_
                      refine CJ.seq ?_
                      refine CJ.region ?_
                      refine J.val (v := .int .i64 i240) rfl rfl (V.mv rfl) ?_
                      refine J.val (v := .bool (decide (i240 = 0))) rfl rfl (V.eql rfl rfl) ?_
                      refine J.val (v := .bool (decide (i240 = 0))) rfl rfl (V.mv rfl) ?_
                      refine J.cut 5 ?_
                      refine @J.meet _ _ _ _ _ _ _ _ _ _ (fun ρ K' L' => Fits [(99, .bool ((decide (i240 = 0)) && (decide (i239 = (((s208.length : Nat) : Int)))))), (2, .pointer (some ⟨b135, 0, none⟩)), (12, .pointer (some ⟨b244, 0, none⟩))] ρ ∧ K = K' ∧ L' = Cl b244 23 [.int .i64 i234, .int .i64 i235, .int .i64 i236, .int .i64 i237, .bool t238] :: Cl b155 23 [.int .i64 i145, .int .i64 i146, .int .i64 i147, .int .i64 i148, .bool t149] :: Cl b135 23 [.int .i64 xa.1, .int .i64 xa.2.1, .int .i64 xa.2.2.1, .int .i64 xa.2.2.2.1, .bool xa.2.2.2.2] :: F) ?_ ?_
                      · skip
                        rcases bt (decide (i240 = 0)) with hc247 | hc247
                        · skip
                          refine J.run rfl rfl rfl hc247 ?_
                          refine J.val (v := .int .i64 i239) rfl rfl (V.mv rfl) ?_
                          refine J.run rfl rfl rfl hc247 ?_
                          refine J.val (v := .string ⟨s208.toArray⟩) rfl rfl (V.mv rfl) ?_
                          refine J.run rfl rfl rfl hc247 ?_
                          refine J.val (v := .int .i64 (((s208.length : Nat) : Int))) rfl rfl (V.lens Try.underlying9 rfl) ?_
                          refine J.run rfl rfl rfl hc247 ?_
                          refine J.val (v := .bool (decide (i239 = (((s208.length : Nat) : Int))))) rfl rfl (V.eql rfl rfl) ?_
                          refine J.val (v := .bool (decide (i239 = (((s208.length : Nat) : Int))))) rfl rfl (V.pickT rfl hc247 rfl) ?_
                          refine J.nil ?_
                          exact ⟨rfl, ⟨(by simp only [hc247]; rfl), rfl, rfl, trivial⟩, rfl, rfl⟩
                        · skip
                          refine J.skip rfl rfl rfl rfl hc247 ?_
                          refine J.skip rfl rfl rfl rfl hc247 ?_
                          refine J.skip rfl rfl rfl rfl hc247 ?_
                          refine J.skip rfl rfl rfl rfl hc247 ?_
                          refine J.val (v := .bool false) rfl rfl (V.pickF rfl hc247 rfl) ?_
                          refine J.nil ?_
                          exact ⟨rfl, ⟨(by simp only [hc247]; rfl), rfl, rfl, trivial⟩, rfl, rfl⟩
                      · rintro ρ _ _ ⟨hf, rfl, rfl⟩
                        obtain ⟨ρ, rfl⟩ := hf.ex
                        refine J.val (v := .bool ((decide (i240 = 0)) && (decide (i239 = (((s208.length : Nat) : Int)))))) rfl rfl (V.mv rfl) ?_
                        refine J.cut 4 ?_
                        refine @J.meet _ _ _ _ _ _ _ _ _ _ (fun ρ K' L' => Fits [(104, .bool (((decide (i240 = 0)) && (decide (i239 = (((s208.length : Nat) : Int))))) && ((decide (i234 = xa.1)) && ((decide (i235 = xa.2.1)) && ((decide (i236 = xa.2.2.1)) && ((decide (i237 = xa.2.2.2.1)) && (t238 == xa.2.2.2.2)))))))] ρ ∧ K = K' ∧ L' = Cl b244 23 [.int .i64 i234, .int .i64 i235, .int .i64 i236, .int .i64 i237, .bool t238] :: Cl b155 23 [.int .i64 i145, .int .i64 i146, .int .i64 i147, .int .i64 i148, .bool t149] :: Cl b135 23 [.int .i64 xa.1, .int .i64 xa.2.1, .int .i64 xa.2.2.1, .int .i64 xa.2.2.2.1, .bool xa.2.2.2.2] :: F) ?_ ?_
                        · skip
                          rcases bt ((decide (i240 = 0)) && (decide (i239 = (((s208.length : Nat) : Int))))) with hc250 | hc250
                          · skip
                            refine J.run rfl rfl rfl hc250 ?_
                            refine J.val (v := .agg #[.int .i64 i234, .int .i64 i235, .int .i64 i236, .int .i64 i237, .bool t238]) rfl rfl (V.ld rfl (Ld.agg (cs := [.int .i64 i234, .int .i64 i235, .int .i64 i236, .int .i64 i237, .bool t238]) Try.underlying23 sz23 rfl (Rd.cls 0 0 rfl rfl))) ?_
                            refine J.run rfl rfl rfl hc250 ?_
                            refine J.val (v := .agg #[.int .i64 xa.1, .int .i64 xa.2.1, .int .i64 xa.2.2.1, .int .i64 xa.2.2.2.1, .bool xa.2.2.2.2]) rfl rfl (V.ld rfl (Ld.agg (cs := [.int .i64 xa.1, .int .i64 xa.2.1, .int .i64 xa.2.2.1, .int .i64 xa.2.2.2.1, .bool xa.2.2.2.2]) Try.underlying23 sz23 rfl (Rd.cls 2 0 rfl rfl))) ?_
                            refine J.run rfl rfl rfl hc250 ?_
                            refine J.val (v := .bool ((decide (i234 = xa.1)) && ((decide (i235 = xa.2.1)) && ((decide (i236 = xa.2.2.1)) && ((decide (i237 = xa.2.2.2.1)) && (t238 == xa.2.2.2.2)))))) rfl rfl (V.eqst eqg23 (EqIn.st (d := 9999) rfl Try.underlying23 sih23 (EqFs.cons (by decide) (Ld0.sc sc3 rfl) (Ld0.sc sc3 rfl) (EqIn.int (d := 9998) rfl Try.underlying3) (EqFs.cons (by decide) (Ld0.sc sc3 rfl) (Ld0.sc sc3 rfl) (EqIn.int (d := 9998) rfl Try.underlying3) (EqFs.cons (by decide) (Ld0.sc sc3 rfl) (Ld0.sc sc3 rfl) (EqIn.int (d := 9998) rfl Try.underlying3) (EqFs.cons (by decide) (Ld0.sc sc3 rfl) (Ld0.sc sc3 rfl) (EqIn.int (d := 9998) rfl Try.underlying3) (EqFs.last (by decide) (Ld0.sc sc4 rfl) (Ld0.sc sc4 rfl) (EqIn.bool (d := 9998) rfl Try.underlying4))))))) rfl rfl) ?_
                            refine J.val (v := .bool ((decide (i234 = xa.1)) && ((decide (i235 = xa.2.1)) && ((decide (i236 = xa.2.2.1)) && ((decide (i237 = xa.2.2.2.1)) && (t238 == xa.2.2.2.2)))))) rfl rfl (V.pickT rfl hc250 rfl) ?_
                            refine J.nil ?_
                            exact ⟨rfl, ⟨(by simp only [hc250]; rfl), trivial⟩, rfl, rfl⟩
                          · skip
                            refine J.skip rfl rfl rfl rfl hc250 ?_
                            refine J.skip rfl rfl rfl rfl hc250 ?_
                            refine J.skip rfl rfl rfl rfl hc250 ?_
                            refine J.val (v := .bool false) rfl rfl (V.pickF rfl hc250 rfl) ?_
                            refine J.nil ?_
                            exact ⟨rfl, ⟨(by simp only [hc250]; rfl), trivial⟩, rfl, rfl⟩
                        · rintro ρ _ _ ⟨hf, rfl, rfl⟩
                          obtain ⟨ρ, rfl⟩ := hf.ex
                          refine J.val (v := .bool (((decide (i240 = 0)) && (decide (i239 = (((s208.length : Nat) : Int))))) && ((decide (i234 = xa.1)) && ((decide (i235 = xa.2.1)) && ((decide (i236 = xa.2.2.1)) && ((decide (i237 = xa.2.2.2.1)) && (t238 == xa.2.2.2.2))))))) rfl rfl (V.mv rfl) ?_
                          refine J.cut 2 ?_
                          obtain ⟨t258, ht259, h⟩ := ob h
                          refine @J.meet _ _ _ _ _ _ _ _ _ _ (fun ρ K' L' => Fits [(107, .bool t258)] ρ ∧ K = K' ∧ L' = Cl b244 23 [.int .i64 i234, .int .i64 i235, .int .i64 i236, .int .i64 i237, .bool t238] :: Cl b155 23 [.int .i64 i145, .int .i64 i146, .int .i64 i147, .int .i64 i148, .bool t149] :: Cl b135 23 [.int .i64 xa.1, .int .i64 xa.2.1, .int .i64 xa.2.2.1, .int .i64 xa.2.2.2.1, .bool xa.2.2.2.2] :: F) ?_ ?_
                          · skip
                            rcases bt (((decide (i240 = 0)) && (decide (i239 = (((s208.length : Nat) : Int))))) && ((decide (i234 = xa.1)) && ((decide (i235 = xa.2.1)) && ((decide (i236 = xa.2.2.1)) && ((decide (i237 = xa.2.2.2.1)) && (t238 == xa.2.2.2.2)))))) with hc260 | hc260
                            · have ht259 := ct hc260 ht259
                              refine J.run rfl rfl rfl hc260 ?_
                              obtain ⟨r261, hr262, ht259⟩ := ob ht259
                              refine J.op rfl (A.call (L1 := []) Try.call7 rfl (law18_awake_ok hr262) rfl rfl) ?_
                              rintro _ _ _ ⟨v264, _, rfl, ⟨⟨t263, rfl, rfl, rfl⟩, rfl⟩, _, rfl⟩
                              refine J.val (v := .bool t263) rfl rfl (V.pickT rfl hc260 rfl) ?_
                              refine J.nil ?_
                              have e := Option.some.inj ht259
                              subst e
                              exact ⟨rfl, ⟨rfl, trivial⟩, rfl, rfl⟩
                            · have ht259 := cf hc260 ht259
                              refine J.skip rfl rfl rfl rfl hc260 ?_
                              refine J.val (v := .bool false) rfl rfl (V.pickF rfl hc260 rfl) ?_
                              refine J.nil ?_
                              have e := Option.some.inj ht259
                              subst e
                              exact ⟨rfl, ⟨rfl, trivial⟩, rfl, rfl⟩
                          · rintro ρ _ _ ⟨hf, rfl, rfl⟩
                            obtain ⟨ρ, rfl⟩ := hf.ex
                            refine J.val (v := .bool t258) rfl rfl (V.as rfl) ?_
                            refine J.nil ?_
                            refine CJ.ret ?_
                            have e := Option.some.inj h
                            subst e
                            exact ⟨_, [], Res.one rfl rfl, ⟨t258, rfl, rfl, rfl⟩, (Hp.le_refl _), fun w hs => (Sep.dropAt 0 rfl (Sep.dropAt 0 rfl (Sep.dropAt 0 rfl hs)))⟩
end Go.Proofs.Ytaaicohpbafegaa
