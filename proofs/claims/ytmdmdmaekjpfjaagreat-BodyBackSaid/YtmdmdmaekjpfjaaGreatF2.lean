import Derived.Test.YtmdmdmaekjpfjaaGreatF1
namespace Go.Proofs.YtmdmdmaekjpfjaaGreat
open Go.RowKit
set_option linter.unusedVariables false
set_option linter.unnecessarySimpa false
set_option linter.unusedSimpArgs false
set_option maxRecDepth 20000
noncomputable def fn_leb_Take_l1 (xa : (List UInt8)) (x100 : UInt8) : (Int × Int) → Option ((Int × Int) ⊕ Int) := fun ((i153, i154) : (Int × Int)) => cond (decide (i154 ≤ (IntKind.wrap .i64 ((IntKind.wrap .i64 (((x100.toNat : Nat) : Int))) - 247)))) ((getI xa i154).bind fun x168 => some (.inl ((IntKind.wrap .i64 ((BitVec.ofInt (IntKind.bits .i64) (IntKind.wrap .i64 (i153 * 2 ^ (min (Int.toNat 8) (IntKind.bits .i64)))) ||| BitVec.ofInt (IntKind.bits .i64) (IntKind.wrap .i64 (((x168.toNat : Nat) : Int)))).toNat : Int), IntKind.wrap .i64 (i154 + 1))))) (some (.inr (i153)))
noncomputable def fn_leb_Take (xa : (List UInt8)) : Option (Int × Int × Int) :=
  cond (decide (xa = ([] : List UInt8))) (some ((0, 0, 4))) ((getI xa 0).bind fun x100 => cond (decide ((IntKind.wrap .i64 (((x100.toNat : Nat) : Int))) < 248)) (some ((IntKind.wrap .i64 (((x100.toNat : Nat) : Int)), 1, 0))) ((fn_leb_digits 4294967295).bind fun i108 => cond (decide (i108 < (IntKind.wrap .i64 ((IntKind.wrap .i64 (((x100.toNat : Nat) : Int))) - 247)))) (some ((0, 0, 3))) (cond (decide ((((xa.length : Nat) : Int)) ≤ (IntKind.wrap .i64 ((IntKind.wrap .i64 (((x100.toNat : Nat) : Int))) - 247)))) (some ((0, 0, 4))) ((loop (fn_leb_Take_l1 xa x100) (0, 1) : Option Int).bind fun i142 => (cond (decide (i142 < 248)) (some (true)) ((fn_leb_digits i142).bind fun i187 => some (decide (i187 < (IntKind.wrap .i64 ((IntKind.wrap .i64 (((x100.toNat : Nat) : Int))) - 247)))))).bind fun t182 => cond (t182) (some ((0, 0, 3))) (some ((i142, IntKind.wrap .i64 (1 + (IntKind.wrap .i64 ((IntKind.wrap .i64 (((x100.toNat : Nat) : Int))) - 247))), 0)))))))
set_option maxRecDepth 100000 in
set_option maxHeartbeats 4000000 in
theorem leb_Take_ok {K : Hp} {xa : (List UInt8)}   {r : (Int × Int × Int)} (h : fn_leb_Take xa = some r) :
    Tr Tryz.prog 63 #[.string ⟨xa.toArray⟩] K [] (fun v K' L' => (∃ (i96 : Int) (i97 : Int) (i98 : Int), (i96, i97, i98) = r ∧ .tuple #[ii i96, ii i97, ii i98] = v ∧ L' = []) ∧ K = K') := by
 refine Tr.k <| Tr.of Tryz.func63 rfl Tryz.ntmps63 rfl fun E F => ?_
 unfold fn_leb_Take at h
 refine cr <| ja (ii 0) rfl <| ja (ii 0) rfl <| ja (ii 0) rfl <| J.nil <| CJ.seq ?_
 refine cr <| jm (.string ⟨xa.toArray⟩) rfl <| jv (.bool (decide (xa = ([] : List UInt8)))) (V.eqs rfl rfl) <| J.nil <| cc rfl h (fun hc99 h => ?_) fun hc99 h => ?_
 · refine cr <| ja (ii 0) rfl <| ja (ii 0) rfl <| ja (ii 4) rfl <| J.nil <| CJ.ret ?_
   obtain rfl := si h
   exact ⟨_, _, Res.three rfl rfl rfl rfl, ⟨0, 0, 4, rfl, rfl, rfl⟩, (Hp.le_refl _), fun w hs => hs⟩
 refine CJ.skip <| cr <| jm (.string ⟨xa.toArray⟩) rfl ?_
 obtain ⟨x100, hx101, h⟩ := ob h
 obtain ⟨p102, p103, p104⟩ := getI_some hx101
 refine jv (.int .u8 (((x100.toNat : Nat) : Int))) (V.ixs Tryz.underlying9 rfl rfl p102 p103) <| jv (ii (IntKind.wrap .i64 (((x100.toNat : Nat) : Int)))) (V.conv Tryz.underlying5 Tryz.underlying3 rfl) <| ja (ii (IntKind.wrap .i64 (((x100.toNat : Nat) : Int)))) rfl <| J.nil <| CJ.seq <| CJ.seq <| CJ.region ?_
 refine jm (ii (IntKind.wrap .i64 (((x100.toNat : Nat) : Int)))) rfl <| jv (.bool (decide ((IntKind.wrap .i64 (((x100.toNat : Nat) : Int))) < 248))) (V.lss rfl rfl) <| J.nil <| cc rfl h (fun hc105 h => ?_) fun hc105 h => ?_
 · refine cr <| jm (ii (IntKind.wrap .i64 (((x100.toNat : Nat) : Int)))) rfl <| ja (ii (IntKind.wrap .i64 (((x100.toNat : Nat) : Int)))) rfl <| ja (ii 1) rfl <| ja (ii 0) rfl <| J.nil ?_
   refine CJ.ret ?_
   obtain rfl := si h
   exact ⟨_, _, Res.three rfl rfl rfl rfl, ⟨IntKind.wrap .i64 (((x100.toNat : Nat) : Int)), 1, 0, rfl, rfl, rfl⟩, (Hp.le_refl _), fun w hs => hs⟩
 refine CJ.skip <| cr <| jm (ii (IntKind.wrap .i64 (((x100.toNat : Nat) : Int)))) rfl <| jv (ii (IntKind.wrap .i64 ((IntKind.wrap .i64 (((x100.toNat : Nat) : Int))) - 247))) (V.sub rfl rfl) <| ja (ii (IntKind.wrap .i64 ((IntKind.wrap .i64 (((x100.toNat : Nat) : Int))) - 247))) rfl <| J.nil ?_
 refine CJ.seq <| cr <| jm (ii (IntKind.wrap .i64 ((IntKind.wrap .i64 (((x100.toNat : Nat) : Int))) - 247))) rfl ?_
 obtain ⟨r106, hr107, h⟩ := ob h
 refine J.op rfl (A.call (L1 := []) Tryz.call99 rfl (leb_digits_ok hr107) rfl rfl) ?_
 rintro _ _ _ ⟨v109, _, rfl, ⟨⟨i108, rfl, rfl, rfl⟩, rfl⟩, _, rfl⟩
 refine jv (.bool (decide (i108 < (IntKind.wrap .i64 ((IntKind.wrap .i64 (((x100.toNat : Nat) : Int))) - 247))))) (V.gtr rfl rfl) <| J.nil <| cc rfl h (fun hc112 h => ?_) fun hc112 h => ?_
 · refine cr <| ja (ii 0) rfl <| ja (ii 0) rfl <| ja (ii 3) rfl <| J.nil <| CJ.ret ?_
   obtain rfl := si h
   exact ⟨_, _, Res.three rfl rfl rfl rfl, ⟨0, 0, 3, rfl, rfl, rfl⟩, (Hp.le_refl _), fun w hs => hs⟩
 refine CJ.skip <| CJ.seq <| cr <| jm (.string ⟨xa.toArray⟩) rfl <| jv (ii (((xa.length : Nat) : Int))) (V.lens Tryz.underlying9 rfl) <| jm (ii (IntKind.wrap .i64 ((IntKind.wrap .i64 (((x100.toNat : Nat) : Int))) - 247))) rfl ?_
 refine jv (.bool (decide ((((xa.length : Nat) : Int)) ≤ (IntKind.wrap .i64 ((IntKind.wrap .i64 (((x100.toNat : Nat) : Int))) - 247))))) (V.leq rfl rfl) <| J.nil <| cc rfl h (fun hc113 h => ?_) fun hc113 h => ?_
 · refine cr <| ja (ii 0) rfl <| ja (ii 0) rfl <| ja (ii 4) rfl <| J.nil <| CJ.ret ?_
   obtain rfl := si h
   exact ⟨_, _, Res.three rfl rfl rfl rfl, ⟨0, 0, 4, rfl, rfl, rfl⟩, (Hp.le_refl _), fun w hs => hs⟩
 refine CJ.skip <| cr <| ja (ii 0) rfl <| J.nil <| CJ.seq <| CJ.seq ?_
 refine CJ.region <| ja (ii 1) rfl <| J.nil ?_
 obtain ⟨o143, ho144, h⟩ := ob h
 refine CJ.meetN (fun ρ K' L' => ∃ (i142 : Int), i142 = o143 ∧ Fits [(6, ii (IntKind.wrap .i64 ((IntKind.wrap .i64 (((x100.toNat : Nat) : Int))) - 247))), (7, ii i142)] ρ ∧ K = K' ∧ F = L') ?_ ?_
 · refine CJ.block <| CJ.loop (fun s ρ K' L' => ∃ (i153 : Int) (i154 : Int), (i153, i154) = s ∧ Fits [(0, .string ⟨xa.toArray⟩), (6, ii (IntKind.wrap .i64 ((IntKind.wrap .i64 (((x100.toNat : Nat) : Int))) - 247))), (7, ii i153), (8, ii i154)] ρ ∧ K = K' ∧ F = L') ho144 ⟨0, 1, rfl, ⟨rfl, rfl, rfl, rfl, trivial⟩, rfl, rfl⟩ ?_
   rintro s ρ _ _ r166 ⟨i153, i154, rfl, hf164, rfl, rfl⟩ h163
   obtain ⟨ρ, rfl⟩ := hf164.ex
   refine CJ.seq <| cr <| jm (ii i154) rfl <| jm (ii (IntKind.wrap .i64 ((IntKind.wrap .i64 (((x100.toNat : Nat) : Int))) - 247))) rfl <| jv (.bool (decide (i154 ≤ (IntKind.wrap .i64 ((IntKind.wrap .i64 (((x100.toNat : Nat) : Int))) - 247))))) (V.leq rfl rfl) <| J.nil ?_
   refine cc rfl h163 (fun hc167 h163 => ?_) fun hc167 h163 => ?_
   · refine CJ.skip <| CJ.seq <| CJ.block <| CJ.region <| jm (ii i153) rfl <| jv (ii (IntKind.wrap .i64 (i153 * 2 ^ (min (Int.toNat 8) (IntKind.bits .i64))))) (V.shl rfl rfl (by decide)) <| jm (.string ⟨xa.toArray⟩) rfl ?_
     refine jm (ii i154) rfl ?_
     obtain ⟨x168, hx169, h163⟩ := ob h163
     obtain ⟨p170, p171, p172⟩ := getI_some hx169
     refine jv (.int .u8 (((x168.toNat : Nat) : Int))) (V.ixs Tryz.underlying9 rfl rfl p170 p171) <| jv (ii (IntKind.wrap .i64 (((x168.toNat : Nat) : Int)))) (V.conv Tryz.underlying5 Tryz.underlying3 rfl) <| jv (ii (IntKind.wrap .i64 ((BitVec.ofInt (IntKind.bits .i64) (IntKind.wrap .i64 (i153 * 2 ^ (min (Int.toNat 8) (IntKind.bits .i64)))) ||| BitVec.ofInt (IntKind.bits .i64) (IntKind.wrap .i64 (((x168.toNat : Nat) : Int)))).toNat : Int))) (V.or rfl rfl) <| ja (ii (IntKind.wrap .i64 ((BitVec.ofInt (IntKind.bits .i64) (IntKind.wrap .i64 (i153 * 2 ^ (min (Int.toNat 8) (IntKind.bits .i64)))) ||| BitVec.ofInt (IntKind.bits .i64) (IntKind.wrap .i64 (((x168.toNat : Nat) : Int)))).toNat : Int))) rfl <| J.nil <| CJ.region <| jm (ii i154) rfl ?_
     refine jv (ii (IntKind.wrap .i64 (i154 + 1))) (V.add rfl rfl) <| ja (ii (IntKind.wrap .i64 (i154 + 1))) rfl <| J.nil ?_
     obtain rfl := si h163
     exact ⟨rfl, ⟨IntKind.wrap .i64 ((BitVec.ofInt (IntKind.bits .i64) (IntKind.wrap .i64 (i153 * 2 ^ (min (Int.toNat 8) (IntKind.bits .i64)))) ||| BitVec.ofInt (IntKind.bits .i64) (IntKind.wrap .i64 (((x168.toNat : Nat) : Int)))).toNat : Int), IntKind.wrap .i64 (i154 + 1), rfl, ⟨rfl, rfl, rfl, rfl, trivial⟩, rfl, rfl⟩⟩
   refine CJ.exit ?_
   obtain rfl := si h163
   refine ⟨nofun, fun e => ?_⟩
   subst e
   exact ⟨rfl, ⟨i153, rfl, ⟨rfl, rfl, trivial⟩, rfl, rfl⟩⟩
 rintro ρ _ _ ⟨i142, rfl, hf173, rfl, rfl⟩
 obtain ⟨ρ, rfl⟩ := hf173.ex
 refine PJ.done <| CJ.seq <| cr <| jm (ii i142) rfl <| jv (.bool (decide (i142 < 248))) (V.lss rfl rfl) <| jm (.bool (decide (i142 < 248))) rfl ?_
 refine J.cut 5 ?_
 obtain ⟨t182, ht183, h⟩ := ob h
 refine jmeet [(45, .bool t182), (6, ii (IntKind.wrap .i64 ((IntKind.wrap .i64 (((x100.toNat : Nat) : Int))) - 247))), (7, ii i142)] ?_ ?_
 · rcases bt (decide (i142 < 248)) with hc184 | hc184
   · have ht183 := ct hc184 ht183
     refine J.skip rfl rfl rfl rfl hc184 <| J.skip rfl rfl rfl rfl hc184 <| J.skip rfl rfl rfl rfl hc184 <| J.skip rfl rfl rfl rfl hc184 <| jv (.bool true) (V.pickT rfl hc184 rfl) <| J.nil ?_
     obtain rfl := si ht183
     exact ⟨rfl, ⟨rfl, rfl, rfl, trivial⟩, rfl, rfl⟩
   have ht183 := cf hc184 ht183
   refine J.run rfl rfl rfl hc184 <| jm (ii i142) rfl <| J.run rfl rfl rfl hc184 ?_
   obtain ⟨r185, hr186, ht183⟩ := ob ht183
   refine J.op rfl (A.call (L1 := []) Tryz.call99 rfl (leb_digits_ok hr186) rfl rfl) ?_
   rintro _ _ _ ⟨v188, _, rfl, ⟨⟨i187, rfl, rfl, rfl⟩, rfl⟩, _, rfl⟩
   refine J.run rfl rfl rfl hc184 <| jm (ii (IntKind.wrap .i64 ((IntKind.wrap .i64 (((x100.toNat : Nat) : Int))) - 247))) rfl <| J.run rfl rfl rfl hc184 <| jv (.bool (decide (i187 < (IntKind.wrap .i64 ((IntKind.wrap .i64 (((x100.toNat : Nat) : Int))) - 247))))) (V.lss rfl rfl) <| jv (.bool (decide (i187 < (IntKind.wrap .i64 ((IntKind.wrap .i64 (((x100.toNat : Nat) : Int))) - 247))))) (V.pickF rfl hc184 rfl) <| J.nil ?_
   obtain rfl := si ht183
   exact ⟨rfl, ⟨rfl, rfl, rfl, trivial⟩, rfl, rfl⟩
 intro ρ
 refine J.nil <| cc rfl h (fun hc191 h => ?_) fun hc191 h => ?_
 · refine cr <| ja (ii 0) rfl <| ja (ii 0) rfl <| ja (ii 3) rfl <| J.nil <| CJ.ret ?_
   obtain rfl := si h
   exact ⟨_, _, Res.three rfl rfl rfl rfl, ⟨0, 0, 3, rfl, rfl, rfl⟩, (Hp.le_refl _), fun w hs => hs⟩
 refine CJ.skip <| cr <| jm (ii i142) rfl <| jm (ii (IntKind.wrap .i64 ((IntKind.wrap .i64 (((x100.toNat : Nat) : Int))) - 247))) rfl <| jv (ii (IntKind.wrap .i64 (1 + (IntKind.wrap .i64 ((IntKind.wrap .i64 (((x100.toNat : Nat) : Int))) - 247))))) (V.add rfl rfl) <| ja (ii i142) rfl ?_
 refine ja (ii (IntKind.wrap .i64 (1 + (IntKind.wrap .i64 ((IntKind.wrap .i64 (((x100.toNat : Nat) : Int))) - 247))))) rfl <| ja (ii 0) rfl <| J.nil <| CJ.ret ?_
 obtain rfl := si h
 exact ⟨_, _, Res.three rfl rfl rfl rfl, ⟨i142, IntKind.wrap .i64 (1 + (IntKind.wrap .i64 ((IntKind.wrap .i64 (((x100.toNat : Nat) : Int))) - 247))), 0, rfl, rfl, rfl⟩, (Hp.le_refl _), fun w hs => hs⟩

noncomputable def fn_body_one_int_p0_leb_Take__sii (qa0 : List UInt8) (qa1 : Int) (qa2 : Int) : Option (Int × List UInt8 × Int × Int) :=
  cond (!decide (qa2 = 0)) (some ((0, qa0, qa1, qa2))) ((fn_leb_Take qa0).bind fun (i21, i22, i23) => cond (!decide (i23 = 0)) (some ((0, qa0, qa1, i23))) ((subL qa0 i22 (((qa0.length : Nat) : Int))).bind fun y28 => some ((i21, y28, IntKind.wrap .i64 (qa1 + 1), qa2))))
set_option maxRecDepth 100000 in
set_option maxHeartbeats 4000000 in
theorem body_one_int_p0_leb_Take__sii_ok {K : Hp} {qa0 : List UInt8} {qa1 : Int} {qa2 : Int} {pba : Nat}  {r : (Int × List UInt8 × Int × Int)} (h : fn_body_one_int_p0_leb_Take__sii qa0 qa1 qa2 = some r) :
    Tr Tryz.prog 62 #[.pointer (some ⟨pba, 0, none⟩), .func (.func 63) #[] #[]] K [Cl pba 54 [.string ⟨qa0.toArray⟩, ii qa1, ii qa2]] (fun v K' L' => (∃ (i13 : Int) (s14 : List UInt8) (i15 : Int) (i17 : Int), (i13, s14, i15, i17) = r ∧ ii i13 = v ∧ L' = [Cl pba 54 [.string ⟨s14.toArray⟩, ii i15, ii i17]]) ∧ K = K') := by
 refine Tr.k <| Tr.of Tryz.func62 rfl Tryz.ntmps62 rfl fun E F => ?_
 unfold fn_body_one_int_p0_leb_Take__sii at h
 refine cr <| ja (ii 0) rfl <| J.nil <| cr <| ja (ii 0) rfl ?_
 refine J.nil <| CJ.seq <| cr <| jm _ rfl <| jv _ (V.nck rfl) <| jv _ (V.fad Tryz.underlying54 rfl nz35 rfl) ?_
 refine jv (ii qa2) (V.ld rfl (Ld.sc sc35 (Rd.cl 0 rfl rfl))) <| jv (.bool (!decide (qa2 = 0))) (V.neq rfl rfl) <| J.nil <| cc rfl h (fun hc18 h => ?_) fun hc18 h => ?_
 · refine cr <| jm (ii 0) rfl <| ja (ii 0) rfl <| J.nil <| CJ.ret ?_
   obtain rfl := si h
   exact ⟨_, _, Res.one rfl rfl, ⟨0, qa0, qa1, qa2, rfl, rfl, rfl⟩, (Hp.le_refl _), fun w hs => hs⟩
 refine CJ.skip <| cr <| jm (.func (.func 63) #[] #[]) rfl <| jm _ rfl <| jv _ (V.nck rfl) <| jv _ (V.fad Tryz.underlying54 rfl nz9 rfl) ?_
 refine jv (.string ⟨qa0.toArray⟩) (V.ld rfl (Ld.sc sc9 (Rd.cl 0 rfl rfl))) ?_
 obtain ⟨r19, hr20, h⟩ := ob h
 refine J.op rfl (A.call (L1 := []) Tryz.call63 rfl (leb_Take_ok hr20) rfl rfl) ?_
 rintro _ _ _ ⟨v24, _, rfl, ⟨⟨i21, i22, i23, rfl, rfl, rfl⟩, rfl⟩, _, rfl⟩
 refine jm (.tuple #[ii i21, ii i22, ii i23]) rfl <| jx (ii i21) rfl rfl <| jx (ii i22) rfl rfl <| jx (ii i23) rfl rfl <| ja (ii i21) rfl <| ja (ii i22) rfl <| ja (ii i23) rfl ?_
 refine J.nil <| CJ.seq <| cr <| jm (ii i23) rfl <| jv (.bool (!decide (i23 = 0))) (V.neq rfl rfl) <| J.nil ?_
 refine cc rfl h (fun hc27 h => ?_) fun hc27 h => ?_
 · refine cr <| jm _ rfl <| jm (ii i23) rfl <| jv _ (V.nck rfl) <| jv _ (V.fad Tryz.underlying54 rfl nz35 rfl) <| js1 [.string ⟨qa0.toArray⟩, ii qa1, ii i23] sz35 rfl rfl rfl rfl rfl rfl ?_
   refine J.nil <| cr <| jm (ii 0) rfl <| ja (ii 0) rfl <| J.nil <| CJ.ret ?_
   obtain rfl := si h
   exact ⟨_, _, Res.one rfl rfl, ⟨0, qa0, qa1, i23, rfl, rfl, rfl⟩, (Hp.le_refl _), fun w hs => hs⟩
 refine CJ.skip <| cr <| jm _ rfl <| jm _ rfl <| jv _ (V.nck rfl) <| jv _ (V.fad Tryz.underlying54 rfl nz9 rfl) ?_
 refine jv (.string ⟨qa0.toArray⟩) (V.ld rfl (Ld.sc sc9 (Rd.cl 0 rfl rfl))) <| jm (ii i22) rfl ?_
 obtain ⟨y28, hy29, h⟩ := ob h
 refine jv (.string ⟨y28.toArray⟩) (V.subs Tryz.underlying9 rfl (fun _ h => by cases h; exact ⟨_, rfl⟩) nofun nofun (fun _ => rfl) hy29) <| jv _ (V.nck rfl) <| jv _ (V.fad Tryz.underlying54 rfl nz9 rfl) <| js1 [.string ⟨y28.toArray⟩, ii qa1, ii qa2] sz9 rfl rfl rfl rfl rfl rfl <| J.nil <| CJ.seq <| CJ.region ?_
 refine jm _ rfl <| jv _ (V.nck rfl) <| jv _ (V.fad Tryz.underlying54 rfl nz3 rfl) <| jv (ii qa1) (V.ld rfl (Ld.sc sc3 (Rd.cl 0 rfl rfl))) <| jv (ii (IntKind.wrap .i64 (qa1 + 1))) (V.add rfl rfl) <| jv _ (V.nck rfl) <| jv _ (V.fad Tryz.underlying54 rfl nz3 rfl) ?_
 refine js1 [.string ⟨y28.toArray⟩, ii (IntKind.wrap .i64 (qa1 + 1)), ii qa2] sz3 rfl rfl rfl rfl rfl rfl <| J.nil <| cr <| jm (ii i21) rfl <| ja (ii i21) rfl <| J.nil ?_
 refine CJ.ret ?_
 obtain rfl := si h
 exact ⟨_, _, Res.one rfl rfl, ⟨i21, y28, IntKind.wrap .i64 (qa1 + 1), qa2, rfl, rfl, rfl⟩, (Hp.le_refl _), fun w hs => hs⟩

noncomputable def fn_body_count_p0_sii (qa0 : List UInt8) (qa1 : Int) (qa2 : Int) : Option (Int × List UInt8 × Int × Int) :=
  (fn_body_one_int_p0_leb_Take__sii qa0 qa1 qa2).bind fun (i17, s18, i19, i20) => cond (decide (65536 < i17)) (some ((0, s18, i19, 6))) (some ((i17, s18, i19, i20)))
set_option maxRecDepth 100000 in
set_option maxHeartbeats 4000000 in
theorem body_count_p0_sii_ok {K : Hp} {qa0 : List UInt8} {qa1 : Int} {qa2 : Int} {pba : Nat}  {r : (Int × List UInt8 × Int × Int)} (h : fn_body_count_p0_sii qa0 qa1 qa2 = some r) :
    Tr Tryz.prog 17 #[.pointer (some ⟨pba, 0, none⟩)] K [Cl pba 54 [.string ⟨qa0.toArray⟩, ii qa1, ii qa2]] (fun v K' L' => (∃ (i11 : Int) (s12 : List UInt8) (i13 : Int) (i14 : Int), (i11, s12, i13, i14) = r ∧ ii i11 = v ∧ L' = [Cl pba 54 [.string ⟨s12.toArray⟩, ii i13, ii i14]]) ∧ K = K') := by
 refine Tr.k <| Tr.of Tryz.func17 rfl Tryz.ntmps17 rfl fun E F => ?_
 unfold fn_body_count_p0_sii at h
 refine cr <| ja (ii 0) rfl <| J.nil <| cr <| jm _ rfl ?_
 obtain ⟨r15, hr16, h⟩ := ob h
 refine J.op rfl (A.call (L1 := [Cl pba 54 [.string ⟨qa0.toArray⟩, ii qa1, ii qa2]]) Tryz.call62 rfl (body_one_int_p0_leb_Take__sii_ok hr16) rfl rfl) ?_
 rintro _ _ _ ⟨v21, _, rfl, ⟨⟨i17, s18, i19, i20, rfl, rfl, rfl⟩, rfl⟩, _, rfl⟩
 refine ja (ii i17) rfl <| J.nil <| CJ.seq <| cr <| jm (ii i17) rfl <| jv (.bool (decide (65536 < i17))) (V.gtr rfl rfl) ?_
 refine J.nil <| cc rfl h (fun hc24 h => ?_) fun hc24 h => ?_
 · refine cr <| jm _ rfl <| jv _ (V.nck rfl) <| jv _ (V.fad Tryz.underlying54 rfl nz35 rfl) <| js1 [.string ⟨s18.toArray⟩, ii i19, ii 6] sz35 rfl rfl rfl rfl rfl rfl <| J.nil ?_
   refine cr <| ja (ii 0) rfl <| J.nil <| CJ.ret ?_
   obtain rfl := si h
   exact ⟨_, _, Res.one rfl rfl, ⟨0, s18, i19, 6, rfl, rfl, rfl⟩, (Hp.le_refl _), fun w hs => hs⟩
 refine CJ.skip <| cr <| jm (ii i17) rfl <| ja (ii i17) rfl <| J.nil <| CJ.ret ?_
 obtain rfl := si h
 exact ⟨_, _, Res.one rfl rfl, ⟨i17, s18, i19, i20, rfl, rfl, rfl⟩, (Hp.le_refl _), fun w hs => hs⟩

noncomputable def fn_sig_reader_number_p0_si (qa0 : List UInt8) (qa1 : Int) : Option (Int × Int × Int) :=
  (subL qa0 qa1 (((qa0.length : Nat) : Int))).bind fun y35 => (fn_leb_Take y35).bind fun (i39, i40, i41) => some ((i39, i41, IntKind.wrap .i64 (qa1 + i40)))
set_option maxRecDepth 100000 in
set_option maxHeartbeats 4000000 in
theorem sig_reader_number_p0_si_ok {K : Hp} {qa0 : List UInt8} {qa1 : Int} {pba : Nat}  {r : (Int × Int × Int)} (h : fn_sig_reader_number_p0_si qa0 qa1 = some r) :
    Tr Tryz.prog 68 #[.pointer (some ⟨pba, 0, none⟩)] K [Cl pba 122 [.string ⟨qa0.toArray⟩, ii qa1]] (fun v K' L' => (∃ (i22 : Int) (i23 : Int) (i24 : Int), (i22, i23, i24) = r ∧ .tuple #[ii i22, ii i23] = v ∧ L' = [Cl pba 122 [.string ⟨qa0.toArray⟩, ii i24]]) ∧ K = K') := by
 refine Tr.k <| Tr.of Tryz.func68 rfl Tryz.ntmps68 rfl fun E F => ?_
 unfold fn_sig_reader_number_p0_si at h
 refine cr <| ja (ii 0) rfl <| ja (ii 0) rfl <| J.nil <| CJ.seq <| CJ.mix [Cl pba 122 [.string ⟨qa0.toArray⟩, ii qa1]] [([0, 1, 2, 3, 4, 5, 6, 7, 8], 9)] [10, 11, 12, 13, 14, 15, 16] [] mixO (by decide +kernel) ⟨0, rfl, trivial⟩ rfl rfl rfl ?_
 refine JM.cons <| qm _ rfl <| qv _ (V.nck rfl) <| qv _ (V.fad Tryz.underlying122 rfl nz9 rfl) <| qv (.string ⟨qa0.toArray⟩) (V.ld rfl (Ld.sc sc9 (Rd.cl 0 rfl rfl))) <| qm _ rfl <| qv _ (V.nck rfl) ?_
 refine qv _ (V.fad Tryz.underlying122 rfl nz3 rfl) <| qv (ii qa1) (V.ld rfl (Ld.sc sc3 (Rd.cl 0 rfl rfl))) ?_
 obtain ⟨y35, hy36, h⟩ := ob h
 refine qv (.string ⟨y35.toArray⟩) (V.subs Tryz.underlying9 rfl (fun _ h => by cases h; exact ⟨_, rfl⟩) nofun nofun (fun _ => rfl) hy36) <| JQ.nil ?_
 obtain ⟨r37, hr38, h⟩ := ob h
 refine JA.op rfl (A.call (L1 := []) Tryz.call63 rfl (leb_Take_ok hr38) rfl rfl) ?_
 rintro _ _ _ ⟨v42, _, rfl, ⟨⟨i39, i40, i41, rfl, rfl, rfl⟩, rfl⟩, _, rfl⟩
 refine ⟨fun w hs => Hold.sub (Hp.le_refl _) ⟨0, rfl, trivial⟩ hs, ?_⟩
 refine JM.nil <| qm (.tuple #[ii i39, ii i40, ii i41]) rfl <| qv (ii i39) (V.ext rfl rfl) <| qv (ii i40) (V.ext rfl rfl) <| qv (ii i41) (V.ext rfl rfl) <| qa (ii i39) rfl <| qa (ii i40) rfl ?_
 refine qa (ii i41) rfl <| JQ.nil <| J.nil <| cr <| jm _ rfl <| jv _ (V.nck rfl) ?_
 refine jv _ (V.fad Tryz.underlying122 rfl nz3 rfl) <| jv (ii qa1) (V.ld rfl (Ld.sc sc3 (Rd.cl 0 rfl rfl))) <| jm (ii i40) rfl <| jv (ii (IntKind.wrap .i64 (qa1 + i40))) (V.add rfl rfl) <| jv _ (V.nck rfl) <| jv _ (V.fad Tryz.underlying122 rfl nz3 rfl) <| js1 [.string ⟨qa0.toArray⟩, ii (IntKind.wrap .i64 (qa1 + i40))] sz3 rfl rfl rfl rfl rfl rfl ?_
 refine J.nil <| cr <| jm (ii i39) rfl <| jm (ii i41) rfl <| ja (ii i39) rfl <| ja (ii i41) rfl ?_
 refine J.nil <| CJ.ret ?_
 obtain rfl := si h
 exact ⟨_, _, Res.two rfl rfl rfl, ⟨i39, i41, IntKind.wrap .i64 (qa1 + i40), rfl, rfl, rfl⟩, (Hp.le_refl _), fun w hs => hs⟩

noncomputable def fn_sig_reader_many_p0i_si (xb : Int) (qa0 : List UInt8) (qa1 : Int) : Option (Int × Int × Int) :=
  (fn_sig_reader_number_p0_si qa0 qa1).bind fun (i18, i19, i20) => cond ((decide (i19 = 0)) && (decide (xb < i18))) (some ((0, 6, i20))) (some ((i18, i19, i20)))
set_option maxRecDepth 100000 in
set_option maxHeartbeats 4000000 in
theorem sig_reader_many_p0i_si_ok {K : Hp} {xb : Int} {qa0 : List UInt8} {qa1 : Int} {pba : Nat}  {r : (Int × Int × Int)} (h : fn_sig_reader_many_p0i_si xb qa0 qa1 = some r) :
    Tr Tryz.prog 100 #[.pointer (some ⟨pba, 0, none⟩), ii xb] K [Cl pba 122 [.string ⟨qa0.toArray⟩, ii qa1]] (fun v K' L' => (∃ (i13 : Int) (i14 : Int) (i15 : Int), (i13, i14, i15) = r ∧ .tuple #[ii i13, ii i14] = v ∧ L' = [Cl pba 122 [.string ⟨qa0.toArray⟩, ii i15]]) ∧ K = K') := by
 refine Tr.k <| Tr.of Tryz.func100 rfl Tryz.ntmps100 rfl fun E F => ?_
 unfold fn_sig_reader_many_p0i_si at h
 refine cr <| ja (ii 0) rfl <| ja (ii 0) rfl <| J.nil <| CJ.seq <| CJ.region ?_
 refine jm _ rfl ?_
 obtain ⟨r16, hr17, h⟩ := ob h
 refine J.op rfl (A.call (L1 := [Cl pba 122 [.string ⟨qa0.toArray⟩, ii qa1]]) Tryz.call68 rfl (sig_reader_number_p0_si_ok hr17) rfl rfl) ?_
 rintro _ _ _ ⟨v21, _, rfl, ⟨⟨i18, i19, i20, rfl, rfl, rfl⟩, rfl⟩, _, rfl⟩
 refine jm (.tuple #[ii i18, ii i19]) rfl <| jx (ii i18) rfl rfl <| jx (ii i19) rfl rfl <| ja (ii i18) rfl <| ja (ii i19) rfl <| J.nil <| CJ.seq ?_
 refine cr <| jm (ii i19) rfl <| jv (.bool (decide (i19 = 0))) (V.eql rfl rfl) <| jm (.bool (decide (i19 = 0))) rfl <| J.cut 4 <| jmeet [(19, .bool ((decide (i19 = 0)) && (decide (xb < i18)))), (6, ii i18), (7, ii i19)] ?_ ?_
 · rcases bt (decide (i19 = 0)) with hc26 | hc26
   · refine J.run rfl rfl rfl hc26 <| jm (ii i18) rfl <| J.run rfl rfl rfl hc26 <| jm (ii xb) rfl <| J.run rfl rfl rfl hc26 <| jv (.bool (decide (xb < i18))) (V.gtr rfl rfl) <| jv (.bool (decide (xb < i18))) (V.pickT rfl hc26 rfl) ?_
     refine J.nil ?_
     exact ⟨rfl, ⟨(by simp only [hc26]; rfl), rfl, rfl, trivial⟩, rfl, rfl⟩
   refine J.skip rfl rfl rfl rfl hc26 <| J.skip rfl rfl rfl rfl hc26 <| J.skip rfl rfl rfl rfl hc26 <| jv (.bool false) (V.pickF rfl hc26 rfl) <| J.nil ?_
   exact ⟨rfl, ⟨(by simp only [hc26]; rfl), rfl, rfl, trivial⟩, rfl, rfl⟩
 intro ρ
 refine J.nil <| cc rfl h (fun hc27 h => ?_) fun hc27 h => ?_
 · refine cr <| ja (ii 0) rfl <| ja (ii 6) rfl <| J.nil <| CJ.ret ?_
   obtain rfl := si h
   exact ⟨_, _, Res.two rfl rfl rfl, ⟨0, 6, i20, rfl, rfl, rfl⟩, (Hp.le_refl _), fun w hs => hs⟩
 refine CJ.skip <| cr <| jm (ii i18) rfl <| jm (ii i19) rfl <| ja (ii i18) rfl <| ja (ii i19) rfl ?_
 refine J.nil <| CJ.ret ?_
 obtain rfl := si h
 exact ⟨_, _, Res.two rfl rfl rfl, ⟨i18, i19, i20, rfl, rfl, rfl⟩, (Hp.le_refl _), fun w hs => hs⟩
noncomputable def fn_sig_reader_bounds_p0i_si_l1 (qa0 : List UInt8) (i375 : Int) : ((List (Int × Int)) × Int × Int × Int) → Option (((List (Int × Int)) × Int × Int × Int) ⊕ ((List (Int × Int)) × Int × Int)) := fun ((l619, i624, i625, i626) : ((List (Int × Int)) × Int × Int × Int)) => cond ((decide (i625 < i375)) && (decide (i624 = 0))) ((fn_sig_reader_number_p0_si qa0 i626).bind fun (i694, i695, i696) => (cond (decide (i695 = 0)) ((fn_sig_reader_number_p0_si qa0 i696).bind fun (i717, i718, i719) => some ((i718, i719, i717))) (some ((i695, i696, 0))) : Option (Int × Int × Int)).bind fun (i709, i710, i711) => (app l619 (([(i694, i711)] : List (Int × Int)))).bind fun z728 => some (.inl ((z728, i709, IntKind.wrap .i64 (i625 + 1), i710)))) (some (.inr (((l619, i624, i626)))))
noncomputable def fn_sig_reader_bounds_p0i_si (xb : Int) (qa0 : List UInt8) (qa1 : Int) : Option (((List (Int × Int)) × Int × Int)) :=
  (fn_sig_reader_many_p0i_si xb qa0 qa1).bind fun (i375, i376, i377) => (loop (fn_sig_reader_bounds_p0i_si_l1 qa0 i375) ([], i376, 0, i377) : Option (((List (Int × Int)) × Int × Int))).bind fun (l553, i558, i559) => some ((l553, i558, i559))
set_option maxRecDepth 100000 in
set_option maxHeartbeats 4000000 in
theorem sig_reader_bounds_p0i_si_ok {K : Hp} {xb : Int} {qa0 : List UInt8} {qa1 : Int} {pba : Nat}  {r : ((List (Int × Int)) × Int × Int)} (h : fn_sig_reader_bounds_p0i_si xb qa0 qa1 = some r) :
    Tr Tryz.prog 70 #[.pointer (some ⟨pba, 0, none⟩), ii xb] K [Cl pba 122 [.string ⟨qa0.toArray⟩, ii qa1]] (fun v K' L' => (∃ (l366 : (List (Int × Int))) (i371 : Int) (i372 : Int) (ad367 : Option Addr) (cp368 : Nat), (l366, i371, i372) = r ∧ .tuple #[.slice ad367 l366.length cp368, ii i371] = v ∧ L' = [Cl pba 122 [.string ⟨qa0.toArray⟩, ii i372], Row Hp.nil 95 (.cons (.int .i64) (.one (.int .i64))) (.slice ad367 l366.length cp368) l366]) ∧ K = K') := by
 refine Tr.k <| Tr.of Tryz.func70 rfl Tryz.ntmps70 rfl fun E F => ?_
 unfold fn_sig_reader_bounds_p0i_si at h
 refine cr <| ja (nos) rfl <| ja (ii 0) rfl <| J.nil <| CJ.seq <| CJ.region ?_
 refine ja (nos) rfl <| J.nil <| cr <| jm _ rfl <| jm (ii xb) rfl ?_
 obtain ⟨r373, hr374, h⟩ := ob h
 refine J.op rfl (A.call (L1 := [Cl pba 122 [.string ⟨qa0.toArray⟩, ii qa1]]) Tryz.call100 rfl (sig_reader_many_p0i_si_ok hr374) rfl rfl) ?_
 rintro _ _ _ ⟨v378, _, rfl, ⟨⟨i375, i376, i377, rfl, rfl, rfl⟩, rfl⟩, _, rfl⟩
 refine jm (.tuple #[ii i375, ii i376]) rfl <| jx (ii i375) rfl rfl <| jx (ii i376) rfl rfl <| ja (ii i375) rfl <| ja (ii i376) rfl <| J.nil <| CJ.seq ?_
 refine cr <| ja (ii 0) rfl <| J.nil ?_
 obtain ⟨o560, ho561, h⟩ := ob h
 refine CJ.meetN (fun ρ K' L' => ∃ (l553 : (List (Int × Int))) (i558 : Int) (i559 : Int) (ad554 : Option Addr) (cp555 : Nat), (l553, i558, i559) = o560 ∧ Fits [(6, .slice ad554 l553.length cp555), (8, ii i558)] ρ ∧ K = K' ∧ L' = Cl pba 122 [.string ⟨qa0.toArray⟩, ii i559] :: Row Hp.nil 95 (.cons (.int .i64) (.one (.int .i64))) (.slice ad554 l553.length cp555) l553 :: F) ?_ ?_
 · refine CJ.block <| CJ.by (fun w hs => Sep.rowNil (e := 95) (t := (.cons (.int .i64) (.one (.int .i64)))) hs) <| CJ.front 1 rfl <| CJ.loop (fun s ρ K' L' => ∃ (l619 : (List (Int × Int))) (i624 : Int) (i625 : Int) (i626 : Int) (ad620 : Option Addr) (cp621 : Nat), (l619, i624, i625, i626) = s ∧ Fits [(0, .pointer (some ⟨pba, 0, none⟩)), (6, .slice ad620 l619.length cp621), (7, ii i375), (8, ii i624), (9, ii i625)] ρ ∧ K = K' ∧ L' = Cl pba 122 [.string ⟨qa0.toArray⟩, ii i626] :: Row Hp.nil 95 (.cons (.int .i64) (.one (.int .i64))) (.slice ad620 l619.length cp621) l619 :: F) ho561 ⟨[], i376, 0, i377, none, 0, rfl, ⟨rfl, rfl, rfl, rfl, rfl, trivial⟩, rfl, rfl⟩ ?_
   rintro s ρ _ _ r686 ⟨l619, i624, i625, i626, ad620, cp621, rfl, hf684, rfl, rfl⟩ h682
   obtain ⟨ρ, rfl⟩ := hf684.ex
   refine CJ.front 1 rfl <| CJ.wit Row.hn fun hn623 => CJ.seq <| cr <| jm (ii i625) rfl <| jm (ii i375) rfl ?_
   refine jv (.bool (decide (i625 < i375))) (V.lss rfl rfl) <| jm (.bool (decide (i625 < i375))) rfl <| J.cut 3 <| jmeet [(23, .bool ((decide (i625 < i375)) && (decide (i624 = 0)))), (0, .pointer (some ⟨pba, 0, none⟩)), (6, .slice ad620 l619.length cp621), (7, ii i375), (8, ii i624), (9, ii i625)] ?_ ?_
   · rcases bt (decide (i625 < i375)) with hc689 | hc689
     · refine J.run rfl rfl rfl hc689 <| jm (ii i624) rfl <| J.run rfl rfl rfl hc689 <| jv (.bool (decide (i624 = 0))) (V.eql rfl rfl) <| jv (.bool (decide (i624 = 0))) (V.pickT rfl hc689 rfl) <| J.nil ?_
       exact ⟨rfl, ⟨(by simp only [hc689]; rfl), rfl, rfl, rfl, rfl, rfl, trivial⟩, rfl, rfl⟩
     refine J.skip rfl rfl rfl rfl hc689 <| J.skip rfl rfl rfl rfl hc689 <| jv (.bool false) (V.pickF rfl hc689 rfl) <| J.nil ?_
     exact ⟨rfl, ⟨(by simp only [hc689]; rfl), rfl, rfl, rfl, rfl, rfl, trivial⟩, rfl, rfl⟩
   intro ρ
   refine J.nil <| cc rfl h682 (fun hc690 h682 => ?_) fun hc690 h682 => ?_
   · refine CJ.skip <| CJ.seq <| CJ.block <| cr <| jal inf95 [ii 0, ii 0] rfl fun b691 => J.nil ?_
     refine cr <| jm _ rfl ?_
     obtain ⟨r692, hr693, h682⟩ := ob h682
     refine J.front 2 rfl <| J.op rfl (A.call (L1 := [Cl pba 122 [.string ⟨qa0.toArray⟩, ii i626]]) Tryz.call68 rfl (sig_reader_number_p0_si_ok hr693) rfl rfl) ?_
     rintro _ _ _ ⟨v697, _, rfl, ⟨⟨i694, i695, i696, rfl, rfl, rfl⟩, rfl⟩, _, rfl⟩
     refine jm (.tuple #[ii i694, ii i695]) rfl <| jx (ii i694) rfl rfl <| jx (ii i695) rfl rfl <| jv _ (V.fad Tryz.underlying95 rfl nz3 rfl) <| J.front 1 rfl <| js1 [ii i694, ii 0] sz3 rfl rfl rfl rfl rfl rfl <| ja (ii i695) rfl ?_
     refine J.nil <| CJ.seq ?_
     obtain ⟨o712, ho713, h682⟩ := ob h682
     refine CJ.meetN (fun ρ K' L' => ∃ (i709 : Int) (i710 : Int) (i711 : Int), (i709, i710, i711) = o712 ∧ Fits [(0, .pointer (some ⟨pba, 0, none⟩)), (6, .slice ad620 l619.length cp621), (7, ii i375), (8, ii i709), (9, ii i625), (10, .pointer (some ⟨b691, 0, none⟩))] ρ ∧ K = K' ∧ L' = Cl pba 122 [.string ⟨qa0.toArray⟩, ii i710] :: Cl b691 95 [ii i694, ii i711] :: Row Hp.nil 95 (.cons (.int .i64) (.one (.int .i64))) (.slice ad620 l619.length cp621) l619 :: F) ?_ ?_
     · refine cr <| jm (ii i695) rfl <| jv (.bool (decide (i695 = 0))) (V.eql rfl rfl) <| J.nil <| cc rfl ho713 (fun hc714 ho713 => ?_) fun hc714 ho713 => ?_
       · refine CJ.region <| jm _ rfl ?_
         obtain ⟨r715, hr716, ho713⟩ := ob ho713
         refine J.front 1 rfl <| J.op rfl (A.call (L1 := [Cl pba 122 [.string ⟨qa0.toArray⟩, ii i696]]) Tryz.call68 rfl (sig_reader_number_p0_si_ok hr716) rfl rfl) ?_
         rintro _ _ _ ⟨v720, _, rfl, ⟨⟨i717, i718, i719, rfl, rfl, rfl⟩, rfl⟩, _, rfl⟩
         refine jm (.tuple #[ii i717, ii i718]) rfl <| jx (ii i717) rfl rfl <| jx (ii i718) rfl rfl <| jv _ (V.fad Tryz.underlying95 rfl nz3 rfl) <| J.front 1 rfl <| js1 [ii i694, ii i717] sz3 rfl rfl rfl rfl rfl rfl <| ja (ii i718) rfl ?_
         refine J.front 2 rfl <| J.front 1 rfl <| J.front 2 rfl <| J.nil ?_
         obtain rfl := si ho713
         exact ⟨rfl, ⟨i718, i719, i717, rfl, ⟨rfl, rfl, rfl, rfl, rfl, rfl, trivial⟩, rfl, rfl⟩⟩
       refine CJ.front 2 rfl <| CJ.front 1 rfl <| CJ.front 2 rfl <| CJ.skip ?_
       obtain rfl := si ho713
       exact ⟨rfl, ⟨i695, i696, 0, rfl, ⟨rfl, rfl, rfl, rfl, rfl, rfl, trivial⟩, rfl, rfl⟩⟩
     rintro ρ _ _ ⟨i709, i710, i711, rfl, hf723, rfl, rfl⟩
     obtain ⟨ρ, rfl⟩ := hf723.ex
     refine PJ.done <| CJ.region <| jm (.slice ad620 l619.length cp621) rfl <| jv (.agg #[ii i694, ii i711]) (V.ld rfl (Ld.agg (cs := [ii i694, ii i711]) Tryz.underlying95 sz95 rfl (Rd.cls 1 0 rfl rfl))) ?_
     refine J.op rfl (A.lit (K0 := Hp.nil) (ty := (.cons (.int .i64) (.one (.int .i64)))) (xs := ([(i694, i711)] : List (Int × Int))) Tryz.underlying26 inf95 rfl (by decide) rfl rfl rfl ⟨_, _, rfl, ⟨_, _, rfl, rfl, rfl, rfl⟩, rfl⟩ rfl (by decide)) ?_
     rintro _ _ _ ⟨b725, rfl, rfl, rfl⟩
     have hn726 : ([(i694, i711)] : List (Int × Int)) ≠ [] → ∃ g, (some ⟨b725, 0, none⟩ : Option Addr) = some ⟨g, 0, none⟩ := fun _ => ⟨b725, rfl⟩
     obtain ⟨z728, hz729, h682⟩ := ob h682
     refine J.front 3 rfl <| J.op rfl (A.appR (Kr := Hp.nil) Tryz.underlying26 inf95 rfl rfl (by decide) (by decide) rfl rfl (Els.flat rfl) (Els.flat rfl) hz729) ?_
     rintro _ _ _ ⟨v730, rfl, rfl, rfl⟩
     refine J.wit Row.form ?_
     rintro ⟨ad731, cp732, rfl, _, _, hn733⟩
     refine ja (.slice ad731 z728.length cp732) rfl <| J.nil <| CJ.region <| jm (ii i625) rfl <| jv (ii (IntKind.wrap .i64 (i625 + 1))) (V.add rfl rfl) <| ja (ii (IntKind.wrap .i64 (i625 + 1))) rfl <| J.dropAt 2 rfl ?_
     refine J.front 1 rfl <| J.nil ?_
     obtain rfl := si h682
     exact ⟨rfl, ⟨z728, i709, IntKind.wrap .i64 (i625 + 1), i710, ad731, cp732, rfl, ⟨rfl, rfl, rfl, rfl, rfl, trivial⟩, rfl, rfl⟩⟩
   refine CJ.front 1 rfl <| CJ.exit ?_
   obtain rfl := si h682
   refine ⟨nofun, fun e => ?_⟩
   subst e
   exact ⟨rfl, ⟨l619, i624, i626, ad620, cp621, rfl, ⟨rfl, rfl, trivial⟩, rfl, rfl⟩⟩
 rintro ρ _ _ ⟨l553, i558, i559, ad554, cp555, rfl, hf734, rfl, rfl⟩
 obtain ⟨ρ, rfl⟩ := hf734.ex
 refine PJ.front 1 rfl <| PJ.wit Row.hn fun hn557 => PJ.done <| cr <| jm (.slice ad554 l553.length cp555) rfl <| jm (ii i558) rfl ?_
 refine ja (.slice ad554 l553.length cp555) rfl <| ja (ii i558) rfl <| J.nil <| CJ.ret ?_
 obtain rfl := si h
 exact ⟨_, _, Res.two rfl rfl rfl, ⟨l553, i558, i559, ad554, cp555, rfl, rfl, rfl⟩, (Hp.le_refl _), fun w hs => (Sep.front 1 rfl hs)⟩

noncomputable def fn_sig_TakeBounds (xa : (List UInt8)) (xb : Int) : Option (((List (Int × Int)) × Int × Int)) :=
  (fn_sig_reader_bounds_p0i_si xb xa 0).bind fun (l25, i26, i27) => cond (!decide (i26 = 0)) (some (([], 0, i26))) (some ((l25, i27, 0)))
set_option maxRecDepth 100000 in
set_option maxHeartbeats 4000000 in
theorem sig_TakeBounds_ok {K : Hp} {xa : (List UInt8)} {xb : Int}   {r : ((List (Int × Int)) × Int × Int)} (h : fn_sig_TakeBounds xa xb = some r) :
    Tr Tryz.prog 64 #[.string ⟨xa.toArray⟩, ii xb] K [] (fun v K' L' => (∃ (l15 : (List (Int × Int))) (i20 : Int) (i21 : Int) (ad16 : Option Addr) (cp17 : Nat), (l15, i20, i21) = r ∧ .tuple #[.slice ad16 l15.length cp17, ii i20, ii i21] = v ∧ L' = [Row Hp.nil 95 (.cons (.int .i64) (.one (.int .i64))) (.slice ad16 l15.length cp17) l15]) ∧ K = K') := by
 refine Tr.k <| Tr.of Tryz.func64 rfl Tryz.ntmps64 rfl fun E F => ?_
 unfold fn_sig_TakeBounds at h
 refine cr <| ja (nos) rfl <| ja (ii 0) rfl <| ja (ii 0) rfl <| J.nil <| CJ.seq ?_
 refine CJ.region <| jm (.string ⟨xa.toArray⟩) rfl <| jv (.agg #[.string ⟨xa.toArray⟩, ii 0]) (V.build inf122 places122 rfl rfl) <| jal inf122 [.string ⟨([] : List UInt8).toArray⟩, ii 0] rfl fun b22 => js [.string ⟨xa.toArray⟩, ii 0] sz122 rfl rfl rfl rfl rfl rfl <| J.nil <| CJ.seq ?_
 refine CJ.region <| jm (ii xb) rfl ?_
 obtain ⟨r23, hr24, h⟩ := ob h
 refine J.op rfl (A.call (L1 := [Cl b22 122 [.string ⟨xa.toArray⟩, ii 0]]) Tryz.call70 rfl (sig_reader_bounds_p0i_si_ok hr24) rfl rfl) ?_
 rintro _ _ _ ⟨v31, _, rfl, ⟨⟨l25, i26, i27, ad28, cp29, rfl, rfl, rfl⟩, rfl⟩, _, rfl⟩
 refine J.front 1 rfl <| J.wit Row.hn fun hn30 => jm (.tuple #[.slice ad28 l25.length cp29, ii i26]) rfl <| jx (.slice ad28 l25.length cp29) rfl rfl <| jx (ii i26) rfl rfl <| ja (.slice ad28 l25.length cp29) rfl <| ja (ii i26) rfl ?_
 refine J.nil <| CJ.seq <| cr <| jm (ii i26) rfl <| jv (.bool (!decide (i26 = 0))) (V.neq rfl rfl) <| J.nil ?_
 refine cc rfl h (fun hc35 h => ?_) fun hc35 h => ?_
 · refine cr <| jm (ii i26) rfl <| ja (nos) rfl <| ja (ii 0) rfl <| ja (ii i26) rfl <| J.nil ?_
   refine CJ.by (fun w hs => Sep.rowNil (e := 95) (t := (.cons (.int .i64) (.one (.int .i64)))) hs) <| CJ.ret ?_
   obtain rfl := si h
   exact ⟨_, _, Res.three rfl rfl rfl rfl, ⟨[], 0, i26, none, 0, rfl, rfl, rfl⟩, (Hp.le_refl _), fun w hs => (Sep.dropAt 1 rfl (Sep.dropAt 1 rfl hs))⟩
 refine CJ.skip <| CJ.seq <| CJ.mix [Row Hp.nil 95 (.cons (.int .i64) (.one (.int .i64))) (.slice ad28 l25.length cp29) l25, Cl b22 122 [.string ⟨xa.toArray⟩, ii i27]] [] [0, 1, 2, 3, 4, 5] [] mixO (by decide +kernel) ⟨0, rfl, 0, rfl, trivial⟩ rfl rfl rfl <| JM.nil <| qm (.slice ad28 l25.length cp29) rfl <| qv _ (V.fad Tryz.underlying122 rfl nz3 rfl) <| qv (ii i27) (V.ld rfl (Ld.sc sc3 (Rd.cl 1 rfl rfl))) ?_
 refine qa (.slice ad28 l25.length cp29) rfl <| qa (ii i27) rfl <| qa (ii 0) rfl <| JQ.nil <| J.nil <| CJ.ret ?_
 obtain rfl := si h
 exact ⟨_, _, Res.three rfl rfl rfl rfl, ⟨l25, i27, 0, ad28, cp29, rfl, rfl, rfl⟩, (Hp.le_refl _), fun w hs => (Sep.dropAt 1 rfl hs)⟩

noncomputable def fn_body_takeBounds (xa : (List UInt8)) : Option (((List (Int × Int)) × Int × Int)) :=
  (fn_sig_TakeBounds xa 65536).bind fun (l22, i23, i24) => some ((l22, i23, i24))
set_option maxRecDepth 100000 in
set_option maxHeartbeats 4000000 in
theorem body_takeBounds_ok {K : Hp} {xa : (List UInt8)}   {r : ((List (Int × Int)) × Int × Int)} (h : fn_body_takeBounds xa = some r) :
    Tr Tryz.prog 19 #[.string ⟨xa.toArray⟩] K [] (fun v K' L' => (∃ (l13 : (List (Int × Int))) (i18 : Int) (i19 : Int) (ad14 : Option Addr) (cp15 : Nat), (l13, i18, i19) = r ∧ .tuple #[.slice ad14 l13.length cp15, ii i18, ii i19] = v ∧ L' = [Row Hp.nil 95 (.cons (.int .i64) (.one (.int .i64))) (.slice ad14 l13.length cp15) l13]) ∧ K = K') := by
 refine Tr.k <| Tr.of Tryz.func19 rfl Tryz.ntmps19 rfl fun E F => ?_
 unfold fn_body_takeBounds at h
 refine cr <| ja (nos) rfl <| ja (ii 0) rfl <| ja (ii 0) rfl <| J.nil <| CJ.seq ?_
 refine CJ.region <| jm (.string ⟨xa.toArray⟩) rfl ?_
 obtain ⟨r20, hr21, h⟩ := ob h
 refine J.op rfl (A.call (L1 := []) Tryz.call64 rfl (sig_TakeBounds_ok hr21) rfl rfl) ?_
 rintro _ _ _ ⟨v28, _, rfl, ⟨⟨l22, i23, i24, ad25, cp26, rfl, rfl, rfl⟩, rfl⟩, _, rfl⟩
 refine J.wit Row.hn fun hn27 => jx (.slice ad25 l22.length cp26) rfl rfl <| jx (ii i23) rfl rfl <| jx (ii i24) rfl rfl <| ja (.slice ad25 l22.length cp26) rfl <| ja (ii i23) rfl <| ja (ii i24) rfl ?_
 refine J.nil <| CJ.ret ?_
 obtain rfl := si h
 exact ⟨_, _, Res.three rfl rfl rfl rfl, ⟨l22, i23, i24, ad25, cp26, rfl, rfl, rfl⟩, (Hp.le_refl _), fun w hs => hs⟩

noncomputable def fn_body_one_api_Bound_p0_body_takeBounds__sii (qa0 : List UInt8) (qa1 : Int) (qa2 : Int) : Option (((List (Int × Int)) × List UInt8 × Int × Int)) :=
  cond (!decide (qa2 = 0)) (some (([], qa0, qa1, qa2))) ((fn_body_takeBounds qa0).bind fun (l29, i30, i31) => cond (!decide (i31 = 0)) (some (([], qa0, qa1, i31))) ((subL qa0 i30 (((qa0.length : Nat) : Int))).bind fun y41 => some ((l29, y41, IntKind.wrap .i64 (qa1 + 1), qa2))))
set_option maxRecDepth 100000 in
set_option maxHeartbeats 4000000 in
theorem body_one_api_Bound_p0_body_takeBounds__sii_ok {K : Hp} {qa0 : List UInt8} {qa1 : Int} {qa2 : Int} {pba : Nat}  {r : ((List (Int × Int)) × List UInt8 × Int × Int)} (h : fn_body_one_api_Bound_p0_body_takeBounds__sii qa0 qa1 qa2 = some r) :
    Tr Tryz.prog 18 #[.pointer (some ⟨pba, 0, none⟩), .func (.func 19) #[] #[]] K [Cl pba 54 [.string ⟨qa0.toArray⟩, ii qa1, ii qa2]] (fun v K' L' => (∃ (l17 : (List (Int × Int))) (s22 : List UInt8) (i23 : Int) (i24 : Int) (ad18 : Option Addr) (cp19 : Nat), (l17, s22, i23, i24) = r ∧ .slice ad18 l17.length cp19 = v ∧ L' = [Cl pba 54 [.string ⟨s22.toArray⟩, ii i23, ii i24], Row Hp.nil 95 (.cons (.int .i64) (.one (.int .i64))) (.slice ad18 l17.length cp19) l17]) ∧ K = K') := by
 refine Tr.k <| Tr.of Tryz.func18 rfl Tryz.ntmps18 rfl fun E F => ?_
 unfold fn_body_one_api_Bound_p0_body_takeBounds__sii at h
 refine cr <| ja (nos) rfl <| J.nil <| cr <| ja (nos) rfl ?_
 refine J.nil <| CJ.seq <| cr <| jm _ rfl <| jv _ (V.nck rfl) <| jv _ (V.fad Tryz.underlying54 rfl nz35 rfl) ?_
 refine jv (ii qa2) (V.ld rfl (Ld.sc sc35 (Rd.cl 0 rfl rfl))) <| jv (.bool (!decide (qa2 = 0))) (V.neq rfl rfl) <| J.nil <| cc rfl h (fun hc25 h => ?_) fun hc25 h => ?_
 · refine cr <| jm (nos) rfl <| ja (nos) rfl <| J.nil <| CJ.by (fun w hs => Sep.rowNil (e := 95) (t := (.cons (.int .i64) (.one (.int .i64)))) hs) <| CJ.ret ?_
   obtain rfl := si h
   exact ⟨_, _, Res.one rfl rfl, ⟨[], qa0, qa1, qa2, none, 0, rfl, rfl, rfl⟩, (Hp.le_refl _), fun w hs => (Sep.front 1 rfl hs)⟩
 refine CJ.skip <| cr <| jm (.func (.func 19) #[] #[]) rfl <| jm _ rfl <| jv _ (V.nck rfl) <| jv _ (V.fad Tryz.underlying54 rfl nz9 rfl) ?_
 refine jv (.string ⟨qa0.toArray⟩) (V.ld rfl (Ld.sc sc9 (Rd.cl 0 rfl rfl))) ?_
 obtain ⟨r27, hr28, h⟩ := ob h
 refine J.op rfl (A.call (L1 := []) Tryz.call19 rfl (body_takeBounds_ok hr28) rfl rfl) ?_
 rintro _ _ _ ⟨v35, _, rfl, ⟨⟨l29, i30, i31, ad32, cp33, rfl, rfl, rfl⟩, rfl⟩, _, rfl⟩
 refine J.wit Row.hn fun hn34 => jm (.tuple #[.slice ad32 l29.length cp33, ii i30, ii i31]) rfl <| jx (.slice ad32 l29.length cp33) rfl rfl <| jx (ii i30) rfl rfl <| jx (ii i31) rfl rfl <| ja (.slice ad32 l29.length cp33) rfl <| ja (ii i30) rfl ?_
 refine ja (ii i31) rfl <| J.nil <| CJ.seq <| cr <| jm (ii i31) rfl <| jv (.bool (!decide (i31 = 0))) (V.neq rfl rfl) ?_
 refine J.nil <| cc rfl h (fun hc39 h => ?_) fun hc39 h => ?_
 · refine cr <| jm _ rfl <| jm (ii i31) rfl <| jv _ (V.nck rfl) <| jv _ (V.fad Tryz.underlying54 rfl nz35 rfl) <| J.front 1 rfl ?_
   refine js1 [.string ⟨qa0.toArray⟩, ii qa1, ii i31] sz35 rfl rfl rfl rfl rfl rfl <| J.nil <| cr <| jm (nos) rfl <| ja (nos) rfl <| J.nil ?_
   refine CJ.by (fun w hs => Sep.rowNil (e := 95) (t := (.cons (.int .i64) (.one (.int .i64)))) hs) <| CJ.ret ?_
   obtain rfl := si h
   exact ⟨_, _, Res.one rfl rfl, ⟨[], qa0, qa1, i31, none, 0, rfl, rfl, rfl⟩, (Hp.le_refl _), fun w hs => (Sep.front 1 rfl (Sep.dropAt 2 rfl hs))⟩
 refine CJ.skip <| cr <| jm _ rfl <| jm _ rfl <| jv _ (V.nck rfl) <| jv _ (V.fad Tryz.underlying54 rfl nz9 rfl) ?_
 refine jv (.string ⟨qa0.toArray⟩) (V.ld rfl (Ld.sc sc9 (Rd.cl 1 rfl rfl))) <| jm (ii i30) rfl ?_
 obtain ⟨y41, hy42, h⟩ := ob h
 refine jv (.string ⟨y41.toArray⟩) (V.subs Tryz.underlying9 rfl (fun _ h => by cases h; exact ⟨_, rfl⟩) nofun nofun (fun _ => rfl) hy42) <| jv _ (V.nck rfl) <| jv _ (V.fad Tryz.underlying54 rfl nz9 rfl) <| J.front 1 rfl <| js1 [.string ⟨y41.toArray⟩, ii qa1, ii qa2] sz9 rfl rfl rfl rfl rfl rfl <| J.nil <| CJ.seq ?_
 refine CJ.region <| jm _ rfl <| jv _ (V.nck rfl) <| jv _ (V.fad Tryz.underlying54 rfl nz3 rfl) <| jv (ii qa1) (V.ld rfl (Ld.sc sc3 (Rd.cl 0 rfl rfl))) <| jv (ii (IntKind.wrap .i64 (qa1 + 1))) (V.add rfl rfl) <| jv _ (V.nck rfl) ?_
 refine jv _ (V.fad Tryz.underlying54 rfl nz3 rfl) <| js1 [.string ⟨y41.toArray⟩, ii (IntKind.wrap .i64 (qa1 + 1)), ii qa2] sz3 rfl rfl rfl rfl rfl rfl <| J.nil <| cr <| jm (.slice ad32 l29.length cp33) rfl <| ja (.slice ad32 l29.length cp33) rfl ?_
 refine J.nil <| CJ.ret ?_
 obtain rfl := si h
 exact ⟨_, _, Res.one rfl rfl, ⟨l29, y41, IntKind.wrap .i64 (qa1 + 1), qa2, ad32, cp33, rfl, rfl, rfl⟩, (Hp.le_refl _), fun w hs => hs⟩
noncomputable def fn_sig_reader_typ_p0_si_l1 (qa0 : List UInt8) (i221 : Int) : (Int × Int × Int × (List (Int × Bool))) → Option ((Int × Int × Int × (List (Int × Bool))) ⊕ (Int × Int × (List (Int × Bool)))) := fun ((i361, i362, i363, l364) : (Int × Int × Int × (List (Int × Bool)))) => cond ((decide (i362 < i221)) && (decide (i361 = 0))) ((fn_sig_reader_number_p0_si qa0 i363).bind fun (i409, i410, i411) => (app l364 (([(IntKind.wrap .i64 (Int.tdiv i409 2), decide ((Int.tmod i409 2) = 1))] : List (Int × Bool)))).bind fun z418 => some (.inl ((i410, IntKind.wrap .i64 (i362 + 1), i411, z418)))) (some (.inr (((i361, i363, l364)))))
noncomputable def fn_sig_reader_typ_p0_si (qa0 : List UInt8) (qa1 : Int) : Option (((List (Int × Bool)) × Int × Int)) :=
  (fn_sig_reader_many_p0i_si 16 qa0 qa1).bind fun (i221, i222, i223) => (loop (fn_sig_reader_typ_p0_si_l1 qa0 i221) (i222, 0, i223, []) : Option ((Int × Int × (List (Int × Bool))))).bind fun (i321, i322, l323) => some ((l323, i321, i322))
set_option maxRecDepth 100000 in
set_option maxHeartbeats 4000000 in
theorem sig_reader_typ_p0_si_ok {K : Hp} {qa0 : List UInt8} {qa1 : Int} {pba : Nat}  {r : ((List (Int × Bool)) × Int × Int)} (h : fn_sig_reader_typ_p0_si qa0 qa1 = some r) :
    Tr Tryz.prog 65 #[.pointer (some ⟨pba, 0, none⟩)] K [Cl pba 122 [.string ⟨qa0.toArray⟩, ii qa1]] (fun v K' L' => (∃ (l210 : (List (Int × Bool))) (i215 : Int) (i216 : Int) (ad211 : Option Addr) (cp212 : Nat), (l210, i215, i216) = r ∧ .tuple #[.agg #[.slice ad211 l210.length cp212], ii i215] = v ∧ L' = [Cl pba 122 [.string ⟨qa0.toArray⟩, ii i216], Row Hp.nil 146 (.cons (.int .i64) (.one .bool)) (.slice ad211 l210.length cp212) l210]) ∧ K = K') := by
 refine Tr.k <| Tr.of Tryz.func65 rfl Tryz.ntmps65 rfl fun E F => ?_
 unfold fn_sig_reader_typ_p0_si at h
 refine cr <| jal inf30 [nos] rfl fun b217 => ja (ii 0) rfl <| J.nil <| CJ.seq <| CJ.region ?_
 refine jal inf30 [nos] rfl fun b218 => J.nil <| cr <| jm _ rfl ?_
 obtain ⟨r219, hr220, h⟩ := ob h
 refine J.front 2 rfl <| J.op rfl (A.call (L1 := [Cl pba 122 [.string ⟨qa0.toArray⟩, ii qa1]]) Tryz.call100 rfl (sig_reader_many_p0i_si_ok hr220) rfl rfl) ?_
 rintro _ _ _ ⟨v224, _, rfl, ⟨⟨i221, i222, i223, rfl, rfl, rfl⟩, rfl⟩, _, rfl⟩
 refine jm (.tuple #[ii i221, ii i222]) rfl <| jx (ii i221) rfl rfl <| jx (ii i222) rfl rfl <| ja (ii i221) rfl <| ja (ii i222) rfl <| J.nil <| CJ.seq ?_
 refine cr <| ja (ii 0) rfl <| J.nil ?_
 obtain ⟨o328, ho329, h⟩ := ob h
 refine CJ.meetN (fun ρ K' L' => ∃ (i321 : Int) (i322 : Int) (l323 : (List (Int × Bool))) (ad324 : Option Addr) (cp325 : Nat), (i321, i322, l323) = o328 ∧ Fits [(2, .pointer (some ⟨b217, 0, none⟩)), (4, .pointer (some ⟨b218, 0, none⟩)), (6, ii i321)] ρ ∧ K = K' ∧ L' = Cl pba 122 [.string ⟨qa0.toArray⟩, ii i322] :: Cl b217 30 [nos] :: Cl b218 30 [.slice ad324 l323.length cp325] :: Row Hp.nil 146 (.cons (.int .i64) (.one .bool)) (.slice ad324 l323.length cp325) l323 :: F) ?_ ?_
 · refine CJ.block <| CJ.by (fun w hs => Sep.rowNil (e := 146) (t := (.cons (.int .i64) (.one .bool))) hs) <| CJ.front 2 rfl <| CJ.front 3 rfl <| CJ.front 3 rfl <| CJ.loop (fun s ρ K' L' => ∃ (i361 : Int) (i362 : Int) (i363 : Int) (l364 : (List (Int × Bool))) (ad365 : Option Addr) (cp366 : Nat), (i361, i362, i363, l364) = s ∧ Fits [(0, .pointer (some ⟨pba, 0, none⟩)), (2, .pointer (some ⟨b217, 0, none⟩)), (4, .pointer (some ⟨b218, 0, none⟩)), (5, ii i221), (6, ii i361), (7, ii i362)] ρ ∧ K = K' ∧ L' = Cl pba 122 [.string ⟨qa0.toArray⟩, ii i363] :: Cl b217 30 [nos] :: Cl b218 30 [.slice ad365 l364.length cp366] :: Row Hp.nil 146 (.cons (.int .i64) (.one .bool)) (.slice ad365 l364.length cp366) l364 :: F) ho329 ⟨i222, 0, i223, [], none, 0, rfl, ⟨rfl, rfl, rfl, rfl, rfl, rfl, trivial⟩, rfl, rfl⟩ ?_
   rintro s ρ _ _ r402 ⟨i361, i362, i363, l364, ad365, cp366, rfl, hf400, rfl, rfl⟩ h398
   obtain ⟨ρ, rfl⟩ := hf400.ex
   refine CJ.front 3 rfl <| CJ.wit Row.hn fun hn368 => CJ.seq <| cr <| jm (ii i362) rfl <| jm (ii i221) rfl ?_
   refine jv (.bool (decide (i362 < i221))) (V.lss rfl rfl) <| jm (.bool (decide (i362 < i221))) rfl <| J.cut 3 <| jmeet [(20, .bool ((decide (i362 < i221)) && (decide (i361 = 0)))), (0, .pointer (some ⟨pba, 0, none⟩)), (2, .pointer (some ⟨b217, 0, none⟩)), (4, .pointer (some ⟨b218, 0, none⟩)), (5, ii i221), (6, ii i361), (7, ii i362)] ?_ ?_
   · rcases bt (decide (i362 < i221)) with hc405 | hc405
     · refine J.run rfl rfl rfl hc405 <| jm (ii i361) rfl <| J.run rfl rfl rfl hc405 <| jv (.bool (decide (i361 = 0))) (V.eql rfl rfl) <| jv (.bool (decide (i361 = 0))) (V.pickT rfl hc405 rfl) <| J.nil ?_
       exact ⟨rfl, ⟨(by simp only [hc405]; rfl), rfl, rfl, rfl, rfl, rfl, rfl, trivial⟩, rfl, rfl⟩
     refine J.skip rfl rfl rfl rfl hc405 <| J.skip rfl rfl rfl rfl hc405 <| jv (.bool false) (V.pickF rfl hc405 rfl) <| J.nil ?_
     exact ⟨rfl, ⟨(by simp only [hc405]; rfl), rfl, rfl, rfl, rfl, rfl, rfl, trivial⟩, rfl, rfl⟩
   intro ρ
   refine J.nil <| cc rfl h398 (fun hc406 h398 => ?_) fun hc406 h398 => ?_
   · refine CJ.skip <| CJ.seq <| CJ.block <| cr <| ja (ii 0) rfl <| J.nil ?_
     refine cr <| jm _ rfl ?_
     obtain ⟨r407, hr408, h398⟩ := ob h398
     refine J.front 1 rfl <| J.op rfl (A.call (L1 := [Cl pba 122 [.string ⟨qa0.toArray⟩, ii i363]]) Tryz.call68 rfl (sig_reader_number_p0_si_ok hr408) rfl rfl) ?_
     rintro _ _ _ ⟨v412, _, rfl, ⟨⟨i409, i410, i411, rfl, rfl, rfl⟩, rfl⟩, _, rfl⟩
     refine jm (.tuple #[ii i409, ii i410]) rfl <| jx (ii i409) rfl rfl <| jx (ii i410) rfl rfl <| ja (ii i409) rfl <| ja (ii i410) rfl <| J.nil <| CJ.region ?_
     refine jv _ (V.fad Tryz.underlying30 rfl nz28 rfl) <| jv (.slice ad365 l364.length cp366) (V.ld rfl (Ld.sc sc28 (Rd.cl 3 rfl rfl))) <| jm (ii i409) rfl <| jv (ii (IntKind.wrap .i64 (Int.tdiv i409 2))) (V.quo rfl rfl (by decide)) <| jm (ii i409) rfl <| jv (ii (Int.tmod i409 2)) (V.rem rfl rfl (by decide)) <| jv (.bool (decide ((Int.tmod i409 2) = 1))) (V.eql rfl rfl) ?_
     refine jv (.agg #[ii (IntKind.wrap .i64 (Int.tdiv i409 2)), .bool (decide ((Int.tmod i409 2) = 1))]) (V.build inf146 places146 rfl rfl) ?_
     refine J.op rfl (A.lit (K0 := Hp.nil) (ty := (.cons (.int .i64) (.one .bool))) (xs := ([(IntKind.wrap .i64 (Int.tdiv i409 2), decide ((Int.tmod i409 2) = 1))] : List (Int × Bool))) Tryz.underlying28 inf146 rfl (by decide) rfl rfl rfl ⟨_, _, rfl, ⟨_, _, rfl, rfl, rfl, rfl⟩, rfl⟩ rfl (by decide)) ?_
     rintro _ _ _ ⟨b415, rfl, rfl, rfl⟩
     have hn416 : ([(IntKind.wrap .i64 (Int.tdiv i409 2), decide ((Int.tmod i409 2) = 1))] : List (Int × Bool)) ≠ [] → ∃ g, (some ⟨b415, 0, none⟩ : Option Addr) = some ⟨g, 0, none⟩ := fun _ => ⟨b415, rfl⟩
     obtain ⟨z418, hz419, h398⟩ := ob h398
     refine J.front 2 rfl <| J.op rfl (A.appR (Kr := Hp.nil) Tryz.underlying28 inf146 rfl rfl (by decide) (by decide) rfl rfl (Els.flat rfl) (Els.flat rfl) hz419) ?_
     rintro _ _ _ ⟨v420, rfl, rfl, rfl⟩
     refine J.wit Row.form ?_
     rintro ⟨ad421, cp422, rfl, _, _, hn423⟩
     refine jv _ (V.fad Tryz.underlying30 rfl nz28 rfl) <| J.front 3 rfl <| js1 [.slice ad421 z418.length cp422] sz28 rfl rfl rfl rfl rfl rfl <| J.nil <| CJ.region <| jm (ii i362) rfl <| jv (ii (IntKind.wrap .i64 (i362 + 1))) (V.add rfl rfl) ?_
     refine ja (ii (IntKind.wrap .i64 (i362 + 1))) rfl <| J.front 1 rfl <| J.front 1 rfl <| J.front 3 rfl <| J.front 3 rfl <| J.nil ?_
     obtain rfl := si h398
     exact ⟨rfl, ⟨i410, IntKind.wrap .i64 (i362 + 1), i411, z418, ad421, cp422, rfl, ⟨rfl, rfl, rfl, rfl, rfl, rfl, trivial⟩, rfl, rfl⟩⟩
   refine CJ.front 3 rfl <| CJ.front 3 rfl <| CJ.front 3 rfl <| CJ.exit ?_
   obtain rfl := si h398
   refine ⟨nofun, fun e => ?_⟩
   subst e
   exact ⟨rfl, ⟨i361, i363, l364, ad365, cp366, rfl, ⟨rfl, rfl, rfl, trivial⟩, rfl, rfl⟩⟩
 rintro ρ _ _ ⟨i321, i322, l323, ad324, cp325, rfl, hf424, rfl, rfl⟩
 obtain ⟨ρ, rfl⟩ := hf424.ex
 refine PJ.front 3 rfl <| PJ.wit Row.hn fun hn327 => PJ.done <| cr <| jv (.agg #[.slice ad324 l323.length cp325]) (V.ld rfl (Ld.agg (cs := [.slice ad324 l323.length cp325]) Tryz.underlying30 sz30 rfl (Rd.cls 3 0 rfl rfl))) <| jm (ii i321) rfl ?_
 refine J.front 2 rfl <| js [.slice ad324 l323.length cp325] sz30 rfl rfl rfl rfl rfl rfl <| ja (ii i321) rfl <| J.nil <| CJ.ret ?_
 obtain rfl := si h
 exact ⟨_, _, Res.two rfl ⟨_, _, rfl, Ld.agg (cs := [.slice ad324 l323.length cp325]) Tryz.underlying30 sz30 rfl (Rd.cls 0 0 rfl rfl)⟩ rfl, ⟨l323, i321, i322, ad324, cp325, rfl, rfl, rfl⟩, (Hp.le_refl _), fun w hs => (Sep.front 1 rfl (Sep.dropAt 2 rfl (Sep.dropAt 0 rfl hs)))⟩

noncomputable def fn_sig_TakeType (xa : (List UInt8)) : Option (((List (Int × Bool)) × Int × Int)) :=
  (fn_sig_reader_typ_p0_si xa 0).bind fun (l28, i29, i30) => cond (!decide (i29 = 0)) (some (([], 0, i29))) (some ((l28, i30, 0)))
set_option maxRecDepth 100000 in
set_option maxHeartbeats 4000000 in
theorem sig_TakeType_ok {K : Hp} {xa : (List UInt8)}   {r : ((List (Int × Bool)) × Int × Int)} (h : fn_sig_TakeType xa = some r) :
    Tr Tryz.prog 21 #[.string ⟨xa.toArray⟩] K [] (fun v K' L' => (∃ (l17 : (List (Int × Bool))) (i22 : Int) (i23 : Int) (ad18 : Option Addr) (cp19 : Nat), (l17, i22, i23) = r ∧ .tuple #[.agg #[.slice ad18 l17.length cp19], ii i22, ii i23] = v ∧ L' = [Row Hp.nil 146 (.cons (.int .i64) (.one .bool)) (.slice ad18 l17.length cp19) l17]) ∧ K = K') := by
 refine Tr.k <| Tr.of Tryz.func21 rfl Tryz.ntmps21 rfl fun E F => ?_
 unfold fn_sig_TakeType at h
 refine cr <| jal inf30 [nos] rfl fun b24 => ja (ii 0) rfl <| ja (ii 0) rfl <| J.nil <| CJ.seq ?_
 refine CJ.region <| jm (.string ⟨xa.toArray⟩) rfl <| jv (.agg #[.string ⟨xa.toArray⟩, ii 0]) (V.build inf122 places122 rfl rfl) <| jal inf122 [.string ⟨([] : List UInt8).toArray⟩, ii 0] rfl fun b25 => js [.string ⟨xa.toArray⟩, ii 0] sz122 rfl rfl rfl rfl rfl rfl <| J.nil <| CJ.seq ?_
 refine CJ.region ?_
 obtain ⟨r26, hr27, h⟩ := ob h
 refine J.op rfl (A.call (L1 := [Cl b25 122 [.string ⟨xa.toArray⟩, ii 0]]) Tryz.call65 rfl (sig_reader_typ_p0_si_ok hr27) rfl rfl) ?_
 rintro _ _ _ ⟨v34, _, rfl, ⟨⟨l28, i29, i30, ad31, cp32, rfl, rfl, rfl⟩, rfl⟩, _, rfl⟩
 refine J.front 1 rfl <| J.wit Row.hn fun hn33 => jm (.tuple #[.agg #[.slice ad31 l28.length cp32], ii i29]) rfl <| jx (.agg #[.slice ad31 l28.length cp32]) rfl rfl <| jx (ii i29) rfl rfl <| jal inf30 [nos] rfl fun b38 => js [.slice ad31 l28.length cp32] sz30 rfl rfl rfl rfl rfl rfl ?_
 refine ja (ii i29) rfl <| J.nil <| CJ.seq <| cr <| jm (ii i29) rfl <| jv (.bool (!decide (i29 = 0))) (V.neq rfl rfl) ?_
 refine J.nil <| cc rfl h (fun hc39 h => ?_) fun hc39 h => ?_
 · refine cr <| jv (.agg #[nos]) (V.build inf30 places30 rfl rfl) <| jm (ii i29) rfl <| J.front 3 rfl <| js [nos] sz30 rfl rfl rfl rfl rfl rfl <| ja (ii 0) rfl ?_
   refine ja (ii i29) rfl <| J.nil <| CJ.by (fun w hs => Sep.rowNil (e := 146) (t := (.cons (.int .i64) (.one .bool))) hs) <| CJ.ret ?_
   obtain rfl := si h
   exact ⟨_, _, Res.three rfl ⟨_, _, rfl, Ld.agg (cs := [nos]) Tryz.underlying30 sz30 rfl (Rd.cls 1 0 rfl rfl)⟩ rfl rfl, ⟨[], 0, i29, none, 0, rfl, rfl, rfl⟩, (Hp.le_refl _), fun w hs => (Sep.dropAt 1 rfl (Sep.dropAt 1 rfl (Sep.dropAt 1 rfl (Sep.dropAt 1 rfl hs))))⟩
 refine CJ.skip <| CJ.seq <| CJ.mix [Cl b38 30 [.slice ad31 l28.length cp32], Row Hp.nil 146 (.cons (.int .i64) (.one .bool)) (.slice ad31 l28.length cp32) l28, Cl b25 122 [.string ⟨xa.toArray⟩, ii i30]] [([0, 1, 2], 3)] [4, 5] [] mixO (by decide +kernel) ⟨0, rfl, 0, rfl, 0, rfl, trivial⟩ rfl rfl rfl <| JM.cons <| qv (.agg #[.slice ad31 l28.length cp32]) (V.ld rfl (Ld.agg (cs := [.slice ad31 l28.length cp32]) Tryz.underlying30 sz30 rfl (Rd.cls 0 0 rfl rfl))) <| qv _ (V.fad Tryz.underlying122 rfl nz3 rfl) <| qv (ii i30) (V.ld rfl (Ld.sc sc3 (Rd.cl 2 rfl rfl))) ?_
 refine JQ.nil <| JA.front 3 rfl <| JA.op rfl (A.store (v := .agg #[.slice ad31 l28.length cp32]) (cs' := [.slice ad31 l28.length cp32]) sz30 rfl rfl rfl rfl rfl rfl) ?_
 rintro _ _ _ ⟨rfl, rfl, rfl⟩
 refine ⟨fun w hs => Hold.sub (Hp.le_refl _) ⟨1, rfl, 1, rfl, 1, rfl, trivial⟩ hs, ?_⟩
 refine JM.nil <| qa (ii i30) rfl <| qa (ii 0) rfl <| JQ.nil <| J.nil <| CJ.ret ?_
 obtain rfl := si h
 exact ⟨_, _, Res.three rfl ⟨_, _, rfl, Ld.agg (cs := [.slice ad31 l28.length cp32]) Tryz.underlying30 sz30 rfl (Rd.cls 0 0 rfl rfl)⟩ rfl rfl, ⟨l28, i30, 0, ad31, cp32, rfl, rfl, rfl⟩, (Hp.le_refl _), fun w hs => (Sep.dropAt 1 rfl (Sep.dropAt 0 rfl (Sep.dropAt 0 rfl hs)))⟩

noncomputable def fn_body_one_api_Type_p0_sig_TakeType__sii (qa0 : List UInt8) (qa1 : Int) (qa2 : Int) : Option (((List (Int × Bool)) × List UInt8 × Int × Int)) :=
  cond (!decide (qa2 = 0)) (some (([], qa0, qa1, qa2))) ((fn_sig_TakeType qa0).bind fun (l35, i36, i37) => cond (!decide (i37 = 0)) (some (([], qa0, qa1, i37))) ((subL qa0 i36 (((qa0.length : Nat) : Int))).bind fun y48 => some ((l35, y48, IntKind.wrap .i64 (qa1 + 1), qa2))))
set_option maxRecDepth 100000 in
set_option maxHeartbeats 4000000 in
theorem body_one_api_Type_p0_sig_TakeType__sii_ok {K : Hp} {qa0 : List UInt8} {qa1 : Int} {qa2 : Int} {pba : Nat}  {r : ((List (Int × Bool)) × List UInt8 × Int × Int)} (h : fn_body_one_api_Type_p0_sig_TakeType__sii qa0 qa1 qa2 = some r) :
    Tr Tryz.prog 22 #[.pointer (some ⟨pba, 0, none⟩), .func (.func 21) #[] #[]] K [Cl pba 54 [.string ⟨qa0.toArray⟩, ii qa1, ii qa2]] (fun v K' L' => (∃ (l21 : (List (Int × Bool))) (s26 : List UInt8) (i27 : Int) (i28 : Int) (ad22 : Option Addr) (cp23 : Nat), (l21, s26, i27, i28) = r ∧ .agg #[.slice ad22 l21.length cp23] = v ∧ L' = [Cl pba 54 [.string ⟨s26.toArray⟩, ii i27, ii i28], Row Hp.nil 146 (.cons (.int .i64) (.one .bool)) (.slice ad22 l21.length cp23) l21]) ∧ K = K') := by
 refine Tr.k <| Tr.of Tryz.func22 rfl Tryz.ntmps22 rfl fun E F => ?_
 unfold fn_body_one_api_Type_p0_sig_TakeType__sii at h
 refine cr <| jal inf30 [nos] rfl fun b29 => J.nil <| cr <| jal inf30 [nos] rfl fun b30 => ?_
 refine J.nil <| CJ.seq <| cr <| jm _ rfl <| jv _ (V.nck rfl) <| jv _ (V.fad Tryz.underlying54 rfl nz35 rfl) ?_
 refine jv (ii qa2) (V.ld rfl (Ld.sc sc35 (Rd.cl 2 rfl rfl))) <| jv (.bool (!decide (qa2 = 0))) (V.neq rfl rfl) <| J.nil <| cc rfl h (fun hc31 h => ?_) fun hc31 h => ?_
 · refine cr <| jv (.agg #[nos]) (V.ld rfl (Ld.agg (cs := [nos]) Tryz.underlying30 sz30 rfl (Rd.cls 0 0 rfl rfl))) <| J.front 1 rfl <| js [nos] sz30 rfl rfl rfl rfl rfl rfl <| J.nil <| CJ.by (fun w hs => Sep.rowNil (e := 146) (t := (.cons (.int .i64) (.one .bool))) hs) ?_
   refine CJ.ret ?_
   obtain rfl := si h
   exact ⟨_, _, Res.one rfl ⟨_, _, rfl, Ld.agg (cs := [nos]) Tryz.underlying30 sz30 rfl (Rd.cls 1 0 rfl rfl)⟩, ⟨[], qa0, qa1, qa2, none, 0, rfl, rfl, rfl⟩, (Hp.le_refl _), fun w hs => (Sep.front 1 rfl (Sep.dropAt 1 rfl (Sep.dropAt 1 rfl hs)))⟩
 refine CJ.skip <| cr <| jm (.func (.func 21) #[] #[]) rfl <| jm _ rfl <| jv _ (V.nck rfl) <| jv _ (V.fad Tryz.underlying54 rfl nz9 rfl) ?_
 refine jv (.string ⟨qa0.toArray⟩) (V.ld rfl (Ld.sc sc9 (Rd.cl 2 rfl rfl))) ?_
 obtain ⟨r33, hr34, h⟩ := ob h
 refine J.op rfl (A.call (L1 := []) Tryz.call21 rfl (sig_TakeType_ok hr34) rfl rfl) ?_
 rintro _ _ _ ⟨v41, _, rfl, ⟨⟨l35, i36, i37, ad38, cp39, rfl, rfl, rfl⟩, rfl⟩, _, rfl⟩
 refine J.wit Row.hn fun hn40 => jm (.tuple #[.agg #[.slice ad38 l35.length cp39], ii i36, ii i37]) rfl <| jx (.agg #[.slice ad38 l35.length cp39]) rfl rfl <| jx (ii i36) rfl rfl <| jx (ii i37) rfl rfl <| jal inf30 [nos] rfl fun b45 => js [.slice ad38 l35.length cp39] sz30 rfl rfl rfl rfl rfl rfl ?_
 refine ja (ii i36) rfl <| ja (ii i37) rfl <| J.nil <| CJ.seq <| cr <| jm (ii i37) rfl ?_
 refine jv (.bool (!decide (i37 = 0))) (V.neq rfl rfl) <| J.nil <| cc rfl h (fun hc46 h => ?_) fun hc46 h => ?_
 · refine cr <| jm _ rfl <| jm (ii i37) rfl <| jv _ (V.nck rfl) <| jv _ (V.fad Tryz.underlying54 rfl nz35 rfl) <| J.front 4 rfl ?_
   refine js1 [.string ⟨qa0.toArray⟩, ii qa1, ii i37] sz35 rfl rfl rfl rfl rfl rfl <| J.nil <| cr <| jv (.agg #[nos]) (V.ld rfl (Ld.agg (cs := [nos]) Tryz.underlying30 sz30 rfl (Rd.cls 3 0 rfl rfl))) <| J.front 4 rfl <| js [nos] sz30 rfl rfl rfl rfl rfl rfl ?_
   refine J.nil <| CJ.by (fun w hs => Sep.rowNil (e := 146) (t := (.cons (.int .i64) (.one .bool))) hs) <| CJ.ret ?_
   obtain rfl := si h
   exact ⟨_, _, Res.one rfl ⟨_, _, rfl, Ld.agg (cs := [nos]) Tryz.underlying30 sz30 rfl (Rd.cls 1 0 rfl rfl)⟩, ⟨[], qa0, qa1, i37, none, 0, rfl, rfl, rfl⟩, (Hp.le_refl _), fun w hs => (Sep.front 1 rfl (Sep.dropAt 2 rfl (Sep.dropAt 2 rfl (Sep.dropAt 2 rfl (Sep.dropAt 1 rfl hs)))))⟩
 refine CJ.skip <| cr <| jm _ rfl <| jm _ rfl <| jv _ (V.nck rfl) <| jv _ (V.fad Tryz.underlying54 rfl nz9 rfl) ?_
 refine jv (.string ⟨qa0.toArray⟩) (V.ld rfl (Ld.sc sc9 (Rd.cl 4 rfl rfl))) <| jm (ii i36) rfl ?_
 obtain ⟨y48, hy49, h⟩ := ob h
 refine jv (.string ⟨y48.toArray⟩) (V.subs Tryz.underlying9 rfl (fun _ h => by cases h; exact ⟨_, rfl⟩) nofun nofun (fun _ => rfl) hy49) <| jv _ (V.nck rfl) <| jv _ (V.fad Tryz.underlying54 rfl nz9 rfl) <| J.front 4 rfl <| js1 [.string ⟨y48.toArray⟩, ii qa1, ii qa2] sz9 rfl rfl rfl rfl rfl rfl <| J.nil <| CJ.seq ?_
 refine CJ.region <| jm _ rfl <| jv _ (V.nck rfl) <| jv _ (V.fad Tryz.underlying54 rfl nz3 rfl) <| jv (ii qa1) (V.ld rfl (Ld.sc sc3 (Rd.cl 0 rfl rfl))) <| jv (ii (IntKind.wrap .i64 (qa1 + 1))) (V.add rfl rfl) <| jv _ (V.nck rfl) ?_
 refine jv _ (V.fad Tryz.underlying54 rfl nz3 rfl) <| js1 [.string ⟨y48.toArray⟩, ii (IntKind.wrap .i64 (qa1 + 1)), ii qa2] sz3 rfl rfl rfl rfl rfl rfl <| J.nil <| cr <| jv (.agg #[.slice ad38 l35.length cp39]) (V.ld rfl (Ld.agg (cs := [.slice ad38 l35.length cp39]) Tryz.underlying30 sz30 rfl (Rd.cls 1 0 rfl rfl))) <| J.front 4 rfl ?_
 refine js [.slice ad38 l35.length cp39] sz30 rfl rfl rfl rfl rfl rfl <| J.nil <| CJ.ret ?_
 obtain rfl := si h
 exact ⟨_, _, Res.one rfl ⟨_, _, rfl, Ld.agg (cs := [.slice ad38 l35.length cp39]) Tryz.underlying30 sz30 rfl (Rd.cls 0 0 rfl rfl)⟩, ⟨l35, y48, IntKind.wrap .i64 (qa1 + 1), qa2, ad38, cp39, rfl, rfl, rfl⟩, (Hp.le_refl _), fun w hs => (Sep.dropAt 2 rfl (Sep.dropAt 1 rfl (Sep.dropAt 0 rfl hs)))⟩
noncomputable def fn_body_list_api_Type_p0_sig_TakeType__sii_l1 (i279 : Int) : ((List (List (Int × Bool))) × Int × List UInt8 × Int × Int) → Option (((List (List (Int × Bool))) × Int × List UInt8 × Int × Int) ⊕ ((List (List (Int × Bool))) × List UInt8 × Int × Int)) := fun ((l461, i466, s467, i468, i469) : ((List (List (Int × Bool))) × Int × List UInt8 × Int × Int)) => cond ((decide (i466 < i279)) && (decide (i469 = 0))) ((fn_body_one_api_Type_p0_sig_TakeType__sii s467 i468 i469).bind fun (l520, s521, i522, i523) => (app l461 (([l520] : List (List (Int × Bool))))).bind fun z537 => some (.inl ((z537, IntKind.wrap .i64 (i466 + 1), s521, i522, i523)))) (some (.inr (((l461, s467, i468, i469)))))
noncomputable def fn_body_list_api_Type_p0_sig_TakeType__sii (qa0 : List UInt8) (qa1 : Int) (qa2 : Int) : Option (((List (List (Int × Bool))) × List UInt8 × Int × Int)) :=
  (fn_body_count_p0_sii qa0 qa1 qa2).bind fun (i279, s280, i281, i282) => (loop (fn_body_list_api_Type_p0_sig_TakeType__sii_l1 i279) ([], 0, s280, i281, i282) : Option (((List (List (Int × Bool))) × List UInt8 × Int × Int))).bind fun (l410, s415, i416, i417) => some ((l410, s415, i416, i417))
set_option maxRecDepth 100000 in
set_option maxHeartbeats 4000000 in
theorem body_list_api_Type_p0_sig_TakeType__sii_ok {K : Hp} {qa0 : List UInt8} {qa1 : Int} {qa2 : Int} {pba : Nat}  {r : ((List (List (Int × Bool))) × List UInt8 × Int × Int)} (h : fn_body_list_api_Type_p0_sig_TakeType__sii qa0 qa1 qa2 = some r) :
    Tr Tryz.prog 20 #[.pointer (some ⟨pba, 0, none⟩), .func (.func 21) #[] #[]] K [Cl pba 54 [.string ⟨qa0.toArray⟩, ii qa1, ii qa2]] (fun v K' L' => (∃ (l269 : (List (List (Int × Bool)))) (s274 : List UInt8) (i275 : Int) (i276 : Int) (ad270 : Option Addr) (cp271 : Nat), (l269, s274, i275, i276) = r ∧ .slice ad270 l269.length cp271 = v ∧ L' = [Cl pba 54 [.string ⟨s274.toArray⟩, ii i275, ii i276], Row K' 30 (.one (.sl (.cons (.int .i64) (.one .bool)))) (.slice ad270 l269.length cp271) l269])) := by
 refine Tr.of Tryz.func20 rfl Tryz.ntmps20 rfl fun E F => ?_
 unfold fn_body_list_api_Type_p0_sig_TakeType__sii at h
 refine cr <| ja (nos) rfl <| J.nil <| cr <| ja (nos) rfl ?_
 refine J.nil <| cr <| jm _ rfl ?_
 obtain ⟨r277, hr278, h⟩ := ob h
 refine J.op rfl (A.call (L1 := [Cl pba 54 [.string ⟨qa0.toArray⟩, ii qa1, ii qa2]]) Tryz.call17 rfl (body_count_p0_sii_ok hr278) rfl rfl) ?_
 rintro _ _ _ ⟨v283, _, rfl, ⟨⟨i279, s280, i281, i282, rfl, rfl, rfl⟩, rfl⟩, _, rfl⟩
 refine ja (ii i279) rfl <| J.nil <| CJ.seq <| cr <| ja (ii 0) rfl <| J.nil ?_
 obtain ⟨o418, ho419, h⟩ := ob h
 refine CJ.meetN (fun ρ K' L' => ∃ (l410 : (List (List (Int × Bool)))) (s415 : List UInt8) (i416 : Int) (i417 : Int) (ad411 : Option Addr) (cp412 : Nat), (l410, s415, i416, i417) = o418 ∧ Fits [(5, .slice ad411 l410.length cp412)] ρ ∧ Hp.le K K' ∧ L' = Cl pba 54 [.string ⟨s415.toArray⟩, ii i416, ii i417] :: Row K' 30 (.one (.sl (.cons (.int .i64) (.one .bool)))) (.slice ad411 l410.length cp412) l410 :: F) ?_ ?_
 · refine CJ.block <| CJ.by (fun w hs => Sep.rowNil (e := 30) (t := (.one (.sl (.cons (.int .i64) (.one .bool))))) hs) <| CJ.by (fun w hs => hs.mono (Row.mono (Hp.nil_le K))) <| CJ.front 1 rfl <| CJ.loop (fun s ρ K' L' => ∃ (l461 : (List (List (Int × Bool)))) (i466 : Int) (s467 : List UInt8) (i468 : Int) (i469 : Int) (ad462 : Option Addr) (cp463 : Nat), (l461, i466, s467, i468, i469) = s ∧ Fits [(0, .pointer (some ⟨pba, 0, none⟩)), (1, .func (.func 21) #[] #[]), (5, .slice ad462 l461.length cp463), (6, ii i279), (7, ii i466)] ρ ∧ Hp.le K K' ∧ L' = Cl pba 54 [.string ⟨s467.toArray⟩, ii i468, ii i469] :: Row K' 30 (.one (.sl (.cons (.int .i64) (.one .bool)))) (.slice ad462 l461.length cp463) l461 :: F) ho419 ⟨[], 0, s280, i281, i282, none, 0, rfl, ⟨rfl, rfl, rfl, rfl, rfl, trivial⟩, (Hp.le_refl _), rfl⟩ ?_
   rintro s ρ K460 _ r513 ⟨l461, i466, s467, i468, i469, ad462, cp463, rfl, hf511, hk512, rfl⟩ h509
   obtain ⟨ρ, rfl⟩ := hf511.ex
   refine CJ.front 1 rfl <| CJ.wit Row.hn fun hn465 => CJ.seq <| cr <| jm (ii i466) rfl <| jm (ii i279) rfl ?_
   refine jv (.bool (decide (i466 < i279))) (V.lss rfl rfl) <| jm (.bool (decide (i466 < i279))) rfl <| J.cut 6 <| jmeet [(19, .bool ((decide (i466 < i279)) && (decide (i469 = 0)))), (0, .pointer (some ⟨pba, 0, none⟩)), (1, .func (.func 21) #[] #[]), (5, .slice ad462 l461.length cp463), (6, ii i279), (7, ii i466)] ?_ ?_
   · rcases bt (decide (i466 < i279)) with hc516 | hc516
     · refine J.run rfl rfl rfl hc516 <| jm _ rfl <| J.run rfl rfl rfl hc516 <| jv _ (V.nck rfl) <| J.run rfl rfl rfl hc516 <| jv _ (V.fad Tryz.underlying54 rfl nz35 rfl) <| J.run rfl rfl rfl hc516 ?_
       refine jv (ii i469) (V.ld rfl (Ld.sc sc35 (Rd.cl 1 rfl rfl))) <| J.run rfl rfl rfl hc516 <| jv (.bool (decide (i469 = 0))) (V.eql rfl rfl) <| jv (.bool (decide (i469 = 0))) (V.pickT rfl hc516 rfl) <| J.nil ?_
       exact ⟨rfl, ⟨(by simp only [hc516]; rfl), rfl, rfl, rfl, rfl, rfl, trivial⟩, rfl, rfl⟩
     refine J.skip rfl rfl rfl rfl hc516 <| J.skip rfl rfl rfl rfl hc516 <| J.skip rfl rfl rfl rfl hc516 <| J.skip rfl rfl rfl rfl hc516 <| J.skip rfl rfl rfl rfl hc516 <| jv (.bool false) (V.pickF rfl hc516 rfl) <| J.nil ?_
     exact ⟨rfl, ⟨(by simp only [hc516]; rfl), rfl, rfl, rfl, rfl, rfl, trivial⟩, rfl, rfl⟩
   intro ρ
   refine J.nil <| cc rfl h509 (fun hc517 h509 => ?_) fun hc517 h509 => ?_
   · refine CJ.skip <| CJ.seq <| CJ.block <| CJ.region <| jm (.slice ad462 l461.length cp463) rfl <| jm _ rfl <| jm (.func (.func 21) #[] #[]) rfl ?_
     obtain ⟨r518, hr519, h509⟩ := ob h509
     refine J.front 1 rfl <| J.op rfl (A.call (L1 := [Cl pba 54 [.string ⟨s467.toArray⟩, ii i468, ii i469]]) Tryz.call22 rfl (body_one_api_Type_p0_sig_TakeType__sii_ok hr519) rfl rfl) ?_
     rintro _ _ _ ⟨v527, _, rfl, ⟨⟨l520, s521, i522, i523, ad524, cp525, rfl, rfl, rfl⟩, rfl⟩, _, rfl⟩
     refine J.front 1 rfl <| J.wit Row.hn fun hn526 => J.persist (Hp.nil_le _) (by decide) fun K531 hK532 f533 => ?_
     refine J.op rfl (A.lit (K0 := K531) (ty := (.one (.sl (.cons (.int .i64) (.one .bool))))) (xs := ([l520] : List (List (Int × Bool)))) Tryz.underlying27 inf30 rfl (by decide) rfl rfl rfl ⟨_, _, rfl, f533, rfl⟩ rfl (by decide)) ?_
     rintro _ _ _ ⟨b534, rfl, rfl, rfl⟩
     have hn535 : ([l520] : List (List (Int × Bool))) ≠ [] → ∃ g, (some ⟨b534, 0, none⟩ : Option Addr) = some ⟨g, 0, none⟩ := fun _ => ⟨b534, rfl⟩
     obtain ⟨z537, hz538, h509⟩ := ob h509
     refine J.front 2 rfl <| J.op rfl (A.appR (Kr := K531) Tryz.underlying27 inf30 rfl rfl (by decide) (by decide) rfl rfl (Els.mono hK532) (Els.mono (Hp.le_refl _)) hz538) ?_
     rintro _ _ _ ⟨v539, rfl, rfl, rfl⟩
     refine J.wit Row.form ?_
     rintro ⟨ad540, cp541, rfl, _, _, hn542⟩
     refine ja (.slice ad540 z537.length cp541) rfl <| J.nil <| CJ.region <| jm (ii i466) rfl <| jv (ii (IntKind.wrap .i64 (i466 + 1))) (V.add rfl rfl) <| ja (ii (IntKind.wrap .i64 (i466 + 1))) rfl <| J.front 1 rfl ?_
     refine J.nil ?_
     obtain rfl := si h509
     exact ⟨rfl, ⟨z537, IntKind.wrap .i64 (i466 + 1), s521, i522, i523, ad540, cp541, rfl, ⟨rfl, rfl, rfl, rfl, rfl, trivial⟩, (hk512.trans hK532), rfl⟩⟩
   refine CJ.front 1 rfl <| CJ.exit ?_
   obtain rfl := si h509
   refine ⟨nofun, fun e => ?_⟩
   subst e
   exact ⟨rfl, ⟨l461, s467, i468, i469, ad462, cp463, rfl, ⟨rfl, trivial⟩, hk512, rfl⟩⟩
 rintro ρ K409 _ ⟨l410, s415, i416, i417, ad411, cp412, rfl, hf543, hk544, rfl⟩
 obtain ⟨ρ, rfl⟩ := hf543.ex
 refine PJ.front 1 rfl <| PJ.wit Row.hn fun hn414 => PJ.done <| cr <| jm (.slice ad411 l410.length cp412) rfl <| ja (.slice ad411 l410.length cp412) rfl ?_
 refine J.nil <| CJ.ret ?_
 obtain rfl := si h
 exact ⟨_, _, Res.one rfl rfl, ⟨l410, s415, i416, i417, ad411, cp412, rfl, rfl, rfl⟩, hk544, fun w hs => (Sep.front 1 rfl hs)⟩

noncomputable def fn_sig_Take_1_p0p1p2_si_innn_i (qa0 : List UInt8) (qa1 : Int) (qb0 : Int) (qc0 : Int) : Option (Int × Int × Int) :=
  (fn_sig_reader_number_p0_si qa0 qa1).bind fun (i14, i15, i17) => some ((i17, i14, i15))
set_option maxRecDepth 100000 in
set_option maxHeartbeats 4000000 in
theorem sig_Take_1_p0p1p2_si_innn_i_ok {K : Hp} {qa0 : List UInt8} {qa1 : Int} {qb0 : Int} {qc0 : Int} {pba : Nat} {pbb : Nat} {pbc : Nat}  {r : (Int × Int × Int)} (h : fn_sig_Take_1_p0p1p2_si_innn_i qa0 qa1 qb0 qc0 = some r) :
    Tr Tryz.prog 67 #[.pointer (some ⟨pba, 0, none⟩), .pointer (some ⟨pbb, 0, none⟩), .pointer (some ⟨pbc, 0, none⟩)] K [Cl pba 122 [.string ⟨qa0.toArray⟩, ii qa1], Cl pbb 63 [ii qb0, nos, nos, nos], Cl pbc 35 [ii qc0]] (fun v K' L' => (∃ (i9 : Int) (i10 : Int) (i11 : Int), (i9, i10, i11) = r ∧ .tuple #[] = v ∧ L' = [Cl pba 122 [.string ⟨qa0.toArray⟩, ii i9], Cl pbb 63 [ii i10, nos, nos, nos], Cl pbc 35 [ii i11]]) ∧ K = K') := by
 refine Tr.k <| Tr.of Tryz.func67 rfl Tryz.ntmps67 rfl fun E F => ?_
 unfold fn_sig_Take_1_p0p1p2_si_innn_i at h
 refine CJ.region ?_
 obtain ⟨r12, hr13, h⟩ := ob h
 refine J.op rfl (A.call (L1 := [Cl pba 122 [.string ⟨qa0.toArray⟩, ii qa1]]) Tryz.call68 rfl (sig_reader_number_p0_si_ok hr13) rfl rfl) ?_
 rintro _ _ _ ⟨v18, _, rfl, ⟨⟨i14, i15, i17, rfl, rfl, rfl⟩, rfl⟩, _, rfl⟩
 refine jm (.tuple #[ii i14, ii i15]) rfl <| jx (ii i14) rfl rfl <| jx (ii i15) rfl rfl <| jv _ (V.fad Tryz.underlying63 rfl nz3 rfl) <| J.front 1 rfl <| js1 [ii i14, nos, nos, nos] sz3 rfl rfl rfl rfl rfl rfl <| J.front 2 rfl ?_
 refine js1 [ii i15] sz35 rfl rfl rfl rfl rfl rfl <| J.nil ?_
 obtain rfl := si h
 exact ⟨_, _, Res.zero rfl, ⟨i17, i14, i15, rfl, rfl, rfl⟩, (Hp.le_refl _), fun w hs => (Sep.front 2 rfl (Sep.front 1 rfl hs))⟩

noncomputable def fn_sig_Take_2_p0p1p2_si_innn_i (qa0 : List UInt8) (qa1 : Int) (qb0 : Int) (qc0 : Int) : Option ((Int × (List (Int × Int)) × Int)) :=
  (fn_sig_reader_bounds_p0i_si 16 qa0 qa1).bind fun (l22, i23, i24) => some ((i24, l22, i23))
set_option maxRecDepth 100000 in
set_option maxHeartbeats 4000000 in
theorem sig_Take_2_p0p1p2_si_innn_i_ok {K : Hp} {qa0 : List UInt8} {qa1 : Int} {qb0 : Int} {qc0 : Int} {pba : Nat} {pbb : Nat} {pbc : Nat}  {r : (Int × (List (Int × Int)) × Int)} (h : fn_sig_Take_2_p0p1p2_si_innn_i qa0 qa1 qb0 qc0 = some r) :
    Tr Tryz.prog 69 #[.pointer (some ⟨pba, 0, none⟩), .pointer (some ⟨pbb, 0, none⟩), .pointer (some ⟨pbc, 0, none⟩)] K [Cl pba 122 [.string ⟨qa0.toArray⟩, ii qa1], Cl pbb 63 [ii qb0, nos, nos, nos], Cl pbc 35 [ii qc0]] (fun v K' L' => (∃ (i13 : Int) (l14 : (List (Int × Int))) (i19 : Int) (ad15 : Option Addr) (cp16 : Nat), (i13, l14, i19) = r ∧ .tuple #[] = v ∧ L' = [Cl pba 122 [.string ⟨qa0.toArray⟩, ii i13], Cl pbb 63 [ii qb0, .slice ad15 l14.length cp16, nos, nos], Cl pbc 35 [ii i19], Row Hp.nil 95 (.cons (.int .i64) (.one (.int .i64))) (.slice ad15 l14.length cp16) l14]) ∧ K = K') := by
 refine Tr.k <| Tr.of Tryz.func69 rfl Tryz.ntmps69 rfl fun E F => ?_
 unfold fn_sig_Take_2_p0p1p2_si_innn_i at h
 refine CJ.region ?_
 obtain ⟨r20, hr21, h⟩ := ob h
 refine J.op rfl (A.call (L1 := [Cl pba 122 [.string ⟨qa0.toArray⟩, ii qa1]]) Tryz.call70 rfl (sig_reader_bounds_p0i_si_ok hr21) rfl rfl) ?_
 rintro _ _ _ ⟨v28, _, rfl, ⟨⟨l22, i23, i24, ad25, cp26, rfl, rfl, rfl⟩, rfl⟩, _, rfl⟩
 refine J.front 1 rfl <| J.wit Row.hn fun hn27 => jm (.tuple #[.slice ad25 l22.length cp26, ii i23]) rfl <| jx (.slice ad25 l22.length cp26) rfl rfl <| jx (ii i23) rfl rfl <| jv _ (V.fad Tryz.underlying63 rfl nz26 rfl) <| J.front 2 rfl ?_
 refine js1 [ii qb0, .slice ad25 l22.length cp26, nos, nos] sz26 rfl rfl rfl rfl rfl rfl <| J.front 3 rfl <| js1 [ii i23] sz35 rfl rfl rfl rfl rfl rfl <| J.nil ?_
 obtain rfl := si h
 exact ⟨_, _, Res.zero rfl, ⟨i24, l22, i23, ad25, cp26, rfl, rfl, rfl⟩, (Hp.le_refl _), fun w hs => (Sep.front 3 rfl (Sep.front 2 rfl (Sep.front 1 rfl (Sep.front 2 rfl hs))))⟩
noncomputable def fn_sig_reader_types_p0_si_l1 (qa0 : List UInt8) (i270 : Int) : ((List (List (Int × Bool))) × Int × Int × Int) → Option (((List (List (Int × Bool))) × Int × Int × Int) ⊕ ((List (List (Int × Bool))) × Int × Int)) := fun ((l446, i451, i452, i453) : ((List (List (Int × Bool))) × Int × Int × Int)) => cond ((decide (i452 < i270)) && (decide (i451 = 0))) ((fn_sig_reader_typ_p0_si qa0 i453).bind fun (l504, i505, i506) => (app l446 (([l504] : List (List (Int × Bool))))).bind fun z520 => some (.inl ((z520, i505, IntKind.wrap .i64 (i452 + 1), i506)))) (some (.inr (((l446, i451, i453)))))
noncomputable def fn_sig_reader_types_p0_si (qa0 : List UInt8) (qa1 : Int) : Option (((List (List (Int × Bool))) × Int × Int)) :=
  (fn_sig_reader_many_p0i_si 16 qa0 qa1).bind fun (i270, i271, i272) => (loop (fn_sig_reader_types_p0_si_l1 qa0 i270) ([], i271, 0, i272) : Option (((List (List (Int × Bool))) × Int × Int))).bind fun (l397, i402, i403) => some ((l397, i402, i403))
set_option maxRecDepth 100000 in
set_option maxHeartbeats 4000000 in
theorem sig_reader_types_p0_si_ok {K : Hp} {qa0 : List UInt8} {qa1 : Int} {pba : Nat}  {r : ((List (List (Int × Bool))) × Int × Int)} (h : fn_sig_reader_types_p0_si qa0 qa1 = some r) :
    Tr Tryz.prog 72 #[.pointer (some ⟨pba, 0, none⟩)] K [Cl pba 122 [.string ⟨qa0.toArray⟩, ii qa1]] (fun v K' L' => (∃ (l261 : (List (List (Int × Bool)))) (i266 : Int) (i267 : Int) (ad262 : Option Addr) (cp263 : Nat), (l261, i266, i267) = r ∧ .tuple #[.slice ad262 l261.length cp263, ii i266] = v ∧ L' = [Cl pba 122 [.string ⟨qa0.toArray⟩, ii i267], Row K' 30 (.one (.sl (.cons (.int .i64) (.one .bool)))) (.slice ad262 l261.length cp263) l261])) := by
 refine Tr.of Tryz.func72 rfl Tryz.ntmps72 rfl fun E F => ?_
 unfold fn_sig_reader_types_p0_si at h
 refine cr <| ja (nos) rfl <| ja (ii 0) rfl <| J.nil <| CJ.seq <| CJ.region ?_
 refine ja (nos) rfl <| J.nil <| cr <| jm _ rfl ?_
 obtain ⟨r268, hr269, h⟩ := ob h
 refine J.op rfl (A.call (L1 := [Cl pba 122 [.string ⟨qa0.toArray⟩, ii qa1]]) Tryz.call100 rfl (sig_reader_many_p0i_si_ok hr269) rfl rfl) ?_
 rintro _ _ _ ⟨v273, _, rfl, ⟨⟨i270, i271, i272, rfl, rfl, rfl⟩, rfl⟩, _, rfl⟩
 refine jm (.tuple #[ii i270, ii i271]) rfl <| jx (ii i270) rfl rfl <| jx (ii i271) rfl rfl <| ja (ii i270) rfl <| ja (ii i271) rfl <| J.nil <| CJ.seq ?_
 refine cr <| ja (ii 0) rfl <| J.nil ?_
 obtain ⟨o404, ho405, h⟩ := ob h
 refine CJ.meetN (fun ρ K' L' => ∃ (l397 : (List (List (Int × Bool)))) (i402 : Int) (i403 : Int) (ad398 : Option Addr) (cp399 : Nat), (l397, i402, i403) = o404 ∧ Fits [(4, .slice ad398 l397.length cp399), (6, ii i402)] ρ ∧ Hp.le K K' ∧ L' = Cl pba 122 [.string ⟨qa0.toArray⟩, ii i403] :: Row K' 30 (.one (.sl (.cons (.int .i64) (.one .bool)))) (.slice ad398 l397.length cp399) l397 :: F) ?_ ?_
 · refine CJ.block <| CJ.by (fun w hs => Sep.rowNil (e := 30) (t := (.one (.sl (.cons (.int .i64) (.one .bool))))) hs) <| CJ.by (fun w hs => hs.mono (Row.mono (Hp.nil_le K))) <| CJ.front 1 rfl <| CJ.loop (fun s ρ K' L' => ∃ (l446 : (List (List (Int × Bool)))) (i451 : Int) (i452 : Int) (i453 : Int) (ad447 : Option Addr) (cp448 : Nat), (l446, i451, i452, i453) = s ∧ Fits [(0, .pointer (some ⟨pba, 0, none⟩)), (4, .slice ad447 l446.length cp448), (5, ii i270), (6, ii i451), (7, ii i452)] ρ ∧ Hp.le K K' ∧ L' = Cl pba 122 [.string ⟨qa0.toArray⟩, ii i453] :: Row K' 30 (.one (.sl (.cons (.int .i64) (.one .bool)))) (.slice ad447 l446.length cp448) l446 :: F) ho405 ⟨[], i271, 0, i272, none, 0, rfl, ⟨rfl, rfl, rfl, rfl, rfl, trivial⟩, (Hp.le_refl _), rfl⟩ ?_
   rintro s ρ K445 _ r496 ⟨l446, i451, i452, i453, ad447, cp448, rfl, hf494, hk495, rfl⟩ h492
   obtain ⟨ρ, rfl⟩ := hf494.ex
   refine CJ.front 1 rfl <| CJ.wit Row.hn fun hn450 => CJ.seq <| cr <| jm (ii i452) rfl <| jm (ii i270) rfl ?_
   refine jv (.bool (decide (i452 < i270))) (V.lss rfl rfl) <| jm (.bool (decide (i452 < i270))) rfl <| J.cut 3 <| jmeet [(20, .bool ((decide (i452 < i270)) && (decide (i451 = 0)))), (0, .pointer (some ⟨pba, 0, none⟩)), (4, .slice ad447 l446.length cp448), (5, ii i270), (6, ii i451), (7, ii i452)] ?_ ?_
   · rcases bt (decide (i452 < i270)) with hc499 | hc499
     · refine J.run rfl rfl rfl hc499 <| jm (ii i451) rfl <| J.run rfl rfl rfl hc499 <| jv (.bool (decide (i451 = 0))) (V.eql rfl rfl) <| jv (.bool (decide (i451 = 0))) (V.pickT rfl hc499 rfl) <| J.nil ?_
       exact ⟨rfl, ⟨(by simp only [hc499]; rfl), rfl, rfl, rfl, rfl, rfl, trivial⟩, rfl, rfl⟩
     refine J.skip rfl rfl rfl rfl hc499 <| J.skip rfl rfl rfl rfl hc499 <| jv (.bool false) (V.pickF rfl hc499 rfl) <| J.nil ?_
     exact ⟨rfl, ⟨(by simp only [hc499]; rfl), rfl, rfl, rfl, rfl, rfl, trivial⟩, rfl, rfl⟩
   intro ρ
   refine J.nil <| cc rfl h492 (fun hc500 h492 => ?_) fun hc500 h492 => ?_
   · refine CJ.skip <| CJ.seq <| CJ.block <| cr <| jal inf30 [nos] rfl fun b501 => J.nil ?_
     refine cr <| jm _ rfl ?_
     obtain ⟨r502, hr503, h492⟩ := ob h492
     refine J.front 2 rfl <| J.op rfl (A.call (L1 := [Cl pba 122 [.string ⟨qa0.toArray⟩, ii i453]]) Tryz.call65 rfl (sig_reader_typ_p0_si_ok hr503) rfl rfl) ?_
     rintro _ _ _ ⟨v510, _, rfl, ⟨⟨l504, i505, i506, ad507, cp508, rfl, rfl, rfl⟩, rfl⟩, _, rfl⟩
     refine J.front 1 rfl <| J.wit Row.hn fun hn509 => jm (.tuple #[.agg #[.slice ad507 l504.length cp508], ii i505]) rfl <| jx (.agg #[.slice ad507 l504.length cp508]) rfl rfl <| jx (ii i505) rfl rfl <| J.front 2 rfl <| js [.slice ad507 l504.length cp508] sz30 rfl rfl rfl rfl rfl rfl ?_
     refine ja (ii i505) rfl <| J.nil <| CJ.region <| jm (.slice ad447 l446.length cp448) rfl <| jv (.agg #[.slice ad507 l504.length cp508]) (V.ld rfl (Ld.agg (cs := [.slice ad507 l504.length cp508]) Tryz.underlying30 sz30 rfl (Rd.cls 0 0 rfl rfl))) <| J.front 1 rfl <| J.persist (Hp.nil_le _) (by decide) fun K514 hK515 f516 => ?_
     refine J.op rfl (A.lit (K0 := K514) (ty := (.one (.sl (.cons (.int .i64) (.one .bool))))) (xs := ([l504] : List (List (Int × Bool)))) Tryz.underlying27 inf30 rfl (by decide) rfl rfl rfl ⟨_, _, rfl, f516, rfl⟩ rfl (by decide)) ?_
     rintro _ _ _ ⟨b517, rfl, rfl, rfl⟩
     have hn518 : ([l504] : List (List (Int × Bool))) ≠ [] → ∃ g, (some ⟨b517, 0, none⟩ : Option Addr) = some ⟨g, 0, none⟩ := fun _ => ⟨b517, rfl⟩
     obtain ⟨z520, hz521, h492⟩ := ob h492
     refine J.front 3 rfl <| J.op rfl (A.appR (Kr := K514) Tryz.underlying27 inf30 rfl rfl (by decide) (by decide) rfl rfl (Els.mono hK515) (Els.mono (Hp.le_refl _)) hz521) ?_
     rintro _ _ _ ⟨v522, rfl, rfl, rfl⟩
     refine J.wit Row.form ?_
     rintro ⟨ad523, cp524, rfl, _, _, hn525⟩
     refine ja (.slice ad523 z520.length cp524) rfl <| J.nil <| CJ.region <| jm (ii i452) rfl <| jv (ii (IntKind.wrap .i64 (i452 + 1))) (V.add rfl rfl) <| ja (ii (IntKind.wrap .i64 (i452 + 1))) rfl <| J.dropAt 1 rfl ?_
     refine J.front 1 rfl <| J.nil ?_
     obtain rfl := si h492
     exact ⟨rfl, ⟨z520, i505, IntKind.wrap .i64 (i452 + 1), i506, ad523, cp524, rfl, ⟨rfl, rfl, rfl, rfl, rfl, trivial⟩, (hk495.trans hK515), rfl⟩⟩
   refine CJ.front 1 rfl <| CJ.exit ?_
   obtain rfl := si h492
   refine ⟨nofun, fun e => ?_⟩
   subst e
   exact ⟨rfl, ⟨l446, i451, i453, ad447, cp448, rfl, ⟨rfl, rfl, trivial⟩, hk495, rfl⟩⟩
 rintro ρ K396 _ ⟨l397, i402, i403, ad398, cp399, rfl, hf526, hk527, rfl⟩
 obtain ⟨ρ, rfl⟩ := hf526.ex
 refine PJ.front 1 rfl <| PJ.wit Row.hn fun hn401 => PJ.done <| cr <| jm (.slice ad398 l397.length cp399) rfl <| jm (ii i402) rfl ?_
 refine ja (.slice ad398 l397.length cp399) rfl <| ja (ii i402) rfl <| J.nil <| CJ.ret ?_
 obtain rfl := si h
 exact ⟨_, _, Res.two rfl rfl rfl, ⟨l397, i402, i403, ad398, cp399, rfl, rfl, rfl⟩, hk527, fun w hs => (Sep.front 1 rfl hs)⟩

noncomputable def fn_sig_Take_3_p0p1p2_si_irnn_i (qa0 : List UInt8) (qa1 : Int) (qb0 : Int) (qb1 : (List (Int × Int))) (qc0 : Int) : Option ((Int × (List (List (Int × Bool))) × Int)) :=
  (fn_sig_reader_types_p0_si qa0 qa1).bind fun (l22, i23, i24) => some ((i24, l22, i23))
set_option maxRecDepth 100000 in
set_option maxHeartbeats 4000000 in
theorem sig_Take_3_p0p1p2_si_irnn_i_ok {K : Hp} {qa0 : List UInt8} {qa1 : Int} {qb0 : Int} {qb1 : (List (Int × Int))} {qc0 : Int} {pba : Nat} {pbb : Nat} {pbc : Nat} {adqb1 : Option Addr} {cpqb1 : Nat}  {r : (Int × (List (List (Int × Bool))) × Int)} (h : fn_sig_Take_3_p0p1p2_si_irnn_i qa0 qa1 qb0 qb1 qc0 = some r) :
    Tr Tryz.prog 71 #[.pointer (some ⟨pba, 0, none⟩), .pointer (some ⟨pbb, 0, none⟩), .pointer (some ⟨pbc, 0, none⟩)] K [Cl pba 122 [.string ⟨qa0.toArray⟩, ii qa1], Cl pbb 63 [ii qb0, .slice adqb1 qb1.length cpqb1, nos, nos], Cl pbc 35 [ii qc0], Row Hp.nil 95 (.cons (.int .i64) (.one (.int .i64))) (.slice adqb1 qb1.length cpqb1) qb1] (fun v K' L' => (∃ (i13 : Int) (l14 : (List (List (Int × Bool)))) (i19 : Int) (ad15 : Option Addr) (cp16 : Nat), (i13, l14, i19) = r ∧ .tuple #[] = v ∧ L' = [Cl pba 122 [.string ⟨qa0.toArray⟩, ii i13], Cl pbb 63 [ii qb0, .slice adqb1 qb1.length cpqb1, .slice ad15 l14.length cp16, nos], Cl pbc 35 [ii i19], Row Hp.nil 95 (.cons (.int .i64) (.one (.int .i64))) (.slice adqb1 qb1.length cpqb1) qb1, Row K' 30 (.one (.sl (.cons (.int .i64) (.one .bool)))) (.slice ad15 l14.length cp16) l14])) := by
 refine Tr.of Tryz.func71 rfl Tryz.ntmps71 rfl fun E F => ?_
 unfold fn_sig_Take_3_p0p1p2_si_irnn_i at h
 refine CJ.front 3 rfl <| CJ.wit Row.hn fun hnqb1 => CJ.region ?_
 obtain ⟨r20, hr21, h⟩ := ob h
 refine J.front 1 rfl <| J.op rfl (A.call (L1 := [Cl pba 122 [.string ⟨qa0.toArray⟩, ii qa1]]) Tryz.call72 rfl (sig_reader_types_p0_si_ok hr21) rfl rfl) ?_
 rintro _ K29 _ ⟨v28, _, rfl, ⟨l22, i23, i24, ad25, cp26, rfl, rfl, rfl⟩, hK30, rfl⟩
 refine J.front 1 rfl <| J.wit Row.hn fun hn27 => jm (.tuple #[.slice ad25 l22.length cp26, ii i23]) rfl <| jx (.slice ad25 l22.length cp26) rfl rfl <| jx (ii i23) rfl rfl <| jv _ (V.fad Tryz.underlying63 rfl nz27 rfl) <| J.front 3 rfl ?_
 refine js1 [ii qb0, .slice adqb1 qb1.length cpqb1, .slice ad25 l22.length cp26, nos] sz27 rfl rfl rfl rfl rfl rfl <| J.front 4 rfl <| js1 [ii i23] sz35 rfl rfl rfl rfl rfl rfl <| J.nil ?_
 obtain rfl := si h
 exact ⟨_, _, Res.zero rfl, ⟨i24, l22, i23, ad25, cp26, rfl, rfl, rfl⟩, hK30, fun w hs => (Sep.front 4 rfl (Sep.front 3 rfl (Sep.front 2 rfl (Sep.front 4 rfl (Sep.front 2 rfl hs)))))⟩

noncomputable def fn_sig_Take_4_p0p1p2_si_irrn_i (qa0 : List UInt8) (qa1 : Int) (qb0 : Int) (qb1 : (List (Int × Int))) (qb2 : (List (List (Int × Bool)))) (qc0 : Int) : Option ((Int × (List (Int × Bool)) × Int)) :=
  (fn_sig_reader_typ_p0_si qa0 qa1).bind fun (l22, i23, i24) => some ((i24, l22, i23))
set_option maxRecDepth 100000 in
set_option maxHeartbeats 4000000 in
theorem sig_Take_4_p0p1p2_si_irrn_i_ok {K : Hp} {qa0 : List UInt8} {qa1 : Int} {qb0 : Int} {qb1 : (List (Int × Int))} {qb2 : (List (List (Int × Bool)))} {qc0 : Int} {pba : Nat} {pbb : Nat} {pbc : Nat} {adqb1 : Option Addr} {cpqb1 : Nat} {adqb2 : Option Addr} {cpqb2 : Nat}  {r : (Int × (List (Int × Bool)) × Int)} (h : fn_sig_Take_4_p0p1p2_si_irrn_i qa0 qa1 qb0 qb1 qb2 qc0 = some r) :
    Tr Tryz.prog 73 #[.pointer (some ⟨pba, 0, none⟩), .pointer (some ⟨pbb, 0, none⟩), .pointer (some ⟨pbc, 0, none⟩)] K [Cl pba 122 [.string ⟨qa0.toArray⟩, ii qa1], Cl pbb 63 [ii qb0, .slice adqb1 qb1.length cpqb1, .slice adqb2 qb2.length cpqb2, nos], Cl pbc 35 [ii qc0], Row Hp.nil 95 (.cons (.int .i64) (.one (.int .i64))) (.slice adqb1 qb1.length cpqb1) qb1, Row K 30 (.one (.sl (.cons (.int .i64) (.one .bool)))) (.slice adqb2 qb2.length cpqb2) qb2] (fun v K' L' => (∃ (i13 : Int) (l14 : (List (Int × Bool))) (i19 : Int) (ad15 : Option Addr) (cp16 : Nat), (i13, l14, i19) = r ∧ .tuple #[] = v ∧ L' = [Cl pba 122 [.string ⟨qa0.toArray⟩, ii i13], Cl pbb 63 [ii qb0, .slice adqb1 qb1.length cpqb1, .slice adqb2 qb2.length cpqb2, .slice ad15 l14.length cp16], Cl pbc 35 [ii i19], Row Hp.nil 95 (.cons (.int .i64) (.one (.int .i64))) (.slice adqb1 qb1.length cpqb1) qb1, Row K' 30 (.one (.sl (.cons (.int .i64) (.one .bool)))) (.slice adqb2 qb2.length cpqb2) qb2, Row Hp.nil 146 (.cons (.int .i64) (.one .bool)) (.slice ad15 l14.length cp16) l14])) := by
 refine Tr.of Tryz.func73 rfl Tryz.ntmps73 rfl fun E F => ?_
 unfold fn_sig_Take_4_p0p1p2_si_irrn_i at h
 refine CJ.front 3 rfl <| CJ.wit Row.hn fun hnqb1 => CJ.front 4 rfl <| CJ.wit Row.hn fun hnqb2 => CJ.region ?_
 obtain ⟨r20, hr21, h⟩ := ob h
 refine J.front 2 rfl <| J.op rfl (A.call (L1 := [Cl pba 122 [.string ⟨qa0.toArray⟩, ii qa1]]) Tryz.call65 rfl (sig_reader_typ_p0_si_ok hr21) rfl rfl) ?_
 rintro _ _ _ ⟨v28, _, rfl, ⟨⟨l22, i23, i24, ad25, cp26, rfl, rfl, rfl⟩, rfl⟩, _, rfl⟩
 refine J.front 1 rfl <| J.wit Row.hn fun hn27 => jm (.tuple #[.agg #[.slice ad25 l22.length cp26], ii i23]) rfl <| jx (.agg #[.slice ad25 l22.length cp26]) rfl rfl <| jx (ii i23) rfl rfl <| jv _ (V.fad Tryz.underlying63 rfl nz30 rfl) <| J.front 4 rfl ?_
 refine js [ii qb0, .slice adqb1 qb1.length cpqb1, .slice adqb2 qb2.length cpqb2, .slice ad25 l22.length cp26] sz30 rfl rfl rfl rfl rfl rfl <| J.front 5 rfl <| js1 [ii i23] sz35 rfl rfl rfl rfl rfl rfl <| J.nil ?_
 obtain rfl := si h
 exact ⟨_, _, Res.zero rfl, ⟨i24, l22, i23, ad25, cp26, rfl, rfl, rfl⟩, (Hp.le_refl _), fun w hs => (Sep.front 5 rfl (Sep.front 4 rfl (Sep.front 3 rfl (Sep.front 5 rfl (Sep.front 4 rfl (Sep.front 2 rfl hs))))))⟩

noncomputable def fn_sig_Take (xa : (List UInt8)) : Option ((Int × (List (Int × Int)) × (List (List (Int × Bool))) × (List (Int × Bool)) × Int × Int)) :=
  (fn_sig_Take_1_p0p1p2_si_innn_i xa 0 0 0).bind fun (i83, i84, i85) => cond (!decide (i85 = 0)) (some ((0, [], [], [], 0, i85))) ((fn_sig_Take_2_p0p1p2_si_innn_i xa i83 i84 i85).bind fun (i95, l96, i97) => cond (!decide (i97 = 0)) (some ((0, [], [], [], 0, i97))) ((fn_sig_Take_3_p0p1p2_si_irnn_i xa i95 i84 l96 i97).bind fun (i111, l112, i113) => cond (!decide (i113 = 0)) (some ((0, [], [], [], 0, i113))) ((fn_sig_Take_4_p0p1p2_si_irrn_i xa i111 i84 l96 l112 i113).bind fun (i128, l129, i130) => cond (!decide (i130 = 0)) (some ((0, [], [], [], 0, i130))) (some ((i84, l96, l112, l129, i128, 0))))))
set_option maxRecDepth 100000 in
set_option maxHeartbeats 4000000 in
theorem sig_Take_ok {K : Hp} {xa : (List UInt8)}   {r : (Int × (List (Int × Int)) × (List (List (Int × Bool))) × (List (Int × Bool)) × Int × Int)} (h : fn_sig_Take xa = some r) :
    Tr Tryz.prog 24 #[.string ⟨xa.toArray⟩] K [] (fun v K' L' => (∃ (i58 : Int) (l59 : (List (Int × Int))) (l64 : (List (List (Int × Bool)))) (l69 : (List (Int × Bool))) (i74 : Int) (i75 : Int) (ad60 : Option Addr) (cp61 : Nat) (ad65 : Option Addr) (cp66 : Nat) (ad70 : Option Addr) (cp71 : Nat), (i58, l59, l64, l69, i74, i75) = r ∧ .tuple #[.agg #[ii i58, .slice ad60 l59.length cp61, .slice ad65 l64.length cp66, .slice ad70 l69.length cp71], ii i74, ii i75] = v ∧ L' = [Row Hp.nil 95 (.cons (.int .i64) (.one (.int .i64))) (.slice ad60 l59.length cp61) l59, Row K' 30 (.one (.sl (.cons (.int .i64) (.one .bool)))) (.slice ad65 l64.length cp66) l64, Row Hp.nil 146 (.cons (.int .i64) (.one .bool)) (.slice ad70 l69.length cp71) l69])) := by
 refine Tr.of Tryz.func24 rfl Tryz.ntmps24 rfl fun E F => ?_
 unfold fn_sig_Take at h
 refine cr <| jal inf63 [ii 0, nos, nos, nos] rfl fun b76 => ja (ii 0) rfl <| ja (ii 0) rfl <| J.nil <| CJ.seq ?_
 refine CJ.region <| jm (.string ⟨xa.toArray⟩) rfl <| jv (.agg #[.string ⟨xa.toArray⟩, ii 0]) (V.build inf122 places122 rfl rfl) <| jal inf122 [.string ⟨([] : List UInt8).toArray⟩, ii 0] rfl fun b77 => js [.string ⟨xa.toArray⟩, ii 0] sz122 rfl rfl rfl rfl rfl rfl <| J.nil <| CJ.seq ?_
 refine CJ.region <| jal inf63 [ii 0, nos, nos, nos] rfl fun b78 => J.nil <| cr <| jal inf35 [ii 0] rfl fun b79 => J.nil ?_
 refine cr <| jv (.func (.func 67) #[] #[.pointer (some ⟨b77, 0, none⟩), .pointer (some ⟨b78, 0, none⟩), .pointer (some ⟨b79, 0, none⟩)]) (V.mkf rfl) <| jv (.func (.func 69) #[] #[.pointer (some ⟨b77, 0, none⟩), .pointer (some ⟨b78, 0, none⟩), .pointer (some ⟨b79, 0, none⟩)]) (V.mkf rfl) <| jv (.func (.func 71) #[] #[.pointer (some ⟨b77, 0, none⟩), .pointer (some ⟨b78, 0, none⟩), .pointer (some ⟨b79, 0, none⟩)]) (V.mkf rfl) <| jv (.func (.func 73) #[] #[.pointer (some ⟨b77, 0, none⟩), .pointer (some ⟨b78, 0, none⟩), .pointer (some ⟨b79, 0, none⟩)]) (V.mkf rfl) ?_
 refine J.op rfl (A.litC (cs := [.func (.func 67) #[] #[.pointer (some ⟨b77, 0, none⟩), .pointer (some ⟨b78, 0, none⟩), .pointer (some ⟨b79, 0, none⟩)], .func (.func 69) #[] #[.pointer (some ⟨b77, 0, none⟩), .pointer (some ⟨b78, 0, none⟩), .pointer (some ⟨b79, 0, none⟩)], .func (.func 71) #[] #[.pointer (some ⟨b77, 0, none⟩), .pointer (some ⟨b78, 0, none⟩), .pointer (some ⟨b79, 0, none⟩)], .func (.func 73) #[] #[.pointer (some ⟨b77, 0, none⟩), .pointer (some ⟨b78, 0, none⟩), .pointer (some ⟨b79, 0, none⟩)]]) Tryz.underlying132 inf1 (by decide) rfl rfl (by decide)) ?_
 rintro _ _ _ ⟨b80, rfl, rfl, rfl⟩
 refine ja (.slice (some ⟨b80, 0, none⟩) 4 4) rfl <| J.nil <| CJ.seq <| cr <| jm (.slice (some ⟨b80, 0, none⟩) 4 4) rfl <| jv (ii 4) (Val.eq (V.len Tryz.underlying132 rfl) rfl) ?_
 refine jm (ii 0) rfl <| J.nil <| CJ.block <| CJ.unroll 64 <| RJ.next <| CJ.seq <| CJ.region ?_
 refine jv (.bool true) (Val.eq (V.lss rfl rfl) rfl) <| J.nil <| CJ.seq <| CJ.condK (b := true) rfl rfl <| CJ.skip <| CJ.seq <| CJ.block ?_
 refine cr <| jv _ (Val.eq (V.iad Tryz.underlying132 sz1 rfl rfl rfl (by decide) (by decide)) rfl) <| jv (.func (.func 67) #[] #[.pointer (some ⟨b77, 0, none⟩), .pointer (some ⟨b78, 0, none⟩), .pointer (some ⟨b79, 0, none⟩)]) (V.ld rfl (Ld.sc sc1 (Rd.cl 0 rfl rfl))) <| ja (.func (.func 67) #[] #[.pointer (some ⟨b77, 0, none⟩), .pointer (some ⟨b78, 0, none⟩), .pointer (some ⟨b79, 0, none⟩)]) rfl <| J.nil <| CJ.seq ?_
 refine CJ.region <| jm (.func (.func 67) #[] #[.pointer (some ⟨b77, 0, none⟩), .pointer (some ⟨b78, 0, none⟩), .pointer (some ⟨b79, 0, none⟩)]) rfl ?_
 obtain ⟨r81, hr82, h⟩ := ob h
 refine J.front 1 rfl <| J.front 2 rfl <| J.front 3 rfl <| J.op rfl (A.call (L1 := [Cl b77 122 [.string ⟨xa.toArray⟩, ii 0], Cl b78 63 [ii 0, nos, nos, nos], Cl b79 35 [ii 0]]) Tryz.call67 rfl (sig_Take_1_p0p1p2_si_innn_i_ok hr82) rfl rfl) ?_
 rintro _ _ _ ⟨v86, _, rfl, ⟨⟨i83, i84, i85, rfl, rfl, rfl⟩, rfl⟩, _, rfl⟩
 refine J.nil <| cr <| jv (ii i85) (V.ld rfl (Ld.sc sc35 (Rd.cl 2 rfl rfl))) <| jv (.bool (!decide (i85 = 0))) (V.neq rfl rfl) <| J.nil <| cc rfl h (fun hc89 h => ?_) fun hc89 h => ?_
 · refine CJ.seq <| CJ.mix [Cl b77 122 [.string ⟨xa.toArray⟩, ii i83], Cl b78 63 [ii i84, nos, nos, nos], Cl b79 35 [ii i85], Cl b80 1 [.func (.func 67) #[] #[.pointer (some ⟨b77, 0, none⟩), .pointer (some ⟨b78, 0, none⟩), .pointer (some ⟨b79, 0, none⟩)], .func (.func 69) #[] #[.pointer (some ⟨b77, 0, none⟩), .pointer (some ⟨b78, 0, none⟩), .pointer (some ⟨b79, 0, none⟩)], .func (.func 71) #[] #[.pointer (some ⟨b77, 0, none⟩), .pointer (some ⟨b78, 0, none⟩), .pointer (some ⟨b79, 0, none⟩)], .func (.func 73) #[] #[.pointer (some ⟨b77, 0, none⟩), .pointer (some ⟨b78, 0, none⟩), .pointer (some ⟨b79, 0, none⟩)]], Cl b76 63 [ii 0, nos, nos, nos]] [([0, 1], 2)] [3, 4] [] mixO (by decide +kernel) ⟨0, rfl, 0, rfl, 0, rfl, 0, rfl, 0, rfl, trivial⟩ rfl rfl rfl <| JM.cons <| qv (.agg #[ii 0, nos, nos, nos]) (V.build inf63 places63 rfl rfl) <| qv (ii i85) (V.ld rfl (Ld.sc sc35 (Rd.cl 2 rfl rfl))) <| JQ.nil <| JA.front 4 rfl ?_
   refine JA.op rfl (A.store (v := .agg #[ii 0, nos, nos, nos]) (cs' := [ii 0, nos, nos, nos]) sz63 rfl rfl rfl rfl rfl rfl) ?_
   rintro _ _ _ ⟨rfl, rfl, rfl⟩
   refine ⟨fun w hs => Hold.sub (Hp.le_refl _) ⟨1, rfl, 1, rfl, 1, rfl, 1, rfl, 0, rfl, trivial⟩ hs, ?_⟩
   refine JM.nil <| qa (ii 0) rfl <| qa (ii i85) rfl <| JQ.nil <| J.nil <| CJ.by (fun w hs => Sep.rowNil (e := 95) (t := (.cons (.int .i64) (.one (.int .i64)))) hs) <| CJ.by (fun w hs => Sep.rowNil (e := 30) (t := (.one (.sl (.cons (.int .i64) (.one .bool))))) hs) ?_
   refine CJ.by (fun w hs => Sep.rowNil (e := 146) (t := (.cons (.int .i64) (.one .bool))) hs) <| CJ.ret ?_
   obtain rfl := si h
   exact ⟨_, _, Res.three rfl ⟨_, _, rfl, Ld.agg (cs := [ii 0, nos, nos, nos]) Tryz.underlying63 sz63 rfl (Rd.cls 3 0 rfl rfl)⟩ rfl rfl, ⟨0, [], [], [], 0, i85, none, 0, none, 0, none, 0, rfl, rfl, rfl⟩, (Hp.le_refl _), fun w hs => (Sep.front 2 rfl (Sep.front 1 rfl (Sep.dropAt 3 rfl (Sep.dropAt 3 rfl (Sep.dropAt 3 rfl (Sep.dropAt 3 rfl (Sep.dropAt 3 rfl hs)))))))⟩
 refine CJ.skip <| CJ.region <| jv (ii 1) (Val.eq (V.add rfl rfl) rfl) <| jm (ii 1) rfl <| J.nil <| RJ.next <| CJ.seq ?_
 refine CJ.region <| jv (.bool true) (Val.eq (V.lss rfl rfl) rfl) <| J.nil <| CJ.seq <| CJ.condK (b := true) rfl rfl <| CJ.skip <| CJ.seq ?_
 refine CJ.block <| cr <| jv _ (Val.eq (V.iad Tryz.underlying132 sz1 rfl rfl rfl (by decide) (by decide)) rfl) <| jv (.func (.func 69) #[] #[.pointer (some ⟨b77, 0, none⟩), .pointer (some ⟨b78, 0, none⟩), .pointer (some ⟨b79, 0, none⟩)]) (V.ld rfl (Ld.sc sc1 (Rd.cl 3 rfl rfl))) <| ja (.func (.func 69) #[] #[.pointer (some ⟨b77, 0, none⟩), .pointer (some ⟨b78, 0, none⟩), .pointer (some ⟨b79, 0, none⟩)]) rfl <| J.nil ?_
 refine cr <| jm (.func (.func 69) #[] #[.pointer (some ⟨b77, 0, none⟩), .pointer (some ⟨b78, 0, none⟩), .pointer (some ⟨b79, 0, none⟩)]) rfl ?_
 obtain ⟨r93, hr94, h⟩ := ob h
 refine J.op rfl (A.call (L1 := [Cl b77 122 [.string ⟨xa.toArray⟩, ii i83], Cl b78 63 [ii i84, nos, nos, nos], Cl b79 35 [ii i85]]) Tryz.call69 rfl (sig_Take_2_p0p1p2_si_innn_i_ok hr94) rfl rfl) ?_
 rintro _ _ _ ⟨v101, _, rfl, ⟨⟨i95, l96, i97, ad98, cp99, rfl, rfl, rfl⟩, rfl⟩, _, rfl⟩
 refine J.front 3 rfl <| J.wit Row.hn fun hn100 => J.nil <| cr <| jv (ii i97) (V.ld rfl (Ld.sc sc35 (Rd.cl 3 rfl rfl))) <| jv (.bool (!decide (i97 = 0))) (V.neq rfl rfl) ?_
 refine J.nil <| cc rfl h (fun hc105 h => ?_) fun hc105 h => ?_
 · refine CJ.seq <| CJ.mix [Row Hp.nil 95 (.cons (.int .i64) (.one (.int .i64))) (.slice ad98 l96.length cp99) l96, Cl b77 122 [.string ⟨xa.toArray⟩, ii i95], Cl b78 63 [ii i84, .slice ad98 l96.length cp99, nos, nos], Cl b79 35 [ii i97], Cl b80 1 [.func (.func 67) #[] #[.pointer (some ⟨b77, 0, none⟩), .pointer (some ⟨b78, 0, none⟩), .pointer (some ⟨b79, 0, none⟩)], .func (.func 69) #[] #[.pointer (some ⟨b77, 0, none⟩), .pointer (some ⟨b78, 0, none⟩), .pointer (some ⟨b79, 0, none⟩)], .func (.func 71) #[] #[.pointer (some ⟨b77, 0, none⟩), .pointer (some ⟨b78, 0, none⟩), .pointer (some ⟨b79, 0, none⟩)], .func (.func 73) #[] #[.pointer (some ⟨b77, 0, none⟩), .pointer (some ⟨b78, 0, none⟩), .pointer (some ⟨b79, 0, none⟩)]], Cl b76 63 [ii 0, nos, nos, nos]] [([0, 1], 2)] [3, 4] [] mixO (by decide +kernel) ⟨0, rfl, 0, rfl, 0, rfl, 0, rfl, 0, rfl, 0, rfl, trivial⟩ rfl rfl rfl <| JM.cons <| qv (.agg #[ii 0, nos, nos, nos]) (V.build inf63 places63 rfl rfl) <| qv (ii i97) (V.ld rfl (Ld.sc sc35 (Rd.cl 3 rfl rfl))) <| JQ.nil <| JA.front 5 rfl ?_
   refine JA.op rfl (A.store (v := .agg #[ii 0, nos, nos, nos]) (cs' := [ii 0, nos, nos, nos]) sz63 rfl rfl rfl rfl rfl rfl) ?_
   rintro _ _ _ ⟨rfl, rfl, rfl⟩
   refine ⟨fun w hs => Hold.sub (Hp.le_refl _) ⟨1, rfl, 1, rfl, 1, rfl, 1, rfl, 1, rfl, 0, rfl, trivial⟩ hs, ?_⟩
   refine JM.nil <| qa (ii 0) rfl <| qa (ii i97) rfl <| JQ.nil <| J.nil <| CJ.by (fun w hs => Sep.rowNil (e := 95) (t := (.cons (.int .i64) (.one (.int .i64)))) hs) <| CJ.by (fun w hs => Sep.rowNil (e := 30) (t := (.one (.sl (.cons (.int .i64) (.one .bool))))) hs) ?_
   refine CJ.by (fun w hs => Sep.rowNil (e := 146) (t := (.cons (.int .i64) (.one .bool))) hs) <| CJ.ret ?_
   obtain rfl := si h
   exact ⟨_, _, Res.three rfl ⟨_, _, rfl, Ld.agg (cs := [ii 0, nos, nos, nos]) Tryz.underlying63 sz63 rfl (Rd.cls 3 0 rfl rfl)⟩ rfl rfl, ⟨0, [], [], [], 0, i97, none, 0, none, 0, none, 0, rfl, rfl, rfl⟩, (Hp.le_refl _), fun w hs => (Sep.front 2 rfl (Sep.front 1 rfl (Sep.dropAt 3 rfl (Sep.dropAt 3 rfl (Sep.dropAt 3 rfl (Sep.dropAt 3 rfl (Sep.dropAt 3 rfl (Sep.dropAt 3 rfl hs))))))))⟩
 refine CJ.skip <| CJ.region <| jv (ii 2) (Val.eq (V.add rfl rfl) rfl) <| jm (ii 2) rfl <| J.nil <| RJ.next <| CJ.seq ?_
 refine CJ.region <| jv (.bool true) (Val.eq (V.lss rfl rfl) rfl) <| J.nil <| CJ.seq <| CJ.condK (b := true) rfl rfl <| CJ.skip <| CJ.seq ?_
 refine CJ.block <| cr <| jv _ (Val.eq (V.iad Tryz.underlying132 sz1 rfl rfl rfl (by decide) (by decide)) rfl) <| jv (.func (.func 71) #[] #[.pointer (some ⟨b77, 0, none⟩), .pointer (some ⟨b78, 0, none⟩), .pointer (some ⟨b79, 0, none⟩)]) (V.ld rfl (Ld.sc sc1 (Rd.cl 4 rfl rfl))) <| ja (.func (.func 71) #[] #[.pointer (some ⟨b77, 0, none⟩), .pointer (some ⟨b78, 0, none⟩), .pointer (some ⟨b79, 0, none⟩)]) rfl <| J.nil ?_
 refine cr <| jm (.func (.func 71) #[] #[.pointer (some ⟨b77, 0, none⟩), .pointer (some ⟨b78, 0, none⟩), .pointer (some ⟨b79, 0, none⟩)]) rfl ?_
 obtain ⟨r109, hr110, h⟩ := ob h
 refine J.front 3 rfl <| J.front 3 rfl <| J.front 3 rfl <| J.op rfl (A.call (L1 := [Cl b77 122 [.string ⟨xa.toArray⟩, ii i95], Cl b78 63 [ii i84, .slice ad98 l96.length cp99, nos, nos], Cl b79 35 [ii i97], Row Hp.nil 95 (.cons (.int .i64) (.one (.int .i64))) (.slice ad98 l96.length cp99) l96]) Tryz.call71 rfl (sig_Take_3_p0p1p2_si_irnn_i_ok hr110) rfl rfl) ?_
 rintro _ K118 _ ⟨v117, _, rfl, ⟨i111, l112, i113, ad114, cp115, rfl, rfl, rfl⟩, hK119, rfl⟩
 refine J.front 3 rfl <| J.wit Row.hn fun hn121 => J.front 4 rfl <| J.wit Row.hn fun hn116 => J.nil <| CJ.seq <| CJ.region ?_
 refine jv (ii i113) (V.ld rfl (Ld.sc sc35 (Rd.cl 4 rfl rfl))) <| jv (.bool (!decide (i113 = 0))) (V.neq rfl rfl) <| J.nil <| cc rfl h (fun hc122 h => ?_) fun hc122 h => ?_
 · refine CJ.seq <| CJ.mix [Row K118 30 (.one (.sl (.cons (.int .i64) (.one .bool)))) (.slice ad114 l112.length cp115) l112, Row Hp.nil 95 (.cons (.int .i64) (.one (.int .i64))) (.slice ad98 l96.length cp99) l96, Cl b77 122 [.string ⟨xa.toArray⟩, ii i111], Cl b78 63 [ii i84, .slice ad98 l96.length cp99, .slice ad114 l112.length cp115, nos], Cl b79 35 [ii i113], Cl b80 1 [.func (.func 67) #[] #[.pointer (some ⟨b77, 0, none⟩), .pointer (some ⟨b78, 0, none⟩), .pointer (some ⟨b79, 0, none⟩)], .func (.func 69) #[] #[.pointer (some ⟨b77, 0, none⟩), .pointer (some ⟨b78, 0, none⟩), .pointer (some ⟨b79, 0, none⟩)], .func (.func 71) #[] #[.pointer (some ⟨b77, 0, none⟩), .pointer (some ⟨b78, 0, none⟩), .pointer (some ⟨b79, 0, none⟩)], .func (.func 73) #[] #[.pointer (some ⟨b77, 0, none⟩), .pointer (some ⟨b78, 0, none⟩), .pointer (some ⟨b79, 0, none⟩)]], Cl b76 63 [ii 0, nos, nos, nos]] [([0, 1], 2)] [3, 4] [] mixO (by decide +kernel) ⟨0, rfl, 0, rfl, 0, rfl, 0, rfl, 0, rfl, 0, rfl, 0, rfl, trivial⟩ rfl rfl rfl <| JM.cons <| qv (.agg #[ii 0, nos, nos, nos]) (V.build inf63 places63 rfl rfl) <| qv (ii i113) (V.ld rfl (Ld.sc sc35 (Rd.cl 4 rfl rfl))) <| JQ.nil <| JA.front 6 rfl ?_
   refine JA.op rfl (A.store (v := .agg #[ii 0, nos, nos, nos]) (cs' := [ii 0, nos, nos, nos]) sz63 rfl rfl rfl rfl rfl rfl) ?_
   rintro _ _ _ ⟨rfl, rfl, rfl⟩
   refine ⟨fun w hs => Hold.sub (Hp.le_refl _) ⟨1, rfl, 1, rfl, 1, rfl, 1, rfl, 1, rfl, 1, rfl, 0, rfl, trivial⟩ hs, ?_⟩
   refine JM.nil <| qa (ii 0) rfl <| qa (ii i113) rfl <| JQ.nil <| J.nil <| CJ.by (fun w hs => Sep.rowNil (e := 95) (t := (.cons (.int .i64) (.one (.int .i64)))) hs) <| CJ.by (fun w hs => Sep.rowNil (e := 30) (t := (.one (.sl (.cons (.int .i64) (.one .bool))))) hs) ?_
   refine CJ.by (fun w hs => Sep.rowNil (e := 146) (t := (.cons (.int .i64) (.one .bool))) hs) <| CJ.ret ?_
   obtain rfl := si h
   exact ⟨_, _, Res.three rfl ⟨_, _, rfl, Ld.agg (cs := [ii 0, nos, nos, nos]) Tryz.underlying63 sz63 rfl (Rd.cls 3 0 rfl rfl)⟩ rfl rfl, ⟨0, [], [], [], 0, i113, none, 0, none, 0, none, 0, rfl, rfl, rfl⟩, hK119, fun w hs => (Sep.front 2 rfl (Sep.front 1 rfl (Sep.dropAt 3 rfl (Sep.dropAt 3 rfl (Sep.dropAt 3 rfl (Sep.dropAt 3 rfl (Sep.dropAt 3 rfl (Sep.dropAt 3 rfl (Sep.dropAt 3 rfl hs)))))))))⟩
 refine CJ.skip <| CJ.region <| jv (ii 3) (Val.eq (V.add rfl rfl) rfl) <| jm (ii 3) rfl <| J.nil <| RJ.next <| CJ.seq ?_
 refine CJ.region <| jv (.bool true) (Val.eq (V.lss rfl rfl) rfl) <| J.nil <| CJ.seq <| CJ.condK (b := true) rfl rfl <| CJ.skip <| CJ.seq ?_
 refine CJ.block <| cr <| jv _ (Val.eq (V.iad Tryz.underlying132 sz1 rfl rfl rfl (by decide) (by decide)) rfl) <| jv (.func (.func 73) #[] #[.pointer (some ⟨b77, 0, none⟩), .pointer (some ⟨b78, 0, none⟩), .pointer (some ⟨b79, 0, none⟩)]) (V.ld rfl (Ld.sc sc1 (Rd.cl 5 rfl rfl))) <| ja (.func (.func 73) #[] #[.pointer (some ⟨b77, 0, none⟩), .pointer (some ⟨b78, 0, none⟩), .pointer (some ⟨b79, 0, none⟩)]) rfl <| J.nil ?_
 refine cr <| jm (.func (.func 73) #[] #[.pointer (some ⟨b77, 0, none⟩), .pointer (some ⟨b78, 0, none⟩), .pointer (some ⟨b79, 0, none⟩)]) rfl ?_
 obtain ⟨r126, hr127, h⟩ := ob h
 refine J.front 1 rfl <| J.front 4 rfl <| J.front 4 rfl <| J.front 4 rfl <| J.op rfl (A.call (L1 := [Cl b77 122 [.string ⟨xa.toArray⟩, ii i111], Cl b78 63 [ii i84, .slice ad98 l96.length cp99, .slice ad114 l112.length cp115, nos], Cl b79 35 [ii i113], Row Hp.nil 95 (.cons (.int .i64) (.one (.int .i64))) (.slice ad98 l96.length cp99) l96, Row K118 30 (.one (.sl (.cons (.int .i64) (.one .bool)))) (.slice ad114 l112.length cp115) l112]) Tryz.call73 rfl (sig_Take_4_p0p1p2_si_irrn_i_ok hr127) rfl rfl) ?_
 rintro _ K135 _ ⟨v134, _, rfl, ⟨i128, l129, i130, ad131, cp132, rfl, rfl, rfl⟩, hK136, rfl⟩
 refine J.front 3 rfl <| J.wit Row.hn fun hn138 => J.front 4 rfl <| J.wit Row.hn fun hn139 => J.front 5 rfl <| J.wit Row.hn fun hn133 => J.nil ?_
 refine cr <| jv (ii i130) (V.ld rfl (Ld.sc sc35 (Rd.cl 5 rfl rfl))) <| jv (.bool (!decide (i130 = 0))) (V.neq rfl rfl) <| J.nil <| cc rfl h (fun hc140 h => ?_) fun hc140 h => ?_
 · refine CJ.seq <| CJ.mix [Row Hp.nil 146 (.cons (.int .i64) (.one .bool)) (.slice ad131 l129.length cp132) l129, Row K135 30 (.one (.sl (.cons (.int .i64) (.one .bool)))) (.slice ad114 l112.length cp115) l112, Row Hp.nil 95 (.cons (.int .i64) (.one (.int .i64))) (.slice ad98 l96.length cp99) l96, Cl b77 122 [.string ⟨xa.toArray⟩, ii i128], Cl b78 63 [ii i84, .slice ad98 l96.length cp99, .slice ad114 l112.length cp115, .slice ad131 l129.length cp132], Cl b79 35 [ii i130], Cl b80 1 [.func (.func 67) #[] #[.pointer (some ⟨b77, 0, none⟩), .pointer (some ⟨b78, 0, none⟩), .pointer (some ⟨b79, 0, none⟩)], .func (.func 69) #[] #[.pointer (some ⟨b77, 0, none⟩), .pointer (some ⟨b78, 0, none⟩), .pointer (some ⟨b79, 0, none⟩)], .func (.func 71) #[] #[.pointer (some ⟨b77, 0, none⟩), .pointer (some ⟨b78, 0, none⟩), .pointer (some ⟨b79, 0, none⟩)], .func (.func 73) #[] #[.pointer (some ⟨b77, 0, none⟩), .pointer (some ⟨b78, 0, none⟩), .pointer (some ⟨b79, 0, none⟩)]], Cl b76 63 [ii 0, nos, nos, nos]] [([0, 1], 2)] [3, 4] [] mixO (by decide +kernel) ⟨0, rfl, 0, rfl, 0, rfl, 0, rfl, 0, rfl, 0, rfl, 0, rfl, 0, rfl, trivial⟩ rfl rfl rfl <| JM.cons <| qv (.agg #[ii 0, nos, nos, nos]) (V.build inf63 places63 rfl rfl) <| qv (ii i130) (V.ld rfl (Ld.sc sc35 (Rd.cl 5 rfl rfl))) <| JQ.nil <| JA.front 7 rfl ?_
   refine JA.op rfl (A.store (v := .agg #[ii 0, nos, nos, nos]) (cs' := [ii 0, nos, nos, nos]) sz63 rfl rfl rfl rfl rfl rfl) ?_
   rintro _ _ _ ⟨rfl, rfl, rfl⟩
   refine ⟨fun w hs => Hold.sub (Hp.le_refl _) ⟨1, rfl, 1, rfl, 1, rfl, 1, rfl, 1, rfl, 1, rfl, 1, rfl, 0, rfl, trivial⟩ hs, ?_⟩
   refine JM.nil <| qa (ii 0) rfl <| qa (ii i130) rfl <| JQ.nil <| J.nil <| CJ.by (fun w hs => Sep.rowNil (e := 95) (t := (.cons (.int .i64) (.one (.int .i64)))) hs) <| CJ.by (fun w hs => Sep.rowNil (e := 30) (t := (.one (.sl (.cons (.int .i64) (.one .bool))))) hs) ?_
   refine CJ.by (fun w hs => Sep.rowNil (e := 146) (t := (.cons (.int .i64) (.one .bool))) hs) <| CJ.ret ?_
   obtain rfl := si h
   exact ⟨_, _, Res.three rfl ⟨_, _, rfl, Ld.agg (cs := [ii 0, nos, nos, nos]) Tryz.underlying63 sz63 rfl (Rd.cls 3 0 rfl rfl)⟩ rfl rfl, ⟨0, [], [], [], 0, i130, none, 0, none, 0, none, 0, rfl, rfl, rfl⟩, (hK119.trans hK136), fun w hs => (Sep.front 2 rfl (Sep.front 1 rfl (Sep.dropAt 3 rfl (Sep.dropAt 3 rfl (Sep.dropAt 3 rfl (Sep.dropAt 3 rfl (Sep.dropAt 3 rfl (Sep.dropAt 3 rfl (Sep.dropAt 3 rfl (Sep.dropAt 3 rfl hs))))))))))⟩
 refine CJ.skip <| CJ.region <| jv (ii 4) (Val.eq (V.add rfl rfl) rfl) <| jm (ii 4) rfl <| J.nil <| RJ.next <| CJ.seq ?_
 refine CJ.region <| jv (.bool false) (Val.eq (V.lss rfl rfl) rfl) <| J.nil <| CJ.seq <| CJ.condK (b := false) rfl rfl <| CJ.exit <| CJ.seq ?_
 refine CJ.mix [Row Hp.nil 146 (.cons (.int .i64) (.one .bool)) (.slice ad131 l129.length cp132) l129, Row K135 30 (.one (.sl (.cons (.int .i64) (.one .bool)))) (.slice ad114 l112.length cp115) l112, Row Hp.nil 95 (.cons (.int .i64) (.one (.int .i64))) (.slice ad98 l96.length cp99) l96, Cl b77 122 [.string ⟨xa.toArray⟩, ii i128], Cl b78 63 [ii i84, .slice ad98 l96.length cp99, .slice ad114 l112.length cp115, .slice ad131 l129.length cp132], Cl b79 35 [ii i130], Cl b80 1 [.func (.func 67) #[] #[.pointer (some ⟨b77, 0, none⟩), .pointer (some ⟨b78, 0, none⟩), .pointer (some ⟨b79, 0, none⟩)], .func (.func 69) #[] #[.pointer (some ⟨b77, 0, none⟩), .pointer (some ⟨b78, 0, none⟩), .pointer (some ⟨b79, 0, none⟩)], .func (.func 71) #[] #[.pointer (some ⟨b77, 0, none⟩), .pointer (some ⟨b78, 0, none⟩), .pointer (some ⟨b79, 0, none⟩)], .func (.func 73) #[] #[.pointer (some ⟨b77, 0, none⟩), .pointer (some ⟨b78, 0, none⟩), .pointer (some ⟨b79, 0, none⟩)]]] [([0, 1, 2], 3)] [4, 5] [] mixO (by decide +kernel) ⟨0, rfl, 0, rfl, 0, rfl, 0, rfl, 0, rfl, 0, rfl, 0, rfl, trivial⟩ rfl rfl rfl <| JM.cons <| qv (.agg #[ii i84, .slice ad98 l96.length cp99, .slice ad114 l112.length cp115, .slice ad131 l129.length cp132]) (V.ld rfl (Ld.agg (cs := [ii i84, .slice ad98 l96.length cp99, .slice ad114 l112.length cp115, .slice ad131 l129.length cp132]) Tryz.underlying63 sz63 rfl (Rd.cls 4 0 rfl rfl))) <| qv _ (V.fad Tryz.underlying122 rfl nz3 rfl) <| qv (ii i128) (V.ld rfl (Ld.sc sc3 (Rd.cl 3 rfl rfl))) <| JQ.nil <| JA.front 7 rfl ?_
 refine JA.op rfl (A.store (v := .agg #[ii i84, .slice ad98 l96.length cp99, .slice ad114 l112.length cp115, .slice ad131 l129.length cp132]) (cs' := [ii i84, .slice ad98 l96.length cp99, .slice ad114 l112.length cp115, .slice ad131 l129.length cp132]) sz63 rfl rfl rfl rfl rfl rfl) ?_
 rintro _ _ _ ⟨rfl, rfl, rfl⟩
 refine ⟨fun w hs => Hold.sub (Hp.le_refl _) ⟨1, rfl, 1, rfl, 1, rfl, 1, rfl, 1, rfl, 1, rfl, 1, rfl, trivial⟩ hs, ?_⟩
 refine JM.nil <| qa (ii i128) rfl <| qa (ii 0) rfl <| JQ.nil <| J.nil <| CJ.ret ?_
 obtain rfl := si h
 exact ⟨_, _, Res.three rfl ⟨_, _, rfl, Ld.agg (cs := [ii i84, .slice ad98 l96.length cp99, .slice ad114 l112.length cp115, .slice ad131 l129.length cp132]) Tryz.underlying63 sz63 rfl (Rd.cls 0 0 rfl rfl)⟩ rfl rfl, ⟨i84, l96, l112, l129, i128, 0, ad98, cp99, ad114, cp115, ad131, cp132, rfl, rfl, rfl⟩, (hK119.trans hK136), fun w hs => (Sep.front 2 rfl (Sep.front 1 rfl (Sep.dropAt 3 rfl (Sep.dropAt 3 rfl (Sep.dropAt 3 rfl (Sep.dropAt 3 rfl (Sep.dropAt 0 rfl hs)))))))⟩

noncomputable def fn_body_one_api_Sig_p0_sig_Take__sii (qa0 : List UInt8) (qa1 : Int) (qa2 : Int) : Option ((Int × (List (Int × Int)) × (List (List (Int × Bool))) × (List (Int × Bool)) × List UInt8 × Int × Int)) :=
  cond (!decide (qa2 = 0)) (some ((0, [], [], [], qa0, qa1, qa2))) ((fn_sig_Take qa0).bind fun (i58, l59, l60, l61, i62, i63) => cond (!decide (i63 = 0)) (some ((0, [], [], [], qa0, qa1, i63))) ((subL qa0 i62 (((qa0.length : Nat) : Int))).bind fun y84 => some ((i58, l59, l60, l61, y84, IntKind.wrap .i64 (qa1 + 1), qa2))))
set_option maxRecDepth 100000 in
set_option maxHeartbeats 4000000 in
theorem body_one_api_Sig_p0_sig_Take__sii_ok {K : Hp} {qa0 : List UInt8} {qa1 : Int} {qa2 : Int} {pba : Nat}  {r : (Int × (List (Int × Int)) × (List (List (Int × Bool))) × (List (Int × Bool)) × List UInt8 × Int × Int)} (h : fn_body_one_api_Sig_p0_sig_Take__sii qa0 qa1 qa2 = some r) :
    Tr Tryz.prog 66 #[.pointer (some ⟨pba, 0, none⟩), .func (.func 24) #[] #[]] K [Cl pba 54 [.string ⟨qa0.toArray⟩, ii qa1, ii qa2]] (fun v K' L' => (∃ (i31 : Int) (l32 : (List (Int × Int))) (l37 : (List (List (Int × Bool)))) (l42 : (List (Int × Bool))) (s47 : List UInt8) (i48 : Int) (i49 : Int) (ad33 : Option Addr) (cp34 : Nat) (ad38 : Option Addr) (cp39 : Nat) (ad43 : Option Addr) (cp44 : Nat), (i31, l32, l37, l42, s47, i48, i49) = r ∧ .agg #[ii i31, .slice ad33 l32.length cp34, .slice ad38 l37.length cp39, .slice ad43 l42.length cp44] = v ∧ L' = [Cl pba 54 [.string ⟨s47.toArray⟩, ii i48, ii i49], Row Hp.nil 95 (.cons (.int .i64) (.one (.int .i64))) (.slice ad33 l32.length cp34) l32, Row K' 30 (.one (.sl (.cons (.int .i64) (.one .bool)))) (.slice ad38 l37.length cp39) l37, Row Hp.nil 146 (.cons (.int .i64) (.one .bool)) (.slice ad43 l42.length cp44) l42])) := by
 refine Tr.of Tryz.func66 rfl Tryz.ntmps66 rfl fun E F => ?_
 unfold fn_body_one_api_Sig_p0_sig_Take__sii at h
 refine cr <| jal inf63 [ii 0, nos, nos, nos] rfl fun b50 => J.nil <| cr <| jal inf63 [ii 0, nos, nos, nos] rfl fun b51 => ?_
 refine J.nil <| CJ.seq <| cr <| jm _ rfl <| jv _ (V.nck rfl) <| jv _ (V.fad Tryz.underlying54 rfl nz35 rfl) ?_
 refine jv (ii qa2) (V.ld rfl (Ld.sc sc35 (Rd.cl 2 rfl rfl))) <| jv (.bool (!decide (qa2 = 0))) (V.neq rfl rfl) <| J.nil <| cc rfl h (fun hc52 h => ?_) fun hc52 h => ?_
 · refine cr <| jv (.agg #[ii 0, nos, nos, nos]) (V.ld rfl (Ld.agg (cs := [ii 0, nos, nos, nos]) Tryz.underlying63 sz63 rfl (Rd.cls 0 0 rfl rfl))) <| J.front 1 rfl <| js [ii 0, nos, nos, nos] sz63 rfl rfl rfl rfl rfl rfl <| J.nil <| CJ.by (fun w hs => Sep.rowNil (e := 95) (t := (.cons (.int .i64) (.one (.int .i64)))) hs) ?_
   refine CJ.by (fun w hs => Sep.rowNil (e := 30) (t := (.one (.sl (.cons (.int .i64) (.one .bool))))) hs) <| CJ.by (fun w hs => Sep.rowNil (e := 146) (t := (.cons (.int .i64) (.one .bool))) hs) <| CJ.ret ?_
   obtain rfl := si h
   exact ⟨_, _, Res.one rfl ⟨_, _, rfl, Ld.agg (cs := [ii 0, nos, nos, nos]) Tryz.underlying63 sz63 rfl (Rd.cls 3 0 rfl rfl)⟩, ⟨0, [], [], [], qa0, qa1, qa2, none, 0, none, 0, none, 0, rfl, rfl, rfl⟩, (Hp.le_refl _), fun w hs => (Sep.front 3 rfl (Sep.front 2 rfl (Sep.front 1 rfl (Sep.dropAt 3 rfl (Sep.dropAt 3 rfl hs)))))⟩
 refine CJ.skip <| cr <| jm (.func (.func 24) #[] #[]) rfl <| jm _ rfl <| jv _ (V.nck rfl) <| jv _ (V.fad Tryz.underlying54 rfl nz9 rfl) ?_
 refine jv (.string ⟨qa0.toArray⟩) (V.ld rfl (Ld.sc sc9 (Rd.cl 2 rfl rfl))) ?_
 obtain ⟨r56, hr57, h⟩ := ob h
 refine J.op rfl (A.call (L1 := []) Tryz.call24 rfl (sig_Take_ok hr57) rfl rfl) ?_
 rintro _ K74 _ ⟨v73, _, rfl, ⟨i58, l59, l60, l61, i62, i63, ad64, cp65, ad66, cp67, ad68, cp69, rfl, rfl, rfl⟩, hK75, rfl⟩
 refine J.wit Row.hn fun hn70 => J.front 1 rfl <| J.wit Row.hn fun hn71 => J.front 2 rfl <| J.wit Row.hn fun hn72 => jm (.tuple #[.agg #[ii i58, .slice ad64 l59.length cp65, .slice ad66 l60.length cp67, .slice ad68 l61.length cp69], ii i62, ii i63]) rfl <| jx (.agg #[ii i58, .slice ad64 l59.length cp65, .slice ad66 l60.length cp67, .slice ad68 l61.length cp69]) rfl rfl ?_
 refine jx (ii i62) rfl rfl <| jx (ii i63) rfl rfl <| jal inf63 [ii 0, nos, nos, nos] rfl fun b79 => js [ii i58, .slice ad64 l59.length cp65, .slice ad66 l60.length cp67, .slice ad68 l61.length cp69] sz63 rfl rfl rfl rfl rfl rfl <| ja (ii i62) rfl <| ja (ii i63) rfl <| J.nil ?_
 refine CJ.seq <| cr <| jm (ii i63) rfl <| jv (.bool (!decide (i63 = 0))) (V.neq rfl rfl) <| J.nil <| cc rfl h (fun hc80 h => ?_) fun hc80 h => ?_
 · refine cr <| jm _ rfl <| jm (ii i63) rfl <| jv _ (V.nck rfl) <| jv _ (V.fad Tryz.underlying54 rfl nz35 rfl) <| J.front 6 rfl ?_
   refine js1 [.string ⟨qa0.toArray⟩, ii qa1, ii i63] sz35 rfl rfl rfl rfl rfl rfl <| J.nil <| cr <| jv (.agg #[ii 0, nos, nos, nos]) (V.ld rfl (Ld.agg (cs := [ii 0, nos, nos, nos]) Tryz.underlying63 sz63 rfl (Rd.cls 5 0 rfl rfl))) <| J.front 6 rfl <| js [ii 0, nos, nos, nos] sz63 rfl rfl rfl rfl rfl rfl ?_
   refine J.nil <| CJ.by (fun w hs => Sep.rowNil (e := 95) (t := (.cons (.int .i64) (.one (.int .i64)))) hs) <| CJ.by (fun w hs => Sep.rowNil (e := 30) (t := (.one (.sl (.cons (.int .i64) (.one .bool))))) hs) <| CJ.by (fun w hs => Sep.rowNil (e := 146) (t := (.cons (.int .i64) (.one .bool))) hs) <| CJ.ret ?_
   obtain rfl := si h
   exact ⟨_, _, Res.one rfl ⟨_, _, rfl, Ld.agg (cs := [ii 0, nos, nos, nos]) Tryz.underlying63 sz63 rfl (Rd.cls 3 0 rfl rfl)⟩, ⟨0, [], [], [], qa0, qa1, i63, none, 0, none, 0, none, 0, rfl, rfl, rfl⟩, hK75, fun w hs => (Sep.front 3 rfl (Sep.front 2 rfl (Sep.front 1 rfl (Sep.dropAt 4 rfl (Sep.dropAt 4 rfl (Sep.dropAt 4 rfl (Sep.dropAt 4 rfl (Sep.dropAt 4 rfl (Sep.dropAt 3 rfl hs)))))))))⟩
 refine CJ.skip <| cr <| jm _ rfl <| jm _ rfl <| jv _ (V.nck rfl) <| jv _ (V.fad Tryz.underlying54 rfl nz9 rfl) ?_
 refine jv (.string ⟨qa0.toArray⟩) (V.ld rfl (Ld.sc sc9 (Rd.cl 6 rfl rfl))) <| jm (ii i62) rfl ?_
 obtain ⟨y84, hy85, h⟩ := ob h
 refine jv (.string ⟨y84.toArray⟩) (V.subs Tryz.underlying9 rfl (fun _ h => by cases h; exact ⟨_, rfl⟩) nofun nofun (fun _ => rfl) hy85) <| jv _ (V.nck rfl) <| jv _ (V.fad Tryz.underlying54 rfl nz9 rfl) <| J.front 6 rfl <| js1 [.string ⟨y84.toArray⟩, ii qa1, ii qa2] sz9 rfl rfl rfl rfl rfl rfl <| J.nil <| CJ.seq ?_
 refine CJ.region <| jm _ rfl <| jv _ (V.nck rfl) <| jv _ (V.fad Tryz.underlying54 rfl nz3 rfl) <| jv (ii qa1) (V.ld rfl (Ld.sc sc3 (Rd.cl 0 rfl rfl))) <| jv (ii (IntKind.wrap .i64 (qa1 + 1))) (V.add rfl rfl) <| jv _ (V.nck rfl) ?_
 refine jv _ (V.fad Tryz.underlying54 rfl nz3 rfl) <| js1 [.string ⟨y84.toArray⟩, ii (IntKind.wrap .i64 (qa1 + 1)), ii qa2] sz3 rfl rfl rfl rfl rfl rfl <| J.nil <| cr <| jv (.agg #[ii i58, .slice ad64 l59.length cp65, .slice ad66 l60.length cp67, .slice ad68 l61.length cp69]) (V.ld rfl (Ld.agg (cs := [ii i58, .slice ad64 l59.length cp65, .slice ad66 l60.length cp67, .slice ad68 l61.length cp69]) Tryz.underlying63 sz63 rfl (Rd.cls 1 0 rfl rfl))) <| J.front 6 rfl ?_
 refine js [ii i58, .slice ad64 l59.length cp65, .slice ad66 l60.length cp67, .slice ad68 l61.length cp69] sz63 rfl rfl rfl rfl rfl rfl <| J.nil <| CJ.ret ?_
 obtain rfl := si h
 exact ⟨_, _, Res.one rfl ⟨_, _, rfl, Ld.agg (cs := [ii i58, .slice ad64 l59.length cp65, .slice ad66 l60.length cp67, .slice ad68 l61.length cp69]) Tryz.underlying63 sz63 rfl (Rd.cls 0 0 rfl rfl)⟩, ⟨i58, l59, l60, l61, y84, IntKind.wrap .i64 (qa1 + 1), qa2, ad64, cp65, ad66, cp67, ad68, cp69, rfl, rfl, rfl⟩, hK75, fun w hs => (Sep.front 3 rfl (Sep.front 3 rfl (Sep.front 2 rfl (Sep.front 1 rfl (Sep.dropAt 4 rfl (Sep.dropAt 1 rfl (Sep.dropAt 0 rfl hs)))))))⟩
noncomputable def fn_body_list_api_Sig_p0_sig_Take__sii_l1 (i383 : Int) : ((List (Int × (List (Int × Int)) × (List (List (Int × Bool))) × (List (Int × Bool)))) × Int × List UInt8 × Int × Int) → Option (((List (Int × (List (Int × Int)) × (List (List (Int × Bool))) × (List (Int × Bool)))) × Int × List UInt8 × Int × Int) ⊕ ((List (Int × (List (Int × Int)) × (List (List (Int × Bool))) × (List (Int × Bool)))) × List UInt8 × Int × Int)) := fun ((l633, i638, s639, i640, i641) : ((List (Int × (List (Int × Int)) × (List (List (Int × Bool))) × (List (Int × Bool)))) × Int × List UInt8 × Int × Int)) => cond ((decide (i638 < i383)) && (decide (i641 = 0))) ((fn_body_one_api_Sig_p0_sig_Take__sii s639 i640 i641).bind fun (i709, l710, l711, l712, s713, i714, i715) => (app l633 (([(i709, l710, l711, l712)] : List (Int × (List (Int × Int)) × (List (List (Int × Bool))) × (List (Int × Bool)))))).bind fun z743 => some (.inl ((z743, IntKind.wrap .i64 (i638 + 1), s713, i714, i715)))) (some (.inr (((l633, s639, i640, i641)))))
noncomputable def fn_body_list_api_Sig_p0_sig_Take__sii (qa0 : List UInt8) (qa1 : Int) (qa2 : Int) : Option (((List (Int × (List (Int × Int)) × (List (List (Int × Bool))) × (List (Int × Bool)))) × List UInt8 × Int × Int)) :=
  (fn_body_count_p0_sii qa0 qa1 qa2).bind fun (i383, s384, i385, i386) => (loop (fn_body_list_api_Sig_p0_sig_Take__sii_l1 i383) ([], 0, s384, i385, i386) : Option (((List (Int × (List (Int × Int)) × (List (List (Int × Bool))) × (List (Int × Bool)))) × List UInt8 × Int × Int))).bind fun (l565, s570, i571, i572) => some ((l565, s570, i571, i572))
set_option maxRecDepth 100000 in
set_option maxHeartbeats 4000000 in
theorem body_list_api_Sig_p0_sig_Take__sii_ok {K : Hp} {qa0 : List UInt8} {qa1 : Int} {qa2 : Int} {pba : Nat}  {r : ((List (Int × (List (Int × Int)) × (List (List (Int × Bool))) × (List (Int × Bool)))) × List UInt8 × Int × Int)} (h : fn_body_list_api_Sig_p0_sig_Take__sii qa0 qa1 qa2 = some r) :
    Tr Tryz.prog 23 #[.pointer (some ⟨pba, 0, none⟩), .func (.func 24) #[] #[]] K [Cl pba 54 [.string ⟨qa0.toArray⟩, ii qa1, ii qa2]] (fun v K' L' => (∃ (l373 : (List (Int × (List (Int × Int)) × (List (List (Int × Bool))) × (List (Int × Bool))))) (s378 : List UInt8) (i379 : Int) (i380 : Int) (ad374 : Option Addr) (cp375 : Nat), (l373, s378, i379, i380) = r ∧ .slice ad374 l373.length cp375 = v ∧ L' = [Cl pba 54 [.string ⟨s378.toArray⟩, ii i379, ii i380], Row K' 63 (.cons (.int .i64) (.cons (.sl (.cons (.int .i64) (.one (.int .i64)))) (.cons (.sl (.one (.sl (.cons (.int .i64) (.one .bool))))) (.one (.one (.sl (.cons (.int .i64) (.one .bool)))))))) (.slice ad374 l373.length cp375) l373])) := by
 refine Tr.of Tryz.func23 rfl Tryz.ntmps23 rfl fun E F => ?_
 unfold fn_body_list_api_Sig_p0_sig_Take__sii at h
 refine cr <| ja (nos) rfl <| J.nil <| cr <| ja (nos) rfl ?_
 refine J.nil <| cr <| jm _ rfl ?_
 obtain ⟨r381, hr382, h⟩ := ob h
 refine J.op rfl (A.call (L1 := [Cl pba 54 [.string ⟨qa0.toArray⟩, ii qa1, ii qa2]]) Tryz.call17 rfl (body_count_p0_sii_ok hr382) rfl rfl) ?_
 rintro _ _ _ ⟨v387, _, rfl, ⟨⟨i383, s384, i385, i386, rfl, rfl, rfl⟩, rfl⟩, _, rfl⟩
 refine ja (ii i383) rfl <| J.nil <| CJ.seq <| cr <| ja (ii 0) rfl <| J.nil ?_
 obtain ⟨o573, ho574, h⟩ := ob h
 refine CJ.meetN (fun ρ K' L' => ∃ (l565 : (List (Int × (List (Int × Int)) × (List (List (Int × Bool))) × (List (Int × Bool))))) (s570 : List UInt8) (i571 : Int) (i572 : Int) (ad566 : Option Addr) (cp567 : Nat), (l565, s570, i571, i572) = o573 ∧ Fits [(5, .slice ad566 l565.length cp567)] ρ ∧ Hp.le K K' ∧ L' = Cl pba 54 [.string ⟨s570.toArray⟩, ii i571, ii i572] :: Row K' 63 (.cons (.int .i64) (.cons (.sl (.cons (.int .i64) (.one (.int .i64)))) (.cons (.sl (.one (.sl (.cons (.int .i64) (.one .bool))))) (.one (.one (.sl (.cons (.int .i64) (.one .bool)))))))) (.slice ad566 l565.length cp567) l565 :: F) ?_ ?_
 · refine CJ.block <| CJ.by (fun w hs => Sep.rowNil (e := 63) (t := (.cons (.int .i64) (.cons (.sl (.cons (.int .i64) (.one (.int .i64)))) (.cons (.sl (.one (.sl (.cons (.int .i64) (.one .bool))))) (.one (.one (.sl (.cons (.int .i64) (.one .bool))))))))) hs) <| CJ.by (fun w hs => hs.mono (Row.mono (Hp.nil_le K))) <| CJ.front 1 rfl <| CJ.loop (fun s ρ K' L' => ∃ (l633 : (List (Int × (List (Int × Int)) × (List (List (Int × Bool))) × (List (Int × Bool))))) (i638 : Int) (s639 : List UInt8) (i640 : Int) (i641 : Int) (ad634 : Option Addr) (cp635 : Nat), (l633, i638, s639, i640, i641) = s ∧ Fits [(0, .pointer (some ⟨pba, 0, none⟩)), (1, .func (.func 24) #[] #[]), (5, .slice ad634 l633.length cp635), (6, ii i383), (7, ii i638)] ρ ∧ Hp.le K K' ∧ L' = Cl pba 54 [.string ⟨s639.toArray⟩, ii i640, ii i641] :: Row K' 63 (.cons (.int .i64) (.cons (.sl (.cons (.int .i64) (.one (.int .i64)))) (.cons (.sl (.one (.sl (.cons (.int .i64) (.one .bool))))) (.one (.one (.sl (.cons (.int .i64) (.one .bool)))))))) (.slice ad634 l633.length cp635) l633 :: F) ho574 ⟨[], 0, s384, i385, i386, none, 0, rfl, ⟨rfl, rfl, rfl, rfl, rfl, trivial⟩, (Hp.le_refl _), rfl⟩ ?_
   rintro s ρ K632 _ r702 ⟨l633, i638, s639, i640, i641, ad634, cp635, rfl, hf700, hk701, rfl⟩ h698
   obtain ⟨ρ, rfl⟩ := hf700.ex
   refine CJ.front 1 rfl <| CJ.wit Row.hn fun hn637 => CJ.seq <| cr <| jm (ii i638) rfl <| jm (ii i383) rfl ?_
   refine jv (.bool (decide (i638 < i383))) (V.lss rfl rfl) <| jm (.bool (decide (i638 < i383))) rfl <| J.cut 6 <| jmeet [(19, .bool ((decide (i638 < i383)) && (decide (i641 = 0)))), (0, .pointer (some ⟨pba, 0, none⟩)), (1, .func (.func 24) #[] #[]), (5, .slice ad634 l633.length cp635), (6, ii i383), (7, ii i638)] ?_ ?_
   · rcases bt (decide (i638 < i383)) with hc705 | hc705
     · refine J.run rfl rfl rfl hc705 <| jm _ rfl <| J.run rfl rfl rfl hc705 <| jv _ (V.nck rfl) <| J.run rfl rfl rfl hc705 <| jv _ (V.fad Tryz.underlying54 rfl nz35 rfl) <| J.run rfl rfl rfl hc705 ?_
       refine jv (ii i641) (V.ld rfl (Ld.sc sc35 (Rd.cl 1 rfl rfl))) <| J.run rfl rfl rfl hc705 <| jv (.bool (decide (i641 = 0))) (V.eql rfl rfl) <| jv (.bool (decide (i641 = 0))) (V.pickT rfl hc705 rfl) <| J.nil ?_
       exact ⟨rfl, ⟨(by simp only [hc705]; rfl), rfl, rfl, rfl, rfl, rfl, trivial⟩, rfl, rfl⟩
     refine J.skip rfl rfl rfl rfl hc705 <| J.skip rfl rfl rfl rfl hc705 <| J.skip rfl rfl rfl rfl hc705 <| J.skip rfl rfl rfl rfl hc705 <| J.skip rfl rfl rfl rfl hc705 <| jv (.bool false) (V.pickF rfl hc705 rfl) <| J.nil ?_
     exact ⟨rfl, ⟨(by simp only [hc705]; rfl), rfl, rfl, rfl, rfl, rfl, trivial⟩, rfl, rfl⟩
   intro ρ
   refine J.nil <| cc rfl h698 (fun hc706 h698 => ?_) fun hc706 h698 => ?_
   · refine CJ.skip <| CJ.seq <| CJ.block <| CJ.region <| jm (.slice ad634 l633.length cp635) rfl <| jm _ rfl <| jm (.func (.func 24) #[] #[]) rfl ?_
     obtain ⟨r707, hr708, h698⟩ := ob h698
     refine J.front 1 rfl <| J.op rfl (A.call (L1 := [Cl pba 54 [.string ⟨s639.toArray⟩, ii i640, ii i641]]) Tryz.call66 rfl (body_one_api_Sig_p0_sig_Take__sii_ok hr708) rfl rfl) ?_
     rintro _ K726 _ ⟨v725, _, rfl, ⟨i709, l710, l711, l712, s713, i714, i715, ad716, cp717, ad718, cp719, ad720, cp721, rfl, rfl, rfl⟩, hK727, rfl⟩
     refine J.front 1 rfl <| J.wit Row.hn fun hn722 => J.front 2 rfl <| J.wit Row.hn fun hn723 => J.front 3 rfl <| J.wit Row.hn fun hn724 => J.front 2 rfl ?_
     refine J.persist (Hp.nil_le _) (by decide) fun K731 hK732 f733 => J.front 1 rfl <| J.persist hK732 (by decide) fun K734 hK735 f736 => J.persist (Hp.nil_le _) (by decide) fun K737 hK738 f739 => ?_
     refine J.op rfl (A.lit (K0 := K737) (ty := (.cons (.int .i64) (.cons (.sl (.cons (.int .i64) (.one (.int .i64)))) (.cons (.sl (.one (.sl (.cons (.int .i64) (.one .bool))))) (.one (.one (.sl (.cons (.int .i64) (.one .bool))))))))) (xs := ([(i709, l710, l711, l712)] : List (Int × (List (Int × Int)) × (List (List (Int × Bool))) × (List (Int × Bool))))) Tryz.underlying31 inf63 rfl (by decide) rfl rfl rfl ⟨_, _, rfl, ⟨_, _, rfl, rfl, rfl, ⟨_, _, rfl, rfl, (f733.mono (hK735.trans hK738)), ⟨_, _, rfl, rfl, (f736.mono hK738), f739⟩⟩⟩, rfl⟩ rfl (by decide)) ?_
     rintro _ _ _ ⟨b740, rfl, rfl, rfl⟩
     have hn741 : ([(i709, l710, l711, l712)] : List (Int × (List (Int × Int)) × (List (List (Int × Bool))) × (List (Int × Bool)))) ≠ [] → ∃ g, (some ⟨b740, 0, none⟩ : Option Addr) = some ⟨g, 0, none⟩ := fun _ => ⟨b740, rfl⟩
     obtain ⟨z743, hz744, h698⟩ := ob h698
     refine J.front 2 rfl <| J.op rfl (A.appR (Kr := K737) Tryz.underlying31 inf63 rfl rfl (by decide) (by decide) rfl rfl (Els.mono (((hK727.trans hK732).trans hK735).trans hK738)) (Els.mono (Hp.le_refl _)) hz744) ?_
     rintro _ _ _ ⟨v745, rfl, rfl, rfl⟩
     refine J.wit Row.form ?_
     rintro ⟨ad746, cp747, rfl, _, _, hn748⟩
     refine ja (.slice ad746 z743.length cp747) rfl <| J.nil <| CJ.region <| jm (ii i638) rfl <| jv (ii (IntKind.wrap .i64 (i638 + 1))) (V.add rfl rfl) <| ja (ii (IntKind.wrap .i64 (i638 + 1))) rfl <| J.front 1 rfl ?_
     refine J.nil ?_
     obtain rfl := si h698
     exact ⟨rfl, ⟨z743, IntKind.wrap .i64 (i638 + 1), s713, i714, i715, ad746, cp747, rfl, ⟨rfl, rfl, rfl, rfl, rfl, trivial⟩, ((((hk701.trans hK727).trans hK732).trans hK735).trans hK738), rfl⟩⟩
   refine CJ.front 1 rfl <| CJ.exit ?_
   obtain rfl := si h698
   refine ⟨nofun, fun e => ?_⟩
   subst e
   exact ⟨rfl, ⟨l633, s639, i640, i641, ad634, cp635, rfl, ⟨rfl, trivial⟩, hk701, rfl⟩⟩
 rintro ρ K564 _ ⟨l565, s570, i571, i572, ad566, cp567, rfl, hf749, hk750, rfl⟩
 obtain ⟨ρ, rfl⟩ := hf749.ex
 refine PJ.front 1 rfl <| PJ.wit Row.hn fun hn569 => PJ.done <| cr <| jm (.slice ad566 l565.length cp567) rfl <| ja (.slice ad566 l565.length cp567) rfl ?_
 refine J.nil <| CJ.ret ?_
 obtain rfl := si h
 exact ⟨_, _, Res.one rfl rfl, ⟨l565, s570, i571, i572, ad566, cp567, rfl, rfl, rfl⟩, hk750, fun w hs => (Sep.front 1 rfl hs)⟩

noncomputable def fn_stmt_Take_1_bp0p1p2_i_s_i (xa : Bool) (qa0 : Int) (qb0 : List UInt8) (qc0 : Int) : Option (Int × Int × Int) :=
  cond ((!xa) || (!decide (qa0 = 0))) (some ((0, qa0, qc0))) ((subL qb0 qc0 (((qb0.length : Nat) : Int))).bind fun y23 => (fn_leb_Take y23).bind fun (i27, i28, i29) => some ((i27, i29, IntKind.wrap .i64 (qc0 + i28))))
set_option maxRecDepth 100000 in
set_option maxHeartbeats 4000000 in
theorem stmt_Take_1_bp0p1p2_i_s_i_ok {K : Hp} {xa : Bool} {qa0 : Int} {qb0 : List UInt8} {qc0 : Int} {pba : Nat} {pbb : Nat} {pbc : Nat}  {r : (Int × Int × Int)} (h : fn_stmt_Take_1_bp0p1p2_i_s_i xa qa0 qb0 qc0 = some r) :
    Tr Tryz.prog 76 #[.bool xa, .pointer (some ⟨pba, 0, none⟩), .pointer (some ⟨pbb, 0, none⟩), .pointer (some ⟨pbc, 0, none⟩)] K [Cl pba 35 [ii qa0], Cl pbb 9 [.string ⟨qb0.toArray⟩], Cl pbc 3 [ii qc0]] (fun v K' L' => (∃ (i15 : Int) (i17 : Int) (i18 : Int), (i15, i17, i18) = r ∧ ii i15 = v ∧ L' = [Cl pba 35 [ii i17], Cl pbb 9 [.string ⟨qb0.toArray⟩], Cl pbc 3 [ii i18]]) ∧ K = K') := by
 refine Tr.k <| Tr.of Tryz.func76 rfl Tryz.ntmps76 rfl fun E F => ?_
 unfold fn_stmt_Take_1_bp0p1p2_i_s_i at h
 refine cr <| ja (ii 0) rfl <| J.nil <| CJ.seq <| CJ.seq <| CJ.region ?_
 refine jm (.bool xa) rfl <| jv (.bool (!xa)) (V.not rfl) <| jm (.bool (!xa)) rfl <| J.cut 3 <| jmeet [(14, .bool ((!xa) || (!decide (qa0 = 0)))), (1, .pointer (some ⟨pba, 0, none⟩)), (2, .pointer (some ⟨pbb, 0, none⟩)), (3, .pointer (some ⟨pbc, 0, none⟩))] ?_ ?_
 · rcases bt (!xa) with hc21 | hc21
   · refine J.skip rfl rfl rfl rfl hc21 <| J.skip rfl rfl rfl rfl hc21 <| jv (.bool true) (V.pickT rfl hc21 rfl) <| J.nil ?_
     exact ⟨rfl, ⟨(by simp only [hc21]; rfl), rfl, rfl, rfl, trivial⟩, rfl, rfl⟩
   refine J.run rfl rfl rfl hc21 <| jv (ii qa0) (V.ld rfl (Ld.sc sc35 (Rd.cl 0 rfl rfl))) <| J.run rfl rfl rfl hc21 <| jv (.bool (!decide (qa0 = 0))) (V.neq rfl rfl) <| jv (.bool (!decide (qa0 = 0))) (V.pickF rfl hc21 rfl) <| J.nil ?_
   exact ⟨rfl, ⟨(by simp only [hc21]; rfl), rfl, rfl, rfl, trivial⟩, rfl, rfl⟩
 intro ρ
 refine J.nil <| cc rfl h (fun hc22 h => ?_) fun hc22 h => ?_
 · refine cr <| ja (ii 0) rfl <| J.nil <| CJ.ret ?_
   obtain rfl := si h
   exact ⟨_, _, Res.one rfl rfl, ⟨0, qa0, qc0, rfl, rfl, rfl⟩, (Hp.le_refl _), fun w hs => hs⟩
 refine CJ.skip <| cr <| jv (.string ⟨qb0.toArray⟩) (V.ld rfl (Ld.sc sc9 (Rd.cl 1 rfl rfl))) <| jv (ii qc0) (V.ld rfl (Ld.sc sc3 (Rd.cl 2 rfl rfl))) ?_
 obtain ⟨y23, hy24, h⟩ := ob h
 refine jv (.string ⟨y23.toArray⟩) (V.subs Tryz.underlying9 rfl (fun _ h => by cases h; exact ⟨_, rfl⟩) nofun nofun (fun _ => rfl) hy24) ?_
 obtain ⟨r25, hr26, h⟩ := ob h
 refine J.op rfl (A.call (L1 := []) Tryz.call63 rfl (leb_Take_ok hr26) rfl rfl) ?_
 rintro _ _ _ ⟨v30, _, rfl, ⟨⟨i27, i28, i29, rfl, rfl, rfl⟩, rfl⟩, _, rfl⟩
 refine jm (.tuple #[ii i27, ii i28, ii i29]) rfl <| jx (ii i27) rfl rfl <| jx (ii i28) rfl rfl <| jx (ii i29) rfl rfl <| ja (ii i27) rfl <| ja (ii i28) rfl <| ja (ii i29) rfl ?_
 refine J.nil <| cr <| jv (ii qc0) (V.ld rfl (Ld.sc sc3 (Rd.cl 2 rfl rfl))) <| jm (ii i28) rfl <| jv (ii (IntKind.wrap .i64 (qc0 + i28))) (V.add rfl rfl) <| jm (ii i29) rfl ?_
 refine J.front 2 rfl <| js1 [ii (IntKind.wrap .i64 (qc0 + i28))] sz3 rfl rfl rfl rfl rfl rfl <| J.front 1 rfl <| js1 [ii i29] sz35 rfl rfl rfl rfl rfl rfl <| J.nil <| CJ.seq <| CJ.region ?_
 refine jm (ii i27) rfl <| ja (ii i27) rfl <| J.nil <| CJ.ret ?_
 obtain rfl := si h
 exact ⟨_, _, Res.one rfl rfl, ⟨i27, i29, IntKind.wrap .i64 (qc0 + i28), rfl, rfl, rfl⟩, (Hp.le_refl _), fun w hs => (Sep.front 2 rfl (Sep.front 2 rfl (Sep.front 1 rfl hs)))⟩

noncomputable def fn_stmt_Take (xa : (List UInt8)) : Option (Int × Int × Int × Int × Bool × Int × Int) :=
  (fn_leb_Take xa).bind fun (i62, i63, i65) => cond (!decide (i65 = 0)) (some ((0, 0, 0, 0, false, 0, i65))) ((fn_stmt_fieldsOf i62).bind fun (t74, t75, t76, t77) => cond (!t77) (some ((0, 0, 0, 0, false, 0, 3))) ((fn_stmt_Take_1_bp0p1p2_i_s_i t74 i65 xa i63).bind fun (i86, i87, i88) => (fn_stmt_Take_1_bp0p1p2_i_s_i t75 i87 xa i88).bind fun (i94, i95, i96) => (fn_stmt_Take_1_bp0p1p2_i_s_i t76 i95 xa i96).bind fun (i102, i103, i104) => cond (!decide (i103 = 0)) (some ((0, 0, 0, 0, false, 0, i103))) (some ((i62, i86, i94, IntKind.wrap .i64 (Int.tdiv i102 2), decide ((Int.tmod i102 2) = 1), i104, 0)))))
set_option maxRecDepth 100000 in
set_option maxHeartbeats 4000000 in
theorem stmt_Take_ok {K : Hp} {xa : (List UInt8)}   {r : (Int × Int × Int × Int × Bool × Int × Int)} (h : fn_stmt_Take xa = some r) :
    Tr Tryz.prog 26 #[.string ⟨xa.toArray⟩] K [] (fun v K' L' => (∃ (i51 : Int) (i52 : Int) (i53 : Int) (i54 : Int) (t55 : Bool) (i56 : Int) (i57 : Int), (i51, i52, i53, i54, t55, i56, i57) = r ∧ .tuple #[.agg #[ii i51, ii i52, ii i53, ii i54, .bool t55], ii i56, ii i57] = v ∧ L' = []) ∧ K = K') := by
 refine Tr.k <| Tr.of Tryz.func26 rfl Tryz.ntmps26 rfl fun E F => ?_
 unfold fn_stmt_Take at h
 refine cr <| jbx [.string ⟨xa.toArray⟩] rfl rfl fun b58 => jal inf73 [ii 0, ii 0, ii 0, ii 0, .bool false] rfl fun b59 => ja (ii 0) rfl <| ja (ii 0) rfl <| J.nil ?_
 refine cr <| jv (.string ⟨xa.toArray⟩) (V.ld rfl (Ld.sc sc9 (Rd.cl 1 rfl rfl))) ?_
 obtain ⟨r60, hr61, h⟩ := ob h
 refine J.op rfl (A.call (L1 := []) Tryz.call63 rfl (leb_Take_ok hr61) rfl rfl) ?_
 rintro _ _ _ ⟨v66, _, rfl, ⟨⟨i62, i63, i65, rfl, rfl, rfl⟩, rfl⟩, _, rfl⟩
 refine jm (.tuple #[ii i62, ii i63, ii i65]) rfl <| jx (ii i62) rfl rfl <| jx (ii i63) rfl rfl <| jx (ii i65) rfl rfl <| jal inf3 [ii 0] rfl fun b69 => jal inf35 [ii 0] rfl fun b70 => ja (ii i62) rfl ?_
 refine J.front 1 rfl <| js1 [ii i63] sz3 rfl rfl rfl rfl rfl rfl <| J.front 1 rfl <| js1 [ii i65] sz35 rfl rfl rfl rfl rfl rfl <| J.nil <| CJ.seq <| CJ.seq ?_
 refine CJ.region <| jv (ii i65) (V.ld rfl (Ld.sc sc35 (Rd.cl 0 rfl rfl))) <| jv (.bool (!decide (i65 = 0))) (V.neq rfl rfl) <| J.nil <| cc rfl h (fun hc71 h => ?_) fun hc71 h => ?_
 · refine CJ.seq <| CJ.mix [Cl b70 35 [ii i65], Cl b69 3 [ii i63], Cl b59 73 [ii 0, ii 0, ii 0, ii 0, .bool false], Cl b58 9 [.string ⟨xa.toArray⟩]] [([0, 1], 2)] [3, 4] [] mixO (by decide +kernel) ⟨0, rfl, 0, rfl, 0, rfl, 0, rfl, trivial⟩ rfl rfl rfl <| JM.cons <| qv (.agg #[ii 0, ii 0, ii 0, ii 0, .bool false]) (V.build inf73 places73 rfl rfl) <| qv (ii i65) (V.ld rfl (Ld.sc sc35 (Rd.cl 0 rfl rfl))) <| JQ.nil <| JA.front 2 rfl ?_
   refine JA.op rfl (A.store (v := .agg #[ii 0, ii 0, ii 0, ii 0, .bool false]) (cs' := [ii 0, ii 0, ii 0, ii 0, .bool false]) sz73 rfl rfl rfl rfl rfl rfl) ?_
   rintro _ _ _ ⟨rfl, rfl, rfl⟩
   refine ⟨fun w hs => Hold.sub (Hp.le_refl _) ⟨1, rfl, 1, rfl, 0, rfl, 0, rfl, trivial⟩ hs, ?_⟩
   refine JM.nil <| qa (ii 0) rfl <| qa (ii i65) rfl <| JQ.nil <| J.nil <| CJ.ret ?_
   obtain rfl := si h
   exact ⟨_, _, Res.three rfl ⟨_, _, rfl, Ld.agg (cs := [ii 0, ii 0, ii 0, ii 0, .bool false]) Tryz.underlying73 sz73 rfl (Rd.cls 0 0 rfl rfl)⟩ rfl rfl, ⟨0, 0, 0, 0, false, 0, i65, rfl, rfl, rfl⟩, (Hp.le_refl _), fun w hs => (Sep.dropAt 0 rfl (Sep.dropAt 0 rfl (Sep.dropAt 0 rfl (Sep.dropAt 0 rfl hs))))⟩
 refine CJ.skip <| cr <| jm (ii i62) rfl ?_
 obtain ⟨r72, hr73, h⟩ := ob h
 refine J.op rfl (A.call (L1 := []) Tryz.call75 rfl (stmt_fieldsOf_ok hr73) rfl rfl) ?_
 rintro _ _ _ ⟨v78, _, rfl, ⟨⟨t74, t75, t76, t77, rfl, rfl, rfl⟩, rfl⟩, _, rfl⟩
 refine jm (.tuple #[.agg #[.bool t74, .bool t75, .bool t76], .bool t77]) rfl <| jx (.agg #[.bool t74, .bool t75, .bool t76]) rfl rfl <| jx (.bool t77) rfl rfl <| jal inf136 [.bool false, .bool false, .bool false] rfl fun b81 => js [.bool t74, .bool t75, .bool t76] sz136 rfl rfl rfl rfl rfl rfl <| ja (.bool t77) rfl <| J.nil ?_
 refine CJ.seq <| cr <| jm (.bool t77) rfl <| jv (.bool (!t77)) (V.not rfl) <| J.nil <| cc rfl h (fun hc82 h => ?_) fun hc82 h => ?_
 · refine cr <| jv (.agg #[ii 0, ii 0, ii 0, ii 0, .bool false]) (V.build inf73 places73 rfl rfl) <| J.front 3 rfl <| js [ii 0, ii 0, ii 0, ii 0, .bool false] sz73 rfl rfl rfl rfl rfl rfl <| ja (ii 0) rfl <| ja (ii 3) rfl ?_
   refine J.nil <| CJ.ret ?_
   obtain rfl := si h
   exact ⟨_, _, Res.three rfl ⟨_, _, rfl, Ld.agg (cs := [ii 0, ii 0, ii 0, ii 0, .bool false]) Tryz.underlying73 sz73 rfl (Rd.cls 0 0 rfl rfl)⟩ rfl rfl, ⟨0, 0, 0, 0, false, 0, 3, rfl, rfl, rfl⟩, (Hp.le_refl _), fun w hs => (Sep.dropAt 0 rfl (Sep.dropAt 0 rfl (Sep.dropAt 0 rfl (Sep.dropAt 0 rfl (Sep.dropAt 0 rfl hs)))))⟩
 refine CJ.skip <| cr <| jv (.func (.func 76) #[] #[.pointer (some ⟨b70, 0, none⟩), .pointer (some ⟨b58, 0, none⟩), .pointer (some ⟨b69, 0, none⟩)]) (V.mkf rfl) <| ja (.func (.func 76) #[] #[.pointer (some ⟨b70, 0, none⟩), .pointer (some ⟨b58, 0, none⟩), .pointer (some ⟨b69, 0, none⟩)]) rfl <| J.nil <| CJ.seq ?_
 refine CJ.region <| jm (ii i62) rfl <| jv (.agg #[ii i62, ii 0, ii 0, ii 0, .bool false]) (V.build inf73 places73 rfl rfl) <| jal inf73 [ii 0, ii 0, ii 0, ii 0, .bool false] rfl fun b83 => js [ii i62, ii 0, ii 0, ii 0, .bool false] sz73 rfl rfl rfl rfl rfl rfl <| J.nil <| CJ.seq ?_
 refine CJ.region <| jm (.func (.func 76) #[] #[.pointer (some ⟨b70, 0, none⟩), .pointer (some ⟨b58, 0, none⟩), .pointer (some ⟨b69, 0, none⟩)]) rfl <| jv _ (V.fad Tryz.underlying136 rfl nz4 rfl) <| jv (.bool t74) (V.ld rfl (Ld.sc sc4 (Rd.cl 1 rfl rfl))) ?_
 obtain ⟨r84, hr85, h⟩ := ob h
 refine J.front 3 rfl <| J.front 5 rfl <| J.front 4 rfl <| J.op rfl (A.call (L1 := [Cl b70 35 [ii i65], Cl b58 9 [.string ⟨xa.toArray⟩], Cl b69 3 [ii i63]]) Tryz.call76 rfl (stmt_Take_1_bp0p1p2_i_s_i_ok hr85) rfl rfl) ?_
 rintro _ _ _ ⟨v89, _, rfl, ⟨⟨i86, i87, i88, rfl, rfl, rfl⟩, rfl⟩, _, rfl⟩
 refine jv _ (V.fad Tryz.underlying73 rfl nz3 rfl) <| J.front 3 rfl <| js1 [ii i62, ii i86, ii 0, ii 0, .bool false] sz3 rfl rfl rfl rfl rfl rfl <| J.nil <| cr <| jm (.func (.func 76) #[] #[.pointer (some ⟨b70, 0, none⟩), .pointer (some ⟨b58, 0, none⟩), .pointer (some ⟨b69, 0, none⟩)]) rfl ?_
 refine jv _ (V.fad Tryz.underlying136 rfl nz4 rfl) <| jv (.bool t75) (V.ld rfl (Ld.sc sc4 (Rd.cl 4 rfl rfl))) ?_
 obtain ⟨r92, hr93, h⟩ := ob h
 refine J.front 3 rfl <| J.front 3 rfl <| J.front 3 rfl <| J.op rfl (A.call (L1 := [Cl b70 35 [ii i87], Cl b58 9 [.string ⟨xa.toArray⟩], Cl b69 3 [ii i88]]) Tryz.call76 rfl (stmt_Take_1_bp0p1p2_i_s_i_ok hr93) rfl rfl) ?_
 rintro _ _ _ ⟨v97, _, rfl, ⟨⟨i94, i95, i96, rfl, rfl, rfl⟩, rfl⟩, _, rfl⟩
 refine jv _ (V.fad Tryz.underlying73 rfl nz3 rfl) <| J.front 3 rfl <| js1 [ii i62, ii i86, ii i94, ii 0, .bool false] sz3 rfl rfl rfl rfl rfl rfl <| J.nil <| cr <| jm (.func (.func 76) #[] #[.pointer (some ⟨b70, 0, none⟩), .pointer (some ⟨b58, 0, none⟩), .pointer (some ⟨b69, 0, none⟩)]) rfl ?_
 refine jv _ (V.fad Tryz.underlying136 rfl nz4 rfl) <| jv (.bool t76) (V.ld rfl (Ld.sc sc4 (Rd.cl 4 rfl rfl))) ?_
 obtain ⟨r100, hr101, h⟩ := ob h
 refine J.front 3 rfl <| J.front 3 rfl <| J.front 3 rfl <| J.op rfl (A.call (L1 := [Cl b70 35 [ii i95], Cl b58 9 [.string ⟨xa.toArray⟩], Cl b69 3 [ii i96]]) Tryz.call76 rfl (stmt_Take_1_bp0p1p2_i_s_i_ok hr101) rfl rfl) ?_
 rintro _ _ _ ⟨v105, _, rfl, ⟨⟨i102, i103, i104, rfl, rfl, rfl⟩, rfl⟩, _, rfl⟩
 refine ja (ii i102) rfl <| J.nil <| cr <| jm (ii i102) rfl <| jv (ii (IntKind.wrap .i64 (Int.tdiv i102 2))) (V.quo rfl rfl (by decide)) <| jm (ii i102) rfl ?_
 refine jv (ii (Int.tmod i102 2)) (V.rem rfl rfl (by decide)) <| jv (.bool (decide ((Int.tmod i102 2) = 1))) (V.eql rfl rfl) <| jv _ (V.fad Tryz.underlying73 rfl nz3 rfl) <| J.front 3 rfl <| js1 [ii i62, ii i86, ii i94, ii (IntKind.wrap .i64 (Int.tdiv i102 2)), .bool false] sz3 rfl rfl rfl rfl rfl rfl <| jv _ (V.fad Tryz.underlying73 rfl nz4 rfl) <| js1 [ii i62, ii i86, ii i94, ii (IntKind.wrap .i64 (Int.tdiv i102 2)), .bool (decide ((Int.tmod i102 2) = 1))] sz4 rfl rfl rfl rfl rfl rfl ?_
 refine J.nil <| CJ.seq <| cr <| jv (ii i103) (V.ld rfl (Ld.sc sc35 (Rd.cl 1 rfl rfl))) <| jv (.bool (!decide (i103 = 0))) (V.neq rfl rfl) <| J.nil ?_
 refine cc rfl h (fun hc108 h => ?_) fun hc108 h => ?_
 · refine CJ.seq <| CJ.mix [Cl b83 73 [ii i62, ii i86, ii i94, ii (IntKind.wrap .i64 (Int.tdiv i102 2)), .bool (decide ((Int.tmod i102 2) = 1))], Cl b70 35 [ii i103], Cl b58 9 [.string ⟨xa.toArray⟩], Cl b69 3 [ii i104], Cl b81 136 [.bool t74, .bool t75, .bool t76], Cl b59 73 [ii 0, ii 0, ii 0, ii 0, .bool false]] [([0, 1], 2)] [3, 4] [] mixO (by decide +kernel) ⟨0, rfl, 0, rfl, 0, rfl, 0, rfl, 0, rfl, 0, rfl, trivial⟩ rfl rfl rfl <| JM.cons <| qv (.agg #[ii 0, ii 0, ii 0, ii 0, .bool false]) (V.build inf73 places73 rfl rfl) <| qv (ii i103) (V.ld rfl (Ld.sc sc35 (Rd.cl 1 rfl rfl))) <| JQ.nil <| JA.front 5 rfl ?_
   refine JA.op rfl (A.store (v := .agg #[ii 0, ii 0, ii 0, ii 0, .bool false]) (cs' := [ii 0, ii 0, ii 0, ii 0, .bool false]) sz73 rfl rfl rfl rfl rfl rfl) ?_
   rintro _ _ _ ⟨rfl, rfl, rfl⟩
   refine ⟨fun w hs => Hold.sub (Hp.le_refl _) ⟨1, rfl, 1, rfl, 1, rfl, 1, rfl, 1, rfl, 0, rfl, trivial⟩ hs, ?_⟩
   refine JM.nil <| qa (ii 0) rfl <| qa (ii i103) rfl <| JQ.nil <| J.nil <| CJ.ret ?_
   obtain rfl := si h
   exact ⟨_, _, Res.three rfl ⟨_, _, rfl, Ld.agg (cs := [ii 0, ii 0, ii 0, ii 0, .bool false]) Tryz.underlying73 sz73 rfl (Rd.cls 0 0 rfl rfl)⟩ rfl rfl, ⟨0, 0, 0, 0, false, 0, i103, rfl, rfl, rfl⟩, (Hp.le_refl _), fun w hs => (Sep.dropAt 0 rfl (Sep.dropAt 0 rfl (Sep.dropAt 0 rfl (Sep.dropAt 0 rfl (Sep.dropAt 0 rfl (Sep.dropAt 0 rfl hs))))))⟩
 refine CJ.skip <| CJ.seq <| CJ.mix [Cl b83 73 [ii i62, ii i86, ii i94, ii (IntKind.wrap .i64 (Int.tdiv i102 2)), .bool (decide ((Int.tmod i102 2) = 1))], Cl b70 35 [ii i103], Cl b58 9 [.string ⟨xa.toArray⟩], Cl b69 3 [ii i104], Cl b81 136 [.bool t74, .bool t75, .bool t76]] [([0, 1], 2)] [3, 4] [] mixO (by decide +kernel) ⟨0, rfl, 0, rfl, 0, rfl, 0, rfl, 0, rfl, trivial⟩ rfl rfl rfl <| JM.cons <| qv (.agg #[ii i62, ii i86, ii i94, ii (IntKind.wrap .i64 (Int.tdiv i102 2)), .bool (decide ((Int.tmod i102 2) = 1))]) (V.ld rfl (Ld.agg (cs := [ii i62, ii i86, ii i94, ii (IntKind.wrap .i64 (Int.tdiv i102 2)), .bool (decide ((Int.tmod i102 2) = 1))]) Tryz.underlying73 sz73 rfl (Rd.cls 0 0 rfl rfl))) <| qv (ii i104) (V.ld rfl (Ld.sc sc3 (Rd.cl 3 rfl rfl))) <| JQ.nil ?_
 refine JA.front 5 rfl <| JA.op rfl (A.store (v := .agg #[ii i62, ii i86, ii i94, ii (IntKind.wrap .i64 (Int.tdiv i102 2)), .bool (decide ((Int.tmod i102 2) = 1))]) (cs' := [ii i62, ii i86, ii i94, ii (IntKind.wrap .i64 (Int.tdiv i102 2)), .bool (decide ((Int.tmod i102 2) = 1))]) sz73 rfl rfl rfl rfl rfl rfl) ?_
 rintro _ _ _ ⟨rfl, rfl, rfl⟩
 refine ⟨fun w hs => Hold.sub (Hp.le_refl _) ⟨1, rfl, 1, rfl, 1, rfl, 1, rfl, 1, rfl, trivial⟩ hs, ?_⟩
 refine JM.nil <| qa (ii i104) rfl <| qa (ii 0) rfl <| JQ.nil <| J.nil <| CJ.ret ?_
 obtain rfl := si h
 exact ⟨_, _, Res.three rfl ⟨_, _, rfl, Ld.agg (cs := [ii i62, ii i86, ii i94, ii (IntKind.wrap .i64 (Int.tdiv i102 2)), .bool (decide ((Int.tmod i102 2) = 1))]) Tryz.underlying73 sz73 rfl (Rd.cls 0 0 rfl rfl)⟩ rfl rfl, ⟨i62, i86, i94, IntKind.wrap .i64 (Int.tdiv i102 2), decide ((Int.tmod i102 2) = 1), i104, 0, rfl, rfl, rfl⟩, (Hp.le_refl _), fun w hs => (Sep.dropAt 0 rfl (Sep.dropAt 0 rfl (Sep.dropAt 0 rfl (Sep.dropAt 0 rfl (Sep.dropAt 0 rfl (Sep.dropAt 0 rfl hs))))))⟩

noncomputable def fn_body_one_api_Stmt_p0_stmt_Take__sii (qa0 : List UInt8) (qa1 : Int) (qa2 : Int) : Option (Int × Int × Int × Int × Bool × List UInt8 × Int × Int) :=
  cond (!decide (qa2 = 0)) (some ((0, 0, 0, 0, false, qa0, qa1, qa2))) ((fn_stmt_Take qa0).bind fun (i34, i35, i36, i37, t38, i39, i40) => cond (!decide (i40 = 0)) (some ((0, 0, 0, 0, false, qa0, qa1, i40))) ((subL qa0 i39 (((qa0.length : Nat) : Int))).bind fun y46 => some ((i34, i35, i36, i37, t38, y46, IntKind.wrap .i64 (qa1 + 1), qa2))))
set_option maxRecDepth 100000 in
set_option maxHeartbeats 4000000 in
theorem body_one_api_Stmt_p0_stmt_Take__sii_ok {K : Hp} {qa0 : List UInt8} {qa1 : Int} {qa2 : Int} {pba : Nat}  {r : (Int × Int × Int × Int × Bool × List UInt8 × Int × Int)} (h : fn_body_one_api_Stmt_p0_stmt_Take__sii qa0 qa1 qa2 = some r) :
    Tr Tryz.prog 74 #[.pointer (some ⟨pba, 0, none⟩), .func (.func 26) #[] #[]] K [Cl pba 54 [.string ⟨qa0.toArray⟩, ii qa1, ii qa2]] (fun v K' L' => (∃ (i21 : Int) (i22 : Int) (i23 : Int) (i24 : Int) (t25 : Bool) (s26 : List UInt8) (i27 : Int) (i28 : Int), (i21, i22, i23, i24, t25, s26, i27, i28) = r ∧ .agg #[ii i21, ii i22, ii i23, ii i24, .bool t25] = v ∧ L' = [Cl pba 54 [.string ⟨s26.toArray⟩, ii i27, ii i28]]) ∧ K = K') := by
 refine Tr.k <| Tr.of Tryz.func74 rfl Tryz.ntmps74 rfl fun E F => ?_
 unfold fn_body_one_api_Stmt_p0_stmt_Take__sii at h
 refine cr <| jal inf73 [ii 0, ii 0, ii 0, ii 0, .bool false] rfl fun b29 => J.nil <| cr <| jal inf73 [ii 0, ii 0, ii 0, ii 0, .bool false] rfl fun b30 => ?_
 refine J.nil <| CJ.seq <| cr <| jm _ rfl <| jv _ (V.nck rfl) <| jv _ (V.fad Tryz.underlying54 rfl nz35 rfl) ?_
 refine jv (ii qa2) (V.ld rfl (Ld.sc sc35 (Rd.cl 2 rfl rfl))) <| jv (.bool (!decide (qa2 = 0))) (V.neq rfl rfl) <| J.nil <| cc rfl h (fun hc31 h => ?_) fun hc31 h => ?_
 · refine cr <| jv (.agg #[ii 0, ii 0, ii 0, ii 0, .bool false]) (V.ld rfl (Ld.agg (cs := [ii 0, ii 0, ii 0, ii 0, .bool false]) Tryz.underlying73 sz73 rfl (Rd.cls 0 0 rfl rfl))) <| J.front 1 rfl <| js [ii 0, ii 0, ii 0, ii 0, .bool false] sz73 rfl rfl rfl rfl rfl rfl <| J.nil <| CJ.ret ?_
   obtain rfl := si h
   exact ⟨_, _, Res.one rfl ⟨_, _, rfl, Ld.agg (cs := [ii 0, ii 0, ii 0, ii 0, .bool false]) Tryz.underlying73 sz73 rfl (Rd.cls 0 0 rfl rfl)⟩, ⟨0, 0, 0, 0, false, qa0, qa1, qa2, rfl, rfl, rfl⟩, (Hp.le_refl _), fun w hs => (Sep.dropAt 0 rfl (Sep.dropAt 0 rfl hs))⟩
 refine CJ.skip <| cr <| jm (.func (.func 26) #[] #[]) rfl <| jm _ rfl <| jv _ (V.nck rfl) <| jv _ (V.fad Tryz.underlying54 rfl nz9 rfl) ?_
 refine jv (.string ⟨qa0.toArray⟩) (V.ld rfl (Ld.sc sc9 (Rd.cl 2 rfl rfl))) ?_
 obtain ⟨r32, hr33, h⟩ := ob h
 refine J.op rfl (A.call (L1 := []) Tryz.call26 rfl (stmt_Take_ok hr33) rfl rfl) ?_
 rintro _ _ _ ⟨v41, _, rfl, ⟨⟨i34, i35, i36, i37, t38, i39, i40, rfl, rfl, rfl⟩, rfl⟩, _, rfl⟩
 refine jm (.tuple #[.agg #[ii i34, ii i35, ii i36, ii i37, .bool t38], ii i39, ii i40]) rfl <| jx (.agg #[ii i34, ii i35, ii i36, ii i37, .bool t38]) rfl rfl <| jx (ii i39) rfl rfl <| jx (ii i40) rfl rfl <| jal inf73 [ii 0, ii 0, ii 0, ii 0, .bool false] rfl fun b44 => js [ii i34, ii i35, ii i36, ii i37, .bool t38] sz73 rfl rfl rfl rfl rfl rfl <| ja (ii i39) rfl ?_
 refine ja (ii i40) rfl <| J.nil <| CJ.seq <| cr <| jm (ii i40) rfl <| jv (.bool (!decide (i40 = 0))) (V.neq rfl rfl) ?_
 refine J.nil <| cc rfl h (fun hc45 h => ?_) fun hc45 h => ?_
 · refine cr <| jm _ rfl <| jm (ii i40) rfl <| jv _ (V.nck rfl) <| jv _ (V.fad Tryz.underlying54 rfl nz35 rfl) <| J.front 3 rfl ?_
   refine js1 [.string ⟨qa0.toArray⟩, ii qa1, ii i40] sz35 rfl rfl rfl rfl rfl rfl <| J.nil <| cr <| jv (.agg #[ii 0, ii 0, ii 0, ii 0, .bool false]) (V.ld rfl (Ld.agg (cs := [ii 0, ii 0, ii 0, ii 0, .bool false]) Tryz.underlying73 sz73 rfl (Rd.cls 2 0 rfl rfl))) <| J.front 3 rfl <| js [ii 0, ii 0, ii 0, ii 0, .bool false] sz73 rfl rfl rfl rfl rfl rfl ?_
   refine J.nil <| CJ.ret ?_
   obtain rfl := si h
   exact ⟨_, _, Res.one rfl ⟨_, _, rfl, Ld.agg (cs := [ii 0, ii 0, ii 0, ii 0, .bool false]) Tryz.underlying73 sz73 rfl (Rd.cls 0 0 rfl rfl)⟩, ⟨0, 0, 0, 0, false, qa0, qa1, i40, rfl, rfl, rfl⟩, (Hp.le_refl _), fun w hs => (Sep.dropAt 1 rfl (Sep.dropAt 1 rfl (Sep.dropAt 0 rfl hs)))⟩
 refine CJ.skip <| cr <| jm _ rfl <| jm _ rfl <| jv _ (V.nck rfl) <| jv _ (V.fad Tryz.underlying54 rfl nz9 rfl) ?_
 refine jv (.string ⟨qa0.toArray⟩) (V.ld rfl (Ld.sc sc9 (Rd.cl 3 rfl rfl))) <| jm (ii i39) rfl ?_
 obtain ⟨y46, hy47, h⟩ := ob h
 refine jv (.string ⟨y46.toArray⟩) (V.subs Tryz.underlying9 rfl (fun _ h => by cases h; exact ⟨_, rfl⟩) nofun nofun (fun _ => rfl) hy47) <| jv _ (V.nck rfl) <| jv _ (V.fad Tryz.underlying54 rfl nz9 rfl) <| J.front 3 rfl <| js1 [.string ⟨y46.toArray⟩, ii qa1, ii qa2] sz9 rfl rfl rfl rfl rfl rfl <| J.nil <| CJ.seq ?_
 refine CJ.region <| jm _ rfl <| jv _ (V.nck rfl) <| jv _ (V.fad Tryz.underlying54 rfl nz3 rfl) <| jv (ii qa1) (V.ld rfl (Ld.sc sc3 (Rd.cl 0 rfl rfl))) <| jv (ii (IntKind.wrap .i64 (qa1 + 1))) (V.add rfl rfl) <| jv _ (V.nck rfl) ?_
 refine jv _ (V.fad Tryz.underlying54 rfl nz3 rfl) <| js1 [.string ⟨y46.toArray⟩, ii (IntKind.wrap .i64 (qa1 + 1)), ii qa2] sz3 rfl rfl rfl rfl rfl rfl <| J.nil <| cr <| jv (.agg #[ii i34, ii i35, ii i36, ii i37, .bool t38]) (V.ld rfl (Ld.agg (cs := [ii i34, ii i35, ii i36, ii i37, .bool t38]) Tryz.underlying73 sz73 rfl (Rd.cls 1 0 rfl rfl))) <| J.front 3 rfl ?_
 refine js [ii i34, ii i35, ii i36, ii i37, .bool t38] sz73 rfl rfl rfl rfl rfl rfl <| J.nil <| CJ.ret ?_
 obtain rfl := si h
 exact ⟨_, _, Res.one rfl ⟨_, _, rfl, Ld.agg (cs := [ii i34, ii i35, ii i36, ii i37, .bool t38]) Tryz.underlying73 sz73 rfl (Rd.cls 0 0 rfl rfl)⟩, ⟨i34, i35, i36, i37, t38, y46, IntKind.wrap .i64 (qa1 + 1), qa2, rfl, rfl, rfl⟩, (Hp.le_refl _), fun w hs => (Sep.dropAt 1 rfl (Sep.dropAt 1 rfl (Sep.dropAt 0 rfl hs)))⟩
noncomputable def fn_body_list_api_Stmt_p0_stmt_Take__sii_l1 (i258 : Int) : ((List (Int × Int × Int × Int × Bool)) × Int × List UInt8 × Int × Int) → Option (((List (Int × Int × Int × Int × Bool)) × Int × List UInt8 × Int × Int) ⊕ ((List (Int × Int × Int × Int × Bool)) × List UInt8 × Int × Int)) := fun ((l424, i429, s430, i431, i432) : ((List (Int × Int × Int × Int × Bool)) × Int × List UInt8 × Int × Int)) => cond ((decide (i429 < i258)) && (decide (i432 = 0))) ((fn_body_one_api_Stmt_p0_stmt_Take__sii s430 i431 i432).bind fun (i479, i480, i481, i482, t483, s484, i485, i486) => (app l424 (([(i479, i480, i481, i482, t483)] : List (Int × Int × Int × Int × Bool)))).bind fun z493 => some (.inl ((z493, IntKind.wrap .i64 (i429 + 1), s484, i485, i486)))) (some (.inr (((l424, s430, i431, i432)))))
noncomputable def fn_body_list_api_Stmt_p0_stmt_Take__sii (qa0 : List UInt8) (qa1 : Int) (qa2 : Int) : Option (((List (Int × Int × Int × Int × Bool)) × List UInt8 × Int × Int)) :=
  (fn_body_count_p0_sii qa0 qa1 qa2).bind fun (i258, s259, i260, i261) => (loop (fn_body_list_api_Stmt_p0_stmt_Take__sii_l1 i258) ([], 0, s259, i260, i261) : Option (((List (Int × Int × Int × Int × Bool)) × List UInt8 × Int × Int))).bind fun (l377, s382, i383, i384) => some ((l377, s382, i383, i384))
set_option maxRecDepth 100000 in
set_option maxHeartbeats 4000000 in
theorem body_list_api_Stmt_p0_stmt_Take__sii_ok {K : Hp} {qa0 : List UInt8} {qa1 : Int} {qa2 : Int} {pba : Nat}  {r : ((List (Int × Int × Int × Int × Bool)) × List UInt8 × Int × Int)} (h : fn_body_list_api_Stmt_p0_stmt_Take__sii qa0 qa1 qa2 = some r) :
    Tr Tryz.prog 25 #[.pointer (some ⟨pba, 0, none⟩), .func (.func 26) #[] #[]] K [Cl pba 54 [.string ⟨qa0.toArray⟩, ii qa1, ii qa2]] (fun v K' L' => (∃ (l248 : (List (Int × Int × Int × Int × Bool))) (s253 : List UInt8) (i254 : Int) (i255 : Int) (ad249 : Option Addr) (cp250 : Nat), (l248, s253, i254, i255) = r ∧ .slice ad249 l248.length cp250 = v ∧ L' = [Cl pba 54 [.string ⟨s253.toArray⟩, ii i254, ii i255], Row Hp.nil 73 (.cons (.int .i64) (.cons (.int .i64) (.cons (.int .i64) (.cons (.int .i64) (.one .bool))))) (.slice ad249 l248.length cp250) l248]) ∧ K = K') := by
 refine Tr.k <| Tr.of Tryz.func25 rfl Tryz.ntmps25 rfl fun E F => ?_
 unfold fn_body_list_api_Stmt_p0_stmt_Take__sii at h
 refine cr <| ja (nos) rfl <| J.nil <| cr <| ja (nos) rfl ?_
 refine J.nil <| cr <| jm _ rfl ?_
 obtain ⟨r256, hr257, h⟩ := ob h
 refine J.op rfl (A.call (L1 := [Cl pba 54 [.string ⟨qa0.toArray⟩, ii qa1, ii qa2]]) Tryz.call17 rfl (body_count_p0_sii_ok hr257) rfl rfl) ?_
 rintro _ _ _ ⟨v262, _, rfl, ⟨⟨i258, s259, i260, i261, rfl, rfl, rfl⟩, rfl⟩, _, rfl⟩
 refine ja (ii i258) rfl <| J.nil <| CJ.seq <| cr <| ja (ii 0) rfl <| J.nil ?_
 obtain ⟨o385, ho386, h⟩ := ob h
 refine CJ.meetN (fun ρ K' L' => ∃ (l377 : (List (Int × Int × Int × Int × Bool))) (s382 : List UInt8) (i383 : Int) (i384 : Int) (ad378 : Option Addr) (cp379 : Nat), (l377, s382, i383, i384) = o385 ∧ Fits [(5, .slice ad378 l377.length cp379)] ρ ∧ K = K' ∧ L' = Cl pba 54 [.string ⟨s382.toArray⟩, ii i383, ii i384] :: Row Hp.nil 73 (.cons (.int .i64) (.cons (.int .i64) (.cons (.int .i64) (.cons (.int .i64) (.one .bool))))) (.slice ad378 l377.length cp379) l377 :: F) ?_ ?_
 · refine CJ.block <| CJ.by (fun w hs => Sep.rowNil (e := 73) (t := (.cons (.int .i64) (.cons (.int .i64) (.cons (.int .i64) (.cons (.int .i64) (.one .bool)))))) hs) <| CJ.front 1 rfl <| CJ.loop (fun s ρ K' L' => ∃ (l424 : (List (Int × Int × Int × Int × Bool))) (i429 : Int) (s430 : List UInt8) (i431 : Int) (i432 : Int) (ad425 : Option Addr) (cp426 : Nat), (l424, i429, s430, i431, i432) = s ∧ Fits [(0, .pointer (some ⟨pba, 0, none⟩)), (1, .func (.func 26) #[] #[]), (5, .slice ad425 l424.length cp426), (6, ii i258), (7, ii i429)] ρ ∧ K = K' ∧ L' = Cl pba 54 [.string ⟨s430.toArray⟩, ii i431, ii i432] :: Row Hp.nil 73 (.cons (.int .i64) (.cons (.int .i64) (.cons (.int .i64) (.cons (.int .i64) (.one .bool))))) (.slice ad425 l424.length cp426) l424 :: F) ho386 ⟨[], 0, s259, i260, i261, none, 0, rfl, ⟨rfl, rfl, rfl, rfl, rfl, trivial⟩, rfl, rfl⟩ ?_
   rintro s ρ _ _ r472 ⟨l424, i429, s430, i431, i432, ad425, cp426, rfl, hf470, rfl, rfl⟩ h468
   obtain ⟨ρ, rfl⟩ := hf470.ex
   refine CJ.front 1 rfl <| CJ.wit Row.hn fun hn428 => CJ.seq <| cr <| jm (ii i429) rfl <| jm (ii i258) rfl ?_
   refine jv (.bool (decide (i429 < i258))) (V.lss rfl rfl) <| jm (.bool (decide (i429 < i258))) rfl <| J.cut 6 <| jmeet [(19, .bool ((decide (i429 < i258)) && (decide (i432 = 0)))), (0, .pointer (some ⟨pba, 0, none⟩)), (1, .func (.func 26) #[] #[]), (5, .slice ad425 l424.length cp426), (6, ii i258), (7, ii i429)] ?_ ?_
   · rcases bt (decide (i429 < i258)) with hc475 | hc475
     · refine J.run rfl rfl rfl hc475 <| jm _ rfl <| J.run rfl rfl rfl hc475 <| jv _ (V.nck rfl) <| J.run rfl rfl rfl hc475 <| jv _ (V.fad Tryz.underlying54 rfl nz35 rfl) <| J.run rfl rfl rfl hc475 ?_
       refine jv (ii i432) (V.ld rfl (Ld.sc sc35 (Rd.cl 1 rfl rfl))) <| J.run rfl rfl rfl hc475 <| jv (.bool (decide (i432 = 0))) (V.eql rfl rfl) <| jv (.bool (decide (i432 = 0))) (V.pickT rfl hc475 rfl) <| J.nil ?_
       exact ⟨rfl, ⟨(by simp only [hc475]; rfl), rfl, rfl, rfl, rfl, rfl, trivial⟩, rfl, rfl⟩
     refine J.skip rfl rfl rfl rfl hc475 <| J.skip rfl rfl rfl rfl hc475 <| J.skip rfl rfl rfl rfl hc475 <| J.skip rfl rfl rfl rfl hc475 <| J.skip rfl rfl rfl rfl hc475 <| jv (.bool false) (V.pickF rfl hc475 rfl) <| J.nil ?_
     exact ⟨rfl, ⟨(by simp only [hc475]; rfl), rfl, rfl, rfl, rfl, rfl, trivial⟩, rfl, rfl⟩
   intro ρ
   refine J.nil <| cc rfl h468 (fun hc476 h468 => ?_) fun hc476 h468 => ?_
   · refine CJ.skip <| CJ.seq <| CJ.block <| CJ.region <| jm (.slice ad425 l424.length cp426) rfl <| jm _ rfl <| jm (.func (.func 26) #[] #[]) rfl ?_
     obtain ⟨r477, hr478, h468⟩ := ob h468
     refine J.front 1 rfl <| J.op rfl (A.call (L1 := [Cl pba 54 [.string ⟨s430.toArray⟩, ii i431, ii i432]]) Tryz.call74 rfl (body_one_api_Stmt_p0_stmt_Take__sii_ok hr478) rfl rfl) ?_
     rintro _ _ _ ⟨v487, _, rfl, ⟨⟨i479, i480, i481, i482, t483, s484, i485, i486, rfl, rfl, rfl⟩, rfl⟩, _, rfl⟩
     refine J.op rfl (A.lit (K0 := Hp.nil) (ty := (.cons (.int .i64) (.cons (.int .i64) (.cons (.int .i64) (.cons (.int .i64) (.one .bool)))))) (xs := ([(i479, i480, i481, i482, t483)] : List (Int × Int × Int × Int × Bool))) Tryz.underlying65 inf73 rfl (by decide) rfl rfl rfl ⟨_, _, rfl, ⟨_, _, rfl, rfl, rfl, ⟨_, _, rfl, rfl, rfl, ⟨_, _, rfl, rfl, rfl, ⟨_, _, rfl, rfl, rfl, rfl⟩⟩⟩⟩, rfl⟩ rfl (by decide)) ?_
     rintro _ _ _ ⟨b490, rfl, rfl, rfl⟩
     have hn491 : ([(i479, i480, i481, i482, t483)] : List (Int × Int × Int × Int × Bool)) ≠ [] → ∃ g, (some ⟨b490, 0, none⟩ : Option Addr) = some ⟨g, 0, none⟩ := fun _ => ⟨b490, rfl⟩
     obtain ⟨z493, hz494, h468⟩ := ob h468
     refine J.front 2 rfl <| J.op rfl (A.appR (Kr := Hp.nil) Tryz.underlying65 inf73 rfl rfl (by decide) (by decide) rfl rfl (Els.flat rfl) (Els.flat rfl) hz494) ?_
     rintro _ _ _ ⟨v495, rfl, rfl, rfl⟩
     refine J.wit Row.form ?_
     rintro ⟨ad496, cp497, rfl, _, _, hn498⟩
     refine ja (.slice ad496 z493.length cp497) rfl <| J.nil <| CJ.region <| jm (ii i429) rfl <| jv (ii (IntKind.wrap .i64 (i429 + 1))) (V.add rfl rfl) <| ja (ii (IntKind.wrap .i64 (i429 + 1))) rfl <| J.front 1 rfl ?_
     refine J.nil ?_
     obtain rfl := si h468
     exact ⟨rfl, ⟨z493, IntKind.wrap .i64 (i429 + 1), s484, i485, i486, ad496, cp497, rfl, ⟨rfl, rfl, rfl, rfl, rfl, trivial⟩, rfl, rfl⟩⟩
   refine CJ.front 1 rfl <| CJ.exit ?_
   obtain rfl := si h468
   refine ⟨nofun, fun e => ?_⟩
   subst e
   exact ⟨rfl, ⟨l424, s430, i431, i432, ad425, cp426, rfl, ⟨rfl, trivial⟩, rfl, rfl⟩⟩
 rintro ρ _ _ ⟨l377, s382, i383, i384, ad378, cp379, rfl, hf499, rfl, rfl⟩
 obtain ⟨ρ, rfl⟩ := hf499.ex
 refine PJ.front 1 rfl <| PJ.wit Row.hn fun hn381 => PJ.done <| cr <| jm (.slice ad378 l377.length cp379) rfl <| ja (.slice ad378 l377.length cp379) rfl ?_
 refine J.nil <| CJ.ret ?_
 obtain rfl := si h
 exact ⟨_, _, Res.one rfl rfl, ⟨l377, s382, i383, i384, ad378, cp379, rfl, rfl, rfl⟩, (Hp.le_refl _), fun w hs => (Sep.front 1 rfl hs)⟩

noncomputable def fn_term_reader_number_p0_sii (qa0 : List UInt8) (qa1 : Int) (qa2 : Int) : Option (Int × Int × Int) :=
  cond (!decide (qa2 = 0)) (some ((0, qa1, qa2))) ((subL qa0 qa1 (((qa0.length : Nat) : Int))).bind fun y38 => (fn_leb_Take y38).bind fun (i42, i43, i44) => some ((i42, IntKind.wrap .i64 (qa1 + i43), i44)))
set_option maxRecDepth 100000 in
set_option maxHeartbeats 4000000 in
theorem term_reader_number_p0_sii_ok {K : Hp} {qa0 : List UInt8} {qa1 : Int} {qa2 : Int} {pba : Nat}  {r : (Int × Int × Int)} (h : fn_term_reader_number_p0_sii qa0 qa1 qa2 = some r) :
    Tr Tryz.prog 77 #[.pointer (some ⟨pba, 0, none⟩)] K [Cl pba 142 [.string ⟨qa0.toArray⟩, ii qa1, ii qa2]] (fun v K' L' => (∃ (i23 : Int) (i24 : Int) (i25 : Int), (i23, i24, i25) = r ∧ ii i23 = v ∧ L' = [Cl pba 142 [.string ⟨qa0.toArray⟩, ii i24, ii i25]]) ∧ K = K') := by
 refine Tr.k <| Tr.of Tryz.func77 rfl Tryz.ntmps77 rfl fun E F => ?_
 unfold fn_term_reader_number_p0_sii at h
 refine cr <| ja (ii 0) rfl <| J.nil <| CJ.seq <| CJ.seq <| CJ.region ?_
 refine jm _ rfl <| jv _ (V.nck rfl) <| jv _ (V.fad Tryz.underlying142 rfl nz35 rfl) <| jv (ii qa2) (V.ld rfl (Ld.sc sc35 (Rd.cl 0 rfl rfl))) <| jv (.bool (!decide (qa2 = 0))) (V.neq rfl rfl) <| J.nil <| cc rfl h (fun hc26 h => ?_) fun hc26 h => ?_
 · refine cr <| ja (ii 0) rfl <| J.nil <| CJ.ret ?_
   obtain rfl := si h
   exact ⟨_, _, Res.one rfl rfl, ⟨0, qa1, qa2, rfl, rfl, rfl⟩, (Hp.le_refl _), fun w hs => hs⟩
 refine CJ.skip <| CJ.seq <| CJ.mix [Cl pba 142 [.string ⟨qa0.toArray⟩, ii qa1, ii qa2]] [([0, 1, 2, 3, 4, 5, 6, 7, 8], 9)] [10, 11, 12, 13, 14, 15, 16] [] mixO (by decide +kernel) ⟨0, rfl, trivial⟩ rfl rfl rfl <| JM.cons <| qm _ rfl <| qv _ (V.nck rfl) <| qv _ (V.fad Tryz.underlying142 rfl nz9 rfl) ?_
 refine qv (.string ⟨qa0.toArray⟩) (V.ld rfl (Ld.sc sc9 (Rd.cl 0 rfl rfl))) <| qm _ rfl <| qv _ (V.nck rfl) <| qv _ (V.fad Tryz.underlying142 rfl nz3 rfl) <| qv (ii qa1) (V.ld rfl (Ld.sc sc3 (Rd.cl 0 rfl rfl))) ?_
 obtain ⟨y38, hy39, h⟩ := ob h
 refine qv (.string ⟨y38.toArray⟩) (V.subs Tryz.underlying9 rfl (fun _ h => by cases h; exact ⟨_, rfl⟩) nofun nofun (fun _ => rfl) hy39) <| JQ.nil ?_
 obtain ⟨r40, hr41, h⟩ := ob h
 refine JA.op rfl (A.call (L1 := []) Tryz.call63 rfl (leb_Take_ok hr41) rfl rfl) ?_
 rintro _ _ _ ⟨v45, _, rfl, ⟨⟨i42, i43, i44, rfl, rfl, rfl⟩, rfl⟩, _, rfl⟩
 refine ⟨fun w hs => Hold.sub (Hp.le_refl _) ⟨0, rfl, trivial⟩ hs, ?_⟩
 refine JM.nil <| qm (.tuple #[ii i42, ii i43, ii i44]) rfl <| qv (ii i42) (V.ext rfl rfl) <| qv (ii i43) (V.ext rfl rfl) <| qv (ii i44) (V.ext rfl rfl) <| qa (ii i42) rfl <| qa (ii i43) rfl ?_
 refine qa (ii i44) rfl <| JQ.nil <| J.nil <| cr <| jm _ rfl <| jm _ rfl ?_
 refine jm _ rfl <| jv _ (V.nck rfl) <| jv _ (V.fad Tryz.underlying142 rfl nz3 rfl) <| jv (ii qa1) (V.ld rfl (Ld.sc sc3 (Rd.cl 0 rfl rfl))) <| jm (ii i43) rfl <| jv (ii (IntKind.wrap .i64 (qa1 + i43))) (V.add rfl rfl) <| jm (ii i44) rfl ?_
 refine jv _ (V.nck rfl) <| jv _ (V.fad Tryz.underlying142 rfl nz3 rfl) <| js1 [.string ⟨qa0.toArray⟩, ii (IntKind.wrap .i64 (qa1 + i43)), ii qa2] sz3 rfl rfl rfl rfl rfl rfl <| jv _ (V.nck rfl) <| jv _ (V.fad Tryz.underlying142 rfl nz35 rfl) <| js1 [.string ⟨qa0.toArray⟩, ii (IntKind.wrap .i64 (qa1 + i43)), ii i44] sz35 rfl rfl rfl rfl rfl rfl <| J.nil ?_
 refine cr <| jm (ii i42) rfl <| ja (ii i42) rfl <| J.nil <| CJ.ret ?_
 obtain rfl := si h
 exact ⟨_, _, Res.one rfl rfl, ⟨i42, IntKind.wrap .i64 (qa1 + i43), i44, rfl, rfl, rfl⟩, (Hp.le_refl _), fun w hs => hs⟩
noncomputable def fn_term_reader_list_p0i_sii_l1 (qa0 : List UInt8) (i224 : Int) : ((List Int) × Int × Int × Int) → Option (((List Int) × Int × Int × Int) ⊕ ((List Int) × Int × Int)) := fun ((l371, i376, i377, i378) : ((List Int) × Int × Int × Int)) => cond ((decide (i376 < i224)) && (decide (i378 = 0))) ((fn_term_reader_number_p0_sii qa0 i377 i378).bind fun (i419, i420, i421) => (app l371 ([i419] : List Int)).bind fun z428 => some (.inl ((z428, IntKind.wrap .i64 (i376 + 1), i420, i421)))) (some (.inr (((l371, i377, i378)))))
noncomputable def fn_term_reader_list_p0i_sii (xb : Int) (qa0 : List UInt8) (qa1 : Int) (qa2 : Int) : Option (((List Int) × Int × Int)) :=
  (fn_term_reader_number_p0_sii qa0 qa1 qa2).bind fun (i224, i225, i226) => (cond (decide (xb < i224)) (some (6)) (some (i226)) : Option Int).bind fun i231 => (loop (fn_term_reader_list_p0i_sii_l1 qa0 i224) ([], 0, i225, i231) : Option (((List Int) × Int × Int))).bind fun (l331, i336, i337) => some ((l331, i336, i337))
set_option maxRecDepth 100000 in
set_option maxHeartbeats 4000000 in
theorem term_reader_list_p0i_sii_ok {K : Hp} {xb : Int} {qa0 : List UInt8} {qa1 : Int} {qa2 : Int} {pba : Nat}  {r : ((List Int) × Int × Int)} (h : fn_term_reader_list_p0i_sii xb qa0 qa1 qa2 = some r) :
    Tr Tryz.prog 101 #[.pointer (some ⟨pba, 0, none⟩), ii xb] K [Cl pba 142 [.string ⟨qa0.toArray⟩, ii qa1, ii qa2]] (fun v K' L' => (∃ (l215 : (List Int)) (i220 : Int) (i221 : Int) (ad216 : Option Addr) (cp217 : Nat), (l215, i220, i221) = r ∧ .slice ad216 l215.length cp217 = v ∧ L' = [Cl pba 142 [.string ⟨qa0.toArray⟩, ii i220, ii i221], Row Hp.nil 3 (.int .i64) (.slice ad216 l215.length cp217) l215]) ∧ K = K') := by
 refine Tr.k <| Tr.of Tryz.func101 rfl Tryz.ntmps101 rfl fun E F => ?_
 unfold fn_term_reader_list_p0i_sii at h
 refine cr <| ja (nos) rfl <| J.nil <| cr <| jm _ rfl ?_
 obtain ⟨r222, hr223, h⟩ := ob h
 refine J.op rfl (A.call (L1 := [Cl pba 142 [.string ⟨qa0.toArray⟩, ii qa1, ii qa2]]) Tryz.call77 rfl (term_reader_number_p0_sii_ok hr223) rfl rfl) ?_
 rintro _ _ _ ⟨v227, _, rfl, ⟨⟨i224, i225, i226, rfl, rfl, rfl⟩, rfl⟩, _, rfl⟩
 refine ja (ii i224) rfl <| J.nil <| CJ.seq ?_
 obtain ⟨o232, ho233, h⟩ := ob h
 refine CJ.meetN (fun ρ K' L' => ∃ (i231 : Int), i231 = o232 ∧ Fits [(0, .pointer (some ⟨pba, 0, none⟩)), (5, ii i224)] ρ ∧ K = K' ∧ L' = Cl pba 142 [.string ⟨qa0.toArray⟩, ii i225, ii i231] :: F) ?_ ?_
 · refine cr <| jm (ii i224) rfl <| jm (ii xb) rfl <| jv (.bool (decide (xb < i224))) (V.gtr rfl rfl) <| J.nil <| cc rfl ho233 (fun hc234 ho233 => ?_) fun hc234 ho233 => ?_
   · refine CJ.region <| jm _ rfl <| jv _ (V.nck rfl) <| jv _ (V.fad Tryz.underlying142 rfl nz35 rfl) <| js1 [.string ⟨qa0.toArray⟩, ii i225, ii 6] sz35 rfl rfl rfl rfl rfl rfl <| J.nil ?_
     obtain rfl := si ho233
     exact ⟨rfl, ⟨6, rfl, ⟨rfl, rfl, trivial⟩, rfl, rfl⟩⟩
   refine CJ.skip ?_
   obtain rfl := si ho233
   exact ⟨rfl, ⟨i226, rfl, ⟨rfl, rfl, trivial⟩, rfl, rfl⟩⟩
 rintro ρ _ _ ⟨i231, rfl, hf235, rfl, rfl⟩
 obtain ⟨ρ, rfl⟩ := hf235.ex
 refine PJ.done <| cr <| ja (nos) rfl <| J.nil <| CJ.seq <| CJ.seq ?_
 refine CJ.region <| ja (ii 0) rfl <| J.nil ?_
 obtain ⟨o338, ho339, h⟩ := ob h
 refine CJ.meetN (fun ρ K' L' => ∃ (l331 : (List Int)) (i336 : Int) (i337 : Int) (ad332 : Option Addr) (cp333 : Nat), (l331, i336, i337) = o338 ∧ Fits [(6, .slice ad332 l331.length cp333)] ρ ∧ K = K' ∧ L' = Cl pba 142 [.string ⟨qa0.toArray⟩, ii i336, ii i337] :: Row Hp.nil 3 (.int .i64) (.slice ad332 l331.length cp333) l331 :: F) ?_ ?_
 · refine CJ.block <| CJ.by (fun w hs => Sep.rowNil (e := 3) (t := (.int .i64)) hs) <| CJ.front 1 rfl <| CJ.loop (fun s ρ K' L' => ∃ (l371 : (List Int)) (i376 : Int) (i377 : Int) (i378 : Int) (ad372 : Option Addr) (cp373 : Nat), (l371, i376, i377, i378) = s ∧ Fits [(0, .pointer (some ⟨pba, 0, none⟩)), (5, ii i224), (6, .slice ad372 l371.length cp373), (7, ii i376)] ρ ∧ K = K' ∧ L' = Cl pba 142 [.string ⟨qa0.toArray⟩, ii i377, ii i378] :: Row Hp.nil 3 (.int .i64) (.slice ad372 l371.length cp373) l371 :: F) ho339 ⟨[], 0, i225, i231, none, 0, rfl, ⟨rfl, rfl, rfl, rfl, trivial⟩, rfl, rfl⟩ ?_
   rintro s ρ _ _ r412 ⟨l371, i376, i377, i378, ad372, cp373, rfl, hf410, rfl, rfl⟩ h408
   obtain ⟨ρ, rfl⟩ := hf410.ex
   refine CJ.front 1 rfl <| CJ.wit Row.hn fun hn375 => CJ.seq <| cr <| jm (ii i376) rfl <| jm (ii i224) rfl ?_
   refine jv (.bool (decide (i376 < i224))) (V.lss rfl rfl) <| jm (.bool (decide (i376 < i224))) rfl <| J.cut 6 <| jmeet [(25, .bool ((decide (i376 < i224)) && (decide (i378 = 0)))), (0, .pointer (some ⟨pba, 0, none⟩)), (5, ii i224), (6, .slice ad372 l371.length cp373), (7, ii i376)] ?_ ?_
   · rcases bt (decide (i376 < i224)) with hc415 | hc415
     · refine J.run rfl rfl rfl hc415 <| jm _ rfl <| J.run rfl rfl rfl hc415 <| jv _ (V.nck rfl) <| J.run rfl rfl rfl hc415 <| jv _ (V.fad Tryz.underlying142 rfl nz35 rfl) <| J.run rfl rfl rfl hc415 ?_
       refine jv (ii i378) (V.ld rfl (Ld.sc sc35 (Rd.cl 1 rfl rfl))) <| J.run rfl rfl rfl hc415 <| jv (.bool (decide (i378 = 0))) (V.eql rfl rfl) <| jv (.bool (decide (i378 = 0))) (V.pickT rfl hc415 rfl) <| J.nil ?_
       exact ⟨rfl, ⟨(by simp only [hc415]; rfl), rfl, rfl, rfl, rfl, trivial⟩, rfl, rfl⟩
     refine J.skip rfl rfl rfl rfl hc415 <| J.skip rfl rfl rfl rfl hc415 <| J.skip rfl rfl rfl rfl hc415 <| J.skip rfl rfl rfl rfl hc415 <| J.skip rfl rfl rfl rfl hc415 <| jv (.bool false) (V.pickF rfl hc415 rfl) <| J.nil ?_
     exact ⟨rfl, ⟨(by simp only [hc415]; rfl), rfl, rfl, rfl, rfl, trivial⟩, rfl, rfl⟩
   intro ρ
   refine J.nil <| cc rfl h408 (fun hc416 h408 => ?_) fun hc416 h408 => ?_
   · refine CJ.skip <| CJ.seq <| CJ.block <| CJ.region <| jm (.slice ad372 l371.length cp373) rfl <| jm _ rfl ?_
     obtain ⟨r417, hr418, h408⟩ := ob h408
     refine J.front 1 rfl <| J.op rfl (A.call (L1 := [Cl pba 142 [.string ⟨qa0.toArray⟩, ii i377, ii i378]]) Tryz.call77 rfl (term_reader_number_p0_sii_ok hr418) rfl rfl) ?_
     rintro _ _ _ ⟨v422, _, rfl, ⟨⟨i419, i420, i421, rfl, rfl, rfl⟩, rfl⟩, _, rfl⟩
     refine J.op rfl (A.lit (K0 := Hp.nil) (ty := (.int .i64)) (xs := ([i419] : List Int)) Tryz.underlying66 inf3 rfl (by decide) rfl rfl rfl ⟨_, _, rfl, rfl, rfl⟩ rfl (by decide)) ?_
     rintro _ _ _ ⟨b425, rfl, rfl, rfl⟩
     have hn426 : ([i419] : List Int) ≠ [] → ∃ g, (some ⟨b425, 0, none⟩ : Option Addr) = some ⟨g, 0, none⟩ := fun _ => ⟨b425, rfl⟩
     obtain ⟨z428, hz429, h408⟩ := ob h408
     refine J.front 2 rfl <| J.op rfl (A.appR (Kr := Hp.nil) Tryz.underlying66 inf3 rfl rfl (by decide) (by decide) rfl rfl (Els.flat rfl) (Els.flat rfl) hz429) ?_
     rintro _ _ _ ⟨v430, rfl, rfl, rfl⟩
     refine J.wit Row.form ?_
     rintro ⟨ad431, cp432, rfl, _, _, hn433⟩
     refine ja (.slice ad431 z428.length cp432) rfl <| J.nil <| CJ.region <| jm (ii i376) rfl <| jv (ii (IntKind.wrap .i64 (i376 + 1))) (V.add rfl rfl) <| ja (ii (IntKind.wrap .i64 (i376 + 1))) rfl <| J.front 1 rfl ?_
     refine J.nil ?_
     obtain rfl := si h408
     exact ⟨rfl, ⟨z428, IntKind.wrap .i64 (i376 + 1), i420, i421, ad431, cp432, rfl, ⟨rfl, rfl, rfl, rfl, trivial⟩, rfl, rfl⟩⟩
   refine CJ.front 1 rfl <| CJ.exit ?_
   obtain rfl := si h408
   refine ⟨nofun, fun e => ?_⟩
   subst e
   exact ⟨rfl, ⟨l371, i377, i378, ad372, cp373, rfl, ⟨rfl, trivial⟩, rfl, rfl⟩⟩
 rintro ρ _ _ ⟨l331, i336, i337, ad332, cp333, rfl, hf434, rfl, rfl⟩
 obtain ⟨ρ, rfl⟩ := hf434.ex
 refine PJ.front 1 rfl <| PJ.wit Row.hn fun hn335 => PJ.done <| cr <| jm (.slice ad332 l331.length cp333) rfl <| ja (.slice ad332 l331.length cp333) rfl ?_
 refine J.nil <| CJ.ret ?_
 obtain rfl := si h
 exact ⟨_, _, Res.one rfl rfl, ⟨l331, i336, i337, ad332, cp333, rfl, rfl, rfl⟩, (Hp.le_refl _), fun w hs => (Sep.front 1 rfl hs)⟩

noncomputable def fn_term_reader_fields_p0p1_sii_iiinnn (qa0 : List UInt8) (qa1 : Int) (qa2 : Int) (qb0 : Int) (qb1 : Int) (qb2 : Int) : Option ((Int × Int × Int × Int × (List Int) × (List Int) × (List Int))) :=
  cond (decide (qb0 = 1)) ((fn_term_reader_number_p0_sii qa0 qa1 qa2).bind fun (i127, i128, i129) => some ((i128, i129, qb1, qb2, ([i127] : List Int), [], []))) (cond (decide (qb0 = 2)) ((fn_term_reader_list_p0i_sii 16 qa0 qa1 qa2).bind fun (l141, i142, i143) => (cond ((decide (i143 = 0)) && (decide ((((l141.length : Nat) : Int)) = 0))) (some (3)) (some (i143)) : Option Int).bind fun i155 => (fn_term_reader_list_p0i_sii 16 qa0 i142 i155).bind fun (l166, i167, i168) => some ((i167, i168, qb1, qb2, l141, l166, []))) (cond (decide (qb0 = 3)) (some ((qa1, qa2, qb1, qb2, [], [], []))) (cond (decide (qb0 = 4)) ((fn_term_reader_number_p0_sii qa0 qa1 qa2).bind fun (i184, i185, i186) => (fn_term_reader_number_p0_sii qa0 i185 i186).bind fun (i192, i193, i194) => (fn_term_reader_number_p0_sii qa0 i193 i194).bind fun (i200, i201, i202) => (fn_term_reader_list_p0i_sii 16 qa0 i201 i202).bind fun (l211, i212, i213) => (fn_term_reader_list_p0i_sii 16 qa0 i212 i213).bind fun (l223, i224, i225) => some ((i224, i225, i184, i192, ([i200] : List Int), l223, l211))) (some ((qa1, 3, qb1, qb2, [], [], []))))))
set_option maxRecDepth 100000 in
set_option maxHeartbeats 4000000 in
theorem term_reader_fields_p0p1_sii_iiinnn_ok {K : Hp} {qa0 : List UInt8} {qa1 : Int} {qa2 : Int} {qb0 : Int} {qb1 : Int} {qb2 : Int} {pba : Nat} {pbb : Nat}  {r : (Int × Int × Int × Int × (List Int) × (List Int) × (List Int))} (h : fn_term_reader_fields_p0p1_sii_iiinnn qa0 qa1 qa2 qb0 qb1 qb2 = some r) :
    Tr Tryz.prog 78 #[.pointer (some ⟨pba, 0, none⟩), .pointer (some ⟨pbb, 0, none⟩)] K [Cl pba 142 [.string ⟨qa0.toArray⟩, ii qa1, ii qa2], Cl pbb 68 [ii qb0, ii qb1, ii qb2, nos, nos, nos]] (fun v K' L' => (∃ (i105 : Int) (i106 : Int) (i107 : Int) (i108 : Int) (l109 : (List Int)) (l114 : (List Int)) (l119 : (List Int)) (ad110 : Option Addr) (cp111 : Nat) (ad115 : Option Addr) (cp116 : Nat) (ad120 : Option Addr) (cp121 : Nat), (i105, i106, i107, i108, l109, l114, l119) = r ∧ .tuple #[] = v ∧ L' = [Cl pba 142 [.string ⟨qa0.toArray⟩, ii i105, ii i106], Cl pbb 68 [ii qb0, ii i107, ii i108, .slice ad110 l109.length cp111, .slice ad115 l114.length cp116, .slice ad120 l119.length cp121], Row Hp.nil 3 (.int .i64) (.slice ad110 l109.length cp111) l109, Row Hp.nil 3 (.int .i64) (.slice ad115 l114.length cp116) l114, Row Hp.nil 3 (.int .i64) (.slice ad120 l119.length cp121) l119]) ∧ K = K') := by
 refine Tr.k <| Tr.of Tryz.func78 rfl Tryz.ntmps78 rfl fun E F => ?_
 unfold fn_term_reader_fields_p0p1_sii_iiinnn at h
 refine cr <| jm _ rfl <| jv _ (V.nck rfl) <| jv _ (V.fad Tryz.underlying68 rfl nz3 rfl) <| jv (ii qb0) (V.ld rfl (Ld.sc sc3 (Rd.cl 1 rfl rfl))) <| J.nil ?_
 refine CJ.block <| cr <| jv (.bool (decide (qb0 = 1))) (V.eql rfl rfl) <| ja (.bool (decide (qb0 = 1))) rfl <| J.nil <| cc rfl h (fun hc124 h => ?_) fun hc124 h => ?_
 · refine CJ.region <| jm _ rfl <| jm _ rfl ?_
   obtain ⟨r125, hr126, h⟩ := ob h
   refine J.op rfl (A.call (L1 := [Cl pba 142 [.string ⟨qa0.toArray⟩, ii qa1, ii qa2]]) Tryz.call77 rfl (term_reader_number_p0_sii_ok hr126) rfl rfl) ?_
   rintro _ _ _ ⟨v130, _, rfl, ⟨⟨i127, i128, i129, rfl, rfl, rfl⟩, rfl⟩, _, rfl⟩
   refine J.op rfl (A.lit (K0 := Hp.nil) (ty := (.int .i64)) (xs := ([i127] : List Int)) Tryz.underlying66 inf3 rfl (by decide) rfl rfl rfl ⟨_, _, rfl, rfl, rfl⟩ rfl (by decide)) ?_
   rintro _ _ _ ⟨b133, rfl, rfl, rfl⟩
   have hn134 : ([i127] : List Int) ≠ [] → ∃ g, (some ⟨b133, 0, none⟩ : Option Addr) = some ⟨g, 0, none⟩ := fun _ => ⟨b133, rfl⟩
   refine jv _ (V.nck rfl) <| jv _ (V.fad Tryz.underlying68 rfl nz66 rfl) <| J.front 2 rfl <| js1 [ii qb0, ii qb1, ii qb2, .slice (some ⟨b133, 0, none⟩) (([i127] : List Int).length) 1, nos, nos] sz66 rfl rfl rfl rfl rfl rfl <| J.by (fun w hs => Sep.rowNil (e := 3) (t := (.int .i64)) hs) <| J.by (fun w hs => Sep.rowNil (e := 3) (t := (.int .i64)) hs) <| J.nil ?_
   obtain rfl := si h
   exact ⟨_, _, Res.zero rfl, ⟨i128, i129, qb1, qb2, ([i127] : List Int), [], [], (some ⟨b133, 0, none⟩), 1, none, 0, none, 0, rfl, rfl, rfl⟩, (Hp.le_refl _), fun w hs => (Sep.front 4 rfl (Sep.front 3 rfl (Sep.front 3 rfl (Sep.front 1 rfl hs))))⟩
 refine cr <| jv (.bool (decide (qb0 = 2))) (V.eql rfl rfl) <| ja (.bool (decide (qb0 = 2))) rfl <| J.nil <| cc rfl h (fun hc138 h => ?_) fun hc138 h => ?_
 · refine cr <| jm _ rfl <| jm _ rfl ?_
   obtain ⟨r139, hr140, h⟩ := ob h
   refine J.op rfl (A.call (L1 := [Cl pba 142 [.string ⟨qa0.toArray⟩, ii qa1, ii qa2]]) Tryz.call101 rfl (term_reader_list_p0i_sii_ok hr140) rfl rfl) ?_
   rintro _ _ _ ⟨v147, _, rfl, ⟨⟨l141, i142, i143, ad144, cp145, rfl, rfl, rfl⟩, rfl⟩, _, rfl⟩
   refine J.front 1 rfl <| J.wit Row.hn fun hn146 => jv _ (V.nck rfl) <| jv _ (V.fad Tryz.underlying68 rfl nz66 rfl) <| J.front 2 rfl <| js1 [ii qb0, ii qb1, ii qb2, .slice ad144 l141.length cp145, nos, nos] sz66 rfl rfl rfl rfl rfl rfl <| J.nil ?_
   refine CJ.seq ?_
   obtain ⟨o156, ho157, h⟩ := ob h
   refine CJ.meetN (fun ρ K' L' => ∃ (i155 : Int), i155 = o156 ∧ Fits [(0, .pointer (some ⟨pba, 0, none⟩)), (1, .pointer (some ⟨pbb, 0, none⟩))] ρ ∧ K = K' ∧ L' = Cl pba 142 [.string ⟨qa0.toArray⟩, ii i142, ii i155] :: Cl pbb 68 [ii qb0, ii qb1, ii qb2, .slice ad144 l141.length cp145, nos, nos] :: Row Hp.nil 3 (.int .i64) (.slice ad144 l141.length cp145) l141 :: F) ?_ ?_
   · refine cr <| jm _ rfl <| jv _ (V.nck rfl) <| jv _ (V.fad Tryz.underlying142 rfl nz35 rfl) <| jv (ii i143) (V.ld rfl (Ld.sc sc35 (Rd.cl 2 rfl rfl))) <| jv (.bool (decide (i143 = 0))) (V.eql rfl rfl) ?_
     refine jm (.bool (decide (i143 = 0))) rfl <| J.cut 7 <| jmeet [(38, .bool ((decide (i143 = 0)) && (decide ((((l141.length : Nat) : Int)) = 0)))), (0, .pointer (some ⟨pba, 0, none⟩)), (1, .pointer (some ⟨pbb, 0, none⟩))] ?_ ?_
     · rcases bt (decide (i143 = 0)) with hc160 | hc160
       · refine J.run rfl rfl rfl hc160 <| jm _ rfl <| J.run rfl rfl rfl hc160 <| jv _ (V.nck rfl) <| J.run rfl rfl rfl hc160 <| jv _ (V.fad Tryz.underlying68 rfl nz66 rfl) <| J.run rfl rfl rfl hc160 ?_
         refine jv (.slice ad144 l141.length cp145) (V.ld rfl (Ld.sc sc66 (Rd.cl 0 rfl rfl))) <| J.run rfl rfl rfl hc160 <| jv (ii (((l141.length : Nat) : Int))) (V.len Tryz.underlying66 rfl) <| J.run rfl rfl rfl hc160 <| jv (.bool (decide ((((l141.length : Nat) : Int)) = 0))) (V.eql rfl rfl) <| jv (.bool (decide ((((l141.length : Nat) : Int)) = 0))) (V.pickT rfl hc160 rfl) <| J.nil ?_
         exact ⟨rfl, ⟨(by simp only [hc160]; rfl), rfl, rfl, trivial⟩, rfl, rfl⟩
       refine J.skip rfl rfl rfl rfl hc160 <| J.skip rfl rfl rfl rfl hc160 <| J.skip rfl rfl rfl rfl hc160 <| J.skip rfl rfl rfl rfl hc160 <| J.skip rfl rfl rfl rfl hc160 <| J.skip rfl rfl rfl rfl hc160 <| jv (.bool false) (V.pickF rfl hc160 rfl) ?_
       refine J.nil ?_
       exact ⟨rfl, ⟨(by simp only [hc160]; rfl), rfl, rfl, trivial⟩, rfl, rfl⟩
     intro ρ
     refine J.nil <| cc rfl ho157 (fun hc161 ho157 => ?_) fun hc161 ho157 => ?_
     · refine CJ.region <| jm _ rfl <| jv _ (V.nck rfl) <| jv _ (V.fad Tryz.underlying142 rfl nz35 rfl) <| J.front 2 rfl <| js1 [.string ⟨qa0.toArray⟩, ii i142, ii 3] sz35 rfl rfl rfl rfl rfl rfl <| J.nil ?_
       obtain rfl := si ho157
       exact ⟨rfl, ⟨3, rfl, ⟨rfl, rfl, trivial⟩, rfl, rfl⟩⟩
     refine CJ.front 1 rfl <| CJ.front 1 rfl <| CJ.front 2 rfl <| CJ.skip ?_
     obtain rfl := si ho157
     exact ⟨rfl, ⟨i143, rfl, ⟨rfl, rfl, trivial⟩, rfl, rfl⟩⟩
   rintro ρ _ _ ⟨i155, rfl, hf162, rfl, rfl⟩
   obtain ⟨ρ, rfl⟩ := hf162.ex
   refine PJ.done <| CJ.region <| jm _ rfl <| jm _ rfl ?_
   obtain ⟨r164, hr165, h⟩ := ob h
   refine J.op rfl (A.call (L1 := [Cl pba 142 [.string ⟨qa0.toArray⟩, ii i142, ii i155]]) Tryz.call101 rfl (term_reader_list_p0i_sii_ok hr165) rfl rfl) ?_
   rintro _ _ _ ⟨v172, _, rfl, ⟨⟨l166, i167, i168, ad169, cp170, rfl, rfl, rfl⟩, rfl⟩, _, rfl⟩
   refine J.front 1 rfl <| J.wit Row.hn fun hn171 => jv _ (V.nck rfl) <| jv _ (V.fad Tryz.underlying68 rfl nz66 rfl) <| J.front 2 rfl <| js1 [ii qb0, ii qb1, ii qb2, .slice ad144 l141.length cp145, .slice ad169 l166.length cp170, nos] sz66 rfl rfl rfl rfl rfl rfl <| J.by (fun w hs => Sep.rowNil (e := 3) (t := (.int .i64)) hs) ?_
   refine J.nil ?_
   obtain rfl := si h
   exact ⟨_, _, Res.zero rfl, ⟨i167, i168, qb1, qb2, l141, l166, [], ad144, cp145, ad169, cp170, none, 0, rfl, rfl, rfl⟩, (Hp.le_refl _), fun w hs => (Sep.front 4 rfl (Sep.front 3 rfl (Sep.front 4 rfl (Sep.front 2 rfl hs))))⟩
 refine cr <| jv (.bool (decide (qb0 = 3))) (V.eql rfl rfl) <| ja (.bool (decide (qb0 = 3))) rfl <| J.nil <| cc rfl h (fun hc177 h => ?_) fun hc177 h => ?_
 · refine CJ.by (fun w hs => Sep.rowNil (e := 3) (t := (.int .i64)) hs) <| CJ.by (fun w hs => Sep.rowNil (e := 3) (t := (.int .i64)) hs) <| CJ.by (fun w hs => Sep.rowNil (e := 3) (t := (.int .i64)) hs) <| CJ.skip ?_
   obtain rfl := si h
   exact ⟨_, _, Res.zero rfl, ⟨qa1, qa2, qb1, qb2, [], [], [], none, 0, none, 0, none, 0, rfl, rfl, rfl⟩, (Hp.le_refl _), fun w hs => (Sep.front 4 rfl (Sep.front 4 rfl (Sep.front 2 rfl (Sep.front 1 rfl hs))))⟩
 refine cr <| jv (.bool (decide (qb0 = 4))) (V.eql rfl rfl) <| ja (.bool (decide (qb0 = 4))) rfl <| J.nil <| cc rfl h (fun hc181 h => ?_) fun hc181 h => ?_
 · refine cr <| jm _ rfl <| jm _ rfl ?_
   obtain ⟨r182, hr183, h⟩ := ob h
   refine J.op rfl (A.call (L1 := [Cl pba 142 [.string ⟨qa0.toArray⟩, ii qa1, ii qa2]]) Tryz.call77 rfl (term_reader_number_p0_sii_ok hr183) rfl rfl) ?_
   rintro _ _ _ ⟨v187, _, rfl, ⟨⟨i184, i185, i186, rfl, rfl, rfl⟩, rfl⟩, _, rfl⟩
   refine jv _ (V.nck rfl) <| jv _ (V.fad Tryz.underlying68 rfl nz3 rfl) <| J.front 1 rfl <| js1 [ii qb0, ii i184, ii qb2, nos, nos, nos] sz3 rfl rfl rfl rfl rfl rfl <| J.nil <| CJ.seq <| CJ.region ?_
   refine jm _ rfl <| jm _ rfl ?_
   obtain ⟨r190, hr191, h⟩ := ob h
   refine J.front 1 rfl <| J.op rfl (A.call (L1 := [Cl pba 142 [.string ⟨qa0.toArray⟩, ii i185, ii i186]]) Tryz.call77 rfl (term_reader_number_p0_sii_ok hr191) rfl rfl) ?_
   rintro _ _ _ ⟨v195, _, rfl, ⟨⟨i192, i193, i194, rfl, rfl, rfl⟩, rfl⟩, _, rfl⟩
   refine jv _ (V.nck rfl) <| jv _ (V.fad Tryz.underlying68 rfl nz3 rfl) <| J.front 1 rfl <| js1 [ii qb0, ii i184, ii i192, nos, nos, nos] sz3 rfl rfl rfl rfl rfl rfl <| J.nil <| CJ.seq <| CJ.region ?_
   refine jm _ rfl <| jm _ rfl ?_
   obtain ⟨r198, hr199, h⟩ := ob h
   refine J.front 1 rfl <| J.op rfl (A.call (L1 := [Cl pba 142 [.string ⟨qa0.toArray⟩, ii i193, ii i194]]) Tryz.call77 rfl (term_reader_number_p0_sii_ok hr199) rfl rfl) ?_
   rintro _ _ _ ⟨v203, _, rfl, ⟨⟨i200, i201, i202, rfl, rfl, rfl⟩, rfl⟩, _, rfl⟩
   refine J.op rfl (A.lit (K0 := Hp.nil) (ty := (.int .i64)) (xs := ([i200] : List Int)) Tryz.underlying66 inf3 rfl (by decide) rfl rfl rfl ⟨_, _, rfl, rfl, rfl⟩ rfl (by decide)) ?_
   rintro _ _ _ ⟨b206, rfl, rfl, rfl⟩
   have hn207 : ([i200] : List Int) ≠ [] → ∃ g, (some ⟨b206, 0, none⟩ : Option Addr) = some ⟨g, 0, none⟩ := fun _ => ⟨b206, rfl⟩
   refine jv _ (V.nck rfl) <| jv _ (V.fad Tryz.underlying68 rfl nz66 rfl) <| J.front 2 rfl <| js1 [ii qb0, ii i184, ii i192, .slice (some ⟨b206, 0, none⟩) (([i200] : List Int).length) 1, nos, nos] sz66 rfl rfl rfl rfl rfl rfl <| J.nil <| CJ.seq <| CJ.region ?_
   refine jm _ rfl <| jm _ rfl ?_
   obtain ⟨r209, hr210, h⟩ := ob h
   refine J.front 2 rfl <| J.op rfl (A.call (L1 := [Cl pba 142 [.string ⟨qa0.toArray⟩, ii i201, ii i202]]) Tryz.call101 rfl (term_reader_list_p0i_sii_ok hr210) rfl rfl) ?_
   rintro _ _ _ ⟨v217, _, rfl, ⟨⟨l211, i212, i213, ad214, cp215, rfl, rfl, rfl⟩, rfl⟩, _, rfl⟩
   refine J.front 1 rfl <| J.wit Row.hn fun hn216 => jv _ (V.nck rfl) <| jv _ (V.fad Tryz.underlying68 rfl nz66 rfl) <| J.front 2 rfl <| js1 [ii qb0, ii i184, ii i192, .slice (some ⟨b206, 0, none⟩) (([i200] : List Int).length) 1, nos, .slice ad214 l211.length cp215] sz66 rfl rfl rfl rfl rfl rfl <| J.nil ?_
   refine CJ.region <| jm _ rfl <| jm _ rfl ?_
   obtain ⟨r221, hr222, h⟩ := ob h
   refine J.front 2 rfl <| J.op rfl (A.call (L1 := [Cl pba 142 [.string ⟨qa0.toArray⟩, ii i212, ii i213]]) Tryz.call101 rfl (term_reader_list_p0i_sii_ok hr222) rfl rfl) ?_
   rintro _ _ _ ⟨v229, _, rfl, ⟨⟨l223, i224, i225, ad226, cp227, rfl, rfl, rfl⟩, rfl⟩, _, rfl⟩
   refine J.front 1 rfl <| J.wit Row.hn fun hn228 => jv _ (V.nck rfl) <| jv _ (V.fad Tryz.underlying68 rfl nz66 rfl) <| J.front 2 rfl <| js1 [ii qb0, ii i184, ii i192, .slice (some ⟨b206, 0, none⟩) (([i200] : List Int).length) 1, .slice ad226 l223.length cp227, .slice ad214 l211.length cp215] sz66 rfl rfl rfl rfl rfl rfl <| J.nil ?_
   obtain rfl := si h
   exact ⟨_, _, Res.zero rfl, ⟨i224, i225, i184, i192, ([i200] : List Int), l223, l211, (some ⟨b206, 0, none⟩), 1, ad226, cp227, ad214, cp215, rfl, rfl, rfl⟩, (Hp.le_refl _), fun w hs => (Sep.front 4 rfl (Sep.front 3 rfl (Sep.front 4 rfl (Sep.front 2 rfl (Sep.front 3 rfl hs)))))⟩
 refine CJ.region <| jm _ rfl <| jv _ (V.nck rfl) <| jv _ (V.fad Tryz.underlying142 rfl nz35 rfl) <| js1 [.string ⟨qa0.toArray⟩, ii qa1, ii 3] sz35 rfl rfl rfl rfl rfl rfl <| J.by (fun w hs => Sep.rowNil (e := 3) (t := (.int .i64)) hs) <| J.by (fun w hs => Sep.rowNil (e := 3) (t := (.int .i64)) hs) ?_
 refine J.by (fun w hs => Sep.rowNil (e := 3) (t := (.int .i64)) hs) <| J.nil ?_
 obtain rfl := si h
 exact ⟨_, _, Res.zero rfl, ⟨qa1, 3, qb1, qb2, [], [], [], none, 0, none, 0, none, 0, rfl, rfl, rfl⟩, (Hp.le_refl _), fun w hs => (Sep.front 4 rfl (Sep.front 4 rfl (Sep.front 2 rfl (Sep.front 1 rfl hs))))⟩

noncomputable def fn_term_Take (xa : (List UInt8)) : Option ((Int × Int × Int × (List Int) × (List Int) × (List Int) × Int × Int)) :=
  (fn_term_reader_number_p0_sii xa 0 0).bind fun (i115, i116, i117) => (cond (decide (i117 = 0)) ((fn_term_reader_fields_p0p1_sii_iiinnn xa i116 i117 i115 0 0).bind fun (i171, i172, i173, i174, l175, l176, l177) => some ((i171, i172, i173, i174, l175, l176, l177))) (some ((i116, i117, 0, 0, [], [], []))) : Option ((Int × Int × Int × Int × (List Int) × (List Int) × (List Int)))).bind fun (i147, i148, i149, i150, l151, l156, l161) => cond (!decide (i148 = 0)) (some ((0, 0, 0, [], [], [], 0, i148))) (some ((i115, i149, i150, l151, l156, l161, i147, 0)))
set_option maxRecDepth 100000 in
set_option maxHeartbeats 4000000 in
theorem term_Take_ok {K : Hp} {xa : (List UInt8)}   {r : (Int × Int × Int × (List Int) × (List Int) × (List Int) × Int × Int)} (h : fn_term_Take xa = some r) :
    Tr Tryz.prog 28 #[.string ⟨xa.toArray⟩] K [] (fun v K' L' => (∃ (i91 : Int) (i92 : Int) (i93 : Int) (l94 : (List Int)) (l99 : (List Int)) (l104 : (List Int)) (i109 : Int) (i110 : Int) (ad95 : Option Addr) (cp96 : Nat) (ad100 : Option Addr) (cp101 : Nat) (ad105 : Option Addr) (cp106 : Nat), (i91, i92, i93, l94, l99, l104, i109, i110) = r ∧ .tuple #[.agg #[ii i91, ii i92, ii i93, .slice ad95 l94.length cp96, .slice ad100 l99.length cp101, .slice ad105 l104.length cp106], ii i109, ii i110] = v ∧ L' = [Row Hp.nil 3 (.int .i64) (.slice ad95 l94.length cp96) l94, Row Hp.nil 3 (.int .i64) (.slice ad100 l99.length cp101) l99, Row Hp.nil 3 (.int .i64) (.slice ad105 l104.length cp106) l104]) ∧ K = K') := by
 refine Tr.k <| Tr.of Tryz.func28 rfl Tryz.ntmps28 rfl fun E F => ?_
 unfold fn_term_Take at h
 refine cr <| jal inf68 [ii 0, ii 0, ii 0, nos, nos, nos] rfl fun b111 => ja (ii 0) rfl <| ja (ii 0) rfl <| J.nil <| CJ.seq ?_
 refine CJ.region <| jm (.string ⟨xa.toArray⟩) rfl <| jv (.agg #[.string ⟨xa.toArray⟩, ii 0, ii 0]) (V.build inf142 places142 rfl rfl) <| jal inf142 [.string ⟨([] : List UInt8).toArray⟩, ii 0, ii 0] rfl fun b112 => js [.string ⟨xa.toArray⟩, ii 0, ii 0] sz142 rfl rfl rfl rfl rfl rfl <| J.nil <| CJ.seq ?_
 refine CJ.region ?_
 obtain ⟨r113, hr114, h⟩ := ob h
 refine J.op rfl (A.call (L1 := [Cl b112 142 [.string ⟨xa.toArray⟩, ii 0, ii 0]]) Tryz.call77 rfl (term_reader_number_p0_sii_ok hr114) rfl rfl) ?_
 rintro _ _ _ ⟨v118, _, rfl, ⟨⟨i115, i116, i117, rfl, rfl, rfl⟩, rfl⟩, _, rfl⟩
 refine jv (.agg #[ii i115, ii 0, ii 0, nos, nos, nos]) (V.build inf68 places68 rfl rfl) <| jal inf68 [ii 0, ii 0, ii 0, nos, nos, nos] rfl fun b121 => js [ii i115, ii 0, ii 0, nos, nos, nos] sz68 rfl rfl rfl rfl rfl rfl <| J.nil <| CJ.seq ?_
 obtain ⟨o166, ho167, h⟩ := ob h
 refine CJ.meetN (fun ρ K' L' => ∃ (i147 : Int) (i148 : Int) (i149 : Int) (i150 : Int) (l151 : (List Int)) (l156 : (List Int)) (l161 : (List Int)) (ad152 : Option Addr) (cp153 : Nat) (ad157 : Option Addr) (cp158 : Nat) (ad162 : Option Addr) (cp163 : Nat), (i147, i148, i149, i150, l151, l156, l161) = o166 ∧ Fits [(2, .pointer (some ⟨b111, 0, none⟩)), (5, .pointer (some ⟨b112, 0, none⟩)), (6, .pointer (some ⟨b121, 0, none⟩))] ρ ∧ K = K' ∧ L' = Cl b111 68 [ii 0, ii 0, ii 0, nos, nos, nos] :: Cl b112 142 [.string ⟨xa.toArray⟩, ii i147, ii i148] :: Cl b121 68 [ii i115, ii i149, ii i150, .slice ad152 l151.length cp153, .slice ad157 l156.length cp158, .slice ad162 l161.length cp163] :: Row Hp.nil 3 (.int .i64) (.slice ad152 l151.length cp153) l151 :: Row Hp.nil 3 (.int .i64) (.slice ad157 l156.length cp158) l156 :: Row Hp.nil 3 (.int .i64) (.slice ad162 l161.length cp163) l161 :: F) ?_ ?_
 · refine cr <| jv _ (V.fad Tryz.underlying142 rfl nz35 rfl) <| jv (ii i117) (V.ld rfl (Ld.sc sc35 (Rd.cl 1 rfl rfl))) <| jv (.bool (decide (i117 = 0))) (V.eql rfl rfl) <| J.nil <| cc rfl ho167 (fun hc168 ho167 => ?_) fun hc168 ho167 => ?_
   · refine CJ.region ?_
     obtain ⟨r169, hr170, ho167⟩ := ob ho167
     refine J.front 1 rfl <| J.op rfl (A.call (L1 := [Cl b112 142 [.string ⟨xa.toArray⟩, ii i116, ii i117], Cl b121 68 [ii i115, ii 0, ii 0, nos, nos, nos]]) Tryz.call78 rfl (term_reader_fields_p0p1_sii_iiinnn_ok hr170) rfl rfl) ?_
     rintro _ _ _ ⟨v187, _, rfl, ⟨⟨i171, i172, i173, i174, l175, l176, l177, ad178, cp179, ad180, cp181, ad182, cp183, rfl, rfl, rfl⟩, rfl⟩, _, rfl⟩
     refine J.front 2 rfl <| J.wit Row.hn fun hn184 => J.front 3 rfl <| J.wit Row.hn fun hn185 => J.front 4 rfl <| J.wit Row.hn fun hn186 => J.front 1 rfl ?_
     refine J.front 2 rfl <| J.front 4 rfl <| J.front 4 rfl <| J.front 5 rfl <| J.nil ?_
     obtain rfl := si ho167
     exact ⟨rfl, ⟨i171, i172, i173, i174, l175, l176, l177, ad178, cp179, ad180, cp181, ad182, cp183, rfl, ⟨rfl, rfl, rfl, trivial⟩, rfl, rfl⟩⟩
   refine CJ.by (fun w hs => Sep.rowNil (e := 3) (t := (.int .i64)) hs) <| CJ.by (fun w hs => Sep.rowNil (e := 3) (t := (.int .i64)) hs) <| CJ.by (fun w hs => Sep.rowNil (e := 3) (t := (.int .i64)) hs) <| CJ.front 1 rfl <| CJ.front 2 rfl <| CJ.front 3 rfl <| CJ.front 4 rfl ?_
   refine CJ.front 5 rfl <| CJ.skip ?_
   obtain rfl := si ho167
   exact ⟨rfl, ⟨i116, i117, 0, 0, [], [], [], none, 0, none, 0, none, 0, rfl, ⟨rfl, rfl, rfl, trivial⟩, rfl, rfl⟩⟩
 rintro ρ _ _ ⟨i147, i148, i149, i150, l151, l156, l161, ad152, cp153, ad157, cp158, ad162, cp163, rfl, hf196, rfl, rfl⟩
 obtain ⟨ρ, rfl⟩ := hf196.ex
 refine PJ.front 3 rfl <| PJ.wit Row.hn fun hn155 => PJ.front 4 rfl <| PJ.wit Row.hn fun hn160 => PJ.front 5 rfl <| PJ.wit Row.hn fun hn165 => PJ.done ?_
 refine CJ.seq <| cr <| jv _ (V.fad Tryz.underlying142 rfl nz35 rfl) <| jv (ii i148) (V.ld rfl (Ld.sc sc35 (Rd.cl 4 rfl rfl))) <| jv (.bool (!decide (i148 = 0))) (V.neq rfl rfl) <| J.nil ?_
 refine cc rfl h (fun hc198 h => ?_) fun hc198 h => ?_
 · refine CJ.seq <| CJ.mix [Row Hp.nil 3 (.int .i64) (.slice ad162 l161.length cp163) l161, Row Hp.nil 3 (.int .i64) (.slice ad157 l156.length cp158) l156, Row Hp.nil 3 (.int .i64) (.slice ad152 l151.length cp153) l151, Cl b111 68 [ii 0, ii 0, ii 0, nos, nos, nos], Cl b112 142 [.string ⟨xa.toArray⟩, ii i147, ii i148], Cl b121 68 [ii i115, ii i149, ii i150, .slice ad152 l151.length cp153, .slice ad157 l156.length cp158, .slice ad162 l161.length cp163]] [([0, 1, 2], 3)] [4, 5] [] mixO (by decide +kernel) ⟨0, rfl, 0, rfl, 0, rfl, 0, rfl, 0, rfl, 0, rfl, trivial⟩ rfl rfl rfl <| JM.cons <| qv (.agg #[ii 0, ii 0, ii 0, nos, nos, nos]) (V.build inf68 places68 rfl rfl) <| qv _ (V.fad Tryz.underlying142 rfl nz35 rfl) <| qv (ii i148) (V.ld rfl (Ld.sc sc35 (Rd.cl 4 rfl rfl))) <| JQ.nil ?_
   refine JA.front 3 rfl <| JA.op rfl (A.store (v := .agg #[ii 0, ii 0, ii 0, nos, nos, nos]) (cs' := [ii 0, ii 0, ii 0, nos, nos, nos]) sz68 rfl rfl rfl rfl rfl rfl) ?_
   rintro _ _ _ ⟨rfl, rfl, rfl⟩
   refine ⟨fun w hs => Hold.sub (Hp.le_refl _) ⟨1, rfl, 1, rfl, 1, rfl, 0, rfl, 0, rfl, 0, rfl, trivial⟩ hs, ?_⟩
   refine JM.nil <| qa (ii 0) rfl <| qa (ii i148) rfl <| JQ.nil <| J.nil <| CJ.by (fun w hs => Sep.rowNil (e := 3) (t := (.int .i64)) hs) <| CJ.by (fun w hs => Sep.rowNil (e := 3) (t := (.int .i64)) hs) ?_
   refine CJ.by (fun w hs => Sep.rowNil (e := 3) (t := (.int .i64)) hs) <| CJ.ret ?_
   obtain rfl := si h
   exact ⟨_, _, Res.three rfl ⟨_, _, rfl, Ld.agg (cs := [ii 0, ii 0, ii 0, nos, nos, nos]) Tryz.underlying68 sz68 rfl (Rd.cls 3 0 rfl rfl)⟩ rfl rfl, ⟨0, 0, 0, [], [], [], 0, i148, none, 0, none, 0, none, 0, rfl, rfl, rfl⟩, (Hp.le_refl _), fun w hs => (Sep.front 2 rfl (Sep.front 1 rfl (Sep.dropAt 3 rfl (Sep.dropAt 3 rfl (Sep.dropAt 3 rfl (Sep.dropAt 3 rfl (Sep.dropAt 3 rfl (Sep.dropAt 3 rfl hs))))))))⟩
 refine CJ.skip <| CJ.seq <| CJ.mix [Row Hp.nil 3 (.int .i64) (.slice ad162 l161.length cp163) l161, Row Hp.nil 3 (.int .i64) (.slice ad157 l156.length cp158) l156, Row Hp.nil 3 (.int .i64) (.slice ad152 l151.length cp153) l151, Cl b112 142 [.string ⟨xa.toArray⟩, ii i147, ii i148], Cl b121 68 [ii i115, ii i149, ii i150, .slice ad152 l151.length cp153, .slice ad157 l156.length cp158, .slice ad162 l161.length cp163]] [([0, 1, 2], 3)] [4, 5] [] mixO (by decide +kernel) ⟨0, rfl, 0, rfl, 0, rfl, 1, rfl, 1, rfl, trivial⟩ rfl rfl rfl <| JM.cons <| qv (.agg #[ii i115, ii i149, ii i150, .slice ad152 l151.length cp153, .slice ad157 l156.length cp158, .slice ad162 l161.length cp163]) (V.ld rfl (Ld.agg (cs := [ii i115, ii i149, ii i150, .slice ad152 l151.length cp153, .slice ad157 l156.length cp158, .slice ad162 l161.length cp163]) Tryz.underlying68 sz68 rfl (Rd.cls 4 0 rfl rfl))) <| qv _ (V.fad Tryz.underlying142 rfl nz3 rfl) <| qv (ii i147) (V.ld rfl (Ld.sc sc3 (Rd.cl 3 rfl rfl))) ?_
 refine JQ.nil <| JA.front 3 rfl <| JA.op rfl (A.store (v := .agg #[ii i115, ii i149, ii i150, .slice ad152 l151.length cp153, .slice ad157 l156.length cp158, .slice ad162 l161.length cp163]) (cs' := [ii i115, ii i149, ii i150, .slice ad152 l151.length cp153, .slice ad157 l156.length cp158, .slice ad162 l161.length cp163]) sz68 rfl rfl rfl rfl rfl rfl) ?_
 rintro _ _ _ ⟨rfl, rfl, rfl⟩
 refine ⟨fun w hs => Hold.sub (Hp.le_refl _) ⟨1, rfl, 1, rfl, 1, rfl, 1, rfl, 1, rfl, trivial⟩ hs, ?_⟩
 refine JM.nil <| qa (ii i147) rfl <| qa (ii 0) rfl <| JQ.nil <| J.nil <| CJ.ret ?_
 obtain rfl := si h
 exact ⟨_, _, Res.three rfl ⟨_, _, rfl, Ld.agg (cs := [ii i115, ii i149, ii i150, .slice ad152 l151.length cp153, .slice ad157 l156.length cp158, .slice ad162 l161.length cp163]) Tryz.underlying68 sz68 rfl (Rd.cls 0 0 rfl rfl)⟩ rfl rfl, ⟨i115, i149, i150, l151, l156, l161, i147, 0, ad152, cp153, ad157, cp158, ad162, cp163, rfl, rfl, rfl⟩, (Hp.le_refl _), fun w hs => (Sep.front 2 rfl (Sep.front 1 rfl (Sep.dropAt 3 rfl (Sep.dropAt 3 rfl (Sep.dropAt 0 rfl hs)))))⟩
end Go.Proofs.YtmdmdmaekjpfjaaGreat
