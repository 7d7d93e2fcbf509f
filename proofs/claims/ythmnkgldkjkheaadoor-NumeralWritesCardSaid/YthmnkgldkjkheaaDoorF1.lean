/- What Go functions answer: generated. -/
import Derived.Test.YthmnkgldkjkheaaDoorSh
import Derived.Test.YthmnkgldkjkheaaDoorRows
import Derived.Test.YthmnkgldkjkheaaDoorAw
import Derived.Test.YthmnkgldkjkheaaDoorBd
import Derived.Test.YthmnkgldkjkheaaDoorSt
namespace Go.Proofs.YthmnkgldkjkheaaDoor
open Go.RowKit
set_option linter.unusedVariables false
set_option linter.unnecessarySimpa false
set_option linter.unusedSimpArgs false
set_option maxRecDepth 20000
theorem sz9 : (Tryd.prog.info? 9).map (·.size) = some 1 := by kernel_rfl
theorem sc9 : scalar Tryd.prog 9 = true := by kernel_rfl
theorem inf3 : Inf Tryd.prog 3 (.int .i64 0) 1 8 := by unfold Inf; kernel_rfl
theorem inf23 : Inf Tryd.prog 23 (.agg #[.int .i64 0, .int .i64 0]) 2 16 := by unfold Inf; kernel_rfl
theorem places23 : Places Tryd.prog 23 [(0, 1), (1, 1)] := ⟨_, Tryd.underlying23, by kernel_rfl⟩
theorem nz3 : Tryd.prog.cellsOf 3 ≠ 0 := by decide +kernel
theorem sc3 : scalar Tryd.prog 3 = true := by kernel_rfl
theorem inf40 : Inf Tryd.prog 40 (.agg #[.int .u8 0, .int .u8 0, .int .u8 0, .int .u8 0, .int .u8 0, .int .u8 0, .int .u8 0, .int .u8 0, .int .u8 0, .int .u8 0, .int .u8 0, .int .u8 0, .int .u8 0, .int .u8 0, .int .u8 0, .int .u8 0, .int .u8 0, .int .u8 0, .int .u8 0, .int .u8 0]) 20 20 := by unfold Inf; kernel_rfl
theorem sz5 : (Tryd.prog.info? 5).map (·.size) = some 1 := by kernel_rfl
theorem mixO : Tryd.prog.follows .mixedOrders = true := by kernel_rfl
theorem sz23 : (Tryd.prog.info? 23).map (·.size) = some 2 := by kernel_rfl
theorem inf44 : Inf Tryd.prog 44 (.agg #[.pointer none, .slice none 0 0]) 2 32 := by unfold Inf; kernel_rfl
theorem sz3 : (Tryd.prog.info? 3).map (·.size) = some 1 := by kernel_rfl
theorem sih23 : Tryd.prog.stoodInHeld 23 = false := by kernel_rfl
theorem eqg23 : Tryd.prog.eqGuardType Tryd.prog.depth 23 = false := by kernel_rfl
noncomputable def fn_numeral_isNumber_l1 (xa : (List UInt8)) : Int → Option (Int ⊕ (Unit ⊕ Bool)) := fun (i307 : Int) => cond (decide (i307 < (((xa.length : Nat) : Int)))) ((getI xa i307).bind fun x335 => (cond (decide ((((x335.toNat : Nat) : Int)) < 48)) (some (true)) ((getI xa i307).bind fun x349 => some (decide (57 < (((x349.toNat : Nat) : Int)))))).bind fun t346 => cond (t346) (some (.inr ((.inr (false))))) (some (.inl (IntKind.wrap .i64 (i307 + 1))))) (some (.inr ((.inl ()))))
noncomputable def fn_numeral_isNumber (xa : (List UInt8)) : Option Bool :=
  (cond (decide (xa = ([] : List UInt8))) (some (true)) ((cond (decide (1 < (((xa.length : Nat) : Int)))) ((getI xa 0).bind fun x207 => some (decide ((((x207.toNat : Nat) : Int)) = 48))) (some (false))).bind fun t204 => some (t204))).bind fun t195 => cond (t195) (some (false)) ((loop (fn_numeral_isNumber_l1 xa) 0 : Option (Unit ⊕ Bool)).bind fun o => match o with | .inr r => some r | .inl () => some (true))
set_option maxRecDepth 100000 in
set_option maxHeartbeats 4000000 in
theorem numeral_isNumber_ok {K : Hp} {xa : (List UInt8)}   {r : Bool} (h : fn_numeral_isNumber xa = some r) :
    Tr Tryd.prog 23 #[.string ⟨xa.toArray⟩] K [] (fun v K' L' => (∃ (t179 : Bool), t179 = r ∧ .bool t179 = v ∧ L' = []) ∧ K = K') := by
 refine Tr.k <| Tr.of Tryd.func23 rfl Tryd.ntmps23 rfl fun E F => ?_
 unfold fn_numeral_isNumber at h
 refine cr <| ja (.bool false) rfl <| J.nil <| CJ.seq <| CJ.seq <| CJ.region ?_
 refine jm (.string ⟨xa.toArray⟩) rfl <| jv (.bool (decide (xa = ([] : List UInt8)))) (V.eqs rfl rfl) <| jm (.bool (decide (xa = ([] : List UInt8)))) rfl <| J.cut 9 ?_
 obtain ⟨t195, ht196, h⟩ := ob h
 refine jmeet [(15, .bool t195), (0, .string ⟨xa.toArray⟩)] ?_ ?_
 · rcases bt (decide (xa = ([] : List UInt8))) with hc197 | hc197
   · have ht196 := ct hc197 ht196
     refine J.skip rfl rfl rfl rfl hc197 <| J.skip rfl rfl rfl rfl hc197 <| J.skip rfl rfl rfl rfl hc197 <| J.skip rfl rfl rfl rfl hc197 <| J.skipu rfl rfl rfl rfl <| J.skipu rfl rfl rfl rfl <| J.skipu rfl rfl rfl rfl ?_
     refine J.skip rfl rfl rfl rfl hc197 <| jv (.bool true) (V.pickT rfl hc197 rfl) <| J.nil ?_
     obtain rfl := si ht196
     exact ⟨rfl, ⟨rfl, rfl, trivial⟩, rfl, rfl⟩
   have ht196 := cf hc197 ht196
   refine J.run rfl rfl rfl hc197 <| jm (.string ⟨xa.toArray⟩) rfl <| J.run rfl rfl rfl hc197 <| jv (ii (((xa.length : Nat) : Int))) (V.lens Tryd.underlying9 rfl) <| J.run rfl rfl rfl hc197 <| jv (.bool (decide (1 < (((xa.length : Nat) : Int))))) (V.gtr rfl rfl) <| J.run rfl rfl rfl hc197 ?_
   refine jm (.bool (decide (1 < (((xa.length : Nat) : Int))))) rfl <| J.cut 4 ?_
   obtain ⟨t204, ht205, ht196⟩ := ob ht196
   refine jmeet [(14, .bool t204), (0, .string ⟨xa.toArray⟩), (6, .bool (decide (xa = ([] : List UInt8))))] ?_ ?_
   · rcases bt (decide (1 < (((xa.length : Nat) : Int)))) with hc206 | hc206
     · have ht205 := ct hc206 ht205
       refine J.run rfl rfl rfl hc206 <| jm (.string ⟨xa.toArray⟩) rfl <| J.run rfl rfl rfl hc206 ?_
       obtain ⟨x207, hx208, ht205⟩ := ob ht205
       obtain ⟨p209, p210, p211⟩ := getI_some hx208
       refine jv (.int .u8 (((x207.toNat : Nat) : Int))) (V.ixs Tryd.underlying9 rfl rfl p209 p210) <| J.run rfl rfl rfl hc206 <| jv (.bool (decide ((((x207.toNat : Nat) : Int)) = 48))) (V.eql rfl rfl) <| J.run rfl rfl rfl hc197 <| jv (.bool (decide ((((x207.toNat : Nat) : Int)) = 48))) (V.pickT rfl hc206 rfl) <| J.nil ?_
       obtain rfl := si ht205
       exact ⟨rfl, ⟨rfl, rfl, rfl, trivial⟩, rfl, rfl⟩
     have ht205 := cf hc206 ht205
     refine J.skip rfl rfl rfl rfl hc206 <| J.skip rfl rfl rfl rfl hc206 <| J.skip rfl rfl rfl rfl hc206 <| J.run rfl rfl rfl hc197 <| jv (.bool false) (V.pickF rfl hc206 rfl) <| J.nil ?_
     obtain rfl := si ht205
     exact ⟨rfl, ⟨rfl, rfl, rfl, trivial⟩, rfl, rfl⟩
   intro ρ
   refine jv (.bool t204) (V.pickF rfl hc197 rfl) <| J.nil ?_
   obtain rfl := si ht196
   exact ⟨rfl, ⟨rfl, rfl, trivial⟩, rfl, rfl⟩
 intro ρ
 refine J.nil <| cc rfl h (fun hc212 h => ?_) fun hc212 h => ?_
 · refine cr <| ja (.bool false) rfl <| J.nil <| CJ.ret ?_
   obtain rfl := si h
   exact ⟨_, _, Res.one rfl rfl, ⟨false, rfl, rfl, rfl⟩, (Hp.le_refl _), fun w hs => hs⟩
 refine CJ.skip <| CJ.seq <| cr <| ja (ii 0) rfl <| J.nil ?_
 obtain ⟨o283, ho284, h⟩ := ob h
 refine CJ.joinN (o := o283) (fun s ρ K' L' => () = s ∧ Fits [] ρ ∧ K = K' ∧ F = L') ?_ ?_
 · refine CJ.block <| CJ.loop (fun s ρ K' L' => ∃ (i307 : Int), i307 = s ∧ Fits [(0, .string ⟨xa.toArray⟩), (3, ii i307)] ρ ∧ K = K' ∧ F = L') ho284 ⟨0, rfl, ⟨rfl, rfl, trivial⟩, rfl, rfl⟩ ?_
   rintro s ρ _ _ r333 ⟨i307, rfl, hf331, rfl, rfl⟩ h330
   obtain ⟨ρ, rfl⟩ := hf331.ex
   refine CJ.seq <| cr <| jm (ii i307) rfl <| jm (.string ⟨xa.toArray⟩) rfl <| jv (ii (((xa.length : Nat) : Int))) (V.lens Tryd.underlying9 rfl) <| jv (.bool (decide (i307 < (((xa.length : Nat) : Int))))) (V.lss rfl rfl) ?_
   refine J.nil <| cc rfl h330 (fun hc334 h330 => ?_) fun hc334 h330 => ?_
   · refine CJ.skip <| CJ.seq <| CJ.block <| cr <| jm (.string ⟨xa.toArray⟩) rfl <| jm (ii i307) rfl ?_
     obtain ⟨x335, hx336, h330⟩ := ob h330
     obtain ⟨p337, p338, p339⟩ := getI_some hx336
     refine jv (.int .u8 (((x335.toNat : Nat) : Int))) (V.ixs Tryd.underlying9 rfl rfl p337 p338) <| jv (.bool (decide ((((x335.toNat : Nat) : Int)) < 48))) (V.lss rfl rfl) <| jm (.bool (decide ((((x335.toNat : Nat) : Int)) < 48))) rfl <| J.cut 5 ?_
     obtain ⟨t346, ht347, h330⟩ := ob h330
     refine jmeet [(31, .bool t346), (0, .string ⟨xa.toArray⟩), (3, ii i307)] ?_ ?_
     · rcases bt (decide ((((x335.toNat : Nat) : Int)) < 48)) with hc348 | hc348
       · have ht347 := ct hc348 ht347
         refine J.skip rfl rfl rfl rfl hc348 <| J.skip rfl rfl rfl rfl hc348 <| J.skip rfl rfl rfl rfl hc348 <| J.skip rfl rfl rfl rfl hc348 <| jv (.bool true) (V.pickT rfl hc348 rfl) <| J.nil ?_
         obtain rfl := si ht347
         exact ⟨rfl, ⟨rfl, rfl, rfl, trivial⟩, rfl, rfl⟩
       have ht347 := cf hc348 ht347
       refine J.run rfl rfl rfl hc348 <| jm (.string ⟨xa.toArray⟩) rfl <| J.run rfl rfl rfl hc348 <| jm (ii i307) rfl <| J.run rfl rfl rfl hc348 ?_
       obtain ⟨x349, hx350, ht347⟩ := ob ht347
       obtain ⟨p351, p352, p353⟩ := getI_some hx350
       refine jv (.int .u8 (((x349.toNat : Nat) : Int))) (V.ixs Tryd.underlying9 rfl rfl p351 p352) <| J.run rfl rfl rfl hc348 <| jv (.bool (decide (57 < (((x349.toNat : Nat) : Int))))) (V.gtr rfl rfl) <| jv (.bool (decide (57 < (((x349.toNat : Nat) : Int))))) (V.pickF rfl hc348 rfl) <| J.nil ?_
       obtain rfl := si ht347
       exact ⟨rfl, ⟨rfl, rfl, rfl, trivial⟩, rfl, rfl⟩
     intro ρ
     refine J.nil <| cc rfl h330 (fun hc354 h330 => ?_) fun hc354 h330 => ?_
     · refine cr <| ja (.bool false) rfl <| J.nil <| CJ.ret ?_
       obtain rfl := si h330
       refine ⟨nofun, fun e => ?_⟩
       subst e
       refine .inr ⟨nofun, ?_⟩
       obtain rfl := si h
       exact ⟨_, _, Res.one rfl rfl, ⟨false, rfl, rfl, rfl⟩, (Hp.le_refl _), fun w hs => hs⟩
     refine CJ.skip <| CJ.region <| jm (ii i307) rfl <| jv (ii (IntKind.wrap .i64 (i307 + 1))) (V.add rfl rfl) <| ja (ii (IntKind.wrap .i64 (i307 + 1))) rfl <| J.nil ?_
     obtain rfl := si h330
     exact ⟨rfl, ⟨IntKind.wrap .i64 (i307 + 1), rfl, ⟨rfl, rfl, trivial⟩, rfl, rfl⟩⟩
   refine CJ.exit ?_
   obtain rfl := si h330
   refine ⟨nofun, fun e => ?_⟩
   subst e
   exact .inl ⟨rfl, _, rfl, ⟨rfl, trivial, rfl, rfl⟩⟩
 rintro s ρ _ _ ho355 ⟨rfl, hf356, rfl, rfl⟩
 subst ho355
 obtain ⟨ρ, rfl⟩ := hf356.ex
 refine PJ.done <| cr <| ja (.bool true) rfl <| J.nil <| CJ.ret ?_
 obtain rfl := si h
 exact ⟨_, _, Res.one rfl rfl, ⟨true, rfl, rfl, rfl⟩, (Hp.le_refl _), fun w hs => hs⟩
noncomputable def fn_numeral_Parse_l1 (xa : (List UInt8)) (xb : Int) : (Int × Int) → Option ((Int × Int) ⊕ (Int ⊕ (Int × Int))) := fun ((i160, i161) : (Int × Int)) => cond (decide (i161 < (((xa.length : Nat) : Int)))) ((getI xa i161).bind fun x179 => cond ((decide (xb < (IntKind.wrap .i64 (IntKind.wrap .u8 ((((x179.toNat : Nat) : Int)) - 48))))) || (decide ((IntKind.wrap .i64 (Int.tdiv (IntKind.wrap .i64 (xb - (IntKind.wrap .i64 (IntKind.wrap .u8 ((((x179.toNat : Nat) : Int)) - 48))))) 10)) < i160))) (some (.inr ((.inr ((0, 5)))))) (some (.inl ((IntKind.wrap .i64 ((IntKind.wrap .i64 (i160 * 10)) + (IntKind.wrap .i64 (IntKind.wrap .u8 ((((x179.toNat : Nat) : Int)) - 48)))), IntKind.wrap .i64 (i161 + 1)))))) (some (.inr (.inl i160)))
noncomputable def fn_numeral_Parse (xa : (List UInt8)) (xb : Int) : Option (Int × Int) :=
  (fn_numeral_isNumber xa).bind fun t100 => cond (!t100) (some ((0, 3))) ((loop (fn_numeral_Parse_l1 xa xb) (0, 0) : Option (Int ⊕ (Int × Int))).bind fun o => match o with | .inr r => some r | .inl i145 => some ((i145, 0)))
set_option maxRecDepth 100000 in
set_option maxHeartbeats 4000000 in
theorem numeral_Parse_ok {K : Hp} {xa : (List UInt8)} {xb : Int}   {r : (Int × Int)} (h : fn_numeral_Parse xa xb = some r) :
    Tr Tryd.prog 13 #[.string ⟨xa.toArray⟩, ii xb] K [] (fun v K' L' => (∃ (i96 : Int) (i97 : Int), (i96, i97) = r ∧ .tuple #[ii i96, ii i97] = v ∧ L' = []) ∧ K = K') := by
 refine Tr.k <| Tr.of Tryd.func13 rfl Tryd.ntmps13 rfl fun E F => ?_
 unfold fn_numeral_Parse at h
 refine cr <| ja (ii 0) rfl <| ja (ii 0) rfl <| J.nil <| CJ.seq <| CJ.seq ?_
 refine CJ.region <| jm (.string ⟨xa.toArray⟩) rfl ?_
 obtain ⟨r98, hr99, h⟩ := ob h
 refine J.op rfl (A.call (L1 := []) Tryd.call23 rfl (numeral_isNumber_ok hr99) rfl rfl) ?_
 rintro _ _ _ ⟨v101, _, rfl, ⟨⟨t100, rfl, rfl, rfl⟩, rfl⟩, _, rfl⟩
 refine jv (.bool (!t100)) (V.not rfl) <| J.nil <| cc rfl h (fun hc104 h => ?_) fun hc104 h => ?_
 · refine cr <| ja (ii 0) rfl <| ja (ii 3) rfl <| J.nil <| CJ.ret ?_
   obtain rfl := si h
   exact ⟨_, _, Res.two rfl rfl rfl, ⟨0, 3, rfl, rfl, rfl⟩, (Hp.le_refl _), fun w hs => hs⟩
 refine CJ.skip <| cr <| ja (ii 0) rfl <| J.nil <| CJ.seq <| CJ.seq ?_
 refine CJ.region <| ja (ii 0) rfl <| J.nil ?_
 obtain ⟨o146, ho147, h⟩ := ob h
 refine CJ.joinN (o := o146) (fun s ρ K' L' => ∃ (i145 : Int), i145 = s ∧ Fits [(6, ii i145)] ρ ∧ K = K' ∧ F = L') ?_ ?_
 · refine CJ.block <| CJ.loop (fun s ρ K' L' => ∃ (i160 : Int) (i161 : Int), (i160, i161) = s ∧ Fits [(0, .string ⟨xa.toArray⟩), (1, ii xb), (6, ii i160), (7, ii i161)] ρ ∧ K = K' ∧ F = L') ho147 ⟨0, 0, rfl, ⟨rfl, rfl, rfl, rfl, trivial⟩, rfl, rfl⟩ ?_
   rintro s ρ _ _ r177 ⟨i160, i161, rfl, hf175, rfl, rfl⟩ h174
   obtain ⟨ρ, rfl⟩ := hf175.ex
   refine CJ.seq <| cr <| jm (ii i161) rfl <| jm (.string ⟨xa.toArray⟩) rfl <| jv (ii (((xa.length : Nat) : Int))) (V.lens Tryd.underlying9 rfl) <| jv (.bool (decide (i161 < (((xa.length : Nat) : Int))))) (V.lss rfl rfl) ?_
   refine J.nil <| cc rfl h174 (fun hc178 h174 => ?_) fun hc178 h174 => ?_
   · refine CJ.skip <| CJ.seq <| CJ.block <| cr <| jm (.string ⟨xa.toArray⟩) rfl <| jm (ii i161) rfl ?_
     obtain ⟨x179, hx180, h174⟩ := ob h174
     obtain ⟨p181, p182, p183⟩ := getI_some hx180
     refine jv (.int .u8 (((x179.toNat : Nat) : Int))) (V.ixs Tryd.underlying9 rfl rfl p181 p182) <| jv (.int .u8 (IntKind.wrap .u8 ((((x179.toNat : Nat) : Int)) - 48))) (V.sub rfl rfl) <| jv (ii (IntKind.wrap .i64 (IntKind.wrap .u8 ((((x179.toNat : Nat) : Int)) - 48)))) (V.conv Tryd.underlying5 Tryd.underlying3 rfl) <| ja (ii (IntKind.wrap .i64 (IntKind.wrap .u8 ((((x179.toNat : Nat) : Int)) - 48)))) rfl <| J.nil <| CJ.seq <| CJ.seq ?_
     refine CJ.region <| jm (ii (IntKind.wrap .i64 (IntKind.wrap .u8 ((((x179.toNat : Nat) : Int)) - 48)))) rfl <| jm (ii xb) rfl <| jv (.bool (decide (xb < (IntKind.wrap .i64 (IntKind.wrap .u8 ((((x179.toNat : Nat) : Int)) - 48)))))) (V.gtr rfl rfl) <| jm (.bool (decide (xb < (IntKind.wrap .i64 (IntKind.wrap .u8 ((((x179.toNat : Nat) : Int)) - 48)))))) rfl <| J.cut 7 <| jmeet [(33, .bool ((decide (xb < (IntKind.wrap .i64 (IntKind.wrap .u8 ((((x179.toNat : Nat) : Int)) - 48))))) || (decide ((IntKind.wrap .i64 (Int.tdiv (IntKind.wrap .i64 (xb - (IntKind.wrap .i64 (IntKind.wrap .u8 ((((x179.toNat : Nat) : Int)) - 48))))) 10)) < i160)))), (0, .string ⟨xa.toArray⟩), (1, ii xb), (6, ii i160), (7, ii i161), (8, ii (IntKind.wrap .i64 (IntKind.wrap .u8 ((((x179.toNat : Nat) : Int)) - 48))))] ?_ ?_
     · rcases bt (decide (xb < (IntKind.wrap .i64 (IntKind.wrap .u8 ((((x179.toNat : Nat) : Int)) - 48))))) with hc186 | hc186
       · refine J.skip rfl rfl rfl rfl hc186 <| J.skip rfl rfl rfl rfl hc186 <| J.skip rfl rfl rfl rfl hc186 <| J.skip rfl rfl rfl rfl hc186 <| J.skip rfl rfl rfl rfl hc186 <| J.skip rfl rfl rfl rfl hc186 <| jv (.bool true) (V.pickT rfl hc186 rfl) ?_
         refine J.nil ?_
         exact ⟨rfl, ⟨(by simp only [hc186]; rfl), rfl, rfl, rfl, rfl, rfl, trivial⟩, rfl, rfl⟩
       refine J.run rfl rfl rfl hc186 <| jm (ii i160) rfl <| J.run rfl rfl rfl hc186 <| jm (ii xb) rfl <| J.run rfl rfl rfl hc186 <| jm (ii (IntKind.wrap .i64 (IntKind.wrap .u8 ((((x179.toNat : Nat) : Int)) - 48)))) rfl <| J.run rfl rfl rfl hc186 ?_
       refine jv (ii (IntKind.wrap .i64 (xb - (IntKind.wrap .i64 (IntKind.wrap .u8 ((((x179.toNat : Nat) : Int)) - 48)))))) (V.sub rfl rfl) <| J.run rfl rfl rfl hc186 <| jv (ii (IntKind.wrap .i64 (Int.tdiv (IntKind.wrap .i64 (xb - (IntKind.wrap .i64 (IntKind.wrap .u8 ((((x179.toNat : Nat) : Int)) - 48))))) 10))) (V.quo rfl rfl (by decide)) <| J.run rfl rfl rfl hc186 <| jv (.bool (decide ((IntKind.wrap .i64 (Int.tdiv (IntKind.wrap .i64 (xb - (IntKind.wrap .i64 (IntKind.wrap .u8 ((((x179.toNat : Nat) : Int)) - 48))))) 10)) < i160))) (V.gtr rfl rfl) <| jv (.bool (decide ((IntKind.wrap .i64 (Int.tdiv (IntKind.wrap .i64 (xb - (IntKind.wrap .i64 (IntKind.wrap .u8 ((((x179.toNat : Nat) : Int)) - 48))))) 10)) < i160))) (V.pickF rfl hc186 rfl) <| J.nil ?_
       exact ⟨rfl, ⟨(by simp only [hc186]; rfl), rfl, rfl, rfl, rfl, rfl, trivial⟩, rfl, rfl⟩
     intro ρ
     refine J.nil <| cc rfl h174 (fun hc187 h174 => ?_) fun hc187 h174 => ?_
     · refine cr <| ja (ii 0) rfl <| ja (ii 5) rfl <| J.nil <| CJ.ret ?_
       obtain rfl := si h174
       refine ⟨nofun, fun e => ?_⟩
       subst e
       refine .inr ⟨nofun, ?_⟩
       obtain rfl := si h
       exact ⟨_, _, Res.two rfl rfl rfl, ⟨0, 5, rfl, rfl, rfl⟩, (Hp.le_refl _), fun w hs => hs⟩
     refine CJ.skip <| CJ.region <| jm (ii i160) rfl <| jv (ii (IntKind.wrap .i64 (i160 * 10))) (V.mul rfl rfl) <| jm (ii (IntKind.wrap .i64 (IntKind.wrap .u8 ((((x179.toNat : Nat) : Int)) - 48)))) rfl <| jv (ii (IntKind.wrap .i64 ((IntKind.wrap .i64 (i160 * 10)) + (IntKind.wrap .i64 (IntKind.wrap .u8 ((((x179.toNat : Nat) : Int)) - 48)))))) (V.add rfl rfl) <| ja (ii (IntKind.wrap .i64 ((IntKind.wrap .i64 (i160 * 10)) + (IntKind.wrap .i64 (IntKind.wrap .u8 ((((x179.toNat : Nat) : Int)) - 48)))))) rfl ?_
     refine J.nil <| CJ.region <| jm (ii i161) rfl <| jv (ii (IntKind.wrap .i64 (i161 + 1))) (V.add rfl rfl) <| ja (ii (IntKind.wrap .i64 (i161 + 1))) rfl <| J.nil ?_
     obtain rfl := si h174
     exact ⟨rfl, ⟨IntKind.wrap .i64 ((IntKind.wrap .i64 (i160 * 10)) + (IntKind.wrap .i64 (IntKind.wrap .u8 ((((x179.toNat : Nat) : Int)) - 48)))), IntKind.wrap .i64 (i161 + 1), rfl, ⟨rfl, rfl, rfl, rfl, trivial⟩, rfl, rfl⟩⟩
   refine CJ.exit ?_
   obtain rfl := si h174
   refine ⟨nofun, fun e => ?_⟩
   subst e
   exact .inl ⟨rfl, _, rfl, ⟨i160, rfl, ⟨rfl, trivial⟩, rfl, rfl⟩⟩
 rintro s ρ _ _ ho188 ⟨i145, rfl, hf189, rfl, rfl⟩
 subst ho188
 obtain ⟨ρ, rfl⟩ := hf189.ex
 refine PJ.done <| cr <| jm (ii i145) rfl <| ja (ii i145) rfl <| ja (ii 0) rfl <| J.nil ?_
 refine CJ.ret ?_
 obtain rfl := si h
 exact ⟨_, _, Res.two rfl rfl rfl, ⟨i145, 0, rfl, rfl, rfl⟩, (Hp.le_refl _), fun w hs => hs⟩
noncomputable def fn_numeral_ParseList_l1 (xb : Int) (l232 : List (List UInt8)) : ((List Int) × Int) → Option (((List Int) × Int) ⊕ ((List Int) ⊕ ((List Int) × Int))) := fun ((l380, i385) : ((List Int) × Int)) => cond (decide (i385 < (((l232.length : Nat) : Int)))) ((getI l232 i385).bind fun x423 => (fn_numeral_Parse x423 xb).bind fun (i432, i433) => cond (!decide (i433 = 0)) (some (.inr ((.inr (([], i433)))))) ((app l380 ([i432] : List Int)).bind fun z442 => some (.inl ((z442, IntKind.wrap .i64 (i385 + 1)))))) (some (.inr (.inl l380)))
noncomputable def fn_numeral_ParseList (xa : (List UInt8)) (xb : Int) : Option (((List Int) × Int)) :=
  cond (decide (xa = ([] : List UInt8))) (some (([], 0))) ((splF xa ([44] : List UInt8)).bind fun l232 => (loop (fn_numeral_ParseList_l1 xb l232) ([], 0) : Option ((List Int) ⊕ ((List Int) × Int))).bind fun o => match o with | .inr r => some r | .inl l340 => some ((l340, 0)))
set_option maxRecDepth 100000 in
set_option maxHeartbeats 4000000 in
theorem numeral_ParseList_ok {K : Hp} {xa : (List UInt8)} {xb : Int}  (fG : Gk K) {r : ((List Int) × Int)} (h : fn_numeral_ParseList xa xb = some r) :
    Tr Tryd.prog 17 #[.string ⟨xa.toArray⟩, ii xb] K [] (fun v K' L' => (∃ (l222 : (List Int)) (i227 : Int) (ad223 : Option Addr) (cp224 : Nat), (l222, i227) = r ∧ .tuple #[.slice ad223 l222.length cp224, ii i227] = v ∧ L' = [Row Hp.nil 3 (.int .i64) (.slice ad223 l222.length cp224) l222]) ∧ K = K') := by
 refine Tr.k <| Tr.of Tryd.func17 rfl Tryd.ntmps17 rfl fun E F => ?_
 unfold fn_numeral_ParseList at h
 refine cr <| ja (nos) rfl <| ja (ii 0) rfl <| J.nil <| CJ.seq <| CJ.seq ?_
 refine CJ.region <| jm (.string ⟨xa.toArray⟩) rfl <| jv (.bool (decide (xa = ([] : List UInt8)))) (V.eqs rfl rfl) <| J.nil <| cc rfl h (fun hc228 h => ?_) fun hc228 h => ?_
 · refine cr <| ja (nos) rfl <| ja (ii 0) rfl <| J.nil <| CJ.by (fun w hs => Sep.rowNil (e := 3) (t := (.int .i64)) hs) <| CJ.ret ?_
   obtain rfl := si h
   exact ⟨_, _, Res.two rfl rfl rfl, ⟨[], 0, none, 0, rfl, rfl, rfl⟩, (Hp.le_refl _), fun w hs => hs⟩
 refine CJ.skip <| cr <| ja (nos) rfl <| J.nil <| CJ.seq <| CJ.seq ?_
 refine CJ.region <| jm (.string ⟨xa.toArray⟩) rfl ?_
 obtain ⟨r230, hr231, h⟩ := ob h
 refine J.op rfl (A.call (L1 := []) Tryd.call26 rfl (strings_Split_ok fG hr231) rfl rfl) ?_
 rintro _ _ _ ⟨v236, _, rfl, ⟨⟨l232, ad233, cp234, rfl, rfl, rfl⟩, rfl⟩, _, rfl⟩
 refine J.wit Row.hn fun hn235 => jv (ii (((l232.length : Nat) : Int))) (V.len Tryd.underlying54 rfl) <| jm (ii 0) rfl <| J.nil ?_
 obtain ⟨o345, ho346, h⟩ := ob h
 refine CJ.joinN (o := o345) (fun s ρ K' L' => ∃ (l340 : (List Int)) (ad341 : Option Addr) (cp342 : Nat), l340 = s ∧ Fits [(6, .slice ad341 l340.length cp342)] ρ ∧ K = K' ∧ L' = Row Hp.nil 3 (.int .i64) (.slice ad341 l340.length cp342) l340 :: F) ?_ ?_
 · refine CJ.block <| CJ.by (fun w hs => Sep.rowNil (e := 3) (t := (.int .i64)) hs) <| CJ.front 1 rfl <| CJ.loop (fun s ρ K' L' => ∃ (l380 : (List Int)) (i385 : Int) (ad381 : Option Addr) (cp382 : Nat), (l380, i385) = s ∧ Fits [(1, ii xb), (6, .slice ad381 l380.length cp382), (14, .slice ad233 l232.length cp234), (15, ii (((l232.length : Nat) : Int))), (16, ii i385)] ρ ∧ K = K' ∧ L' = Row Hp.nil 9 .str (.slice ad233 l232.length cp234) l232 :: Row Hp.nil 3 (.int .i64) (.slice ad381 l380.length cp382) l380 :: F) ho346 ⟨[], 0, none, 0, rfl, ⟨rfl, rfl, rfl, rfl, rfl, trivial⟩, rfl, rfl⟩ ?_
   rintro s ρ _ _ r421 ⟨l380, i385, ad381, cp382, rfl, hf419, rfl, rfl⟩ h417
   obtain ⟨ρ, rfl⟩ := hf419.ex
   refine CJ.front 1 rfl <| CJ.wit Row.hn fun hn384 => cr <| jv (.bool (decide (i385 < (((l232.length : Nat) : Int))))) (V.lss rfl rfl) <| J.nil <| CJ.seq ?_
   refine cc rfl h417 (fun hc422 h417 => ?_) fun hc422 h417 => ?_
   · refine CJ.skip <| CJ.seq <| CJ.block <| CJ.seq <| CJ.region ?_
     obtain ⟨x423, hx424, h417⟩ := ob h417
     obtain ⟨p425, p426, p427⟩ := getI_some hx424
     obtain ⟨g428, e429⟩ := hn235 (fun e => by rw [e] at p426; simp at p426)
     refine jv _ (V.iad Tryd.underlying54 sz9 rfl e429 rfl p425 p427) <| jv (.string ⟨x423.toArray⟩) (V.ld rfl (Ld.sc sc9 (Rd.row 1 rfl e429 p426 (q := 0) (by simp [Tp.size]) (by decide) (by rintro _ rfl; rfl)))) <| ja (.string ⟨x423.toArray⟩) rfl <| J.nil <| cr <| jm (.string ⟨x423.toArray⟩) rfl ?_
     refine jm (ii xb) rfl ?_
     obtain ⟨r430, hr431, h417⟩ := ob h417
     refine J.op rfl (A.call (L1 := []) Tryd.call13 rfl (numeral_Parse_ok hr431) rfl rfl) ?_
     rintro _ _ _ ⟨v434, _, rfl, ⟨⟨i432, i433, rfl, rfl, rfl⟩, rfl⟩, _, rfl⟩
     refine jm (.tuple #[ii i432, ii i433]) rfl <| jx (ii i432) rfl rfl <| jx (ii i433) rfl rfl <| ja (ii i432) rfl <| ja (ii i433) rfl <| J.nil <| CJ.seq ?_
     refine cr <| jm (ii i433) rfl <| jv (.bool (!decide (i433 = 0))) (V.neq rfl rfl) <| J.nil <| cc rfl h417 (fun hc437 h417 => ?_) fun hc437 h417 => ?_
     · refine cr <| jm (ii i433) rfl <| ja (nos) rfl <| ja (ii i433) rfl <| J.nil <| CJ.by (fun w hs => Sep.rowNil (e := 3) (t := (.int .i64)) hs) ?_
       refine CJ.ret ?_
       obtain rfl := si h417
       refine ⟨nofun, fun e => ?_⟩
       subst e
       refine .inr ⟨nofun, ?_⟩
       obtain rfl := si h
       exact ⟨_, _, Res.two rfl rfl rfl, ⟨[], i433, none, 0, rfl, rfl, rfl⟩, (Hp.le_refl _), fun w hs => (Sep.dropAt 1 rfl (Sep.dropAt 1 rfl hs))⟩
     refine CJ.skip <| CJ.region <| jm (.slice ad381 l380.length cp382) rfl <| jm (ii i432) rfl ?_
     refine J.op rfl (A.lit (K0 := Hp.nil) (ty := (.int .i64)) (xs := ([i432] : List Int)) Tryd.underlying24 inf3 rfl (by decide) rfl rfl rfl ⟨_, _, rfl, rfl, rfl⟩ rfl (by decide)) ?_
     rintro _ _ _ ⟨b439, rfl, rfl, rfl⟩
     have hn440 : ([i432] : List Int) ≠ [] → ∃ g, (some ⟨b439, 0, none⟩ : Option Addr) = some ⟨g, 0, none⟩ := fun _ => ⟨b439, rfl⟩
     obtain ⟨z442, hz443, h417⟩ := ob h417
     refine J.front 1 rfl <| J.op rfl (A.appR (Kr := Hp.nil) Tryd.underlying24 inf3 rfl rfl (by decide) (by decide) rfl rfl (Els.flat rfl) (Els.flat rfl) hz443) ?_
     rintro _ _ _ ⟨v444, rfl, rfl, rfl⟩
     refine J.wit Row.form ?_
     rintro ⟨ad445, cp446, rfl, _, _, hn447⟩
     refine ja (.slice ad445 z442.length cp446) rfl <| J.nil <| CJ.region <| jv (ii (IntKind.wrap .i64 (i385 + 1))) (V.add rfl rfl) <| jm (ii (IntKind.wrap .i64 (i385 + 1))) rfl <| J.front 1 rfl <| J.nil ?_
     obtain rfl := si h417
     exact ⟨rfl, ⟨z442, IntKind.wrap .i64 (i385 + 1), ad445, cp446, rfl, ⟨rfl, rfl, rfl, rfl, rfl, trivial⟩, rfl, rfl⟩⟩
   refine CJ.dropAt 1 rfl <| CJ.exit ?_
   obtain rfl := si h417
   refine ⟨nofun, fun e => ?_⟩
   subst e
   exact .inl ⟨rfl, _, rfl, ⟨l380, ad381, cp382, rfl, ⟨rfl, trivial⟩, rfl, rfl⟩⟩
 rintro s ρ _ _ ho448 ⟨l340, ad341, cp342, rfl, hf449, rfl, rfl⟩
 subst ho448
 obtain ⟨ρ, rfl⟩ := hf449.ex
 refine PJ.wit Row.hn fun hn344 => PJ.done <| cr <| jm (.slice ad341 l340.length cp342) rfl <| ja (.slice ad341 l340.length cp342) rfl <| ja (ii 0) rfl ?_
 refine J.nil <| CJ.ret ?_
 obtain rfl := si h
 exact ⟨_, _, Res.two rfl rfl rfl, ⟨l340, 0, ad341, cp342, rfl, rfl, rfl⟩, (Hp.le_refl _), fun w hs => hs⟩
noncomputable def fn_numeral_Text_l1  : (Int × (List Int) × Int) → Option ((Int × (List Int) × Int) ⊕ List UInt8) := fun ((i262, l263, i266) : (Int × (List Int) × Int)) => (getI l263 (IntKind.wrap .i64 (i266 - 1))).bind fun x295 => (some (l263.set (IntKind.wrap .i64 (i266 - 1)).toNat (IntKind.wrap .u8 (IntKind.wrap .i64 (48 + (Int.tmod i262 10)))))).bind fun z300 => cond (decide ((IntKind.wrap .i64 (Int.tdiv i262 10)) = 0)) ((subL z300 (IntKind.wrap .i64 (i266 - 1)) (((20 : Nat) : Int))).bind fun y308 => some (.inr (toU8 y308))) (some (.inl ((IntKind.wrap .i64 (Int.tdiv i262 10), z300, IntKind.wrap .i64 (i266 - 1)))))
noncomputable def fn_numeral_Text (xa : Int) : Option (List UInt8) :=
  cond (decide (xa < 0)) (some (([] : List UInt8))) (loop (fn_numeral_Text_l1) ((xa, ([0, 0, 0, 0, 0, 0, 0, 0, 0, 0, 0, 0, 0, 0, 0, 0, 0, 0, 0, 0] : List Int), 20)))
set_option maxRecDepth 100000 in
set_option maxHeartbeats 4000000 in
theorem numeral_Text_ok {K : Hp} {xa : Int}   {r : List UInt8} (h : fn_numeral_Text xa = some r) :
    Tr Tryd.prog 7 #[ii xa] K [] (fun v K' L' => (∃ (s157 : List UInt8), s157 = r ∧ .string ⟨s157.toArray⟩ = v ∧ L' = []) ∧ K = K') := by
 refine Tr.k <| Tr.of Tryd.func7 rfl Tryd.ntmps7 rfl fun E F => ?_
 unfold fn_numeral_Text at h
 refine cr <| ja (.string ⟨([] : List UInt8).toArray⟩) rfl <| J.nil <| CJ.seq <| CJ.seq <| CJ.region ?_
 refine jm (ii xa) rfl <| jv (.bool (decide (xa < 0))) (V.lss rfl rfl) <| J.nil <| cc rfl h (fun hc158 h => ?_) fun hc158 h => ?_
 · refine cr <| ja (.string ⟨([] : List UInt8).toArray⟩) rfl <| J.nil <| CJ.ret ?_
   obtain rfl := si h
   exact ⟨_, _, Res.one rfl rfl, ⟨([] : List UInt8), rfl, rfl, rfl⟩, (Hp.le_refl _), fun w hs => hs⟩
 refine CJ.skip <| cr <| jal inf40 [.int .u8 0, .int .u8 0, .int .u8 0, .int .u8 0, .int .u8 0, .int .u8 0, .int .u8 0, .int .u8 0, .int .u8 0, .int .u8 0, .int .u8 0, .int .u8 0, .int .u8 0, .int .u8 0, .int .u8 0, .int .u8 0, .int .u8 0, .int .u8 0, .int .u8 0, .int .u8 0] rfl fun b159 => ?_
 have hl160 : ([0, 0, 0, 0, 0, 0, 0, 0, 0, 0, 0, 0, 0, 0, 0, 0, 0, 0, 0, 0] : List Int).length = 20 := rfl
 refine J.by (fun w hs => Sep.arr (t := (.int .u8)) (xs := ([0, 0, 0, 0, 0, 0, 0, 0, 0, 0, 0, 0, 0, 0, 0, 0, 0, 0, 0, 0] : List Int)) ⟨_, _, rfl, rfl, ⟨_, _, rfl, rfl, ⟨_, _, rfl, rfl, ⟨_, _, rfl, rfl, ⟨_, _, rfl, rfl, ⟨_, _, rfl, rfl, ⟨_, _, rfl, rfl, ⟨_, _, rfl, rfl, ⟨_, _, rfl, rfl, ⟨_, _, rfl, rfl, ⟨_, _, rfl, rfl, ⟨_, _, rfl, rfl, ⟨_, _, rfl, rfl, ⟨_, _, rfl, rfl, ⟨_, _, rfl, rfl, ⟨_, _, rfl, rfl, ⟨_, _, rfl, rfl, ⟨_, _, rfl, rfl, ⟨_, _, rfl, rfl, ⟨_, _, rfl, rfl, rfl⟩⟩⟩⟩⟩⟩⟩⟩⟩⟩⟩⟩⟩⟩⟩⟩⟩⟩⟩⟩ hl160 rfl hs) <| J.nil <| cr <| ja (ii 20) rfl <| J.nil <| CJ.block ?_
 refine CJ.loop (fun s ρ K' L' => ∃ (i262 : Int) (l263 : (List Int)) (i266 : Int), (i262, l263, i266) = s ∧ Fits [(0, ii i262), (3, .pointer (some ⟨b159, 0, none⟩)), (4, ii i266)] ρ ∧ K = K' ∧ L' = Row Hp.nil 40 (.int .u8) (.slice (some ⟨b159, 0, none⟩) 20 20) l263 :: F) h ⟨xa, ([0, 0, 0, 0, 0, 0, 0, 0, 0, 0, 0, 0, 0, 0, 0, 0, 0, 0, 0, 0] : List Int), 20, rfl, ⟨rfl, rfl, rfl, trivial⟩, rfl, rfl⟩ ?_
 rintro s ρ _ _ r294 ⟨i262, l263, i266, rfl, hf292, rfl, rfl⟩ h291
 obtain ⟨ρ, rfl⟩ := hf292.ex
 refine CJ.wit Row.len fun hl265 => CJ.block <| cr <| jm (ii i266) rfl <| jv (ii (IntKind.wrap .i64 (i266 - 1))) (V.sub rfl rfl) <| ja (ii (IntKind.wrap .i64 (i266 - 1))) rfl ?_
 refine J.nil <| cr <| jm (ii (IntKind.wrap .i64 (i266 - 1))) rfl <| jm (ii i262) rfl <| jv (ii (Int.tmod i262 10)) (V.rem rfl rfl (by decide)) <| jv (ii (IntKind.wrap .i64 (48 + (Int.tmod i262 10)))) (V.add rfl rfl) ?_
 refine jv (.int .u8 (IntKind.wrap .u8 (IntKind.wrap .i64 (48 + (Int.tmod i262 10))))) (V.conv Tryd.underlying3 Tryd.underlying5 rfl) ?_
 obtain ⟨x295, hx296, h291⟩ := ob h291
 obtain ⟨p297, p298, p299⟩ := getI_some hx296
 refine jv _ (V.iadA Tryd.underlying40 sz5 rfl rfl p297 (lt_cap p299 hl265)) ?_
 obtain ⟨z300, hz301, h291⟩ := ob h291
 have e302 := Option.some.inj hz301
 have hl303 : z300.length = 20 := by rw [← e302, List.length_set]; exact hl265
 refine J.op rfl (A.storeR (ty := (.int .u8)) (q := 0) (y0 := IntKind.wrap .u8 (IntKind.wrap .i64 (48 + (Int.tmod i262 10)))) (zs := z300) sz5 rfl rfl rfl rfl rfl p298 (by simp [Tp.size]) (by decide) (by rintro _ rfl; exact rfl) e302) ?_
 rintro _ _ _ ⟨rfl, rfl, rfl⟩
 refine J.nil <| cr <| jm (ii i262) rfl <| jv (ii (IntKind.wrap .i64 (Int.tdiv i262 10))) (V.quo rfl rfl (by decide)) <| ja (ii (IntKind.wrap .i64 (Int.tdiv i262 10))) rfl <| J.nil ?_
 refine cr <| jm (ii (IntKind.wrap .i64 (Int.tdiv i262 10))) rfl <| jv (.bool (decide ((IntKind.wrap .i64 (Int.tdiv i262 10)) = 0))) (V.eql rfl rfl) <| J.nil <| cc rfl h291 (fun hc304 h291 => ?_) fun hc304 h291 => ?_
 · refine cr <| jm (ii (IntKind.wrap .i64 (i266 - 1))) rfl <| J.persist (Hp.nil_le _) (by decide) fun K305 hK306 f307 => ?_
   obtain ⟨y308, hy309, h291⟩ := ob h291
   obtain ⟨ad310, cp311, hv312, f313⟩ := V.subA (tp := (.int .u8)) Tryd.underlying40 sz5 hl303 f307 hy309
   refine jv (.slice ad310 y308.length cp311) (hv312 rfl (fun _ h => by cases h; exact ⟨_, rfl⟩) nofun nofun (fun _ => rfl)) <| jv (.string ⟨(toU8 y308).toArray⟩) (V.b2sK Tryd.underlying41 Tryd.underlying5 Tryd.underlying9 rfl f313 (Hp.le_refl _)) <| ja (.string ⟨(toU8 y308).toArray⟩) rfl <| J.nil <| CJ.ret ?_
   obtain rfl := si h291
   refine ⟨nofun, fun e => ?_⟩
   subst e
   exact ⟨_, _, Res.one rfl rfl, ⟨toU8 y308, rfl, rfl, rfl⟩, hK306, fun w hs => hs⟩
 refine CJ.skip ?_
 obtain rfl := si h291
 exact ⟨rfl, ⟨IntKind.wrap .i64 (Int.tdiv i262 10), z300, IntKind.wrap .i64 (i266 - 1), rfl, ⟨rfl, rfl, rfl, trivial⟩, rfl, rfl⟩⟩

noncomputable def fn_numeral_Pair (xa : (Int × Int)) : Option (List UInt8) :=
  cond ((decide (xa.1 < 0)) || (decide (xa.2 < 0))) (some (([] : List UInt8))) ((fn_numeral_Text xa.1).bind fun s62 => (app s62 ([58] : List UInt8)).bind fun z66 => (fn_numeral_Text xa.2).bind fun s70 => (app z66 s70).bind fun z74 => some (z74))
set_option maxRecDepth 100000 in
set_option maxHeartbeats 4000000 in
theorem numeral_Pair_ok {K : Hp} {xa : (Int × Int)}   {r : List UInt8} (h : fn_numeral_Pair xa = some r) :
    Tr Tryd.prog 9 #[.agg #[ii xa.1, ii xa.2]] K [] (fun v K' L' => (∃ (s38 : List UInt8), s38 = r ∧ .string ⟨s38.toArray⟩ = v ∧ L' = []) ∧ K = K') := by
 refine Tr.k <| Tr.of Tryd.func9 rfl Tryd.ntmps9 rfl fun E F => ?_
 unfold fn_numeral_Pair at h
 refine cr <| jbx [ii xa.1, ii xa.2] rfl rfl fun b39 => ja (.string ⟨([] : List UInt8).toArray⟩) rfl <| J.nil <| CJ.seq <| CJ.seq ?_
 refine CJ.region <| jv _ (V.fad Tryd.underlying23 rfl nz3 rfl) <| jv (ii xa.1) (V.ld rfl (Ld.sc sc3 (Rd.cl 0 rfl rfl))) <| jv (.bool (decide (xa.1 < 0))) (V.lss rfl rfl) <| jm (.bool (decide (xa.1 < 0))) rfl <| J.cut 4 <| jmeet [(10, .bool ((decide (xa.1 < 0)) || (decide (xa.2 < 0)))), (1, .pointer (some ⟨b39, 0, none⟩))] ?_ ?_
 · rcases bt (decide (xa.1 < 0)) with hc42 | hc42
   · refine J.skip rfl rfl rfl rfl hc42 <| J.skip rfl rfl rfl rfl hc42 <| J.skip rfl rfl rfl rfl hc42 <| jv (.bool true) (V.pickT rfl hc42 rfl) <| J.nil ?_
     exact ⟨rfl, ⟨(by simp only [hc42]; rfl), rfl, trivial⟩, rfl, rfl⟩
   refine J.run rfl rfl rfl hc42 <| jv _ (V.fad Tryd.underlying23 rfl nz3 rfl) <| J.run rfl rfl rfl hc42 <| jv (ii xa.2) (V.ld rfl (Ld.sc sc3 (Rd.cl 0 rfl rfl))) <| J.run rfl rfl rfl hc42 <| jv (.bool (decide (xa.2 < 0))) (V.lss rfl rfl) <| jv (.bool (decide (xa.2 < 0))) (V.pickF rfl hc42 rfl) ?_
   refine J.nil ?_
   exact ⟨rfl, ⟨(by simp only [hc42]; rfl), rfl, trivial⟩, rfl, rfl⟩
 intro ρ
 refine J.nil <| cc rfl h (fun hc43 h => ?_) fun hc43 h => ?_
 · refine cr <| ja (.string ⟨([] : List UInt8).toArray⟩) rfl <| J.nil <| CJ.ret ?_
   obtain rfl := si h
   exact ⟨_, _, Res.one rfl rfl, ⟨([] : List UInt8), rfl, rfl, rfl⟩, (Hp.le_refl _), fun w hs => (Sep.dropAt 0 rfl hs)⟩
 refine CJ.skip <| CJ.seq <| CJ.mix [Cl b39 23 [ii xa.1, ii xa.2]] [([0, 1, 4, 5], 2), ([3], 6)] [7, 8] [] mixO (by decide +kernel) ⟨0, rfl, trivial⟩ rfl rfl rfl <| JM.cons <| qv _ (V.fad Tryd.underlying23 rfl nz3 rfl) <| qv (ii xa.1) (V.ld rfl (Ld.sc sc3 (Rd.cl 0 rfl rfl))) <| qv _ (V.fad Tryd.underlying23 rfl nz3 rfl) ?_
 refine qv (ii xa.2) (V.ld rfl (Ld.sc sc3 (Rd.cl 0 rfl rfl))) <| JQ.nil ?_
 obtain ⟨r60, hr61, h⟩ := ob h
 refine JA.op rfl (A.call (L1 := []) Tryd.call7 rfl (numeral_Text_ok hr61) rfl rfl) ?_
 rintro _ _ _ ⟨v63, _, rfl, ⟨⟨s62, rfl, rfl, rfl⟩, rfl⟩, _, rfl⟩
 refine ⟨fun w hs => Hold.sub (Hp.le_refl _) ⟨0, rfl, trivial⟩ hs, ?_⟩
 refine JM.cons ?_
 obtain ⟨z66, hz67, h⟩ := ob h
 refine qv (.string ⟨z66.toArray⟩) (V.cat rfl rfl hz67) <| JQ.nil ?_
 obtain ⟨r68, hr69, h⟩ := ob h
 refine JA.op rfl (A.call (L1 := []) Tryd.call7 rfl (numeral_Text_ok hr69) rfl rfl) ?_
 rintro _ _ _ ⟨v71, _, rfl, ⟨⟨s70, rfl, rfl, rfl⟩, rfl⟩, _, rfl⟩
 refine ⟨fun w hs => Hold.sub (Hp.le_refl _) ⟨0, rfl, trivial⟩ hs, ?_⟩
 refine JM.nil ?_
 obtain ⟨z74, hz75, h⟩ := ob h
 refine qv (.string ⟨z74.toArray⟩) (V.cat rfl rfl hz75) <| qa (.string ⟨z74.toArray⟩) rfl <| JQ.nil <| J.nil <| CJ.ret ?_
 obtain rfl := si h
 exact ⟨_, _, Res.one rfl rfl, ⟨z74, rfl, rfl, rfl⟩, (Hp.le_refl _), fun w hs => (Sep.dropAt 0 rfl hs)⟩

noncomputable def fn_law01_awake  : Option Bool :=
  (fn_numeral_Parse ([48, 48, 55] : List UInt8) 9).bind fun (i51, i52) => (fn_numeral_Parse ([49, 48] : List UInt8) 9).bind fun (i58, i59) => (fn_numeral_ParseList ([49, 44] : List UInt8) 9).bind fun (l65, i66) => (cond (((decide (i52 = 3)) && (decide (i59 = 5))) && (decide (i66 = 3))) ((fn_numeral_Pair (3, 5)).bind fun s92 => some (decide (s92 = ([51, 58, 53] : List UInt8)))) (some (false))).bind fun t87 => some (t87)
set_option maxRecDepth 100000 in
set_option maxHeartbeats 4000000 in
theorem law01_awake_ok {K : Hp}   (fG : Gk K) {r : Bool} (h : fn_law01_awake = some r) :
    Tr Tryd.prog 6 #[] K [] (fun v K' L' => (∃ (t48 : Bool), t48 = r ∧ .bool t48 = v ∧ L' = []) ∧ K = K') := by
 refine Tr.k <| Tr.of Tryd.func6 rfl Tryd.ntmps6 rfl fun E F => ?_
 unfold fn_law01_awake at h
 refine cr <| ja (.bool false) rfl <| J.nil <| CJ.seq <| CJ.region ?_
 obtain ⟨r49, hr50, h⟩ := ob h
 refine J.op rfl (A.call (L1 := []) Tryd.call13 rfl (numeral_Parse_ok hr50) rfl rfl) ?_
 rintro _ _ _ ⟨v53, _, rfl, ⟨⟨i51, i52, rfl, rfl, rfl⟩, rfl⟩, _, rfl⟩
 refine jm (.tuple #[ii i51, ii i52]) rfl <| jx (ii i51) rfl rfl <| jx (ii i52) rfl rfl <| ja (ii i51) rfl <| ja (ii i52) rfl <| J.nil <| CJ.seq ?_
 refine CJ.region ?_
 obtain ⟨r56, hr57, h⟩ := ob h
 refine J.op rfl (A.call (L1 := []) Tryd.call13 rfl (numeral_Parse_ok hr57) rfl rfl) ?_
 rintro _ _ _ ⟨v60, _, rfl, ⟨⟨i58, i59, rfl, rfl, rfl⟩, rfl⟩, _, rfl⟩
 refine jm (.tuple #[ii i58, ii i59]) rfl <| jx (ii i58) rfl rfl <| jx (ii i59) rfl rfl <| ja (ii i58) rfl <| ja (ii i59) rfl <| J.nil <| CJ.seq ?_
 refine CJ.region ?_
 obtain ⟨r63, hr64, h⟩ := ob h
 refine J.op rfl (A.call (L1 := []) Tryd.call17 rfl (numeral_ParseList_ok fG hr64) rfl rfl) ?_
 rintro _ _ _ ⟨v70, _, rfl, ⟨⟨l65, i66, ad67, cp68, rfl, rfl, rfl⟩, rfl⟩, _, rfl⟩
 refine J.wit Row.hn fun hn69 => jm (.tuple #[.slice ad67 l65.length cp68, ii i66]) rfl <| jx (.slice ad67 l65.length cp68) rfl rfl <| jx (ii i66) rfl rfl <| ja (.slice ad67 l65.length cp68) rfl <| ja (ii i66) rfl <| J.nil ?_
 refine cr <| jm (ii i52) rfl <| jv (.bool (decide (i52 = 3))) (V.eql rfl rfl) <| jm (.bool (decide (i52 = 3))) rfl <| J.cut 3 <| jmeet [(24, .bool ((decide (i52 = 3)) && (decide (i59 = 5)))), (6, ii i66)] ?_ ?_
 · rcases bt (decide (i52 = 3)) with hc76 | hc76
   · refine J.run rfl rfl rfl hc76 <| jm (ii i59) rfl <| J.run rfl rfl rfl hc76 <| jv (.bool (decide (i59 = 5))) (V.eql rfl rfl) <| jv (.bool (decide (i59 = 5))) (V.pickT rfl hc76 rfl) <| J.nil ?_
     exact ⟨rfl, ⟨(by simp only [hc76]; rfl), rfl, trivial⟩, rfl, rfl⟩
   refine J.skip rfl rfl rfl rfl hc76 <| J.skip rfl rfl rfl rfl hc76 <| jv (.bool false) (V.pickF rfl hc76 rfl) <| J.nil ?_
   exact ⟨rfl, ⟨(by simp only [hc76]; rfl), rfl, trivial⟩, rfl, rfl⟩
 intro ρ
 refine jm (.bool ((decide (i52 = 3)) && (decide (i59 = 5)))) rfl <| J.cut 3 <| jmeet [(28, .bool (((decide (i52 = 3)) && (decide (i59 = 5))) && (decide (i66 = 3))))] ?_ ?_
 · rcases bt ((decide (i52 = 3)) && (decide (i59 = 5))) with hc79 | hc79
   · refine J.run rfl rfl rfl hc79 <| jm (ii i66) rfl <| J.run rfl rfl rfl hc79 <| jv (.bool (decide (i66 = 3))) (V.eql rfl rfl) <| jv (.bool (decide (i66 = 3))) (V.pickT rfl hc79 rfl) <| J.nil ?_
     exact ⟨rfl, ⟨(by simp only [hc79]; rfl), trivial⟩, rfl, rfl⟩
   refine J.skip rfl rfl rfl rfl hc79 <| J.skip rfl rfl rfl rfl hc79 <| jv (.bool false) (V.pickF rfl hc79 rfl) <| J.nil ?_
   exact ⟨rfl, ⟨(by simp only [hc79]; rfl), trivial⟩, rfl, rfl⟩
 intro ρ
 refine jm (.bool (((decide (i52 = 3)) && (decide (i59 = 5))) && (decide (i66 = 3)))) rfl <| J.cut 4 ?_
 obtain ⟨t87, ht88, h⟩ := ob h
 refine jmeet [(33, .bool t87)] ?_ ?_
 · rcases bt (((decide (i52 = 3)) && (decide (i59 = 5))) && (decide (i66 = 3))) with hc89 | hc89
   · have ht88 := ct hc89 ht88
     refine J.run rfl rfl rfl hc89 <| jv (.agg #[ii 3, ii 5]) (V.build inf23 places23 rfl rfl) <| J.run rfl rfl rfl hc89 ?_
     obtain ⟨r90, hr91, ht88⟩ := ob ht88
     refine J.op rfl (A.call (L1 := []) Tryd.call9 rfl (numeral_Pair_ok hr91) rfl rfl) ?_
     rintro _ _ _ ⟨v93, _, rfl, ⟨⟨s92, rfl, rfl, rfl⟩, rfl⟩, _, rfl⟩
     refine J.run rfl rfl rfl hc89 <| jv (.bool (decide (s92 = ([51, 58, 53] : List UInt8)))) (V.eqs rfl rfl) <| jv (.bool (decide (s92 = ([51, 58, 53] : List UInt8)))) (V.pickT rfl hc89 rfl) <| J.nil ?_
     obtain rfl := si ht88
     exact ⟨rfl, ⟨rfl, trivial⟩, rfl, rfl⟩
   have ht88 := cf hc89 ht88
   refine J.skip rfl rfl rfl rfl hc89 <| J.skip rfl rfl rfl rfl hc89 <| J.skip rfl rfl rfl rfl hc89 <| jv (.bool false) (V.pickF rfl hc89 rfl) <| J.nil ?_
   obtain rfl := si ht88
   exact ⟨rfl, ⟨rfl, trivial⟩, rfl, rfl⟩
 intro ρ
 refine ja (.bool t87) rfl <| J.nil <| CJ.ret ?_
 obtain rfl := si h
 exact ⟨_, _, Res.one rfl rfl, ⟨t87, rfl, rfl, rfl⟩, (Hp.le_refl _), fun w hs => (Sep.dropAt 0 rfl hs)⟩

noncomputable def fnr_ref01_Text : Nat → Int → Option (List UInt8)
  | 0, _ => none
  | fuel + 1, xa => cond (decide (xa < 0)) (some (([] : List UInt8))) (cond (decide (xa < 10)) ((subL ([48, 49, 50, 51, 52, 53, 54, 55, 56, 57] : List UInt8) xa (IntKind.wrap .i64 (xa + 1))).bind fun y37 => some (y37)) ((subL ([48, 49, 50, 51, 52, 53, 54, 55, 56, 57] : List UInt8) (Int.tmod xa 10) (IntKind.wrap .i64 ((Int.tmod xa 10) + 1))).bind fun y49 => (fnr_ref01_Text fuel (IntKind.wrap .i64 (Int.tdiv xa 10))).bind fun s53 => (app s53 y49).bind fun z57 => some (z57)))
noncomputable def fn_ref01_Text (xa : Int) : Option (List UInt8) := lev (fun n => fnr_ref01_Text n xa)
set_option maxRecDepth 100000 in
set_option maxHeartbeats 4000000 in
theorem ref01_Text_okr : ∀ (fuel : Nat) {K : Hp} {xa : Int}   {r : List UInt8} (h : fnr_ref01_Text fuel xa = some r),
    Tr Tryd.prog 8 #[ii xa] K [] (fun v K' L' => (∃ (s34 : List UInt8), s34 = r ∧ .string ⟨s34.toArray⟩ = v ∧ L' = []) ∧ K = K') := by
  intro fuel
  induction fuel with
  | zero => intro K xa r h; rw [fnr_ref01_Text] at h; cases h
  | succ fuel ih =>
    intro K xa r h
    refine Tr.k <| Tr.of Tryd.func8 rfl Tryd.ntmps8 rfl fun E F => ?_
    rw [fnr_ref01_Text] at h
    refine cr <| ja (.string ⟨([] : List UInt8).toArray⟩) rfl <| J.nil <| CJ.seq <| CJ.seq <| CJ.region ?_
    refine jm (ii xa) rfl <| jv (.bool (decide (xa < 0))) (V.lss rfl rfl) <| J.nil <| cc rfl h (fun hc35 h => ?_) fun hc35 h => ?_
    · refine cr <| ja (.string ⟨([] : List UInt8).toArray⟩) rfl <| J.nil <| CJ.ret ?_
      obtain rfl := si h
      exact ⟨_, _, Res.one rfl rfl, ⟨([] : List UInt8), rfl, rfl, rfl⟩, (Hp.le_refl _), fun w hs => hs⟩
    refine CJ.skip <| CJ.seq <| cr <| jm (ii xa) rfl <| jv (.bool (decide (xa < 10))) (V.lss rfl rfl) <| J.nil ?_
    refine cc rfl h (fun hc36 h => ?_) fun hc36 h => ?_
    · refine cr <| jm (ii xa) rfl <| jm (ii xa) rfl <| jv (ii (IntKind.wrap .i64 (xa + 1))) (V.add rfl rfl) ?_
      obtain ⟨y37, hy38, h⟩ := ob h
      refine jv (.string ⟨y37.toArray⟩) (V.subs Tryd.underlying9 rfl (fun _ h => by cases h; exact ⟨_, rfl⟩) nofun (fun _ h => by cases h; exact ⟨_, rfl⟩) nofun hy38) <| ja (.string ⟨y37.toArray⟩) rfl <| J.nil <| CJ.ret ?_
      obtain rfl := si h
      exact ⟨_, _, Res.one rfl rfl, ⟨y37, rfl, rfl, rfl⟩, (Hp.le_refl _), fun w hs => hs⟩
    refine CJ.skip <| CJ.seq <| CJ.mix [] [([0, 1, 3, 4, 5, 6, 7, 8], 2)] [9, 10] [] mixO (by decide +kernel) trivial rfl rfl rfl <| JM.cons <| qm (ii xa) rfl <| qv (ii (IntKind.wrap .i64 (Int.tdiv xa 10))) (V.quo rfl rfl (by decide)) <| qm (ii xa) rfl ?_
    refine qv (ii (Int.tmod xa 10)) (V.rem rfl rfl (by decide)) <| qm (ii xa) rfl <| qv (ii (Int.tmod xa 10)) (V.rem rfl rfl (by decide)) <| qv (ii (IntKind.wrap .i64 ((Int.tmod xa 10) + 1))) (V.add rfl rfl) ?_
    obtain ⟨y49, hy50, h⟩ := ob h
    refine qv (.string ⟨y49.toArray⟩) (V.subs Tryd.underlying9 rfl (fun _ h => by cases h; exact ⟨_, rfl⟩) nofun (fun _ h => by cases h; exact ⟨_, rfl⟩) nofun hy50) <| JQ.nil ?_
    obtain ⟨r51, hr52, h⟩ := ob h
    refine JA.op rfl (A.call (L1 := []) Tryd.call8 rfl (ih hr52) rfl rfl) ?_
    rintro _ _ _ ⟨v54, _, rfl, ⟨⟨s53, rfl, rfl, rfl⟩, rfl⟩, _, rfl⟩
    refine ⟨fun w hs => Hold.sub (Hp.le_refl _) trivial hs, ?_⟩
    refine JM.nil ?_
    obtain ⟨z57, hz58, h⟩ := ob h
    refine qv (.string ⟨z57.toArray⟩) (V.cat rfl rfl hz58) <| qa (.string ⟨z57.toArray⟩) rfl <| JQ.nil <| J.nil <| CJ.ret ?_
    obtain rfl := si h
    exact ⟨_, _, Res.one rfl rfl, ⟨z57, rfl, rfl, rfl⟩, (Hp.le_refl _), fun w hs => hs⟩
set_option maxRecDepth 100000 in
set_option maxHeartbeats 4000000 in
theorem ref01_Text_ok {K : Hp} {xa : Int}   {r : List UInt8} (h : fn_ref01_Text xa = some r) :
    Tr Tryd.prog 8 #[ii xa] K [] (fun v K' L' => (∃ (s34 : List UInt8), s34 = r ∧ .string ⟨s34.toArray⟩ = v ∧ L' = []) ∧ K = K') := by
  obtain ⟨n, hn⟩ := lev_some h
  exact ref01_Text_okr n  hn

noncomputable def fn_ref01_Pair (xa : (Int × Int)) : Option (List UInt8) :=
  cond ((decide (xa.1 < 0)) || (decide (xa.2 < 0))) (some (([] : List UInt8))) ((fn_ref01_Text xa.1).bind fun s62 => (app s62 ([58] : List UInt8)).bind fun z66 => (fn_ref01_Text xa.2).bind fun s70 => (app z66 s70).bind fun z74 => some (z74))
set_option maxRecDepth 100000 in
set_option maxHeartbeats 4000000 in
theorem ref01_Pair_ok {K : Hp} {xa : (Int × Int)}   {r : List UInt8} (h : fn_ref01_Pair xa = some r) :
    Tr Tryd.prog 10 #[.agg #[ii xa.1, ii xa.2]] K [] (fun v K' L' => (∃ (s38 : List UInt8), s38 = r ∧ .string ⟨s38.toArray⟩ = v ∧ L' = []) ∧ K = K') := by
 refine Tr.k <| Tr.of Tryd.func10 rfl Tryd.ntmps10 rfl fun E F => ?_
 unfold fn_ref01_Pair at h
 refine cr <| jbx [ii xa.1, ii xa.2] rfl rfl fun b39 => ja (.string ⟨([] : List UInt8).toArray⟩) rfl <| J.nil <| CJ.seq <| CJ.seq ?_
 refine CJ.region <| jv _ (V.fad Tryd.underlying23 rfl nz3 rfl) <| jv (ii xa.1) (V.ld rfl (Ld.sc sc3 (Rd.cl 0 rfl rfl))) <| jv (.bool (decide (xa.1 < 0))) (V.lss rfl rfl) <| jm (.bool (decide (xa.1 < 0))) rfl <| J.cut 4 <| jmeet [(10, .bool ((decide (xa.1 < 0)) || (decide (xa.2 < 0)))), (1, .pointer (some ⟨b39, 0, none⟩))] ?_ ?_
 · rcases bt (decide (xa.1 < 0)) with hc42 | hc42
   · refine J.skip rfl rfl rfl rfl hc42 <| J.skip rfl rfl rfl rfl hc42 <| J.skip rfl rfl rfl rfl hc42 <| jv (.bool true) (V.pickT rfl hc42 rfl) <| J.nil ?_
     exact ⟨rfl, ⟨(by simp only [hc42]; rfl), rfl, trivial⟩, rfl, rfl⟩
   refine J.run rfl rfl rfl hc42 <| jv _ (V.fad Tryd.underlying23 rfl nz3 rfl) <| J.run rfl rfl rfl hc42 <| jv (ii xa.2) (V.ld rfl (Ld.sc sc3 (Rd.cl 0 rfl rfl))) <| J.run rfl rfl rfl hc42 <| jv (.bool (decide (xa.2 < 0))) (V.lss rfl rfl) <| jv (.bool (decide (xa.2 < 0))) (V.pickF rfl hc42 rfl) ?_
   refine J.nil ?_
   exact ⟨rfl, ⟨(by simp only [hc42]; rfl), rfl, trivial⟩, rfl, rfl⟩
 intro ρ
 refine J.nil <| cc rfl h (fun hc43 h => ?_) fun hc43 h => ?_
 · refine cr <| ja (.string ⟨([] : List UInt8).toArray⟩) rfl <| J.nil <| CJ.ret ?_
   obtain rfl := si h
   exact ⟨_, _, Res.one rfl rfl, ⟨([] : List UInt8), rfl, rfl, rfl⟩, (Hp.le_refl _), fun w hs => (Sep.dropAt 0 rfl hs)⟩
 refine CJ.skip <| CJ.seq <| CJ.mix [Cl b39 23 [ii xa.1, ii xa.2]] [([0, 1, 4, 5], 2), ([3], 6)] [7, 8] [] mixO (by decide +kernel) ⟨0, rfl, trivial⟩ rfl rfl rfl <| JM.cons <| qv _ (V.fad Tryd.underlying23 rfl nz3 rfl) <| qv (ii xa.1) (V.ld rfl (Ld.sc sc3 (Rd.cl 0 rfl rfl))) <| qv _ (V.fad Tryd.underlying23 rfl nz3 rfl) ?_
 refine qv (ii xa.2) (V.ld rfl (Ld.sc sc3 (Rd.cl 0 rfl rfl))) <| JQ.nil ?_
 obtain ⟨r60, hr61, h⟩ := ob h
 refine JA.op rfl (A.call (L1 := []) Tryd.call8 rfl (ref01_Text_ok hr61) rfl rfl) ?_
 rintro _ _ _ ⟨v63, _, rfl, ⟨⟨s62, rfl, rfl, rfl⟩, rfl⟩, _, rfl⟩
 refine ⟨fun w hs => Hold.sub (Hp.le_refl _) ⟨0, rfl, trivial⟩ hs, ?_⟩
 refine JM.cons ?_
 obtain ⟨z66, hz67, h⟩ := ob h
 refine qv (.string ⟨z66.toArray⟩) (V.cat rfl rfl hz67) <| JQ.nil ?_
 obtain ⟨r68, hr69, h⟩ := ob h
 refine JA.op rfl (A.call (L1 := []) Tryd.call8 rfl (ref01_Text_ok hr69) rfl rfl) ?_
 rintro _ _ _ ⟨v71, _, rfl, ⟨⟨s70, rfl, rfl, rfl⟩, rfl⟩, _, rfl⟩
 refine ⟨fun w hs => Hold.sub (Hp.le_refl _) ⟨0, rfl, trivial⟩ hs, ?_⟩
 refine JM.nil ?_
 obtain ⟨z74, hz75, h⟩ := ob h
 refine qv (.string ⟨z74.toArray⟩) (V.cat rfl rfl hz75) <| qa (.string ⟨z74.toArray⟩) rfl <| JQ.nil <| J.nil <| CJ.ret ?_
 obtain rfl := si h
 exact ⟨_, _, Res.one rfl rfl, ⟨z74, rfl, rfl, rfl⟩, (Hp.le_refl _), fun w hs => (Sep.dropAt 0 rfl hs)⟩
noncomputable def fn_numeral_List_l1 (xa : (List Int)) : (Int × List UInt8) → Option ((Int × List UInt8) ⊕ List UInt8) := fun ((i367, s368) : (Int × List UInt8)) => cond (decide (i367 < (((xa.length : Nat) : Int)))) ((getI xa i367).bind fun x408 => cond (decide (0 < i367)) ((wrB s368 44).bind fun s418 => (fn_numeral_Text x408).bind fun s423 => (wrS s418 s423).bind fun s427 => some (.inl ((IntKind.wrap .i64 (i367 + 1), s427)))) ((fn_numeral_Text x408).bind fun s432 => (wrS s368 s432).bind fun s436 => some (.inl ((IntKind.wrap .i64 (i367 + 1), s436))))) (some (.inr (s368)))
noncomputable def fn_numeral_List (xa : (List Int)) : Option (List UInt8) :=
  (loop (fn_numeral_List_l1 xa) ((0, ([] : List UInt8))) : Option (List UInt8)).bind fun s330 => ((some s330 : Option (List UInt8))).bind fun s441 => some (s441)
set_option maxRecDepth 100000 in
set_option maxHeartbeats 4000000 in
theorem numeral_List_ok {K : Hp} {xa : (List Int)} {adxa_0 : Option Addr} {cpxa_0 : Nat} (fxa_0 : Is K (.sl (.int .i64)) [.slice adxa_0 xa.length cpxa_0] xa) {r : List UInt8} (h : fn_numeral_List xa = some r) :
    Tr Tryd.prog 11 #[.slice adxa_0 xa.length cpxa_0] K [] (fun v K' L' => (∃ (s222 : List UInt8), s222 = r ∧ .string ⟨s222.toArray⟩ = v ∧ L' = []) ∧ K = K') := by
 refine Tr.k <| Tr.of Tryd.func11 rfl Tryd.ntmps11 rfl fun E F => ?_
 unfold fn_numeral_List at h
 refine cr <| ja (.string ⟨([] : List UInt8).toArray⟩) rfl <| J.nil <| cr <| jal inf44 [.pointer none, nos] rfl fun b223 => ?_
 refine J.by (fun w hs => Bld.fresh hs) <| J.nil <| CJ.seq <| cr <| jm (.slice adxa_0 xa.length cpxa_0) rfl <| jv (ii (((xa.length : Nat) : Int))) (V.len Tryd.underlying24 rfl) ?_
 refine jm (ii 0) rfl <| J.nil ?_
 obtain ⟨o331, ho332, h⟩ := ob h
 refine CJ.meetN (fun ρ K' L' => ∃ (s330 : List UInt8), s330 = o331 ∧ Fits [(3, .pointer (some ⟨b223, 0, none⟩))] ρ ∧ K = K' ∧ L' = Bld b223 s330 :: F) ?_ ?_
 · refine CJ.block <| CJ.loop (fun s ρ K' L' => ∃ (i367 : Int) (s368 : List UInt8), (i367, s368) = s ∧ Fits [(3, .pointer (some ⟨b223, 0, none⟩)), (6, .slice adxa_0 xa.length cpxa_0), (7, ii (((xa.length : Nat) : Int))), (8, ii i367)] ρ ∧ K = K' ∧ L' = Bld b223 s368 :: F) ho332 ⟨0, ([] : List UInt8), rfl, ⟨rfl, rfl, rfl, rfl, trivial⟩, rfl, rfl⟩ ?_
   rintro s ρ _ _ r406 ⟨i367, s368, rfl, hf404, rfl, rfl⟩ h403
   obtain ⟨ρ, rfl⟩ := hf404.ex
   refine cr <| jv (.bool (decide (i367 < (((xa.length : Nat) : Int))))) (V.lss rfl rfl) <| J.nil <| CJ.seq <| cc rfl h403 (fun hc407 h403 => ?_) fun hc407 h403 => ?_
   · refine CJ.skip <| CJ.seq <| CJ.block <| cr <| jm (ii i367) rfl ?_
     obtain ⟨x408, hx409, h403⟩ := ob h403
     obtain ⟨p410, p411, p412⟩ := getI_some hx409
     obtain ⟨b413, o414, e415, a416⟩ := (fxa_0).at p411
     refine jv _ (V.iad Tryd.underlying24 sz3 rfl e415 rfl p410 p412) <| jv (ii x408) (V.ld rfl (Ld.sc sc3 (Rd.k (a416).int (Hp.le_refl _)))) <| ja (ii i367) rfl <| ja (ii x408) rfl <| J.nil <| CJ.seq <| CJ.seq ?_
     refine CJ.region <| jm (ii i367) rfl <| jv (.bool (decide (0 < i367))) (V.gtr rfl rfl) <| J.nil <| cc rfl h403 (fun hc417 h403 => ?_) fun hc417 h403 => ?_
     · refine CJ.region ?_
       obtain ⟨s418, hs419, h403⟩ := ob h403
       refine J.op rfl (A.call (L1 := [Bld b223 s368]) Tryd.call20 rfl (WriteByte_ok hs419) rfl rfl) ?_
       rintro _ _ _ ⟨v420, _, rfl, ⟨⟨s418, rfl, rfl, rfl⟩, rfl⟩, _, rfl⟩
       refine J.nil <| CJ.region <| jm (ii x408) rfl ?_
       obtain ⟨r421, hr422, h403⟩ := ob h403
       refine J.op rfl (A.call (L1 := []) Tryd.call7 rfl (numeral_Text_ok hr422) rfl rfl) ?_
       rintro _ _ _ ⟨v424, _, rfl, ⟨⟨s423, rfl, rfl, rfl⟩, rfl⟩, _, rfl⟩
       obtain ⟨s427, hs428, h403⟩ := ob h403
       refine J.op rfl (A.call (L1 := [Bld b223 s418]) Tryd.call21 rfl (WriteString_ok hs428) rfl rfl) ?_
       rintro _ _ _ ⟨v429, _, rfl, ⟨⟨s427, rfl, rfl, rfl⟩, rfl⟩, _, rfl⟩
       refine J.nil <| CJ.region <| jv (ii (IntKind.wrap .i64 (i367 + 1))) (V.add rfl rfl) <| jm (ii (IntKind.wrap .i64 (i367 + 1))) rfl <| J.nil ?_
       obtain rfl := si h403
       exact ⟨rfl, ⟨IntKind.wrap .i64 (i367 + 1), s427, rfl, ⟨rfl, rfl, rfl, rfl, trivial⟩, rfl, rfl⟩⟩
     refine CJ.skip <| CJ.region <| jm (ii x408) rfl ?_
     obtain ⟨r430, hr431, h403⟩ := ob h403
     refine J.op rfl (A.call (L1 := []) Tryd.call7 rfl (numeral_Text_ok hr431) rfl rfl) ?_
     rintro _ _ _ ⟨v433, _, rfl, ⟨⟨s432, rfl, rfl, rfl⟩, rfl⟩, _, rfl⟩
     obtain ⟨s436, hs437, h403⟩ := ob h403
     refine J.op rfl (A.call (L1 := [Bld b223 s368]) Tryd.call21 rfl (WriteString_ok hs437) rfl rfl) ?_
     rintro _ _ _ ⟨v438, _, rfl, ⟨⟨s436, rfl, rfl, rfl⟩, rfl⟩, _, rfl⟩
     refine J.nil <| CJ.region <| jv (ii (IntKind.wrap .i64 (i367 + 1))) (V.add rfl rfl) <| jm (ii (IntKind.wrap .i64 (i367 + 1))) rfl <| J.nil ?_
     obtain rfl := si h403
     exact ⟨rfl, ⟨IntKind.wrap .i64 (i367 + 1), s436, rfl, ⟨rfl, rfl, rfl, rfl, trivial⟩, rfl, rfl⟩⟩
   refine CJ.exit ?_
   obtain rfl := si h403
   refine ⟨nofun, fun e => ?_⟩
   subst e
   exact ⟨rfl, ⟨s368, rfl, ⟨rfl, trivial⟩, rfl, rfl⟩⟩
 rintro ρ _ _ ⟨s330, rfl, hf439, rfl, rfl⟩
 obtain ⟨ρ, rfl⟩ := hf439.ex
 refine PJ.done <| CJ.seq <| CJ.region ?_
 obtain ⟨s441, hs442, h⟩ := ob h
 refine J.op rfl (A.call (L1 := [Bld b223 s330]) Tryd.call22 rfl (BString_ok hs442) rfl rfl) ?_
 rintro _ _ _ ⟨v443, _, rfl, ⟨⟨s441, rfl, rfl, rfl⟩, rfl⟩, _, rfl⟩
 refine ja (.string ⟨s441.toArray⟩) rfl <| J.nil <| CJ.ret ?_
 obtain rfl := si h
 exact ⟨_, _, Res.one rfl rfl, ⟨s441, rfl, rfl, rfl⟩, (Hp.le_refl _), fun w hs => hs⟩
noncomputable def fn_ref01_List_l1 (xa : (List Int)) : (List UInt8 × Int) → Option ((List UInt8 × Int) ⊕ List UInt8) := fun ((s333, i334) : (List UInt8 × Int)) => cond (decide (i334 < (((xa.length : Nat) : Int)))) ((cond (decide (0 < i334)) ((app s333 ([44] : List UInt8)).bind fun z378 => some (z378)) (some (s333)) : Option (List UInt8)).bind fun s374 => (getI xa i334).bind fun x382 => (fn_ref01_Text x382).bind fun s393 => (app s374 s393).bind fun z397 => some (.inl ((z397, IntKind.wrap .i64 (i334 + 1))))) (some (.inr (s333)))
noncomputable def fn_ref01_List (xa : (List Int)) : Option (List UInt8) :=
  (loop (fn_ref01_List_l1 xa) ((([] : List UInt8), 0)) : Option (List UInt8)).bind fun s299 => some (s299)
set_option maxRecDepth 100000 in
set_option maxHeartbeats 4000000 in
theorem ref01_List_ok {K : Hp} {xa : (List Int)} {adxa_0 : Option Addr} {cpxa_0 : Nat} (fxa_0 : Is K (.sl (.int .i64)) [.slice adxa_0 xa.length cpxa_0] xa) {r : List UInt8} (h : fn_ref01_List xa = some r) :
    Tr Tryd.prog 12 #[.slice adxa_0 xa.length cpxa_0] K [] (fun v K' L' => (∃ (s201 : List UInt8), s201 = r ∧ .string ⟨s201.toArray⟩ = v ∧ L' = []) ∧ K = K') := by
 refine Tr.k <| Tr.of Tryd.func12 rfl Tryd.ntmps12 rfl fun E F => ?_
 unfold fn_ref01_List at h
 refine cr <| ja (.string ⟨([] : List UInt8).toArray⟩) rfl <| J.nil <| cr <| ja (.string ⟨([] : List UInt8).toArray⟩) rfl ?_
 refine J.nil <| CJ.seq <| cr <| ja (ii 0) rfl <| J.nil ?_
 obtain ⟨o300, ho301, h⟩ := ob h
 refine CJ.meetN (fun ρ K' L' => ∃ (s299 : List UInt8), s299 = o300 ∧ Fits [(3, .string ⟨s299.toArray⟩)] ρ ∧ K = K' ∧ F = L') ?_ ?_
 · refine CJ.block <| CJ.loop (fun s ρ K' L' => ∃ (s333 : List UInt8) (i334 : Int), (s333, i334) = s ∧ Fits [(0, .slice adxa_0 xa.length cpxa_0), (3, .string ⟨s333.toArray⟩), (4, ii i334)] ρ ∧ K = K' ∧ F = L') ho301 ⟨([] : List UInt8), 0, rfl, ⟨rfl, rfl, rfl, trivial⟩, rfl, rfl⟩ ?_
   rintro s ρ _ _ r369 ⟨s333, i334, rfl, hf367, rfl, rfl⟩ h366
   obtain ⟨ρ, rfl⟩ := hf367.ex
   refine CJ.seq <| cr <| jm (ii i334) rfl <| jm (.slice adxa_0 xa.length cpxa_0) rfl <| jv (ii (((xa.length : Nat) : Int))) (V.len Tryd.underlying24 rfl) <| jv (.bool (decide (i334 < (((xa.length : Nat) : Int))))) (V.lss rfl rfl) ?_
   refine J.nil <| cc rfl h366 (fun hc370 h366 => ?_) fun hc370 h366 => ?_
   · refine CJ.skip <| CJ.seq <| CJ.block <| CJ.seq ?_
     obtain ⟨o375, ho376, h366⟩ := ob h366
     refine CJ.meetN (fun ρ K' L' => ∃ (s374 : List UInt8), s374 = o375 ∧ Fits [(0, .slice adxa_0 xa.length cpxa_0), (3, .string ⟨s374.toArray⟩), (4, ii i334)] ρ ∧ K = K' ∧ F = L') ?_ ?_
     · refine cr <| jm (ii i334) rfl <| jv (.bool (decide (0 < i334))) (V.gtr rfl rfl) <| J.nil <| cc rfl ho376 (fun hc377 ho376 => ?_) fun hc377 ho376 => ?_
       · refine CJ.region <| jm (.string ⟨s333.toArray⟩) rfl ?_
         obtain ⟨z378, hz379, ho376⟩ := ob ho376
         refine jv (.string ⟨z378.toArray⟩) (V.cat rfl rfl hz379) <| ja (.string ⟨z378.toArray⟩) rfl <| J.nil ?_
         obtain rfl := si ho376
         exact ⟨rfl, ⟨z378, rfl, ⟨rfl, rfl, rfl, trivial⟩, rfl, rfl⟩⟩
       refine CJ.skip ?_
       obtain rfl := si ho376
       exact ⟨rfl, ⟨s333, rfl, ⟨rfl, rfl, rfl, trivial⟩, rfl, rfl⟩⟩
     rintro ρ _ _ ⟨s374, rfl, hf380, rfl, rfl⟩
     obtain ⟨ρ, rfl⟩ := hf380.ex
     refine PJ.done <| CJ.region <| jm (.string ⟨s374.toArray⟩) rfl <| jm (.slice adxa_0 xa.length cpxa_0) rfl <| jm (ii i334) rfl ?_
     obtain ⟨x382, hx383, h366⟩ := ob h366
     obtain ⟨p384, p385, p386⟩ := getI_some hx383
     obtain ⟨b387, o388, e389, a390⟩ := (fxa_0).at p385
     refine jv _ (V.iad Tryd.underlying24 sz3 rfl e389 rfl p384 p386) <| jv (ii x382) (V.ld rfl (Ld.sc sc3 (Rd.k (a390).int (Hp.le_refl _)))) ?_
     obtain ⟨r391, hr392, h366⟩ := ob h366
     refine J.op rfl (A.call (L1 := []) Tryd.call8 rfl (ref01_Text_ok hr392) rfl rfl) ?_
     rintro _ _ _ ⟨v394, _, rfl, ⟨⟨s393, rfl, rfl, rfl⟩, rfl⟩, _, rfl⟩
     obtain ⟨z397, hz398, h366⟩ := ob h366
     refine jv (.string ⟨z397.toArray⟩) (V.cat rfl rfl hz398) <| ja (.string ⟨z397.toArray⟩) rfl <| J.nil <| CJ.region <| jm (ii i334) rfl <| jv (ii (IntKind.wrap .i64 (i334 + 1))) (V.add rfl rfl) <| ja (ii (IntKind.wrap .i64 (i334 + 1))) rfl ?_
     refine J.nil ?_
     obtain rfl := si h366
     exact ⟨rfl, ⟨z397, IntKind.wrap .i64 (i334 + 1), rfl, ⟨rfl, rfl, rfl, trivial⟩, rfl, rfl⟩⟩
   refine CJ.exit ?_
   obtain rfl := si h366
   refine ⟨nofun, fun e => ?_⟩
   subst e
   exact ⟨rfl, ⟨s333, rfl, ⟨rfl, trivial⟩, rfl, rfl⟩⟩
 rintro ρ _ _ ⟨s299, rfl, hf399, rfl, rfl⟩
 obtain ⟨ρ, rfl⟩ := hf399.ex
 refine PJ.done <| cr <| jm (.string ⟨s299.toArray⟩) rfl <| ja (.string ⟨s299.toArray⟩) rfl <| J.nil <| CJ.ret ?_
 obtain rfl := si h
 exact ⟨_, _, Res.one rfl rfl, ⟨s299, rfl, rfl, rfl⟩, (Hp.le_refl _), fun w hs => hs⟩

noncomputable def fn_law01_NumeralWrites (xa : Int) (xb : (Int × Int)) (xc : (List Int)) : Option Bool :=
  cond (decide (100 < (((xc.length : Nat) : Int)))) ((fn_law01_awake).bind fun t104 => some (t104)) ((fn_numeral_Text xa).bind fun s155 => (fn_ref01_Text xa).bind fun s161 => cond (decide (s155 = s161)) ((fn_numeral_Pair (xb.1, xb.2)).bind fun s168 => (fn_ref01_Pair (xb.1, xb.2)).bind fun s174 => cond (decide (s168 = s174)) ((fn_numeral_List xc).bind fun s181 => (fn_ref01_List xc).bind fun s187 => cond (decide (s181 = s187)) ((fn_law01_awake).bind fun t194 => some (t194)) (some (false))) (some (false))) (some (false)))
set_option maxRecDepth 100000 in
set_option maxHeartbeats 4000000 in
theorem law01_NumeralWrites_ok {K : Hp} {xa : Int} {xb : (Int × Int)} {xc : (List Int)} {adxc_0 : Option Addr} {cpxc_0 : Nat} (fG : Gk K) (fxc_0 : Is K (.sl (.int .i64)) [.slice adxc_0 xc.length cpxc_0] xc) {r : Bool} (h : fn_law01_NumeralWrites xa xb xc = some r) :
    Tr Tryd.prog 3 #[ii xa, .agg #[ii xb.1, ii xb.2], .slice adxc_0 xc.length cpxc_0] K [] (fun v K' L' => (∃ (t99 : Bool), t99 = r ∧ .bool t99 = v ∧ L' = []) ∧ K = K') := by
 refine Tr.k <| Tr.of Tryd.func3 rfl Tryd.ntmps3 rfl fun E F => ?_
 unfold fn_law01_NumeralWrites at h
 refine cr <| jbx [ii xb.1, ii xb.2] rfl rfl fun b100 => ja (.bool false) rfl <| J.nil <| CJ.seq <| CJ.seq ?_
 refine CJ.region <| jm (.slice adxc_0 xc.length cpxc_0) rfl <| jv (ii (((xc.length : Nat) : Int))) (V.len Tryd.underlying24 rfl) <| jv (.bool (decide (100 < (((xc.length : Nat) : Int))))) (V.gtr rfl rfl) <| J.nil <| cc rfl h (fun hc101 h => ?_) fun hc101 h => ?_
 · refine CJ.seq <| CJ.region ?_
   obtain ⟨r102, hr103, h⟩ := ob h
   refine J.op rfl (A.call (L1 := []) Tryd.call6 rfl (law01_awake_ok fG hr103) rfl rfl) ?_
   rintro _ _ _ ⟨v105, _, rfl, ⟨⟨t104, rfl, rfl, rfl⟩, rfl⟩, _, rfl⟩
   refine ja (.bool t104) rfl <| J.nil <| CJ.ret ?_
   obtain rfl := si h
   exact ⟨_, _, Res.one rfl rfl, ⟨t104, rfl, rfl, rfl⟩, (Hp.le_refl _), fun w hs => (Sep.dropAt 0 rfl hs)⟩
 refine CJ.skip <| CJ.seq <| CJ.mix [Cl b100 23 [ii xb.1, ii xb.2]] [([0, 2], 1), ([], 3), ([4, 5, 6, 8], 7), ([], 9), ([10, 11, 12, 13, 15], 14), ([], 16), ([17, 18, 19], 20)] [21, 22] [] mixO (by decide +kernel) ⟨0, rfl, trivial⟩ rfl rfl rfl <| JM.cons <| qm (ii xa) rfl <| qm (ii xa) rfl <| JQ.nil ?_
 obtain ⟨r153, hr154, h⟩ := ob h
 refine JA.op rfl (A.call (L1 := []) Tryd.call7 rfl (numeral_Text_ok hr154) rfl rfl) ?_
 rintro _ _ _ ⟨v156, _, rfl, ⟨⟨s155, rfl, rfl, rfl⟩, rfl⟩, _, rfl⟩
 refine ⟨fun w hs => Hold.sub (Hp.le_refl _) ⟨0, rfl, trivial⟩ hs, ?_⟩
 refine JM.cons <| JQ.nil ?_
 obtain ⟨r159, hr160, h⟩ := ob h
 refine JA.op rfl (A.call (L1 := []) Tryd.call8 rfl (ref01_Text_ok hr160) rfl rfl) ?_
 rintro _ _ _ ⟨v162, _, rfl, ⟨⟨s161, rfl, rfl, rfl⟩, rfl⟩, _, rfl⟩
 refine ⟨fun w hs => Hold.sub (Hp.le_refl _) ⟨0, rfl, trivial⟩ hs, ?_⟩
 refine JM.cons <| qv (.bool (decide (s155 = s161))) (V.eqs rfl rfl) <| qm (.bool (decide (s155 = s161))) rfl ?_
 rcases bt (decide (s155 = s161)) with hc165 | hc165
 · have h := ct hc165 h
   refine JQ.run rfl rfl rfl hc165 <| qv (.agg #[ii xb.1, ii xb.2]) (V.ld rfl (Ld.agg (cs := [ii xb.1, ii xb.2]) Tryd.underlying23 sz23 rfl (Rd.cls 0 0 rfl rfl))) <| JQ.run rfl rfl rfl hc165 <| qv (.agg #[ii xb.1, ii xb.2]) (V.ld rfl (Ld.agg (cs := [ii xb.1, ii xb.2]) Tryd.underlying23 sz23 rfl (Rd.cls 0 0 rfl rfl))) <| JQ.nil <| JA.run rfl rfl rfl hc165 ?_
   obtain ⟨r166, hr167, h⟩ := ob h
   refine JA.op rfl (A.call (L1 := []) Tryd.call9 rfl (numeral_Pair_ok hr167) rfl rfl) ?_
   rintro _ _ _ ⟨v169, _, rfl, ⟨⟨s168, rfl, rfl, rfl⟩, rfl⟩, _, rfl⟩
   refine ⟨fun w hs => Hold.sub (Hp.le_refl _) ⟨0, rfl, trivial⟩ hs, ?_⟩
   refine JM.cons <| JQ.nil <| JA.run rfl rfl rfl hc165 ?_
   obtain ⟨r172, hr173, h⟩ := ob h
   refine JA.op rfl (A.call (L1 := []) Tryd.call10 rfl (ref01_Pair_ok hr173) rfl rfl) ?_
   rintro _ _ _ ⟨v175, _, rfl, ⟨⟨s174, rfl, rfl, rfl⟩, rfl⟩, _, rfl⟩
   refine ⟨fun w hs => Hold.sub (Hp.le_refl _) ⟨0, rfl, trivial⟩ hs, ?_⟩
   refine JM.cons <| JQ.run rfl rfl rfl hc165 <| qv (.bool (decide (s168 = s174))) (V.eqs rfl rfl) <| qv (.bool (decide (s168 = s174))) (V.pickT rfl hc165 rfl) <| qm (.bool (decide (s168 = s174))) rfl ?_
   rcases bt (decide (s168 = s174)) with hc178 | hc178
   · have h := ct hc178 h
     refine JQ.run rfl rfl rfl hc178 <| qm (.slice adxc_0 xc.length cpxc_0) rfl <| JQ.run rfl rfl rfl hc178 <| qm (.slice adxc_0 xc.length cpxc_0) rfl <| JQ.nil <| JA.run rfl rfl rfl hc178 ?_
     obtain ⟨r179, hr180, h⟩ := ob h
     refine JA.op rfl (A.call (L1 := []) Tryd.call11 rfl (numeral_List_ok fxc_0 hr180) rfl rfl) ?_
     rintro _ _ _ ⟨v182, _, rfl, ⟨⟨s181, rfl, rfl, rfl⟩, rfl⟩, _, rfl⟩
     refine ⟨fun w hs => Hold.sub (Hp.le_refl _) ⟨0, rfl, trivial⟩ hs, ?_⟩
     refine JM.cons <| JQ.nil <| JA.run rfl rfl rfl hc178 ?_
     obtain ⟨r185, hr186, h⟩ := ob h
     refine JA.op rfl (A.call (L1 := []) Tryd.call12 rfl (ref01_List_ok fxc_0 hr186) rfl rfl) ?_
     rintro _ _ _ ⟨v188, _, rfl, ⟨⟨s187, rfl, rfl, rfl⟩, rfl⟩, _, rfl⟩
     refine ⟨fun w hs => Hold.sub (Hp.le_refl _) ⟨0, rfl, trivial⟩ hs, ?_⟩
     refine JM.cons <| JQ.run rfl rfl rfl hc178 <| qv (.bool (decide (s181 = s187))) (V.eqs rfl rfl) <| qv (.bool (decide (s181 = s187))) (V.pickT rfl hc178 rfl) <| qm (.bool (decide (s181 = s187))) rfl <| JQ.nil ?_
     rcases bt (decide (s181 = s187)) with hc191 | hc191
     · have h := ct hc191 h
       refine JA.run rfl rfl rfl hc191 ?_
       obtain ⟨r192, hr193, h⟩ := ob h
       refine JA.op rfl (A.call (L1 := []) Tryd.call6 rfl (law01_awake_ok fG hr193) rfl rfl) ?_
       rintro _ _ _ ⟨v195, _, rfl, ⟨⟨t194, rfl, rfl, rfl⟩, rfl⟩, _, rfl⟩
       refine ⟨fun w hs => Hold.sub (Hp.le_refl _) ⟨0, rfl, trivial⟩ hs, ?_⟩
       refine JM.nil <| qv (.bool t194) (V.pickT rfl hc191 rfl) <| qa (.bool t194) rfl <| JQ.nil <| J.nil <| CJ.ret ?_
       obtain rfl := si h
       exact ⟨_, _, Res.one rfl rfl, ⟨t194, rfl, rfl, rfl⟩, (Hp.le_refl _), fun w hs => (Sep.dropAt 0 rfl hs)⟩
     have h := cf hc191 h
     refine JA.skip rfl rfl rfl rfl hc191 <| JM.nil <| qv (.bool false) (V.pickF rfl hc191 rfl) <| qa (.bool false) rfl <| JQ.nil <| J.nil <| CJ.ret ?_
     obtain rfl := si h
     exact ⟨_, _, Res.one rfl rfl, ⟨false, rfl, rfl, rfl⟩, (Hp.le_refl _), fun w hs => (Sep.dropAt 0 rfl hs)⟩
   have h := cf hc178 h
   refine JQ.skip rfl rfl rfl rfl hc178 <| JQ.skip rfl rfl rfl rfl hc178 <| JQ.nil <| JA.skip rfl rfl rfl rfl hc178 <| JM.cons <| JQ.nil <| JA.skip rfl rfl rfl rfl hc178 ?_
   refine JM.cons <| JQ.skip rfl rfl rfl rfl hc178 <| qv (.bool false) (V.pickF rfl hc178 rfl) <| qm (.bool false) rfl <| JQ.nil <| JA.skip rfl rfl rfl rfl rfl <| JM.nil ?_
   refine qv (.bool false) (V.pickF rfl rfl rfl) <| qa (.bool false) rfl <| JQ.nil <| J.nil <| CJ.ret ?_
   obtain rfl := si h
   exact ⟨_, _, Res.one rfl rfl, ⟨false, rfl, rfl, rfl⟩, (Hp.le_refl _), fun w hs => (Sep.dropAt 0 rfl hs)⟩
 have h := cf hc165 h
 refine JQ.skip rfl rfl rfl rfl hc165 <| JQ.skip rfl rfl rfl rfl hc165 <| JQ.nil <| JA.skip rfl rfl rfl rfl hc165 <| JM.cons <| JQ.nil <| JA.skip rfl rfl rfl rfl hc165 ?_
 refine JM.cons <| JQ.skip rfl rfl rfl rfl hc165 <| qv (.bool false) (V.pickF rfl hc165 rfl) <| qm (.bool false) rfl <| JQ.skip rfl rfl rfl rfl rfl <| JQ.skip rfl rfl rfl rfl rfl <| JQ.nil ?_
 refine JA.skip rfl rfl rfl rfl rfl <| JM.cons <| JQ.nil <| JA.skip rfl rfl rfl rfl rfl <| JM.cons <| JQ.skip rfl rfl rfl rfl rfl <| qv (.bool false) (V.pickF rfl rfl rfl) ?_
 refine qm (.bool false) rfl <| JQ.nil <| JA.skip rfl rfl rfl rfl rfl <| JM.nil <| qv (.bool false) (V.pickF rfl rfl rfl) <| qa (.bool false) rfl <| JQ.nil ?_
 refine J.nil <| CJ.ret ?_
 obtain rfl := si h
 exact ⟨_, _, Res.one rfl rfl, ⟨false, rfl, rfl, rfl⟩, (Hp.le_refl _), fun w hs => (Sep.dropAt 0 rfl hs)⟩
noncomputable def fn_ref01_Form_l1 (xa : (List UInt8)) : Int → Option (Int ⊕ (Unit ⊕ Bool)) := fun (i273 : Int) => cond (decide (i273 < (((xa.length : Nat) : Int)))) ((getI xa i273).bind fun x301 => (cond (decide ((((x301.toNat : Nat) : Int)) < 48)) (some (true)) ((getI xa i273).bind fun x315 => some (decide (57 < (((x315.toNat : Nat) : Int)))))).bind fun t312 => cond (t312) (some (.inr ((.inr (false))))) (some (.inl (IntKind.wrap .i64 (i273 + 1))))) (some (.inr ((.inl ()))))
noncomputable def fn_ref01_Form (xa : (List UInt8)) : Option Bool :=
  (loop (fn_ref01_Form_l1 xa) 0 : Option (Unit ⊕ Bool)).bind fun o => match o with | .inr r => some r | .inl () => (cond (decide ((((xa.length : Nat) : Int)) = 1)) (some (true)) ((cond (decide (1 < (((xa.length : Nat) : Int)))) ((getI xa 0).bind fun x351 => some (!decide ((((x351.toNat : Nat) : Int)) = 48))) (some (false))).bind fun t348 => some (t348))).bind fun t339 => some (t339)
set_option maxRecDepth 100000 in
set_option maxHeartbeats 4000000 in
theorem ref01_Form_ok {K : Hp} {xa : (List UInt8)}   {r : Bool} (h : fn_ref01_Form xa = some r) :
    Tr Tryd.prog 24 #[.string ⟨xa.toArray⟩] K [] (fun v K' L' => (∃ (t178 : Bool), t178 = r ∧ .bool t178 = v ∧ L' = []) ∧ K = K') := by
 refine Tr.k <| Tr.of Tryd.func24 rfl Tryd.ntmps24 rfl fun E F => ?_
 unfold fn_ref01_Form at h
 refine cr <| ja (.bool false) rfl <| J.nil <| CJ.seq <| CJ.seq <| CJ.region ?_
 refine ja (ii 0) rfl <| J.nil ?_
 obtain ⟨o249, ho250, h⟩ := ob h
 refine CJ.joinN (o := o249) (fun s ρ K' L' => () = s ∧ Fits [(0, .string ⟨xa.toArray⟩)] ρ ∧ K = K' ∧ F = L') ?_ ?_
 · refine CJ.block <| CJ.loop (fun s ρ K' L' => ∃ (i273 : Int), i273 = s ∧ Fits [(0, .string ⟨xa.toArray⟩), (3, ii i273)] ρ ∧ K = K' ∧ F = L') ho250 ⟨0, rfl, ⟨rfl, rfl, trivial⟩, rfl, rfl⟩ ?_
   rintro s ρ _ _ r299 ⟨i273, rfl, hf297, rfl, rfl⟩ h296
   obtain ⟨ρ, rfl⟩ := hf297.ex
   refine CJ.seq <| cr <| jm (ii i273) rfl <| jm (.string ⟨xa.toArray⟩) rfl <| jv (ii (((xa.length : Nat) : Int))) (V.lens Tryd.underlying9 rfl) <| jv (.bool (decide (i273 < (((xa.length : Nat) : Int))))) (V.lss rfl rfl) ?_
   refine J.nil <| cc rfl h296 (fun hc300 h296 => ?_) fun hc300 h296 => ?_
   · refine CJ.skip <| CJ.seq <| CJ.block <| cr <| jm (.string ⟨xa.toArray⟩) rfl <| jm (ii i273) rfl ?_
     obtain ⟨x301, hx302, h296⟩ := ob h296
     obtain ⟨p303, p304, p305⟩ := getI_some hx302
     refine jv (.int .u8 (((x301.toNat : Nat) : Int))) (V.ixs Tryd.underlying9 rfl rfl p303 p304) <| jv (.bool (decide ((((x301.toNat : Nat) : Int)) < 48))) (V.lss rfl rfl) <| jm (.bool (decide ((((x301.toNat : Nat) : Int)) < 48))) rfl <| J.cut 5 ?_
     obtain ⟨t312, ht313, h296⟩ := ob h296
     refine jmeet [(19, .bool t312), (0, .string ⟨xa.toArray⟩), (3, ii i273)] ?_ ?_
     · rcases bt (decide ((((x301.toNat : Nat) : Int)) < 48)) with hc314 | hc314
       · have ht313 := ct hc314 ht313
         refine J.skip rfl rfl rfl rfl hc314 <| J.skip rfl rfl rfl rfl hc314 <| J.skip rfl rfl rfl rfl hc314 <| J.skip rfl rfl rfl rfl hc314 <| jv (.bool true) (V.pickT rfl hc314 rfl) <| J.nil ?_
         obtain rfl := si ht313
         exact ⟨rfl, ⟨rfl, rfl, rfl, trivial⟩, rfl, rfl⟩
       have ht313 := cf hc314 ht313
       refine J.run rfl rfl rfl hc314 <| jm (.string ⟨xa.toArray⟩) rfl <| J.run rfl rfl rfl hc314 <| jm (ii i273) rfl <| J.run rfl rfl rfl hc314 ?_
       obtain ⟨x315, hx316, ht313⟩ := ob ht313
       obtain ⟨p317, p318, p319⟩ := getI_some hx316
       refine jv (.int .u8 (((x315.toNat : Nat) : Int))) (V.ixs Tryd.underlying9 rfl rfl p317 p318) <| J.run rfl rfl rfl hc314 <| jv (.bool (decide (57 < (((x315.toNat : Nat) : Int))))) (V.gtr rfl rfl) <| jv (.bool (decide (57 < (((x315.toNat : Nat) : Int))))) (V.pickF rfl hc314 rfl) <| J.nil ?_
       obtain rfl := si ht313
       exact ⟨rfl, ⟨rfl, rfl, rfl, trivial⟩, rfl, rfl⟩
     intro ρ
     refine J.nil <| cc rfl h296 (fun hc320 h296 => ?_) fun hc320 h296 => ?_
     · refine cr <| ja (.bool false) rfl <| J.nil <| CJ.ret ?_
       obtain rfl := si h296
       refine ⟨nofun, fun e => ?_⟩
       subst e
       refine .inr ⟨nofun, ?_⟩
       obtain rfl := si h
       exact ⟨_, _, Res.one rfl rfl, ⟨false, rfl, rfl, rfl⟩, (Hp.le_refl _), fun w hs => hs⟩
     refine CJ.skip <| CJ.region <| jm (ii i273) rfl <| jv (ii (IntKind.wrap .i64 (i273 + 1))) (V.add rfl rfl) <| ja (ii (IntKind.wrap .i64 (i273 + 1))) rfl <| J.nil ?_
     obtain rfl := si h296
     exact ⟨rfl, ⟨IntKind.wrap .i64 (i273 + 1), rfl, ⟨rfl, rfl, trivial⟩, rfl, rfl⟩⟩
   refine CJ.exit ?_
   obtain rfl := si h296
   refine ⟨nofun, fun e => ?_⟩
   subst e
   exact .inl ⟨rfl, _, rfl, ⟨rfl, ⟨rfl, trivial⟩, rfl, rfl⟩⟩
 rintro s ρ _ _ ho321 ⟨rfl, hf322, rfl, rfl⟩
 subst ho321
 obtain ⟨ρ, rfl⟩ := hf322.ex
 refine PJ.done <| cr <| jm (.string ⟨xa.toArray⟩) rfl <| jv (ii (((xa.length : Nat) : Int))) (V.lens Tryd.underlying9 rfl) <| jv (.bool (decide ((((xa.length : Nat) : Int)) = 1))) (V.eql rfl rfl) <| jm (.bool (decide ((((xa.length : Nat) : Int)) = 1))) rfl ?_
 refine J.cut 9 ?_
 obtain ⟨t339, ht340, h⟩ := ob h
 refine jmeet [(32, .bool t339)] ?_ ?_
 · rcases bt (decide ((((xa.length : Nat) : Int)) = 1)) with hc341 | hc341
   · have ht340 := ct hc341 ht340
     refine J.skip rfl rfl rfl rfl hc341 <| J.skip rfl rfl rfl rfl hc341 <| J.skip rfl rfl rfl rfl hc341 <| J.skip rfl rfl rfl rfl hc341 <| J.skipu rfl rfl rfl rfl <| J.skipu rfl rfl rfl rfl <| J.skipu rfl rfl rfl rfl ?_
     refine J.skip rfl rfl rfl rfl hc341 <| jv (.bool true) (V.pickT rfl hc341 rfl) <| J.nil ?_
     obtain rfl := si ht340
     exact ⟨rfl, ⟨rfl, trivial⟩, rfl, rfl⟩
   have ht340 := cf hc341 ht340
   refine J.run rfl rfl rfl hc341 <| jm (.string ⟨xa.toArray⟩) rfl <| J.run rfl rfl rfl hc341 <| jv (ii (((xa.length : Nat) : Int))) (V.lens Tryd.underlying9 rfl) <| J.run rfl rfl rfl hc341 <| jv (.bool (decide (1 < (((xa.length : Nat) : Int))))) (V.gtr rfl rfl) <| J.run rfl rfl rfl hc341 ?_
   refine jm (.bool (decide (1 < (((xa.length : Nat) : Int))))) rfl <| J.cut 4 ?_
   obtain ⟨t348, ht349, ht340⟩ := ob ht340
   refine jmeet [(31, .bool t348), (23, .bool (decide ((((xa.length : Nat) : Int)) = 1)))] ?_ ?_
   · rcases bt (decide (1 < (((xa.length : Nat) : Int)))) with hc350 | hc350
     · have ht349 := ct hc350 ht349
       refine J.run rfl rfl rfl hc350 <| jm (.string ⟨xa.toArray⟩) rfl <| J.run rfl rfl rfl hc350 ?_
       obtain ⟨x351, hx352, ht349⟩ := ob ht349
       obtain ⟨p353, p354, p355⟩ := getI_some hx352
       refine jv (.int .u8 (((x351.toNat : Nat) : Int))) (V.ixs Tryd.underlying9 rfl rfl p353 p354) <| J.run rfl rfl rfl hc350 <| jv (.bool (!decide ((((x351.toNat : Nat) : Int)) = 48))) (V.neq rfl rfl) <| J.run rfl rfl rfl hc341 <| jv (.bool (!decide ((((x351.toNat : Nat) : Int)) = 48))) (V.pickT rfl hc350 rfl) <| J.nil ?_
       obtain rfl := si ht349
       exact ⟨rfl, ⟨rfl, rfl, trivial⟩, rfl, rfl⟩
     have ht349 := cf hc350 ht349
     refine J.skip rfl rfl rfl rfl hc350 <| J.skip rfl rfl rfl rfl hc350 <| J.skip rfl rfl rfl rfl hc350 <| J.run rfl rfl rfl hc341 <| jv (.bool false) (V.pickF rfl hc350 rfl) <| J.nil ?_
     obtain rfl := si ht349
     exact ⟨rfl, ⟨rfl, rfl, trivial⟩, rfl, rfl⟩
   intro ρ
   refine jv (.bool t348) (V.pickF rfl hc341 rfl) <| J.nil ?_
   obtain rfl := si ht340
   exact ⟨rfl, ⟨rfl, trivial⟩, rfl, rfl⟩
 intro ρ
 refine ja (.bool t339) rfl <| J.nil <| CJ.ret ?_
 obtain rfl := si h
 exact ⟨_, _, Res.one rfl rfl, ⟨t339, rfl, rfl, rfl⟩, (Hp.le_refl _), fun w hs => hs⟩
noncomputable def fn_ref01_Parse_l1 (xa : (List UInt8)) : (Int × Int) → Option ((Int × Int) ⊕ (Int ⊕ (Int × Int))) := fun ((i219, i220) : (Int × Int)) => cond (decide (i220 < (((xa.length : Nat) : Int)))) ((getI xa i220).bind fun x244 => cond ((decide (922337203685477580 < i219)) || ((decide (i219 = 922337203685477580)) && (decide (7 < (IntKind.wrap .i64 (IntKind.wrap .u8 ((((x244.toNat : Nat) : Int)) - 48))))))) (some (.inr ((.inr ((0, 5)))))) (some (.inl ((IntKind.wrap .i64 ((IntKind.wrap .i64 (i219 * 10)) + (IntKind.wrap .i64 (IntKind.wrap .u8 ((((x244.toNat : Nat) : Int)) - 48)))), IntKind.wrap .i64 (i220 + 1)))))) (some (.inr (.inl i219)))
noncomputable def fn_ref01_Parse (xa : (List UInt8)) (xb : Int) : Option (Int × Int) :=
  (fn_ref01_Form xa).bind fun t135 => cond (!t135) (some ((0, 3))) ((loop (fn_ref01_Parse_l1 xa) (0, 0) : Option (Int ⊕ (Int × Int))).bind fun o => match o with | .inr r => some r | .inl i198 => cond (decide (xb < i198)) (some ((0, 5))) (some ((i198, 0))))
set_option maxRecDepth 100000 in
set_option maxHeartbeats 4000000 in
theorem ref01_Parse_ok {K : Hp} {xa : (List UInt8)} {xb : Int}   {r : (Int × Int)} (h : fn_ref01_Parse xa xb = some r) :
    Tr Tryd.prog 14 #[.string ⟨xa.toArray⟩, ii xb] K [] (fun v K' L' => (∃ (i131 : Int) (i132 : Int), (i131, i132) = r ∧ .tuple #[ii i131, ii i132] = v ∧ L' = []) ∧ K = K') := by
 refine Tr.k <| Tr.of Tryd.func14 rfl Tryd.ntmps14 rfl fun E F => ?_
 unfold fn_ref01_Parse at h
 refine cr <| ja (ii 0) rfl <| ja (ii 0) rfl <| J.nil <| CJ.seq <| CJ.seq ?_
 refine CJ.region <| jm (.string ⟨xa.toArray⟩) rfl ?_
 obtain ⟨r133, hr134, h⟩ := ob h
 refine J.op rfl (A.call (L1 := []) Tryd.call24 rfl (ref01_Form_ok hr134) rfl rfl) ?_
 rintro _ _ _ ⟨v136, _, rfl, ⟨⟨t135, rfl, rfl, rfl⟩, rfl⟩, _, rfl⟩
 refine jv (.bool (!t135)) (V.not rfl) <| J.nil <| cc rfl h (fun hc139 h => ?_) fun hc139 h => ?_
 · refine cr <| ja (ii 0) rfl <| ja (ii 3) rfl <| J.nil <| CJ.ret ?_
   obtain rfl := si h
   exact ⟨_, _, Res.two rfl rfl rfl, ⟨0, 3, rfl, rfl, rfl⟩, (Hp.le_refl _), fun w hs => hs⟩
 refine CJ.skip <| cr <| ja (ii 0) rfl <| J.nil <| CJ.seq <| CJ.seq ?_
 refine CJ.region <| ja (ii 0) rfl <| J.nil ?_
 obtain ⟨o199, ho200, h⟩ := ob h
 refine CJ.joinN (o := o199) (fun s ρ K' L' => ∃ (i198 : Int), i198 = s ∧ Fits [(1, ii xb), (6, ii i198)] ρ ∧ K = K' ∧ F = L') ?_ ?_
 · refine CJ.block <| CJ.loop (fun s ρ K' L' => ∃ (i219 : Int) (i220 : Int), (i219, i220) = s ∧ Fits [(0, .string ⟨xa.toArray⟩), (1, ii xb), (6, ii i219), (7, ii i220)] ρ ∧ K = K' ∧ F = L') ho200 ⟨0, 0, rfl, ⟨rfl, rfl, rfl, rfl, trivial⟩, rfl, rfl⟩ ?_
   rintro s ρ _ _ r242 ⟨i219, i220, rfl, hf240, rfl, rfl⟩ h239
   obtain ⟨ρ, rfl⟩ := hf240.ex
   refine CJ.seq <| cr <| jm (ii i220) rfl <| jm (.string ⟨xa.toArray⟩) rfl <| jv (ii (((xa.length : Nat) : Int))) (V.lens Tryd.underlying9 rfl) <| jv (.bool (decide (i220 < (((xa.length : Nat) : Int))))) (V.lss rfl rfl) ?_
   refine J.nil <| cc rfl h239 (fun hc243 h239 => ?_) fun hc243 h239 => ?_
   · refine CJ.skip <| CJ.seq <| CJ.block <| cr <| jm (.string ⟨xa.toArray⟩) rfl <| jm (ii i220) rfl ?_
     obtain ⟨x244, hx245, h239⟩ := ob h239
     obtain ⟨p246, p247, p248⟩ := getI_some hx245
     refine jv (.int .u8 (((x244.toNat : Nat) : Int))) (V.ixs Tryd.underlying9 rfl rfl p246 p247) <| jv (.int .u8 (IntKind.wrap .u8 ((((x244.toNat : Nat) : Int)) - 48))) (V.sub rfl rfl) <| jv (ii (IntKind.wrap .i64 (IntKind.wrap .u8 ((((x244.toNat : Nat) : Int)) - 48)))) (V.conv Tryd.underlying5 Tryd.underlying3 rfl) <| ja (ii (IntKind.wrap .i64 (IntKind.wrap .u8 ((((x244.toNat : Nat) : Int)) - 48)))) rfl <| J.nil <| CJ.seq <| CJ.seq ?_
     refine CJ.region <| jm (ii i219) rfl <| jv (.bool (decide (922337203685477580 < i219))) (V.gtr rfl rfl) <| jm (.bool (decide (922337203685477580 < i219))) rfl <| J.cut 7 <| jmeet [(32, .bool ((decide (922337203685477580 < i219)) || ((decide (i219 = 922337203685477580)) && (decide (7 < (IntKind.wrap .i64 (IntKind.wrap .u8 ((((x244.toNat : Nat) : Int)) - 48)))))))), (0, .string ⟨xa.toArray⟩), (1, ii xb), (6, ii i219), (7, ii i220), (8, ii (IntKind.wrap .i64 (IntKind.wrap .u8 ((((x244.toNat : Nat) : Int)) - 48))))] ?_ ?_
     · rcases bt (decide (922337203685477580 < i219)) with hc254 | hc254
       · refine J.skip rfl rfl rfl rfl hc254 <| J.skip rfl rfl rfl rfl hc254 <| J.skip rfl rfl rfl rfl hc254 <| J.skipu rfl rfl rfl rfl <| J.skipu rfl rfl rfl rfl <| J.skip rfl rfl rfl rfl hc254 <| jv (.bool true) (V.pickT rfl hc254 rfl) ?_
         refine J.nil ?_
         exact ⟨rfl, ⟨(by simp only [hc254]; rfl), rfl, rfl, rfl, rfl, rfl, trivial⟩, rfl, rfl⟩
       refine J.run rfl rfl rfl hc254 <| jm (ii i219) rfl <| J.run rfl rfl rfl hc254 <| jv (.bool (decide (i219 = 922337203685477580))) (V.eql rfl rfl) <| J.run rfl rfl rfl hc254 <| jm (.bool (decide (i219 = 922337203685477580))) rfl <| J.cut 3 ?_
       refine jmeet [(31, .bool ((decide (i219 = 922337203685477580)) && (decide (7 < (IntKind.wrap .i64 (IntKind.wrap .u8 ((((x244.toNat : Nat) : Int)) - 48))))))), (0, .string ⟨xa.toArray⟩), (1, ii xb), (6, ii i219), (7, ii i220), (8, ii (IntKind.wrap .i64 (IntKind.wrap .u8 ((((x244.toNat : Nat) : Int)) - 48)))), (25, .bool (decide (922337203685477580 < i219)))] ?_ ?_
       · rcases bt (decide (i219 = 922337203685477580)) with hc257 | hc257
         · refine J.run rfl rfl rfl hc257 <| jm (ii (IntKind.wrap .i64 (IntKind.wrap .u8 ((((x244.toNat : Nat) : Int)) - 48)))) rfl <| J.run rfl rfl rfl hc257 <| jv (.bool (decide (7 < (IntKind.wrap .i64 (IntKind.wrap .u8 ((((x244.toNat : Nat) : Int)) - 48)))))) (V.gtr rfl rfl) <| J.run rfl rfl rfl hc254 <| jv (.bool (decide (7 < (IntKind.wrap .i64 (IntKind.wrap .u8 ((((x244.toNat : Nat) : Int)) - 48)))))) (V.pickT rfl hc257 rfl) <| J.nil ?_
           exact ⟨rfl, ⟨(by simp only [hc257]; rfl), rfl, rfl, rfl, rfl, rfl, rfl, trivial⟩, rfl, rfl⟩
         refine J.skip rfl rfl rfl rfl hc257 <| J.skip rfl rfl rfl rfl hc257 <| J.run rfl rfl rfl hc254 <| jv (.bool false) (V.pickF rfl hc257 rfl) <| J.nil ?_
         exact ⟨rfl, ⟨(by simp only [hc257]; rfl), rfl, rfl, rfl, rfl, rfl, rfl, trivial⟩, rfl, rfl⟩
       intro ρ
       refine jv (.bool ((decide (i219 = 922337203685477580)) && (decide (7 < (IntKind.wrap .i64 (IntKind.wrap .u8 ((((x244.toNat : Nat) : Int)) - 48))))))) (V.pickF rfl hc254 rfl) <| J.nil ?_
       exact ⟨rfl, ⟨(by simp only [hc254]; rfl), rfl, rfl, rfl, rfl, rfl, trivial⟩, rfl, rfl⟩
     intro ρ
     refine J.nil <| cc rfl h239 (fun hc258 h239 => ?_) fun hc258 h239 => ?_
     · refine cr <| ja (ii 0) rfl <| ja (ii 5) rfl <| J.nil <| CJ.ret ?_
       obtain rfl := si h239
       refine ⟨nofun, fun e => ?_⟩
       subst e
       refine .inr ⟨nofun, ?_⟩
       obtain rfl := si h
       exact ⟨_, _, Res.two rfl rfl rfl, ⟨0, 5, rfl, rfl, rfl⟩, (Hp.le_refl _), fun w hs => hs⟩
     refine CJ.skip <| CJ.region <| jm (ii i219) rfl <| jv (ii (IntKind.wrap .i64 (i219 * 10))) (V.mul rfl rfl) <| jm (ii (IntKind.wrap .i64 (IntKind.wrap .u8 ((((x244.toNat : Nat) : Int)) - 48)))) rfl <| jv (ii (IntKind.wrap .i64 ((IntKind.wrap .i64 (i219 * 10)) + (IntKind.wrap .i64 (IntKind.wrap .u8 ((((x244.toNat : Nat) : Int)) - 48)))))) (V.add rfl rfl) <| ja (ii (IntKind.wrap .i64 ((IntKind.wrap .i64 (i219 * 10)) + (IntKind.wrap .i64 (IntKind.wrap .u8 ((((x244.toNat : Nat) : Int)) - 48)))))) rfl ?_
     refine J.nil <| CJ.region <| jm (ii i220) rfl <| jv (ii (IntKind.wrap .i64 (i220 + 1))) (V.add rfl rfl) <| ja (ii (IntKind.wrap .i64 (i220 + 1))) rfl <| J.nil ?_
     obtain rfl := si h239
     exact ⟨rfl, ⟨IntKind.wrap .i64 ((IntKind.wrap .i64 (i219 * 10)) + (IntKind.wrap .i64 (IntKind.wrap .u8 ((((x244.toNat : Nat) : Int)) - 48)))), IntKind.wrap .i64 (i220 + 1), rfl, ⟨rfl, rfl, rfl, rfl, trivial⟩, rfl, rfl⟩⟩
   refine CJ.exit ?_
   obtain rfl := si h239
   refine ⟨nofun, fun e => ?_⟩
   subst e
   exact .inl ⟨rfl, _, rfl, ⟨i219, rfl, ⟨rfl, rfl, trivial⟩, rfl, rfl⟩⟩
 rintro s ρ _ _ ho259 ⟨i198, rfl, hf260, rfl, rfl⟩
 subst ho259
 obtain ⟨ρ, rfl⟩ := hf260.ex
 refine PJ.done <| CJ.seq <| cr <| jm (ii i198) rfl <| jm (ii xb) rfl <| jv (.bool (decide (xb < i198))) (V.gtr rfl rfl) ?_
 refine J.nil <| cc rfl h (fun hc262 h => ?_) fun hc262 h => ?_
 · refine cr <| ja (ii 0) rfl <| ja (ii 5) rfl <| J.nil <| CJ.ret ?_
   obtain rfl := si h
   exact ⟨_, _, Res.two rfl rfl rfl, ⟨0, 5, rfl, rfl, rfl⟩, (Hp.le_refl _), fun w hs => hs⟩
 refine CJ.skip <| cr <| jm (ii i198) rfl <| ja (ii i198) rfl <| ja (ii 0) rfl <| J.nil ?_
 refine CJ.ret ?_
 obtain rfl := si h
 exact ⟨_, _, Res.two rfl rfl rfl, ⟨i198, 0, rfl, rfl, rfl⟩, (Hp.le_refl _), fun w hs => hs⟩

noncomputable def fn_numeral_ParsePair (xa : (List UInt8)) (xb : Int) : Option (Int × Int × Int) :=
  (cutF xa ([58] : List UInt8)).bind fun (s33, s34, t35) => cond (!t35) (some ((0, 0, 3))) ((fn_numeral_Parse s33 xb).bind fun (i42, i43) => cond (!decide (i43 = 0)) (some ((0, 0, i43))) ((fn_numeral_Parse s34 xb).bind fun (i50, i51) => cond (!decide (i51 = 0)) (some ((0, 0, i51))) (some ((i42, i50, 0)))))
set_option maxRecDepth 100000 in
set_option maxHeartbeats 4000000 in
theorem numeral_ParsePair_ok {K : Hp} {xa : (List UInt8)} {xb : Int}  (fG : Gk K) {r : (Int × Int × Int)} (h : fn_numeral_ParsePair xa xb = some r) :
    Tr Tryd.prog 15 #[.string ⟨xa.toArray⟩, ii xb] K [] (fun v K' L' => (∃ (i27 : Int) (i28 : Int) (i29 : Int), (i27, i28, i29) = r ∧ .tuple #[.agg #[ii i27, ii i28], ii i29] = v ∧ L' = []) ∧ K = K') := by
 refine Tr.k <| Tr.of Tryd.func15 rfl Tryd.ntmps15 rfl fun E F => ?_
 unfold fn_numeral_ParsePair at h
 refine cr <| jal inf23 [ii 0, ii 0] rfl fun b30 => ja (ii 0) rfl <| J.nil <| CJ.seq <| CJ.region ?_
 refine jm (.string ⟨xa.toArray⟩) rfl ?_
 obtain ⟨r31, hr32, h⟩ := ob h
 refine J.op rfl (A.call (L1 := []) Tryd.call25 rfl (strings_Cut_ok fG hr32) rfl rfl) ?_
 rintro _ _ _ ⟨v36, _, rfl, ⟨⟨s33, s34, t35, rfl, rfl, rfl⟩, rfl⟩, _, rfl⟩
 refine jm (.tuple #[.string ⟨s33.toArray⟩, .string ⟨s34.toArray⟩, .bool t35]) rfl <| jx (.string ⟨s33.toArray⟩) rfl rfl <| jx (.string ⟨s34.toArray⟩) rfl rfl <| jx (.bool t35) rfl rfl <| ja (.string ⟨s33.toArray⟩) rfl <| ja (.string ⟨s34.toArray⟩) rfl <| ja (.bool t35) rfl ?_
 refine J.nil <| CJ.seq <| cr <| jm (.bool t35) rfl <| jv (.bool (!t35)) (V.not rfl) <| J.nil ?_
 refine cc rfl h (fun hc39 h => ?_) fun hc39 h => ?_
 · refine cr <| jv (.agg #[ii 0, ii 0]) (V.build inf23 places23 rfl rfl) <| js [ii 0, ii 0] sz23 rfl rfl rfl rfl rfl rfl <| ja (ii 3) rfl <| J.nil <| CJ.ret ?_
   obtain rfl := si h
   exact ⟨_, _, Res.two rfl ⟨_, _, rfl, Ld.agg (cs := [ii 0, ii 0]) Tryd.underlying23 sz23 rfl (Rd.cls 0 0 rfl rfl)⟩ rfl, ⟨0, 0, 3, rfl, rfl, rfl⟩, (Hp.le_refl _), fun w hs => (Sep.dropAt 0 rfl hs)⟩
 refine CJ.skip <| cr <| jm (.string ⟨s33.toArray⟩) rfl <| jm (ii xb) rfl ?_
 obtain ⟨r40, hr41, h⟩ := ob h
 refine J.op rfl (A.call (L1 := []) Tryd.call13 rfl (numeral_Parse_ok hr41) rfl rfl) ?_
 rintro _ _ _ ⟨v44, _, rfl, ⟨⟨i42, i43, rfl, rfl, rfl⟩, rfl⟩, _, rfl⟩
 refine jm (.tuple #[ii i42, ii i43]) rfl <| jx (ii i42) rfl rfl <| jx (ii i43) rfl rfl <| ja (ii i42) rfl <| ja (ii i43) rfl <| J.nil <| CJ.seq ?_
 refine cr <| jm (ii i43) rfl <| jv (.bool (!decide (i43 = 0))) (V.neq rfl rfl) <| J.nil <| cc rfl h (fun hc47 h => ?_) fun hc47 h => ?_
 · refine cr <| jv (.agg #[ii 0, ii 0]) (V.build inf23 places23 rfl rfl) <| jm (ii i43) rfl <| js [ii 0, ii 0] sz23 rfl rfl rfl rfl rfl rfl <| ja (ii i43) rfl <| J.nil ?_
   refine CJ.ret ?_
   obtain rfl := si h
   exact ⟨_, _, Res.two rfl ⟨_, _, rfl, Ld.agg (cs := [ii 0, ii 0]) Tryd.underlying23 sz23 rfl (Rd.cls 0 0 rfl rfl)⟩ rfl, ⟨0, 0, i43, rfl, rfl, rfl⟩, (Hp.le_refl _), fun w hs => (Sep.dropAt 0 rfl hs)⟩
 refine CJ.skip <| cr <| jm (.string ⟨s34.toArray⟩) rfl <| jm (ii xb) rfl ?_
 obtain ⟨r48, hr49, h⟩ := ob h
 refine J.op rfl (A.call (L1 := []) Tryd.call13 rfl (numeral_Parse_ok hr49) rfl rfl) ?_
 rintro _ _ _ ⟨v52, _, rfl, ⟨⟨i50, i51, rfl, rfl, rfl⟩, rfl⟩, _, rfl⟩
 refine jm (.tuple #[ii i50, ii i51]) rfl <| jx (ii i50) rfl rfl <| jx (ii i51) rfl rfl <| ja (ii i50) rfl <| ja (ii i51) rfl <| J.nil <| CJ.seq ?_
 refine cr <| jm (ii i51) rfl <| jv (.bool (!decide (i51 = 0))) (V.neq rfl rfl) <| J.nil <| cc rfl h (fun hc55 h => ?_) fun hc55 h => ?_
 · refine cr <| jv (.agg #[ii 0, ii 0]) (V.build inf23 places23 rfl rfl) <| jm (ii i51) rfl <| js [ii 0, ii 0] sz23 rfl rfl rfl rfl rfl rfl <| ja (ii i51) rfl <| J.nil ?_
   refine CJ.ret ?_
   obtain rfl := si h
   exact ⟨_, _, Res.two rfl ⟨_, _, rfl, Ld.agg (cs := [ii 0, ii 0]) Tryd.underlying23 sz23 rfl (Rd.cls 0 0 rfl rfl)⟩ rfl, ⟨0, 0, i51, rfl, rfl, rfl⟩, (Hp.le_refl _), fun w hs => (Sep.dropAt 0 rfl hs)⟩
 refine CJ.skip <| cr <| jm (ii i42) rfl <| jm (ii i50) rfl <| jv (.agg #[ii i42, ii i50]) (V.build inf23 places23 rfl rfl) <| js [ii i42, ii i50] sz23 rfl rfl rfl rfl rfl rfl ?_
 refine ja (ii 0) rfl <| J.nil <| CJ.ret ?_
 obtain rfl := si h
 exact ⟨_, _, Res.two rfl ⟨_, _, rfl, Ld.agg (cs := [ii i42, ii i50]) Tryd.underlying23 sz23 rfl (Rd.cls 0 0 rfl rfl)⟩ rfl, ⟨i42, i50, 0, rfl, rfl, rfl⟩, (Hp.le_refl _), fun w hs => (Sep.dropAt 0 rfl hs)⟩
noncomputable def fn_ref01_ParsePair_l1 (xa : (List UInt8)) (xb : Int) : Int → Option (Int ⊕ (Unit ⊕ (Int × Int × Int))) := fun (i305 : Int) => cond (decide (i305 < (((xa.length : Nat) : Int)))) ((getI xa i305).bind fun x339 => cond (!decide ((((x339.toNat : Nat) : Int)) = 58)) (some (.inl (IntKind.wrap .i64 (i305 + 1)))) ((subL xa 0 i305).bind fun y345 => (fn_ref01_Parse y345 xb).bind fun (i349, i350) => cond (!decide (i350 = 0)) (some (.inr ((.inr ((0, 0, i350)))))) ((subL xa (IntKind.wrap .i64 (i305 + 1)) (((xa.length : Nat) : Int))).bind fun y355 => (fn_ref01_Parse y355 xb).bind fun (i359, i360) => cond (!decide (i360 = 0)) (some (.inr ((.inr ((0, 0, i360)))))) (some (.inr ((.inr ((i349, i359, 0))))))))) (some (.inr ((.inl ()))))
noncomputable def fn_ref01_ParsePair (xa : (List UInt8)) (xb : Int) : Option (Int × Int × Int) :=
  (loop (fn_ref01_ParsePair_l1 xa xb) 0 : Option (Unit ⊕ (Int × Int × Int))).bind fun o => match o with | .inr r => some r | .inl () => some ((0, 0, 3))
set_option maxRecDepth 100000 in
set_option maxHeartbeats 4000000 in
theorem ref01_ParsePair_ok {K : Hp} {xa : (List UInt8)} {xb : Int}   {r : (Int × Int × Int)} (h : fn_ref01_ParsePair xa xb = some r) :
    Tr Tryd.prog 16 #[.string ⟨xa.toArray⟩, ii xb] K [] (fun v K' L' => (∃ (i183 : Int) (i184 : Int) (i185 : Int), (i183, i184, i185) = r ∧ .tuple #[.agg #[ii i183, ii i184], ii i185] = v ∧ L' = []) ∧ K = K') := by
 refine Tr.k <| Tr.of Tryd.func16 rfl Tryd.ntmps16 rfl fun E F => ?_
 unfold fn_ref01_ParsePair at h
 refine cr <| jal inf23 [ii 0, ii 0] rfl fun b186 => ja (ii 0) rfl <| J.nil <| CJ.seq <| CJ.seq ?_
 refine CJ.region <| ja (ii 0) rfl <| J.nil ?_
 obtain ⟨o275, ho276, h⟩ := ob h
 refine CJ.joinN (o := o275) (fun s ρ K' L' => () = s ∧ Fits [(4, .pointer (some ⟨b186, 0, none⟩))] ρ ∧ K = K' ∧ L' = Cl b186 23 [ii 0, ii 0] :: F) ?_ ?_
 · refine CJ.block <| CJ.loop (fun s ρ K' L' => ∃ (i305 : Int), i305 = s ∧ Fits [(0, .string ⟨xa.toArray⟩), (1, ii xb), (4, .pointer (some ⟨b186, 0, none⟩)), (6, ii i305)] ρ ∧ K = K' ∧ L' = Cl b186 23 [ii 0, ii 0] :: F) ho276 ⟨0, rfl, ⟨rfl, rfl, rfl, rfl, trivial⟩, rfl, rfl⟩ ?_
   rintro s ρ _ _ r337 ⟨i305, rfl, hf335, rfl, rfl⟩ h334
   obtain ⟨ρ, rfl⟩ := hf335.ex
   refine CJ.seq <| cr <| jm (ii i305) rfl <| jm (.string ⟨xa.toArray⟩) rfl <| jv (ii (((xa.length : Nat) : Int))) (V.lens Tryd.underlying9 rfl) <| jv (.bool (decide (i305 < (((xa.length : Nat) : Int))))) (V.lss rfl rfl) ?_
   refine J.nil <| cc rfl h334 (fun hc338 h334 => ?_) fun hc338 h334 => ?_
   · refine CJ.skip <| CJ.seq <| CJ.block <| CJ.seq <| cr <| jm (.string ⟨xa.toArray⟩) rfl ?_
     refine jm (ii i305) rfl ?_
     obtain ⟨x339, hx340, h334⟩ := ob h334
     obtain ⟨p341, p342, p343⟩ := getI_some hx340
     refine jv (.int .u8 (((x339.toNat : Nat) : Int))) (V.ixs Tryd.underlying9 rfl rfl p341 p342) <| jv (.bool (!decide ((((x339.toNat : Nat) : Int)) = 58))) (V.neq rfl rfl) <| J.nil <| cc rfl h334 (fun hc344 h334 => ?_) fun hc344 h334 => ?_
     · refine CJ.exit <| CJ.region <| jm (ii i305) rfl <| jv (ii (IntKind.wrap .i64 (i305 + 1))) (V.add rfl rfl) <| ja (ii (IntKind.wrap .i64 (i305 + 1))) rfl <| J.nil ?_
       obtain rfl := si h334
       exact ⟨rfl, ⟨IntKind.wrap .i64 (i305 + 1), rfl, ⟨rfl, rfl, rfl, rfl, trivial⟩, rfl, rfl⟩⟩
     refine CJ.skip <| cr <| jm (.string ⟨xa.toArray⟩) rfl <| jm (ii i305) rfl ?_
     obtain ⟨y345, hy346, h334⟩ := ob h334
     refine jv (.string ⟨y345.toArray⟩) (V.subs Tryd.underlying9 rfl nofun (fun _ => rfl) (fun _ h => by cases h; exact ⟨_, rfl⟩) nofun hy346) <| jm (ii xb) rfl ?_
     obtain ⟨r347, hr348, h334⟩ := ob h334
     refine J.op rfl (A.call (L1 := []) Tryd.call14 rfl (ref01_Parse_ok hr348) rfl rfl) ?_
     rintro _ _ _ ⟨v351, _, rfl, ⟨⟨i349, i350, rfl, rfl, rfl⟩, rfl⟩, _, rfl⟩
     refine jm (.tuple #[ii i349, ii i350]) rfl <| jx (ii i349) rfl rfl <| jx (ii i350) rfl rfl <| ja (ii i349) rfl <| ja (ii i350) rfl <| J.nil <| CJ.seq ?_
     refine cr <| jm (ii i350) rfl <| jv (.bool (!decide (i350 = 0))) (V.neq rfl rfl) <| J.nil <| cc rfl h334 (fun hc354 h334 => ?_) fun hc354 h334 => ?_
     · refine cr <| jv (.agg #[ii 0, ii 0]) (V.build inf23 places23 rfl rfl) <| jm (ii i350) rfl <| js [ii 0, ii 0] sz23 rfl rfl rfl rfl rfl rfl <| ja (ii i350) rfl <| J.nil ?_
       refine CJ.ret ?_
       obtain rfl := si h334
       refine ⟨nofun, fun e => ?_⟩
       subst e
       refine .inr ⟨nofun, ?_⟩
       obtain rfl := si h
       exact ⟨_, _, Res.two rfl ⟨_, _, rfl, Ld.agg (cs := [ii 0, ii 0]) Tryd.underlying23 sz23 rfl (Rd.cls 0 0 rfl rfl)⟩ rfl, ⟨0, 0, i350, rfl, rfl, rfl⟩, (Hp.le_refl _), fun w hs => (Sep.dropAt 0 rfl hs)⟩
     refine CJ.skip <| cr <| jm (.string ⟨xa.toArray⟩) rfl <| jm (ii i305) rfl <| jv (ii (IntKind.wrap .i64 (i305 + 1))) (V.add rfl rfl) ?_
     obtain ⟨y355, hy356, h334⟩ := ob h334
     refine jv (.string ⟨y355.toArray⟩) (V.subs Tryd.underlying9 rfl (fun _ h => by cases h; exact ⟨_, rfl⟩) nofun nofun (fun _ => rfl) hy356) <| jm (ii xb) rfl ?_
     obtain ⟨r357, hr358, h334⟩ := ob h334
     refine J.op rfl (A.call (L1 := []) Tryd.call14 rfl (ref01_Parse_ok hr358) rfl rfl) ?_
     rintro _ _ _ ⟨v361, _, rfl, ⟨⟨i359, i360, rfl, rfl, rfl⟩, rfl⟩, _, rfl⟩
     refine jm (.tuple #[ii i359, ii i360]) rfl <| jx (ii i359) rfl rfl <| jx (ii i360) rfl rfl <| ja (ii i359) rfl <| ja (ii i360) rfl <| J.nil <| CJ.seq ?_
     refine cr <| jm (ii i360) rfl <| jv (.bool (!decide (i360 = 0))) (V.neq rfl rfl) <| J.nil <| cc rfl h334 (fun hc364 h334 => ?_) fun hc364 h334 => ?_
     · refine cr <| jv (.agg #[ii 0, ii 0]) (V.build inf23 places23 rfl rfl) <| jm (ii i360) rfl <| js [ii 0, ii 0] sz23 rfl rfl rfl rfl rfl rfl <| ja (ii i360) rfl <| J.nil ?_
       refine CJ.ret ?_
       obtain rfl := si h334
       refine ⟨nofun, fun e => ?_⟩
       subst e
       refine .inr ⟨nofun, ?_⟩
       obtain rfl := si h
       exact ⟨_, _, Res.two rfl ⟨_, _, rfl, Ld.agg (cs := [ii 0, ii 0]) Tryd.underlying23 sz23 rfl (Rd.cls 0 0 rfl rfl)⟩ rfl, ⟨0, 0, i360, rfl, rfl, rfl⟩, (Hp.le_refl _), fun w hs => (Sep.dropAt 0 rfl hs)⟩
     refine CJ.skip <| cr <| jm (ii i349) rfl <| jm (ii i359) rfl <| jv (.agg #[ii i349, ii i359]) (V.build inf23 places23 rfl rfl) <| js [ii i349, ii i359] sz23 rfl rfl rfl rfl rfl rfl ?_
     refine ja (ii 0) rfl <| J.nil <| CJ.ret ?_
     obtain rfl := si h334
     refine ⟨nofun, fun e => ?_⟩
     subst e
     refine .inr ⟨nofun, ?_⟩
     obtain rfl := si h
     exact ⟨_, _, Res.two rfl ⟨_, _, rfl, Ld.agg (cs := [ii i349, ii i359]) Tryd.underlying23 sz23 rfl (Rd.cls 0 0 rfl rfl)⟩ rfl, ⟨i349, i359, 0, rfl, rfl, rfl⟩, (Hp.le_refl _), fun w hs => (Sep.dropAt 0 rfl hs)⟩
   refine CJ.exit ?_
   obtain rfl := si h334
   refine ⟨nofun, fun e => ?_⟩
   subst e
   exact .inl ⟨rfl, _, rfl, ⟨rfl, ⟨rfl, trivial⟩, rfl, rfl⟩⟩
 rintro s ρ _ _ ho365 ⟨rfl, hf366, rfl, rfl⟩
 subst ho365
 obtain ⟨ρ, rfl⟩ := hf366.ex
 refine PJ.done <| cr <| jv (.agg #[ii 0, ii 0]) (V.build inf23 places23 rfl rfl) <| js [ii 0, ii 0] sz23 rfl rfl rfl rfl rfl rfl <| ja (ii 3) rfl <| J.nil ?_
 refine CJ.ret ?_
 obtain rfl := si h
 exact ⟨_, _, Res.two rfl ⟨_, _, rfl, Ld.agg (cs := [ii 0, ii 0]) Tryd.underlying23 sz23 rfl (Rd.cls 0 0 rfl rfl)⟩ rfl, ⟨0, 0, 3, rfl, rfl, rfl⟩, (Hp.le_refl _), fun w hs => (Sep.dropAt 0 rfl hs)⟩
noncomputable def fn_ref01_ParseList_l1 (xa : (List UInt8)) (xb : Int) : ((List Int) × Int × Int) → Option (((List Int) × Int × Int) ⊕ ((List Int) ⊕ ((List Int) × Int))) := fun ((l502, i507, i508) : ((List Int) × Int × Int)) => cond ((decide (i508 ≤ (((xa.length : Nat) : Int)))) && (!decide (xa = ([] : List UInt8)))) ((cond (decide (i508 < (((xa.length : Nat) : Int)))) ((getI xa i508).bind fun x572 => some (!decide ((((x572.toNat : Nat) : Int)) = 44))) (some (false))).bind fun t569 => cond (t569) (some (.inl ((l502, i507, IntKind.wrap .i64 (i508 + 1))))) ((subL xa i507 i508).bind fun y578 => (fn_ref01_Parse y578 xb).bind fun (i582, i583) => cond (!decide (i583 = 0)) (some (.inr ((.inr (([], i583)))))) (cond (decide (i508 = (IntKind.wrap .i64 ((((xa.length : Nat) : Int)) - 1)))) (some (.inr ((.inr (([], 3)))))) ((app l502 ([i582] : List Int)).bind fun z594 => some (.inl ((z594, IntKind.wrap .i64 (i508 + 1), IntKind.wrap .i64 (i508 + 1)))))))) (some (.inr (.inl l502)))
noncomputable def fn_ref01_ParseList (xa : (List UInt8)) (xb : Int) : Option (((List Int) × Int)) :=
  (loop (fn_ref01_ParseList_l1 xa xb) ((([] : List Int), 0, 0)) : Option ((List Int) ⊕ ((List Int) × Int))).bind fun o => match o with | .inr r => some r | .inl l449 => some ((l449, 0))
set_option maxRecDepth 100000 in
set_option maxHeartbeats 4000000 in
theorem ref01_ParseList_ok {K : Hp} {xa : (List UInt8)} {xb : Int}   {r : ((List Int) × Int)} (h : fn_ref01_ParseList xa xb = some r) :
    Tr Tryd.prog 18 #[.string ⟨xa.toArray⟩, ii xb] K [] (fun v K' L' => (∃ (l298 : (List Int)) (i303 : Int) (ad299 : Option Addr) (cp300 : Nat), (l298, i303) = r ∧ .tuple #[.slice ad299 l298.length cp300, ii i303] = v ∧ L' = [Row Hp.nil 3 (.int .i64) (.slice ad299 l298.length cp300) l298]) ∧ K = K') := by
 refine Tr.k <| Tr.of Tryd.func18 rfl Tryd.ntmps18 rfl fun E F => ?_
 unfold fn_ref01_ParseList at h
 refine cr <| ja (nos) rfl <| ja (ii 0) rfl <| J.nil <| CJ.seq <| CJ.region ?_
 refine J.op rfl (A.lit (K0 := Hp.nil) (ty := (.int .i64)) (xs := ([] : List Int)) Tryd.underlying24 inf3 rfl (by decide) rfl rfl rfl rfl rfl (by decide)) ?_
 rintro _ _ _ ⟨b304, rfl, rfl, rfl⟩
 have hn305 : ([] : List Int) ≠ [] → ∃ g, (some ⟨b304, 0, none⟩ : Option Addr) = some ⟨g, 0, none⟩ := fun _ => ⟨b304, rfl⟩
 refine ja (.slice (some ⟨b304, 0, none⟩) (([] : List Int).length) 0) rfl <| J.nil <| cr <| ja (ii 0) rfl <| J.nil <| CJ.seq ?_
 refine cr <| ja (ii 0) rfl <| J.nil ?_
 obtain ⟨o454, ho455, h⟩ := ob h
 refine CJ.joinN (o := o454) (fun s ρ K' L' => ∃ (l449 : (List Int)) (ad450 : Option Addr) (cp451 : Nat), l449 = s ∧ Fits [(6, .slice ad450 l449.length cp451)] ρ ∧ K = K' ∧ L' = Row Hp.nil 3 (.int .i64) (.slice ad450 l449.length cp451) l449 :: F) ?_ ?_
 · refine CJ.block <| CJ.loop (fun s ρ K' L' => ∃ (l502 : (List Int)) (i507 : Int) (i508 : Int) (ad503 : Option Addr) (cp504 : Nat), (l502, i507, i508) = s ∧ Fits [(0, .string ⟨xa.toArray⟩), (1, ii xb), (6, .slice ad503 l502.length cp504), (7, ii i507), (8, ii i508)] ρ ∧ K = K' ∧ L' = Row Hp.nil 3 (.int .i64) (.slice ad503 l502.length cp504) l502 :: F) ho455 ⟨([] : List Int), 0, 0, (some ⟨b304, 0, none⟩), 0, rfl, ⟨rfl, rfl, rfl, rfl, rfl, trivial⟩, rfl, rfl⟩ ?_
   rintro s ρ _ _ r558 ⟨l502, i507, i508, ad503, cp504, rfl, hf556, rfl, rfl⟩ h555
   obtain ⟨ρ, rfl⟩ := hf556.ex
   refine CJ.wit Row.hn fun hn506 => CJ.seq <| cr <| jm (ii i508) rfl <| jm (.string ⟨xa.toArray⟩) rfl <| jv (ii (((xa.length : Nat) : Int))) (V.lens Tryd.underlying9 rfl) ?_
   refine jv (.bool (decide (i508 ≤ (((xa.length : Nat) : Int))))) (V.leq rfl rfl) <| jm (.bool (decide (i508 ≤ (((xa.length : Nat) : Int))))) rfl <| J.cut 3 <| jmeet [(19, .bool ((decide (i508 ≤ (((xa.length : Nat) : Int)))) && (!decide (xa = ([] : List UInt8))))), (0, .string ⟨xa.toArray⟩), (1, ii xb), (6, .slice ad503 l502.length cp504), (7, ii i507), (8, ii i508)] ?_ ?_
   · rcases bt (decide (i508 ≤ (((xa.length : Nat) : Int)))) with hc561 | hc561
     · refine J.run rfl rfl rfl hc561 <| jm (.string ⟨xa.toArray⟩) rfl <| J.run rfl rfl rfl hc561 <| jv (.bool (!decide (xa = ([] : List UInt8)))) (V.nes rfl rfl) <| jv (.bool (!decide (xa = ([] : List UInt8)))) (V.pickT rfl hc561 rfl) <| J.nil ?_
       exact ⟨rfl, ⟨(by simp only [hc561]; rfl), rfl, rfl, rfl, rfl, rfl, trivial⟩, rfl, rfl⟩
     refine J.skip rfl rfl rfl rfl hc561 <| J.skip rfl rfl rfl rfl hc561 <| jv (.bool false) (V.pickF rfl hc561 rfl) <| J.nil ?_
     exact ⟨rfl, ⟨(by simp only [hc561]; rfl), rfl, rfl, rfl, rfl, rfl, trivial⟩, rfl, rfl⟩
   intro ρ
   refine J.nil <| cc rfl h555 (fun hc562 h555 => ?_) fun hc562 h555 => ?_
   · refine CJ.skip <| CJ.seq <| CJ.block <| CJ.seq <| cr <| jm (ii i508) rfl ?_
     refine jm (.string ⟨xa.toArray⟩) rfl <| jv (ii (((xa.length : Nat) : Int))) (V.lens Tryd.underlying9 rfl) <| jv (.bool (decide (i508 < (((xa.length : Nat) : Int))))) (V.lss rfl rfl) <| jm (.bool (decide (i508 < (((xa.length : Nat) : Int))))) rfl <| J.cut 5 ?_
     obtain ⟨t569, ht570, h555⟩ := ob h555
     refine jmeet [(31, .bool t569), (0, .string ⟨xa.toArray⟩), (1, ii xb), (6, .slice ad503 l502.length cp504), (7, ii i507), (8, ii i508)] ?_ ?_
     · rcases bt (decide (i508 < (((xa.length : Nat) : Int)))) with hc571 | hc571
       · have ht570 := ct hc571 ht570
         refine J.run rfl rfl rfl hc571 <| jm (.string ⟨xa.toArray⟩) rfl <| J.run rfl rfl rfl hc571 <| jm (ii i508) rfl <| J.run rfl rfl rfl hc571 ?_
         obtain ⟨x572, hx573, ht570⟩ := ob ht570
         obtain ⟨p574, p575, p576⟩ := getI_some hx573
         refine jv (.int .u8 (((x572.toNat : Nat) : Int))) (V.ixs Tryd.underlying9 rfl rfl p574 p575) <| J.run rfl rfl rfl hc571 <| jv (.bool (!decide ((((x572.toNat : Nat) : Int)) = 44))) (V.neq rfl rfl) <| jv (.bool (!decide ((((x572.toNat : Nat) : Int)) = 44))) (V.pickT rfl hc571 rfl) <| J.nil ?_
         obtain rfl := si ht570
         exact ⟨rfl, ⟨rfl, rfl, rfl, rfl, rfl, rfl, trivial⟩, rfl, rfl⟩
       have ht570 := cf hc571 ht570
       refine J.skip rfl rfl rfl rfl hc571 <| J.skip rfl rfl rfl rfl hc571 <| J.skip rfl rfl rfl rfl hc571 <| J.skip rfl rfl rfl rfl hc571 <| jv (.bool false) (V.pickF rfl hc571 rfl) <| J.nil ?_
       obtain rfl := si ht570
       exact ⟨rfl, ⟨rfl, rfl, rfl, rfl, rfl, rfl, trivial⟩, rfl, rfl⟩
     intro ρ
     refine J.nil <| cc rfl h555 (fun hc577 h555 => ?_) fun hc577 h555 => ?_
     · refine CJ.exit <| CJ.region <| jm (ii i508) rfl <| jv (ii (IntKind.wrap .i64 (i508 + 1))) (V.add rfl rfl) <| ja (ii (IntKind.wrap .i64 (i508 + 1))) rfl <| J.nil ?_
       obtain rfl := si h555
       exact ⟨rfl, ⟨l502, i507, IntKind.wrap .i64 (i508 + 1), ad503, cp504, rfl, ⟨rfl, rfl, rfl, rfl, rfl, trivial⟩, rfl, rfl⟩⟩
     refine CJ.skip <| cr <| jm (.string ⟨xa.toArray⟩) rfl <| jm (ii i507) rfl <| jm (ii i508) rfl ?_
     obtain ⟨y578, hy579, h555⟩ := ob h555
     refine jv (.string ⟨y578.toArray⟩) (V.subs Tryd.underlying9 rfl (fun _ h => by cases h; exact ⟨_, rfl⟩) nofun (fun _ h => by cases h; exact ⟨_, rfl⟩) nofun hy579) <| jm (ii xb) rfl ?_
     obtain ⟨r580, hr581, h555⟩ := ob h555
     refine J.op rfl (A.call (L1 := []) Tryd.call14 rfl (ref01_Parse_ok hr581) rfl rfl) ?_
     rintro _ _ _ ⟨v584, _, rfl, ⟨⟨i582, i583, rfl, rfl, rfl⟩, rfl⟩, _, rfl⟩
     refine jm (.tuple #[ii i582, ii i583]) rfl <| jx (ii i582) rfl rfl <| jx (ii i583) rfl rfl <| ja (ii i582) rfl <| ja (ii i583) rfl <| J.nil <| CJ.seq ?_
     refine cr <| jm (ii i583) rfl <| jv (.bool (!decide (i583 = 0))) (V.neq rfl rfl) <| J.nil <| cc rfl h555 (fun hc587 h555 => ?_) fun hc587 h555 => ?_
     · refine cr <| jm (ii i583) rfl <| ja (nos) rfl <| ja (ii i583) rfl <| J.nil <| CJ.by (fun w hs => Sep.rowNil (e := 3) (t := (.int .i64)) hs) ?_
       refine CJ.ret ?_
       obtain rfl := si h555
       refine ⟨nofun, fun e => ?_⟩
       subst e
       refine .inr ⟨nofun, ?_⟩
       obtain rfl := si h
       exact ⟨_, _, Res.two rfl rfl rfl, ⟨[], i583, none, 0, rfl, rfl, rfl⟩, (Hp.le_refl _), fun w hs => (Sep.dropAt 1 rfl hs)⟩
     refine CJ.skip <| CJ.seq <| cr <| jm (ii i508) rfl <| jm (.string ⟨xa.toArray⟩) rfl <| jv (ii (((xa.length : Nat) : Int))) (V.lens Tryd.underlying9 rfl) ?_
     refine jv (ii (IntKind.wrap .i64 ((((xa.length : Nat) : Int)) - 1))) (V.sub rfl rfl) <| jv (.bool (decide (i508 = (IntKind.wrap .i64 ((((xa.length : Nat) : Int)) - 1))))) (V.eql rfl rfl) <| J.nil <| cc rfl h555 (fun hc589 h555 => ?_) fun hc589 h555 => ?_
     · refine cr <| ja (nos) rfl <| ja (ii 3) rfl <| J.nil <| CJ.by (fun w hs => Sep.rowNil (e := 3) (t := (.int .i64)) hs) <| CJ.ret ?_
       obtain rfl := si h555
       refine ⟨nofun, fun e => ?_⟩
       subst e
       refine .inr ⟨nofun, ?_⟩
       obtain rfl := si h
       exact ⟨_, _, Res.two rfl rfl rfl, ⟨[], 3, none, 0, rfl, rfl, rfl⟩, (Hp.le_refl _), fun w hs => (Sep.dropAt 1 rfl hs)⟩
     refine CJ.skip <| cr <| jm (.slice ad503 l502.length cp504) rfl <| jm (ii i582) rfl ?_
     refine J.op rfl (A.lit (K0 := Hp.nil) (ty := (.int .i64)) (xs := ([i582] : List Int)) Tryd.underlying24 inf3 rfl (by decide) rfl rfl rfl ⟨_, _, rfl, rfl, rfl⟩ rfl (by decide)) ?_
     rintro _ _ _ ⟨b591, rfl, rfl, rfl⟩
     have hn592 : ([i582] : List Int) ≠ [] → ∃ g, (some ⟨b591, 0, none⟩ : Option Addr) = some ⟨g, 0, none⟩ := fun _ => ⟨b591, rfl⟩
     obtain ⟨z594, hz595, h555⟩ := ob h555
     refine J.front 1 rfl <| J.op rfl (A.appR (Kr := Hp.nil) Tryd.underlying24 inf3 rfl rfl (by decide) (by decide) rfl rfl (Els.flat rfl) (Els.flat rfl) hz595) ?_
     rintro _ _ _ ⟨v596, rfl, rfl, rfl⟩
     refine J.wit Row.form ?_
     rintro ⟨ad597, cp598, rfl, _, _, hn599⟩
     refine ja (.slice ad597 z594.length cp598) rfl <| J.nil <| CJ.region <| jm (ii i508) rfl <| jv (ii (IntKind.wrap .i64 (i508 + 1))) (V.add rfl rfl) <| ja (ii (IntKind.wrap .i64 (i508 + 1))) rfl <| J.nil ?_
     refine CJ.region <| jm (ii i508) rfl <| jv (ii (IntKind.wrap .i64 (i508 + 1))) (V.add rfl rfl) <| ja (ii (IntKind.wrap .i64 (i508 + 1))) rfl <| J.nil ?_
     obtain rfl := si h555
     exact ⟨rfl, ⟨z594, IntKind.wrap .i64 (i508 + 1), IntKind.wrap .i64 (i508 + 1), ad597, cp598, rfl, ⟨rfl, rfl, rfl, rfl, rfl, trivial⟩, rfl, rfl⟩⟩
   refine CJ.exit ?_
   obtain rfl := si h555
   refine ⟨nofun, fun e => ?_⟩
   subst e
   exact .inl ⟨rfl, _, rfl, ⟨l502, ad503, cp504, rfl, ⟨rfl, trivial⟩, rfl, rfl⟩⟩
 rintro s ρ _ _ ho600 ⟨l449, ad450, cp451, rfl, hf601, rfl, rfl⟩
 subst ho600
 obtain ⟨ρ, rfl⟩ := hf601.ex
 refine PJ.wit Row.hn fun hn453 => PJ.done <| cr <| jm (.slice ad450 l449.length cp451) rfl <| ja (.slice ad450 l449.length cp451) rfl <| ja (ii 0) rfl ?_
 refine J.nil <| CJ.ret ?_
 obtain rfl := si h
 exact ⟨_, _, Res.two rfl rfl rfl, ⟨l449, 0, ad450, cp451, rfl, rfl, rfl⟩, (Hp.le_refl _), fun w hs => hs⟩
noncomputable def fn_ref01_Same_l1 (xa : (List Int)) (xb : (List Int)) : Int → Option (Int ⊕ (Unit ⊕ Bool)) := fun (i413 : Int) => cond (decide (i413 < (((xa.length : Nat) : Int)))) ((getI xa i413).bind fun x476 => (getI xb i413).bind fun x485 => cond (!decide (x476 = x485)) (some (.inr ((.inr (false))))) (some (.inl (IntKind.wrap .i64 (i413 + 1))))) (some (.inr ((.inl ()))))
noncomputable def fn_ref01_Same (xa : (List Int)) (xb : (List Int)) : Option Bool :=
  cond (!decide ((((xa.length : Nat) : Int)) = (((xb.length : Nat) : Int)))) (some (false)) ((loop (fn_ref01_Same_l1 xa xb) 0 : Option (Unit ⊕ Bool)).bind fun o => match o with | .inr r => some r | .inl () => some (true))
set_option maxRecDepth 100000 in
set_option maxHeartbeats 4000000 in
theorem ref01_Same_ok {K : Hp} {xa : (List Int)} {xb : (List Int)} {adxa_0 : Option Addr} {cpxa_0 : Nat} {adxb_0 : Option Addr} {cpxb_0 : Nat} (fxa_0 : Is K (.sl (.int .i64)) [.slice adxa_0 xa.length cpxa_0] xa) (fxb_0 : Is K (.sl (.int .i64)) [.slice adxb_0 xb.length cpxb_0] xb) {r : Bool} (h : fn_ref01_Same xa xb = some r) :
    Tr Tryd.prog 19 #[.slice adxa_0 xa.length cpxa_0, .slice adxb_0 xb.length cpxb_0] K [] (fun v K' L' => (∃ (t249 : Bool), t249 = r ∧ .bool t249 = v ∧ L' = []) ∧ K = K') := by
 refine Tr.k <| Tr.of Tryd.func19 rfl Tryd.ntmps19 rfl fun E F => ?_
 unfold fn_ref01_Same at h
 refine cr <| ja (.bool false) rfl <| J.nil <| CJ.seq <| CJ.seq <| CJ.region ?_
 refine jm (.slice adxa_0 xa.length cpxa_0) rfl <| jv (ii (((xa.length : Nat) : Int))) (V.len Tryd.underlying24 rfl) <| jm (.slice adxb_0 xb.length cpxb_0) rfl <| jv (ii (((xb.length : Nat) : Int))) (V.len Tryd.underlying24 rfl) <| jv (.bool (!decide ((((xa.length : Nat) : Int)) = (((xb.length : Nat) : Int))))) (V.neq rfl rfl) <| J.nil <| cc rfl h (fun hc250 h => ?_) fun hc250 h => ?_
 · refine cr <| ja (.bool false) rfl <| J.nil <| CJ.ret ?_
   obtain rfl := si h
   exact ⟨_, _, Res.one rfl rfl, ⟨false, rfl, rfl, rfl⟩, (Hp.le_refl _), fun w hs => hs⟩
 refine CJ.skip <| CJ.seq <| cr <| ja (ii 0) rfl <| J.nil ?_
 obtain ⟨o372, ho373, h⟩ := ob h
 refine CJ.joinN (o := o372) (fun s ρ K' L' => () = s ∧ Fits [] ρ ∧ K = K' ∧ F = L') ?_ ?_
 · refine CJ.block <| CJ.loop (fun s ρ K' L' => ∃ (i413 : Int), i413 = s ∧ Fits [(0, .slice adxa_0 xa.length cpxa_0), (1, .slice adxb_0 xb.length cpxb_0), (5, ii i413)] ρ ∧ K = K' ∧ F = L') ho373 ⟨0, rfl, ⟨rfl, rfl, rfl, trivial⟩, rfl, rfl⟩ ?_
   rintro s ρ _ _ r456 ⟨i413, rfl, hf454, rfl, rfl⟩ h453
   obtain ⟨ρ, rfl⟩ := hf454.ex
   refine CJ.seq <| cr <| jm (ii i413) rfl <| jm (.slice adxa_0 xa.length cpxa_0) rfl <| jv (ii (((xa.length : Nat) : Int))) (V.len Tryd.underlying24 rfl) <| jv (.bool (decide (i413 < (((xa.length : Nat) : Int))))) (V.lss rfl rfl) ?_
   refine J.nil <| cc rfl h453 (fun hc457 h453 => ?_) fun hc457 h453 => ?_
   · refine CJ.skip <| CJ.seq <| CJ.block <| CJ.seq <| CJ.mix [] [] [0, 1, 2, 3, 4, 5, 6, 7, 8] [] mixO (by decide +kernel) trivial rfl rfl rfl <| JM.nil <| qm (.slice adxa_0 xa.length cpxa_0) rfl ?_
     refine qm (ii i413) rfl ?_
     obtain ⟨x476, hx477, h453⟩ := ob h453
     obtain ⟨p478, p479, p480⟩ := getI_some hx477
     obtain ⟨b481, o482, e483, a484⟩ := (fxa_0).at p479
     refine qv _ (V.iad Tryd.underlying24 sz3 rfl e483 rfl p478 p480) <| qv (ii x476) (V.ld rfl (Ld.sc sc3 (Rd.k (a484).int (Hp.le_refl _)))) <| qm (.slice adxb_0 xb.length cpxb_0) rfl <| qm (ii i413) rfl ?_
     obtain ⟨x485, hx486, h453⟩ := ob h453
     obtain ⟨p487, p488, p489⟩ := getI_some hx486
     obtain ⟨b490, o491, e492, a493⟩ := (fxb_0).at p488
     refine qv _ (V.iad Tryd.underlying24 sz3 rfl e492 rfl p487 p489) <| qv (ii x485) (V.ld rfl (Ld.sc sc3 (Rd.k (a493).int (Hp.le_refl _)))) <| qv (.bool (!decide (x476 = x485))) (V.neq rfl rfl) <| JQ.nil <| J.nil <| cc rfl h453 (fun hc494 h453 => ?_) fun hc494 h453 => ?_
     · refine cr <| ja (.bool false) rfl <| J.nil <| CJ.ret ?_
       obtain rfl := si h453
       refine ⟨nofun, fun e => ?_⟩
       subst e
       refine .inr ⟨nofun, ?_⟩
       obtain rfl := si h
       exact ⟨_, _, Res.one rfl rfl, ⟨false, rfl, rfl, rfl⟩, (Hp.le_refl _), fun w hs => hs⟩
     refine CJ.skip <| CJ.region <| jm (ii i413) rfl <| jv (ii (IntKind.wrap .i64 (i413 + 1))) (V.add rfl rfl) <| ja (ii (IntKind.wrap .i64 (i413 + 1))) rfl <| J.nil ?_
     obtain rfl := si h453
     exact ⟨rfl, ⟨IntKind.wrap .i64 (i413 + 1), rfl, ⟨rfl, rfl, rfl, trivial⟩, rfl, rfl⟩⟩
   refine CJ.exit ?_
   obtain rfl := si h453
   refine ⟨nofun, fun e => ?_⟩
   subst e
   exact .inl ⟨rfl, _, rfl, ⟨rfl, trivial, rfl, rfl⟩⟩
 rintro s ρ _ _ ho495 ⟨rfl, hf496, rfl, rfl⟩
 subst ho495
 obtain ⟨ρ, rfl⟩ := hf496.ex
 refine PJ.done <| cr <| ja (.bool true) rfl <| J.nil <| CJ.ret ?_
 obtain rfl := si h
 exact ⟨_, _, Res.one rfl rfl, ⟨true, rfl, rfl, rfl⟩, (Hp.le_refl _), fun w hs => hs⟩

noncomputable def fn_law01_NumeralReads (xa : (List UInt8)) (xb : Int) : Option Bool :=
  cond (decide (500 < (((xa.length : Nat) : Int)))) ((fn_law01_awake).bind fun t122 => some (t122)) ((fn_numeral_Parse xa xb).bind fun (i128, i129) => (fn_ref01_Parse xa xb).bind fun (i135, i136) => (fn_numeral_ParsePair xa xb).bind fun (i142, i143, i144) => (fn_ref01_ParsePair xa xb).bind fun (i151, i152, i153) => (fn_numeral_ParseList xa xb).bind fun (l160, i161) => (fn_ref01_ParseList xa xb).bind fun (l171, i172) => (cond ((((decide (i128 = i135)) && (decide (i129 = i136))) && ((decide (i142 = i151)) && ((decide (i143 = i152))))) && (decide (i144 = i153))) ((fn_ref01_Same l160 l171).bind fun t213 => some (t213)) (some (false))).bind fun t202 => (cond (t202 && (decide (i161 = i172))) ((fn_law01_awake).bind fun t232 => some (t232)) (some (false))).bind fun t227 => some (t227))
set_option maxRecDepth 100000 in
set_option maxHeartbeats 4000000 in
theorem law01_NumeralReads_ok {K : Hp} {xa : (List UInt8)} {xb : Int}  (fG : Gk K) {r : Bool} (h : fn_law01_NumeralReads xa xb = some r) :
    Tr Tryd.prog 4 #[.string ⟨xa.toArray⟩, ii xb] K [] (fun v K' L' => (∃ (t118 : Bool), t118 = r ∧ .bool t118 = v ∧ L' = []) ∧ K = K') := by
 refine Tr.k <| Tr.of Tryd.func4 rfl Tryd.ntmps4 rfl fun E F => ?_
 unfold fn_law01_NumeralReads at h
 refine cr <| ja (.bool false) rfl <| J.nil <| CJ.seq <| CJ.seq <| CJ.region ?_
 refine jm (.string ⟨xa.toArray⟩) rfl <| jv (ii (((xa.length : Nat) : Int))) (V.lens Tryd.underlying9 rfl) <| jv (.bool (decide (500 < (((xa.length : Nat) : Int))))) (V.gtr rfl rfl) <| J.nil <| cc rfl h (fun hc119 h => ?_) fun hc119 h => ?_
 · refine CJ.seq <| CJ.region ?_
   obtain ⟨r120, hr121, h⟩ := ob h
   refine J.op rfl (A.call (L1 := []) Tryd.call6 rfl (law01_awake_ok fG hr121) rfl rfl) ?_
   rintro _ _ _ ⟨v123, _, rfl, ⟨⟨t122, rfl, rfl, rfl⟩, rfl⟩, _, rfl⟩
   refine ja (.bool t122) rfl <| J.nil <| CJ.ret ?_
   obtain rfl := si h
   exact ⟨_, _, Res.one rfl rfl, ⟨t122, rfl, rfl, rfl⟩, (Hp.le_refl _), fun w hs => hs⟩
 refine CJ.skip <| cr <| jm (.string ⟨xa.toArray⟩) rfl <| jm (ii xb) rfl ?_
 obtain ⟨r126, hr127, h⟩ := ob h
 refine J.op rfl (A.call (L1 := []) Tryd.call13 rfl (numeral_Parse_ok hr127) rfl rfl) ?_
 rintro _ _ _ ⟨v130, _, rfl, ⟨⟨i128, i129, rfl, rfl, rfl⟩, rfl⟩, _, rfl⟩
 refine jm (.tuple #[ii i128, ii i129]) rfl <| jx (ii i128) rfl rfl <| jx (ii i129) rfl rfl <| ja (ii i128) rfl <| ja (ii i129) rfl <| J.nil <| CJ.seq ?_
 refine CJ.region <| jm (.string ⟨xa.toArray⟩) rfl <| jm (ii xb) rfl ?_
 obtain ⟨r133, hr134, h⟩ := ob h
 refine J.op rfl (A.call (L1 := []) Tryd.call14 rfl (ref01_Parse_ok hr134) rfl rfl) ?_
 rintro _ _ _ ⟨v137, _, rfl, ⟨⟨i135, i136, rfl, rfl, rfl⟩, rfl⟩, _, rfl⟩
 refine jm (.tuple #[ii i135, ii i136]) rfl <| jx (ii i135) rfl rfl <| jx (ii i136) rfl rfl <| ja (ii i135) rfl <| ja (ii i136) rfl <| J.nil <| CJ.seq ?_
 refine CJ.region <| jm (.string ⟨xa.toArray⟩) rfl <| jm (ii xb) rfl ?_
 obtain ⟨r140, hr141, h⟩ := ob h
 refine J.op rfl (A.call (L1 := []) Tryd.call15 rfl (numeral_ParsePair_ok fG hr141) rfl rfl) ?_
 rintro _ _ _ ⟨v145, _, rfl, ⟨⟨i142, i143, i144, rfl, rfl, rfl⟩, rfl⟩, _, rfl⟩
 refine jm (.tuple #[.agg #[ii i142, ii i143], ii i144]) rfl <| jx (.agg #[ii i142, ii i143]) rfl rfl <| jx (ii i144) rfl rfl <| jal inf23 [ii 0, ii 0] rfl fun b148 => js [ii i142, ii i143] sz23 rfl rfl rfl rfl rfl rfl <| ja (ii i144) rfl <| J.nil ?_
 refine cr <| jm (.string ⟨xa.toArray⟩) rfl <| jm (ii xb) rfl ?_
 obtain ⟨r149, hr150, h⟩ := ob h
 refine J.op rfl (A.call (L1 := []) Tryd.call16 rfl (ref01_ParsePair_ok hr150) rfl rfl) ?_
 rintro _ _ _ ⟨v154, _, rfl, ⟨⟨i151, i152, i153, rfl, rfl, rfl⟩, rfl⟩, _, rfl⟩
 refine jm (.tuple #[.agg #[ii i151, ii i152], ii i153]) rfl <| jx (.agg #[ii i151, ii i152]) rfl rfl <| jx (ii i153) rfl rfl <| jal inf23 [ii 0, ii 0] rfl fun b157 => js [ii i151, ii i152] sz23 rfl rfl rfl rfl rfl rfl <| ja (ii i153) rfl <| J.nil ?_
 refine cr <| jm (.string ⟨xa.toArray⟩) rfl <| jm (ii xb) rfl ?_
 obtain ⟨r158, hr159, h⟩ := ob h
 refine J.op rfl (A.call (L1 := []) Tryd.call17 rfl (numeral_ParseList_ok fG hr159) rfl rfl) ?_
 rintro _ _ _ ⟨v165, _, rfl, ⟨⟨l160, i161, ad162, cp163, rfl, rfl, rfl⟩, rfl⟩, _, rfl⟩
 refine J.wit Row.hn fun hn164 => jm (.tuple #[.slice ad162 l160.length cp163, ii i161]) rfl <| jx (.slice ad162 l160.length cp163) rfl rfl <| jx (ii i161) rfl rfl <| ja (.slice ad162 l160.length cp163) rfl <| ja (ii i161) rfl <| J.nil ?_
 refine cr <| jm (.string ⟨xa.toArray⟩) rfl <| jm (ii xb) rfl ?_
 obtain ⟨r169, hr170, h⟩ := ob h
 refine J.op rfl (A.call (L1 := []) Tryd.call18 rfl (ref01_ParseList_ok hr170) rfl rfl) ?_
 rintro _ _ _ ⟨v176, _, rfl, ⟨⟨l171, i172, ad173, cp174, rfl, rfl, rfl⟩, rfl⟩, _, rfl⟩
 refine J.wit Row.hn fun hn175 => jm (.tuple #[.slice ad173 l171.length cp174, ii i172]) rfl <| jx (.slice ad173 l171.length cp174) rfl rfl <| jx (ii i172) rfl rfl <| ja (.slice ad173 l171.length cp174) rfl <| ja (ii i172) rfl <| J.nil ?_
 refine cr <| jm (ii i128) rfl <| jm (ii i135) rfl <| jv (.bool (decide (i128 = i135))) (V.eql rfl rfl) <| jm (.bool (decide (i128 = i135))) rfl <| J.cut 4 ?_
 refine jmeet [(64, .bool ((decide (i128 = i135)) && (decide (i129 = i136)))), (9, .pointer (some ⟨b148, 0, none⟩)), (10, ii i144), (11, .pointer (some ⟨b157, 0, none⟩)), (12, ii i153), (13, .slice ad162 l160.length cp163), (14, ii i161), (15, .slice ad173 l171.length cp174), (16, ii i172)] ?_ ?_
 · rcases bt (decide (i128 = i135)) with hc182 | hc182
   · refine J.run rfl rfl rfl hc182 <| jm (ii i129) rfl <| J.run rfl rfl rfl hc182 <| jm (ii i136) rfl <| J.run rfl rfl rfl hc182 <| jv (.bool (decide (i129 = i136))) (V.eql rfl rfl) <| jv (.bool (decide (i129 = i136))) (V.pickT rfl hc182 rfl) ?_
     refine J.nil ?_
     exact ⟨rfl, ⟨(by simp only [hc182]; rfl), rfl, rfl, rfl, rfl, rfl, rfl, rfl, rfl, trivial⟩, rfl, rfl⟩
   refine J.skip rfl rfl rfl rfl hc182 <| J.skip rfl rfl rfl rfl hc182 <| J.skip rfl rfl rfl rfl hc182 <| jv (.bool false) (V.pickF rfl hc182 rfl) <| J.nil ?_
   exact ⟨rfl, ⟨(by simp only [hc182]; rfl), rfl, rfl, rfl, rfl, rfl, rfl, rfl, rfl, trivial⟩, rfl, rfl⟩
 intro ρ
 refine jm (.bool ((decide (i128 = i135)) && (decide (i129 = i136)))) rfl <| J.cut 4 <| jmeet [(69, .bool (((decide (i128 = i135)) && (decide (i129 = i136))) && ((decide (i142 = i151)) && ((decide (i143 = i152)))))), (10, ii i144), (12, ii i153), (13, .slice ad162 l160.length cp163), (14, ii i161), (15, .slice ad173 l171.length cp174), (16, ii i172)] ?_ ?_
 · rcases bt ((decide (i128 = i135)) && (decide (i129 = i136))) with hc185 | hc185
   · refine J.run rfl rfl rfl hc185 <| jv (.agg #[ii i142, ii i143]) (V.ld rfl (Ld.agg (cs := [ii i142, ii i143]) Tryd.underlying23 sz23 rfl (Rd.cls 3 0 rfl rfl))) <| J.run rfl rfl rfl hc185 <| jv (.agg #[ii i151, ii i152]) (V.ld rfl (Ld.agg (cs := [ii i151, ii i152]) Tryd.underlying23 sz23 rfl (Rd.cls 2 0 rfl rfl))) <| J.run rfl rfl rfl hc185 <| jv (.bool ((decide (i142 = i151)) && ((decide (i143 = i152))))) (V.eqst eqg23 (EqIn.st (d := 9999) rfl Tryd.underlying23 sih23 (EqFs.cons (by decide) (Ld0.sc sc3 rfl) (Ld0.sc sc3 rfl) (EqIn.int (d := 9998) rfl Tryd.underlying3) (EqFs.last (by decide) (Ld0.sc sc3 rfl) (Ld0.sc sc3 rfl) (EqIn.int (d := 9998) rfl Tryd.underlying3)))) rfl rfl) <| jv (.bool ((decide (i142 = i151)) && ((decide (i143 = i152))))) (V.pickT rfl hc185 rfl) ?_
     refine J.nil ?_
     exact ⟨rfl, ⟨(by simp only [hc185]; rfl), rfl, rfl, rfl, rfl, rfl, rfl, trivial⟩, rfl, rfl⟩
   refine J.skip rfl rfl rfl rfl hc185 <| J.skip rfl rfl rfl rfl hc185 <| J.skip rfl rfl rfl rfl hc185 <| jv (.bool false) (V.pickF rfl hc185 rfl) <| J.nil ?_
   exact ⟨rfl, ⟨(by simp only [hc185]; rfl), rfl, rfl, rfl, rfl, rfl, rfl, trivial⟩, rfl, rfl⟩
 intro ρ
 refine jm (.bool (((decide (i128 = i135)) && (decide (i129 = i136))) && ((decide (i142 = i151)) && ((decide (i143 = i152)))))) rfl <| J.cut 4 <| jmeet [(74, .bool ((((decide (i128 = i135)) && (decide (i129 = i136))) && ((decide (i142 = i151)) && ((decide (i143 = i152))))) && (decide (i144 = i153)))), (13, .slice ad162 l160.length cp163), (14, ii i161), (15, .slice ad173 l171.length cp174), (16, ii i172)] ?_ ?_
 · rcases bt (((decide (i128 = i135)) && (decide (i129 = i136))) && ((decide (i142 = i151)) && ((decide (i143 = i152))))) with hc188 | hc188
   · refine J.run rfl rfl rfl hc188 <| jm (ii i144) rfl <| J.run rfl rfl rfl hc188 <| jm (ii i153) rfl <| J.run rfl rfl rfl hc188 <| jv (.bool (decide (i144 = i153))) (V.eql rfl rfl) <| jv (.bool (decide (i144 = i153))) (V.pickT rfl hc188 rfl) ?_
     refine J.nil ?_
     exact ⟨rfl, ⟨(by simp only [hc188]; rfl), rfl, rfl, rfl, rfl, trivial⟩, rfl, rfl⟩
   refine J.skip rfl rfl rfl rfl hc188 <| J.skip rfl rfl rfl rfl hc188 <| J.skip rfl rfl rfl rfl hc188 <| jv (.bool false) (V.pickF rfl hc188 rfl) <| J.nil ?_
   exact ⟨rfl, ⟨(by simp only [hc188]; rfl), rfl, rfl, rfl, rfl, trivial⟩, rfl, rfl⟩
 intro ρ
 refine jm (.bool ((((decide (i128 = i135)) && (decide (i129 = i136))) && ((decide (i142 = i151)) && ((decide (i143 = i152))))) && (decide (i144 = i153)))) rfl <| J.cut 4 ?_
 obtain ⟨t202, ht203, h⟩ := ob h
 refine jmeet [(79, .bool t202), (14, ii i161), (16, ii i172)] ?_ ?_
 · rcases bt ((((decide (i128 = i135)) && (decide (i129 = i136))) && ((decide (i142 = i151)) && ((decide (i143 = i152))))) && (decide (i144 = i153))) with hc204 | hc204
   · have ht203 := ct hc204 ht203
     refine J.run rfl rfl rfl hc204 <| jm (.slice ad162 l160.length cp163) rfl <| J.run rfl rfl rfl hc204 <| jm (.slice ad173 l171.length cp174) rfl <| J.run rfl rfl rfl hc204 ?_
     obtain ⟨r205, hr206, ht203⟩ := ob ht203
     refine J.front 1 rfl <| J.op rfl (A.call (L1 := [Row Hp.nil 3 (.int .i64) (.slice ad162 l160.length cp163) l160, Row Hp.nil 3 (.int .i64) (.slice ad173 l171.length cp174) l171]) Tryd.call19 rfl (Tr.lend (Hp.nil_le _) (by decide) (fun K207 hK208 f209 => Tr.lend (Hp.nil_le _) (by decide) (fun K210 hK211 f212 => ref01_Same_ok (f209.mono hK211) f212 hr206))) rfl rfl) ?_
     rintro _ _ _ ⟨v214, _, rfl, ⟨⟨_, ⟨_, ⟨t213, rfl, rfl, rfl⟩, rfl⟩, rfl⟩, rfl⟩, _, rfl⟩
     refine jv (.bool t213) (V.pickT rfl hc204 rfl) <| J.front 3 rfl <| J.front 3 rfl <| J.front 2 rfl <| J.front 3 rfl <| J.nil ?_
     obtain rfl := si ht203
     exact ⟨rfl, ⟨rfl, rfl, rfl, trivial⟩, rfl, rfl⟩
   have ht203 := cf hc204 ht203
   refine J.skip rfl rfl rfl rfl hc204 <| J.skip rfl rfl rfl rfl hc204 <| J.skip rfl rfl rfl rfl hc204 <| jv (.bool false) (V.pickF rfl hc204 rfl) <| J.nil ?_
   obtain rfl := si ht203
   exact ⟨rfl, ⟨rfl, rfl, rfl, trivial⟩, rfl, rfl⟩
 intro ρ
 refine jm (.bool t202) rfl <| J.cut 4 <| jmeet [(84, .bool (t202 && (decide (i161 = i172))))] ?_ ?_
 · rcases bt (t202) with hc219 | hc219
   · refine J.run rfl rfl rfl hc219 <| jm (ii i161) rfl <| J.run rfl rfl rfl hc219 <| jm (ii i172) rfl <| J.run rfl rfl rfl hc219 <| jv (.bool (decide (i161 = i172))) (V.eql rfl rfl) <| jv (.bool (decide (i161 = i172))) (V.pickT rfl hc219 rfl) ?_
     refine J.nil ?_
     exact ⟨rfl, ⟨(by simp only [hc219]; rfl), trivial⟩, rfl, rfl⟩
   refine J.skip rfl rfl rfl rfl hc219 <| J.skip rfl rfl rfl rfl hc219 <| J.skip rfl rfl rfl rfl hc219 <| jv (.bool false) (V.pickF rfl hc219 rfl) <| J.nil ?_
   exact ⟨rfl, ⟨(by simp only [hc219]; rfl), trivial⟩, rfl, rfl⟩
 intro ρ
 refine jm (.bool (t202 && (decide (i161 = i172)))) rfl <| J.cut 2 ?_
 obtain ⟨t227, ht228, h⟩ := ob h
 refine jmeet [(87, .bool t227)] ?_ ?_
 · rcases bt (t202 && (decide (i161 = i172))) with hc229 | hc229
   · have ht228 := ct hc229 ht228
     refine J.run rfl rfl rfl hc229 ?_
     obtain ⟨r230, hr231, ht228⟩ := ob ht228
     refine J.op rfl (A.call (L1 := []) Tryd.call6 rfl (law01_awake_ok fG hr231) rfl rfl) ?_
     rintro _ _ _ ⟨v233, _, rfl, ⟨⟨t232, rfl, rfl, rfl⟩, rfl⟩, _, rfl⟩
     refine jv (.bool t232) (V.pickT rfl hc229 rfl) <| J.nil ?_
     obtain rfl := si ht228
     exact ⟨rfl, ⟨rfl, trivial⟩, rfl, rfl⟩
   have ht228 := cf hc229 ht228
   refine J.skip rfl rfl rfl rfl hc229 <| jv (.bool false) (V.pickF rfl hc229 rfl) <| J.nil ?_
   obtain rfl := si ht228
   exact ⟨rfl, ⟨rfl, trivial⟩, rfl, rfl⟩
 intro ρ
 refine ja (.bool t227) rfl <| J.nil <| CJ.ret ?_
 obtain rfl := si h
 exact ⟨_, _, Res.one rfl rfl, ⟨t227, rfl, rfl, rfl⟩, (Hp.le_refl _), fun w hs => (Sep.dropAt 0 rfl (Sep.dropAt 0 rfl (Sep.dropAt 0 rfl (Sep.dropAt 0 rfl hs))))⟩
noncomputable def fn_law01_NumeralBack_l1 (xc : (List Int)) : (Bool × Int) → Option ((Bool × Int) ⊕ Bool) := fun ((t596, i597) : (Bool × Int)) => cond (decide (i597 < (((xc.length : Nat) : Int)))) ((cond (t596) (some (true)) ((getI xc i597).bind fun x641 => some (decide (x641 < 0)))).bind fun t638 => some (.inl ((t638, IntKind.wrap .i64 (i597 + 1))))) (some (.inr (t596)))
noncomputable def fn_law01_NumeralBack (xa : Int) (xb : (Int × Int)) (xc : (List Int)) (xd : (List UInt8)) : Option Bool :=
  cond ((decide (100 < (((xc.length : Nat) : Int)))) || (decide (500 < (((xd.length : Nat) : Int))))) ((fn_law01_awake).bind fun t420 => some (t420)) ((fn_numeral_Text xa).bind fun s426 => (fn_numeral_Parse s426 9223372036854775807).bind fun (i432, i433) => (fn_numeral_Pair (xb.1, xb.2)).bind fun s439 => (fn_numeral_ParsePair s439 9223372036854775807).bind fun (i445, i446, i447) => (fn_numeral_List xc).bind fun s454 => (fn_numeral_ParseList s454 9223372036854775807).bind fun (l460, i461) => cond ((((decide (0 ≤ xa)) && ((!decide (i432 = xa)) || (!decide (i433 = 0)))) || ((decide (xa < 0)) && (!decide (i433 = 3)))) || (((decide (0 ≤ xb.1)) && (decide (0 ≤ xb.2))) && ((!((decide (i445 = xb.1)) && ((decide (i446 = xb.2))))) || (!decide (i447 = 0))))) (some (false)) ((loop (fn_law01_NumeralBack_l1 xc) (false, 0) : Option Bool).bind fun t581 => (cond (!t581) ((fn_ref01_Same l460 xc).bind fun t673 => some ((!t673) || (!decide (i461 = 0)))) (some (false))).bind fun t665 => cond (t665) (some (false)) ((fn_numeral_Parse xd 9223372036854775807).bind fun (i683, i684) => (fn_numeral_ParsePair xd 9223372036854775807).bind fun (i690, i691, i692) => (fn_numeral_ParseList xd 9223372036854775807).bind fun (l699, i700) => (cond (!decide (i684 = 0)) (some (true)) ((fn_numeral_Text i683).bind fun s720 => some (decide (s720 = xd)))).bind fun t715 => (cond (t715) ((cond (!decide (i692 = 0)) (some (true)) ((fn_numeral_Pair (i690, i691)).bind fun s756 => some (decide (s756 = xd)))).bind fun t751 => some (t751)) (some (false))).bind fun t741 => (cond (t741) ((cond (!decide (i700 = 0)) (some (true)) ((fn_numeral_List l699).bind fun s804 => some (decide (s804 = xd)))).bind fun t796 => some (t796)) (some (false))).bind fun t783 => (cond (t783) ((fn_law01_awake).bind fun t820 => some (t820)) (some (false))).bind fun t815 => some (t815))))
set_option maxRecDepth 100000 in
set_option maxHeartbeats 4000000 in
theorem law01_NumeralBack_ok {K : Hp} {xa : Int} {xb : (Int × Int)} {xc : (List Int)} {xd : (List UInt8)} {adxc_0 : Option Addr} {cpxc_0 : Nat} (fG : Gk K) (fxc_0 : Is K (.sl (.int .i64)) [.slice adxc_0 xc.length cpxc_0] xc) {r : Bool} (h : fn_law01_NumeralBack xa xb xc xd = some r) :
    Tr Tryd.prog 5 #[ii xa, .agg #[ii xb.1, ii xb.2], .slice adxc_0 xc.length cpxc_0, .string ⟨xd.toArray⟩] K [] (fun v K' L' => (∃ (t412 : Bool), t412 = r ∧ .bool t412 = v ∧ L' = []) ∧ K = K') := by
 refine Tr.k <| Tr.of Tryd.func5 rfl Tryd.ntmps5 rfl fun E F => ?_
 unfold fn_law01_NumeralBack at h
 refine cr <| jbx [ii xb.1, ii xb.2] rfl rfl fun b413 => ja (.bool false) rfl <| J.nil <| CJ.seq <| CJ.seq ?_
 refine CJ.region <| jm (.slice adxc_0 xc.length cpxc_0) rfl <| jv (ii (((xc.length : Nat) : Int))) (V.len Tryd.underlying24 rfl) <| jv (.bool (decide (100 < (((xc.length : Nat) : Int))))) (V.gtr rfl rfl) <| jm (.bool (decide (100 < (((xc.length : Nat) : Int))))) rfl <| J.cut 4 <| jmeet [(30, .bool ((decide (100 < (((xc.length : Nat) : Int)))) || (decide (500 < (((xd.length : Nat) : Int)))))), (0, ii xa), (2, .slice adxc_0 xc.length cpxc_0), (3, .string ⟨xd.toArray⟩), (5, .pointer (some ⟨b413, 0, none⟩))] ?_ ?_
 · rcases bt (decide (100 < (((xc.length : Nat) : Int)))) with hc416 | hc416
   · refine J.skip rfl rfl rfl rfl hc416 <| J.skip rfl rfl rfl rfl hc416 <| J.skip rfl rfl rfl rfl hc416 <| jv (.bool true) (V.pickT rfl hc416 rfl) <| J.nil ?_
     exact ⟨rfl, ⟨(by simp only [hc416]; rfl), rfl, rfl, rfl, rfl, trivial⟩, rfl, rfl⟩
   refine J.run rfl rfl rfl hc416 <| jm (.string ⟨xd.toArray⟩) rfl <| J.run rfl rfl rfl hc416 <| jv (ii (((xd.length : Nat) : Int))) (V.lens Tryd.underlying9 rfl) <| J.run rfl rfl rfl hc416 <| jv (.bool (decide (500 < (((xd.length : Nat) : Int))))) (V.gtr rfl rfl) <| jv (.bool (decide (500 < (((xd.length : Nat) : Int))))) (V.pickF rfl hc416 rfl) ?_
   refine J.nil ?_
   exact ⟨rfl, ⟨(by simp only [hc416]; rfl), rfl, rfl, rfl, rfl, trivial⟩, rfl, rfl⟩
 intro ρ
 refine J.nil <| cc rfl h (fun hc417 h => ?_) fun hc417 h => ?_
 · refine CJ.seq <| CJ.region ?_
   obtain ⟨r418, hr419, h⟩ := ob h
   refine J.op rfl (A.call (L1 := []) Tryd.call6 rfl (law01_awake_ok fG hr419) rfl rfl) ?_
   rintro _ _ _ ⟨v421, _, rfl, ⟨⟨t420, rfl, rfl, rfl⟩, rfl⟩, _, rfl⟩
   refine ja (.bool t420) rfl <| J.nil <| CJ.ret ?_
   obtain rfl := si h
   exact ⟨_, _, Res.one rfl rfl, ⟨t420, rfl, rfl, rfl⟩, (Hp.le_refl _), fun w hs => (Sep.dropAt 0 rfl hs)⟩
 refine CJ.skip <| cr <| jm (ii xa) rfl ?_
 obtain ⟨r424, hr425, h⟩ := ob h
 refine J.op rfl (A.call (L1 := []) Tryd.call7 rfl (numeral_Text_ok hr425) rfl rfl) ?_
 rintro _ _ _ ⟨v427, _, rfl, ⟨⟨s426, rfl, rfl, rfl⟩, rfl⟩, _, rfl⟩
 obtain ⟨r430, hr431, h⟩ := ob h
 refine J.op rfl (A.call (L1 := []) Tryd.call13 rfl (numeral_Parse_ok hr431) rfl rfl) ?_
 rintro _ _ _ ⟨v434, _, rfl, ⟨⟨i432, i433, rfl, rfl, rfl⟩, rfl⟩, _, rfl⟩
 refine jm (.tuple #[ii i432, ii i433]) rfl <| jx (ii i432) rfl rfl <| jx (ii i433) rfl rfl <| ja (ii i432) rfl <| ja (ii i433) rfl <| J.nil <| CJ.seq ?_
 refine CJ.region <| jv (.agg #[ii xb.1, ii xb.2]) (V.ld rfl (Ld.agg (cs := [ii xb.1, ii xb.2]) Tryd.underlying23 sz23 rfl (Rd.cls 0 0 rfl rfl))) ?_
 obtain ⟨r437, hr438, h⟩ := ob h
 refine J.op rfl (A.call (L1 := []) Tryd.call9 rfl (numeral_Pair_ok hr438) rfl rfl) ?_
 rintro _ _ _ ⟨v440, _, rfl, ⟨⟨s439, rfl, rfl, rfl⟩, rfl⟩, _, rfl⟩
 obtain ⟨r443, hr444, h⟩ := ob h
 refine J.op rfl (A.call (L1 := []) Tryd.call15 rfl (numeral_ParsePair_ok fG hr444) rfl rfl) ?_
 rintro _ _ _ ⟨v448, _, rfl, ⟨⟨i445, i446, i447, rfl, rfl, rfl⟩, rfl⟩, _, rfl⟩
 refine jm (.tuple #[.agg #[ii i445, ii i446], ii i447]) rfl <| jx (.agg #[ii i445, ii i446]) rfl rfl <| jx (ii i447) rfl rfl <| jal inf23 [ii 0, ii 0] rfl fun b451 => js [ii i445, ii i446] sz23 rfl rfl rfl rfl rfl rfl <| ja (ii i447) rfl <| J.nil ?_
 refine cr <| jm (.slice adxc_0 xc.length cpxc_0) rfl ?_
 obtain ⟨r452, hr453, h⟩ := ob h
 refine J.op rfl (A.call (L1 := []) Tryd.call11 rfl (numeral_List_ok fxc_0 hr453) rfl rfl) ?_
 rintro _ _ _ ⟨v455, _, rfl, ⟨⟨s454, rfl, rfl, rfl⟩, rfl⟩, _, rfl⟩
 obtain ⟨r458, hr459, h⟩ := ob h
 refine J.op rfl (A.call (L1 := []) Tryd.call17 rfl (numeral_ParseList_ok fG hr459) rfl rfl) ?_
 rintro _ _ _ ⟨v465, _, rfl, ⟨⟨l460, i461, ad462, cp463, rfl, rfl, rfl⟩, rfl⟩, _, rfl⟩
 refine J.wit Row.hn fun hn464 => jm (.tuple #[.slice ad462 l460.length cp463, ii i461]) rfl <| jx (.slice ad462 l460.length cp463) rfl rfl <| jx (ii i461) rfl rfl <| ja (.slice ad462 l460.length cp463) rfl <| ja (ii i461) rfl <| J.nil ?_
 refine CJ.seq <| cr <| jm (ii xa) rfl <| jv (.bool (decide (0 ≤ xa))) (V.geq rfl rfl) <| jm (.bool (decide (0 ≤ xa))) rfl <| J.cut 8 ?_
 refine jmeet [(60, .bool ((decide (0 ≤ xa)) && ((!decide (i432 = xa)) || (!decide (i433 = 0))))), (0, ii xa), (2, .slice adxc_0 xc.length cpxc_0), (3, .string ⟨xd.toArray⟩), (5, .pointer (some ⟨b413, 0, none⟩)), (10, ii i433), (11, .pointer (some ⟨b451, 0, none⟩)), (12, ii i447), (13, .slice ad462 l460.length cp463), (14, ii i461)] ?_ ?_
 · rcases bt (decide (0 ≤ xa)) with hc474 | hc474
   · refine J.run rfl rfl rfl hc474 <| jm (ii i432) rfl <| J.run rfl rfl rfl hc474 <| jm (ii xa) rfl <| J.run rfl rfl rfl hc474 <| jv (.bool (!decide (i432 = xa))) (V.neq rfl rfl) <| J.run rfl rfl rfl hc474 ?_
     refine jm (.bool (!decide (i432 = xa))) rfl <| J.cut 3 <| jmeet [(59, .bool ((!decide (i432 = xa)) || (!decide (i433 = 0)))), (0, ii xa), (2, .slice adxc_0 xc.length cpxc_0), (3, .string ⟨xd.toArray⟩), (5, .pointer (some ⟨b413, 0, none⟩)), (10, ii i433), (11, .pointer (some ⟨b451, 0, none⟩)), (12, ii i447), (13, .slice ad462 l460.length cp463), (14, ii i461), (52, .bool (decide (0 ≤ xa)))] ?_ ?_
     · rcases bt (!decide (i432 = xa)) with hc477 | hc477
       · refine J.skip rfl rfl rfl rfl hc477 <| J.skip rfl rfl rfl rfl hc477 <| J.run rfl rfl rfl hc474 <| jv (.bool true) (V.pickT rfl hc477 rfl) <| J.nil ?_
         exact ⟨rfl, ⟨(by simp only [hc477]; rfl), rfl, rfl, rfl, rfl, rfl, rfl, rfl, rfl, rfl, rfl, trivial⟩, rfl, rfl⟩
       refine J.run rfl rfl rfl hc477 <| jm (ii i433) rfl <| J.run rfl rfl rfl hc477 <| jv (.bool (!decide (i433 = 0))) (V.neq rfl rfl) <| J.run rfl rfl rfl hc474 <| jv (.bool (!decide (i433 = 0))) (V.pickF rfl hc477 rfl) <| J.nil ?_
       exact ⟨rfl, ⟨(by simp only [hc477]; rfl), rfl, rfl, rfl, rfl, rfl, rfl, rfl, rfl, rfl, rfl, trivial⟩, rfl, rfl⟩
     intro ρ
     refine jv (.bool ((!decide (i432 = xa)) || (!decide (i433 = 0)))) (V.pickT rfl hc474 rfl) <| J.nil ?_
     exact ⟨rfl, ⟨(by simp only [hc474]; rfl), rfl, rfl, rfl, rfl, rfl, rfl, rfl, rfl, rfl, trivial⟩, rfl, rfl⟩
   refine J.skip rfl rfl rfl rfl hc474 <| J.skip rfl rfl rfl rfl hc474 <| J.skip rfl rfl rfl rfl hc474 <| J.skip rfl rfl rfl rfl hc474 <| J.skipu rfl rfl rfl rfl <| J.skipu rfl rfl rfl rfl <| J.skip rfl rfl rfl rfl hc474 ?_
   refine jv (.bool false) (V.pickF rfl hc474 rfl) <| J.nil ?_
   exact ⟨rfl, ⟨(by simp only [hc474]; rfl), rfl, rfl, rfl, rfl, rfl, rfl, rfl, rfl, rfl, trivial⟩, rfl, rfl⟩
 intro ρ
 refine jm (.bool ((decide (0 ≤ xa)) && ((!decide (i432 = xa)) || (!decide (i433 = 0))))) rfl <| J.cut 7 <| jmeet [(68, .bool (((decide (0 ≤ xa)) && ((!decide (i432 = xa)) || (!decide (i433 = 0)))) || ((decide (xa < 0)) && (!decide (i433 = 3))))), (2, .slice adxc_0 xc.length cpxc_0), (3, .string ⟨xd.toArray⟩), (5, .pointer (some ⟨b413, 0, none⟩)), (11, .pointer (some ⟨b451, 0, none⟩)), (12, ii i447), (13, .slice ad462 l460.length cp463), (14, ii i461)] ?_ ?_
 · rcases bt ((decide (0 ≤ xa)) && ((!decide (i432 = xa)) || (!decide (i433 = 0)))) with hc483 | hc483
   · refine J.skip rfl rfl rfl rfl hc483 <| J.skip rfl rfl rfl rfl hc483 <| J.skip rfl rfl rfl rfl hc483 <| J.skipu rfl rfl rfl rfl <| J.skipu rfl rfl rfl rfl <| J.skip rfl rfl rfl rfl hc483 <| jv (.bool true) (V.pickT rfl hc483 rfl) ?_
     refine J.nil ?_
     exact ⟨rfl, ⟨(by simp only [hc483]; rfl), rfl, rfl, rfl, rfl, rfl, rfl, rfl, trivial⟩, rfl, rfl⟩
   refine J.run rfl rfl rfl hc483 <| jm (ii xa) rfl <| J.run rfl rfl rfl hc483 <| jv (.bool (decide (xa < 0))) (V.lss rfl rfl) <| J.run rfl rfl rfl hc483 <| jm (.bool (decide (xa < 0))) rfl <| J.cut 3 ?_
   refine jmeet [(67, .bool ((decide (xa < 0)) && (!decide (i433 = 3)))), (2, .slice adxc_0 xc.length cpxc_0), (3, .string ⟨xd.toArray⟩), (5, .pointer (some ⟨b413, 0, none⟩)), (11, .pointer (some ⟨b451, 0, none⟩)), (12, ii i447), (13, .slice ad462 l460.length cp463), (14, ii i461), (61, .bool ((decide (0 ≤ xa)) && ((!decide (i432 = xa)) || (!decide (i433 = 0)))))] ?_ ?_
   · rcases bt (decide (xa < 0)) with hc486 | hc486
     · refine J.run rfl rfl rfl hc486 <| jm (ii i433) rfl <| J.run rfl rfl rfl hc486 <| jv (.bool (!decide (i433 = 3))) (V.neq rfl rfl) <| J.run rfl rfl rfl hc483 <| jv (.bool (!decide (i433 = 3))) (V.pickT rfl hc486 rfl) <| J.nil ?_
       exact ⟨rfl, ⟨(by simp only [hc486]; rfl), rfl, rfl, rfl, rfl, rfl, rfl, rfl, rfl, trivial⟩, rfl, rfl⟩
     refine J.skip rfl rfl rfl rfl hc486 <| J.skip rfl rfl rfl rfl hc486 <| J.run rfl rfl rfl hc483 <| jv (.bool false) (V.pickF rfl hc486 rfl) <| J.nil ?_
     exact ⟨rfl, ⟨(by simp only [hc486]; rfl), rfl, rfl, rfl, rfl, rfl, rfl, rfl, rfl, trivial⟩, rfl, rfl⟩
   intro ρ
   refine jv (.bool ((decide (xa < 0)) && (!decide (i433 = 3)))) (V.pickF rfl hc483 rfl) <| J.nil ?_
   exact ⟨rfl, ⟨(by simp only [hc483]; rfl), rfl, rfl, rfl, rfl, rfl, rfl, rfl, trivial⟩, rfl, rfl⟩
 intro ρ
 refine jm (.bool (((decide (0 ≤ xa)) && ((!decide (i432 = xa)) || (!decide (i433 = 0)))) || ((decide (xa < 0)) && (!decide (i433 = 3))))) rfl <| J.cut 18 <| jmeet [(87, .bool ((((decide (0 ≤ xa)) && ((!decide (i432 = xa)) || (!decide (i433 = 0)))) || ((decide (xa < 0)) && (!decide (i433 = 3)))) || (((decide (0 ≤ xb.1)) && (decide (0 ≤ xb.2))) && ((!((decide (i445 = xb.1)) && ((decide (i446 = xb.2))))) || (!decide (i447 = 0)))))), (2, .slice adxc_0 xc.length cpxc_0), (3, .string ⟨xd.toArray⟩), (13, .slice ad462 l460.length cp463), (14, ii i461)] ?_ ?_
 · rcases bt (((decide (0 ≤ xa)) && ((!decide (i432 = xa)) || (!decide (i433 = 0)))) || ((decide (xa < 0)) && (!decide (i433 = 3)))) with hc501 | hc501
   · refine J.skip rfl rfl rfl rfl hc501 <| J.skip rfl rfl rfl rfl hc501 <| J.skip rfl rfl rfl rfl hc501 <| J.skip rfl rfl rfl rfl hc501 <| J.skipu rfl rfl rfl rfl <| J.skipu rfl rfl rfl rfl <| J.skipu rfl rfl rfl rfl ?_
     refine J.skip rfl rfl rfl rfl hc501 <| J.skip rfl rfl rfl rfl hc501 <| J.skipu rfl rfl rfl rfl <| J.skipu rfl rfl rfl rfl <| J.skipu rfl rfl rfl rfl <| J.skipu rfl rfl rfl rfl <| J.skipu rfl rfl rfl rfl ?_
     refine J.skipu rfl rfl rfl rfl <| J.skipu rfl rfl rfl rfl <| J.skip rfl rfl rfl rfl hc501 <| jv (.bool true) (V.pickT rfl hc501 rfl) <| J.nil ?_
     exact ⟨rfl, ⟨(by simp only [hc501]; rfl), rfl, rfl, rfl, rfl, trivial⟩, rfl, rfl⟩
   refine J.run rfl rfl rfl hc501 <| jv _ (V.fad Tryd.underlying23 rfl nz3 rfl) <| J.run rfl rfl rfl hc501 <| jv (ii xb.1) (V.ld rfl (Ld.sc sc3 (Rd.cl 2 rfl rfl))) <| J.run rfl rfl rfl hc501 <| jv (.bool (decide (0 ≤ xb.1))) (V.geq rfl rfl) <| J.run rfl rfl rfl hc501 ?_
   refine jm (.bool (decide (0 ≤ xb.1))) rfl <| J.cut 4 <| jmeet [(77, .bool ((decide (0 ≤ xb.1)) && (decide (0 ≤ xb.2)))), (2, .slice adxc_0 xc.length cpxc_0), (3, .string ⟨xd.toArray⟩), (5, .pointer (some ⟨b413, 0, none⟩)), (11, .pointer (some ⟨b451, 0, none⟩)), (12, ii i447), (13, .slice ad462 l460.length cp463), (14, ii i461), (69, .bool (((decide (0 ≤ xa)) && ((!decide (i432 = xa)) || (!decide (i433 = 0)))) || ((decide (xa < 0)) && (!decide (i433 = 3)))))] ?_ ?_
   · rcases bt (decide (0 ≤ xb.1)) with hc504 | hc504
     · refine J.run rfl rfl rfl hc504 <| jv _ (V.fad Tryd.underlying23 rfl nz3 rfl) <| J.run rfl rfl rfl hc504 <| jv (ii xb.2) (V.ld rfl (Ld.sc sc3 (Rd.cl 2 rfl rfl))) <| J.run rfl rfl rfl hc504 <| jv (.bool (decide (0 ≤ xb.2))) (V.geq rfl rfl) <| J.run rfl rfl rfl hc501 ?_
       refine jv (.bool (decide (0 ≤ xb.2))) (V.pickT rfl hc504 rfl) <| J.nil ?_
       exact ⟨rfl, ⟨(by simp only [hc504]; rfl), rfl, rfl, rfl, rfl, rfl, rfl, rfl, rfl, trivial⟩, rfl, rfl⟩
     refine J.skip rfl rfl rfl rfl hc504 <| J.skip rfl rfl rfl rfl hc504 <| J.skip rfl rfl rfl rfl hc504 <| J.run rfl rfl rfl hc501 <| jv (.bool false) (V.pickF rfl hc504 rfl) <| J.nil ?_
     exact ⟨rfl, ⟨(by simp only [hc504]; rfl), rfl, rfl, rfl, rfl, rfl, rfl, rfl, rfl, trivial⟩, rfl, rfl⟩
   intro ρ
   refine J.run rfl rfl rfl hc501 <| jm (.bool ((decide (0 ≤ xb.1)) && (decide (0 ≤ xb.2)))) rfl <| J.cut 8 <| jmeet [(86, .bool (((decide (0 ≤ xb.1)) && (decide (0 ≤ xb.2))) && ((!((decide (i445 = xb.1)) && ((decide (i446 = xb.2))))) || (!decide (i447 = 0))))), (2, .slice adxc_0 xc.length cpxc_0), (3, .string ⟨xd.toArray⟩), (13, .slice ad462 l460.length cp463), (14, ii i461), (69, .bool (((decide (0 ≤ xa)) && ((!decide (i432 = xa)) || (!decide (i433 = 0)))) || ((decide (xa < 0)) && (!decide (i433 = 3)))))] ?_ ?_
   · rcases bt ((decide (0 ≤ xb.1)) && (decide (0 ≤ xb.2))) with hc510 | hc510
     · refine J.run rfl rfl rfl hc510 <| jv (.agg #[ii i445, ii i446]) (V.ld rfl (Ld.agg (cs := [ii i445, ii i446]) Tryd.underlying23 sz23 rfl (Rd.cls 1 0 rfl rfl))) <| J.run rfl rfl rfl hc510 <| jv (.agg #[ii xb.1, ii xb.2]) (V.ld rfl (Ld.agg (cs := [ii xb.1, ii xb.2]) Tryd.underlying23 sz23 rfl (Rd.cls 2 0 rfl rfl))) <| J.run rfl rfl rfl hc510 <| jv (.bool (!((decide (i445 = xb.1)) && ((decide (i446 = xb.2)))))) (V.nest eqg23 (EqIn.st (d := 9999) rfl Tryd.underlying23 sih23 (EqFs.cons (by decide) (Ld0.sc sc3 rfl) (Ld0.sc sc3 rfl) (EqIn.int (d := 9998) rfl Tryd.underlying3) (EqFs.last (by decide) (Ld0.sc sc3 rfl) (Ld0.sc sc3 rfl) (EqIn.int (d := 9998) rfl Tryd.underlying3)))) rfl rfl) <| J.run rfl rfl rfl hc510 ?_
       refine jm (.bool (!((decide (i445 = xb.1)) && ((decide (i446 = xb.2)))))) rfl <| J.cut 3 <| jmeet [(85, .bool ((!((decide (i445 = xb.1)) && ((decide (i446 = xb.2))))) || (!decide (i447 = 0)))), (2, .slice adxc_0 xc.length cpxc_0), (3, .string ⟨xd.toArray⟩), (13, .slice ad462 l460.length cp463), (14, ii i461), (69, .bool (((decide (0 ≤ xa)) && ((!decide (i432 = xa)) || (!decide (i433 = 0)))) || ((decide (xa < 0)) && (!decide (i433 = 3))))), (78, .bool ((decide (0 ≤ xb.1)) && (decide (0 ≤ xb.2))))] ?_ ?_
       · rcases bt (!((decide (i445 = xb.1)) && ((decide (i446 = xb.2))))) with hc513 | hc513
         · refine J.skip rfl rfl rfl rfl hc513 <| J.skip rfl rfl rfl rfl hc513 <| J.run rfl rfl rfl hc510 <| jv (.bool true) (V.pickT rfl hc513 rfl) <| J.nil ?_
           exact ⟨rfl, ⟨(by simp only [hc513]; rfl), rfl, rfl, rfl, rfl, rfl, rfl, trivial⟩, rfl, rfl⟩
         refine J.run rfl rfl rfl hc513 <| jm (ii i447) rfl <| J.run rfl rfl rfl hc513 <| jv (.bool (!decide (i447 = 0))) (V.neq rfl rfl) <| J.run rfl rfl rfl hc510 <| jv (.bool (!decide (i447 = 0))) (V.pickF rfl hc513 rfl) <| J.nil ?_
         exact ⟨rfl, ⟨(by simp only [hc513]; rfl), rfl, rfl, rfl, rfl, rfl, rfl, trivial⟩, rfl, rfl⟩
       intro ρ
       refine J.run rfl rfl rfl hc501 <| jv (.bool ((!((decide (i445 = xb.1)) && ((decide (i446 = xb.2))))) || (!decide (i447 = 0)))) (V.pickT rfl hc510 rfl) <| J.nil ?_
       exact ⟨rfl, ⟨(by simp only [hc510]; rfl), rfl, rfl, rfl, rfl, rfl, trivial⟩, rfl, rfl⟩
     refine J.skip rfl rfl rfl rfl hc510 <| J.skip rfl rfl rfl rfl hc510 <| J.skip rfl rfl rfl rfl hc510 <| J.skip rfl rfl rfl rfl hc510 <| J.skipu rfl rfl rfl rfl <| J.skipu rfl rfl rfl rfl <| J.skip rfl rfl rfl rfl hc510 ?_
     refine J.run rfl rfl rfl hc501 <| jv (.bool false) (V.pickF rfl hc510 rfl) <| J.nil ?_
     exact ⟨rfl, ⟨(by simp only [hc510]; rfl), rfl, rfl, rfl, rfl, rfl, trivial⟩, rfl, rfl⟩
   intro ρ
   refine jv (.bool (((decide (0 ≤ xb.1)) && (decide (0 ≤ xb.2))) && ((!((decide (i445 = xb.1)) && ((decide (i446 = xb.2))))) || (!decide (i447 = 0))))) (V.pickF rfl hc501 rfl) <| J.nil ?_
   exact ⟨rfl, ⟨(by simp only [hc501]; rfl), rfl, rfl, rfl, rfl, trivial⟩, rfl, rfl⟩
 intro ρ
 refine J.nil <| cc rfl h (fun hc514 h => ?_) fun hc514 h => ?_
 · refine cr <| ja (.bool false) rfl <| J.nil <| CJ.ret ?_
   obtain rfl := si h
   exact ⟨_, _, Res.one rfl rfl, ⟨false, rfl, rfl, rfl⟩, (Hp.le_refl _), fun w hs => (Sep.dropAt 0 rfl (Sep.dropAt 0 rfl (Sep.dropAt 0 rfl hs)))⟩
 refine CJ.skip <| cr <| ja (.bool false) rfl <| J.nil <| CJ.seq <| CJ.seq ?_
 refine CJ.region <| ja (ii 0) rfl <| J.nil ?_
 obtain ⟨o582, ho583, h⟩ := ob h
 refine CJ.meetN (fun ρ K' L' => ∃ (t581 : Bool), t581 = o582 ∧ Fits [(2, .slice adxc_0 xc.length cpxc_0), (3, .string ⟨xd.toArray⟩), (13, .slice ad462 l460.length cp463), (14, ii i461), (15, .bool t581)] ρ ∧ K = K' ∧ L' = Row Hp.nil 3 (.int .i64) (.slice ad462 l460.length cp463) l460 :: F) ?_ ?_
 · refine CJ.block <| CJ.dropAt 1 rfl <| CJ.dropAt 1 rfl <| CJ.loop (fun s ρ K' L' => ∃ (t596 : Bool) (i597 : Int), (t596, i597) = s ∧ Fits [(2, .slice adxc_0 xc.length cpxc_0), (3, .string ⟨xd.toArray⟩), (13, .slice ad462 l460.length cp463), (14, ii i461), (15, .bool t596), (16, ii i597)] ρ ∧ K = K' ∧ L' = Row Hp.nil 3 (.int .i64) (.slice ad462 l460.length cp463) l460 :: F) ho583 ⟨false, 0, rfl, ⟨rfl, rfl, rfl, rfl, rfl, rfl, trivial⟩, rfl, rfl⟩ ?_
   rintro s ρ _ _ r626 ⟨t596, i597, rfl, hf624, rfl, rfl⟩ h623
   obtain ⟨ρ, rfl⟩ := hf624.ex
   refine CJ.seq <| cr <| jm (ii i597) rfl <| jm (.slice adxc_0 xc.length cpxc_0) rfl <| jv (ii (((xc.length : Nat) : Int))) (V.len Tryd.underlying24 rfl) <| jv (.bool (decide (i597 < (((xc.length : Nat) : Int))))) (V.lss rfl rfl) ?_
   refine J.nil <| cc rfl h623 (fun hc627 h623 => ?_) fun hc627 h623 => ?_
   · refine CJ.skip <| CJ.seq <| CJ.block <| CJ.region <| jm (.bool t596) rfl <| jm (.bool t596) rfl <| J.cut 6 ?_
     obtain ⟨t638, ht639, h623⟩ := ob h623
     refine jmeet [(101, .bool t638), (2, .slice adxc_0 xc.length cpxc_0), (3, .string ⟨xd.toArray⟩), (13, .slice ad462 l460.length cp463), (14, ii i461), (16, ii i597)] ?_ ?_
     · rcases bt (t596) with hc640 | hc640
       · have ht639 := ct hc640 ht639
         refine J.skip rfl rfl rfl rfl hc640 <| J.skip rfl rfl rfl rfl hc640 <| J.skip rfl rfl rfl rfl hc640 <| J.skip rfl rfl rfl rfl hc640 <| J.skip rfl rfl rfl rfl hc640 <| jv (.bool true) (V.pickT rfl hc640 rfl) <| J.nil ?_
         obtain rfl := si ht639
         exact ⟨rfl, ⟨rfl, rfl, rfl, rfl, rfl, rfl, trivial⟩, rfl, rfl⟩
       have ht639 := cf hc640 ht639
       refine J.run rfl rfl rfl hc640 <| jm (.slice adxc_0 xc.length cpxc_0) rfl <| J.run rfl rfl rfl hc640 <| jm (ii i597) rfl <| J.run rfl rfl rfl hc640 ?_
       obtain ⟨x641, hx642, ht639⟩ := ob ht639
       obtain ⟨p643, p644, p645⟩ := getI_some hx642
       obtain ⟨b646, o647, e648, a649⟩ := (fxc_0).at p644
       refine jv _ (V.iad Tryd.underlying24 sz3 rfl e648 rfl p643 p645) <| J.run rfl rfl rfl hc640 <| jv (ii x641) (V.ld rfl (Ld.sc sc3 (Rd.k (a649).int (Hp.le_refl _)))) <| J.run rfl rfl rfl hc640 <| jv (.bool (decide (x641 < 0))) (V.lss rfl rfl) <| jv (.bool (decide (x641 < 0))) (V.pickF rfl hc640 rfl) <| J.nil ?_
       obtain rfl := si ht639
       exact ⟨rfl, ⟨rfl, rfl, rfl, rfl, rfl, rfl, trivial⟩, rfl, rfl⟩
     intro ρ
     refine ja (.bool t638) rfl <| J.nil <| CJ.region <| jm (ii i597) rfl <| jv (ii (IntKind.wrap .i64 (i597 + 1))) (V.add rfl rfl) <| ja (ii (IntKind.wrap .i64 (i597 + 1))) rfl <| J.nil ?_
     obtain rfl := si h623
     exact ⟨rfl, ⟨t638, IntKind.wrap .i64 (i597 + 1), rfl, ⟨rfl, rfl, rfl, rfl, rfl, rfl, trivial⟩, rfl, rfl⟩⟩
   refine CJ.exit ?_
   obtain rfl := si h623
   refine ⟨nofun, fun e => ?_⟩
   subst e
   exact ⟨rfl, ⟨t596, rfl, ⟨rfl, rfl, rfl, rfl, rfl, trivial⟩, rfl, rfl⟩⟩
 rintro ρ _ _ ⟨t581, rfl, hf650, rfl, rfl⟩
 obtain ⟨ρ, rfl⟩ := hf650.ex
 refine PJ.done <| CJ.seq <| cr <| jm (.bool t581) rfl <| jv (.bool (!t581)) (V.not rfl) <| jm (.bool (!t581)) rfl ?_
 refine J.cut 9 ?_
 obtain ⟨t665, ht666, h⟩ := ob h
 refine jmeet [(113, .bool t665), (3, .string ⟨xd.toArray⟩)] ?_ ?_
 · rcases bt (!t581) with hc667 | hc667
   · have ht666 := ct hc667 ht666
     refine J.run rfl rfl rfl hc667 <| jm (.slice ad462 l460.length cp463) rfl <| J.run rfl rfl rfl hc667 <| jm (.slice adxc_0 xc.length cpxc_0) rfl <| J.run rfl rfl rfl hc667 ?_
     obtain ⟨r668, hr669, ht666⟩ := ob ht666
     refine J.op rfl (A.call (L1 := [Row Hp.nil 3 (.int .i64) (.slice ad462 l460.length cp463) l460]) Tryd.call19 rfl (Tr.lend (Hp.nil_le _) (by decide) (fun K670 hK671 f672 => ref01_Same_ok f672 (fxc_0.mono hK671) hr669)) rfl rfl) ?_
     rintro _ _ _ ⟨v674, _, rfl, ⟨⟨_, ⟨t673, rfl, rfl, rfl⟩, rfl⟩, rfl⟩, _, rfl⟩
     refine J.run rfl rfl rfl hc667 <| jv (.bool (!t673)) (V.not rfl) <| J.run rfl rfl rfl hc667 <| jm (.bool (!t673)) rfl <| J.cut 3 <| jmeet [(112, .bool ((!t673) || (!decide (i461 = 0)))), (3, .string ⟨xd.toArray⟩), (104, .bool (!t581))] ?_ ?_
     · rcases bt (!t673) with hc679 | hc679
       · refine J.skip rfl rfl rfl rfl hc679 <| J.skip rfl rfl rfl rfl hc679 <| J.run rfl rfl rfl hc667 <| jv (.bool true) (V.pickT rfl hc679 rfl) <| J.nil ?_
         exact ⟨rfl, ⟨(by simp only [hc679]; rfl), rfl, rfl, trivial⟩, rfl, rfl⟩
       refine J.run rfl rfl rfl hc679 <| jm (ii i461) rfl <| J.run rfl rfl rfl hc679 <| jv (.bool (!decide (i461 = 0))) (V.neq rfl rfl) <| J.run rfl rfl rfl hc667 <| jv (.bool (!decide (i461 = 0))) (V.pickF rfl hc679 rfl) <| J.nil ?_
       exact ⟨rfl, ⟨(by simp only [hc679]; rfl), rfl, rfl, trivial⟩, rfl, rfl⟩
     intro ρ
     refine jv (.bool ((!t673) || (!decide (i461 = 0)))) (V.pickT rfl hc667 rfl) <| J.nil ?_
     obtain rfl := si ht666
     exact ⟨rfl, ⟨rfl, rfl, trivial⟩, rfl, rfl⟩
   have ht666 := cf hc667 ht666
   refine J.skip rfl rfl rfl rfl hc667 <| J.skip rfl rfl rfl rfl hc667 <| J.skip rfl rfl rfl rfl hc667 <| J.skip rfl rfl rfl rfl hc667 <| J.skip rfl rfl rfl rfl hc667 <| J.skipu rfl rfl rfl rfl <| J.skipu rfl rfl rfl rfl ?_
   refine J.skip rfl rfl rfl rfl hc667 <| jv (.bool false) (V.pickF rfl hc667 rfl) <| J.nil ?_
   obtain rfl := si ht666
   exact ⟨rfl, ⟨rfl, rfl, trivial⟩, rfl, rfl⟩
 intro ρ
 refine J.nil <| cc rfl h (fun hc680 h => ?_) fun hc680 h => ?_
 · refine cr <| ja (.bool false) rfl <| J.nil <| CJ.ret ?_
   obtain rfl := si h
   exact ⟨_, _, Res.one rfl rfl, ⟨false, rfl, rfl, rfl⟩, (Hp.le_refl _), fun w hs => (Sep.dropAt 0 rfl hs)⟩
 refine CJ.skip <| cr <| jm (.string ⟨xd.toArray⟩) rfl ?_
 obtain ⟨r681, hr682, h⟩ := ob h
 refine J.op rfl (A.call (L1 := []) Tryd.call13 rfl (numeral_Parse_ok hr682) rfl rfl) ?_
 rintro _ _ _ ⟨v685, _, rfl, ⟨⟨i683, i684, rfl, rfl, rfl⟩, rfl⟩, _, rfl⟩
 refine jm (.tuple #[ii i683, ii i684]) rfl <| jx (ii i683) rfl rfl <| jx (ii i684) rfl rfl <| ja (ii i683) rfl <| ja (ii i684) rfl <| J.nil <| CJ.seq ?_
 refine CJ.region <| jm (.string ⟨xd.toArray⟩) rfl ?_
 obtain ⟨r688, hr689, h⟩ := ob h
 refine J.op rfl (A.call (L1 := []) Tryd.call15 rfl (numeral_ParsePair_ok fG hr689) rfl rfl) ?_
 rintro _ _ _ ⟨v693, _, rfl, ⟨⟨i690, i691, i692, rfl, rfl, rfl⟩, rfl⟩, _, rfl⟩
 refine jm (.tuple #[.agg #[ii i690, ii i691], ii i692]) rfl <| jx (.agg #[ii i690, ii i691]) rfl rfl <| jx (ii i692) rfl rfl <| jal inf23 [ii 0, ii 0] rfl fun b696 => js [ii i690, ii i691] sz23 rfl rfl rfl rfl rfl rfl <| ja (ii i692) rfl <| J.nil ?_
 refine cr <| jm (.string ⟨xd.toArray⟩) rfl ?_
 obtain ⟨r697, hr698, h⟩ := ob h
 refine J.op rfl (A.call (L1 := []) Tryd.call17 rfl (numeral_ParseList_ok fG hr698) rfl rfl) ?_
 rintro _ _ _ ⟨v704, _, rfl, ⟨⟨l699, i700, ad701, cp702, rfl, rfl, rfl⟩, rfl⟩, _, rfl⟩
 refine J.wit Row.hn fun hn703 => jm (.tuple #[.slice ad701 l699.length cp702, ii i700]) rfl <| jx (.slice ad701 l699.length cp702) rfl rfl <| jx (ii i700) rfl rfl <| ja (.slice ad701 l699.length cp702) rfl <| ja (ii i700) rfl <| J.nil ?_
 refine cr <| jm (ii i684) rfl <| jv (.bool (!decide (i684 = 0))) (V.neq rfl rfl) <| jm (.bool (!decide (i684 = 0))) rfl <| J.cut 5 ?_
 obtain ⟨t715, ht716, h⟩ := ob h
 refine jmeet [(136, .bool t715), (3, .string ⟨xd.toArray⟩), (19, .pointer (some ⟨b696, 0, none⟩)), (20, ii i692), (21, .slice ad701 l699.length cp702), (22, ii i700)] ?_ ?_
 · rcases bt (!decide (i684 = 0)) with hc717 | hc717
   · have ht716 := ct hc717 ht716
     refine J.skip rfl rfl rfl rfl hc717 <| J.skip rfl rfl rfl rfl hc717 <| J.skip rfl rfl rfl rfl hc717 <| J.skip rfl rfl rfl rfl hc717 <| jv (.bool true) (V.pickT rfl hc717 rfl) <| J.nil ?_
     obtain rfl := si ht716
     exact ⟨rfl, ⟨rfl, rfl, rfl, rfl, rfl, rfl, trivial⟩, rfl, rfl⟩
   have ht716 := cf hc717 ht716
   refine J.run rfl rfl rfl hc717 <| jm (ii i683) rfl <| J.run rfl rfl rfl hc717 ?_
   obtain ⟨r718, hr719, ht716⟩ := ob ht716
   refine J.op rfl (A.call (L1 := []) Tryd.call7 rfl (numeral_Text_ok hr719) rfl rfl) ?_
   rintro _ _ _ ⟨v721, _, rfl, ⟨⟨s720, rfl, rfl, rfl⟩, rfl⟩, _, rfl⟩
   refine J.run rfl rfl rfl hc717 <| jm (.string ⟨xd.toArray⟩) rfl <| J.run rfl rfl rfl hc717 <| jv (.bool (decide (s720 = xd))) (V.eqs rfl rfl) <| jv (.bool (decide (s720 = xd))) (V.pickF rfl hc717 rfl) <| J.nil ?_
   obtain rfl := si ht716
   exact ⟨rfl, ⟨rfl, rfl, rfl, rfl, rfl, rfl, trivial⟩, rfl, rfl⟩
 intro ρ
 refine jm (.bool t715) rfl <| J.cut 9 ?_
 obtain ⟨t741, ht742, h⟩ := ob h
 refine jmeet [(146, .bool t741), (3, .string ⟨xd.toArray⟩), (21, .slice ad701 l699.length cp702), (22, ii i700)] ?_ ?_
 · rcases bt (t715) with hc743 | hc743
   · have ht742 := ct hc743 ht742
     refine J.run rfl rfl rfl hc743 <| jm (ii i692) rfl <| J.run rfl rfl rfl hc743 <| jv (.bool (!decide (i692 = 0))) (V.neq rfl rfl) <| J.run rfl rfl rfl hc743 <| jm (.bool (!decide (i692 = 0))) rfl <| J.cut 5 ?_
     obtain ⟨t751, ht752, ht742⟩ := ob ht742
     refine jmeet [(145, .bool t751), (3, .string ⟨xd.toArray⟩), (21, .slice ad701 l699.length cp702), (22, ii i700), (137, .bool t715)] ?_ ?_
     · rcases bt (!decide (i692 = 0)) with hc753 | hc753
       · have ht752 := ct hc753 ht752
         refine J.skip rfl rfl rfl rfl hc753 <| J.skip rfl rfl rfl rfl hc753 <| J.skip rfl rfl rfl rfl hc753 <| J.skip rfl rfl rfl rfl hc753 <| J.run rfl rfl rfl hc743 <| jv (.bool true) (V.pickT rfl hc753 rfl) <| J.nil ?_
         obtain rfl := si ht752
         exact ⟨rfl, ⟨rfl, rfl, rfl, rfl, rfl, trivial⟩, rfl, rfl⟩
       have ht752 := cf hc753 ht752
       refine J.run rfl rfl rfl hc753 <| jv (.agg #[ii i690, ii i691]) (V.ld rfl (Ld.agg (cs := [ii i690, ii i691]) Tryd.underlying23 sz23 rfl (Rd.cls 1 0 rfl rfl))) <| J.run rfl rfl rfl hc753 ?_
       obtain ⟨r754, hr755, ht752⟩ := ob ht752
       refine J.op rfl (A.call (L1 := []) Tryd.call9 rfl (numeral_Pair_ok hr755) rfl rfl) ?_
       rintro _ _ _ ⟨v757, _, rfl, ⟨⟨s756, rfl, rfl, rfl⟩, rfl⟩, _, rfl⟩
       refine J.run rfl rfl rfl hc753 <| jm (.string ⟨xd.toArray⟩) rfl <| J.run rfl rfl rfl hc753 <| jv (.bool (decide (s756 = xd))) (V.eqs rfl rfl) <| J.run rfl rfl rfl hc743 <| jv (.bool (decide (s756 = xd))) (V.pickF rfl hc753 rfl) <| J.nil ?_
       obtain rfl := si ht752
       exact ⟨rfl, ⟨rfl, rfl, rfl, rfl, rfl, trivial⟩, rfl, rfl⟩
     intro ρ
     refine jv (.bool t751) (V.pickT rfl hc743 rfl) <| J.nil ?_
     obtain rfl := si ht742
     exact ⟨rfl, ⟨rfl, rfl, rfl, rfl, trivial⟩, rfl, rfl⟩
   have ht742 := cf hc743 ht742
   refine J.skip rfl rfl rfl rfl hc743 <| J.skip rfl rfl rfl rfl hc743 <| J.skip rfl rfl rfl rfl hc743 <| J.skipu rfl rfl rfl rfl <| J.skipu rfl rfl rfl rfl <| J.skipu rfl rfl rfl rfl <| J.skipu rfl rfl rfl rfl ?_
   refine J.skip rfl rfl rfl rfl hc743 <| jv (.bool false) (V.pickF rfl hc743 rfl) <| J.nil ?_
   obtain rfl := si ht742
   exact ⟨rfl, ⟨rfl, rfl, rfl, rfl, trivial⟩, rfl, rfl⟩
 intro ρ
 refine jm (.bool t741) rfl <| J.cut 9 ?_
 obtain ⟨t783, ht784, h⟩ := ob h
 refine jmeet [(156, .bool t783)] ?_ ?_
 · rcases bt (t741) with hc785 | hc785
   · have ht784 := ct hc785 ht784
     refine J.run rfl rfl rfl hc785 <| jm (ii i700) rfl <| J.run rfl rfl rfl hc785 <| jv (.bool (!decide (i700 = 0))) (V.neq rfl rfl) <| J.run rfl rfl rfl hc785 <| jm (.bool (!decide (i700 = 0))) rfl <| J.cut 5 ?_
     obtain ⟨t796, ht797, ht784⟩ := ob ht784
     refine jmeet [(155, .bool t796), (147, .bool t741)] ?_ ?_
     · rcases bt (!decide (i700 = 0)) with hc798 | hc798
       · have ht797 := ct hc798 ht797
         refine J.skip rfl rfl rfl rfl hc798 <| J.skip rfl rfl rfl rfl hc798 <| J.skip rfl rfl rfl rfl hc798 <| J.skip rfl rfl rfl rfl hc798 <| J.run rfl rfl rfl hc785 <| jv (.bool true) (V.pickT rfl hc798 rfl) <| J.nil ?_
         obtain rfl := si ht797
         exact ⟨rfl, ⟨rfl, rfl, trivial⟩, rfl, rfl⟩
       have ht797 := cf hc798 ht797
       refine J.run rfl rfl rfl hc798 <| jm (.slice ad701 l699.length cp702) rfl <| J.run rfl rfl rfl hc798 ?_
       obtain ⟨r799, hr800, ht797⟩ := ob ht797
       refine J.op rfl (A.call (L1 := [Row Hp.nil 3 (.int .i64) (.slice ad701 l699.length cp702) l699]) Tryd.call11 rfl (Tr.lend (Hp.nil_le _) (by decide) (fun K801 hK802 f803 => numeral_List_ok f803 hr800)) rfl rfl) ?_
       rintro _ _ _ ⟨v805, _, rfl, ⟨⟨_, ⟨s804, rfl, rfl, rfl⟩, rfl⟩, rfl⟩, _, rfl⟩
       refine J.run rfl rfl rfl hc798 <| jm (.string ⟨xd.toArray⟩) rfl <| J.run rfl rfl rfl hc798 <| jv (.bool (decide (s804 = xd))) (V.eqs rfl rfl) <| J.run rfl rfl rfl hc785 <| jv (.bool (decide (s804 = xd))) (V.pickF rfl hc798 rfl) <| J.nil ?_
       obtain rfl := si ht797
       exact ⟨rfl, ⟨rfl, rfl, trivial⟩, rfl, rfl⟩
     intro ρ
     refine jv (.bool t796) (V.pickT rfl hc785 rfl) <| J.nil ?_
     obtain rfl := si ht784
     exact ⟨rfl, ⟨rfl, trivial⟩, rfl, rfl⟩
   have ht784 := cf hc785 ht784
   refine J.skip rfl rfl rfl rfl hc785 <| J.skip rfl rfl rfl rfl hc785 <| J.skip rfl rfl rfl rfl hc785 <| J.skipu rfl rfl rfl rfl <| J.skipu rfl rfl rfl rfl <| J.skipu rfl rfl rfl rfl <| J.skipu rfl rfl rfl rfl ?_
   refine J.skip rfl rfl rfl rfl hc785 <| jv (.bool false) (V.pickF rfl hc785 rfl) <| J.nil ?_
   obtain rfl := si ht784
   exact ⟨rfl, ⟨rfl, trivial⟩, rfl, rfl⟩
 intro ρ
 refine jm (.bool t783) rfl <| J.cut 2 ?_
 obtain ⟨t815, ht816, h⟩ := ob h
 refine jmeet [(159, .bool t815)] ?_ ?_
 · rcases bt (t783) with hc817 | hc817
   · have ht816 := ct hc817 ht816
     refine J.run rfl rfl rfl hc817 ?_
     obtain ⟨r818, hr819, ht816⟩ := ob ht816
     refine J.op rfl (A.call (L1 := []) Tryd.call6 rfl (law01_awake_ok fG hr819) rfl rfl) ?_
     rintro _ _ _ ⟨v821, _, rfl, ⟨⟨t820, rfl, rfl, rfl⟩, rfl⟩, _, rfl⟩
     refine jv (.bool t820) (V.pickT rfl hc817 rfl) <| J.nil ?_
     obtain rfl := si ht816
     exact ⟨rfl, ⟨rfl, trivial⟩, rfl, rfl⟩
   have ht816 := cf hc817 ht816
   refine J.skip rfl rfl rfl rfl hc817 <| jv (.bool false) (V.pickF rfl hc817 rfl) <| J.nil ?_
   obtain rfl := si ht816
   exact ⟨rfl, ⟨rfl, trivial⟩, rfl, rfl⟩
 intro ρ
 refine ja (.bool t815) rfl <| J.nil <| CJ.ret ?_
 obtain rfl := si h
 exact ⟨_, _, Res.one rfl rfl, ⟨t815, rfl, rfl, rfl⟩, (Hp.le_refl _), fun w hs => (Sep.dropAt 0 rfl (Sep.dropAt 0 rfl (Sep.dropAt 0 rfl hs)))⟩
end Go.Proofs.YthmnkgldkjkheaaDoor
