/- What Go functions answer: generated. -/
import Derived.Test.YtaokbmfhobbmaaaDoorSh
import Derived.Test.YtaokbmfhobbmaaaDoorRows
import Derived.Test.YtaokbmfhobbmaaaDoorAw
import Derived.Test.YtaokbmfhobbmaaaDoorSt
namespace Go.Proofs.YtaokbmfhobbmaaaDoor
open Go.RowKit
set_option linter.unusedVariables false
set_option linter.unnecessarySimpa false
set_option linter.unusedSimpArgs false
set_option maxRecDepth 20000
theorem inf23 : Inf Tryd.prog 23 (.agg #[.int .i64 0, .int .i64 0, .int .i64 0, .int .i64 0, .bool false]) 5 40 := by unfold Inf; kernel_rfl
theorem sz9 : (Tryd.prog.info? 9).map (·.size) = some 1 := by kernel_rfl
theorem sc9 : scalar Tryd.prog 9 = true := by kernel_rfl
theorem places23 : Places Tryd.prog 23 [(0, 1), (1, 1), (2, 1), (3, 1), (4, 1)] := ⟨_, Tryd.underlying23, by kernel_rfl⟩
theorem sz23 : (Tryd.prog.info? 23).map (·.size) = some 5 := by kernel_rfl
theorem inf51 : Inf Tryd.prog 51 (.agg #[.int .i64 0, .int .i64 0, .int .i64 0]) 3 24 := by unfold Inf; kernel_rfl
theorem inf9 : Inf Tryd.prog 9 (.string ⟨[].toArray⟩) 1 16 := by unfold Inf; kernel_rfl
theorem sz3 : (Tryd.prog.info? 3).map (·.size) = some 1 := by kernel_rfl
theorem sc3 : scalar Tryd.prog 3 = true := by kernel_rfl
theorem sc4 : scalar Tryd.prog 4 = true := by kernel_rfl
theorem sih23 : Tryd.prog.stoodInHeld 23 = false := by kernel_rfl
theorem eqg23 : Tryd.prog.eqGuardType Tryd.prog.depth 23 = false := by kernel_rfl
theorem nz3 : Tryd.prog.cellsOf 3 ≠ 0 := by decide +kernel
theorem inf58 : Inf Tryd.prog 58 (.agg #[.int .u8 0, .int .u8 0, .int .u8 0, .int .u8 0, .int .u8 0, .int .u8 0, .int .u8 0, .int .u8 0, .int .u8 0, .int .u8 0, .int .u8 0, .int .u8 0, .int .u8 0, .int .u8 0, .int .u8 0, .int .u8 0, .int .u8 0, .int .u8 0, .int .u8 0, .int .u8 0]) 20 20 := by unfold Inf; kernel_rfl
theorem sz5 : (Tryd.prog.info? 5).map (·.size) = some 1 := by kernel_rfl
theorem mixO : Tryd.prog.follows .mixedOrders = true := by kernel_rfl
theorem nz4 : Tryd.prog.cellsOf 4 ≠ 0 := by decide +kernel
theorem nz23 : Tryd.prog.cellsOf 23 ≠ 0 := by decide +kernel
theorem sz25 : (Tryd.prog.info? 25).map (·.size) = some 7 := by kernel_rfl
theorem inf47 : Inf Tryd.prog 47 (.agg #[.int .i64 0, .int .i64 0]) 2 16 := by unfold Inf; kernel_rfl
theorem places47 : Places Tryd.prog 47 [(0, 1), (1, 1)] := ⟨_, Tryd.underlying47, by kernel_rfl⟩
theorem inf3 : Inf Tryd.prog 3 (.int .i64 0) 1 8 := by unfold Inf; kernel_rfl

noncomputable def fn_prov_isKind (xa : Int) : Option Bool :=
  some ((decide (1 ≤ xa)) && (decide (xa ≤ 7)))
set_option maxRecDepth 100000 in
set_option maxHeartbeats 4000000 in
theorem prov_isKind_ok {K : Hp} {xa : Int}   {r : Bool} (h : fn_prov_isKind xa = some r) :
    Tr Tryd.prog 21 #[ii xa] K [] (fun v K' L' => (∃ (t4 : Bool), t4 = r ∧ .bool t4 = v ∧ L' = []) ∧ K = K') := by
 refine Tr.k <| Tr.of Tryd.func21 rfl Tryd.ntmps21 rfl fun E F => ?_
 unfold fn_prov_isKind at h
 refine cr <| ja (.bool false) rfl <| J.nil <| cr <| jm (ii xa) rfl ?_
 refine jv (.bool (decide (1 ≤ xa))) (V.geq rfl rfl) <| jm (.bool (decide (1 ≤ xa))) rfl <| J.cut 3 <| jmeet [(8, .bool ((decide (1 ≤ xa)) && (decide (xa ≤ 7))))] ?_ ?_
 · rcases bt (decide (1 ≤ xa)) with hc7 | hc7
   · refine J.run rfl rfl rfl hc7 <| jm (ii xa) rfl <| J.run rfl rfl rfl hc7 <| jv (.bool (decide (xa ≤ 7))) (V.leq rfl rfl) <| jv (.bool (decide (xa ≤ 7))) (V.pickT rfl hc7 rfl) <| J.nil ?_
     exact ⟨rfl, ⟨(by simp only [hc7]; rfl), trivial⟩, rfl, rfl⟩
   refine J.skip rfl rfl rfl rfl hc7 <| J.skip rfl rfl rfl rfl hc7 <| jv (.bool false) (V.pickF rfl hc7 rfl) <| J.nil ?_
   exact ⟨rfl, ⟨(by simp only [hc7]; rfl), trivial⟩, rfl, rfl⟩
 intro ρ
 refine ja (.bool ((decide (1 ≤ xa)) && (decide (xa ≤ 7)))) rfl <| J.nil <| CJ.ret ?_
 obtain rfl := si h
 exact ⟨_, _, Res.one rfl rfl, ⟨(decide (1 ≤ xa)) && (decide (xa ≤ 7)), rfl, rfl, rfl⟩, (Hp.le_refl _), fun w hs => hs⟩

noncomputable def fn_prov_Name (xa : Int) : Option (List UInt8) :=
  cond (decide (xa = 1)) (some (([102, 108, 111, 119] : List UInt8))) (cond (decide (xa = 2)) (some (([108, 111, 97, 110] : List UInt8))) (cond (decide (xa = 3)) (some (([98, 97, 115, 101] : List UInt8))) (cond (decide (xa = 4)) (some (([110, 101, 101, 100] : List UInt8))) (cond (decide (xa = 5)) (some (([112, 97, 115, 115] : List UInt8))) (cond (decide (xa = 6)) (some (([103, 105, 118, 101] : List UInt8))) (cond (decide (xa = 7)) (some (([111, 117, 116] : List UInt8))) (some (([63] : List UInt8)))))))))
set_option maxRecDepth 100000 in
set_option maxHeartbeats 4000000 in
theorem prov_Name_ok {K : Hp} {xa : Int}   {r : List UInt8} (h : fn_prov_Name xa = some r) :
    Tr Tryd.prog 8 #[ii xa] K [] (fun v K' L' => (∃ (s8 : List UInt8), s8 = r ∧ .string ⟨s8.toArray⟩ = v ∧ L' = []) ∧ K = K') := by
 refine Tr.k <| Tr.of Tryd.func8 rfl Tryd.ntmps8 rfl fun E F => ?_
 unfold fn_prov_Name at h
 refine cr <| ja (.string ⟨([] : List UInt8).toArray⟩) rfl <| J.nil <| CJ.seq <| CJ.seq <| CJ.region ?_
 refine jm (ii xa) rfl <| J.nil <| CJ.block <| cr <| jv (.bool (decide (xa = 1))) (V.eql rfl rfl) <| ja (.bool (decide (xa = 1))) rfl ?_
 refine J.nil <| cc rfl h (fun hc9 h => ?_) fun hc9 h => ?_
 · refine cr <| ja (.string ⟨([102, 108, 111, 119] : List UInt8).toArray⟩) rfl <| J.nil <| CJ.ret ?_
   obtain rfl := si h
   exact ⟨_, _, Res.one rfl rfl, ⟨([102, 108, 111, 119] : List UInt8), rfl, rfl, rfl⟩, (Hp.le_refl _), fun w hs => hs⟩
 refine cr <| jv (.bool (decide (xa = 2))) (V.eql rfl rfl) <| ja (.bool (decide (xa = 2))) rfl <| J.nil <| cc rfl h (fun hc10 h => ?_) fun hc10 h => ?_
 · refine cr <| ja (.string ⟨([108, 111, 97, 110] : List UInt8).toArray⟩) rfl <| J.nil <| CJ.ret ?_
   obtain rfl := si h
   exact ⟨_, _, Res.one rfl rfl, ⟨([108, 111, 97, 110] : List UInt8), rfl, rfl, rfl⟩, (Hp.le_refl _), fun w hs => hs⟩
 refine cr <| jv (.bool (decide (xa = 3))) (V.eql rfl rfl) <| ja (.bool (decide (xa = 3))) rfl <| J.nil <| cc rfl h (fun hc11 h => ?_) fun hc11 h => ?_
 · refine cr <| ja (.string ⟨([98, 97, 115, 101] : List UInt8).toArray⟩) rfl <| J.nil <| CJ.ret ?_
   obtain rfl := si h
   exact ⟨_, _, Res.one rfl rfl, ⟨([98, 97, 115, 101] : List UInt8), rfl, rfl, rfl⟩, (Hp.le_refl _), fun w hs => hs⟩
 refine cr <| jv (.bool (decide (xa = 4))) (V.eql rfl rfl) <| ja (.bool (decide (xa = 4))) rfl <| J.nil <| cc rfl h (fun hc12 h => ?_) fun hc12 h => ?_
 · refine cr <| ja (.string ⟨([110, 101, 101, 100] : List UInt8).toArray⟩) rfl <| J.nil <| CJ.ret ?_
   obtain rfl := si h
   exact ⟨_, _, Res.one rfl rfl, ⟨([110, 101, 101, 100] : List UInt8), rfl, rfl, rfl⟩, (Hp.le_refl _), fun w hs => hs⟩
 refine cr <| jv (.bool (decide (xa = 5))) (V.eql rfl rfl) <| ja (.bool (decide (xa = 5))) rfl <| J.nil <| cc rfl h (fun hc13 h => ?_) fun hc13 h => ?_
 · refine cr <| ja (.string ⟨([112, 97, 115, 115] : List UInt8).toArray⟩) rfl <| J.nil <| CJ.ret ?_
   obtain rfl := si h
   exact ⟨_, _, Res.one rfl rfl, ⟨([112, 97, 115, 115] : List UInt8), rfl, rfl, rfl⟩, (Hp.le_refl _), fun w hs => hs⟩
 refine cr <| jv (.bool (decide (xa = 6))) (V.eql rfl rfl) <| ja (.bool (decide (xa = 6))) rfl <| J.nil <| cc rfl h (fun hc14 h => ?_) fun hc14 h => ?_
 · refine cr <| ja (.string ⟨([103, 105, 118, 101] : List UInt8).toArray⟩) rfl <| J.nil <| CJ.ret ?_
   obtain rfl := si h
   exact ⟨_, _, Res.one rfl rfl, ⟨([103, 105, 118, 101] : List UInt8), rfl, rfl, rfl⟩, (Hp.le_refl _), fun w hs => hs⟩
 refine cr <| jv (.bool (decide (xa = 7))) (V.eql rfl rfl) <| ja (.bool (decide (xa = 7))) rfl <| J.nil <| cc rfl h (fun hc15 h => ?_) fun hc15 h => ?_
 · refine cr <| ja (.string ⟨([111, 117, 116] : List UInt8).toArray⟩) rfl <| J.nil <| CJ.ret ?_
   obtain rfl := si h
   exact ⟨_, _, Res.one rfl rfl, ⟨([111, 117, 116] : List UInt8), rfl, rfl, rfl⟩, (Hp.le_refl _), fun w hs => hs⟩
 refine CJ.skip <| cr <| ja (.string ⟨([63] : List UInt8).toArray⟩) rfl <| J.nil <| CJ.ret ?_
 obtain rfl := si h
 exact ⟨_, _, Res.one rfl rfl, ⟨([63] : List UInt8), rfl, rfl, rfl⟩, (Hp.le_refl _), fun w hs => hs⟩
noncomputable def fn_prov_Kind_l1 (xa : (List UInt8)) : Int → Option (Int ⊕ (Unit ⊕ (Int × Bool))) := fun (i174 : Int) => (fn_prov_isKind i174).bind fun t196 => cond (t196) ((fn_prov_Name i174).bind fun s203 => cond (decide (s203 = xa)) (some (.inr ((.inr ((i174, true)))))) (some (.inl (IntKind.wrap .i64 (i174 + 1))))) (some (.inr ((.inl ()))))
noncomputable def fn_prov_Kind (xa : (List UInt8)) : Option (Int × Bool) :=
  (loop (fn_prov_Kind_l1 xa) 1 : Option (Unit ⊕ (Int × Bool))).bind fun o => match o with | .inr r => some r | .inl () => some ((0, false))
set_option maxRecDepth 100000 in
set_option maxHeartbeats 4000000 in
theorem prov_Kind_ok {K : Hp} {xa : (List UInt8)}   {r : (Int × Bool)} (h : fn_prov_Kind xa = some r) :
    Tr Tryd.prog 7 #[.string ⟨xa.toArray⟩] K [] (fun v K' L' => (∃ (i106 : Int) (t107 : Bool), (i106, t107) = r ∧ .tuple #[ii i106, .bool t107] = v ∧ L' = []) ∧ K = K') := by
 refine Tr.k <| Tr.of Tryd.func7 rfl Tryd.ntmps7 rfl fun E F => ?_
 unfold fn_prov_Kind at h
 refine cr <| ja (ii 0) rfl <| ja (.bool false) rfl <| J.nil <| CJ.seq <| CJ.seq ?_
 refine CJ.region <| ja (ii 1) rfl <| J.nil ?_
 obtain ⟨o157, ho158, h⟩ := ob h
 refine CJ.joinN (o := o157) (fun s ρ K' L' => () = s ∧ Fits [] ρ ∧ K = K' ∧ F = L') ?_ ?_
 · refine CJ.block <| CJ.loop (fun s ρ K' L' => ∃ (i174 : Int), i174 = s ∧ Fits [(0, .string ⟨xa.toArray⟩), (4, ii i174)] ρ ∧ K = K' ∧ F = L') ho158 ⟨1, rfl, ⟨rfl, rfl, trivial⟩, rfl, rfl⟩ ?_
   rintro s ρ _ _ r193 ⟨i174, rfl, hf191, rfl, rfl⟩ h190
   obtain ⟨ρ, rfl⟩ := hf191.ex
   refine CJ.seq <| cr <| jm (ii i174) rfl ?_
   obtain ⟨r194, hr195, h190⟩ := ob h190
   refine J.op rfl (A.call (L1 := []) Tryd.call21 rfl (prov_isKind_ok hr195) rfl rfl) ?_
   rintro _ _ _ ⟨v197, _, rfl, ⟨⟨t196, rfl, rfl, rfl⟩, rfl⟩, _, rfl⟩
   refine J.nil <| cc rfl h190 (fun hc200 h190 => ?_) fun hc200 h190 => ?_
   · refine CJ.skip <| CJ.seq <| CJ.block <| cr <| jm (ii i174) rfl ?_
     obtain ⟨r201, hr202, h190⟩ := ob h190
     refine J.op rfl (A.call (L1 := []) Tryd.call8 rfl (prov_Name_ok hr202) rfl rfl) ?_
     rintro _ _ _ ⟨v204, _, rfl, ⟨⟨s203, rfl, rfl, rfl⟩, rfl⟩, _, rfl⟩
     refine jm (.string ⟨xa.toArray⟩) rfl <| jv (.bool (decide (s203 = xa))) (V.eqs rfl rfl) <| J.nil <| cc rfl h190 (fun hc207 h190 => ?_) fun hc207 h190 => ?_
     · refine cr <| jm (ii i174) rfl <| ja (ii i174) rfl <| ja (.bool true) rfl <| J.nil <| CJ.ret ?_
       obtain rfl := si h190
       refine ⟨nofun, fun e => ?_⟩
       subst e
       refine .inr ⟨nofun, ?_⟩
       obtain rfl := si h
       exact ⟨_, _, Res.two rfl rfl rfl, ⟨i174, true, rfl, rfl, rfl⟩, (Hp.le_refl _), fun w hs => hs⟩
     refine CJ.skip <| CJ.region <| jm (ii i174) rfl <| jv (ii (IntKind.wrap .i64 (i174 + 1))) (V.add rfl rfl) <| ja (ii (IntKind.wrap .i64 (i174 + 1))) rfl <| J.nil ?_
     obtain rfl := si h190
     exact ⟨rfl, ⟨IntKind.wrap .i64 (i174 + 1), rfl, ⟨rfl, rfl, trivial⟩, rfl, rfl⟩⟩
   refine CJ.exit ?_
   obtain rfl := si h190
   refine ⟨nofun, fun e => ?_⟩
   subst e
   exact .inl ⟨rfl, _, rfl, ⟨rfl, trivial, rfl, rfl⟩⟩
 rintro s ρ _ _ ho208 ⟨rfl, hf209, rfl, rfl⟩
 subst ho208
 obtain ⟨ρ, rfl⟩ := hf209.ex
 refine PJ.done <| cr <| ja (ii 0) rfl <| ja (.bool false) rfl <| J.nil <| CJ.ret ?_
 obtain rfl := si h
 exact ⟨_, _, Res.two rfl rfl rfl, ⟨0, false, rfl, rfl, rfl⟩, (Hp.le_refl _), fun w hs => hs⟩
noncomputable def fn_numeral_isNumber_l1 (xa : (List UInt8)) : Int → Option (Int ⊕ (Unit ⊕ Bool)) := fun (i307 : Int) => cond (decide (i307 < (((xa.length : Nat) : Int)))) ((getI xa i307).bind fun x335 => (cond (decide ((((x335.toNat : Nat) : Int)) < 48)) (some (true)) ((getI xa i307).bind fun x349 => some (decide (57 < (((x349.toNat : Nat) : Int)))))).bind fun t346 => cond (t346) (some (.inr ((.inr (false))))) (some (.inl (IntKind.wrap .i64 (i307 + 1))))) (some (.inr ((.inl ()))))
noncomputable def fn_numeral_isNumber (xa : (List UInt8)) : Option Bool :=
  (cond (decide (xa = ([] : List UInt8))) (some (true)) ((cond (decide (1 < (((xa.length : Nat) : Int)))) ((getI xa 0).bind fun x207 => some (decide ((((x207.toNat : Nat) : Int)) = 48))) (some (false))).bind fun t204 => some (t204))).bind fun t195 => cond (t195) (some (false)) ((loop (fn_numeral_isNumber_l1 xa) 0 : Option (Unit ⊕ Bool)).bind fun o => match o with | .inr r => some r | .inl () => some (true))
set_option maxRecDepth 100000 in
set_option maxHeartbeats 4000000 in
theorem numeral_isNumber_ok {K : Hp} {xa : (List UInt8)}   {r : Bool} (h : fn_numeral_isNumber xa = some r) :
    Tr Tryd.prog 40 #[.string ⟨xa.toArray⟩] K [] (fun v K' L' => (∃ (t179 : Bool), t179 = r ∧ .bool t179 = v ∧ L' = []) ∧ K = K') := by
 refine Tr.k <| Tr.of Tryd.func40 rfl Tryd.ntmps40 rfl fun E F => ?_
 unfold fn_numeral_isNumber at h
 refine cr <| ja (.bool false) rfl <| J.nil <| CJ.seq <| CJ.seq <| CJ.region ?_
 refine jm (.string ⟨xa.toArray⟩) rfl <| jv (.bool (decide (xa = ([] : List UInt8)))) (V.eqs rfl rfl) <| jm (.bool (decide (xa = ([] : List UInt8)))) rfl <| J.cut 9 ?_
 obtain ⟨t195, ht196, h⟩ := ob h
 refine jmeet [(15, .bool t195), (0, .string ⟨xa.toArray⟩)] ?_ ?_
 · rcases bt (decide (xa = ([] : List UInt8))) with hc197 | hc197
   · have ht196 := ct hc197 ht196
     refine J.skip rfl rfl rfl rfl hc197 <| J.skip rfl rfl rfl rfl hc197 <| J.skip rfl rfl rfl rfl hc197 <| J.skip rfl rfl rfl rfl hc197 <| J.skipu rfl rfl rfl rfl <| J.skipu rfl rfl rfl rfl <| J.skipu rfl rfl rfl rfl ?_
     refine J.skip rfl rfl rfl rfl hc197 <| jv (.bool true) (V.pickT rfl hc197 rfl) <| J.nil ?_
     obtain rfl := si ht196
     exact ⟨rfl, ⟨rfl, rfl, trivial⟩, rfl, rfl⟩
   have ht196 := cf hc197 ht196
   refine J.run rfl rfl rfl hc197 <| jm (.string ⟨xa.toArray⟩) rfl <| J.run rfl rfl rfl hc197 <| jv (ii (((xa.length : Nat) : Int))) (V.lens Tryd.underlying9 rfl) <| J.run rfl rfl rfl hc197 <| jv (.bool (decide (1 < (((xa.length : Nat) : Int))))) (V.gtr rfl rfl) <| J.run rfl rfl rfl hc197 ?_
   refine jm (.bool (decide (1 < (((xa.length : Nat) : Int))))) rfl <| J.cut 4 ?_
   obtain ⟨t204, ht205, ht196⟩ := ob ht196
   refine jmeet [(14, .bool t204), (0, .string ⟨xa.toArray⟩), (6, .bool (decide (xa = ([] : List UInt8))))] ?_ ?_
   · rcases bt (decide (1 < (((xa.length : Nat) : Int)))) with hc206 | hc206
     · have ht205 := ct hc206 ht205
       refine J.run rfl rfl rfl hc206 <| jm (.string ⟨xa.toArray⟩) rfl <| J.run rfl rfl rfl hc206 ?_
       obtain ⟨x207, hx208, ht205⟩ := ob ht205
       obtain ⟨p209, p210, p211⟩ := getI_some hx208
       refine jv (.int .u8 (((x207.toNat : Nat) : Int))) (V.ixs Tryd.underlying9 rfl rfl p209 p210) <| J.run rfl rfl rfl hc206 <| jv (.bool (decide ((((x207.toNat : Nat) : Int)) = 48))) (V.eql rfl rfl) <| J.run rfl rfl rfl hc197 <| jv (.bool (decide ((((x207.toNat : Nat) : Int)) = 48))) (V.pickT rfl hc206 rfl) <| J.nil ?_
       obtain rfl := si ht205
       exact ⟨rfl, ⟨rfl, rfl, rfl, trivial⟩, rfl, rfl⟩
     have ht205 := cf hc206 ht205
     refine J.skip rfl rfl rfl rfl hc206 <| J.skip rfl rfl rfl rfl hc206 <| J.skip rfl rfl rfl rfl hc206 <| J.run rfl rfl rfl hc197 <| jv (.bool false) (V.pickF rfl hc206 rfl) <| J.nil ?_
     obtain rfl := si ht205
     exact ⟨rfl, ⟨rfl, rfl, rfl, trivial⟩, rfl, rfl⟩
   intro ρ
   refine jv (.bool t204) (V.pickF rfl hc197 rfl) <| J.nil ?_
   obtain rfl := si ht196
   exact ⟨rfl, ⟨rfl, rfl, trivial⟩, rfl, rfl⟩
 intro ρ
 refine J.nil <| cc rfl h (fun hc212 h => ?_) fun hc212 h => ?_
 · refine cr <| ja (.bool false) rfl <| J.nil <| CJ.ret ?_
   obtain rfl := si h
   exact ⟨_, _, Res.one rfl rfl, ⟨false, rfl, rfl, rfl⟩, (Hp.le_refl _), fun w hs => hs⟩
 refine CJ.skip <| CJ.seq <| cr <| ja (ii 0) rfl <| J.nil ?_
 obtain ⟨o283, ho284, h⟩ := ob h
 refine CJ.joinN (o := o283) (fun s ρ K' L' => () = s ∧ Fits [] ρ ∧ K = K' ∧ F = L') ?_ ?_
 · refine CJ.block <| CJ.loop (fun s ρ K' L' => ∃ (i307 : Int), i307 = s ∧ Fits [(0, .string ⟨xa.toArray⟩), (3, ii i307)] ρ ∧ K = K' ∧ F = L') ho284 ⟨0, rfl, ⟨rfl, rfl, trivial⟩, rfl, rfl⟩ ?_
   rintro s ρ _ _ r333 ⟨i307, rfl, hf331, rfl, rfl⟩ h330
   obtain ⟨ρ, rfl⟩ := hf331.ex
   refine CJ.seq <| cr <| jm (ii i307) rfl <| jm (.string ⟨xa.toArray⟩) rfl <| jv (ii (((xa.length : Nat) : Int))) (V.lens Tryd.underlying9 rfl) <| jv (.bool (decide (i307 < (((xa.length : Nat) : Int))))) (V.lss rfl rfl) ?_
   refine J.nil <| cc rfl h330 (fun hc334 h330 => ?_) fun hc334 h330 => ?_
   · refine CJ.skip <| CJ.seq <| CJ.block <| cr <| jm (.string ⟨xa.toArray⟩) rfl <| jm (ii i307) rfl ?_
     obtain ⟨x335, hx336, h330⟩ := ob h330
     obtain ⟨p337, p338, p339⟩ := getI_some hx336
     refine jv (.int .u8 (((x335.toNat : Nat) : Int))) (V.ixs Tryd.underlying9 rfl rfl p337 p338) <| jv (.bool (decide ((((x335.toNat : Nat) : Int)) < 48))) (V.lss rfl rfl) <| jm (.bool (decide ((((x335.toNat : Nat) : Int)) < 48))) rfl <| J.cut 5 ?_
     obtain ⟨t346, ht347, h330⟩ := ob h330
     refine jmeet [(31, .bool t346), (0, .string ⟨xa.toArray⟩), (3, ii i307)] ?_ ?_
     · rcases bt (decide ((((x335.toNat : Nat) : Int)) < 48)) with hc348 | hc348
       · have ht347 := ct hc348 ht347
         refine J.skip rfl rfl rfl rfl hc348 <| J.skip rfl rfl rfl rfl hc348 <| J.skip rfl rfl rfl rfl hc348 <| J.skip rfl rfl rfl rfl hc348 <| jv (.bool true) (V.pickT rfl hc348 rfl) <| J.nil ?_
         obtain rfl := si ht347
         exact ⟨rfl, ⟨rfl, rfl, rfl, trivial⟩, rfl, rfl⟩
       have ht347 := cf hc348 ht347
       refine J.run rfl rfl rfl hc348 <| jm (.string ⟨xa.toArray⟩) rfl <| J.run rfl rfl rfl hc348 <| jm (ii i307) rfl <| J.run rfl rfl rfl hc348 ?_
       obtain ⟨x349, hx350, ht347⟩ := ob ht347
       obtain ⟨p351, p352, p353⟩ := getI_some hx350
       refine jv (.int .u8 (((x349.toNat : Nat) : Int))) (V.ixs Tryd.underlying9 rfl rfl p351 p352) <| J.run rfl rfl rfl hc348 <| jv (.bool (decide (57 < (((x349.toNat : Nat) : Int))))) (V.gtr rfl rfl) <| jv (.bool (decide (57 < (((x349.toNat : Nat) : Int))))) (V.pickF rfl hc348 rfl) <| J.nil ?_
       obtain rfl := si ht347
       exact ⟨rfl, ⟨rfl, rfl, rfl, trivial⟩, rfl, rfl⟩
     intro ρ
     refine J.nil <| cc rfl h330 (fun hc354 h330 => ?_) fun hc354 h330 => ?_
     · refine cr <| ja (.bool false) rfl <| J.nil <| CJ.ret ?_
       obtain rfl := si h330
       refine ⟨nofun, fun e => ?_⟩
       subst e
       refine .inr ⟨nofun, ?_⟩
       obtain rfl := si h
       exact ⟨_, _, Res.one rfl rfl, ⟨false, rfl, rfl, rfl⟩, (Hp.le_refl _), fun w hs => hs⟩
     refine CJ.skip <| CJ.region <| jm (ii i307) rfl <| jv (ii (IntKind.wrap .i64 (i307 + 1))) (V.add rfl rfl) <| ja (ii (IntKind.wrap .i64 (i307 + 1))) rfl <| J.nil ?_
     obtain rfl := si h330
     exact ⟨rfl, ⟨IntKind.wrap .i64 (i307 + 1), rfl, ⟨rfl, rfl, trivial⟩, rfl, rfl⟩⟩
   refine CJ.exit ?_
   obtain rfl := si h330
   refine ⟨nofun, fun e => ?_⟩
   subst e
   exact .inl ⟨rfl, _, rfl, ⟨rfl, trivial, rfl, rfl⟩⟩
 rintro s ρ _ _ ho355 ⟨rfl, hf356, rfl, rfl⟩
 subst ho355
 obtain ⟨ρ, rfl⟩ := hf356.ex
 refine PJ.done <| cr <| ja (.bool true) rfl <| J.nil <| CJ.ret ?_
 obtain rfl := si h
 exact ⟨_, _, Res.one rfl rfl, ⟨true, rfl, rfl, rfl⟩, (Hp.le_refl _), fun w hs => hs⟩
noncomputable def fn_numeral_Parse_l1 (xa : (List UInt8)) (xb : Int) : (Int × Int) → Option ((Int × Int) ⊕ (Int ⊕ (Int × Int))) := fun ((i160, i161) : (Int × Int)) => cond (decide (i161 < (((xa.length : Nat) : Int)))) ((getI xa i161).bind fun x179 => cond ((decide (xb < (IntKind.wrap .i64 (IntKind.wrap .u8 ((((x179.toNat : Nat) : Int)) - 48))))) || (decide ((IntKind.wrap .i64 (Int.tdiv (IntKind.wrap .i64 (xb - (IntKind.wrap .i64 (IntKind.wrap .u8 ((((x179.toNat : Nat) : Int)) - 48))))) 10)) < i160))) (some (.inr ((.inr ((0, 5)))))) (some (.inl ((IntKind.wrap .i64 ((IntKind.wrap .i64 (i160 * 10)) + (IntKind.wrap .i64 (IntKind.wrap .u8 ((((x179.toNat : Nat) : Int)) - 48)))), IntKind.wrap .i64 (i161 + 1)))))) (some (.inr (.inl i160)))
noncomputable def fn_numeral_Parse (xa : (List UInt8)) (xb : Int) : Option (Int × Int) :=
  (fn_numeral_isNumber xa).bind fun t100 => cond (!t100) (some ((0, 3))) ((loop (fn_numeral_Parse_l1 xa xb) (0, 0) : Option (Int ⊕ (Int × Int))).bind fun o => match o with | .inr r => some r | .inl i145 => some ((i145, 0)))
set_option maxRecDepth 100000 in
set_option maxHeartbeats 4000000 in
theorem numeral_Parse_ok {K : Hp} {xa : (List UInt8)} {xb : Int}   {r : (Int × Int)} (h : fn_numeral_Parse xa xb = some r) :
    Tr Tryd.prog 29 #[.string ⟨xa.toArray⟩, ii xb] K [] (fun v K' L' => (∃ (i96 : Int) (i97 : Int), (i96, i97) = r ∧ .tuple #[ii i96, ii i97] = v ∧ L' = []) ∧ K = K') := by
 refine Tr.k <| Tr.of Tryd.func29 rfl Tryd.ntmps29 rfl fun E F => ?_
 unfold fn_numeral_Parse at h
 refine cr <| ja (ii 0) rfl <| ja (ii 0) rfl <| J.nil <| CJ.seq <| CJ.seq ?_
 refine CJ.region <| jm (.string ⟨xa.toArray⟩) rfl ?_
 obtain ⟨r98, hr99, h⟩ := ob h
 refine J.op rfl (A.call (L1 := []) Tryd.call40 rfl (numeral_isNumber_ok hr99) rfl rfl) ?_
 rintro _ _ _ ⟨v101, _, rfl, ⟨⟨t100, rfl, rfl, rfl⟩, rfl⟩, _, rfl⟩
 refine jv (.bool (!t100)) (V.not rfl) <| J.nil <| cc rfl h (fun hc104 h => ?_) fun hc104 h => ?_
 · refine cr <| ja (ii 0) rfl <| ja (ii 3) rfl <| J.nil <| CJ.ret ?_
   obtain rfl := si h
   exact ⟨_, _, Res.two rfl rfl rfl, ⟨0, 3, rfl, rfl, rfl⟩, (Hp.le_refl _), fun w hs => hs⟩
 refine CJ.skip <| cr <| ja (ii 0) rfl <| J.nil <| CJ.seq <| CJ.seq ?_
 refine CJ.region <| ja (ii 0) rfl <| J.nil ?_
 obtain ⟨o146, ho147, h⟩ := ob h
 refine CJ.joinN (o := o146) (fun s ρ K' L' => ∃ (i145 : Int), i145 = s ∧ Fits [(6, ii i145)] ρ ∧ K = K' ∧ F = L') ?_ ?_
 · refine CJ.block <| CJ.loop (fun s ρ K' L' => ∃ (i160 : Int) (i161 : Int), (i160, i161) = s ∧ Fits [(0, .string ⟨xa.toArray⟩), (1, ii xb), (6, ii i160), (7, ii i161)] ρ ∧ K = K' ∧ F = L') ho147 ⟨0, 0, rfl, ⟨rfl, rfl, rfl, rfl, trivial⟩, rfl, rfl⟩ ?_
   rintro s ρ _ _ r177 ⟨i160, i161, rfl, hf175, rfl, rfl⟩ h174
   obtain ⟨ρ, rfl⟩ := hf175.ex
   refine CJ.seq <| cr <| jm (ii i161) rfl <| jm (.string ⟨xa.toArray⟩) rfl <| jv (ii (((xa.length : Nat) : Int))) (V.lens Tryd.underlying9 rfl) <| jv (.bool (decide (i161 < (((xa.length : Nat) : Int))))) (V.lss rfl rfl) ?_
   refine J.nil <| cc rfl h174 (fun hc178 h174 => ?_) fun hc178 h174 => ?_
   · refine CJ.skip <| CJ.seq <| CJ.block <| cr <| jm (.string ⟨xa.toArray⟩) rfl <| jm (ii i161) rfl ?_
     obtain ⟨x179, hx180, h174⟩ := ob h174
     obtain ⟨p181, p182, p183⟩ := getI_some hx180
     refine jv (.int .u8 (((x179.toNat : Nat) : Int))) (V.ixs Tryd.underlying9 rfl rfl p181 p182) <| jv (.int .u8 (IntKind.wrap .u8 ((((x179.toNat : Nat) : Int)) - 48))) (V.sub rfl rfl) <| jv (ii (IntKind.wrap .i64 (IntKind.wrap .u8 ((((x179.toNat : Nat) : Int)) - 48)))) (V.conv Tryd.underlying5 Tryd.underlying3 rfl) <| ja (ii (IntKind.wrap .i64 (IntKind.wrap .u8 ((((x179.toNat : Nat) : Int)) - 48)))) rfl <| J.nil <| CJ.seq <| CJ.seq ?_
     refine CJ.region <| jm (ii (IntKind.wrap .i64 (IntKind.wrap .u8 ((((x179.toNat : Nat) : Int)) - 48)))) rfl <| jm (ii xb) rfl <| jv (.bool (decide (xb < (IntKind.wrap .i64 (IntKind.wrap .u8 ((((x179.toNat : Nat) : Int)) - 48)))))) (V.gtr rfl rfl) <| jm (.bool (decide (xb < (IntKind.wrap .i64 (IntKind.wrap .u8 ((((x179.toNat : Nat) : Int)) - 48)))))) rfl <| J.cut 7 <| jmeet [(33, .bool ((decide (xb < (IntKind.wrap .i64 (IntKind.wrap .u8 ((((x179.toNat : Nat) : Int)) - 48))))) || (decide ((IntKind.wrap .i64 (Int.tdiv (IntKind.wrap .i64 (xb - (IntKind.wrap .i64 (IntKind.wrap .u8 ((((x179.toNat : Nat) : Int)) - 48))))) 10)) < i160)))), (0, .string ⟨xa.toArray⟩), (1, ii xb), (6, ii i160), (7, ii i161), (8, ii (IntKind.wrap .i64 (IntKind.wrap .u8 ((((x179.toNat : Nat) : Int)) - 48))))] ?_ ?_
     · rcases bt (decide (xb < (IntKind.wrap .i64 (IntKind.wrap .u8 ((((x179.toNat : Nat) : Int)) - 48))))) with hc186 | hc186
       · refine J.skip rfl rfl rfl rfl hc186 <| J.skip rfl rfl rfl rfl hc186 <| J.skip rfl rfl rfl rfl hc186 <| J.skip rfl rfl rfl rfl hc186 <| J.skip rfl rfl rfl rfl hc186 <| J.skip rfl rfl rfl rfl hc186 <| jv (.bool true) (V.pickT rfl hc186 rfl) ?_
         refine J.nil ?_
         exact ⟨rfl, ⟨(by simp only [hc186]; rfl), rfl, rfl, rfl, rfl, rfl, trivial⟩, rfl, rfl⟩
       refine J.run rfl rfl rfl hc186 <| jm (ii i160) rfl <| J.run rfl rfl rfl hc186 <| jm (ii xb) rfl <| J.run rfl rfl rfl hc186 <| jm (ii (IntKind.wrap .i64 (IntKind.wrap .u8 ((((x179.toNat : Nat) : Int)) - 48)))) rfl <| J.run rfl rfl rfl hc186 ?_
       refine jv (ii (IntKind.wrap .i64 (xb - (IntKind.wrap .i64 (IntKind.wrap .u8 ((((x179.toNat : Nat) : Int)) - 48)))))) (V.sub rfl rfl) <| J.run rfl rfl rfl hc186 <| jv (ii (IntKind.wrap .i64 (Int.tdiv (IntKind.wrap .i64 (xb - (IntKind.wrap .i64 (IntKind.wrap .u8 ((((x179.toNat : Nat) : Int)) - 48))))) 10))) (V.quo rfl rfl (by decide)) <| J.run rfl rfl rfl hc186 <| jv (.bool (decide ((IntKind.wrap .i64 (Int.tdiv (IntKind.wrap .i64 (xb - (IntKind.wrap .i64 (IntKind.wrap .u8 ((((x179.toNat : Nat) : Int)) - 48))))) 10)) < i160))) (V.gtr rfl rfl) <| jv (.bool (decide ((IntKind.wrap .i64 (Int.tdiv (IntKind.wrap .i64 (xb - (IntKind.wrap .i64 (IntKind.wrap .u8 ((((x179.toNat : Nat) : Int)) - 48))))) 10)) < i160))) (V.pickF rfl hc186 rfl) <| J.nil ?_
       exact ⟨rfl, ⟨(by simp only [hc186]; rfl), rfl, rfl, rfl, rfl, rfl, trivial⟩, rfl, rfl⟩
     intro ρ
     refine J.nil <| cc rfl h174 (fun hc187 h174 => ?_) fun hc187 h174 => ?_
     · refine cr <| ja (ii 0) rfl <| ja (ii 5) rfl <| J.nil <| CJ.ret ?_
       obtain rfl := si h174
       refine ⟨nofun, fun e => ?_⟩
       subst e
       refine .inr ⟨nofun, ?_⟩
       obtain rfl := si h
       exact ⟨_, _, Res.two rfl rfl rfl, ⟨0, 5, rfl, rfl, rfl⟩, (Hp.le_refl _), fun w hs => hs⟩
     refine CJ.skip <| CJ.region <| jm (ii i160) rfl <| jv (ii (IntKind.wrap .i64 (i160 * 10))) (V.mul rfl rfl) <| jm (ii (IntKind.wrap .i64 (IntKind.wrap .u8 ((((x179.toNat : Nat) : Int)) - 48)))) rfl <| jv (ii (IntKind.wrap .i64 ((IntKind.wrap .i64 (i160 * 10)) + (IntKind.wrap .i64 (IntKind.wrap .u8 ((((x179.toNat : Nat) : Int)) - 48)))))) (V.add rfl rfl) <| ja (ii (IntKind.wrap .i64 ((IntKind.wrap .i64 (i160 * 10)) + (IntKind.wrap .i64 (IntKind.wrap .u8 ((((x179.toNat : Nat) : Int)) - 48)))))) rfl ?_
     refine J.nil <| CJ.region <| jm (ii i161) rfl <| jv (ii (IntKind.wrap .i64 (i161 + 1))) (V.add rfl rfl) <| ja (ii (IntKind.wrap .i64 (i161 + 1))) rfl <| J.nil ?_
     obtain rfl := si h174
     exact ⟨rfl, ⟨IntKind.wrap .i64 ((IntKind.wrap .i64 (i160 * 10)) + (IntKind.wrap .i64 (IntKind.wrap .u8 ((((x179.toNat : Nat) : Int)) - 48)))), IntKind.wrap .i64 (i161 + 1), rfl, ⟨rfl, rfl, rfl, rfl, trivial⟩, rfl, rfl⟩⟩
   refine CJ.exit ?_
   obtain rfl := si h174
   refine ⟨nofun, fun e => ?_⟩
   subst e
   exact .inl ⟨rfl, _, rfl, ⟨i160, rfl, ⟨rfl, trivial⟩, rfl, rfl⟩⟩
 rintro s ρ _ _ ho188 ⟨i145, rfl, hf189, rfl, rfl⟩
 subst ho188
 obtain ⟨ρ, rfl⟩ := hf189.ex
 refine PJ.done <| cr <| jm (ii i145) rfl <| ja (ii i145) rfl <| ja (ii 0) rfl <| J.nil ?_
 refine CJ.ret ?_
 obtain rfl := si h
 exact ⟨_, _, Res.two rfl rfl rfl, ⟨i145, 0, rfl, rfl, rfl⟩, (Hp.le_refl _), fun w hs => hs⟩
noncomputable def fn_prov_Parse_l1 (s333 : List UInt8) (s334 : List UInt8) (x360 : (List UInt8)) : ((List Int) × Int) → Option (((List Int) × Int) ⊕ ((List Int) ⊕ (Int × Int × Int × Int × Bool × Int))) := fun ((l495, i498) : ((List Int) × Int)) => cond (decide (i498 < ((((([s333, s334, x360] : List (List UInt8))).length : Nat) : Int)))) ((getI (([s333, s334, x360] : List (List UInt8))) i498).bind fun x533 => (fn_numeral_Parse x533 1048576).bind fun (i542, i543) => cond (!decide (i543 = 0)) (some (.inr ((.inr ((0, 0, 0, 0, false, i543)))))) ((getI l495 i498).bind fun x548 => (some (l495.set i498.toNat i542)).bind fun z553 => some (.inl ((z553, IntKind.wrap .i64 (i498 + 1)))))) (some (.inr (.inl l495)))
noncomputable def fn_prov_Parse (xa : (List UInt8)) : Option (Int × Int × Int × Int × Bool × Int) :=
  (splF xa ([32] : List UInt8)).bind fun l294 => (cond (decide ((((l294.length : Nat) : Int)) = 4)) ((getI l294 3).bind fun x313 => some (decide (x313 = ([98, 97, 99, 107] : List UInt8)))) (some (false))).bind fun t310 => cond ((!decide ((((l294.length : Nat) : Int)) = 3)) && (!t310)) (some ((0, 0, 0, 0, false, 3))) ((getI l294 0).bind fun x324 => (cutF x324 ([46] : List UInt8)).bind fun (s333, s334, t335) => (getI l294 1).bind fun x339 => (fn_prov_Kind x339).bind fun (i348, t349) => cond ((!t335) || (!t349)) (some ((0, 0, 0, 0, false, 3))) ((getI l294 2).bind fun x360 => (loop (fn_prov_Parse_l1 s333 s334 x360) ((([0, 0, 0] : List Int), 0)) : Option ((List Int) ⊕ (Int × Int × Int × Int × Bool × Int))).bind fun o => match o with | .inr r => some r | .inl l461 => (getI l461 0).bind fun x560 => (getI l461 1).bind fun x565 => (getI l461 2).bind fun x570 => some ((x560, x565, i348, x570, t310, 0))))
set_option maxRecDepth 100000 in
set_option maxHeartbeats 4000000 in
theorem prov_Parse_ok {K : Hp} {xa : (List UInt8)}  (fG : Gk K) {r : (Int × Int × Int × Int × Bool × Int)} (h : fn_prov_Parse xa = some r) :
    Tr Tryd.prog 17 #[.string ⟨xa.toArray⟩] K [] (fun v K' L' => (∃ (i285 : Int) (i286 : Int) (i287 : Int) (i288 : Int) (t289 : Bool) (i290 : Int), (i285, i286, i287, i288, t289, i290) = r ∧ .tuple #[.agg #[ii i285, ii i286, ii i287, ii i288, .bool t289], ii i290] = v ∧ L' = []) ∧ K = K') := by
 refine Tr.k <| Tr.of Tryd.func17 rfl Tryd.ntmps17 rfl fun E F => ?_
 unfold fn_prov_Parse at h
 refine cr <| jal inf23 [ii 0, ii 0, ii 0, ii 0, .bool false] rfl fun b291 => ja (ii 0) rfl <| J.nil <| CJ.seq <| CJ.region ?_
 refine jm (.string ⟨xa.toArray⟩) rfl ?_
 obtain ⟨r292, hr293, h⟩ := ob h
 refine J.op rfl (A.call (L1 := []) Tryd.call27 rfl (strings_Split_ok fG hr293) rfl rfl) ?_
 rintro _ _ _ ⟨v298, _, rfl, ⟨⟨l294, ad295, cp296, rfl, rfl, rfl⟩, rfl⟩, _, rfl⟩
 refine J.wit Row.hn fun hn297 => ja (.slice ad295 l294.length cp296) rfl <| J.nil <| cr <| jm (.slice ad295 l294.length cp296) rfl <| jv (ii (((l294.length : Nat) : Int))) (V.len Tryd.underlying43 rfl) ?_
 refine jv (.bool (decide ((((l294.length : Nat) : Int)) = 4))) (V.eql rfl rfl) <| jm (.bool (decide ((((l294.length : Nat) : Int)) = 4))) rfl <| J.cut 5 ?_
 obtain ⟨t310, ht311, h⟩ := ob h
 refine jmeet [(26, .bool t310), (2, .pointer (some ⟨b291, 0, none⟩)), (4, .slice ad295 l294.length cp296)] ?_ ?_
 · rcases bt (decide ((((l294.length : Nat) : Int)) = 4)) with hc312 | hc312
   · have ht311 := ct hc312 ht311
     refine J.run rfl rfl rfl hc312 <| jm (.slice ad295 l294.length cp296) rfl <| J.run rfl rfl rfl hc312 ?_
     obtain ⟨x313, hx314, ht311⟩ := ob ht311
     obtain ⟨p315, p316, p317⟩ := getI_some hx314
     obtain ⟨g318, e319⟩ := hn297 (fun e => by rw [e] at p316; simp at p316)
     refine jv _ (V.iad Tryd.underlying43 sz9 rfl e319 rfl p315 p317) <| J.run rfl rfl rfl hc312 <| jv (.string ⟨x313.toArray⟩) (V.ld rfl (Ld.sc sc9 (Rd.row 0 rfl e319 p316 (q := 0) (by simp [Tp.size]) (by decide) (by rintro _ rfl; rfl)))) <| J.run rfl rfl rfl hc312 <| jv (.bool (decide (x313 = ([98, 97, 99, 107] : List UInt8)))) (V.eqs rfl rfl) <| jv (.bool (decide (x313 = ([98, 97, 99, 107] : List UInt8)))) (V.pickT rfl hc312 rfl) <| J.nil ?_
     obtain rfl := si ht311
     exact ⟨rfl, ⟨rfl, rfl, rfl, trivial⟩, rfl, rfl⟩
   have ht311 := cf hc312 ht311
   refine J.skip rfl rfl rfl rfl hc312 <| J.skip rfl rfl rfl rfl hc312 <| J.skip rfl rfl rfl rfl hc312 <| J.skip rfl rfl rfl rfl hc312 <| jv (.bool false) (V.pickF rfl hc312 rfl) <| J.nil ?_
   obtain rfl := si ht311
   exact ⟨rfl, ⟨rfl, rfl, rfl, trivial⟩, rfl, rfl⟩
 intro ρ
 refine ja (.bool t310) rfl <| J.nil <| CJ.seq <| cr <| jm (.slice ad295 l294.length cp296) rfl <| jv (ii (((l294.length : Nat) : Int))) (V.len Tryd.underlying43 rfl) ?_
 refine jv (.bool (!decide ((((l294.length : Nat) : Int)) = 3))) (V.neq rfl rfl) <| jm (.bool (!decide ((((l294.length : Nat) : Int)) = 3))) rfl <| J.cut 3 <| jmeet [(33, .bool ((!decide ((((l294.length : Nat) : Int)) = 3)) && (!t310))), (2, .pointer (some ⟨b291, 0, none⟩)), (4, .slice ad295 l294.length cp296), (5, .bool t310)] ?_ ?_
 · rcases bt (!decide ((((l294.length : Nat) : Int)) = 3)) with hc322 | hc322
   · refine J.run rfl rfl rfl hc322 <| jm (.bool t310) rfl <| J.run rfl rfl rfl hc322 <| jv (.bool (!t310)) (V.not rfl) <| jv (.bool (!t310)) (V.pickT rfl hc322 rfl) <| J.nil ?_
     exact ⟨rfl, ⟨(by simp only [hc322]; rfl), rfl, rfl, rfl, trivial⟩, rfl, rfl⟩
   refine J.skip rfl rfl rfl rfl hc322 <| J.skip rfl rfl rfl rfl hc322 <| jv (.bool false) (V.pickF rfl hc322 rfl) <| J.nil ?_
   exact ⟨rfl, ⟨(by simp only [hc322]; rfl), rfl, rfl, rfl, trivial⟩, rfl, rfl⟩
 intro ρ
 refine J.nil <| cc rfl h (fun hc323 h => ?_) fun hc323 h => ?_
 · refine cr <| jv (.agg #[ii 0, ii 0, ii 0, ii 0, .bool false]) (V.build inf23 places23 rfl rfl) <| J.front 1 rfl <| js [ii 0, ii 0, ii 0, ii 0, .bool false] sz23 rfl rfl rfl rfl rfl rfl <| ja (ii 3) rfl <| J.nil ?_
   refine CJ.ret ?_
   obtain rfl := si h
   exact ⟨_, _, Res.two rfl ⟨_, _, rfl, Ld.agg (cs := [ii 0, ii 0, ii 0, ii 0, .bool false]) Tryd.underlying23 sz23 rfl (Rd.cls 0 0 rfl rfl)⟩ rfl, ⟨0, 0, 0, 0, false, 3, rfl, rfl, rfl⟩, (Hp.le_refl _), fun w hs => (Sep.dropAt 0 rfl (Sep.dropAt 0 rfl hs))⟩
 refine CJ.skip <| cr <| jm (.slice ad295 l294.length cp296) rfl ?_
 obtain ⟨x324, hx325, h⟩ := ob h
 obtain ⟨p326, p327, p328⟩ := getI_some hx325
 obtain ⟨g329, e330⟩ := hn297 (fun e => by rw [e] at p327; simp at p327)
 refine jv _ (V.iad Tryd.underlying43 sz9 rfl e330 rfl p326 p328) <| jv (.string ⟨x324.toArray⟩) (V.ld rfl (Ld.sc sc9 (Rd.row 0 rfl e330 p327 (q := 0) (by simp [Tp.size]) (by decide) (by rintro _ rfl; rfl)))) ?_
 obtain ⟨r331, hr332, h⟩ := ob h
 refine J.op rfl (A.call (L1 := []) Tryd.call28 rfl (strings_Cut_ok fG hr332) rfl rfl) ?_
 rintro _ _ _ ⟨v336, _, rfl, ⟨⟨s333, s334, t335, rfl, rfl, rfl⟩, rfl⟩, _, rfl⟩
 refine jm (.tuple #[.string ⟨s333.toArray⟩, .string ⟨s334.toArray⟩, .bool t335]) rfl <| jx (.string ⟨s333.toArray⟩) rfl rfl <| jx (.string ⟨s334.toArray⟩) rfl rfl <| jx (.bool t335) rfl rfl <| ja (.string ⟨s333.toArray⟩) rfl <| ja (.string ⟨s334.toArray⟩) rfl <| ja (.bool t335) rfl ?_
 refine J.nil <| cr <| jm (.slice ad295 l294.length cp296) rfl ?_
 obtain ⟨x339, hx340, h⟩ := ob h
 obtain ⟨p341, p342, p343⟩ := getI_some hx340
 obtain ⟨g344, e345⟩ := hn297 (fun e => by rw [e] at p342; simp at p342)
 refine jv _ (V.iad Tryd.underlying43 sz9 rfl e345 rfl p341 p343) <| jv (.string ⟨x339.toArray⟩) (V.ld rfl (Ld.sc sc9 (Rd.row 0 rfl e345 p342 (q := 0) (by simp [Tp.size]) (by decide) (by rintro _ rfl; rfl)))) ?_
 obtain ⟨r346, hr347, h⟩ := ob h
 refine J.op rfl (A.call (L1 := []) Tryd.call7 rfl (prov_Kind_ok hr347) rfl rfl) ?_
 rintro _ _ _ ⟨v350, _, rfl, ⟨⟨i348, t349, rfl, rfl, rfl⟩, rfl⟩, _, rfl⟩
 refine jm (.tuple #[ii i348, .bool t349]) rfl <| jx (ii i348) rfl rfl <| jx (.bool t349) rfl rfl <| ja (ii i348) rfl <| ja (.bool t349) rfl <| J.nil <| CJ.seq ?_
 refine cr <| jm (.bool t335) rfl <| jv (.bool (!t335)) (V.not rfl) <| jm (.bool (!t335)) rfl <| J.cut 3 <| jmeet [(55, .bool ((!t335) || (!t349))), (2, .pointer (some ⟨b291, 0, none⟩)), (4, .slice ad295 l294.length cp296), (5, .bool t310), (6, .string ⟨s333.toArray⟩), (7, .string ⟨s334.toArray⟩), (9, ii i348)] ?_ ?_
 · rcases bt (!t335) with hc355 | hc355
   · refine J.skip rfl rfl rfl rfl hc355 <| J.skip rfl rfl rfl rfl hc355 <| jv (.bool true) (V.pickT rfl hc355 rfl) <| J.nil ?_
     exact ⟨rfl, ⟨(by simp only [hc355]; rfl), rfl, rfl, rfl, rfl, rfl, rfl, trivial⟩, rfl, rfl⟩
   refine J.run rfl rfl rfl hc355 <| jm (.bool t349) rfl <| J.run rfl rfl rfl hc355 <| jv (.bool (!t349)) (V.not rfl) <| jv (.bool (!t349)) (V.pickF rfl hc355 rfl) <| J.nil ?_
   exact ⟨rfl, ⟨(by simp only [hc355]; rfl), rfl, rfl, rfl, rfl, rfl, rfl, trivial⟩, rfl, rfl⟩
 intro ρ
 refine J.nil <| cc rfl h (fun hc356 h => ?_) fun hc356 h => ?_
 · refine cr <| jv (.agg #[ii 0, ii 0, ii 0, ii 0, .bool false]) (V.build inf23 places23 rfl rfl) <| J.front 1 rfl <| js [ii 0, ii 0, ii 0, ii 0, .bool false] sz23 rfl rfl rfl rfl rfl rfl <| ja (ii 3) rfl <| J.nil ?_
   refine CJ.ret ?_
   obtain rfl := si h
   exact ⟨_, _, Res.two rfl ⟨_, _, rfl, Ld.agg (cs := [ii 0, ii 0, ii 0, ii 0, .bool false]) Tryd.underlying23 sz23 rfl (Rd.cls 0 0 rfl rfl)⟩ rfl, ⟨0, 0, 0, 0, false, 3, rfl, rfl, rfl⟩, (Hp.le_refl _), fun w hs => (Sep.dropAt 0 rfl (Sep.dropAt 0 rfl hs))⟩
 refine CJ.skip <| cr <| jal inf51 [ii 0, ii 0, ii 0] rfl fun b357 => ?_
 have hl358 : ([0, 0, 0] : List Int).length = 3 := rfl
 refine J.by (fun w hs => Sep.arr (t := (.int .i64)) (xs := ([0, 0, 0] : List Int)) ⟨_, _, rfl, rfl, ⟨_, _, rfl, rfl, ⟨_, _, rfl, rfl, rfl⟩⟩⟩ hl358 rfl hs) <| J.nil <| CJ.seq <| cr <| jm (.string ⟨s333.toArray⟩) rfl <| jm (.string ⟨s334.toArray⟩) rfl ?_
 refine jm (.slice ad295 l294.length cp296) rfl ?_
 obtain ⟨x360, hx361, h⟩ := ob h
 obtain ⟨p362, p363, p364⟩ := getI_some hx361
 obtain ⟨g365, e366⟩ := hn297 (fun e => by rw [e] at p363; simp at p363)
 refine jv _ (V.iad Tryd.underlying43 sz9 rfl e366 rfl p362 p364) <| jv (.string ⟨x360.toArray⟩) (V.ld rfl (Ld.sc sc9 (Rd.row 1 rfl e366 p363 (q := 0) (by simp [Tp.size]) (by decide) (by rintro _ rfl; rfl)))) ?_
 refine J.op rfl (A.lit (K0 := Hp.nil) (ty := .str) (xs := ([s333, s334, x360] : List (List UInt8))) Tryd.underlying43 inf9 rfl (by decide) rfl rfl rfl ⟨_, _, rfl, rfl, ⟨_, _, rfl, rfl, ⟨_, _, rfl, rfl, rfl⟩⟩⟩ rfl (by decide)) ?_
 rintro _ _ _ ⟨b367, rfl, rfl, rfl⟩
 have hn368 : ([s333, s334, x360] : List (List UInt8)) ≠ [] → ∃ g, (some ⟨b367, 0, none⟩ : Option Addr) = some ⟨g, 0, none⟩ := fun _ => ⟨b367, rfl⟩
 refine jv (ii ((((([s333, s334, x360] : List (List UInt8))).length : Nat) : Int))) (V.len Tryd.underlying43 rfl) <| jm (ii 0) rfl <| J.nil ?_
 obtain ⟨o464, ho465, h⟩ := ob h
 refine CJ.joinN (o := o464) (fun s ρ K' L' => ∃ (l461 : (List Int)), l461 = s ∧ Fits [(2, .pointer (some ⟨b291, 0, none⟩)), (5, .bool t310), (9, ii i348), (11, .pointer (some ⟨b357, 0, none⟩))] ρ ∧ K = K' ∧ L' = Cl b291 23 [ii 0, ii 0, ii 0, ii 0, .bool false] :: Row Hp.nil 51 (.int .i64) (.slice (some ⟨b357, 0, none⟩) 3 3) l461 :: F) ?_ ?_
 · refine CJ.block <| CJ.dropAt 2 rfl <| CJ.front 1 rfl <| CJ.front 1 rfl <| CJ.front 2 rfl <| CJ.loop (fun s ρ K' L' => ∃ (l495 : (List Int)) (i498 : Int), (l495, i498) = s ∧ Fits [(2, .pointer (some ⟨b291, 0, none⟩)), (5, .bool t310), (9, ii i348), (11, .pointer (some ⟨b357, 0, none⟩)), (62, .slice (some ⟨b367, 0, none⟩) ((([s333, s334, x360] : List (List UInt8))).length) 3), (63, ii ((((([s333, s334, x360] : List (List UInt8))).length : Nat) : Int))), (64, ii i498)] ρ ∧ K = K' ∧ L' = Cl b291 23 [ii 0, ii 0, ii 0, ii 0, .bool false] :: Row Hp.nil 9 .str (.slice (some ⟨b367, 0, none⟩) ((([s333, s334, x360] : List (List UInt8))).length) 3) (([s333, s334, x360] : List (List UInt8))) :: Row Hp.nil 51 (.int .i64) (.slice (some ⟨b357, 0, none⟩) 3 3) l495 :: F) ho465 ⟨([0, 0, 0] : List Int), 0, rfl, ⟨rfl, rfl, rfl, rfl, rfl, rfl, rfl, trivial⟩, rfl, rfl⟩ ?_
   rintro s ρ _ _ r531 ⟨l495, i498, rfl, hf529, rfl, rfl⟩ h528
   obtain ⟨ρ, rfl⟩ := hf529.ex
   refine CJ.front 2 rfl <| CJ.wit Row.len fun hl497 => cr <| jv (.bool (decide (i498 < ((((([s333, s334, x360] : List (List UInt8))).length : Nat) : Int))))) (V.lss rfl rfl) <| J.nil <| CJ.seq ?_
   refine cc rfl h528 (fun hc532 h528 => ?_) fun hc532 h528 => ?_
   · refine CJ.skip <| CJ.seq <| CJ.block <| cr <| jm (ii i498) rfl ?_
     obtain ⟨x533, hx534, h528⟩ := ob h528
     obtain ⟨p535, p536, p537⟩ := getI_some hx534
     obtain ⟨g538, e539⟩ := hn368 (fun e => by rw [e] at p536; simp at p536)
     refine jv _ (V.iad Tryd.underlying43 sz9 rfl e539 rfl p535 p537) <| jv (.string ⟨x533.toArray⟩) (V.ld rfl (Ld.sc sc9 (Rd.row 2 rfl e539 p536 (q := 0) (by simp [Tp.size]) (by decide) (by rintro _ rfl; rfl)))) <| ja (ii i498) rfl <| ja (.string ⟨x533.toArray⟩) rfl <| J.nil <| CJ.seq <| CJ.region ?_
     refine jm (.string ⟨x533.toArray⟩) rfl ?_
     obtain ⟨r540, hr541, h528⟩ := ob h528
     refine J.op rfl (A.call (L1 := []) Tryd.call29 rfl (numeral_Parse_ok hr541) rfl rfl) ?_
     rintro _ _ _ ⟨v544, _, rfl, ⟨⟨i542, i543, rfl, rfl, rfl⟩, rfl⟩, _, rfl⟩
     refine jm (.tuple #[ii i542, ii i543]) rfl <| jx (ii i542) rfl rfl <| jx (ii i543) rfl rfl <| ja (ii i542) rfl <| ja (ii i543) rfl <| J.nil <| CJ.seq ?_
     refine cr <| jm (ii i543) rfl <| jv (.bool (!decide (i543 = 0))) (V.neq rfl rfl) <| J.nil <| cc rfl h528 (fun hc547 h528 => ?_) fun hc547 h528 => ?_
     · refine cr <| jv (.agg #[ii 0, ii 0, ii 0, ii 0, .bool false]) (V.build inf23 places23 rfl rfl) <| jm (ii i543) rfl <| J.front 1 rfl <| js [ii 0, ii 0, ii 0, ii 0, .bool false] sz23 rfl rfl rfl rfl rfl rfl <| ja (ii i543) rfl ?_
       refine J.nil <| CJ.ret ?_
       obtain rfl := si h528
       refine ⟨nofun, fun e => ?_⟩
       subst e
       refine .inr ⟨nofun, ?_⟩
       obtain rfl := si h
       exact ⟨_, _, Res.two rfl ⟨_, _, rfl, Ld.agg (cs := [ii 0, ii 0, ii 0, ii 0, .bool false]) Tryd.underlying23 sz23 rfl (Rd.cls 0 0 rfl rfl)⟩ rfl, ⟨0, 0, 0, 0, false, i543, rfl, rfl, rfl⟩, (Hp.le_refl _), fun w hs => (Sep.dropAt 0 rfl (Sep.dropAt 0 rfl (Sep.dropAt 0 rfl hs)))⟩
     refine CJ.skip <| CJ.region <| jm (ii i498) rfl <| jm (ii i542) rfl ?_
     obtain ⟨x548, hx549, h528⟩ := ob h528
     obtain ⟨p550, p551, p552⟩ := getI_some hx549
     refine jv _ (V.iadA Tryd.underlying51 sz3 rfl rfl p550 (lt_cap p552 hl497)) ?_
     obtain ⟨z553, hz554, h528⟩ := ob h528
     have e555 := Option.some.inj hz554
     have hl556 : z553.length = 3 := by rw [← e555, List.length_set]; exact hl497
     refine J.op rfl (A.storeR (ty := (.int .i64)) (q := 0) (y0 := i542) (zs := z553) sz3 rfl rfl rfl rfl rfl p551 (by simp [Tp.size]) (by decide) (by rintro _ rfl; exact rfl) e555) ?_
     rintro _ _ _ ⟨rfl, rfl, rfl⟩
     refine J.nil <| CJ.region <| jv (ii (IntKind.wrap .i64 (i498 + 1))) (V.add rfl rfl) <| jm (ii (IntKind.wrap .i64 (i498 + 1))) rfl <| J.front 2 rfl <| J.front 2 rfl <| J.nil ?_
     obtain rfl := si h528
     exact ⟨rfl, ⟨z553, IntKind.wrap .i64 (i498 + 1), rfl, ⟨rfl, rfl, rfl, rfl, rfl, rfl, rfl, trivial⟩, rfl, rfl⟩⟩
   refine CJ.dropAt 2 rfl <| CJ.front 1 rfl <| CJ.exit ?_
   obtain rfl := si h528
   refine ⟨nofun, fun e => ?_⟩
   subst e
   exact .inl ⟨rfl, _, rfl, ⟨l495, rfl, ⟨rfl, rfl, rfl, rfl, trivial⟩, rfl, rfl⟩⟩
 rintro s ρ _ _ ho557 ⟨l461, rfl, hf558, rfl, rfl⟩
 subst ho557
 obtain ⟨ρ, rfl⟩ := hf558.ex
 refine PJ.front 1 rfl <| PJ.wit Row.len fun hl463 => PJ.done <| CJ.seq <| CJ.region ?_
 obtain ⟨x560, hx561, h⟩ := ob h
 obtain ⟨p562, p563, p564⟩ := getI_some hx561
 refine jv _ (V.iadA Tryd.underlying51 sz3 rfl rfl p562 (lt_cap p564 hl463)) <| jv (ii x560) (V.ld rfl (Ld.sc sc3 (Rd.row 0 rfl rfl p563 (q := 0) (by simp [Tp.size]) (by decide) (by rintro _ rfl; rfl)))) ?_
 obtain ⟨x565, hx566, h⟩ := ob h
 obtain ⟨p567, p568, p569⟩ := getI_some hx566
 refine jv _ (V.iadA Tryd.underlying51 sz3 rfl rfl p567 (lt_cap p569 hl463)) <| jv (ii x565) (V.ld rfl (Ld.sc sc3 (Rd.row 0 rfl rfl p568 (q := 0) (by simp [Tp.size]) (by decide) (by rintro _ rfl; rfl)))) <| jm (ii i348) rfl ?_
 obtain ⟨x570, hx571, h⟩ := ob h
 obtain ⟨p572, p573, p574⟩ := getI_some hx571
 refine jv _ (V.iadA Tryd.underlying51 sz3 rfl rfl p572 (lt_cap p574 hl463)) <| jv (ii x570) (V.ld rfl (Ld.sc sc3 (Rd.row 0 rfl rfl p573 (q := 0) (by simp [Tp.size]) (by decide) (by rintro _ rfl; rfl)))) <| jm (.bool t310) rfl <| jv (.agg #[ii x560, ii x565, ii i348, ii x570, .bool t310]) (V.build inf23 places23 rfl rfl) <| J.front 1 rfl <| js [ii x560, ii x565, ii i348, ii x570, .bool t310] sz23 rfl rfl rfl rfl rfl rfl <| ja (ii 0) rfl ?_
 refine J.nil <| CJ.ret ?_
 obtain rfl := si h
 exact ⟨_, _, Res.two rfl ⟨_, _, rfl, Ld.agg (cs := [ii x560, ii x565, ii i348, ii x570, .bool t310]) Tryd.underlying23 sz23 rfl (Rd.cls 0 0 rfl rfl)⟩ rfl, ⟨x560, x565, i348, x570, t310, 0, rfl, rfl, rfl⟩, (Hp.le_refl _), fun w hs => (Sep.dropAt 0 rfl (Sep.dropAt 0 rfl hs))⟩

noncomputable def fn_prov_Right (xa : (Int × Int × Int × Int × Bool)) : Option Bool :=
  (cond (((decide (0 ≤ xa.1)) && (decide (0 ≤ xa.2.1))) && (decide (0 ≤ xa.2.2.2.1))) ((fn_prov_isKind xa.2.2.1).bind fun t44 => some (t44)) (some (false))).bind fun t39 => some (t39)
set_option maxRecDepth 100000 in
set_option maxHeartbeats 4000000 in
theorem prov_Right_ok {K : Hp} {xa : (Int × Int × Int × Int × Bool)}   {r : Bool} (h : fn_prov_Right xa = some r) :
    Tr Tryd.prog 11 #[.agg #[ii xa.1, ii xa.2.1, ii xa.2.2.1, ii xa.2.2.2.1, .bool xa.2.2.2.2]] K [] (fun v K' L' => (∃ (t24 : Bool), t24 = r ∧ .bool t24 = v ∧ L' = []) ∧ K = K') := by
 refine Tr.k <| Tr.of Tryd.func11 rfl Tryd.ntmps11 rfl fun E F => ?_
 unfold fn_prov_Right at h
 refine cr <| jbx [ii xa.1, ii xa.2.1, ii xa.2.2.1, ii xa.2.2.2.1, .bool xa.2.2.2.2] rfl rfl fun b25 => ja (.bool false) rfl <| J.nil <| CJ.seq <| CJ.region ?_
 refine jv _ (V.fad Tryd.underlying23 rfl nz3 rfl) <| jv (ii xa.1) (V.ld rfl (Ld.sc sc3 (Rd.cl 0 rfl rfl))) <| jv (.bool (decide (0 ≤ xa.1))) (V.geq rfl rfl) <| jm (.bool (decide (0 ≤ xa.1))) rfl <| J.cut 4 <| jmeet [(10, .bool ((decide (0 ≤ xa.1)) && (decide (0 ≤ xa.2.1)))), (1, .pointer (some ⟨b25, 0, none⟩))] ?_ ?_
 · rcases bt (decide (0 ≤ xa.1)) with hc28 | hc28
   · refine J.run rfl rfl rfl hc28 <| jv _ (V.fad Tryd.underlying23 rfl nz3 rfl) <| J.run rfl rfl rfl hc28 <| jv (ii xa.2.1) (V.ld rfl (Ld.sc sc3 (Rd.cl 0 rfl rfl))) <| J.run rfl rfl rfl hc28 <| jv (.bool (decide (0 ≤ xa.2.1))) (V.geq rfl rfl) <| jv (.bool (decide (0 ≤ xa.2.1))) (V.pickT rfl hc28 rfl) ?_
     refine J.nil ?_
     exact ⟨rfl, ⟨(by simp only [hc28]; rfl), rfl, trivial⟩, rfl, rfl⟩
   refine J.skip rfl rfl rfl rfl hc28 <| J.skip rfl rfl rfl rfl hc28 <| J.skip rfl rfl rfl rfl hc28 <| jv (.bool false) (V.pickF rfl hc28 rfl) <| J.nil ?_
   exact ⟨rfl, ⟨(by simp only [hc28]; rfl), rfl, trivial⟩, rfl, rfl⟩
 intro ρ
 refine jm (.bool ((decide (0 ≤ xa.1)) && (decide (0 ≤ xa.2.1)))) rfl <| J.cut 4 <| jmeet [(15, .bool (((decide (0 ≤ xa.1)) && (decide (0 ≤ xa.2.1))) && (decide (0 ≤ xa.2.2.2.1)))), (1, .pointer (some ⟨b25, 0, none⟩))] ?_ ?_
 · rcases bt ((decide (0 ≤ xa.1)) && (decide (0 ≤ xa.2.1))) with hc31 | hc31
   · refine J.run rfl rfl rfl hc31 <| jv _ (V.fad Tryd.underlying23 rfl nz3 rfl) <| J.run rfl rfl rfl hc31 <| jv (ii xa.2.2.2.1) (V.ld rfl (Ld.sc sc3 (Rd.cl 0 rfl rfl))) <| J.run rfl rfl rfl hc31 <| jv (.bool (decide (0 ≤ xa.2.2.2.1))) (V.geq rfl rfl) <| jv (.bool (decide (0 ≤ xa.2.2.2.1))) (V.pickT rfl hc31 rfl) ?_
     refine J.nil ?_
     exact ⟨rfl, ⟨(by simp only [hc31]; rfl), rfl, trivial⟩, rfl, rfl⟩
   refine J.skip rfl rfl rfl rfl hc31 <| J.skip rfl rfl rfl rfl hc31 <| J.skip rfl rfl rfl rfl hc31 <| jv (.bool false) (V.pickF rfl hc31 rfl) <| J.nil ?_
   exact ⟨rfl, ⟨(by simp only [hc31]; rfl), rfl, trivial⟩, rfl, rfl⟩
 intro ρ
 refine jm (.bool (((decide (0 ≤ xa.1)) && (decide (0 ≤ xa.2.1))) && (decide (0 ≤ xa.2.2.2.1)))) rfl <| J.cut 4 ?_
 obtain ⟨t39, ht40, h⟩ := ob h
 refine jmeet [(20, .bool t39)] ?_ ?_
 · rcases bt (((decide (0 ≤ xa.1)) && (decide (0 ≤ xa.2.1))) && (decide (0 ≤ xa.2.2.2.1))) with hc41 | hc41
   · have ht40 := ct hc41 ht40
     refine J.run rfl rfl rfl hc41 <| jv _ (V.fad Tryd.underlying23 rfl nz3 rfl) <| J.run rfl rfl rfl hc41 <| jv (ii xa.2.2.1) (V.ld rfl (Ld.sc sc3 (Rd.cl 0 rfl rfl))) <| J.run rfl rfl rfl hc41 ?_
     obtain ⟨r42, hr43, ht40⟩ := ob ht40
     refine J.op rfl (A.call (L1 := []) Tryd.call21 rfl (prov_isKind_ok hr43) rfl rfl) ?_
     rintro _ _ _ ⟨v45, _, rfl, ⟨⟨t44, rfl, rfl, rfl⟩, rfl⟩, _, rfl⟩
     refine jv (.bool t44) (V.pickT rfl hc41 rfl) <| J.nil ?_
     obtain rfl := si ht40
     exact ⟨rfl, ⟨rfl, trivial⟩, rfl, rfl⟩
   have ht40 := cf hc41 ht40
   refine J.skip rfl rfl rfl rfl hc41 <| J.skip rfl rfl rfl rfl hc41 <| J.skip rfl rfl rfl rfl hc41 <| jv (.bool false) (V.pickF rfl hc41 rfl) <| J.nil ?_
   obtain rfl := si ht40
   exact ⟨rfl, ⟨rfl, trivial⟩, rfl, rfl⟩
 intro ρ
 refine ja (.bool t39) rfl <| J.nil <| CJ.ret ?_
 obtain rfl := si h
 exact ⟨_, _, Res.one rfl rfl, ⟨t39, rfl, rfl, rfl⟩, (Hp.le_refl _), fun w hs => (Sep.dropAt 0 rfl hs)⟩
noncomputable def fn_numeral_Text_l1  : (Int × (List Int) × Int) → Option ((Int × (List Int) × Int) ⊕ List UInt8) := fun ((i262, l263, i266) : (Int × (List Int) × Int)) => (getI l263 (IntKind.wrap .i64 (i266 - 1))).bind fun x295 => (some (l263.set (IntKind.wrap .i64 (i266 - 1)).toNat (IntKind.wrap .u8 (IntKind.wrap .i64 (48 + (Int.tmod i262 10)))))).bind fun z300 => cond (decide ((IntKind.wrap .i64 (Int.tdiv i262 10)) = 0)) ((subL z300 (IntKind.wrap .i64 (i266 - 1)) (((20 : Nat) : Int))).bind fun y308 => some (.inr (toU8 y308))) (some (.inl ((IntKind.wrap .i64 (Int.tdiv i262 10), z300, IntKind.wrap .i64 (i266 - 1)))))
noncomputable def fn_numeral_Text (xa : Int) : Option (List UInt8) :=
  cond (decide (xa < 0)) (some (([] : List UInt8))) (loop (fn_numeral_Text_l1) ((xa, ([0, 0, 0, 0, 0, 0, 0, 0, 0, 0, 0, 0, 0, 0, 0, 0, 0, 0, 0, 0] : List Int), 20)))
set_option maxRecDepth 100000 in
set_option maxHeartbeats 4000000 in
theorem numeral_Text_ok {K : Hp} {xa : Int}   {r : List UInt8} (h : fn_numeral_Text xa = some r) :
    Tr Tryd.prog 22 #[ii xa] K [] (fun v K' L' => (∃ (s157 : List UInt8), s157 = r ∧ .string ⟨s157.toArray⟩ = v ∧ L' = []) ∧ K = K') := by
 refine Tr.k <| Tr.of Tryd.func22 rfl Tryd.ntmps22 rfl fun E F => ?_
 unfold fn_numeral_Text at h
 refine cr <| ja (.string ⟨([] : List UInt8).toArray⟩) rfl <| J.nil <| CJ.seq <| CJ.seq <| CJ.region ?_
 refine jm (ii xa) rfl <| jv (.bool (decide (xa < 0))) (V.lss rfl rfl) <| J.nil <| cc rfl h (fun hc158 h => ?_) fun hc158 h => ?_
 · refine cr <| ja (.string ⟨([] : List UInt8).toArray⟩) rfl <| J.nil <| CJ.ret ?_
   obtain rfl := si h
   exact ⟨_, _, Res.one rfl rfl, ⟨([] : List UInt8), rfl, rfl, rfl⟩, (Hp.le_refl _), fun w hs => hs⟩
 refine CJ.skip <| cr <| jal inf58 [.int .u8 0, .int .u8 0, .int .u8 0, .int .u8 0, .int .u8 0, .int .u8 0, .int .u8 0, .int .u8 0, .int .u8 0, .int .u8 0, .int .u8 0, .int .u8 0, .int .u8 0, .int .u8 0, .int .u8 0, .int .u8 0, .int .u8 0, .int .u8 0, .int .u8 0, .int .u8 0] rfl fun b159 => ?_
 have hl160 : ([0, 0, 0, 0, 0, 0, 0, 0, 0, 0, 0, 0, 0, 0, 0, 0, 0, 0, 0, 0] : List Int).length = 20 := rfl
 refine J.by (fun w hs => Sep.arr (t := (.int .u8)) (xs := ([0, 0, 0, 0, 0, 0, 0, 0, 0, 0, 0, 0, 0, 0, 0, 0, 0, 0, 0, 0] : List Int)) ⟨_, _, rfl, rfl, ⟨_, _, rfl, rfl, ⟨_, _, rfl, rfl, ⟨_, _, rfl, rfl, ⟨_, _, rfl, rfl, ⟨_, _, rfl, rfl, ⟨_, _, rfl, rfl, ⟨_, _, rfl, rfl, ⟨_, _, rfl, rfl, ⟨_, _, rfl, rfl, ⟨_, _, rfl, rfl, ⟨_, _, rfl, rfl, ⟨_, _, rfl, rfl, ⟨_, _, rfl, rfl, ⟨_, _, rfl, rfl, ⟨_, _, rfl, rfl, ⟨_, _, rfl, rfl, ⟨_, _, rfl, rfl, ⟨_, _, rfl, rfl, ⟨_, _, rfl, rfl, rfl⟩⟩⟩⟩⟩⟩⟩⟩⟩⟩⟩⟩⟩⟩⟩⟩⟩⟩⟩⟩ hl160 rfl hs) <| J.nil <| cr <| ja (ii 20) rfl <| J.nil <| CJ.block ?_
 refine CJ.loop (fun s ρ K' L' => ∃ (i262 : Int) (l263 : (List Int)) (i266 : Int), (i262, l263, i266) = s ∧ Fits [(0, ii i262), (3, .pointer (some ⟨b159, 0, none⟩)), (4, ii i266)] ρ ∧ K = K' ∧ L' = Row Hp.nil 58 (.int .u8) (.slice (some ⟨b159, 0, none⟩) 20 20) l263 :: F) h ⟨xa, ([0, 0, 0, 0, 0, 0, 0, 0, 0, 0, 0, 0, 0, 0, 0, 0, 0, 0, 0, 0] : List Int), 20, rfl, ⟨rfl, rfl, rfl, trivial⟩, rfl, rfl⟩ ?_
 rintro s ρ _ _ r294 ⟨i262, l263, i266, rfl, hf292, rfl, rfl⟩ h291
 obtain ⟨ρ, rfl⟩ := hf292.ex
 refine CJ.wit Row.len fun hl265 => CJ.block <| cr <| jm (ii i266) rfl <| jv (ii (IntKind.wrap .i64 (i266 - 1))) (V.sub rfl rfl) <| ja (ii (IntKind.wrap .i64 (i266 - 1))) rfl ?_
 refine J.nil <| cr <| jm (ii (IntKind.wrap .i64 (i266 - 1))) rfl <| jm (ii i262) rfl <| jv (ii (Int.tmod i262 10)) (V.rem rfl rfl (by decide)) <| jv (ii (IntKind.wrap .i64 (48 + (Int.tmod i262 10)))) (V.add rfl rfl) ?_
 refine jv (.int .u8 (IntKind.wrap .u8 (IntKind.wrap .i64 (48 + (Int.tmod i262 10))))) (V.conv Tryd.underlying3 Tryd.underlying5 rfl) ?_
 obtain ⟨x295, hx296, h291⟩ := ob h291
 obtain ⟨p297, p298, p299⟩ := getI_some hx296
 refine jv _ (V.iadA Tryd.underlying58 sz5 rfl rfl p297 (lt_cap p299 hl265)) ?_
 obtain ⟨z300, hz301, h291⟩ := ob h291
 have e302 := Option.some.inj hz301
 have hl303 : z300.length = 20 := by rw [← e302, List.length_set]; exact hl265
 refine J.op rfl (A.storeR (ty := (.int .u8)) (q := 0) (y0 := IntKind.wrap .u8 (IntKind.wrap .i64 (48 + (Int.tmod i262 10)))) (zs := z300) sz5 rfl rfl rfl rfl rfl p298 (by simp [Tp.size]) (by decide) (by rintro _ rfl; exact rfl) e302) ?_
 rintro _ _ _ ⟨rfl, rfl, rfl⟩
 refine J.nil <| cr <| jm (ii i262) rfl <| jv (ii (IntKind.wrap .i64 (Int.tdiv i262 10))) (V.quo rfl rfl (by decide)) <| ja (ii (IntKind.wrap .i64 (Int.tdiv i262 10))) rfl <| J.nil ?_
 refine cr <| jm (ii (IntKind.wrap .i64 (Int.tdiv i262 10))) rfl <| jv (.bool (decide ((IntKind.wrap .i64 (Int.tdiv i262 10)) = 0))) (V.eql rfl rfl) <| J.nil <| cc rfl h291 (fun hc304 h291 => ?_) fun hc304 h291 => ?_
 · refine cr <| jm (ii (IntKind.wrap .i64 (i266 - 1))) rfl <| J.persist (Hp.nil_le _) (by decide) fun K305 hK306 f307 => ?_
   obtain ⟨y308, hy309, h291⟩ := ob h291
   obtain ⟨ad310, cp311, hv312, f313⟩ := V.subA (tp := (.int .u8)) Tryd.underlying58 sz5 hl303 f307 hy309
   refine jv (.slice ad310 y308.length cp311) (hv312 rfl (fun _ h => by cases h; exact ⟨_, rfl⟩) nofun nofun (fun _ => rfl)) <| jv (.string ⟨(toU8 y308).toArray⟩) (V.b2sK Tryd.underlying59 Tryd.underlying5 Tryd.underlying9 rfl f313 (Hp.le_refl _)) <| ja (.string ⟨(toU8 y308).toArray⟩) rfl <| J.nil <| CJ.ret ?_
   obtain rfl := si h291
   refine ⟨nofun, fun e => ?_⟩
   subst e
   exact ⟨_, _, Res.one rfl rfl, ⟨toU8 y308, rfl, rfl, rfl⟩, hK306, fun w hs => hs⟩
 refine CJ.skip ?_
 obtain rfl := si h291
 exact ⟨rfl, ⟨IntKind.wrap .i64 (Int.tdiv i262 10), z300, IntKind.wrap .i64 (i266 - 1), rfl, ⟨rfl, rfl, rfl, trivial⟩, rfl, rfl⟩⟩

noncomputable def fn_prov_Text (xa : (Int × Int × Int × Int × Bool)) : Option (List UInt8) :=
  (fn_prov_Right (xa.1, xa.2.1, xa.2.2.1, xa.2.2.2.1, xa.2.2.2.2)).bind fun t103 => cond (!t103) (some (([63] : List UInt8))) ((fn_numeral_Text xa.1).bind fun s141 => (app s141 ([46] : List UInt8)).bind fun z145 => (fn_numeral_Text xa.2.1).bind fun s149 => (app z145 s149).bind fun z153 => (fn_prov_Name xa.2.2.1).bind fun s157 => (fn_numeral_Text xa.2.2.2.1).bind fun s163 => cond (xa.2.2.2.2) ((app (([z153, s157, s163] : List (List UInt8))) (([([98, 97, 99, 107] : List UInt8)] : List (List UInt8)))).bind fun z174 => (joinF z174 ([32] : List UInt8)).bind fun s185 => some (s185)) ((joinF (([z153, s157, s163] : List (List UInt8))) ([32] : List UInt8)).bind fun s194 => some (s194)))
set_option maxRecDepth 100000 in
set_option maxHeartbeats 4000000 in
theorem prov_Text_ok {K : Hp} {xa : (Int × Int × Int × Int × Bool)}   {r : List UInt8} (h : fn_prov_Text xa = some r) :
    Tr Tryd.prog 13 #[.agg #[ii xa.1, ii xa.2.1, ii xa.2.2.1, ii xa.2.2.2.1, .bool xa.2.2.2.2]] K [] (fun v K' L' => (∃ (s99 : List UInt8), s99 = r ∧ .string ⟨s99.toArray⟩ = v ∧ L' = []) ∧ K = K') := by
 refine Tr.k <| Tr.of Tryd.func13 rfl Tryd.ntmps13 rfl fun E F => ?_
 unfold fn_prov_Text at h
 refine cr <| jbx [ii xa.1, ii xa.2.1, ii xa.2.2.1, ii xa.2.2.2.1, .bool xa.2.2.2.2] rfl rfl fun b100 => ja (.string ⟨([] : List UInt8).toArray⟩) rfl <| J.nil <| CJ.seq <| CJ.seq ?_
 refine CJ.region <| jv (.agg #[ii xa.1, ii xa.2.1, ii xa.2.2.1, ii xa.2.2.2.1, .bool xa.2.2.2.2]) (V.ld rfl (Ld.agg (cs := [ii xa.1, ii xa.2.1, ii xa.2.2.1, ii xa.2.2.2.1, .bool xa.2.2.2.2]) Tryd.underlying23 sz23 rfl (Rd.cls 0 0 rfl rfl))) ?_
 obtain ⟨r101, hr102, h⟩ := ob h
 refine J.op rfl (A.call (L1 := []) Tryd.call11 rfl (prov_Right_ok hr102) rfl rfl) ?_
 rintro _ _ _ ⟨v104, _, rfl, ⟨⟨t103, rfl, rfl, rfl⟩, rfl⟩, _, rfl⟩
 refine jv (.bool (!t103)) (V.not rfl) <| J.nil <| cc rfl h (fun hc107 h => ?_) fun hc107 h => ?_
 · refine cr <| ja (.string ⟨([63] : List UInt8).toArray⟩) rfl <| J.nil <| CJ.ret ?_
   obtain rfl := si h
   exact ⟨_, _, Res.one rfl rfl, ⟨([63] : List UInt8), rfl, rfl, rfl⟩, (Hp.le_refl _), fun w hs => (Sep.dropAt 0 rfl hs)⟩
 refine CJ.skip <| CJ.seq <| CJ.mix [Cl b100 23 [ii xa.1, ii xa.2.1, ii xa.2.2.1, ii xa.2.2.2.1, .bool xa.2.2.2.2]] [([0, 1, 4, 5, 8, 9, 11, 12], 2), ([3], 6), ([7], 10), ([], 13), ([], 14)] [15] [] mixO (by decide +kernel) ⟨0, rfl, trivial⟩ rfl rfl rfl <| JM.cons <| qv _ (V.fad Tryd.underlying23 rfl nz3 rfl) <| qv (ii xa.1) (V.ld rfl (Ld.sc sc3 (Rd.cl 0 rfl rfl))) <| qv _ (V.fad Tryd.underlying23 rfl nz3 rfl) ?_
 refine qv (ii xa.2.1) (V.ld rfl (Ld.sc sc3 (Rd.cl 0 rfl rfl))) <| qv _ (V.fad Tryd.underlying23 rfl nz3 rfl) <| qv (ii xa.2.2.1) (V.ld rfl (Ld.sc sc3 (Rd.cl 0 rfl rfl))) <| qv _ (V.fad Tryd.underlying23 rfl nz3 rfl) <| qv (ii xa.2.2.2.1) (V.ld rfl (Ld.sc sc3 (Rd.cl 0 rfl rfl))) <| JQ.nil ?_
 obtain ⟨r139, hr140, h⟩ := ob h
 refine JA.op rfl (A.call (L1 := []) Tryd.call22 rfl (numeral_Text_ok hr140) rfl rfl) ?_
 rintro _ _ _ ⟨v142, _, rfl, ⟨⟨s141, rfl, rfl, rfl⟩, rfl⟩, _, rfl⟩
 refine ⟨fun w hs => Hold.sub (Hp.le_refl _) ⟨0, rfl, trivial⟩ hs, ?_⟩
 refine JM.cons ?_
 obtain ⟨z145, hz146, h⟩ := ob h
 refine qv (.string ⟨z145.toArray⟩) (V.cat rfl rfl hz146) <| JQ.nil ?_
 obtain ⟨r147, hr148, h⟩ := ob h
 refine JA.op rfl (A.call (L1 := []) Tryd.call22 rfl (numeral_Text_ok hr148) rfl rfl) ?_
 rintro _ _ _ ⟨v150, _, rfl, ⟨⟨s149, rfl, rfl, rfl⟩, rfl⟩, _, rfl⟩
 refine ⟨fun w hs => Hold.sub (Hp.le_refl _) ⟨0, rfl, trivial⟩ hs, ?_⟩
 refine JM.cons ?_
 obtain ⟨z153, hz154, h⟩ := ob h
 refine qv (.string ⟨z153.toArray⟩) (V.cat rfl rfl hz154) <| JQ.nil ?_
 obtain ⟨r155, hr156, h⟩ := ob h
 refine JA.op rfl (A.call (L1 := []) Tryd.call8 rfl (prov_Name_ok hr156) rfl rfl) ?_
 rintro _ _ _ ⟨v158, _, rfl, ⟨⟨s157, rfl, rfl, rfl⟩, rfl⟩, _, rfl⟩
 refine ⟨fun w hs => Hold.sub (Hp.le_refl _) ⟨0, rfl, trivial⟩ hs, ?_⟩
 refine JM.cons <| JQ.nil ?_
 obtain ⟨r161, hr162, h⟩ := ob h
 refine JA.op rfl (A.call (L1 := []) Tryd.call22 rfl (numeral_Text_ok hr162) rfl rfl) ?_
 rintro _ _ _ ⟨v164, _, rfl, ⟨⟨s163, rfl, rfl, rfl⟩, rfl⟩, _, rfl⟩
 refine ⟨fun w hs => Hold.sub (Hp.le_refl _) ⟨0, rfl, trivial⟩ hs, ?_⟩
 refine JM.cons <| JQ.nil ?_
 refine JA.op rfl (A.lit (K0 := Hp.nil) (ty := .str) (xs := ([z153, s157, s163] : List (List UInt8))) Tryd.underlying43 inf9 rfl (by decide) rfl rfl rfl ⟨_, _, rfl, rfl, ⟨_, _, rfl, rfl, ⟨_, _, rfl, rfl, rfl⟩⟩⟩ rfl (by decide)) ?_
 rintro _ _ _ ⟨b167, rfl, rfl, rfl⟩
 have hn168 : ([z153, s157, s163] : List (List UInt8)) ≠ [] → ∃ g, (some ⟨b167, 0, none⟩ : Option Addr) = some ⟨g, 0, none⟩ := fun _ => ⟨b167, rfl⟩
 refine ⟨fun w hs => Hold.sub (Hp.le_refl _) ⟨1, rfl, trivial⟩ hs, ?_⟩
 refine JM.nil <| qa (.slice (some ⟨b167, 0, none⟩) ((([z153, s157, s163] : List (List UInt8))).length) 3) rfl <| JQ.nil <| J.nil <| CJ.seq <| CJ.seq <| CJ.region ?_
 refine jv _ (V.fad Tryd.underlying23 rfl nz4 rfl) <| jv (.bool xa.2.2.2.2) (V.ld rfl (Ld.sc sc4 (Rd.cl 1 rfl rfl))) <| J.nil <| cc rfl h (fun hc170 h => ?_) fun hc170 h => ?_
 · refine CJ.region <| jm (.slice (some ⟨b167, 0, none⟩) ((([z153, s157, s163] : List (List UInt8))).length) 3) rfl ?_
   refine J.op rfl (A.lit (K0 := Hp.nil) (ty := .str) (xs := ([([98, 97, 99, 107] : List UInt8)] : List (List UInt8))) Tryd.underlying43 inf9 rfl (by decide) rfl rfl rfl ⟨_, _, rfl, rfl, rfl⟩ rfl (by decide)) ?_
   rintro _ _ _ ⟨b171, rfl, rfl, rfl⟩
   have hn172 : ([([98, 97, 99, 107] : List UInt8)] : List (List UInt8)) ≠ [] → ∃ g, (some ⟨b171, 0, none⟩ : Option Addr) = some ⟨g, 0, none⟩ := fun _ => ⟨b171, rfl⟩
   obtain ⟨z174, hz175, h⟩ := ob h
   refine J.front 1 rfl <| J.op rfl (A.appR (Kr := Hp.nil) Tryd.underlying43 inf9 rfl rfl (by decide) (by decide) rfl rfl (Els.flat rfl) (Els.flat rfl) hz175) ?_
   rintro _ _ _ ⟨v176, rfl, rfl, rfl⟩
   refine J.wit Row.form ?_
   rintro ⟨ad177, cp178, rfl, _, _, hn179⟩
   refine ja (.slice ad177 z174.length cp178) rfl <| J.nil <| cr <| jm (.slice ad177 z174.length cp178) rfl ?_
   obtain ⟨r180, hr181, h⟩ := ob h
   refine J.op rfl (A.call (L1 := [Row Hp.nil 9 .str (.slice ad177 z174.length cp178) z174]) Tryd.call23 rfl (Tr.lend (Hp.nil_le _) (by decide) (fun K182 hK183 f184 => strings_Join_ok f184 hr181)) rfl rfl) ?_
   rintro _ _ _ ⟨v186, _, rfl, ⟨⟨_, ⟨s185, rfl, rfl, rfl⟩, rfl⟩, rfl⟩, _, rfl⟩
   refine ja (.string ⟨s185.toArray⟩) rfl <| J.nil <| CJ.ret ?_
   obtain rfl := si h
   exact ⟨_, _, Res.one rfl rfl, ⟨s185, rfl, rfl, rfl⟩, (Hp.le_refl _), fun w hs => (Sep.dropAt 0 rfl (Sep.dropAt 0 rfl hs))⟩
 refine CJ.skip <| cr <| jm (.slice (some ⟨b167, 0, none⟩) ((([z153, s157, s163] : List (List UInt8))).length) 3) rfl ?_
 obtain ⟨r189, hr190, h⟩ := ob h
 refine J.op rfl (A.call (L1 := [Row Hp.nil 9 .str (.slice (some ⟨b167, 0, none⟩) ((([z153, s157, s163] : List (List UInt8))).length) 3) (([z153, s157, s163] : List (List UInt8)))]) Tryd.call23 rfl (Tr.lend (Hp.nil_le _) (by decide) (fun K191 hK192 f193 => strings_Join_ok f193 hr190)) rfl rfl) ?_
 rintro _ _ _ ⟨v195, _, rfl, ⟨⟨_, ⟨s194, rfl, rfl, rfl⟩, rfl⟩, rfl⟩, _, rfl⟩
 refine ja (.string ⟨s194.toArray⟩) rfl <| J.nil <| CJ.ret ?_
 obtain rfl := si h
 exact ⟨_, _, Res.one rfl rfl, ⟨s194, rfl, rfl, rfl⟩, (Hp.le_refl _), fun w hs => (Sep.dropAt 0 rfl (Sep.dropAt 0 rfl hs))⟩

noncomputable def fn_law26_awake  : Option Bool :=
  (fn_prov_Parse ([49, 46, 50, 32, 102, 108, 111, 119, 32, 51, 32, 98, 97, 99, 107] : List UInt8)).bind fun (i36, i37, i38, i39, t40, i41) => (cond (((decide (i36 = 1)) && ((decide (i37 = 2)) && ((decide (i38 = 1)) && ((decide (i39 = 3)) && (t40 == true))))) && (decide (i41 = 0))) ((fn_prov_Text (i36, i37, i38, i39, t40)).bind fun s61 => some (decide (s61 = ([49, 46, 50, 32, 102, 108, 111, 119, 32, 51, 32, 98, 97, 99, 107] : List UInt8)))) (some (false))).bind fun t56 => some (t56)
set_option maxRecDepth 100000 in
set_option maxHeartbeats 4000000 in
theorem law26_awake_ok {K : Hp}   (fG : Gk K) {r : Bool} (h : fn_law26_awake = some r) :
    Tr Tryd.prog 6 #[] K [] (fun v K' L' => (∃ (t33 : Bool), t33 = r ∧ .bool t33 = v ∧ L' = []) ∧ K = K') := by
 refine Tr.k <| Tr.of Tryd.func6 rfl Tryd.ntmps6 rfl fun E F => ?_
 unfold fn_law26_awake at h
 refine cr <| ja (.bool false) rfl <| J.nil <| CJ.seq <| CJ.region ?_
 obtain ⟨r34, hr35, h⟩ := ob h
 refine J.op rfl (A.call (L1 := []) Tryd.call17 rfl (prov_Parse_ok fG hr35) rfl rfl) ?_
 rintro _ _ _ ⟨v42, _, rfl, ⟨⟨i36, i37, i38, i39, t40, i41, rfl, rfl, rfl⟩, rfl⟩, _, rfl⟩
 refine jm (.tuple #[.agg #[ii i36, ii i37, ii i38, ii i39, .bool t40], ii i41]) rfl <| jx (.agg #[ii i36, ii i37, ii i38, ii i39, .bool t40]) rfl rfl <| jx (ii i41) rfl rfl <| jal inf23 [ii 0, ii 0, ii 0, ii 0, .bool false] rfl fun b45 => js [ii i36, ii i37, ii i38, ii i39, .bool t40] sz23 rfl rfl rfl rfl rfl rfl <| ja (ii i41) rfl <| J.nil ?_
 refine cr <| jv (.agg #[ii i36, ii i37, ii i38, ii i39, .bool t40]) (V.ld rfl (Ld.agg (cs := [ii i36, ii i37, ii i38, ii i39, .bool t40]) Tryd.underlying23 sz23 rfl (Rd.cls 0 0 rfl rfl))) <| jv (.agg #[ii 1, ii 2, ii 1, ii 3, .bool true]) (V.build inf23 places23 rfl rfl) <| jv (.bool ((decide (i36 = 1)) && ((decide (i37 = 2)) && ((decide (i38 = 1)) && ((decide (i39 = 3)) && (t40 == true)))))) (V.eqst eqg23 (EqIn.st (d := 9999) rfl Tryd.underlying23 sih23 (EqFs.cons (by decide) (Ld0.sc sc3 rfl) (Ld0.sc sc3 rfl) (EqIn.int (d := 9998) rfl Tryd.underlying3) (EqFs.cons (by decide) (Ld0.sc sc3 rfl) (Ld0.sc sc3 rfl) (EqIn.int (d := 9998) rfl Tryd.underlying3) (EqFs.cons (by decide) (Ld0.sc sc3 rfl) (Ld0.sc sc3 rfl) (EqIn.int (d := 9998) rfl Tryd.underlying3) (EqFs.cons (by decide) (Ld0.sc sc3 rfl) (Ld0.sc sc3 rfl) (EqIn.int (d := 9998) rfl Tryd.underlying3) (EqFs.last (by decide) (Ld0.sc sc4 rfl) (Ld0.sc sc4 rfl) (EqIn.bool (d := 9998) rfl Tryd.underlying4))))))) rfl rfl) <| jm (.bool ((decide (i36 = 1)) && ((decide (i37 = 2)) && ((decide (i38 = 1)) && ((decide (i39 = 3)) && (t40 == true)))))) rfl <| J.cut 3 ?_
 refine jmeet [(13, .bool (((decide (i36 = 1)) && ((decide (i37 = 2)) && ((decide (i38 = 1)) && ((decide (i39 = 3)) && (t40 == true))))) && (decide (i41 = 0)))), (1, .pointer (some ⟨b45, 0, none⟩))] ?_ ?_
 · rcases bt ((decide (i36 = 1)) && ((decide (i37 = 2)) && ((decide (i38 = 1)) && ((decide (i39 = 3)) && (t40 == true))))) with hc48 | hc48
   · refine J.run rfl rfl rfl hc48 <| jm (ii i41) rfl <| J.run rfl rfl rfl hc48 <| jv (.bool (decide (i41 = 0))) (V.eql rfl rfl) <| jv (.bool (decide (i41 = 0))) (V.pickT rfl hc48 rfl) <| J.nil ?_
     exact ⟨rfl, ⟨(by simp only [hc48]; rfl), rfl, trivial⟩, rfl, rfl⟩
   refine J.skip rfl rfl rfl rfl hc48 <| J.skip rfl rfl rfl rfl hc48 <| jv (.bool false) (V.pickF rfl hc48 rfl) <| J.nil ?_
   exact ⟨rfl, ⟨(by simp only [hc48]; rfl), rfl, trivial⟩, rfl, rfl⟩
 intro ρ
 refine jm (.bool (((decide (i36 = 1)) && ((decide (i37 = 2)) && ((decide (i38 = 1)) && ((decide (i39 = 3)) && (t40 == true))))) && (decide (i41 = 0)))) rfl <| J.cut 4 ?_
 obtain ⟨t56, ht57, h⟩ := ob h
 refine jmeet [(18, .bool t56)] ?_ ?_
 · rcases bt (((decide (i36 = 1)) && ((decide (i37 = 2)) && ((decide (i38 = 1)) && ((decide (i39 = 3)) && (t40 == true))))) && (decide (i41 = 0))) with hc58 | hc58
   · have ht57 := ct hc58 ht57
     refine J.run rfl rfl rfl hc58 <| jv (.agg #[ii i36, ii i37, ii i38, ii i39, .bool t40]) (V.ld rfl (Ld.agg (cs := [ii i36, ii i37, ii i38, ii i39, .bool t40]) Tryd.underlying23 sz23 rfl (Rd.cls 0 0 rfl rfl))) <| J.run rfl rfl rfl hc58 ?_
     obtain ⟨r59, hr60, ht57⟩ := ob ht57
     refine J.op rfl (A.call (L1 := []) Tryd.call13 rfl (prov_Text_ok hr60) rfl rfl) ?_
     rintro _ _ _ ⟨v62, _, rfl, ⟨⟨s61, rfl, rfl, rfl⟩, rfl⟩, _, rfl⟩
     refine J.run rfl rfl rfl hc58 <| jv (.bool (decide (s61 = ([49, 46, 50, 32, 102, 108, 111, 119, 32, 51, 32, 98, 97, 99, 107] : List UInt8)))) (V.eqs rfl rfl) <| jv (.bool (decide (s61 = ([49, 46, 50, 32, 102, 108, 111, 119, 32, 51, 32, 98, 97, 99, 107] : List UInt8)))) (V.pickT rfl hc58 rfl) <| J.nil ?_
     obtain rfl := si ht57
     exact ⟨rfl, ⟨rfl, trivial⟩, rfl, rfl⟩
   have ht57 := cf hc58 ht57
   refine J.skip rfl rfl rfl rfl hc58 <| J.skip rfl rfl rfl rfl hc58 <| J.skip rfl rfl rfl rfl hc58 <| jv (.bool false) (V.pickF rfl hc58 rfl) <| J.nil ?_
   obtain rfl := si ht57
   exact ⟨rfl, ⟨rfl, trivial⟩, rfl, rfl⟩
 intro ρ
 refine ja (.bool t56) rfl <| J.nil <| CJ.ret ?_
 obtain rfl := si h
 exact ⟨_, _, Res.one rfl rfl, ⟨t56, rfl, rfl, rfl⟩, (Hp.le_refl _), fun w hs => (Sep.dropAt 0 rfl hs)⟩

noncomputable def fn_ref26_Name (xa : Int) : Option (List UInt8) :=
  cond ((decide (xa < 1)) || (decide (7 < xa))) (some (([63] : List UInt8))) ((getI (([([102, 108, 111, 119] : List UInt8), ([108, 111, 97, 110] : List UInt8), ([98, 97, 115, 101] : List UInt8), ([110, 101, 101, 100] : List UInt8), ([112, 97, 115, 115] : List UInt8), ([103, 105, 118, 101] : List UInt8), ([111, 117, 116] : List UInt8)] : List (List UInt8))) (IntKind.wrap .i64 (xa - 1))).bind fun x23 => some (x23))
set_option maxRecDepth 100000 in
set_option maxHeartbeats 4000000 in
theorem ref26_Name_ok {K : Hp} {xa : Int}   {r : List UInt8} (h : fn_ref26_Name xa = some r) :
    Tr Tryd.prog 9 #[ii xa] K [] (fun v K' L' => (∃ (s15 : List UInt8), s15 = r ∧ .string ⟨s15.toArray⟩ = v ∧ L' = []) ∧ K = K') := by
 refine Tr.k <| Tr.of Tryd.func9 rfl Tryd.ntmps9 rfl fun E F => ?_
 unfold fn_ref26_Name at h
 refine cr <| ja (.string ⟨([] : List UInt8).toArray⟩) rfl <| J.nil <| CJ.seq <| CJ.seq <| CJ.region ?_
 refine jm (ii xa) rfl <| jv (.bool (decide (xa < 1))) (V.lss rfl rfl) <| jm (.bool (decide (xa < 1))) rfl <| J.cut 3 <| jmeet [(8, .bool ((decide (xa < 1)) || (decide (7 < xa)))), (0, ii xa)] ?_ ?_
 · rcases bt (decide (xa < 1)) with hc18 | hc18
   · refine J.skip rfl rfl rfl rfl hc18 <| J.skip rfl rfl rfl rfl hc18 <| jv (.bool true) (V.pickT rfl hc18 rfl) <| J.nil ?_
     exact ⟨rfl, ⟨(by simp only [hc18]; rfl), rfl, trivial⟩, rfl, rfl⟩
   refine J.run rfl rfl rfl hc18 <| jm (ii xa) rfl <| J.run rfl rfl rfl hc18 <| jv (.bool (decide (7 < xa))) (V.gtr rfl rfl) <| jv (.bool (decide (7 < xa))) (V.pickF rfl hc18 rfl) <| J.nil ?_
   exact ⟨rfl, ⟨(by simp only [hc18]; rfl), rfl, trivial⟩, rfl, rfl⟩
 intro ρ
 refine J.nil <| cc rfl h (fun hc19 h => ?_) fun hc19 h => ?_
 · refine cr <| ja (.string ⟨([63] : List UInt8).toArray⟩) rfl <| J.nil <| CJ.ret ?_
   obtain rfl := si h
   exact ⟨_, _, Res.one rfl rfl, ⟨([63] : List UInt8), rfl, rfl, rfl⟩, (Hp.le_refl _), fun w hs => hs⟩
 refine CJ.skip <| CJ.seq <| CJ.region ?_
 refine J.op rfl (A.lit (K0 := Hp.nil) (ty := .str) (xs := ([([102, 108, 111, 119] : List UInt8), ([108, 111, 97, 110] : List UInt8), ([98, 97, 115, 101] : List UInt8), ([110, 101, 101, 100] : List UInt8), ([112, 97, 115, 115] : List UInt8), ([103, 105, 118, 101] : List UInt8), ([111, 117, 116] : List UInt8)] : List (List UInt8))) Tryd.underlying43 inf9 rfl (by decide) rfl rfl rfl ⟨_, _, rfl, rfl, ⟨_, _, rfl, rfl, ⟨_, _, rfl, rfl, ⟨_, _, rfl, rfl, ⟨_, _, rfl, rfl, ⟨_, _, rfl, rfl, ⟨_, _, rfl, rfl, rfl⟩⟩⟩⟩⟩⟩⟩ rfl (by decide)) ?_
 rintro _ _ _ ⟨b20, rfl, rfl, rfl⟩
 have hn21 : ([([102, 108, 111, 119] : List UInt8), ([108, 111, 97, 110] : List UInt8), ([98, 97, 115, 101] : List UInt8), ([110, 101, 101, 100] : List UInt8), ([112, 97, 115, 115] : List UInt8), ([103, 105, 118, 101] : List UInt8), ([111, 117, 116] : List UInt8)] : List (List UInt8)) ≠ [] → ∃ g, (some ⟨b20, 0, none⟩ : Option Addr) = some ⟨g, 0, none⟩ := fun _ => ⟨b20, rfl⟩
 refine jm (ii xa) rfl <| jv (ii (IntKind.wrap .i64 (xa - 1))) (V.sub rfl rfl) ?_
 obtain ⟨x23, hx24, h⟩ := ob h
 obtain ⟨p25, p26, p27⟩ := getI_some hx24
 obtain ⟨g28, e29⟩ := hn21 (fun e => by rw [e] at p26; simp at p26)
 refine jv _ (V.iad Tryd.underlying43 sz9 rfl e29 rfl p25 p27) <| jv (.string ⟨x23.toArray⟩) (V.ld rfl (Ld.sc sc9 (Rd.row 0 rfl e29 p26 (q := 0) (by simp [Tp.size]) (by decide) (by rintro _ rfl; rfl)))) <| ja (.string ⟨x23.toArray⟩) rfl <| J.nil <| CJ.ret ?_
 obtain rfl := si h
 exact ⟨_, _, Res.one rfl rfl, ⟨x23, rfl, rfl, rfl⟩, (Hp.le_refl _), fun w hs => (Sep.dropAt 0 rfl hs)⟩
noncomputable def fn_ref26_Kind_l1 (xa : (List UInt8)) : Int → Option (Int ⊕ (Unit ⊕ Int)) := fun (i111 : Int) => cond (decide (i111 ≤ 7)) ((fn_ref26_Name i111).bind fun s128 => cond (decide (s128 = xa)) (some (.inr ((.inr (i111))))) (some (.inl (IntKind.wrap .i64 (i111 + 1))))) (some (.inr ((.inl ()))))
noncomputable def fn_ref26_Kind (xa : (List UInt8)) : Option Int :=
  (loop (fn_ref26_Kind_l1 xa) 1 : Option (Unit ⊕ Int)).bind fun o => match o with | .inr r => some r | .inl () => some (0)
set_option maxRecDepth 100000 in
set_option maxHeartbeats 4000000 in
theorem ref26_Kind_ok {K : Hp} {xa : (List UInt8)}   {r : Int} (h : fn_ref26_Kind xa = some r) :
    Tr Tryd.prog 10 #[.string ⟨xa.toArray⟩] K [] (fun v K' L' => (∃ (i68 : Int), i68 = r ∧ ii i68 = v ∧ L' = []) ∧ K = K') := by
 refine Tr.k <| Tr.of Tryd.func10 rfl Tryd.ntmps10 rfl fun E F => ?_
 unfold fn_ref26_Kind at h
 refine cr <| ja (ii 0) rfl <| J.nil <| CJ.seq <| CJ.seq <| CJ.region ?_
 refine ja (ii 1) rfl <| J.nil ?_
 obtain ⟨o100, ho101, h⟩ := ob h
 refine CJ.joinN (o := o100) (fun s ρ K' L' => () = s ∧ Fits [] ρ ∧ K = K' ∧ F = L') ?_ ?_
 · refine CJ.block <| CJ.loop (fun s ρ K' L' => ∃ (i111 : Int), i111 = s ∧ Fits [(0, .string ⟨xa.toArray⟩), (3, ii i111)] ρ ∧ K = K' ∧ F = L') ho101 ⟨1, rfl, ⟨rfl, rfl, trivial⟩, rfl, rfl⟩ ?_
   rintro s ρ _ _ r124 ⟨i111, rfl, hf122, rfl, rfl⟩ h121
   obtain ⟨ρ, rfl⟩ := hf122.ex
   refine CJ.seq <| cr <| jm (ii i111) rfl <| jv (.bool (decide (i111 ≤ 7))) (V.leq rfl rfl) <| J.nil <| cc rfl h121 (fun hc125 h121 => ?_) fun hc125 h121 => ?_
   · refine CJ.skip <| CJ.seq <| CJ.block <| cr <| jm (ii i111) rfl ?_
     obtain ⟨r126, hr127, h121⟩ := ob h121
     refine J.op rfl (A.call (L1 := []) Tryd.call9 rfl (ref26_Name_ok hr127) rfl rfl) ?_
     rintro _ _ _ ⟨v129, _, rfl, ⟨⟨s128, rfl, rfl, rfl⟩, rfl⟩, _, rfl⟩
     refine jm (.string ⟨xa.toArray⟩) rfl <| jv (.bool (decide (s128 = xa))) (V.eqs rfl rfl) <| J.nil <| cc rfl h121 (fun hc132 h121 => ?_) fun hc132 h121 => ?_
     · refine cr <| jm (ii i111) rfl <| ja (ii i111) rfl <| J.nil <| CJ.ret ?_
       obtain rfl := si h121
       refine ⟨nofun, fun e => ?_⟩
       subst e
       refine .inr ⟨nofun, ?_⟩
       obtain rfl := si h
       exact ⟨_, _, Res.one rfl rfl, ⟨i111, rfl, rfl, rfl⟩, (Hp.le_refl _), fun w hs => hs⟩
     refine CJ.skip <| CJ.region <| jm (ii i111) rfl <| jv (ii (IntKind.wrap .i64 (i111 + 1))) (V.add rfl rfl) <| ja (ii (IntKind.wrap .i64 (i111 + 1))) rfl <| J.nil ?_
     obtain rfl := si h121
     exact ⟨rfl, ⟨IntKind.wrap .i64 (i111 + 1), rfl, ⟨rfl, rfl, trivial⟩, rfl, rfl⟩⟩
   refine CJ.exit ?_
   obtain rfl := si h121
   refine ⟨nofun, fun e => ?_⟩
   subst e
   exact .inl ⟨rfl, _, rfl, ⟨rfl, trivial, rfl, rfl⟩⟩
 rintro s ρ _ _ ho133 ⟨rfl, hf134, rfl, rfl⟩
 subst ho133
 obtain ⟨ρ, rfl⟩ := hf134.ex
 refine PJ.done <| cr <| ja (ii 0) rfl <| J.nil <| CJ.ret ?_
 obtain rfl := si h
 exact ⟨_, _, Res.one rfl rfl, ⟨0, rfl, rfl, rfl⟩, (Hp.le_refl _), fun w hs => hs⟩

noncomputable def fn_ref26_Right (xa : (Int × Int × Int × Int × Bool)) : Option Bool :=
  (cond (((decide (0 ≤ xa.1)) && (decide (0 ≤ xa.2.1))) && (decide (0 ≤ xa.2.2.2.1))) ((fn_ref26_Name xa.2.2.1).bind fun s44 => some (!decide (s44 = ([63] : List UInt8)))) (some (false))).bind fun t39 => some (t39)
set_option maxRecDepth 100000 in
set_option maxHeartbeats 4000000 in
theorem ref26_Right_ok {K : Hp} {xa : (Int × Int × Int × Int × Bool)}   {r : Bool} (h : fn_ref26_Right xa = some r) :
    Tr Tryd.prog 12 #[.agg #[ii xa.1, ii xa.2.1, ii xa.2.2.1, ii xa.2.2.2.1, .bool xa.2.2.2.2]] K [] (fun v K' L' => (∃ (t24 : Bool), t24 = r ∧ .bool t24 = v ∧ L' = []) ∧ K = K') := by
 refine Tr.k <| Tr.of Tryd.func12 rfl Tryd.ntmps12 rfl fun E F => ?_
 unfold fn_ref26_Right at h
 refine cr <| jbx [ii xa.1, ii xa.2.1, ii xa.2.2.1, ii xa.2.2.2.1, .bool xa.2.2.2.2] rfl rfl fun b25 => ja (.bool false) rfl <| J.nil <| CJ.seq <| CJ.region ?_
 refine jv _ (V.fad Tryd.underlying23 rfl nz3 rfl) <| jv (ii xa.1) (V.ld rfl (Ld.sc sc3 (Rd.cl 0 rfl rfl))) <| jv (.bool (decide (0 ≤ xa.1))) (V.geq rfl rfl) <| jm (.bool (decide (0 ≤ xa.1))) rfl <| J.cut 4 <| jmeet [(10, .bool ((decide (0 ≤ xa.1)) && (decide (0 ≤ xa.2.1)))), (1, .pointer (some ⟨b25, 0, none⟩))] ?_ ?_
 · rcases bt (decide (0 ≤ xa.1)) with hc28 | hc28
   · refine J.run rfl rfl rfl hc28 <| jv _ (V.fad Tryd.underlying23 rfl nz3 rfl) <| J.run rfl rfl rfl hc28 <| jv (ii xa.2.1) (V.ld rfl (Ld.sc sc3 (Rd.cl 0 rfl rfl))) <| J.run rfl rfl rfl hc28 <| jv (.bool (decide (0 ≤ xa.2.1))) (V.geq rfl rfl) <| jv (.bool (decide (0 ≤ xa.2.1))) (V.pickT rfl hc28 rfl) ?_
     refine J.nil ?_
     exact ⟨rfl, ⟨(by simp only [hc28]; rfl), rfl, trivial⟩, rfl, rfl⟩
   refine J.skip rfl rfl rfl rfl hc28 <| J.skip rfl rfl rfl rfl hc28 <| J.skip rfl rfl rfl rfl hc28 <| jv (.bool false) (V.pickF rfl hc28 rfl) <| J.nil ?_
   exact ⟨rfl, ⟨(by simp only [hc28]; rfl), rfl, trivial⟩, rfl, rfl⟩
 intro ρ
 refine jm (.bool ((decide (0 ≤ xa.1)) && (decide (0 ≤ xa.2.1)))) rfl <| J.cut 4 <| jmeet [(15, .bool (((decide (0 ≤ xa.1)) && (decide (0 ≤ xa.2.1))) && (decide (0 ≤ xa.2.2.2.1)))), (1, .pointer (some ⟨b25, 0, none⟩))] ?_ ?_
 · rcases bt ((decide (0 ≤ xa.1)) && (decide (0 ≤ xa.2.1))) with hc31 | hc31
   · refine J.run rfl rfl rfl hc31 <| jv _ (V.fad Tryd.underlying23 rfl nz3 rfl) <| J.run rfl rfl rfl hc31 <| jv (ii xa.2.2.2.1) (V.ld rfl (Ld.sc sc3 (Rd.cl 0 rfl rfl))) <| J.run rfl rfl rfl hc31 <| jv (.bool (decide (0 ≤ xa.2.2.2.1))) (V.geq rfl rfl) <| jv (.bool (decide (0 ≤ xa.2.2.2.1))) (V.pickT rfl hc31 rfl) ?_
     refine J.nil ?_
     exact ⟨rfl, ⟨(by simp only [hc31]; rfl), rfl, trivial⟩, rfl, rfl⟩
   refine J.skip rfl rfl rfl rfl hc31 <| J.skip rfl rfl rfl rfl hc31 <| J.skip rfl rfl rfl rfl hc31 <| jv (.bool false) (V.pickF rfl hc31 rfl) <| J.nil ?_
   exact ⟨rfl, ⟨(by simp only [hc31]; rfl), rfl, trivial⟩, rfl, rfl⟩
 intro ρ
 refine jm (.bool (((decide (0 ≤ xa.1)) && (decide (0 ≤ xa.2.1))) && (decide (0 ≤ xa.2.2.2.1)))) rfl <| J.cut 5 ?_
 obtain ⟨t39, ht40, h⟩ := ob h
 refine jmeet [(21, .bool t39)] ?_ ?_
 · rcases bt (((decide (0 ≤ xa.1)) && (decide (0 ≤ xa.2.1))) && (decide (0 ≤ xa.2.2.2.1))) with hc41 | hc41
   · have ht40 := ct hc41 ht40
     refine J.run rfl rfl rfl hc41 <| jv _ (V.fad Tryd.underlying23 rfl nz3 rfl) <| J.run rfl rfl rfl hc41 <| jv (ii xa.2.2.1) (V.ld rfl (Ld.sc sc3 (Rd.cl 0 rfl rfl))) <| J.run rfl rfl rfl hc41 ?_
     obtain ⟨r42, hr43, ht40⟩ := ob ht40
     refine J.op rfl (A.call (L1 := []) Tryd.call9 rfl (ref26_Name_ok hr43) rfl rfl) ?_
     rintro _ _ _ ⟨v45, _, rfl, ⟨⟨s44, rfl, rfl, rfl⟩, rfl⟩, _, rfl⟩
     refine J.run rfl rfl rfl hc41 <| jv (.bool (!decide (s44 = ([63] : List UInt8)))) (V.nes rfl rfl) <| jv (.bool (!decide (s44 = ([63] : List UInt8)))) (V.pickT rfl hc41 rfl) <| J.nil ?_
     obtain rfl := si ht40
     exact ⟨rfl, ⟨rfl, trivial⟩, rfl, rfl⟩
   have ht40 := cf hc41 ht40
   refine J.skip rfl rfl rfl rfl hc41 <| J.skip rfl rfl rfl rfl hc41 <| J.skip rfl rfl rfl rfl hc41 <| J.skip rfl rfl rfl rfl hc41 <| jv (.bool false) (V.pickF rfl hc41 rfl) <| J.nil ?_
   obtain rfl := si ht40
   exact ⟨rfl, ⟨rfl, trivial⟩, rfl, rfl⟩
 intro ρ
 refine ja (.bool t39) rfl <| J.nil <| CJ.ret ?_
 obtain rfl := si h
 exact ⟨_, _, Res.one rfl rfl, ⟨t39, rfl, rfl, rfl⟩, (Hp.le_refl _), fun w hs => (Sep.dropAt 0 rfl hs)⟩

noncomputable def fnr_ref01_Text : Nat → Int → Option (List UInt8)
  | 0, _ => none
  | fuel + 1, xa => cond (decide (xa < 0)) (some (([] : List UInt8))) (cond (decide (xa < 10)) ((subL ([48, 49, 50, 51, 52, 53, 54, 55, 56, 57] : List UInt8) xa (IntKind.wrap .i64 (xa + 1))).bind fun y37 => some (y37)) ((subL ([48, 49, 50, 51, 52, 53, 54, 55, 56, 57] : List UInt8) (Int.tmod xa 10) (IntKind.wrap .i64 ((Int.tmod xa 10) + 1))).bind fun y49 => (fnr_ref01_Text fuel (IntKind.wrap .i64 (Int.tdiv xa 10))).bind fun s53 => (app s53 y49).bind fun z57 => some (z57)))
noncomputable def fn_ref01_Text (xa : Int) : Option (List UInt8) := lev (fun n => fnr_ref01_Text n xa)
set_option maxRecDepth 100000 in
set_option maxHeartbeats 4000000 in
theorem ref01_Text_okr : ∀ (fuel : Nat) {K : Hp} {xa : Int}   {r : List UInt8} (h : fnr_ref01_Text fuel xa = some r),
    Tr Tryd.prog 24 #[ii xa] K [] (fun v K' L' => (∃ (s34 : List UInt8), s34 = r ∧ .string ⟨s34.toArray⟩ = v ∧ L' = []) ∧ K = K') := by
  intro fuel
  induction fuel with
  | zero => intro K xa r h; rw [fnr_ref01_Text] at h; cases h
  | succ fuel ih =>
    intro K xa r h
    refine Tr.k <| Tr.of Tryd.func24 rfl Tryd.ntmps24 rfl fun E F => ?_
    rw [fnr_ref01_Text] at h
    refine cr <| ja (.string ⟨([] : List UInt8).toArray⟩) rfl <| J.nil <| CJ.seq <| CJ.seq <| CJ.region ?_
    refine jm (ii xa) rfl <| jv (.bool (decide (xa < 0))) (V.lss rfl rfl) <| J.nil <| cc rfl h (fun hc35 h => ?_) fun hc35 h => ?_
    · refine cr <| ja (.string ⟨([] : List UInt8).toArray⟩) rfl <| J.nil <| CJ.ret ?_
      obtain rfl := si h
      exact ⟨_, _, Res.one rfl rfl, ⟨([] : List UInt8), rfl, rfl, rfl⟩, (Hp.le_refl _), fun w hs => hs⟩
    refine CJ.skip <| CJ.seq <| cr <| jm (ii xa) rfl <| jv (.bool (decide (xa < 10))) (V.lss rfl rfl) <| J.nil ?_
    refine cc rfl h (fun hc36 h => ?_) fun hc36 h => ?_
    · refine cr <| jm (ii xa) rfl <| jm (ii xa) rfl <| jv (ii (IntKind.wrap .i64 (xa + 1))) (V.add rfl rfl) ?_
      obtain ⟨y37, hy38, h⟩ := ob h
      refine jv (.string ⟨y37.toArray⟩) (V.subs Tryd.underlying9 rfl (fun _ h => by cases h; exact ⟨_, rfl⟩) nofun (fun _ h => by cases h; exact ⟨_, rfl⟩) nofun hy38) <| ja (.string ⟨y37.toArray⟩) rfl <| J.nil <| CJ.ret ?_
      obtain rfl := si h
      exact ⟨_, _, Res.one rfl rfl, ⟨y37, rfl, rfl, rfl⟩, (Hp.le_refl _), fun w hs => hs⟩
    refine CJ.skip <| CJ.seq <| CJ.mix [] [([0, 1, 3, 4, 5, 6, 7, 8], 2)] [9, 10] [] mixO (by decide +kernel) trivial rfl rfl rfl <| JM.cons <| qm (ii xa) rfl <| qv (ii (IntKind.wrap .i64 (Int.tdiv xa 10))) (V.quo rfl rfl (by decide)) <| qm (ii xa) rfl ?_
    refine qv (ii (Int.tmod xa 10)) (V.rem rfl rfl (by decide)) <| qm (ii xa) rfl <| qv (ii (Int.tmod xa 10)) (V.rem rfl rfl (by decide)) <| qv (ii (IntKind.wrap .i64 ((Int.tmod xa 10) + 1))) (V.add rfl rfl) ?_
    obtain ⟨y49, hy50, h⟩ := ob h
    refine qv (.string ⟨y49.toArray⟩) (V.subs Tryd.underlying9 rfl (fun _ h => by cases h; exact ⟨_, rfl⟩) nofun (fun _ h => by cases h; exact ⟨_, rfl⟩) nofun hy50) <| JQ.nil ?_
    obtain ⟨r51, hr52, h⟩ := ob h
    refine JA.op rfl (A.call (L1 := []) Tryd.call24 rfl (ih hr52) rfl rfl) ?_
    rintro _ _ _ ⟨v54, _, rfl, ⟨⟨s53, rfl, rfl, rfl⟩, rfl⟩, _, rfl⟩
    refine ⟨fun w hs => Hold.sub (Hp.le_refl _) trivial hs, ?_⟩
    refine JM.nil ?_
    obtain ⟨z57, hz58, h⟩ := ob h
    refine qv (.string ⟨z57.toArray⟩) (V.cat rfl rfl hz58) <| qa (.string ⟨z57.toArray⟩) rfl <| JQ.nil <| J.nil <| CJ.ret ?_
    obtain rfl := si h
    exact ⟨_, _, Res.one rfl rfl, ⟨z57, rfl, rfl, rfl⟩, (Hp.le_refl _), fun w hs => hs⟩
set_option maxRecDepth 100000 in
set_option maxHeartbeats 4000000 in
theorem ref01_Text_ok {K : Hp} {xa : Int}   {r : List UInt8} (h : fn_ref01_Text xa = some r) :
    Tr Tryd.prog 24 #[ii xa] K [] (fun v K' L' => (∃ (s34 : List UInt8), s34 = r ∧ .string ⟨s34.toArray⟩ = v ∧ L' = []) ∧ K = K') := by
  obtain ⟨n, hn⟩ := lev_some h
  exact ref01_Text_okr n  hn

noncomputable def fn_ref26_Text (xa : (Int × Int × Int × Int × Bool)) : Option (List UInt8) :=
  (fn_ref26_Right (xa.1, xa.2.1, xa.2.2.1, xa.2.2.2.1, xa.2.2.2.2)).bind fun t88 => cond (!t88) (some (([63] : List UInt8))) ((fn_ref01_Text xa.1).bind fun s131 => (app s131 ([46] : List UInt8)).bind fun z135 => (fn_ref01_Text xa.2.1).bind fun s139 => (app z135 s139).bind fun z143 => (app z143 ([32] : List UInt8)).bind fun z145 => (fn_ref26_Name xa.2.2.1).bind fun s149 => (app z145 s149).bind fun z153 => (app z153 ([32] : List UInt8)).bind fun z155 => (fn_ref01_Text xa.2.2.2.1).bind fun s159 => (app z155 s159).bind fun z163 => cond (xa.2.2.2.2) ((app z163 ([32, 98, 97, 99, 107] : List UInt8)).bind fun z166 => some (z166)) (some (z163)))
set_option maxRecDepth 100000 in
set_option maxHeartbeats 4000000 in
theorem ref26_Text_ok {K : Hp} {xa : (Int × Int × Int × Int × Bool)}   {r : List UInt8} (h : fn_ref26_Text xa = some r) :
    Tr Tryd.prog 14 #[.agg #[ii xa.1, ii xa.2.1, ii xa.2.2.1, ii xa.2.2.2.1, .bool xa.2.2.2.2]] K [] (fun v K' L' => (∃ (s84 : List UInt8), s84 = r ∧ .string ⟨s84.toArray⟩ = v ∧ L' = []) ∧ K = K') := by
 refine Tr.k <| Tr.of Tryd.func14 rfl Tryd.ntmps14 rfl fun E F => ?_
 unfold fn_ref26_Text at h
 refine cr <| jbx [ii xa.1, ii xa.2.1, ii xa.2.2.1, ii xa.2.2.2.1, .bool xa.2.2.2.2] rfl rfl fun b85 => ja (.string ⟨([] : List UInt8).toArray⟩) rfl <| J.nil <| CJ.seq <| CJ.seq ?_
 refine CJ.region <| jv (.agg #[ii xa.1, ii xa.2.1, ii xa.2.2.1, ii xa.2.2.2.1, .bool xa.2.2.2.2]) (V.ld rfl (Ld.agg (cs := [ii xa.1, ii xa.2.1, ii xa.2.2.1, ii xa.2.2.2.1, .bool xa.2.2.2.2]) Tryd.underlying23 sz23 rfl (Rd.cls 0 0 rfl rfl))) ?_
 obtain ⟨r86, hr87, h⟩ := ob h
 refine J.op rfl (A.call (L1 := []) Tryd.call12 rfl (ref26_Right_ok hr87) rfl rfl) ?_
 rintro _ _ _ ⟨v89, _, rfl, ⟨⟨t88, rfl, rfl, rfl⟩, rfl⟩, _, rfl⟩
 refine jv (.bool (!t88)) (V.not rfl) <| J.nil <| cc rfl h (fun hc92 h => ?_) fun hc92 h => ?_
 · refine cr <| ja (.string ⟨([63] : List UInt8).toArray⟩) rfl <| J.nil <| CJ.ret ?_
   obtain rfl := si h
   exact ⟨_, _, Res.one rfl rfl, ⟨([63] : List UInt8), rfl, rfl, rfl⟩, (Hp.le_refl _), fun w hs => (Sep.dropAt 0 rfl hs)⟩
 refine CJ.skip <| CJ.seq <| CJ.mix [Cl b85 23 [ii xa.1, ii xa.2.1, ii xa.2.2.1, ii xa.2.2.2.1, .bool xa.2.2.2.2]] [([0, 1, 4, 5, 9, 10, 14, 15], 2), ([3], 6), ([7, 8], 11), ([12, 13], 16)] [17, 18] [] mixO (by decide +kernel) ⟨0, rfl, trivial⟩ rfl rfl rfl <| JM.cons <| qv _ (V.fad Tryd.underlying23 rfl nz3 rfl) <| qv (ii xa.1) (V.ld rfl (Ld.sc sc3 (Rd.cl 0 rfl rfl))) <| qv _ (V.fad Tryd.underlying23 rfl nz3 rfl) ?_
 refine qv (ii xa.2.1) (V.ld rfl (Ld.sc sc3 (Rd.cl 0 rfl rfl))) <| qv _ (V.fad Tryd.underlying23 rfl nz3 rfl) <| qv (ii xa.2.2.1) (V.ld rfl (Ld.sc sc3 (Rd.cl 0 rfl rfl))) <| qv _ (V.fad Tryd.underlying23 rfl nz3 rfl) <| qv (ii xa.2.2.2.1) (V.ld rfl (Ld.sc sc3 (Rd.cl 0 rfl rfl))) <| JQ.nil ?_
 obtain ⟨r129, hr130, h⟩ := ob h
 refine JA.op rfl (A.call (L1 := []) Tryd.call24 rfl (ref01_Text_ok hr130) rfl rfl) ?_
 rintro _ _ _ ⟨v132, _, rfl, ⟨⟨s131, rfl, rfl, rfl⟩, rfl⟩, _, rfl⟩
 refine ⟨fun w hs => Hold.sub (Hp.le_refl _) ⟨0, rfl, trivial⟩ hs, ?_⟩
 refine JM.cons ?_
 obtain ⟨z135, hz136, h⟩ := ob h
 refine qv (.string ⟨z135.toArray⟩) (V.cat rfl rfl hz136) <| JQ.nil ?_
 obtain ⟨r137, hr138, h⟩ := ob h
 refine JA.op rfl (A.call (L1 := []) Tryd.call24 rfl (ref01_Text_ok hr138) rfl rfl) ?_
 rintro _ _ _ ⟨v140, _, rfl, ⟨⟨s139, rfl, rfl, rfl⟩, rfl⟩, _, rfl⟩
 refine ⟨fun w hs => Hold.sub (Hp.le_refl _) ⟨0, rfl, trivial⟩ hs, ?_⟩
 refine JM.cons ?_
 obtain ⟨z143, hz144, h⟩ := ob h
 refine qv (.string ⟨z143.toArray⟩) (V.cat rfl rfl hz144) ?_
 obtain ⟨z145, hz146, h⟩ := ob h
 refine qv (.string ⟨z145.toArray⟩) (V.cat rfl rfl hz146) <| JQ.nil ?_
 obtain ⟨r147, hr148, h⟩ := ob h
 refine JA.op rfl (A.call (L1 := []) Tryd.call9 rfl (ref26_Name_ok hr148) rfl rfl) ?_
 rintro _ _ _ ⟨v150, _, rfl, ⟨⟨s149, rfl, rfl, rfl⟩, rfl⟩, _, rfl⟩
 refine ⟨fun w hs => Hold.sub (Hp.le_refl _) ⟨0, rfl, trivial⟩ hs, ?_⟩
 refine JM.cons ?_
 obtain ⟨z153, hz154, h⟩ := ob h
 refine qv (.string ⟨z153.toArray⟩) (V.cat rfl rfl hz154) ?_
 obtain ⟨z155, hz156, h⟩ := ob h
 refine qv (.string ⟨z155.toArray⟩) (V.cat rfl rfl hz156) <| JQ.nil ?_
 obtain ⟨r157, hr158, h⟩ := ob h
 refine JA.op rfl (A.call (L1 := []) Tryd.call24 rfl (ref01_Text_ok hr158) rfl rfl) ?_
 rintro _ _ _ ⟨v160, _, rfl, ⟨⟨s159, rfl, rfl, rfl⟩, rfl⟩, _, rfl⟩
 refine ⟨fun w hs => Hold.sub (Hp.le_refl _) ⟨0, rfl, trivial⟩ hs, ?_⟩
 refine JM.nil ?_
 obtain ⟨z163, hz164, h⟩ := ob h
 refine qv (.string ⟨z163.toArray⟩) (V.cat rfl rfl hz164) <| qa (.string ⟨z163.toArray⟩) rfl <| JQ.nil <| J.nil <| CJ.seq <| CJ.seq <| CJ.region ?_
 refine jv _ (V.fad Tryd.underlying23 rfl nz4 rfl) <| jv (.bool xa.2.2.2.2) (V.ld rfl (Ld.sc sc4 (Rd.cl 0 rfl rfl))) <| J.nil <| cc rfl h (fun hc165 h => ?_) fun hc165 h => ?_
 · refine cr <| jm (.string ⟨z163.toArray⟩) rfl ?_
   obtain ⟨z166, hz167, h⟩ := ob h
   refine jv (.string ⟨z166.toArray⟩) (V.cat rfl rfl hz167) <| ja (.string ⟨z166.toArray⟩) rfl <| J.nil <| CJ.ret ?_
   obtain rfl := si h
   exact ⟨_, _, Res.one rfl rfl, ⟨z166, rfl, rfl, rfl⟩, (Hp.le_refl _), fun w hs => (Sep.dropAt 0 rfl hs)⟩
 refine CJ.skip <| cr <| jm (.string ⟨z163.toArray⟩) rfl <| ja (.string ⟨z163.toArray⟩) rfl <| J.nil <| CJ.ret ?_
 obtain rfl := si h
 exact ⟨_, _, Res.one rfl rfl, ⟨z163, rfl, rfl, rfl⟩, (Hp.le_refl _), fun w hs => (Sep.dropAt 0 rfl hs)⟩

noncomputable def fn_numeral_Pair (xa : (Int × Int)) : Option (List UInt8) :=
  cond ((decide (xa.1 < 0)) || (decide (xa.2 < 0))) (some (([] : List UInt8))) ((fn_numeral_Text xa.1).bind fun s62 => (app s62 ([58] : List UInt8)).bind fun z66 => (fn_numeral_Text xa.2).bind fun s70 => (app z66 s70).bind fun z74 => some (z74))
set_option maxRecDepth 100000 in
set_option maxHeartbeats 4000000 in
theorem numeral_Pair_ok {K : Hp} {xa : (Int × Int)}   {r : List UInt8} (h : fn_numeral_Pair xa = some r) :
    Tr Tryd.prog 25 #[.agg #[ii xa.1, ii xa.2]] K [] (fun v K' L' => (∃ (s38 : List UInt8), s38 = r ∧ .string ⟨s38.toArray⟩ = v ∧ L' = []) ∧ K = K') := by
 refine Tr.k <| Tr.of Tryd.func25 rfl Tryd.ntmps25 rfl fun E F => ?_
 unfold fn_numeral_Pair at h
 refine cr <| jbx [ii xa.1, ii xa.2] rfl rfl fun b39 => ja (.string ⟨([] : List UInt8).toArray⟩) rfl <| J.nil <| CJ.seq <| CJ.seq ?_
 refine CJ.region <| jv _ (V.fad Tryd.underlying47 rfl nz3 rfl) <| jv (ii xa.1) (V.ld rfl (Ld.sc sc3 (Rd.cl 0 rfl rfl))) <| jv (.bool (decide (xa.1 < 0))) (V.lss rfl rfl) <| jm (.bool (decide (xa.1 < 0))) rfl <| J.cut 4 <| jmeet [(10, .bool ((decide (xa.1 < 0)) || (decide (xa.2 < 0)))), (1, .pointer (some ⟨b39, 0, none⟩))] ?_ ?_
 · rcases bt (decide (xa.1 < 0)) with hc42 | hc42
   · refine J.skip rfl rfl rfl rfl hc42 <| J.skip rfl rfl rfl rfl hc42 <| J.skip rfl rfl rfl rfl hc42 <| jv (.bool true) (V.pickT rfl hc42 rfl) <| J.nil ?_
     exact ⟨rfl, ⟨(by simp only [hc42]; rfl), rfl, trivial⟩, rfl, rfl⟩
   refine J.run rfl rfl rfl hc42 <| jv _ (V.fad Tryd.underlying47 rfl nz3 rfl) <| J.run rfl rfl rfl hc42 <| jv (ii xa.2) (V.ld rfl (Ld.sc sc3 (Rd.cl 0 rfl rfl))) <| J.run rfl rfl rfl hc42 <| jv (.bool (decide (xa.2 < 0))) (V.lss rfl rfl) <| jv (.bool (decide (xa.2 < 0))) (V.pickF rfl hc42 rfl) ?_
   refine J.nil ?_
   exact ⟨rfl, ⟨(by simp only [hc42]; rfl), rfl, trivial⟩, rfl, rfl⟩
 intro ρ
 refine J.nil <| cc rfl h (fun hc43 h => ?_) fun hc43 h => ?_
 · refine cr <| ja (.string ⟨([] : List UInt8).toArray⟩) rfl <| J.nil <| CJ.ret ?_
   obtain rfl := si h
   exact ⟨_, _, Res.one rfl rfl, ⟨([] : List UInt8), rfl, rfl, rfl⟩, (Hp.le_refl _), fun w hs => (Sep.dropAt 0 rfl hs)⟩
 refine CJ.skip <| CJ.seq <| CJ.mix [Cl b39 47 [ii xa.1, ii xa.2]] [([0, 1, 4, 5], 2), ([3], 6)] [7, 8] [] mixO (by decide +kernel) ⟨0, rfl, trivial⟩ rfl rfl rfl <| JM.cons <| qv _ (V.fad Tryd.underlying47 rfl nz3 rfl) <| qv (ii xa.1) (V.ld rfl (Ld.sc sc3 (Rd.cl 0 rfl rfl))) <| qv _ (V.fad Tryd.underlying47 rfl nz3 rfl) ?_
 refine qv (ii xa.2) (V.ld rfl (Ld.sc sc3 (Rd.cl 0 rfl rfl))) <| JQ.nil ?_
 obtain ⟨r60, hr61, h⟩ := ob h
 refine JA.op rfl (A.call (L1 := []) Tryd.call22 rfl (numeral_Text_ok hr61) rfl rfl) ?_
 rintro _ _ _ ⟨v63, _, rfl, ⟨⟨s62, rfl, rfl, rfl⟩, rfl⟩, _, rfl⟩
 refine ⟨fun w hs => Hold.sub (Hp.le_refl _) ⟨0, rfl, trivial⟩ hs, ?_⟩
 refine JM.cons ?_
 obtain ⟨z66, hz67, h⟩ := ob h
 refine qv (.string ⟨z66.toArray⟩) (V.cat rfl rfl hz67) <| JQ.nil ?_
 obtain ⟨r68, hr69, h⟩ := ob h
 refine JA.op rfl (A.call (L1 := []) Tryd.call22 rfl (numeral_Text_ok hr69) rfl rfl) ?_
 rintro _ _ _ ⟨v71, _, rfl, ⟨⟨s70, rfl, rfl, rfl⟩, rfl⟩, _, rfl⟩
 refine ⟨fun w hs => Hold.sub (Hp.le_refl _) ⟨0, rfl, trivial⟩ hs, ?_⟩
 refine JM.nil ?_
 obtain ⟨z74, hz75, h⟩ := ob h
 refine qv (.string ⟨z74.toArray⟩) (V.cat rfl rfl hz75) <| qa (.string ⟨z74.toArray⟩) rfl <| JQ.nil <| J.nil <| CJ.ret ?_
 obtain rfl := si h
 exact ⟨_, _, Res.one rfl rfl, ⟨z74, rfl, rfl, rfl⟩, (Hp.le_refl _), fun w hs => (Sep.dropAt 0 rfl hs)⟩

noncomputable def fn_prov_Edge (xa : (Int × Int × (Int × Int × Int × Int × Bool))) : Option (List UInt8) :=
  (fn_numeral_Pair (xa.1, xa.2.1)).bind fun s54 => (app s54 ([32, 97, 116, 32] : List UInt8)).bind fun z58 => (fn_prov_Text (xa.2.2.1, xa.2.2.2.1, xa.2.2.2.2.1, xa.2.2.2.2.2.1, xa.2.2.2.2.2.2)).bind fun s62 => (app z58 s62).bind fun z66 => some (z66)
set_option maxRecDepth 100000 in
set_option maxHeartbeats 4000000 in
theorem prov_Edge_ok {K : Hp} {xa : (Int × Int × (Int × Int × Int × Int × Bool))}   {r : List UInt8} (h : fn_prov_Edge xa = some r) :
    Tr Tryd.prog 15 #[.agg #[ii xa.1, ii xa.2.1, ii xa.2.2.1, ii xa.2.2.2.1, ii xa.2.2.2.2.1, ii xa.2.2.2.2.2.1, .bool xa.2.2.2.2.2.2]] K [] (fun v K' L' => (∃ (s34 : List UInt8), s34 = r ∧ .string ⟨s34.toArray⟩ = v ∧ L' = []) ∧ K = K') := by
 refine Tr.k <| Tr.of Tryd.func15 rfl Tryd.ntmps15 rfl fun E F => ?_
 unfold fn_prov_Edge at h
 refine cr <| jbx [ii xa.1, ii xa.2.1, ii xa.2.2.1, ii xa.2.2.2.1, ii xa.2.2.2.2.1, ii xa.2.2.2.2.2.1, .bool xa.2.2.2.2.2.2] rfl rfl fun b35 => ja (.string ⟨([] : List UInt8).toArray⟩) rfl <| J.nil <| CJ.seq <| CJ.mix [Cl b35 25 [ii xa.1, ii xa.2.1, ii xa.2.2.1, ii xa.2.2.2.1, ii xa.2.2.2.2.1, ii xa.2.2.2.2.2.1, .bool xa.2.2.2.2.2.2]] [([0, 1, 2, 3, 4, 7, 8], 5), ([6], 9)] [10, 11] [] mixO (by decide +kernel) ⟨0, rfl, trivial⟩ rfl rfl rfl ?_
 refine JM.cons <| qv _ (V.fad Tryd.underlying25 rfl nz3 rfl) <| qv (ii xa.1) (V.ld rfl (Ld.sc sc3 (Rd.cl 0 rfl rfl))) <| qv _ (V.fad Tryd.underlying25 rfl nz3 rfl) <| qv (ii xa.2.1) (V.ld rfl (Ld.sc sc3 (Rd.cl 0 rfl rfl))) <| qv (.agg #[ii xa.1, ii xa.2.1]) (V.build inf47 places47 rfl rfl) <| qv _ (V.fad Tryd.underlying25 rfl nz23 rfl) ?_
 refine qv (.agg #[ii xa.2.2.1, ii xa.2.2.2.1, ii xa.2.2.2.2.1, ii xa.2.2.2.2.2.1, .bool xa.2.2.2.2.2.2]) (V.ld rfl (Ld.agg (cs := [ii xa.2.2.1, ii xa.2.2.2.1, ii xa.2.2.2.2.1, ii xa.2.2.2.2.2.1, .bool xa.2.2.2.2.2.2]) Tryd.underlying23 sz23 rfl (Rd.cls 0 2 rfl rfl))) <| JQ.nil ?_
 obtain ⟨r52, hr53, h⟩ := ob h
 refine JA.op rfl (A.call (L1 := []) Tryd.call25 rfl (numeral_Pair_ok hr53) rfl rfl) ?_
 rintro _ _ _ ⟨v55, _, rfl, ⟨⟨s54, rfl, rfl, rfl⟩, rfl⟩, _, rfl⟩
 refine ⟨fun w hs => Hold.sub (Hp.le_refl _) ⟨0, rfl, trivial⟩ hs, ?_⟩
 refine JM.cons ?_
 obtain ⟨z58, hz59, h⟩ := ob h
 refine qv (.string ⟨z58.toArray⟩) (V.cat rfl rfl hz59) <| JQ.nil ?_
 obtain ⟨r60, hr61, h⟩ := ob h
 refine JA.op rfl (A.call (L1 := []) Tryd.call13 rfl (prov_Text_ok hr61) rfl rfl) ?_
 rintro _ _ _ ⟨v63, _, rfl, ⟨⟨s62, rfl, rfl, rfl⟩, rfl⟩, _, rfl⟩
 refine ⟨fun w hs => Hold.sub (Hp.le_refl _) ⟨0, rfl, trivial⟩ hs, ?_⟩
 refine JM.nil ?_
 obtain ⟨z66, hz67, h⟩ := ob h
 refine qv (.string ⟨z66.toArray⟩) (V.cat rfl rfl hz67) <| qa (.string ⟨z66.toArray⟩) rfl <| JQ.nil <| J.nil <| CJ.ret ?_
 obtain rfl := si h
 exact ⟨_, _, Res.one rfl rfl, ⟨z66, rfl, rfl, rfl⟩, (Hp.le_refl _), fun w hs => (Sep.dropAt 0 rfl hs)⟩

noncomputable def fn_ref01_Pair (xa : (Int × Int)) : Option (List UInt8) :=
  cond ((decide (xa.1 < 0)) || (decide (xa.2 < 0))) (some (([] : List UInt8))) ((fn_ref01_Text xa.1).bind fun s62 => (app s62 ([58] : List UInt8)).bind fun z66 => (fn_ref01_Text xa.2).bind fun s70 => (app z66 s70).bind fun z74 => some (z74))
set_option maxRecDepth 100000 in
set_option maxHeartbeats 4000000 in
theorem ref01_Pair_ok {K : Hp} {xa : (Int × Int)}   {r : List UInt8} (h : fn_ref01_Pair xa = some r) :
    Tr Tryd.prog 26 #[.agg #[ii xa.1, ii xa.2]] K [] (fun v K' L' => (∃ (s38 : List UInt8), s38 = r ∧ .string ⟨s38.toArray⟩ = v ∧ L' = []) ∧ K = K') := by
 refine Tr.k <| Tr.of Tryd.func26 rfl Tryd.ntmps26 rfl fun E F => ?_
 unfold fn_ref01_Pair at h
 refine cr <| jbx [ii xa.1, ii xa.2] rfl rfl fun b39 => ja (.string ⟨([] : List UInt8).toArray⟩) rfl <| J.nil <| CJ.seq <| CJ.seq ?_
 refine CJ.region <| jv _ (V.fad Tryd.underlying47 rfl nz3 rfl) <| jv (ii xa.1) (V.ld rfl (Ld.sc sc3 (Rd.cl 0 rfl rfl))) <| jv (.bool (decide (xa.1 < 0))) (V.lss rfl rfl) <| jm (.bool (decide (xa.1 < 0))) rfl <| J.cut 4 <| jmeet [(10, .bool ((decide (xa.1 < 0)) || (decide (xa.2 < 0)))), (1, .pointer (some ⟨b39, 0, none⟩))] ?_ ?_
 · rcases bt (decide (xa.1 < 0)) with hc42 | hc42
   · refine J.skip rfl rfl rfl rfl hc42 <| J.skip rfl rfl rfl rfl hc42 <| J.skip rfl rfl rfl rfl hc42 <| jv (.bool true) (V.pickT rfl hc42 rfl) <| J.nil ?_
     exact ⟨rfl, ⟨(by simp only [hc42]; rfl), rfl, trivial⟩, rfl, rfl⟩
   refine J.run rfl rfl rfl hc42 <| jv _ (V.fad Tryd.underlying47 rfl nz3 rfl) <| J.run rfl rfl rfl hc42 <| jv (ii xa.2) (V.ld rfl (Ld.sc sc3 (Rd.cl 0 rfl rfl))) <| J.run rfl rfl rfl hc42 <| jv (.bool (decide (xa.2 < 0))) (V.lss rfl rfl) <| jv (.bool (decide (xa.2 < 0))) (V.pickF rfl hc42 rfl) ?_
   refine J.nil ?_
   exact ⟨rfl, ⟨(by simp only [hc42]; rfl), rfl, trivial⟩, rfl, rfl⟩
 intro ρ
 refine J.nil <| cc rfl h (fun hc43 h => ?_) fun hc43 h => ?_
 · refine cr <| ja (.string ⟨([] : List UInt8).toArray⟩) rfl <| J.nil <| CJ.ret ?_
   obtain rfl := si h
   exact ⟨_, _, Res.one rfl rfl, ⟨([] : List UInt8), rfl, rfl, rfl⟩, (Hp.le_refl _), fun w hs => (Sep.dropAt 0 rfl hs)⟩
 refine CJ.skip <| CJ.seq <| CJ.mix [Cl b39 47 [ii xa.1, ii xa.2]] [([0, 1, 4, 5], 2), ([3], 6)] [7, 8] [] mixO (by decide +kernel) ⟨0, rfl, trivial⟩ rfl rfl rfl <| JM.cons <| qv _ (V.fad Tryd.underlying47 rfl nz3 rfl) <| qv (ii xa.1) (V.ld rfl (Ld.sc sc3 (Rd.cl 0 rfl rfl))) <| qv _ (V.fad Tryd.underlying47 rfl nz3 rfl) ?_
 refine qv (ii xa.2) (V.ld rfl (Ld.sc sc3 (Rd.cl 0 rfl rfl))) <| JQ.nil ?_
 obtain ⟨r60, hr61, h⟩ := ob h
 refine JA.op rfl (A.call (L1 := []) Tryd.call24 rfl (ref01_Text_ok hr61) rfl rfl) ?_
 rintro _ _ _ ⟨v63, _, rfl, ⟨⟨s62, rfl, rfl, rfl⟩, rfl⟩, _, rfl⟩
 refine ⟨fun w hs => Hold.sub (Hp.le_refl _) ⟨0, rfl, trivial⟩ hs, ?_⟩
 refine JM.cons ?_
 obtain ⟨z66, hz67, h⟩ := ob h
 refine qv (.string ⟨z66.toArray⟩) (V.cat rfl rfl hz67) <| JQ.nil ?_
 obtain ⟨r68, hr69, h⟩ := ob h
 refine JA.op rfl (A.call (L1 := []) Tryd.call24 rfl (ref01_Text_ok hr69) rfl rfl) ?_
 rintro _ _ _ ⟨v71, _, rfl, ⟨⟨s70, rfl, rfl, rfl⟩, rfl⟩, _, rfl⟩
 refine ⟨fun w hs => Hold.sub (Hp.le_refl _) ⟨0, rfl, trivial⟩ hs, ?_⟩
 refine JM.nil ?_
 obtain ⟨z74, hz75, h⟩ := ob h
 refine qv (.string ⟨z74.toArray⟩) (V.cat rfl rfl hz75) <| qa (.string ⟨z74.toArray⟩) rfl <| JQ.nil <| J.nil <| CJ.ret ?_
 obtain rfl := si h
 exact ⟨_, _, Res.one rfl rfl, ⟨z74, rfl, rfl, rfl⟩, (Hp.le_refl _), fun w hs => (Sep.dropAt 0 rfl hs)⟩

noncomputable def fn_ref26_Edge (xa : (Int × Int × (Int × Int × Int × Int × Bool))) : Option (List UInt8) :=
  (fn_ref01_Pair (xa.1, xa.2.1)).bind fun s54 => (app s54 ([32, 97, 116, 32] : List UInt8)).bind fun z58 => (fn_ref26_Text (xa.2.2.1, xa.2.2.2.1, xa.2.2.2.2.1, xa.2.2.2.2.2.1, xa.2.2.2.2.2.2)).bind fun s62 => (app z58 s62).bind fun z66 => some (z66)
set_option maxRecDepth 100000 in
set_option maxHeartbeats 4000000 in
theorem ref26_Edge_ok {K : Hp} {xa : (Int × Int × (Int × Int × Int × Int × Bool))}   {r : List UInt8} (h : fn_ref26_Edge xa = some r) :
    Tr Tryd.prog 16 #[.agg #[ii xa.1, ii xa.2.1, ii xa.2.2.1, ii xa.2.2.2.1, ii xa.2.2.2.2.1, ii xa.2.2.2.2.2.1, .bool xa.2.2.2.2.2.2]] K [] (fun v K' L' => (∃ (s34 : List UInt8), s34 = r ∧ .string ⟨s34.toArray⟩ = v ∧ L' = []) ∧ K = K') := by
 refine Tr.k <| Tr.of Tryd.func16 rfl Tryd.ntmps16 rfl fun E F => ?_
 unfold fn_ref26_Edge at h
 refine cr <| jbx [ii xa.1, ii xa.2.1, ii xa.2.2.1, ii xa.2.2.2.1, ii xa.2.2.2.2.1, ii xa.2.2.2.2.2.1, .bool xa.2.2.2.2.2.2] rfl rfl fun b35 => ja (.string ⟨([] : List UInt8).toArray⟩) rfl <| J.nil <| CJ.seq <| CJ.mix [Cl b35 25 [ii xa.1, ii xa.2.1, ii xa.2.2.1, ii xa.2.2.2.1, ii xa.2.2.2.2.1, ii xa.2.2.2.2.2.1, .bool xa.2.2.2.2.2.2]] [([0, 1, 2, 3, 4, 7, 8], 5), ([6], 9)] [10, 11] [] mixO (by decide +kernel) ⟨0, rfl, trivial⟩ rfl rfl rfl ?_
 refine JM.cons <| qv _ (V.fad Tryd.underlying25 rfl nz3 rfl) <| qv (ii xa.1) (V.ld rfl (Ld.sc sc3 (Rd.cl 0 rfl rfl))) <| qv _ (V.fad Tryd.underlying25 rfl nz3 rfl) <| qv (ii xa.2.1) (V.ld rfl (Ld.sc sc3 (Rd.cl 0 rfl rfl))) <| qv (.agg #[ii xa.1, ii xa.2.1]) (V.build inf47 places47 rfl rfl) <| qv _ (V.fad Tryd.underlying25 rfl nz23 rfl) ?_
 refine qv (.agg #[ii xa.2.2.1, ii xa.2.2.2.1, ii xa.2.2.2.2.1, ii xa.2.2.2.2.2.1, .bool xa.2.2.2.2.2.2]) (V.ld rfl (Ld.agg (cs := [ii xa.2.2.1, ii xa.2.2.2.1, ii xa.2.2.2.2.1, ii xa.2.2.2.2.2.1, .bool xa.2.2.2.2.2.2]) Tryd.underlying23 sz23 rfl (Rd.cls 0 2 rfl rfl))) <| JQ.nil ?_
 obtain ⟨r52, hr53, h⟩ := ob h
 refine JA.op rfl (A.call (L1 := []) Tryd.call26 rfl (ref01_Pair_ok hr53) rfl rfl) ?_
 rintro _ _ _ ⟨v55, _, rfl, ⟨⟨s54, rfl, rfl, rfl⟩, rfl⟩, _, rfl⟩
 refine ⟨fun w hs => Hold.sub (Hp.le_refl _) ⟨0, rfl, trivial⟩ hs, ?_⟩
 refine JM.cons ?_
 obtain ⟨z58, hz59, h⟩ := ob h
 refine qv (.string ⟨z58.toArray⟩) (V.cat rfl rfl hz59) <| JQ.nil ?_
 obtain ⟨r60, hr61, h⟩ := ob h
 refine JA.op rfl (A.call (L1 := []) Tryd.call14 rfl (ref26_Text_ok hr61) rfl rfl) ?_
 rintro _ _ _ ⟨v63, _, rfl, ⟨⟨s62, rfl, rfl, rfl⟩, rfl⟩, _, rfl⟩
 refine ⟨fun w hs => Hold.sub (Hp.le_refl _) ⟨0, rfl, trivial⟩ hs, ?_⟩
 refine JM.nil ?_
 obtain ⟨z66, hz67, h⟩ := ob h
 refine qv (.string ⟨z66.toArray⟩) (V.cat rfl rfl hz67) <| qa (.string ⟨z66.toArray⟩) rfl <| JQ.nil <| J.nil <| CJ.ret ?_
 obtain rfl := si h
 exact ⟨_, _, Res.one rfl rfl, ⟨z66, rfl, rfl, rfl⟩, (Hp.le_refl _), fun w hs => (Sep.dropAt 0 rfl hs)⟩

noncomputable def fn_law26_ProvTells (xa : Int) (xb : (List UInt8)) (xc : (Int × Int × (Int × Int × Int × Int × Bool))) : Option Bool :=
  cond (decide (100 < (((xb.length : Nat) : Int)))) ((fn_law26_awake).bind fun t165 => some (t165)) ((fn_prov_Kind xb).bind fun (i171, t172) => (fn_prov_Name xa).bind fun s250 => (fn_ref26_Name xa).bind fun s256 => cond (decide (s250 = s256)) ((fn_ref26_Kind xb).bind fun i263 => cond (decide (i171 = i263)) ((fn_ref26_Kind xb).bind fun i270 => cond (t172 == (decide (0 < i270))) ((fn_prov_Right (xc.2.2.1, xc.2.2.2.1, xc.2.2.2.2.1, xc.2.2.2.2.2.1, xc.2.2.2.2.2.2)).bind fun t277 => (fn_ref26_Right (xc.2.2.1, xc.2.2.2.1, xc.2.2.2.2.1, xc.2.2.2.2.2.1, xc.2.2.2.2.2.2)).bind fun t283 => cond (t277 == t283) ((fn_prov_Text (xc.2.2.1, xc.2.2.2.1, xc.2.2.2.2.1, xc.2.2.2.2.2.1, xc.2.2.2.2.2.2)).bind fun s290 => (fn_ref26_Text (xc.2.2.1, xc.2.2.2.1, xc.2.2.2.2.1, xc.2.2.2.2.2.1, xc.2.2.2.2.2.2)).bind fun s296 => cond (decide (s290 = s296)) ((fn_prov_Edge ((xc.1, xc.2.1, (xc.2.2.1, xc.2.2.2.1, xc.2.2.2.2.1, xc.2.2.2.2.2.1, xc.2.2.2.2.2.2)))).bind fun s303 => (fn_ref26_Edge ((xc.1, xc.2.1, (xc.2.2.1, xc.2.2.2.1, xc.2.2.2.2.1, xc.2.2.2.2.2.1, xc.2.2.2.2.2.2)))).bind fun s309 => cond (decide (s303 = s309)) ((fn_law26_awake).bind fun t316 => some (t316)) (some (false))) (some (false))) (some (false))) (some (false))) (some (false))) (some (false)))
set_option maxRecDepth 100000 in
set_option maxHeartbeats 4000000 in
theorem law26_ProvTells_ok {K : Hp} {xa : Int} {xb : (List UInt8)} {xc : (Int × Int × (Int × Int × Int × Int × Bool))}  (fG : Gk K) {r : Bool} (h : fn_law26_ProvTells xa xb xc = some r) :
    Tr Tryd.prog 3 #[ii xa, .string ⟨xb.toArray⟩, .agg #[ii xc.1, ii xc.2.1, ii xc.2.2.1, ii xc.2.2.2.1, ii xc.2.2.2.2.1, ii xc.2.2.2.2.2.1, .bool xc.2.2.2.2.2.2]] K [] (fun v K' L' => (∃ (t160 : Bool), t160 = r ∧ .bool t160 = v ∧ L' = []) ∧ K = K') := by
 refine Tr.k <| Tr.of Tryd.func3 rfl Tryd.ntmps3 rfl fun E F => ?_
 unfold fn_law26_ProvTells at h
 refine cr <| jbx [ii xc.1, ii xc.2.1, ii xc.2.2.1, ii xc.2.2.2.1, ii xc.2.2.2.2.1, ii xc.2.2.2.2.2.1, .bool xc.2.2.2.2.2.2] rfl rfl fun b161 => ja (.bool false) rfl <| J.nil <| CJ.seq <| CJ.seq ?_
 refine CJ.region <| jm (.string ⟨xb.toArray⟩) rfl <| jv (ii (((xb.length : Nat) : Int))) (V.lens Tryd.underlying9 rfl) <| jv (.bool (decide (100 < (((xb.length : Nat) : Int))))) (V.gtr rfl rfl) <| J.nil <| cc rfl h (fun hc162 h => ?_) fun hc162 h => ?_
 · refine CJ.seq <| CJ.region ?_
   obtain ⟨r163, hr164, h⟩ := ob h
   refine J.op rfl (A.call (L1 := []) Tryd.call6 rfl (law26_awake_ok fG hr164) rfl rfl) ?_
   rintro _ _ _ ⟨v166, _, rfl, ⟨⟨t165, rfl, rfl, rfl⟩, rfl⟩, _, rfl⟩
   refine ja (.bool t165) rfl <| J.nil <| CJ.ret ?_
   obtain rfl := si h
   exact ⟨_, _, Res.one rfl rfl, ⟨t165, rfl, rfl, rfl⟩, (Hp.le_refl _), fun w hs => (Sep.dropAt 0 rfl hs)⟩
 refine CJ.skip <| cr <| jm (.string ⟨xb.toArray⟩) rfl ?_
 obtain ⟨r169, hr170, h⟩ := ob h
 refine J.op rfl (A.call (L1 := []) Tryd.call7 rfl (prov_Kind_ok hr170) rfl rfl) ?_
 rintro _ _ _ ⟨v173, _, rfl, ⟨⟨i171, t172, rfl, rfl, rfl⟩, rfl⟩, _, rfl⟩
 refine jm (.tuple #[ii i171, .bool t172]) rfl <| jx (ii i171) rfl rfl <| jx (.bool t172) rfl rfl <| ja (ii i171) rfl <| ja (.bool t172) rfl <| J.nil <| CJ.seq ?_
 refine CJ.mix [Cl b161 25 [ii xc.1, ii xc.2.1, ii xc.2.2.1, ii xc.2.2.2.1, ii xc.2.2.2.2.1, ii xc.2.2.2.2.2.1, .bool xc.2.2.2.2.2.2]] [([0, 2], 1), ([], 3), ([4, 5, 6, 7], 8), ([9, 10, 11, 12, 13], 14), ([15, 16, 17, 18, 19, 20, 22, 23], 21), ([], 24), ([25, 26, 27, 28, 29, 31, 32], 30), ([], 33), ([34, 35, 36, 37, 39], 38), ([], 40), ([41, 42, 43], 44)] [45, 46] [] mixO (by decide +kernel) ⟨0, rfl, trivial⟩ rfl rfl rfl <| JM.cons <| qm (ii xa) rfl <| qm (ii xa) rfl <| JQ.nil ?_
 obtain ⟨r248, hr249, h⟩ := ob h
 refine JA.op rfl (A.call (L1 := []) Tryd.call8 rfl (prov_Name_ok hr249) rfl rfl) ?_
 rintro _ _ _ ⟨v251, _, rfl, ⟨⟨s250, rfl, rfl, rfl⟩, rfl⟩, _, rfl⟩
 refine ⟨fun w hs => Hold.sub (Hp.le_refl _) ⟨0, rfl, trivial⟩ hs, ?_⟩
 refine JM.cons <| JQ.nil ?_
 obtain ⟨r254, hr255, h⟩ := ob h
 refine JA.op rfl (A.call (L1 := []) Tryd.call9 rfl (ref26_Name_ok hr255) rfl rfl) ?_
 rintro _ _ _ ⟨v257, _, rfl, ⟨⟨s256, rfl, rfl, rfl⟩, rfl⟩, _, rfl⟩
 refine ⟨fun w hs => Hold.sub (Hp.le_refl _) ⟨0, rfl, trivial⟩ hs, ?_⟩
 refine JM.cons <| qv (.bool (decide (s250 = s256))) (V.eqs rfl rfl) <| qm (.bool (decide (s250 = s256))) rfl ?_
 rcases bt (decide (s250 = s256)) with hc260 | hc260
 · have h := ct hc260 h
   refine JQ.run rfl rfl rfl hc260 <| qm (ii i171) rfl <| JQ.run rfl rfl rfl hc260 <| qm (.string ⟨xb.toArray⟩) rfl <| JQ.nil <| JA.run rfl rfl rfl hc260 ?_
   obtain ⟨r261, hr262, h⟩ := ob h
   refine JA.op rfl (A.call (L1 := []) Tryd.call10 rfl (ref26_Kind_ok hr262) rfl rfl) ?_
   rintro _ _ _ ⟨v264, _, rfl, ⟨⟨i263, rfl, rfl, rfl⟩, rfl⟩, _, rfl⟩
   refine ⟨fun w hs => Hold.sub (Hp.le_refl _) ⟨0, rfl, trivial⟩ hs, ?_⟩
   refine JM.cons <| JQ.run rfl rfl rfl hc260 <| qv (.bool (decide (i171 = i263))) (V.eql rfl rfl) <| qv (.bool (decide (i171 = i263))) (V.pickT rfl hc260 rfl) <| qm (.bool (decide (i171 = i263))) rfl ?_
   rcases bt (decide (i171 = i263)) with hc267 | hc267
   · have h := ct hc267 h
     refine JQ.run rfl rfl rfl hc267 <| qm (.bool t172) rfl <| JQ.run rfl rfl rfl hc267 <| qm (.string ⟨xb.toArray⟩) rfl <| JQ.nil <| JA.run rfl rfl rfl hc267 ?_
     obtain ⟨r268, hr269, h⟩ := ob h
     refine JA.op rfl (A.call (L1 := []) Tryd.call10 rfl (ref26_Kind_ok hr269) rfl rfl) ?_
     rintro _ _ _ ⟨v271, _, rfl, ⟨⟨i270, rfl, rfl, rfl⟩, rfl⟩, _, rfl⟩
     refine ⟨fun w hs => Hold.sub (Hp.le_refl _) ⟨0, rfl, trivial⟩ hs, ?_⟩
     refine JM.cons <| JQ.run rfl rfl rfl hc267 <| qv (.bool (decide (0 < i270))) (V.gtr rfl rfl) <| JQ.run rfl rfl rfl hc267 <| qv (.bool (t172 == (decide (0 < i270)))) (V.eqb Tryd.underlying4 rfl rfl) <| qv (.bool (t172 == (decide (0 < i270)))) (V.pickT rfl hc267 rfl) <| qm (.bool (t172 == (decide (0 < i270)))) rfl ?_
     rcases bt (t172 == (decide (0 < i270))) with hc274 | hc274
     · have h := ct hc274 h
       refine JQ.run rfl rfl rfl hc274 <| qv _ (V.fad Tryd.underlying25 rfl nz23 rfl) <| JQ.run rfl rfl rfl hc274 <| qv (.agg #[ii xc.2.2.1, ii xc.2.2.2.1, ii xc.2.2.2.2.1, ii xc.2.2.2.2.2.1, .bool xc.2.2.2.2.2.2]) (V.ld rfl (Ld.agg (cs := [ii xc.2.2.1, ii xc.2.2.2.1, ii xc.2.2.2.2.1, ii xc.2.2.2.2.2.1, .bool xc.2.2.2.2.2.2]) Tryd.underlying23 sz23 rfl (Rd.cls 0 2 rfl rfl))) <| JQ.run rfl rfl rfl hc274 <| qv _ (V.fad Tryd.underlying25 rfl nz23 rfl) <| JQ.run rfl rfl rfl hc274 ?_
       refine qv (.agg #[ii xc.2.2.1, ii xc.2.2.2.1, ii xc.2.2.2.2.1, ii xc.2.2.2.2.2.1, .bool xc.2.2.2.2.2.2]) (V.ld rfl (Ld.agg (cs := [ii xc.2.2.1, ii xc.2.2.2.1, ii xc.2.2.2.2.1, ii xc.2.2.2.2.2.1, .bool xc.2.2.2.2.2.2]) Tryd.underlying23 sz23 rfl (Rd.cls 0 2 rfl rfl))) <| JQ.nil <| JA.run rfl rfl rfl hc274 ?_
       obtain ⟨r275, hr276, h⟩ := ob h
       refine JA.op rfl (A.call (L1 := []) Tryd.call11 rfl (prov_Right_ok hr276) rfl rfl) ?_
       rintro _ _ _ ⟨v278, _, rfl, ⟨⟨t277, rfl, rfl, rfl⟩, rfl⟩, _, rfl⟩
       refine ⟨fun w hs => Hold.sub (Hp.le_refl _) ⟨0, rfl, trivial⟩ hs, ?_⟩
       refine JM.cons <| JQ.nil <| JA.run rfl rfl rfl hc274 ?_
       obtain ⟨r281, hr282, h⟩ := ob h
       refine JA.op rfl (A.call (L1 := []) Tryd.call12 rfl (ref26_Right_ok hr282) rfl rfl) ?_
       rintro _ _ _ ⟨v284, _, rfl, ⟨⟨t283, rfl, rfl, rfl⟩, rfl⟩, _, rfl⟩
       refine ⟨fun w hs => Hold.sub (Hp.le_refl _) ⟨0, rfl, trivial⟩ hs, ?_⟩
       refine JM.cons <| JQ.run rfl rfl rfl hc274 <| qv (.bool (t277 == t283)) (V.eqb Tryd.underlying4 rfl rfl) <| qv (.bool (t277 == t283)) (V.pickT rfl hc274 rfl) <| qm (.bool (t277 == t283)) rfl ?_
       rcases bt (t277 == t283) with hc287 | hc287
       · have h := ct hc287 h
         refine JQ.run rfl rfl rfl hc287 <| qv _ (V.fad Tryd.underlying25 rfl nz23 rfl) <| JQ.run rfl rfl rfl hc287 <| qv (.agg #[ii xc.2.2.1, ii xc.2.2.2.1, ii xc.2.2.2.2.1, ii xc.2.2.2.2.2.1, .bool xc.2.2.2.2.2.2]) (V.ld rfl (Ld.agg (cs := [ii xc.2.2.1, ii xc.2.2.2.1, ii xc.2.2.2.2.1, ii xc.2.2.2.2.2.1, .bool xc.2.2.2.2.2.2]) Tryd.underlying23 sz23 rfl (Rd.cls 0 2 rfl rfl))) <| JQ.run rfl rfl rfl hc287 <| qv _ (V.fad Tryd.underlying25 rfl nz23 rfl) <| JQ.run rfl rfl rfl hc287 ?_
         refine qv (.agg #[ii xc.2.2.1, ii xc.2.2.2.1, ii xc.2.2.2.2.1, ii xc.2.2.2.2.2.1, .bool xc.2.2.2.2.2.2]) (V.ld rfl (Ld.agg (cs := [ii xc.2.2.1, ii xc.2.2.2.1, ii xc.2.2.2.2.1, ii xc.2.2.2.2.2.1, .bool xc.2.2.2.2.2.2]) Tryd.underlying23 sz23 rfl (Rd.cls 0 2 rfl rfl))) <| JQ.nil <| JA.run rfl rfl rfl hc287 ?_
         obtain ⟨r288, hr289, h⟩ := ob h
         refine JA.op rfl (A.call (L1 := []) Tryd.call13 rfl (prov_Text_ok hr289) rfl rfl) ?_
         rintro _ _ _ ⟨v291, _, rfl, ⟨⟨s290, rfl, rfl, rfl⟩, rfl⟩, _, rfl⟩
         refine ⟨fun w hs => Hold.sub (Hp.le_refl _) ⟨0, rfl, trivial⟩ hs, ?_⟩
         refine JM.cons <| JQ.nil <| JA.run rfl rfl rfl hc287 ?_
         obtain ⟨r294, hr295, h⟩ := ob h
         refine JA.op rfl (A.call (L1 := []) Tryd.call14 rfl (ref26_Text_ok hr295) rfl rfl) ?_
         rintro _ _ _ ⟨v297, _, rfl, ⟨⟨s296, rfl, rfl, rfl⟩, rfl⟩, _, rfl⟩
         refine ⟨fun w hs => Hold.sub (Hp.le_refl _) ⟨0, rfl, trivial⟩ hs, ?_⟩
         refine JM.cons <| JQ.run rfl rfl rfl hc287 <| qv (.bool (decide (s290 = s296))) (V.eqs rfl rfl) <| qv (.bool (decide (s290 = s296))) (V.pickT rfl hc287 rfl) <| qm (.bool (decide (s290 = s296))) rfl ?_
         rcases bt (decide (s290 = s296)) with hc300 | hc300
         · have h := ct hc300 h
           refine JQ.run rfl rfl rfl hc300 <| qv (.agg #[ii xc.1, ii xc.2.1, ii xc.2.2.1, ii xc.2.2.2.1, ii xc.2.2.2.2.1, ii xc.2.2.2.2.2.1, .bool xc.2.2.2.2.2.2]) (V.ld rfl (Ld.agg (cs := [ii xc.1, ii xc.2.1, ii xc.2.2.1, ii xc.2.2.2.1, ii xc.2.2.2.2.1, ii xc.2.2.2.2.2.1, .bool xc.2.2.2.2.2.2]) Tryd.underlying25 sz25 rfl (Rd.cls 0 0 rfl rfl))) <| JQ.run rfl rfl rfl hc300 <| qv (.agg #[ii xc.1, ii xc.2.1, ii xc.2.2.1, ii xc.2.2.2.1, ii xc.2.2.2.2.1, ii xc.2.2.2.2.2.1, .bool xc.2.2.2.2.2.2]) (V.ld rfl (Ld.agg (cs := [ii xc.1, ii xc.2.1, ii xc.2.2.1, ii xc.2.2.2.1, ii xc.2.2.2.2.1, ii xc.2.2.2.2.2.1, .bool xc.2.2.2.2.2.2]) Tryd.underlying25 sz25 rfl (Rd.cls 0 0 rfl rfl))) <| JQ.nil <| JA.run rfl rfl rfl hc300 ?_
           obtain ⟨r301, hr302, h⟩ := ob h
           refine JA.op rfl (A.call (L1 := []) Tryd.call15 rfl (prov_Edge_ok hr302) rfl rfl) ?_
           rintro _ _ _ ⟨v304, _, rfl, ⟨⟨s303, rfl, rfl, rfl⟩, rfl⟩, _, rfl⟩
           refine ⟨fun w hs => Hold.sub (Hp.le_refl _) ⟨0, rfl, trivial⟩ hs, ?_⟩
           refine JM.cons <| JQ.nil <| JA.run rfl rfl rfl hc300 ?_
           obtain ⟨r307, hr308, h⟩ := ob h
           refine JA.op rfl (A.call (L1 := []) Tryd.call16 rfl (ref26_Edge_ok hr308) rfl rfl) ?_
           rintro _ _ _ ⟨v310, _, rfl, ⟨⟨s309, rfl, rfl, rfl⟩, rfl⟩, _, rfl⟩
           refine ⟨fun w hs => Hold.sub (Hp.le_refl _) ⟨0, rfl, trivial⟩ hs, ?_⟩
           refine JM.cons <| JQ.run rfl rfl rfl hc300 <| qv (.bool (decide (s303 = s309))) (V.eqs rfl rfl) <| qv (.bool (decide (s303 = s309))) (V.pickT rfl hc300 rfl) <| qm (.bool (decide (s303 = s309))) rfl <| JQ.nil ?_
           rcases bt (decide (s303 = s309)) with hc313 | hc313
           · have h := ct hc313 h
             refine JA.run rfl rfl rfl hc313 ?_
             obtain ⟨r314, hr315, h⟩ := ob h
             refine JA.op rfl (A.call (L1 := []) Tryd.call6 rfl (law26_awake_ok fG hr315) rfl rfl) ?_
             rintro _ _ _ ⟨v317, _, rfl, ⟨⟨t316, rfl, rfl, rfl⟩, rfl⟩, _, rfl⟩
             refine ⟨fun w hs => Hold.sub (Hp.le_refl _) ⟨0, rfl, trivial⟩ hs, ?_⟩
             refine JM.nil <| qv (.bool t316) (V.pickT rfl hc313 rfl) <| qa (.bool t316) rfl <| JQ.nil <| J.nil <| CJ.ret ?_
             obtain rfl := si h
             exact ⟨_, _, Res.one rfl rfl, ⟨t316, rfl, rfl, rfl⟩, (Hp.le_refl _), fun w hs => (Sep.dropAt 0 rfl hs)⟩
           have h := cf hc313 h
           refine JA.skip rfl rfl rfl rfl hc313 <| JM.nil <| qv (.bool false) (V.pickF rfl hc313 rfl) <| qa (.bool false) rfl <| JQ.nil <| J.nil <| CJ.ret ?_
           obtain rfl := si h
           exact ⟨_, _, Res.one rfl rfl, ⟨false, rfl, rfl, rfl⟩, (Hp.le_refl _), fun w hs => (Sep.dropAt 0 rfl hs)⟩
         have h := cf hc300 h
         refine JQ.skip rfl rfl rfl rfl hc300 <| JQ.skip rfl rfl rfl rfl hc300 <| JQ.nil <| JA.skip rfl rfl rfl rfl hc300 <| JM.cons <| JQ.nil <| JA.skip rfl rfl rfl rfl hc300 ?_
         refine JM.cons <| JQ.skip rfl rfl rfl rfl hc300 <| qv (.bool false) (V.pickF rfl hc300 rfl) <| qm (.bool false) rfl <| JQ.nil <| JA.skip rfl rfl rfl rfl rfl <| JM.nil ?_
         refine qv (.bool false) (V.pickF rfl rfl rfl) <| qa (.bool false) rfl <| JQ.nil <| J.nil <| CJ.ret ?_
         obtain rfl := si h
         exact ⟨_, _, Res.one rfl rfl, ⟨false, rfl, rfl, rfl⟩, (Hp.le_refl _), fun w hs => (Sep.dropAt 0 rfl hs)⟩
       have h := cf hc287 h
       refine JQ.skip rfl rfl rfl rfl hc287 <| JQ.skip rfl rfl rfl rfl hc287 <| JQ.skip rfl rfl rfl rfl hc287 <| JQ.skip rfl rfl rfl rfl hc287 <| JQ.nil <| JA.skip rfl rfl rfl rfl hc287 <| JM.cons ?_
       refine JQ.nil <| JA.skip rfl rfl rfl rfl hc287 <| JM.cons <| JQ.skip rfl rfl rfl rfl hc287 <| qv (.bool false) (V.pickF rfl hc287 rfl) <| qm (.bool false) rfl <| JQ.skip rfl rfl rfl rfl rfl ?_
       refine JQ.skip rfl rfl rfl rfl rfl <| JQ.nil <| JA.skip rfl rfl rfl rfl rfl <| JM.cons <| JQ.nil <| JA.skip rfl rfl rfl rfl rfl <| JM.cons ?_
       refine JQ.skip rfl rfl rfl rfl rfl <| qv (.bool false) (V.pickF rfl rfl rfl) <| qm (.bool false) rfl <| JQ.nil <| JA.skip rfl rfl rfl rfl rfl <| JM.nil <| qv (.bool false) (V.pickF rfl rfl rfl) ?_
       refine qa (.bool false) rfl <| JQ.nil <| J.nil <| CJ.ret ?_
       obtain rfl := si h
       exact ⟨_, _, Res.one rfl rfl, ⟨false, rfl, rfl, rfl⟩, (Hp.le_refl _), fun w hs => (Sep.dropAt 0 rfl hs)⟩
     have h := cf hc274 h
     refine JQ.skip rfl rfl rfl rfl hc274 <| JQ.skip rfl rfl rfl rfl hc274 <| JQ.skip rfl rfl rfl rfl hc274 <| JQ.skip rfl rfl rfl rfl hc274 <| JQ.nil <| JA.skip rfl rfl rfl rfl hc274 <| JM.cons ?_
     refine JQ.nil <| JA.skip rfl rfl rfl rfl hc274 <| JM.cons <| JQ.skip rfl rfl rfl rfl hc274 <| qv (.bool false) (V.pickF rfl hc274 rfl) <| qm (.bool false) rfl <| JQ.skip rfl rfl rfl rfl rfl ?_
     refine JQ.skip rfl rfl rfl rfl rfl <| JQ.skip rfl rfl rfl rfl rfl <| JQ.skip rfl rfl rfl rfl rfl <| JQ.nil <| JA.skip rfl rfl rfl rfl rfl <| JM.cons <| JQ.nil ?_
     refine JA.skip rfl rfl rfl rfl rfl <| JM.cons <| JQ.skip rfl rfl rfl rfl rfl <| qv (.bool false) (V.pickF rfl rfl rfl) <| qm (.bool false) rfl <| JQ.skip rfl rfl rfl rfl rfl <| JQ.skip rfl rfl rfl rfl rfl ?_
     refine JQ.nil <| JA.skip rfl rfl rfl rfl rfl <| JM.cons <| JQ.nil <| JA.skip rfl rfl rfl rfl rfl <| JM.cons <| JQ.skip rfl rfl rfl rfl rfl ?_
     refine qv (.bool false) (V.pickF rfl rfl rfl) <| qm (.bool false) rfl <| JQ.nil <| JA.skip rfl rfl rfl rfl rfl <| JM.nil <| qv (.bool false) (V.pickF rfl rfl rfl) <| qa (.bool false) rfl ?_
     refine JQ.nil <| J.nil <| CJ.ret ?_
     obtain rfl := si h
     exact ⟨_, _, Res.one rfl rfl, ⟨false, rfl, rfl, rfl⟩, (Hp.le_refl _), fun w hs => (Sep.dropAt 0 rfl hs)⟩
   have h := cf hc267 h
   refine JQ.skip rfl rfl rfl rfl hc267 <| JQ.skip rfl rfl rfl rfl hc267 <| JQ.nil <| JA.skip rfl rfl rfl rfl hc267 <| JM.cons <| JQ.skip rfl rfl rfl rfl hc267 <| JQ.skip rfl rfl rfl rfl hc267 ?_
   refine qv (.bool false) (V.pickF rfl hc267 rfl) <| qm (.bool false) rfl <| JQ.skip rfl rfl rfl rfl rfl <| JQ.skip rfl rfl rfl rfl rfl <| JQ.skip rfl rfl rfl rfl rfl <| JQ.skip rfl rfl rfl rfl rfl <| JQ.nil ?_
   refine JA.skip rfl rfl rfl rfl rfl <| JM.cons <| JQ.nil <| JA.skip rfl rfl rfl rfl rfl <| JM.cons <| JQ.skip rfl rfl rfl rfl rfl <| qv (.bool false) (V.pickF rfl rfl rfl) ?_
   refine qm (.bool false) rfl <| JQ.skip rfl rfl rfl rfl rfl <| JQ.skip rfl rfl rfl rfl rfl <| JQ.skip rfl rfl rfl rfl rfl <| JQ.skip rfl rfl rfl rfl rfl <| JQ.nil <| JA.skip rfl rfl rfl rfl rfl ?_
   refine JM.cons <| JQ.nil <| JA.skip rfl rfl rfl rfl rfl <| JM.cons <| JQ.skip rfl rfl rfl rfl rfl <| qv (.bool false) (V.pickF rfl rfl rfl) <| qm (.bool false) rfl ?_
   refine JQ.skip rfl rfl rfl rfl rfl <| JQ.skip rfl rfl rfl rfl rfl <| JQ.nil <| JA.skip rfl rfl rfl rfl rfl <| JM.cons <| JQ.nil <| JA.skip rfl rfl rfl rfl rfl ?_
   refine JM.cons <| JQ.skip rfl rfl rfl rfl rfl <| qv (.bool false) (V.pickF rfl rfl rfl) <| qm (.bool false) rfl <| JQ.nil <| JA.skip rfl rfl rfl rfl rfl <| JM.nil ?_
   refine qv (.bool false) (V.pickF rfl rfl rfl) <| qa (.bool false) rfl <| JQ.nil <| J.nil <| CJ.ret ?_
   obtain rfl := si h
   exact ⟨_, _, Res.one rfl rfl, ⟨false, rfl, rfl, rfl⟩, (Hp.le_refl _), fun w hs => (Sep.dropAt 0 rfl hs)⟩
 have h := cf hc260 h
 refine JQ.skip rfl rfl rfl rfl hc260 <| JQ.skip rfl rfl rfl rfl hc260 <| JQ.nil <| JA.skip rfl rfl rfl rfl hc260 <| JM.cons <| JQ.skip rfl rfl rfl rfl hc260 <| qv (.bool false) (V.pickF rfl hc260 rfl) ?_
 refine qm (.bool false) rfl <| JQ.skip rfl rfl rfl rfl rfl <| JQ.skip rfl rfl rfl rfl rfl <| JQ.nil <| JA.skip rfl rfl rfl rfl rfl <| JM.cons <| JQ.skip rfl rfl rfl rfl rfl ?_
 refine JQ.skip rfl rfl rfl rfl rfl <| qv (.bool false) (V.pickF rfl rfl rfl) <| qm (.bool false) rfl <| JQ.skip rfl rfl rfl rfl rfl <| JQ.skip rfl rfl rfl rfl rfl <| JQ.skip rfl rfl rfl rfl rfl <| JQ.skip rfl rfl rfl rfl rfl ?_
 refine JQ.nil <| JA.skip rfl rfl rfl rfl rfl <| JM.cons <| JQ.nil <| JA.skip rfl rfl rfl rfl rfl <| JM.cons <| JQ.skip rfl rfl rfl rfl rfl ?_
 refine qv (.bool false) (V.pickF rfl rfl rfl) <| qm (.bool false) rfl <| JQ.skip rfl rfl rfl rfl rfl <| JQ.skip rfl rfl rfl rfl rfl <| JQ.skip rfl rfl rfl rfl rfl <| JQ.skip rfl rfl rfl rfl rfl <| JQ.nil ?_
 refine JA.skip rfl rfl rfl rfl rfl <| JM.cons <| JQ.nil <| JA.skip rfl rfl rfl rfl rfl <| JM.cons <| JQ.skip rfl rfl rfl rfl rfl <| qv (.bool false) (V.pickF rfl rfl rfl) ?_
 refine qm (.bool false) rfl <| JQ.skip rfl rfl rfl rfl rfl <| JQ.skip rfl rfl rfl rfl rfl <| JQ.nil <| JA.skip rfl rfl rfl rfl rfl <| JM.cons <| JQ.nil ?_
 refine JA.skip rfl rfl rfl rfl rfl <| JM.cons <| JQ.skip rfl rfl rfl rfl rfl <| qv (.bool false) (V.pickF rfl rfl rfl) <| qm (.bool false) rfl <| JQ.nil <| JA.skip rfl rfl rfl rfl rfl ?_
 refine JM.nil <| qv (.bool false) (V.pickF rfl rfl rfl) <| qa (.bool false) rfl <| JQ.nil <| J.nil <| CJ.ret ?_
 obtain rfl := si h
 exact ⟨_, _, Res.one rfl rfl, ⟨false, rfl, rfl, rfl⟩, (Hp.le_refl _), fun w hs => (Sep.dropAt 0 rfl hs)⟩
noncomputable def fn_ref26_cut_l1 (xa : (List UInt8)) (xb : Int) : ((List (List UInt8)) × Int × Int) → Option (((List (List UInt8)) × Int × Int) ⊕ (List (List UInt8))) := fun ((l380, i385, i386) : ((List (List UInt8)) × Int × Int)) => cond (decide (i386 ≤ (((xa.length : Nat) : Int)))) ((cond (decide (i386 = (((xa.length : Nat) : Int)))) (some (true)) ((getI xa i386).bind fun x435 => some (decide ((((x435.toNat : Nat) : Int)) = xb)))).bind fun t432 => cond (t432) ((subL xa i385 i386).bind fun y441 => (app l380 (([y441] : List (List UInt8)))).bind fun z446 => some (.inl ((z446, IntKind.wrap .i64 (i386 + 1), IntKind.wrap .i64 (i386 + 1))))) (some (.inl ((l380, i385, IntKind.wrap .i64 (i386 + 1)))))) (some (.inr (l380)))
noncomputable def fn_ref26_cut (xa : (List UInt8)) (xb : Int) : Option ((List (List UInt8))) :=
  (loop (fn_ref26_cut_l1 xa xb) ((([] : List (List UInt8)), 0, 0)) : Option ((List (List UInt8)))).bind fun l339 => some (l339)
set_option maxRecDepth 100000 in
set_option maxHeartbeats 4000000 in
theorem ref26_cut_ok {K : Hp} {xa : (List UInt8)} {xb : Int}   {r : (List (List UInt8))} (h : fn_ref26_cut xa xb = some r) :
    Tr Tryd.prog 30 #[.string ⟨xa.toArray⟩, .int .u8 xb] K [] (fun v K' L' => (∃ (l225 : (List (List UInt8))) (ad226 : Option Addr) (cp227 : Nat), l225 = r ∧ .slice ad226 l225.length cp227 = v ∧ L' = [Row Hp.nil 9 .str (.slice ad226 l225.length cp227) l225]) ∧ K = K') := by
 refine Tr.k <| Tr.of Tryd.func30 rfl Tryd.ntmps30 rfl fun E F => ?_
 unfold fn_ref26_cut at h
 refine cr <| ja (nos) rfl <| J.nil <| CJ.seq <| CJ.region ?_
 refine J.op rfl (A.lit (K0 := Hp.nil) (ty := .str) (xs := ([] : List (List UInt8))) Tryd.underlying43 inf9 rfl (by decide) rfl rfl rfl rfl rfl (by decide)) ?_
 rintro _ _ _ ⟨b230, rfl, rfl, rfl⟩
 have hn231 : ([] : List (List UInt8)) ≠ [] → ∃ g, (some ⟨b230, 0, none⟩ : Option Addr) = some ⟨g, 0, none⟩ := fun _ => ⟨b230, rfl⟩
 refine ja (.slice (some ⟨b230, 0, none⟩) ((([] : List (List UInt8))).length) 0) rfl <| J.nil <| cr <| ja (ii 0) rfl <| J.nil <| CJ.seq ?_
 refine cr <| ja (ii 0) rfl <| J.nil ?_
 obtain ⟨o344, ho345, h⟩ := ob h
 refine CJ.meetN (fun ρ K' L' => ∃ (l339 : (List (List UInt8))) (ad340 : Option Addr) (cp341 : Nat), l339 = o344 ∧ Fits [(5, .slice ad340 l339.length cp341)] ρ ∧ K = K' ∧ L' = Row Hp.nil 9 .str (.slice ad340 l339.length cp341) l339 :: F) ?_ ?_
 · refine CJ.block <| CJ.loop (fun s ρ K' L' => ∃ (l380 : (List (List UInt8))) (i385 : Int) (i386 : Int) (ad381 : Option Addr) (cp382 : Nat), (l380, i385, i386) = s ∧ Fits [(0, .string ⟨xa.toArray⟩), (1, .int .u8 xb), (5, .slice ad381 l380.length cp382), (6, ii i385), (7, ii i386)] ρ ∧ K = K' ∧ L' = Row Hp.nil 9 .str (.slice ad381 l380.length cp382) l380 :: F) ho345 ⟨([] : List (List UInt8)), 0, 0, (some ⟨b230, 0, none⟩), 0, rfl, ⟨rfl, rfl, rfl, rfl, rfl, trivial⟩, rfl, rfl⟩ ?_
   rintro s ρ _ _ r424 ⟨l380, i385, i386, ad381, cp382, rfl, hf422, rfl, rfl⟩ h421
   obtain ⟨ρ, rfl⟩ := hf422.ex
   refine CJ.wit Row.hn fun hn384 => CJ.seq <| cr <| jm (ii i386) rfl <| jm (.string ⟨xa.toArray⟩) rfl <| jv (ii (((xa.length : Nat) : Int))) (V.lens Tryd.underlying9 rfl) ?_
   refine jv (.bool (decide (i386 ≤ (((xa.length : Nat) : Int))))) (V.leq rfl rfl) <| J.nil <| cc rfl h421 (fun hc425 h421 => ?_) fun hc425 h421 => ?_
   · refine CJ.skip <| CJ.seq <| CJ.block <| cr <| jm (ii i386) rfl <| jm (.string ⟨xa.toArray⟩) rfl ?_
     refine jv (ii (((xa.length : Nat) : Int))) (V.lens Tryd.underlying9 rfl) <| jv (.bool (decide (i386 = (((xa.length : Nat) : Int))))) (V.eql rfl rfl) <| jm (.bool (decide (i386 = (((xa.length : Nat) : Int))))) rfl <| J.cut 6 ?_
     obtain ⟨t432, ht433, h421⟩ := ob h421
     refine jmeet [(25, .bool t432), (0, .string ⟨xa.toArray⟩), (1, .int .u8 xb), (5, .slice ad381 l380.length cp382), (6, ii i385), (7, ii i386)] ?_ ?_
     · rcases bt (decide (i386 = (((xa.length : Nat) : Int)))) with hc434 | hc434
       · have ht433 := ct hc434 ht433
         refine J.skip rfl rfl rfl rfl hc434 <| J.skip rfl rfl rfl rfl hc434 <| J.skip rfl rfl rfl rfl hc434 <| J.skip rfl rfl rfl rfl hc434 <| J.skip rfl rfl rfl rfl hc434 <| jv (.bool true) (V.pickT rfl hc434 rfl) <| J.nil ?_
         obtain rfl := si ht433
         exact ⟨rfl, ⟨rfl, rfl, rfl, rfl, rfl, rfl, trivial⟩, rfl, rfl⟩
       have ht433 := cf hc434 ht433
       refine J.run rfl rfl rfl hc434 <| jm (.string ⟨xa.toArray⟩) rfl <| J.run rfl rfl rfl hc434 <| jm (ii i386) rfl <| J.run rfl rfl rfl hc434 ?_
       obtain ⟨x435, hx436, ht433⟩ := ob ht433
       obtain ⟨p437, p438, p439⟩ := getI_some hx436
       refine jv (.int .u8 (((x435.toNat : Nat) : Int))) (V.ixs Tryd.underlying9 rfl rfl p437 p438) <| J.run rfl rfl rfl hc434 <| jm (.int .u8 xb) rfl <| J.run rfl rfl rfl hc434 <| jv (.bool (decide ((((x435.toNat : Nat) : Int)) = xb))) (V.eql rfl rfl) <| jv (.bool (decide ((((x435.toNat : Nat) : Int)) = xb))) (V.pickF rfl hc434 rfl) <| J.nil ?_
       obtain rfl := si ht433
       exact ⟨rfl, ⟨rfl, rfl, rfl, rfl, rfl, rfl, trivial⟩, rfl, rfl⟩
     intro ρ
     refine J.nil <| cc rfl h421 (fun hc440 h421 => ?_) fun hc440 h421 => ?_
     · refine cr <| jm (.slice ad381 l380.length cp382) rfl <| jm (.string ⟨xa.toArray⟩) rfl <| jm (ii i385) rfl <| jm (ii i386) rfl ?_
       obtain ⟨y441, hy442, h421⟩ := ob h421
       refine jv (.string ⟨y441.toArray⟩) (V.subs Tryd.underlying9 rfl (fun _ h => by cases h; exact ⟨_, rfl⟩) nofun (fun _ h => by cases h; exact ⟨_, rfl⟩) nofun hy442) ?_
       refine J.op rfl (A.lit (K0 := Hp.nil) (ty := .str) (xs := ([y441] : List (List UInt8))) Tryd.underlying43 inf9 rfl (by decide) rfl rfl rfl ⟨_, _, rfl, rfl, rfl⟩ rfl (by decide)) ?_
       rintro _ _ _ ⟨b443, rfl, rfl, rfl⟩
       have hn444 : ([y441] : List (List UInt8)) ≠ [] → ∃ g, (some ⟨b443, 0, none⟩ : Option Addr) = some ⟨g, 0, none⟩ := fun _ => ⟨b443, rfl⟩
       obtain ⟨z446, hz447, h421⟩ := ob h421
       refine J.front 1 rfl <| J.op rfl (A.appR (Kr := Hp.nil) Tryd.underlying43 inf9 rfl rfl (by decide) (by decide) rfl rfl (Els.flat rfl) (Els.flat rfl) hz447) ?_
       rintro _ _ _ ⟨v448, rfl, rfl, rfl⟩
       refine J.wit Row.form ?_
       rintro ⟨ad449, cp450, rfl, _, _, hn451⟩
       refine ja (.slice ad449 z446.length cp450) rfl <| J.nil <| CJ.region <| jm (ii i386) rfl <| jv (ii (IntKind.wrap .i64 (i386 + 1))) (V.add rfl rfl) <| ja (ii (IntKind.wrap .i64 (i386 + 1))) rfl <| J.nil ?_
       refine CJ.region <| jm (ii i386) rfl <| jv (ii (IntKind.wrap .i64 (i386 + 1))) (V.add rfl rfl) <| ja (ii (IntKind.wrap .i64 (i386 + 1))) rfl <| J.nil ?_
       obtain rfl := si h421
       exact ⟨rfl, ⟨z446, IntKind.wrap .i64 (i386 + 1), IntKind.wrap .i64 (i386 + 1), ad449, cp450, rfl, ⟨rfl, rfl, rfl, rfl, rfl, trivial⟩, rfl, rfl⟩⟩
     refine CJ.skip <| CJ.region <| jm (ii i386) rfl <| jv (ii (IntKind.wrap .i64 (i386 + 1))) (V.add rfl rfl) <| ja (ii (IntKind.wrap .i64 (i386 + 1))) rfl <| J.nil ?_
     obtain rfl := si h421
     exact ⟨rfl, ⟨l380, i385, IntKind.wrap .i64 (i386 + 1), ad381, cp382, rfl, ⟨rfl, rfl, rfl, rfl, rfl, trivial⟩, rfl, rfl⟩⟩
   refine CJ.exit ?_
   obtain rfl := si h421
   refine ⟨nofun, fun e => ?_⟩
   subst e
   exact ⟨rfl, ⟨l380, ad381, cp382, rfl, ⟨rfl, trivial⟩, rfl, rfl⟩⟩
 rintro ρ _ _ ⟨l339, ad340, cp341, rfl, hf452, rfl, rfl⟩
 obtain ⟨ρ, rfl⟩ := hf452.ex
 refine PJ.wit Row.hn fun hn343 => PJ.done <| cr <| jm (.slice ad340 l339.length cp341) rfl <| ja (.slice ad340 l339.length cp341) rfl <| J.nil ?_
 refine CJ.ret ?_
 obtain rfl := si h
 exact ⟨_, _, Res.one rfl rfl, ⟨l339, ad340, cp341, rfl, rfl, rfl⟩, (Hp.le_refl _), fun w hs => hs⟩
noncomputable def fn_ref01_Form_l1 (xa : (List UInt8)) : Int → Option (Int ⊕ (Unit ⊕ Bool)) := fun (i273 : Int) => cond (decide (i273 < (((xa.length : Nat) : Int)))) ((getI xa i273).bind fun x301 => (cond (decide ((((x301.toNat : Nat) : Int)) < 48)) (some (true)) ((getI xa i273).bind fun x315 => some (decide (57 < (((x315.toNat : Nat) : Int)))))).bind fun t312 => cond (t312) (some (.inr ((.inr (false))))) (some (.inl (IntKind.wrap .i64 (i273 + 1))))) (some (.inr ((.inl ()))))
noncomputable def fn_ref01_Form (xa : (List UInt8)) : Option Bool :=
  (loop (fn_ref01_Form_l1 xa) 0 : Option (Unit ⊕ Bool)).bind fun o => match o with | .inr r => some r | .inl () => (cond (decide ((((xa.length : Nat) : Int)) = 1)) (some (true)) ((cond (decide (1 < (((xa.length : Nat) : Int)))) ((getI xa 0).bind fun x351 => some (!decide ((((x351.toNat : Nat) : Int)) = 48))) (some (false))).bind fun t348 => some (t348))).bind fun t339 => some (t339)
set_option maxRecDepth 100000 in
set_option maxHeartbeats 4000000 in
theorem ref01_Form_ok {K : Hp} {xa : (List UInt8)}   {r : Bool} (h : fn_ref01_Form xa = some r) :
    Tr Tryd.prog 41 #[.string ⟨xa.toArray⟩] K [] (fun v K' L' => (∃ (t178 : Bool), t178 = r ∧ .bool t178 = v ∧ L' = []) ∧ K = K') := by
 refine Tr.k <| Tr.of Tryd.func41 rfl Tryd.ntmps41 rfl fun E F => ?_
 unfold fn_ref01_Form at h
 refine cr <| ja (.bool false) rfl <| J.nil <| CJ.seq <| CJ.seq <| CJ.region ?_
 refine ja (ii 0) rfl <| J.nil ?_
 obtain ⟨o249, ho250, h⟩ := ob h
 refine CJ.joinN (o := o249) (fun s ρ K' L' => () = s ∧ Fits [(0, .string ⟨xa.toArray⟩)] ρ ∧ K = K' ∧ F = L') ?_ ?_
 · refine CJ.block <| CJ.loop (fun s ρ K' L' => ∃ (i273 : Int), i273 = s ∧ Fits [(0, .string ⟨xa.toArray⟩), (3, ii i273)] ρ ∧ K = K' ∧ F = L') ho250 ⟨0, rfl, ⟨rfl, rfl, trivial⟩, rfl, rfl⟩ ?_
   rintro s ρ _ _ r299 ⟨i273, rfl, hf297, rfl, rfl⟩ h296
   obtain ⟨ρ, rfl⟩ := hf297.ex
   refine CJ.seq <| cr <| jm (ii i273) rfl <| jm (.string ⟨xa.toArray⟩) rfl <| jv (ii (((xa.length : Nat) : Int))) (V.lens Tryd.underlying9 rfl) <| jv (.bool (decide (i273 < (((xa.length : Nat) : Int))))) (V.lss rfl rfl) ?_
   refine J.nil <| cc rfl h296 (fun hc300 h296 => ?_) fun hc300 h296 => ?_
   · refine CJ.skip <| CJ.seq <| CJ.block <| cr <| jm (.string ⟨xa.toArray⟩) rfl <| jm (ii i273) rfl ?_
     obtain ⟨x301, hx302, h296⟩ := ob h296
     obtain ⟨p303, p304, p305⟩ := getI_some hx302
     refine jv (.int .u8 (((x301.toNat : Nat) : Int))) (V.ixs Tryd.underlying9 rfl rfl p303 p304) <| jv (.bool (decide ((((x301.toNat : Nat) : Int)) < 48))) (V.lss rfl rfl) <| jm (.bool (decide ((((x301.toNat : Nat) : Int)) < 48))) rfl <| J.cut 5 ?_
     obtain ⟨t312, ht313, h296⟩ := ob h296
     refine jmeet [(19, .bool t312), (0, .string ⟨xa.toArray⟩), (3, ii i273)] ?_ ?_
     · rcases bt (decide ((((x301.toNat : Nat) : Int)) < 48)) with hc314 | hc314
       · have ht313 := ct hc314 ht313
         refine J.skip rfl rfl rfl rfl hc314 <| J.skip rfl rfl rfl rfl hc314 <| J.skip rfl rfl rfl rfl hc314 <| J.skip rfl rfl rfl rfl hc314 <| jv (.bool true) (V.pickT rfl hc314 rfl) <| J.nil ?_
         obtain rfl := si ht313
         exact ⟨rfl, ⟨rfl, rfl, rfl, trivial⟩, rfl, rfl⟩
       have ht313 := cf hc314 ht313
       refine J.run rfl rfl rfl hc314 <| jm (.string ⟨xa.toArray⟩) rfl <| J.run rfl rfl rfl hc314 <| jm (ii i273) rfl <| J.run rfl rfl rfl hc314 ?_
       obtain ⟨x315, hx316, ht313⟩ := ob ht313
       obtain ⟨p317, p318, p319⟩ := getI_some hx316
       refine jv (.int .u8 (((x315.toNat : Nat) : Int))) (V.ixs Tryd.underlying9 rfl rfl p317 p318) <| J.run rfl rfl rfl hc314 <| jv (.bool (decide (57 < (((x315.toNat : Nat) : Int))))) (V.gtr rfl rfl) <| jv (.bool (decide (57 < (((x315.toNat : Nat) : Int))))) (V.pickF rfl hc314 rfl) <| J.nil ?_
       obtain rfl := si ht313
       exact ⟨rfl, ⟨rfl, rfl, rfl, trivial⟩, rfl, rfl⟩
     intro ρ
     refine J.nil <| cc rfl h296 (fun hc320 h296 => ?_) fun hc320 h296 => ?_
     · refine cr <| ja (.bool false) rfl <| J.nil <| CJ.ret ?_
       obtain rfl := si h296
       refine ⟨nofun, fun e => ?_⟩
       subst e
       refine .inr ⟨nofun, ?_⟩
       obtain rfl := si h
       exact ⟨_, _, Res.one rfl rfl, ⟨false, rfl, rfl, rfl⟩, (Hp.le_refl _), fun w hs => hs⟩
     refine CJ.skip <| CJ.region <| jm (ii i273) rfl <| jv (ii (IntKind.wrap .i64 (i273 + 1))) (V.add rfl rfl) <| ja (ii (IntKind.wrap .i64 (i273 + 1))) rfl <| J.nil ?_
     obtain rfl := si h296
     exact ⟨rfl, ⟨IntKind.wrap .i64 (i273 + 1), rfl, ⟨rfl, rfl, trivial⟩, rfl, rfl⟩⟩
   refine CJ.exit ?_
   obtain rfl := si h296
   refine ⟨nofun, fun e => ?_⟩
   subst e
   exact .inl ⟨rfl, _, rfl, ⟨rfl, ⟨rfl, trivial⟩, rfl, rfl⟩⟩
 rintro s ρ _ _ ho321 ⟨rfl, hf322, rfl, rfl⟩
 subst ho321
 obtain ⟨ρ, rfl⟩ := hf322.ex
 refine PJ.done <| cr <| jm (.string ⟨xa.toArray⟩) rfl <| jv (ii (((xa.length : Nat) : Int))) (V.lens Tryd.underlying9 rfl) <| jv (.bool (decide ((((xa.length : Nat) : Int)) = 1))) (V.eql rfl rfl) <| jm (.bool (decide ((((xa.length : Nat) : Int)) = 1))) rfl ?_
 refine J.cut 9 ?_
 obtain ⟨t339, ht340, h⟩ := ob h
 refine jmeet [(32, .bool t339)] ?_ ?_
 · rcases bt (decide ((((xa.length : Nat) : Int)) = 1)) with hc341 | hc341
   · have ht340 := ct hc341 ht340
     refine J.skip rfl rfl rfl rfl hc341 <| J.skip rfl rfl rfl rfl hc341 <| J.skip rfl rfl rfl rfl hc341 <| J.skip rfl rfl rfl rfl hc341 <| J.skipu rfl rfl rfl rfl <| J.skipu rfl rfl rfl rfl <| J.skipu rfl rfl rfl rfl ?_
     refine J.skip rfl rfl rfl rfl hc341 <| jv (.bool true) (V.pickT rfl hc341 rfl) <| J.nil ?_
     obtain rfl := si ht340
     exact ⟨rfl, ⟨rfl, trivial⟩, rfl, rfl⟩
   have ht340 := cf hc341 ht340
   refine J.run rfl rfl rfl hc341 <| jm (.string ⟨xa.toArray⟩) rfl <| J.run rfl rfl rfl hc341 <| jv (ii (((xa.length : Nat) : Int))) (V.lens Tryd.underlying9 rfl) <| J.run rfl rfl rfl hc341 <| jv (.bool (decide (1 < (((xa.length : Nat) : Int))))) (V.gtr rfl rfl) <| J.run rfl rfl rfl hc341 ?_
   refine jm (.bool (decide (1 < (((xa.length : Nat) : Int))))) rfl <| J.cut 4 ?_
   obtain ⟨t348, ht349, ht340⟩ := ob ht340
   refine jmeet [(31, .bool t348), (23, .bool (decide ((((xa.length : Nat) : Int)) = 1)))] ?_ ?_
   · rcases bt (decide (1 < (((xa.length : Nat) : Int)))) with hc350 | hc350
     · have ht349 := ct hc350 ht349
       refine J.run rfl rfl rfl hc350 <| jm (.string ⟨xa.toArray⟩) rfl <| J.run rfl rfl rfl hc350 ?_
       obtain ⟨x351, hx352, ht349⟩ := ob ht349
       obtain ⟨p353, p354, p355⟩ := getI_some hx352
       refine jv (.int .u8 (((x351.toNat : Nat) : Int))) (V.ixs Tryd.underlying9 rfl rfl p353 p354) <| J.run rfl rfl rfl hc350 <| jv (.bool (!decide ((((x351.toNat : Nat) : Int)) = 48))) (V.neq rfl rfl) <| J.run rfl rfl rfl hc341 <| jv (.bool (!decide ((((x351.toNat : Nat) : Int)) = 48))) (V.pickT rfl hc350 rfl) <| J.nil ?_
       obtain rfl := si ht349
       exact ⟨rfl, ⟨rfl, rfl, trivial⟩, rfl, rfl⟩
     have ht349 := cf hc350 ht349
     refine J.skip rfl rfl rfl rfl hc350 <| J.skip rfl rfl rfl rfl hc350 <| J.skip rfl rfl rfl rfl hc350 <| J.run rfl rfl rfl hc341 <| jv (.bool false) (V.pickF rfl hc350 rfl) <| J.nil ?_
     obtain rfl := si ht349
     exact ⟨rfl, ⟨rfl, rfl, trivial⟩, rfl, rfl⟩
   intro ρ
   refine jv (.bool t348) (V.pickF rfl hc341 rfl) <| J.nil ?_
   obtain rfl := si ht340
   exact ⟨rfl, ⟨rfl, trivial⟩, rfl, rfl⟩
 intro ρ
 refine ja (.bool t339) rfl <| J.nil <| CJ.ret ?_
 obtain rfl := si h
 exact ⟨_, _, Res.one rfl rfl, ⟨t339, rfl, rfl, rfl⟩, (Hp.le_refl _), fun w hs => hs⟩
noncomputable def fn_ref01_Parse_l1 (xa : (List UInt8)) : (Int × Int) → Option ((Int × Int) ⊕ (Int ⊕ (Int × Int))) := fun ((i219, i220) : (Int × Int)) => cond (decide (i220 < (((xa.length : Nat) : Int)))) ((getI xa i220).bind fun x244 => cond ((decide (922337203685477580 < i219)) || ((decide (i219 = 922337203685477580)) && (decide (7 < (IntKind.wrap .i64 (IntKind.wrap .u8 ((((x244.toNat : Nat) : Int)) - 48))))))) (some (.inr ((.inr ((0, 5)))))) (some (.inl ((IntKind.wrap .i64 ((IntKind.wrap .i64 (i219 * 10)) + (IntKind.wrap .i64 (IntKind.wrap .u8 ((((x244.toNat : Nat) : Int)) - 48)))), IntKind.wrap .i64 (i220 + 1)))))) (some (.inr (.inl i219)))
noncomputable def fn_ref01_Parse (xa : (List UInt8)) (xb : Int) : Option (Int × Int) :=
  (fn_ref01_Form xa).bind fun t135 => cond (!t135) (some ((0, 3))) ((loop (fn_ref01_Parse_l1 xa) (0, 0) : Option (Int ⊕ (Int × Int))).bind fun o => match o with | .inr r => some r | .inl i198 => cond (decide (xb < i198)) (some ((0, 5))) (some ((i198, 0))))
set_option maxRecDepth 100000 in
set_option maxHeartbeats 4000000 in
theorem ref01_Parse_ok {K : Hp} {xa : (List UInt8)} {xb : Int}   {r : (Int × Int)} (h : fn_ref01_Parse xa xb = some r) :
    Tr Tryd.prog 31 #[.string ⟨xa.toArray⟩, ii xb] K [] (fun v K' L' => (∃ (i131 : Int) (i132 : Int), (i131, i132) = r ∧ .tuple #[ii i131, ii i132] = v ∧ L' = []) ∧ K = K') := by
 refine Tr.k <| Tr.of Tryd.func31 rfl Tryd.ntmps31 rfl fun E F => ?_
 unfold fn_ref01_Parse at h
 refine cr <| ja (ii 0) rfl <| ja (ii 0) rfl <| J.nil <| CJ.seq <| CJ.seq ?_
 refine CJ.region <| jm (.string ⟨xa.toArray⟩) rfl ?_
 obtain ⟨r133, hr134, h⟩ := ob h
 refine J.op rfl (A.call (L1 := []) Tryd.call41 rfl (ref01_Form_ok hr134) rfl rfl) ?_
 rintro _ _ _ ⟨v136, _, rfl, ⟨⟨t135, rfl, rfl, rfl⟩, rfl⟩, _, rfl⟩
 refine jv (.bool (!t135)) (V.not rfl) <| J.nil <| cc rfl h (fun hc139 h => ?_) fun hc139 h => ?_
 · refine cr <| ja (ii 0) rfl <| ja (ii 3) rfl <| J.nil <| CJ.ret ?_
   obtain rfl := si h
   exact ⟨_, _, Res.two rfl rfl rfl, ⟨0, 3, rfl, rfl, rfl⟩, (Hp.le_refl _), fun w hs => hs⟩
 refine CJ.skip <| cr <| ja (ii 0) rfl <| J.nil <| CJ.seq <| CJ.seq ?_
 refine CJ.region <| ja (ii 0) rfl <| J.nil ?_
 obtain ⟨o199, ho200, h⟩ := ob h
 refine CJ.joinN (o := o199) (fun s ρ K' L' => ∃ (i198 : Int), i198 = s ∧ Fits [(1, ii xb), (6, ii i198)] ρ ∧ K = K' ∧ F = L') ?_ ?_
 · refine CJ.block <| CJ.loop (fun s ρ K' L' => ∃ (i219 : Int) (i220 : Int), (i219, i220) = s ∧ Fits [(0, .string ⟨xa.toArray⟩), (1, ii xb), (6, ii i219), (7, ii i220)] ρ ∧ K = K' ∧ F = L') ho200 ⟨0, 0, rfl, ⟨rfl, rfl, rfl, rfl, trivial⟩, rfl, rfl⟩ ?_
   rintro s ρ _ _ r242 ⟨i219, i220, rfl, hf240, rfl, rfl⟩ h239
   obtain ⟨ρ, rfl⟩ := hf240.ex
   refine CJ.seq <| cr <| jm (ii i220) rfl <| jm (.string ⟨xa.toArray⟩) rfl <| jv (ii (((xa.length : Nat) : Int))) (V.lens Tryd.underlying9 rfl) <| jv (.bool (decide (i220 < (((xa.length : Nat) : Int))))) (V.lss rfl rfl) ?_
   refine J.nil <| cc rfl h239 (fun hc243 h239 => ?_) fun hc243 h239 => ?_
   · refine CJ.skip <| CJ.seq <| CJ.block <| cr <| jm (.string ⟨xa.toArray⟩) rfl <| jm (ii i220) rfl ?_
     obtain ⟨x244, hx245, h239⟩ := ob h239
     obtain ⟨p246, p247, p248⟩ := getI_some hx245
     refine jv (.int .u8 (((x244.toNat : Nat) : Int))) (V.ixs Tryd.underlying9 rfl rfl p246 p247) <| jv (.int .u8 (IntKind.wrap .u8 ((((x244.toNat : Nat) : Int)) - 48))) (V.sub rfl rfl) <| jv (ii (IntKind.wrap .i64 (IntKind.wrap .u8 ((((x244.toNat : Nat) : Int)) - 48)))) (V.conv Tryd.underlying5 Tryd.underlying3 rfl) <| ja (ii (IntKind.wrap .i64 (IntKind.wrap .u8 ((((x244.toNat : Nat) : Int)) - 48)))) rfl <| J.nil <| CJ.seq <| CJ.seq ?_
     refine CJ.region <| jm (ii i219) rfl <| jv (.bool (decide (922337203685477580 < i219))) (V.gtr rfl rfl) <| jm (.bool (decide (922337203685477580 < i219))) rfl <| J.cut 7 <| jmeet [(32, .bool ((decide (922337203685477580 < i219)) || ((decide (i219 = 922337203685477580)) && (decide (7 < (IntKind.wrap .i64 (IntKind.wrap .u8 ((((x244.toNat : Nat) : Int)) - 48)))))))), (0, .string ⟨xa.toArray⟩), (1, ii xb), (6, ii i219), (7, ii i220), (8, ii (IntKind.wrap .i64 (IntKind.wrap .u8 ((((x244.toNat : Nat) : Int)) - 48))))] ?_ ?_
     · rcases bt (decide (922337203685477580 < i219)) with hc254 | hc254
       · refine J.skip rfl rfl rfl rfl hc254 <| J.skip rfl rfl rfl rfl hc254 <| J.skip rfl rfl rfl rfl hc254 <| J.skipu rfl rfl rfl rfl <| J.skipu rfl rfl rfl rfl <| J.skip rfl rfl rfl rfl hc254 <| jv (.bool true) (V.pickT rfl hc254 rfl) ?_
         refine J.nil ?_
         exact ⟨rfl, ⟨(by simp only [hc254]; rfl), rfl, rfl, rfl, rfl, rfl, trivial⟩, rfl, rfl⟩
       refine J.run rfl rfl rfl hc254 <| jm (ii i219) rfl <| J.run rfl rfl rfl hc254 <| jv (.bool (decide (i219 = 922337203685477580))) (V.eql rfl rfl) <| J.run rfl rfl rfl hc254 <| jm (.bool (decide (i219 = 922337203685477580))) rfl <| J.cut 3 ?_
       refine jmeet [(31, .bool ((decide (i219 = 922337203685477580)) && (decide (7 < (IntKind.wrap .i64 (IntKind.wrap .u8 ((((x244.toNat : Nat) : Int)) - 48))))))), (0, .string ⟨xa.toArray⟩), (1, ii xb), (6, ii i219), (7, ii i220), (8, ii (IntKind.wrap .i64 (IntKind.wrap .u8 ((((x244.toNat : Nat) : Int)) - 48)))), (25, .bool (decide (922337203685477580 < i219)))] ?_ ?_
       · rcases bt (decide (i219 = 922337203685477580)) with hc257 | hc257
         · refine J.run rfl rfl rfl hc257 <| jm (ii (IntKind.wrap .i64 (IntKind.wrap .u8 ((((x244.toNat : Nat) : Int)) - 48)))) rfl <| J.run rfl rfl rfl hc257 <| jv (.bool (decide (7 < (IntKind.wrap .i64 (IntKind.wrap .u8 ((((x244.toNat : Nat) : Int)) - 48)))))) (V.gtr rfl rfl) <| J.run rfl rfl rfl hc254 <| jv (.bool (decide (7 < (IntKind.wrap .i64 (IntKind.wrap .u8 ((((x244.toNat : Nat) : Int)) - 48)))))) (V.pickT rfl hc257 rfl) <| J.nil ?_
           exact ⟨rfl, ⟨(by simp only [hc257]; rfl), rfl, rfl, rfl, rfl, rfl, rfl, trivial⟩, rfl, rfl⟩
         refine J.skip rfl rfl rfl rfl hc257 <| J.skip rfl rfl rfl rfl hc257 <| J.run rfl rfl rfl hc254 <| jv (.bool false) (V.pickF rfl hc257 rfl) <| J.nil ?_
         exact ⟨rfl, ⟨(by simp only [hc257]; rfl), rfl, rfl, rfl, rfl, rfl, rfl, trivial⟩, rfl, rfl⟩
       intro ρ
       refine jv (.bool ((decide (i219 = 922337203685477580)) && (decide (7 < (IntKind.wrap .i64 (IntKind.wrap .u8 ((((x244.toNat : Nat) : Int)) - 48))))))) (V.pickF rfl hc254 rfl) <| J.nil ?_
       exact ⟨rfl, ⟨(by simp only [hc254]; rfl), rfl, rfl, rfl, rfl, rfl, trivial⟩, rfl, rfl⟩
     intro ρ
     refine J.nil <| cc rfl h239 (fun hc258 h239 => ?_) fun hc258 h239 => ?_
     · refine cr <| ja (ii 0) rfl <| ja (ii 5) rfl <| J.nil <| CJ.ret ?_
       obtain rfl := si h239
       refine ⟨nofun, fun e => ?_⟩
       subst e
       refine .inr ⟨nofun, ?_⟩
       obtain rfl := si h
       exact ⟨_, _, Res.two rfl rfl rfl, ⟨0, 5, rfl, rfl, rfl⟩, (Hp.le_refl _), fun w hs => hs⟩
     refine CJ.skip <| CJ.region <| jm (ii i219) rfl <| jv (ii (IntKind.wrap .i64 (i219 * 10))) (V.mul rfl rfl) <| jm (ii (IntKind.wrap .i64 (IntKind.wrap .u8 ((((x244.toNat : Nat) : Int)) - 48)))) rfl <| jv (ii (IntKind.wrap .i64 ((IntKind.wrap .i64 (i219 * 10)) + (IntKind.wrap .i64 (IntKind.wrap .u8 ((((x244.toNat : Nat) : Int)) - 48)))))) (V.add rfl rfl) <| ja (ii (IntKind.wrap .i64 ((IntKind.wrap .i64 (i219 * 10)) + (IntKind.wrap .i64 (IntKind.wrap .u8 ((((x244.toNat : Nat) : Int)) - 48)))))) rfl ?_
     refine J.nil <| CJ.region <| jm (ii i220) rfl <| jv (ii (IntKind.wrap .i64 (i220 + 1))) (V.add rfl rfl) <| ja (ii (IntKind.wrap .i64 (i220 + 1))) rfl <| J.nil ?_
     obtain rfl := si h239
     exact ⟨rfl, ⟨IntKind.wrap .i64 ((IntKind.wrap .i64 (i219 * 10)) + (IntKind.wrap .i64 (IntKind.wrap .u8 ((((x244.toNat : Nat) : Int)) - 48)))), IntKind.wrap .i64 (i220 + 1), rfl, ⟨rfl, rfl, rfl, rfl, trivial⟩, rfl, rfl⟩⟩
   refine CJ.exit ?_
   obtain rfl := si h239
   refine ⟨nofun, fun e => ?_⟩
   subst e
   exact .inl ⟨rfl, _, rfl, ⟨i219, rfl, ⟨rfl, rfl, trivial⟩, rfl, rfl⟩⟩
 rintro s ρ _ _ ho259 ⟨i198, rfl, hf260, rfl, rfl⟩
 subst ho259
 obtain ⟨ρ, rfl⟩ := hf260.ex
 refine PJ.done <| CJ.seq <| cr <| jm (ii i198) rfl <| jm (ii xb) rfl <| jv (.bool (decide (xb < i198))) (V.gtr rfl rfl) ?_
 refine J.nil <| cc rfl h (fun hc262 h => ?_) fun hc262 h => ?_
 · refine cr <| ja (ii 0) rfl <| ja (ii 5) rfl <| J.nil <| CJ.ret ?_
   obtain rfl := si h
   exact ⟨_, _, Res.two rfl rfl rfl, ⟨0, 5, rfl, rfl, rfl⟩, (Hp.le_refl _), fun w hs => hs⟩
 refine CJ.skip <| cr <| jm (ii i198) rfl <| ja (ii i198) rfl <| ja (ii 0) rfl <| J.nil ?_
 refine CJ.ret ?_
 obtain rfl := si h
 exact ⟨_, _, Res.two rfl rfl rfl, ⟨i198, 0, rfl, rfl, rfl⟩, (Hp.le_refl _), fun w hs => hs⟩
noncomputable def fn_ref26_Parse_l1 (l400 : (List (List UInt8))) : Int → Option (Int ⊕ Int) := fun (i607 : Int) => (getI l400 0).bind fun x649 => (cond (decide (i607 < (((x649.length : Nat) : Int)))) ((getI l400 0).bind fun x672 => (getI x672 i607).bind fun x679 => some (!decide ((((x679.toNat : Nat) : Int)) = 46))) (some (false))).bind fun t669 => cond (t669) (some (.inl (IntKind.wrap .i64 (i607 + 1)))) (some (.inr (i607)))
noncomputable def fn_ref26_Parse (xa : (List UInt8)) : Option (Int × Int × Int × Int × Bool × Int) :=
  (fn_ref26_cut xa 32).bind fun l400 => (cond ((decide ((((l400.length : Nat) : Int)) < 3)) || (decide (4 < (((l400.length : Nat) : Int))))) (some (true)) ((cond (decide ((((l400.length : Nat) : Int)) = 4)) ((getI l400 3).bind fun x444 => some (!decide (x444 = ([98, 97, 99, 107] : List UInt8)))) (some (false))).bind fun t441 => some (t441))).bind fun t430 => cond (t430) (some ((0, 0, 0, 0, false, 3))) ((loop (fn_ref26_Parse_l1 l400) 0 : Option Int).bind fun i567 => (getI l400 0).bind fun x687 => (cond (decide (i567 = (((x687.length : Nat) : Int)))) (some (true)) ((getI l400 1).bind fun x711 => (fn_ref26_Kind x711).bind fun i720 => some (decide (i720 = 0)))).bind fun t708 => cond (t708) (some ((0, 0, 0, 0, false, 3))) ((getI l400 0).bind fun x725 => (subL x725 0 i567).bind fun y732 => (fn_ref01_Parse y732 1048576).bind fun (i736, i737) => cond (!decide (i737 = 0)) (some ((0, 0, 0, 0, false, i737))) ((getI l400 0).bind fun x742 => (subL x742 (IntKind.wrap .i64 (i567 + 1)) (((x742.length : Nat) : Int))).bind fun y749 => (fn_ref01_Parse y749 1048576).bind fun (i753, i754) => cond (!decide (i754 = 0)) (some ((0, 0, 0, 0, false, i754))) ((getI l400 2).bind fun x759 => (fn_ref01_Parse x759 1048576).bind fun (i768, i769) => cond (!decide (i769 = 0)) (some ((0, 0, 0, 0, false, i769))) ((getI l400 1).bind fun x774 => (fn_ref26_Kind x774).bind fun i783 => some ((i736, i753, i783, i768, decide ((((l400.length : Nat) : Int)) = 4), 0)))))))
set_option maxRecDepth 100000 in
set_option maxHeartbeats 4000000 in
theorem ref26_Parse_ok {K : Hp} {xa : (List UInt8)}   {r : (Int × Int × Int × Int × Bool × Int)} (h : fn_ref26_Parse xa = some r) :
    Tr Tryd.prog 18 #[.string ⟨xa.toArray⟩] K [] (fun v K' L' => (∃ (i391 : Int) (i392 : Int) (i393 : Int) (i394 : Int) (t395 : Bool) (i396 : Int), (i391, i392, i393, i394, t395, i396) = r ∧ .tuple #[.agg #[ii i391, ii i392, ii i393, ii i394, .bool t395], ii i396] = v ∧ L' = []) ∧ K = K') := by
 refine Tr.k <| Tr.of Tryd.func18 rfl Tryd.ntmps18 rfl fun E F => ?_
 unfold fn_ref26_Parse at h
 refine cr <| jal inf23 [ii 0, ii 0, ii 0, ii 0, .bool false] rfl fun b397 => ja (ii 0) rfl <| J.nil <| CJ.seq <| CJ.region ?_
 refine jm (.string ⟨xa.toArray⟩) rfl ?_
 obtain ⟨r398, hr399, h⟩ := ob h
 refine J.op rfl (A.call (L1 := []) Tryd.call30 rfl (ref26_cut_ok hr399) rfl rfl) ?_
 rintro _ _ _ ⟨v404, _, rfl, ⟨⟨l400, ad401, cp402, rfl, rfl, rfl⟩, rfl⟩, _, rfl⟩
 refine J.wit Row.hn fun hn403 => ja (.slice ad401 l400.length cp402) rfl <| J.nil <| CJ.seq <| cr <| jm (.slice ad401 l400.length cp402) rfl ?_
 refine jv (ii (((l400.length : Nat) : Int))) (V.len Tryd.underlying43 rfl) <| jv (.bool (decide ((((l400.length : Nat) : Int)) < 3))) (V.lss rfl rfl) <| jm (.bool (decide ((((l400.length : Nat) : Int)) < 3))) rfl <| J.cut 4 <| jmeet [(21, .bool ((decide ((((l400.length : Nat) : Int)) < 3)) || (decide (4 < (((l400.length : Nat) : Int)))))), (2, .pointer (some ⟨b397, 0, none⟩)), (4, .slice ad401 l400.length cp402)] ?_ ?_
 · rcases bt (decide ((((l400.length : Nat) : Int)) < 3)) with hc410 | hc410
   · refine J.skip rfl rfl rfl rfl hc410 <| J.skip rfl rfl rfl rfl hc410 <| J.skip rfl rfl rfl rfl hc410 <| jv (.bool true) (V.pickT rfl hc410 rfl) <| J.nil ?_
     exact ⟨rfl, ⟨(by simp only [hc410]; rfl), rfl, rfl, trivial⟩, rfl, rfl⟩
   refine J.run rfl rfl rfl hc410 <| jm (.slice ad401 l400.length cp402) rfl <| J.run rfl rfl rfl hc410 <| jv (ii (((l400.length : Nat) : Int))) (V.len Tryd.underlying43 rfl) <| J.run rfl rfl rfl hc410 <| jv (.bool (decide (4 < (((l400.length : Nat) : Int))))) (V.gtr rfl rfl) <| jv (.bool (decide (4 < (((l400.length : Nat) : Int))))) (V.pickF rfl hc410 rfl) ?_
   refine J.nil ?_
   exact ⟨rfl, ⟨(by simp only [hc410]; rfl), rfl, rfl, trivial⟩, rfl, rfl⟩
 intro ρ
 refine jm (.bool ((decide ((((l400.length : Nat) : Int)) < 3)) || (decide (4 < (((l400.length : Nat) : Int)))))) rfl <| J.cut 10 ?_
 obtain ⟨t430, ht431, h⟩ := ob h
 refine jmeet [(32, .bool t430), (2, .pointer (some ⟨b397, 0, none⟩)), (4, .slice ad401 l400.length cp402)] ?_ ?_
 · rcases bt ((decide ((((l400.length : Nat) : Int)) < 3)) || (decide (4 < (((l400.length : Nat) : Int))))) with hc432 | hc432
   · have ht431 := ct hc432 ht431
     refine J.skip rfl rfl rfl rfl hc432 <| J.skip rfl rfl rfl rfl hc432 <| J.skip rfl rfl rfl rfl hc432 <| J.skip rfl rfl rfl rfl hc432 <| J.skipu rfl rfl rfl rfl <| J.skipu rfl rfl rfl rfl <| J.skipu rfl rfl rfl rfl ?_
     refine J.skipu rfl rfl rfl rfl <| J.skip rfl rfl rfl rfl hc432 <| jv (.bool true) (V.pickT rfl hc432 rfl) <| J.nil ?_
     obtain rfl := si ht431
     exact ⟨rfl, ⟨rfl, rfl, rfl, trivial⟩, rfl, rfl⟩
   have ht431 := cf hc432 ht431
   refine J.run rfl rfl rfl hc432 <| jm (.slice ad401 l400.length cp402) rfl <| J.run rfl rfl rfl hc432 <| jv (ii (((l400.length : Nat) : Int))) (V.len Tryd.underlying43 rfl) <| J.run rfl rfl rfl hc432 <| jv (.bool (decide ((((l400.length : Nat) : Int)) = 4))) (V.eql rfl rfl) <| J.run rfl rfl rfl hc432 ?_
   refine jm (.bool (decide ((((l400.length : Nat) : Int)) = 4))) rfl <| J.cut 5 ?_
   obtain ⟨t441, ht442, ht431⟩ := ob ht431
   refine jmeet [(31, .bool t441), (2, .pointer (some ⟨b397, 0, none⟩)), (4, .slice ad401 l400.length cp402), (22, .bool ((decide ((((l400.length : Nat) : Int)) < 3)) || (decide (4 < (((l400.length : Nat) : Int))))))] ?_ ?_
   · rcases bt (decide ((((l400.length : Nat) : Int)) = 4)) with hc443 | hc443
     · have ht442 := ct hc443 ht442
       refine J.run rfl rfl rfl hc443 <| jm (.slice ad401 l400.length cp402) rfl <| J.run rfl rfl rfl hc443 ?_
       obtain ⟨x444, hx445, ht442⟩ := ob ht442
       obtain ⟨p446, p447, p448⟩ := getI_some hx445
       obtain ⟨g449, e450⟩ := hn403 (fun e => by rw [e] at p447; simp at p447)
       refine jv _ (V.iad Tryd.underlying43 sz9 rfl e450 rfl p446 p448) <| J.run rfl rfl rfl hc443 <| jv (.string ⟨x444.toArray⟩) (V.ld rfl (Ld.sc sc9 (Rd.row 0 rfl e450 p447 (q := 0) (by simp [Tp.size]) (by decide) (by rintro _ rfl; rfl)))) <| J.run rfl rfl rfl hc443 <| jv (.bool (!decide (x444 = ([98, 97, 99, 107] : List UInt8)))) (V.nes rfl rfl) <| J.run rfl rfl rfl hc432 <| jv (.bool (!decide (x444 = ([98, 97, 99, 107] : List UInt8)))) (V.pickT rfl hc443 rfl) ?_
       refine J.nil ?_
       obtain rfl := si ht442
       exact ⟨rfl, ⟨rfl, rfl, rfl, rfl, trivial⟩, rfl, rfl⟩
     have ht442 := cf hc443 ht442
     refine J.skip rfl rfl rfl rfl hc443 <| J.skip rfl rfl rfl rfl hc443 <| J.skip rfl rfl rfl rfl hc443 <| J.skip rfl rfl rfl rfl hc443 <| J.run rfl rfl rfl hc432 <| jv (.bool false) (V.pickF rfl hc443 rfl) <| J.nil ?_
     obtain rfl := si ht442
     exact ⟨rfl, ⟨rfl, rfl, rfl, rfl, trivial⟩, rfl, rfl⟩
   intro ρ
   refine jv (.bool t441) (V.pickF rfl hc432 rfl) <| J.nil ?_
   obtain rfl := si ht431
   exact ⟨rfl, ⟨rfl, rfl, rfl, trivial⟩, rfl, rfl⟩
 intro ρ
 refine J.nil <| cc rfl h (fun hc451 h => ?_) fun hc451 h => ?_
 · refine cr <| jv (.agg #[ii 0, ii 0, ii 0, ii 0, .bool false]) (V.build inf23 places23 rfl rfl) <| J.front 1 rfl <| js [ii 0, ii 0, ii 0, ii 0, .bool false] sz23 rfl rfl rfl rfl rfl rfl <| ja (ii 3) rfl <| J.nil ?_
   refine CJ.ret ?_
   obtain rfl := si h
   exact ⟨_, _, Res.two rfl ⟨_, _, rfl, Ld.agg (cs := [ii 0, ii 0, ii 0, ii 0, .bool false]) Tryd.underlying23 sz23 rfl (Rd.cls 0 0 rfl rfl)⟩ rfl, ⟨0, 0, 0, 0, false, 3, rfl, rfl, rfl⟩, (Hp.le_refl _), fun w hs => (Sep.dropAt 0 rfl (Sep.dropAt 0 rfl hs))⟩
 refine CJ.skip <| cr <| ja (ii 0) rfl <| J.nil <| CJ.seq ?_
 obtain ⟨o568, ho569, h⟩ := ob h
 refine CJ.meetN (fun ρ K' L' => ∃ (i567 : Int), i567 = o568 ∧ Fits [(2, .pointer (some ⟨b397, 0, none⟩)), (4, .slice ad401 l400.length cp402), (5, ii i567)] ρ ∧ K = K' ∧ L' = Cl b397 23 [ii 0, ii 0, ii 0, ii 0, .bool false] :: Row Hp.nil 9 .str (.slice ad401 l400.length cp402) l400 :: F) ?_ ?_
 · refine CJ.block <| CJ.front 1 rfl <| CJ.loop (fun s ρ K' L' => ∃ (i607 : Int), i607 = s ∧ Fits [(2, .pointer (some ⟨b397, 0, none⟩)), (4, .slice ad401 l400.length cp402), (5, ii i607)] ρ ∧ K = K' ∧ L' = Cl b397 23 [ii 0, ii 0, ii 0, ii 0, .bool false] :: Row Hp.nil 9 .str (.slice ad401 l400.length cp402) l400 :: F) ho569 ⟨0, rfl, ⟨rfl, rfl, rfl, trivial⟩, rfl, rfl⟩ ?_
   rintro s ρ _ _ r648 ⟨i607, rfl, hf646, rfl, rfl⟩ h645
   obtain ⟨ρ, rfl⟩ := hf646.ex
   refine CJ.seq <| cr <| jm (ii i607) rfl <| jm (.slice ad401 l400.length cp402) rfl ?_
   obtain ⟨x649, hx650, h645⟩ := ob h645
   obtain ⟨p651, p652, p653⟩ := getI_some hx650
   obtain ⟨g654, e655⟩ := hn403 (fun e => by rw [e] at p652; simp at p652)
   refine jv _ (V.iad Tryd.underlying43 sz9 rfl e655 rfl p651 p653) <| jv (.string ⟨x649.toArray⟩) (V.ld rfl (Ld.sc sc9 (Rd.row 1 rfl e655 p652 (q := 0) (by simp [Tp.size]) (by decide) (by rintro _ rfl; rfl)))) <| jv (ii (((x649.length : Nat) : Int))) (V.lens Tryd.underlying9 rfl) <| jv (.bool (decide (i607 < (((x649.length : Nat) : Int))))) (V.lss rfl rfl) <| jm (.bool (decide (i607 < (((x649.length : Nat) : Int))))) rfl <| J.cut 7 ?_
   obtain ⟨t669, ht670, h645⟩ := ob h645
   refine jmeet [(47, .bool t669), (2, .pointer (some ⟨b397, 0, none⟩)), (4, .slice ad401 l400.length cp402), (5, ii i607)] ?_ ?_
   · rcases bt (decide (i607 < (((x649.length : Nat) : Int)))) with hc671 | hc671
     · have ht670 := ct hc671 ht670
       refine J.run rfl rfl rfl hc671 <| jm (.slice ad401 l400.length cp402) rfl <| J.run rfl rfl rfl hc671 ?_
       obtain ⟨x672, hx673, ht670⟩ := ob ht670
       obtain ⟨p674, p675, p676⟩ := getI_some hx673
       obtain ⟨g677, e678⟩ := hn403 (fun e => by rw [e] at p675; simp at p675)
       refine jv _ (V.iad Tryd.underlying43 sz9 rfl e678 rfl p674 p676) <| J.run rfl rfl rfl hc671 <| jv (.string ⟨x672.toArray⟩) (V.ld rfl (Ld.sc sc9 (Rd.row 1 rfl e678 p675 (q := 0) (by simp [Tp.size]) (by decide) (by rintro _ rfl; rfl)))) <| J.run rfl rfl rfl hc671 <| jm (ii i607) rfl <| J.run rfl rfl rfl hc671 ?_
       obtain ⟨x679, hx680, ht670⟩ := ob ht670
       obtain ⟨p681, p682, p683⟩ := getI_some hx680
       refine jv (.int .u8 (((x679.toNat : Nat) : Int))) (V.ixs Tryd.underlying9 rfl rfl p681 p682) <| J.run rfl rfl rfl hc671 <| jv (.bool (!decide ((((x679.toNat : Nat) : Int)) = 46))) (V.neq rfl rfl) <| jv (.bool (!decide ((((x679.toNat : Nat) : Int)) = 46))) (V.pickT rfl hc671 rfl) <| J.nil ?_
       obtain rfl := si ht670
       exact ⟨rfl, ⟨rfl, rfl, rfl, rfl, trivial⟩, rfl, rfl⟩
     have ht670 := cf hc671 ht670
     refine J.skip rfl rfl rfl rfl hc671 <| J.skip rfl rfl rfl rfl hc671 <| J.skip rfl rfl rfl rfl hc671 <| J.skip rfl rfl rfl rfl hc671 <| J.skip rfl rfl rfl rfl hc671 <| J.skip rfl rfl rfl rfl hc671 <| jv (.bool false) (V.pickF rfl hc671 rfl) ?_
     refine J.nil ?_
     obtain rfl := si ht670
     exact ⟨rfl, ⟨rfl, rfl, rfl, rfl, trivial⟩, rfl, rfl⟩
   intro ρ
   refine J.nil <| cc rfl h645 (fun hc684 h645 => ?_) fun hc684 h645 => ?_
   · refine CJ.skip <| CJ.block <| CJ.region <| jm (ii i607) rfl <| jv (ii (IntKind.wrap .i64 (i607 + 1))) (V.add rfl rfl) <| ja (ii (IntKind.wrap .i64 (i607 + 1))) rfl <| J.nil ?_
     obtain rfl := si h645
     exact ⟨rfl, ⟨IntKind.wrap .i64 (i607 + 1), rfl, ⟨rfl, rfl, rfl, trivial⟩, rfl, rfl⟩⟩
   refine CJ.exit ?_
   obtain rfl := si h645
   refine ⟨nofun, fun e => ?_⟩
   subst e
   exact ⟨rfl, ⟨i607, rfl, ⟨rfl, rfl, rfl, trivial⟩, rfl, rfl⟩⟩
 rintro ρ _ _ ⟨i567, rfl, hf685, rfl, rfl⟩
 obtain ⟨ρ, rfl⟩ := hf685.ex
 refine PJ.done <| CJ.seq <| cr <| jm (ii i567) rfl <| jm (.slice ad401 l400.length cp402) rfl ?_
 obtain ⟨x687, hx688, h⟩ := ob h
 obtain ⟨p689, p690, p691⟩ := getI_some hx688
 obtain ⟨g692, e693⟩ := hn403 (fun e => by rw [e] at p690; simp at p690)
 refine jv _ (V.iad Tryd.underlying43 sz9 rfl e693 rfl p689 p691) <| jv (.string ⟨x687.toArray⟩) (V.ld rfl (Ld.sc sc9 (Rd.row 1 rfl e693 p690 (q := 0) (by simp [Tp.size]) (by decide) (by rintro _ rfl; rfl)))) <| jv (ii (((x687.length : Nat) : Int))) (V.lens Tryd.underlying9 rfl) <| jv (.bool (decide (i567 = (((x687.length : Nat) : Int))))) (V.eql rfl rfl) <| jm (.bool (decide (i567 = (((x687.length : Nat) : Int))))) rfl <| J.cut 6 ?_
 obtain ⟨t708, ht709, h⟩ := ob h
 refine jmeet [(62, .bool t708), (2, .pointer (some ⟨b397, 0, none⟩)), (4, .slice ad401 l400.length cp402), (5, ii i567)] ?_ ?_
 · rcases bt (decide (i567 = (((x687.length : Nat) : Int)))) with hc710 | hc710
   · have ht709 := ct hc710 ht709
     refine J.skip rfl rfl rfl rfl hc710 <| J.skip rfl rfl rfl rfl hc710 <| J.skip rfl rfl rfl rfl hc710 <| J.skip rfl rfl rfl rfl hc710 <| J.skip rfl rfl rfl rfl hc710 <| jv (.bool true) (V.pickT rfl hc710 rfl) <| J.nil ?_
     obtain rfl := si ht709
     exact ⟨rfl, ⟨rfl, rfl, rfl, rfl, trivial⟩, rfl, rfl⟩
   have ht709 := cf hc710 ht709
   refine J.run rfl rfl rfl hc710 <| jm (.slice ad401 l400.length cp402) rfl <| J.run rfl rfl rfl hc710 ?_
   obtain ⟨x711, hx712, ht709⟩ := ob ht709
   obtain ⟨p713, p714, p715⟩ := getI_some hx712
   obtain ⟨g716, e717⟩ := hn403 (fun e => by rw [e] at p714; simp at p714)
   refine jv _ (V.iad Tryd.underlying43 sz9 rfl e717 rfl p713 p715) <| J.run rfl rfl rfl hc710 <| jv (.string ⟨x711.toArray⟩) (V.ld rfl (Ld.sc sc9 (Rd.row 1 rfl e717 p714 (q := 0) (by simp [Tp.size]) (by decide) (by rintro _ rfl; rfl)))) <| J.run rfl rfl rfl hc710 ?_
   obtain ⟨r718, hr719, ht709⟩ := ob ht709
   refine J.op rfl (A.call (L1 := []) Tryd.call10 rfl (ref26_Kind_ok hr719) rfl rfl) ?_
   rintro _ _ _ ⟨v721, _, rfl, ⟨⟨i720, rfl, rfl, rfl⟩, rfl⟩, _, rfl⟩
   refine J.run rfl rfl rfl hc710 <| jv (.bool (decide (i720 = 0))) (V.eql rfl rfl) <| jv (.bool (decide (i720 = 0))) (V.pickF rfl hc710 rfl) <| J.nil ?_
   obtain rfl := si ht709
   exact ⟨rfl, ⟨rfl, rfl, rfl, rfl, trivial⟩, rfl, rfl⟩
 intro ρ
 refine J.nil <| cc rfl h (fun hc724 h => ?_) fun hc724 h => ?_
 · refine cr <| jv (.agg #[ii 0, ii 0, ii 0, ii 0, .bool false]) (V.build inf23 places23 rfl rfl) <| js [ii 0, ii 0, ii 0, ii 0, .bool false] sz23 rfl rfl rfl rfl rfl rfl <| ja (ii 3) rfl <| J.nil <| CJ.ret ?_
   obtain rfl := si h
   exact ⟨_, _, Res.two rfl ⟨_, _, rfl, Ld.agg (cs := [ii 0, ii 0, ii 0, ii 0, .bool false]) Tryd.underlying23 sz23 rfl (Rd.cls 0 0 rfl rfl)⟩ rfl, ⟨0, 0, 0, 0, false, 3, rfl, rfl, rfl⟩, (Hp.le_refl _), fun w hs => (Sep.dropAt 0 rfl (Sep.dropAt 0 rfl hs))⟩
 refine CJ.skip <| cr <| jm (.slice ad401 l400.length cp402) rfl ?_
 obtain ⟨x725, hx726, h⟩ := ob h
 obtain ⟨p727, p728, p729⟩ := getI_some hx726
 obtain ⟨g730, e731⟩ := hn403 (fun e => by rw [e] at p728; simp at p728)
 refine jv _ (V.iad Tryd.underlying43 sz9 rfl e731 rfl p727 p729) <| jv (.string ⟨x725.toArray⟩) (V.ld rfl (Ld.sc sc9 (Rd.row 1 rfl e731 p728 (q := 0) (by simp [Tp.size]) (by decide) (by rintro _ rfl; rfl)))) <| jm (ii i567) rfl ?_
 obtain ⟨y732, hy733, h⟩ := ob h
 refine jv (.string ⟨y732.toArray⟩) (V.subs Tryd.underlying9 rfl nofun (fun _ => rfl) (fun _ h => by cases h; exact ⟨_, rfl⟩) nofun hy733) ?_
 obtain ⟨r734, hr735, h⟩ := ob h
 refine J.op rfl (A.call (L1 := []) Tryd.call31 rfl (ref01_Parse_ok hr735) rfl rfl) ?_
 rintro _ _ _ ⟨v738, _, rfl, ⟨⟨i736, i737, rfl, rfl, rfl⟩, rfl⟩, _, rfl⟩
 refine jm (.tuple #[ii i736, ii i737]) rfl <| jx (ii i736) rfl rfl <| jx (ii i737) rfl rfl <| ja (ii i736) rfl <| ja (ii i737) rfl <| J.nil <| CJ.seq ?_
 refine cr <| jm (ii i737) rfl <| jv (.bool (!decide (i737 = 0))) (V.neq rfl rfl) <| J.nil <| cc rfl h (fun hc741 h => ?_) fun hc741 h => ?_
 · refine cr <| jv (.agg #[ii 0, ii 0, ii 0, ii 0, .bool false]) (V.build inf23 places23 rfl rfl) <| jm (ii i737) rfl <| js [ii 0, ii 0, ii 0, ii 0, .bool false] sz23 rfl rfl rfl rfl rfl rfl <| ja (ii i737) rfl <| J.nil ?_
   refine CJ.ret ?_
   obtain rfl := si h
   exact ⟨_, _, Res.two rfl ⟨_, _, rfl, Ld.agg (cs := [ii 0, ii 0, ii 0, ii 0, .bool false]) Tryd.underlying23 sz23 rfl (Rd.cls 0 0 rfl rfl)⟩ rfl, ⟨0, 0, 0, 0, false, i737, rfl, rfl, rfl⟩, (Hp.le_refl _), fun w hs => (Sep.dropAt 0 rfl (Sep.dropAt 0 rfl hs))⟩
 refine CJ.skip <| cr <| jm (.slice ad401 l400.length cp402) rfl ?_
 obtain ⟨x742, hx743, h⟩ := ob h
 obtain ⟨p744, p745, p746⟩ := getI_some hx743
 obtain ⟨g747, e748⟩ := hn403 (fun e => by rw [e] at p745; simp at p745)
 refine jv _ (V.iad Tryd.underlying43 sz9 rfl e748 rfl p744 p746) <| jv (.string ⟨x742.toArray⟩) (V.ld rfl (Ld.sc sc9 (Rd.row 1 rfl e748 p745 (q := 0) (by simp [Tp.size]) (by decide) (by rintro _ rfl; rfl)))) <| jm (ii i567) rfl <| jv (ii (IntKind.wrap .i64 (i567 + 1))) (V.add rfl rfl) ?_
 obtain ⟨y749, hy750, h⟩ := ob h
 refine jv (.string ⟨y749.toArray⟩) (V.subs Tryd.underlying9 rfl (fun _ h => by cases h; exact ⟨_, rfl⟩) nofun nofun (fun _ => rfl) hy750) ?_
 obtain ⟨r751, hr752, h⟩ := ob h
 refine J.op rfl (A.call (L1 := []) Tryd.call31 rfl (ref01_Parse_ok hr752) rfl rfl) ?_
 rintro _ _ _ ⟨v755, _, rfl, ⟨⟨i753, i754, rfl, rfl, rfl⟩, rfl⟩, _, rfl⟩
 refine jm (.tuple #[ii i753, ii i754]) rfl <| jx (ii i753) rfl rfl <| jx (ii i754) rfl rfl <| ja (ii i753) rfl <| ja (ii i754) rfl <| J.nil <| CJ.seq ?_
 refine cr <| jm (ii i754) rfl <| jv (.bool (!decide (i754 = 0))) (V.neq rfl rfl) <| J.nil <| cc rfl h (fun hc758 h => ?_) fun hc758 h => ?_
 · refine cr <| jv (.agg #[ii 0, ii 0, ii 0, ii 0, .bool false]) (V.build inf23 places23 rfl rfl) <| jm (ii i754) rfl <| js [ii 0, ii 0, ii 0, ii 0, .bool false] sz23 rfl rfl rfl rfl rfl rfl <| ja (ii i754) rfl <| J.nil ?_
   refine CJ.ret ?_
   obtain rfl := si h
   exact ⟨_, _, Res.two rfl ⟨_, _, rfl, Ld.agg (cs := [ii 0, ii 0, ii 0, ii 0, .bool false]) Tryd.underlying23 sz23 rfl (Rd.cls 0 0 rfl rfl)⟩ rfl, ⟨0, 0, 0, 0, false, i754, rfl, rfl, rfl⟩, (Hp.le_refl _), fun w hs => (Sep.dropAt 0 rfl (Sep.dropAt 0 rfl hs))⟩
 refine CJ.skip <| cr <| jm (.slice ad401 l400.length cp402) rfl ?_
 obtain ⟨x759, hx760, h⟩ := ob h
 obtain ⟨p761, p762, p763⟩ := getI_some hx760
 obtain ⟨g764, e765⟩ := hn403 (fun e => by rw [e] at p762; simp at p762)
 refine jv _ (V.iad Tryd.underlying43 sz9 rfl e765 rfl p761 p763) <| jv (.string ⟨x759.toArray⟩) (V.ld rfl (Ld.sc sc9 (Rd.row 1 rfl e765 p762 (q := 0) (by simp [Tp.size]) (by decide) (by rintro _ rfl; rfl)))) ?_
 obtain ⟨r766, hr767, h⟩ := ob h
 refine J.op rfl (A.call (L1 := []) Tryd.call31 rfl (ref01_Parse_ok hr767) rfl rfl) ?_
 rintro _ _ _ ⟨v770, _, rfl, ⟨⟨i768, i769, rfl, rfl, rfl⟩, rfl⟩, _, rfl⟩
 refine jm (.tuple #[ii i768, ii i769]) rfl <| jx (ii i768) rfl rfl <| jx (ii i769) rfl rfl <| ja (ii i768) rfl <| ja (ii i769) rfl <| J.nil <| CJ.seq ?_
 refine cr <| jm (ii i769) rfl <| jv (.bool (!decide (i769 = 0))) (V.neq rfl rfl) <| J.nil <| cc rfl h (fun hc773 h => ?_) fun hc773 h => ?_
 · refine cr <| jv (.agg #[ii 0, ii 0, ii 0, ii 0, .bool false]) (V.build inf23 places23 rfl rfl) <| jm (ii i769) rfl <| js [ii 0, ii 0, ii 0, ii 0, .bool false] sz23 rfl rfl rfl rfl rfl rfl <| ja (ii i769) rfl <| J.nil ?_
   refine CJ.ret ?_
   obtain rfl := si h
   exact ⟨_, _, Res.two rfl ⟨_, _, rfl, Ld.agg (cs := [ii 0, ii 0, ii 0, ii 0, .bool false]) Tryd.underlying23 sz23 rfl (Rd.cls 0 0 rfl rfl)⟩ rfl, ⟨0, 0, 0, 0, false, i769, rfl, rfl, rfl⟩, (Hp.le_refl _), fun w hs => (Sep.dropAt 0 rfl (Sep.dropAt 0 rfl hs))⟩
 refine CJ.skip <| cr <| jm (ii i736) rfl <| jm (ii i753) rfl <| jm (.slice ad401 l400.length cp402) rfl ?_
 obtain ⟨x774, hx775, h⟩ := ob h
 obtain ⟨p776, p777, p778⟩ := getI_some hx775
 obtain ⟨g779, e780⟩ := hn403 (fun e => by rw [e] at p777; simp at p777)
 refine jv _ (V.iad Tryd.underlying43 sz9 rfl e780 rfl p776 p778) <| jv (.string ⟨x774.toArray⟩) (V.ld rfl (Ld.sc sc9 (Rd.row 1 rfl e780 p777 (q := 0) (by simp [Tp.size]) (by decide) (by rintro _ rfl; rfl)))) ?_
 obtain ⟨r781, hr782, h⟩ := ob h
 refine J.op rfl (A.call (L1 := []) Tryd.call10 rfl (ref26_Kind_ok hr782) rfl rfl) ?_
 rintro _ _ _ ⟨v784, _, rfl, ⟨⟨i783, rfl, rfl, rfl⟩, rfl⟩, _, rfl⟩
 refine jm (ii i768) rfl <| jm (.slice ad401 l400.length cp402) rfl <| jv (ii (((l400.length : Nat) : Int))) (V.len Tryd.underlying43 rfl) <| jv (.bool (decide ((((l400.length : Nat) : Int)) = 4))) (V.eql rfl rfl) <| jv (.agg #[ii i736, ii i753, ii i783, ii i768, .bool (decide ((((l400.length : Nat) : Int)) = 4))]) (V.build inf23 places23 rfl rfl) <| js [ii i736, ii i753, ii i783, ii i768, .bool (decide ((((l400.length : Nat) : Int)) = 4))] sz23 rfl rfl rfl rfl rfl rfl <| ja (ii 0) rfl ?_
 refine J.nil <| CJ.ret ?_
 obtain rfl := si h
 exact ⟨_, _, Res.two rfl ⟨_, _, rfl, Ld.agg (cs := [ii i736, ii i753, ii i783, ii i768, .bool (decide ((((l400.length : Nat) : Int)) = 4))]) Tryd.underlying23 sz23 rfl (Rd.cls 0 0 rfl rfl)⟩ rfl, ⟨i736, i753, i783, i768, decide ((((l400.length : Nat) : Int)) = 4), 0, rfl, rfl, rfl⟩, (Hp.le_refl _), fun w hs => (Sep.dropAt 0 rfl (Sep.dropAt 0 rfl hs))⟩

noncomputable def fn_law26_ProvReads (xa : (List UInt8)) (xb : (Int × Int × Int × Int × Bool)) : Option Bool :=
  cond (decide (100 < (((xa.length : Nat) : Int)))) ((fn_law26_awake).bind fun t137 => some (t137)) ((fn_prov_Parse xa).bind fun (i143, i144, i145, i146, t147, i148) => (fn_ref26_Parse xa).bind fun (i155, i156, i157, i158, t159, i160) => (cond ((!((decide (i143 = i155)) && ((decide (i144 = i156)) && ((decide (i145 = i157)) && ((decide (i146 = i158)) && (t147 == t159)))))) || (!decide (i148 = i160))) (some (true)) ((cond (decide (i148 = 0)) ((fn_prov_Text (i143, i144, i145, i146, t147)).bind fun s200 => some (!decide (s200 = xa))) (some (false))).bind fun t195 => some (t195))).bind fun t185 => cond (t185) (some (false)) ((fn_prov_Text (xb.1, xb.2.1, xb.2.2.1, xb.2.2.2.1, xb.2.2.2.2)).bind fun s207 => (fn_prov_Parse s207).bind fun (i213, i214, i215, i216, t217, i218) => (fn_ref26_Right (xb.1, xb.2.1, xb.2.2.1, xb.2.2.2.1, xb.2.2.2.2)).bind fun t225 => (cond (((decide (i218 = 0)) == (((t225 && (decide (xb.1 ≤ 1048576))) && (decide (xb.2.1 ≤ 1048576))) && (decide (xb.2.2.2.1 ≤ 1048576)))) && (((decide (i213 = xb.1)) && ((decide (i214 = xb.2.1)) && ((decide (i215 = xb.2.2.1)) && ((decide (i216 = xb.2.2.2.1)) && (t217 == xb.2.2.2.2))))) || (!(((t225 && (decide (xb.1 ≤ 1048576))) && (decide (xb.2.1 ≤ 1048576))) && (decide (xb.2.2.2.1 ≤ 1048576)))))) ((fn_law26_awake).bind fun t259 => some (t259)) (some (false))).bind fun t254 => some (t254)))
set_option maxRecDepth 100000 in
set_option maxHeartbeats 4000000 in
theorem law26_ProvReads_ok {K : Hp} {xa : (List UInt8)} {xb : (Int × Int × Int × Int × Bool)}  (fG : Gk K) {r : Bool} (h : fn_law26_ProvReads xa xb = some r) :
    Tr Tryd.prog 4 #[.string ⟨xa.toArray⟩, .agg #[ii xb.1, ii xb.2.1, ii xb.2.2.1, ii xb.2.2.2.1, .bool xb.2.2.2.2]] K [] (fun v K' L' => (∃ (t132 : Bool), t132 = r ∧ .bool t132 = v ∧ L' = []) ∧ K = K') := by
 refine Tr.k <| Tr.of Tryd.func4 rfl Tryd.ntmps4 rfl fun E F => ?_
 unfold fn_law26_ProvReads at h
 refine cr <| jbx [ii xb.1, ii xb.2.1, ii xb.2.2.1, ii xb.2.2.2.1, .bool xb.2.2.2.2] rfl rfl fun b133 => ja (.bool false) rfl <| J.nil <| CJ.seq <| CJ.seq ?_
 refine CJ.region <| jm (.string ⟨xa.toArray⟩) rfl <| jv (ii (((xa.length : Nat) : Int))) (V.lens Tryd.underlying9 rfl) <| jv (.bool (decide (100 < (((xa.length : Nat) : Int))))) (V.gtr rfl rfl) <| J.nil <| cc rfl h (fun hc134 h => ?_) fun hc134 h => ?_
 · refine CJ.seq <| CJ.region ?_
   obtain ⟨r135, hr136, h⟩ := ob h
   refine J.op rfl (A.call (L1 := []) Tryd.call6 rfl (law26_awake_ok fG hr136) rfl rfl) ?_
   rintro _ _ _ ⟨v138, _, rfl, ⟨⟨t137, rfl, rfl, rfl⟩, rfl⟩, _, rfl⟩
   refine ja (.bool t137) rfl <| J.nil <| CJ.ret ?_
   obtain rfl := si h
   exact ⟨_, _, Res.one rfl rfl, ⟨t137, rfl, rfl, rfl⟩, (Hp.le_refl _), fun w hs => (Sep.dropAt 0 rfl hs)⟩
 refine CJ.skip <| cr <| jm (.string ⟨xa.toArray⟩) rfl ?_
 obtain ⟨r141, hr142, h⟩ := ob h
 refine J.op rfl (A.call (L1 := []) Tryd.call17 rfl (prov_Parse_ok fG hr142) rfl rfl) ?_
 rintro _ _ _ ⟨v149, _, rfl, ⟨⟨i143, i144, i145, i146, t147, i148, rfl, rfl, rfl⟩, rfl⟩, _, rfl⟩
 refine jm (.tuple #[.agg #[ii i143, ii i144, ii i145, ii i146, .bool t147], ii i148]) rfl <| jx (.agg #[ii i143, ii i144, ii i145, ii i146, .bool t147]) rfl rfl <| jx (ii i148) rfl rfl <| jal inf23 [ii 0, ii 0, ii 0, ii 0, .bool false] rfl fun b152 => js [ii i143, ii i144, ii i145, ii i146, .bool t147] sz23 rfl rfl rfl rfl rfl rfl <| ja (ii i148) rfl <| J.nil ?_
 refine cr <| jm (.string ⟨xa.toArray⟩) rfl ?_
 obtain ⟨r153, hr154, h⟩ := ob h
 refine J.op rfl (A.call (L1 := []) Tryd.call18 rfl (ref26_Parse_ok hr154) rfl rfl) ?_
 rintro _ _ _ ⟨v161, _, rfl, ⟨⟨i155, i156, i157, i158, t159, i160, rfl, rfl, rfl⟩, rfl⟩, _, rfl⟩
 refine jm (.tuple #[.agg #[ii i155, ii i156, ii i157, ii i158, .bool t159], ii i160]) rfl <| jx (.agg #[ii i155, ii i156, ii i157, ii i158, .bool t159]) rfl rfl <| jx (ii i160) rfl rfl <| jal inf23 [ii 0, ii 0, ii 0, ii 0, .bool false] rfl fun b164 => js [ii i155, ii i156, ii i157, ii i158, .bool t159] sz23 rfl rfl rfl rfl rfl rfl <| ja (ii i160) rfl <| J.nil ?_
 refine CJ.seq <| cr <| jv (.agg #[ii i143, ii i144, ii i145, ii i146, .bool t147]) (V.ld rfl (Ld.agg (cs := [ii i143, ii i144, ii i145, ii i146, .bool t147]) Tryd.underlying23 sz23 rfl (Rd.cls 1 0 rfl rfl))) <| jv (.agg #[ii i155, ii i156, ii i157, ii i158, .bool t159]) (V.ld rfl (Ld.agg (cs := [ii i155, ii i156, ii i157, ii i158, .bool t159]) Tryd.underlying23 sz23 rfl (Rd.cls 0 0 rfl rfl))) <| jv (.bool (!((decide (i143 = i155)) && ((decide (i144 = i156)) && ((decide (i145 = i157)) && ((decide (i146 = i158)) && (t147 == t159))))))) (V.nest eqg23 (EqIn.st (d := 9999) rfl Tryd.underlying23 sih23 (EqFs.cons (by decide) (Ld0.sc sc3 rfl) (Ld0.sc sc3 rfl) (EqIn.int (d := 9998) rfl Tryd.underlying3) (EqFs.cons (by decide) (Ld0.sc sc3 rfl) (Ld0.sc sc3 rfl) (EqIn.int (d := 9998) rfl Tryd.underlying3) (EqFs.cons (by decide) (Ld0.sc sc3 rfl) (Ld0.sc sc3 rfl) (EqIn.int (d := 9998) rfl Tryd.underlying3) (EqFs.cons (by decide) (Ld0.sc sc3 rfl) (Ld0.sc sc3 rfl) (EqIn.int (d := 9998) rfl Tryd.underlying3) (EqFs.last (by decide) (Ld0.sc sc4 rfl) (Ld0.sc sc4 rfl) (EqIn.bool (d := 9998) rfl Tryd.underlying4))))))) rfl rfl) <| jm (.bool (!((decide (i143 = i155)) && ((decide (i144 = i156)) && ((decide (i145 = i157)) && ((decide (i146 = i158)) && (t147 == t159))))))) rfl ?_
 refine J.cut 4 <| jmeet [(33, .bool ((!((decide (i143 = i155)) && ((decide (i144 = i156)) && ((decide (i145 = i157)) && ((decide (i146 = i158)) && (t147 == t159)))))) || (!decide (i148 = i160)))), (0, .string ⟨xa.toArray⟩), (3, .pointer (some ⟨b133, 0, none⟩)), (5, .pointer (some ⟨b152, 0, none⟩)), (6, ii i148)] ?_ ?_
 · rcases bt (!((decide (i143 = i155)) && ((decide (i144 = i156)) && ((decide (i145 = i157)) && ((decide (i146 = i158)) && (t147 == t159)))))) with hc167 | hc167
   · refine J.skip rfl rfl rfl rfl hc167 <| J.skip rfl rfl rfl rfl hc167 <| J.skip rfl rfl rfl rfl hc167 <| jv (.bool true) (V.pickT rfl hc167 rfl) <| J.nil ?_
     exact ⟨rfl, ⟨(by simp only [hc167]; rfl), rfl, rfl, rfl, rfl, trivial⟩, rfl, rfl⟩
   refine J.run rfl rfl rfl hc167 <| jm (ii i148) rfl <| J.run rfl rfl rfl hc167 <| jm (ii i160) rfl <| J.run rfl rfl rfl hc167 <| jv (.bool (!decide (i148 = i160))) (V.neq rfl rfl) <| jv (.bool (!decide (i148 = i160))) (V.pickF rfl hc167 rfl) ?_
   refine J.nil ?_
   exact ⟨rfl, ⟨(by simp only [hc167]; rfl), rfl, rfl, rfl, rfl, trivial⟩, rfl, rfl⟩
 intro ρ
 refine jm (.bool ((!((decide (i143 = i155)) && ((decide (i144 = i156)) && ((decide (i145 = i157)) && ((decide (i146 = i158)) && (t147 == t159)))))) || (!decide (i148 = i160)))) rfl <| J.cut 9 ?_
 obtain ⟨t185, ht186, h⟩ := ob h
 refine jmeet [(43, .bool t185), (3, .pointer (some ⟨b133, 0, none⟩))] ?_ ?_
 · rcases bt ((!((decide (i143 = i155)) && ((decide (i144 = i156)) && ((decide (i145 = i157)) && ((decide (i146 = i158)) && (t147 == t159)))))) || (!decide (i148 = i160))) with hc187 | hc187
   · have ht186 := ct hc187 ht186
     refine J.skip rfl rfl rfl rfl hc187 <| J.skip rfl rfl rfl rfl hc187 <| J.skip rfl rfl rfl rfl hc187 <| J.skipu rfl rfl rfl rfl <| J.skipu rfl rfl rfl rfl <| J.skipu rfl rfl rfl rfl <| J.skipu rfl rfl rfl rfl ?_
     refine J.skip rfl rfl rfl rfl hc187 <| jv (.bool true) (V.pickT rfl hc187 rfl) <| J.nil ?_
     obtain rfl := si ht186
     exact ⟨rfl, ⟨rfl, rfl, trivial⟩, rfl, rfl⟩
   have ht186 := cf hc187 ht186
   refine J.run rfl rfl rfl hc187 <| jm (ii i148) rfl <| J.run rfl rfl rfl hc187 <| jv (.bool (decide (i148 = 0))) (V.eql rfl rfl) <| J.run rfl rfl rfl hc187 <| jm (.bool (decide (i148 = 0))) rfl <| J.cut 5 ?_
   obtain ⟨t195, ht196, ht186⟩ := ob ht186
   refine jmeet [(42, .bool t195), (3, .pointer (some ⟨b133, 0, none⟩)), (34, .bool ((!((decide (i143 = i155)) && ((decide (i144 = i156)) && ((decide (i145 = i157)) && ((decide (i146 = i158)) && (t147 == t159)))))) || (!decide (i148 = i160))))] ?_ ?_
   · rcases bt (decide (i148 = 0)) with hc197 | hc197
     · have ht196 := ct hc197 ht196
       refine J.run rfl rfl rfl hc197 <| jv (.agg #[ii i143, ii i144, ii i145, ii i146, .bool t147]) (V.ld rfl (Ld.agg (cs := [ii i143, ii i144, ii i145, ii i146, .bool t147]) Tryd.underlying23 sz23 rfl (Rd.cls 1 0 rfl rfl))) <| J.run rfl rfl rfl hc197 ?_
       obtain ⟨r198, hr199, ht196⟩ := ob ht196
       refine J.op rfl (A.call (L1 := []) Tryd.call13 rfl (prov_Text_ok hr199) rfl rfl) ?_
       rintro _ _ _ ⟨v201, _, rfl, ⟨⟨s200, rfl, rfl, rfl⟩, rfl⟩, _, rfl⟩
       refine J.run rfl rfl rfl hc197 <| jm (.string ⟨xa.toArray⟩) rfl <| J.run rfl rfl rfl hc197 <| jv (.bool (!decide (s200 = xa))) (V.nes rfl rfl) <| J.run rfl rfl rfl hc187 <| jv (.bool (!decide (s200 = xa))) (V.pickT rfl hc197 rfl) <| J.nil ?_
       obtain rfl := si ht196
       exact ⟨rfl, ⟨rfl, rfl, rfl, trivial⟩, rfl, rfl⟩
     have ht196 := cf hc197 ht196
     refine J.skip rfl rfl rfl rfl hc197 <| J.skip rfl rfl rfl rfl hc197 <| J.skip rfl rfl rfl rfl hc197 <| J.skip rfl rfl rfl rfl hc197 <| J.run rfl rfl rfl hc187 <| jv (.bool false) (V.pickF rfl hc197 rfl) <| J.nil ?_
     obtain rfl := si ht196
     exact ⟨rfl, ⟨rfl, rfl, rfl, trivial⟩, rfl, rfl⟩
   intro ρ
   refine jv (.bool t195) (V.pickF rfl hc187 rfl) <| J.nil ?_
   obtain rfl := si ht186
   exact ⟨rfl, ⟨rfl, rfl, trivial⟩, rfl, rfl⟩
 intro ρ
 refine J.nil <| cc rfl h (fun hc204 h => ?_) fun hc204 h => ?_
 · refine cr <| ja (.bool false) rfl <| J.nil <| CJ.ret ?_
   obtain rfl := si h
   exact ⟨_, _, Res.one rfl rfl, ⟨false, rfl, rfl, rfl⟩, (Hp.le_refl _), fun w hs => (Sep.dropAt 0 rfl (Sep.dropAt 0 rfl (Sep.dropAt 0 rfl hs)))⟩
 refine CJ.skip <| cr <| jv (.agg #[ii xb.1, ii xb.2.1, ii xb.2.2.1, ii xb.2.2.2.1, .bool xb.2.2.2.2]) (V.ld rfl (Ld.agg (cs := [ii xb.1, ii xb.2.1, ii xb.2.2.1, ii xb.2.2.2.1, .bool xb.2.2.2.2]) Tryd.underlying23 sz23 rfl (Rd.cls 2 0 rfl rfl))) ?_
 obtain ⟨r205, hr206, h⟩ := ob h
 refine J.op rfl (A.call (L1 := []) Tryd.call13 rfl (prov_Text_ok hr206) rfl rfl) ?_
 rintro _ _ _ ⟨v208, _, rfl, ⟨⟨s207, rfl, rfl, rfl⟩, rfl⟩, _, rfl⟩
 obtain ⟨r211, hr212, h⟩ := ob h
 refine J.op rfl (A.call (L1 := []) Tryd.call17 rfl (prov_Parse_ok fG hr212) rfl rfl) ?_
 rintro _ _ _ ⟨v219, _, rfl, ⟨⟨i213, i214, i215, i216, t217, i218, rfl, rfl, rfl⟩, rfl⟩, _, rfl⟩
 refine jm (.tuple #[.agg #[ii i213, ii i214, ii i215, ii i216, .bool t217], ii i218]) rfl <| jx (.agg #[ii i213, ii i214, ii i215, ii i216, .bool t217]) rfl rfl <| jx (ii i218) rfl rfl <| jal inf23 [ii 0, ii 0, ii 0, ii 0, .bool false] rfl fun b222 => js [ii i213, ii i214, ii i215, ii i216, .bool t217] sz23 rfl rfl rfl rfl rfl rfl <| ja (ii i218) rfl <| J.nil ?_
 refine cr <| jv (.agg #[ii xb.1, ii xb.2.1, ii xb.2.2.1, ii xb.2.2.2.1, .bool xb.2.2.2.2]) (V.ld rfl (Ld.agg (cs := [ii xb.1, ii xb.2.1, ii xb.2.2.1, ii xb.2.2.2.1, .bool xb.2.2.2.2]) Tryd.underlying23 sz23 rfl (Rd.cls 3 0 rfl rfl))) ?_
 obtain ⟨r223, hr224, h⟩ := ob h
 refine J.op rfl (A.call (L1 := []) Tryd.call12 rfl (ref26_Right_ok hr224) rfl rfl) ?_
 rintro _ _ _ ⟨v226, _, rfl, ⟨⟨t225, rfl, rfl, rfl⟩, rfl⟩, _, rfl⟩
 refine jm (.bool t225) rfl <| J.cut 4 <| jmeet [(56, .bool (t225 && (decide (xb.1 ≤ 1048576)))), (3, .pointer (some ⟨b133, 0, none⟩)), (9, .pointer (some ⟨b222, 0, none⟩)), (10, ii i218)] ?_ ?_
 · rcases bt (t225) with hc231 | hc231
   · refine J.run rfl rfl rfl hc231 <| jv _ (V.fad Tryd.underlying23 rfl nz3 rfl) <| J.run rfl rfl rfl hc231 <| jv (ii xb.1) (V.ld rfl (Ld.sc sc3 (Rd.cl 3 rfl rfl))) <| J.run rfl rfl rfl hc231 <| jv (.bool (decide (xb.1 ≤ 1048576))) (V.leq rfl rfl) <| jv (.bool (decide (xb.1 ≤ 1048576))) (V.pickT rfl hc231 rfl) ?_
     refine J.nil ?_
     exact ⟨rfl, ⟨(by simp only [hc231]; rfl), rfl, rfl, rfl, trivial⟩, rfl, rfl⟩
   refine J.skip rfl rfl rfl rfl hc231 <| J.skip rfl rfl rfl rfl hc231 <| J.skip rfl rfl rfl rfl hc231 <| jv (.bool false) (V.pickF rfl hc231 rfl) <| J.nil ?_
   exact ⟨rfl, ⟨(by simp only [hc231]; rfl), rfl, rfl, rfl, trivial⟩, rfl, rfl⟩
 intro ρ
 refine jm (.bool (t225 && (decide (xb.1 ≤ 1048576)))) rfl <| J.cut 4 <| jmeet [(61, .bool ((t225 && (decide (xb.1 ≤ 1048576))) && (decide (xb.2.1 ≤ 1048576)))), (3, .pointer (some ⟨b133, 0, none⟩)), (9, .pointer (some ⟨b222, 0, none⟩)), (10, ii i218)] ?_ ?_
 · rcases bt (t225 && (decide (xb.1 ≤ 1048576))) with hc234 | hc234
   · refine J.run rfl rfl rfl hc234 <| jv _ (V.fad Tryd.underlying23 rfl nz3 rfl) <| J.run rfl rfl rfl hc234 <| jv (ii xb.2.1) (V.ld rfl (Ld.sc sc3 (Rd.cl 3 rfl rfl))) <| J.run rfl rfl rfl hc234 <| jv (.bool (decide (xb.2.1 ≤ 1048576))) (V.leq rfl rfl) <| jv (.bool (decide (xb.2.1 ≤ 1048576))) (V.pickT rfl hc234 rfl) ?_
     refine J.nil ?_
     exact ⟨rfl, ⟨(by simp only [hc234]; rfl), rfl, rfl, rfl, trivial⟩, rfl, rfl⟩
   refine J.skip rfl rfl rfl rfl hc234 <| J.skip rfl rfl rfl rfl hc234 <| J.skip rfl rfl rfl rfl hc234 <| jv (.bool false) (V.pickF rfl hc234 rfl) <| J.nil ?_
   exact ⟨rfl, ⟨(by simp only [hc234]; rfl), rfl, rfl, rfl, trivial⟩, rfl, rfl⟩
 intro ρ
 refine jm (.bool ((t225 && (decide (xb.1 ≤ 1048576))) && (decide (xb.2.1 ≤ 1048576)))) rfl <| J.cut 4 <| jmeet [(66, .bool (((t225 && (decide (xb.1 ≤ 1048576))) && (decide (xb.2.1 ≤ 1048576))) && (decide (xb.2.2.2.1 ≤ 1048576)))), (3, .pointer (some ⟨b133, 0, none⟩)), (9, .pointer (some ⟨b222, 0, none⟩)), (10, ii i218)] ?_ ?_
 · rcases bt ((t225 && (decide (xb.1 ≤ 1048576))) && (decide (xb.2.1 ≤ 1048576))) with hc237 | hc237
   · refine J.run rfl rfl rfl hc237 <| jv _ (V.fad Tryd.underlying23 rfl nz3 rfl) <| J.run rfl rfl rfl hc237 <| jv (ii xb.2.2.2.1) (V.ld rfl (Ld.sc sc3 (Rd.cl 3 rfl rfl))) <| J.run rfl rfl rfl hc237 <| jv (.bool (decide (xb.2.2.2.1 ≤ 1048576))) (V.leq rfl rfl) <| jv (.bool (decide (xb.2.2.2.1 ≤ 1048576))) (V.pickT rfl hc237 rfl) ?_
     refine J.nil ?_
     exact ⟨rfl, ⟨(by simp only [hc237]; rfl), rfl, rfl, rfl, trivial⟩, rfl, rfl⟩
   refine J.skip rfl rfl rfl rfl hc237 <| J.skip rfl rfl rfl rfl hc237 <| J.skip rfl rfl rfl rfl hc237 <| jv (.bool false) (V.pickF rfl hc237 rfl) <| J.nil ?_
   exact ⟨rfl, ⟨(by simp only [hc237]; rfl), rfl, rfl, rfl, trivial⟩, rfl, rfl⟩
 intro ρ
 refine ja (.bool (((t225 && (decide (xb.1 ≤ 1048576))) && (decide (xb.2.1 ≤ 1048576))) && (decide (xb.2.2.2.1 ≤ 1048576)))) rfl <| J.nil <| cr <| jm (ii i218) rfl <| jv (.bool (decide (i218 = 0))) (V.eql rfl rfl) <| jm (.bool (((t225 && (decide (xb.1 ≤ 1048576))) && (decide (xb.2.1 ≤ 1048576))) && (decide (xb.2.2.2.1 ≤ 1048576)))) rfl ?_
 refine jv (.bool ((decide (i218 = 0)) == (((t225 && (decide (xb.1 ≤ 1048576))) && (decide (xb.2.1 ≤ 1048576))) && (decide (xb.2.2.2.1 ≤ 1048576))))) (V.eqb Tryd.underlying4 rfl rfl) <| jm (.bool ((decide (i218 = 0)) == (((t225 && (decide (xb.1 ≤ 1048576))) && (decide (xb.2.1 ≤ 1048576))) && (decide (xb.2.2.2.1 ≤ 1048576))))) rfl <| J.cut 8 <| jmeet [(79, .bool (((decide (i218 = 0)) == (((t225 && (decide (xb.1 ≤ 1048576))) && (decide (xb.2.1 ≤ 1048576))) && (decide (xb.2.2.2.1 ≤ 1048576)))) && (((decide (i213 = xb.1)) && ((decide (i214 = xb.2.1)) && ((decide (i215 = xb.2.2.1)) && ((decide (i216 = xb.2.2.2.1)) && (t217 == xb.2.2.2.2))))) || (!(((t225 && (decide (xb.1 ≤ 1048576))) && (decide (xb.2.1 ≤ 1048576))) && (decide (xb.2.2.2.1 ≤ 1048576)))))))] ?_ ?_
 · rcases bt ((decide (i218 = 0)) == (((t225 && (decide (xb.1 ≤ 1048576))) && (decide (xb.2.1 ≤ 1048576))) && (decide (xb.2.2.2.1 ≤ 1048576)))) with hc243 | hc243
   · refine J.run rfl rfl rfl hc243 <| jv (.agg #[ii i213, ii i214, ii i215, ii i216, .bool t217]) (V.ld rfl (Ld.agg (cs := [ii i213, ii i214, ii i215, ii i216, .bool t217]) Tryd.underlying23 sz23 rfl (Rd.cls 0 0 rfl rfl))) <| J.run rfl rfl rfl hc243 <| jv (.agg #[ii xb.1, ii xb.2.1, ii xb.2.2.1, ii xb.2.2.2.1, .bool xb.2.2.2.2]) (V.ld rfl (Ld.agg (cs := [ii xb.1, ii xb.2.1, ii xb.2.2.1, ii xb.2.2.2.1, .bool xb.2.2.2.2]) Tryd.underlying23 sz23 rfl (Rd.cls 3 0 rfl rfl))) <| J.run rfl rfl rfl hc243 <| jv (.bool ((decide (i213 = xb.1)) && ((decide (i214 = xb.2.1)) && ((decide (i215 = xb.2.2.1)) && ((decide (i216 = xb.2.2.2.1)) && (t217 == xb.2.2.2.2)))))) (V.eqst eqg23 (EqIn.st (d := 9999) rfl Tryd.underlying23 sih23 (EqFs.cons (by decide) (Ld0.sc sc3 rfl) (Ld0.sc sc3 rfl) (EqIn.int (d := 9998) rfl Tryd.underlying3) (EqFs.cons (by decide) (Ld0.sc sc3 rfl) (Ld0.sc sc3 rfl) (EqIn.int (d := 9998) rfl Tryd.underlying3) (EqFs.cons (by decide) (Ld0.sc sc3 rfl) (Ld0.sc sc3 rfl) (EqIn.int (d := 9998) rfl Tryd.underlying3) (EqFs.cons (by decide) (Ld0.sc sc3 rfl) (Ld0.sc sc3 rfl) (EqIn.int (d := 9998) rfl Tryd.underlying3) (EqFs.last (by decide) (Ld0.sc sc4 rfl) (Ld0.sc sc4 rfl) (EqIn.bool (d := 9998) rfl Tryd.underlying4))))))) rfl rfl) <| J.run rfl rfl rfl hc243 ?_
     refine jm (.bool ((decide (i213 = xb.1)) && ((decide (i214 = xb.2.1)) && ((decide (i215 = xb.2.2.1)) && ((decide (i216 = xb.2.2.2.1)) && (t217 == xb.2.2.2.2)))))) rfl <| J.cut 3 <| jmeet [(78, .bool (((decide (i213 = xb.1)) && ((decide (i214 = xb.2.1)) && ((decide (i215 = xb.2.2.1)) && ((decide (i216 = xb.2.2.2.1)) && (t217 == xb.2.2.2.2))))) || (!(((t225 && (decide (xb.1 ≤ 1048576))) && (decide (xb.2.1 ≤ 1048576))) && (decide (xb.2.2.2.1 ≤ 1048576)))))), (71, .bool ((decide (i218 = 0)) == (((t225 && (decide (xb.1 ≤ 1048576))) && (decide (xb.2.1 ≤ 1048576))) && (decide (xb.2.2.2.1 ≤ 1048576)))))] ?_ ?_
     · rcases bt ((decide (i213 = xb.1)) && ((decide (i214 = xb.2.1)) && ((decide (i215 = xb.2.2.1)) && ((decide (i216 = xb.2.2.2.1)) && (t217 == xb.2.2.2.2))))) with hc246 | hc246
       · refine J.skip rfl rfl rfl rfl hc246 <| J.skip rfl rfl rfl rfl hc246 <| J.run rfl rfl rfl hc243 <| jv (.bool true) (V.pickT rfl hc246 rfl) <| J.nil ?_
         exact ⟨rfl, ⟨(by simp only [hc246]; rfl), rfl, trivial⟩, rfl, rfl⟩
       refine J.run rfl rfl rfl hc246 <| jm (.bool (((t225 && (decide (xb.1 ≤ 1048576))) && (decide (xb.2.1 ≤ 1048576))) && (decide (xb.2.2.2.1 ≤ 1048576)))) rfl <| J.run rfl rfl rfl hc246 <| jv (.bool (!(((t225 && (decide (xb.1 ≤ 1048576))) && (decide (xb.2.1 ≤ 1048576))) && (decide (xb.2.2.2.1 ≤ 1048576))))) (V.not rfl) <| J.run rfl rfl rfl hc243 <| jv (.bool (!(((t225 && (decide (xb.1 ≤ 1048576))) && (decide (xb.2.1 ≤ 1048576))) && (decide (xb.2.2.2.1 ≤ 1048576))))) (V.pickF rfl hc246 rfl) <| J.nil ?_
       exact ⟨rfl, ⟨(by simp only [hc246]; rfl), rfl, trivial⟩, rfl, rfl⟩
     intro ρ
     refine jv (.bool (((decide (i213 = xb.1)) && ((decide (i214 = xb.2.1)) && ((decide (i215 = xb.2.2.1)) && ((decide (i216 = xb.2.2.2.1)) && (t217 == xb.2.2.2.2))))) || (!(((t225 && (decide (xb.1 ≤ 1048576))) && (decide (xb.2.1 ≤ 1048576))) && (decide (xb.2.2.2.1 ≤ 1048576)))))) (V.pickT rfl hc243 rfl) <| J.nil ?_
     exact ⟨rfl, ⟨(by simp only [hc243]; rfl), trivial⟩, rfl, rfl⟩
   refine J.skip rfl rfl rfl rfl hc243 <| J.skip rfl rfl rfl rfl hc243 <| J.skip rfl rfl rfl rfl hc243 <| J.skip rfl rfl rfl rfl hc243 <| J.skipu rfl rfl rfl rfl <| J.skipu rfl rfl rfl rfl <| J.skip rfl rfl rfl rfl hc243 ?_
   refine jv (.bool false) (V.pickF rfl hc243 rfl) <| J.nil ?_
   exact ⟨rfl, ⟨(by simp only [hc243]; rfl), trivial⟩, rfl, rfl⟩
 intro ρ
 refine jm (.bool (((decide (i218 = 0)) == (((t225 && (decide (xb.1 ≤ 1048576))) && (decide (xb.2.1 ≤ 1048576))) && (decide (xb.2.2.2.1 ≤ 1048576)))) && (((decide (i213 = xb.1)) && ((decide (i214 = xb.2.1)) && ((decide (i215 = xb.2.2.1)) && ((decide (i216 = xb.2.2.2.1)) && (t217 == xb.2.2.2.2))))) || (!(((t225 && (decide (xb.1 ≤ 1048576))) && (decide (xb.2.1 ≤ 1048576))) && (decide (xb.2.2.2.1 ≤ 1048576))))))) rfl <| J.cut 2 ?_
 obtain ⟨t254, ht255, h⟩ := ob h
 refine jmeet [(82, .bool t254)] ?_ ?_
 · rcases bt (((decide (i218 = 0)) == (((t225 && (decide (xb.1 ≤ 1048576))) && (decide (xb.2.1 ≤ 1048576))) && (decide (xb.2.2.2.1 ≤ 1048576)))) && (((decide (i213 = xb.1)) && ((decide (i214 = xb.2.1)) && ((decide (i215 = xb.2.2.1)) && ((decide (i216 = xb.2.2.2.1)) && (t217 == xb.2.2.2.2))))) || (!(((t225 && (decide (xb.1 ≤ 1048576))) && (decide (xb.2.1 ≤ 1048576))) && (decide (xb.2.2.2.1 ≤ 1048576)))))) with hc256 | hc256
   · have ht255 := ct hc256 ht255
     refine J.run rfl rfl rfl hc256 ?_
     obtain ⟨r257, hr258, ht255⟩ := ob ht255
     refine J.op rfl (A.call (L1 := []) Tryd.call6 rfl (law26_awake_ok fG hr258) rfl rfl) ?_
     rintro _ _ _ ⟨v260, _, rfl, ⟨⟨t259, rfl, rfl, rfl⟩, rfl⟩, _, rfl⟩
     refine jv (.bool t259) (V.pickT rfl hc256 rfl) <| J.nil ?_
     obtain rfl := si ht255
     exact ⟨rfl, ⟨rfl, trivial⟩, rfl, rfl⟩
   have ht255 := cf hc256 ht255
   refine J.skip rfl rfl rfl rfl hc256 <| jv (.bool false) (V.pickF rfl hc256 rfl) <| J.nil ?_
   obtain rfl := si ht255
   exact ⟨rfl, ⟨rfl, trivial⟩, rfl, rfl⟩
 intro ρ
 refine ja (.bool t254) rfl <| J.nil <| CJ.ret ?_
 obtain rfl := si h
 exact ⟨_, _, Res.one rfl rfl, ⟨t254, rfl, rfl, rfl⟩, (Hp.le_refl _), fun w hs => (Sep.dropAt 0 rfl (Sep.dropAt 0 rfl (Sep.dropAt 0 rfl (Sep.dropAt 0 rfl hs))))⟩

noncomputable def fn_cmp_isNaN_int (xa : Int) : Option Bool :=
  some (!decide (xa = xa))
set_option maxRecDepth 100000 in
set_option maxHeartbeats 4000000 in
theorem cmp_isNaN_int_ok {K : Hp} {xa : Int}   {r : Bool} (h : fn_cmp_isNaN_int xa = some r) :
    Tr Tryd.prog 42 #[ii xa] K [] (fun v K' L' => (∃ (t1 : Bool), t1 = r ∧ .bool t1 = v ∧ L' = []) ∧ K = K') := by
 refine Tr.k <| Tr.of Tryd.func42 rfl Tryd.ntmps42 rfl fun E F => ?_
 unfold fn_cmp_isNaN_int at h
 refine cr <| ja (.bool false) rfl <| J.nil <| cr <| jm (ii xa) rfl ?_
 refine jm (ii xa) rfl <| jv (.bool (!decide (xa = xa))) (V.neq rfl rfl) <| ja (.bool (!decide (xa = xa))) rfl <| J.nil <| CJ.ret ?_
 obtain rfl := si h
 exact ⟨_, _, Res.one rfl rfl, ⟨!decide (xa = xa), rfl, rfl, rfl⟩, (Hp.le_refl _), fun w hs => hs⟩

noncomputable def fn_cmp_Compare_int (xa : Int) (xb : Int) : Option Int :=
  (fn_cmp_isNaN_int xa).bind fun t21 => (fn_cmp_isNaN_int xb).bind fun t27 => cond (t21) (cond (t27) (some (0)) (some ((-1)))) (cond (t27) (some (1)) (cond (decide (xa < xb)) (some ((-1))) (cond (decide (xb < xa)) (some (1)) (some (0)))))
set_option maxRecDepth 100000 in
set_option maxHeartbeats 4000000 in
theorem cmp_Compare_int_ok {K : Hp} {xa : Int} {xb : Int}   {r : Int} (h : fn_cmp_Compare_int xa xb = some r) :
    Tr Tryd.prog 34 #[ii xa, ii xb] K [] (fun v K' L' => (∃ (i18 : Int), i18 = r ∧ ii i18 = v ∧ L' = []) ∧ K = K') := by
 refine Tr.k <| Tr.of Tryd.func34 rfl Tryd.ntmps34 rfl fun E F => ?_
 unfold fn_cmp_Compare_int at h
 refine cr <| ja (ii 0) rfl <| J.nil <| cr <| jm (ii xa) rfl ?_
 obtain ⟨r19, hr20, h⟩ := ob h
 refine J.op rfl (A.call (L1 := []) Tryd.call42 rfl (cmp_isNaN_int_ok hr20) rfl rfl) ?_
 rintro _ _ _ ⟨v22, _, rfl, ⟨⟨t21, rfl, rfl, rfl⟩, rfl⟩, _, rfl⟩
 refine ja (.bool t21) rfl <| J.nil <| cr <| jm (ii xb) rfl ?_
 obtain ⟨r25, hr26, h⟩ := ob h
 refine J.op rfl (A.call (L1 := []) Tryd.call42 rfl (cmp_isNaN_int_ok hr26) rfl rfl) ?_
 rintro _ _ _ ⟨v28, _, rfl, ⟨⟨t27, rfl, rfl, rfl⟩, rfl⟩, _, rfl⟩
 refine ja (.bool t27) rfl <| J.nil <| CJ.seq <| cr <| jm (.bool t21) rfl <| J.nil ?_
 refine cc rfl h (fun hc31 h => ?_) fun hc31 h => ?_
 · refine CJ.seq <| cr <| jm (.bool t27) rfl <| J.nil <| cc rfl h (fun hc32 h => ?_) fun hc32 h => ?_
   · refine cr <| ja (ii 0) rfl <| J.nil <| CJ.ret ?_
     obtain rfl := si h
     exact ⟨_, _, Res.one rfl rfl, ⟨0, rfl, rfl, rfl⟩, (Hp.le_refl _), fun w hs => hs⟩
   refine CJ.skip <| cr <| ja (ii (-1)) rfl <| J.nil <| CJ.ret ?_
   obtain rfl := si h
   exact ⟨_, _, Res.one rfl rfl, ⟨(-1), rfl, rfl, rfl⟩, (Hp.le_refl _), fun w hs => hs⟩
 refine CJ.skip <| CJ.seq <| cr <| jm (.bool t27) rfl <| J.nil <| cc rfl h (fun hc33 h => ?_) fun hc33 h => ?_
 · refine cr <| ja (ii 1) rfl <| J.nil <| CJ.ret ?_
   obtain rfl := si h
   exact ⟨_, _, Res.one rfl rfl, ⟨1, rfl, rfl, rfl⟩, (Hp.le_refl _), fun w hs => hs⟩
 refine CJ.skip <| CJ.seq <| cr <| jm (ii xa) rfl <| jm (ii xb) rfl <| jv (.bool (decide (xa < xb))) (V.lss rfl rfl) ?_
 refine J.nil <| cc rfl h (fun hc34 h => ?_) fun hc34 h => ?_
 · refine cr <| ja (ii (-1)) rfl <| J.nil <| CJ.ret ?_
   obtain rfl := si h
   exact ⟨_, _, Res.one rfl rfl, ⟨(-1), rfl, rfl, rfl⟩, (Hp.le_refl _), fun w hs => hs⟩
 refine CJ.skip <| CJ.seq <| cr <| jm (ii xa) rfl <| jm (ii xb) rfl <| jv (.bool (decide (xb < xa))) (V.gtr rfl rfl) ?_
 refine J.nil <| cc rfl h (fun hc35 h => ?_) fun hc35 h => ?_
 · refine cr <| ja (ii 1) rfl <| J.nil <| CJ.ret ?_
   obtain rfl := si h
   exact ⟨_, _, Res.one rfl rfl, ⟨1, rfl, rfl, rfl⟩, (Hp.le_refl _), fun w hs => hs⟩
 refine CJ.skip <| cr <| ja (ii 0) rfl <| J.nil <| CJ.ret ?_
 obtain rfl := si h
 exact ⟨_, _, Res.one rfl rfl, ⟨0, rfl, rfl, rfl⟩, (Hp.le_refl _), fun w hs => hs⟩

noncomputable def fn_prov_Compare_1 (xa : (Int × Int × Int × Int × Bool)) : Option Int :=
  cond (xa.2.2.2.2) (some (1)) (some (0))
set_option maxRecDepth 100000 in
set_option maxHeartbeats 4000000 in
theorem prov_Compare_1_ok {K : Hp} {xa : (Int × Int × Int × Int × Bool)}   {r : Int} (h : fn_prov_Compare_1 xa = some r) :
    Tr Tryd.prog 32 #[.agg #[ii xa.1, ii xa.2.1, ii xa.2.2.1, ii xa.2.2.2.1, .bool xa.2.2.2.2]] K [] (fun v K' L' => (∃ (i3 : Int), i3 = r ∧ ii i3 = v ∧ L' = []) ∧ K = K') := by
 refine Tr.k <| Tr.of Tryd.func32 rfl Tryd.ntmps32 rfl fun E F => ?_
 unfold fn_prov_Compare_1 at h
 refine cr <| jbx [ii xa.1, ii xa.2.1, ii xa.2.2.1, ii xa.2.2.2.1, .bool xa.2.2.2.2] rfl rfl fun b4 => ja (ii 0) rfl <| J.nil <| CJ.seq <| CJ.seq ?_
 refine CJ.region <| jv _ (V.fad Tryd.underlying23 rfl nz4 rfl) <| jv (.bool xa.2.2.2.2) (V.ld rfl (Ld.sc sc4 (Rd.cl 0 rfl rfl))) <| J.nil <| cc rfl h (fun hc5 h => ?_) fun hc5 h => ?_
 · refine cr <| ja (ii 1) rfl <| J.nil <| CJ.ret ?_
   obtain rfl := si h
   exact ⟨_, _, Res.one rfl rfl, ⟨1, rfl, rfl, rfl⟩, (Hp.le_refl _), fun w hs => (Sep.dropAt 0 rfl hs)⟩
 refine CJ.skip <| cr <| ja (ii 0) rfl <| J.nil <| CJ.ret ?_
 obtain rfl := si h
 exact ⟨_, _, Res.one rfl rfl, ⟨0, rfl, rfl, rfl⟩, (Hp.le_refl _), fun w hs => (Sep.dropAt 0 rfl hs)⟩
noncomputable def fn_cmp_Or_int_l1 (xa : (List Int)) : Int → Option (Int ⊕ (Unit ⊕ Int)) := fun (i141 : Int) => cond (decide (i141 < (((xa.length : Nat) : Int)))) ((getI xa i141).bind fun x159 => cond (!decide (x159 = 0)) (some (.inr ((.inr (x159))))) (some (.inl (IntKind.wrap .i64 (i141 + 1))))) (some (.inr ((.inl ()))))
noncomputable def fn_cmp_Or_int (xa : (List Int)) : Option Int :=
  (loop (fn_cmp_Or_int_l1 xa) 0 : Option (Unit ⊕ Int)).bind fun o => match o with | .inr r => some r | .inl () => some (0)
set_option maxRecDepth 100000 in
set_option maxHeartbeats 4000000 in
theorem cmp_Or_int_ok {K : Hp} {xa : (List Int)} {adxa_0 : Option Addr} {cpxa_0 : Nat} (fxa_0 : Is K (.sl (.int .i64)) [.slice adxa_0 xa.length cpxa_0] xa) {r : Int} (h : fn_cmp_Or_int xa = some r) :
    Tr Tryd.prog 33 #[.slice adxa_0 xa.length cpxa_0] K [] (fun v K' L' => (∃ (i86 : Int), i86 = r ∧ ii i86 = v ∧ L' = []) ∧ K = K') := by
 refine Tr.k <| Tr.of Tryd.func33 rfl Tryd.ntmps33 rfl fun E F => ?_
 unfold fn_cmp_Or_int at h
 refine cr <| ja (ii 0) rfl <| J.nil <| cr <| ja (ii 0) rfl ?_
 refine J.nil <| CJ.seq <| cr <| jm (.slice adxa_0 xa.length cpxa_0) rfl <| jv (ii (((xa.length : Nat) : Int))) (V.len Tryd.underlying71 rfl) <| jm (ii 0) rfl ?_
 refine J.nil ?_
 obtain ⟨o127, ho128, h⟩ := ob h
 refine CJ.joinN (o := o127) (fun s ρ K' L' => () = s ∧ Fits [(3, ii 0)] ρ ∧ K = K' ∧ F = L') ?_ ?_
 · refine CJ.block <| CJ.loop (fun s ρ K' L' => ∃ (i141 : Int), i141 = s ∧ Fits [(3, ii 0), (6, .slice adxa_0 xa.length cpxa_0), (7, ii (((xa.length : Nat) : Int))), (8, ii i141)] ρ ∧ K = K' ∧ F = L') ho128 ⟨0, rfl, ⟨rfl, rfl, rfl, rfl, trivial⟩, rfl, rfl⟩ ?_
   rintro s ρ _ _ r157 ⟨i141, rfl, hf155, rfl, rfl⟩ h154
   obtain ⟨ρ, rfl⟩ := hf155.ex
   refine cr <| jv (.bool (decide (i141 < (((xa.length : Nat) : Int))))) (V.lss rfl rfl) <| J.nil <| CJ.seq <| cc rfl h154 (fun hc158 h154 => ?_) fun hc158 h154 => ?_
   · refine CJ.skip <| CJ.seq <| CJ.block <| CJ.seq <| CJ.region ?_
     obtain ⟨x159, hx160, h154⟩ := ob h154
     obtain ⟨p161, p162, p163⟩ := getI_some hx160
     obtain ⟨b164, o165, e166, a167⟩ := (fxa_0).at p162
     refine jv _ (V.iad Tryd.underlying71 sz3 rfl e166 rfl p161 p163) <| jv (ii x159) (V.ld rfl (Ld.sc sc3 (Rd.k (a167).int (Hp.le_refl _)))) <| ja (ii x159) rfl <| J.nil <| cr <| jm (ii x159) rfl ?_
     refine jm (ii 0) rfl <| jv (.bool (!decide (x159 = 0))) (V.neq rfl rfl) <| J.nil <| cc rfl h154 (fun hc168 h154 => ?_) fun hc168 h154 => ?_
     · refine cr <| jm (ii x159) rfl <| ja (ii x159) rfl <| J.nil <| CJ.ret ?_
       obtain rfl := si h154
       refine ⟨nofun, fun e => ?_⟩
       subst e
       refine .inr ⟨nofun, ?_⟩
       obtain rfl := si h
       exact ⟨_, _, Res.one rfl rfl, ⟨x159, rfl, rfl, rfl⟩, (Hp.le_refl _), fun w hs => hs⟩
     refine CJ.skip <| CJ.region <| jv (ii (IntKind.wrap .i64 (i141 + 1))) (V.add rfl rfl) <| jm (ii (IntKind.wrap .i64 (i141 + 1))) rfl <| J.nil ?_
     obtain rfl := si h154
     exact ⟨rfl, ⟨IntKind.wrap .i64 (i141 + 1), rfl, ⟨rfl, rfl, rfl, rfl, trivial⟩, rfl, rfl⟩⟩
   refine CJ.exit ?_
   obtain rfl := si h154
   refine ⟨nofun, fun e => ?_⟩
   subst e
   exact .inl ⟨rfl, _, rfl, ⟨rfl, ⟨rfl, trivial⟩, rfl, rfl⟩⟩
 rintro s ρ _ _ ho169 ⟨rfl, hf170, rfl, rfl⟩
 subst ho169
 obtain ⟨ρ, rfl⟩ := hf170.ex
 refine PJ.done <| cr <| jm (ii 0) rfl <| ja (ii 0) rfl <| J.nil <| CJ.ret ?_
 obtain rfl := si h
 exact ⟨_, _, Res.one rfl rfl, ⟨0, rfl, rfl, rfl⟩, (Hp.le_refl _), fun w hs => hs⟩
end Go.Proofs.YtaokbmfhobbmaaaDoor
