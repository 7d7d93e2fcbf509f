/- What Go functions answer: generated. -/
import Derived.Test.YtelekeapfgfknaaSh
import Derived.Test.YtelekeapfgfknaaRows
import Derived.Test.YtelekeapfgfknaaAw
import Derived.Test.YtelekeapfgfknaaDp
import Derived.Test.YtelekeapfgfknaaFl
import Derived.Test.YtelekeapfgfknaaSt
namespace Go.Proofs.Ytelekeapfgfknaa
open Go.RowKit
set_option linter.unusedVariables false
set_option linter.unnecessarySimpa false
set_option linter.unusedSimpArgs false
set_option maxRecDepth 20000
theorem inf50 : Inf Try.prog 50 (.agg #[.int .i64 0, .bool false]) 2 16 := by unfold Inf; kernel_rfl
theorem places50 : Places Try.prog 50 [(0, 1), (1, 1)] := ⟨_, Try.underlying50, by kernel_rfl⟩
theorem inf30 : Inf Try.prog 30 (.agg #[.slice none 0 0]) 1 24 := by unfold Inf; kernel_rfl
theorem places30 : Places Try.prog 30 [(0, 1)] := ⟨_, Try.underlying30, by kernel_rfl⟩
theorem inf52 : Inf Try.prog 52 (.agg #[.int .i64 0, .int .i64 0, .int .i64 0, .int .i64 0, .bool false]) 5 40 := by unfold Inf; kernel_rfl
theorem places52 : Places Try.prog 52 [(0, 1), (1, 1), (2, 1), (3, 1), (4, 1)] := ⟨_, Try.underlying52, by kernel_rfl⟩
theorem inf56 : Inf Try.prog 56 (.agg #[.int .i64 0, .int .i64 0, .int .i64 0, .slice none 0 0, .slice none 0 0, .slice none 0 0]) 6 96 := by unfold Inf; kernel_rfl
theorem places56 : Places Try.prog 56 [(0, 1), (1, 1), (2, 1), (3, 1), (4, 1), (5, 1)] := ⟨_, Try.underlying56, by kernel_rfl⟩
theorem inf58 : Inf Try.prog 58 (.agg #[.slice none 0 0, .int .i64 0, .int .i64 0, .int .i64 0, .slice none 0 0, .slice none 0 0, .slice none 0 0]) 7 120 := by unfold Inf; kernel_rfl
theorem places58 : Places Try.prog 58 [(0, 1), (1, 6)] := ⟨_, Try.underlying58, by kernel_rfl⟩
theorem inf34 : Inf Try.prog 34 (.agg #[.int .i64 0, .int .i64 0, .slice none 0 0, .slice none 0 0, .slice none 0 0, .slice none 0 0, .slice none 0 0]) 7 136 := by unfold Inf; kernel_rfl
theorem places34 : Places Try.prog 34 [(0, 1), (1, 1), (2, 1), (3, 1), (4, 1), (5, 1), (6, 1)] := ⟨_, Try.underlying34, by kernel_rfl⟩
theorem sz34 : (Try.prog.info? 34).map (·.size) = some 7 := by kernel_rfl
theorem inf86 : Inf Try.prog 86 (.agg #[.slice none 0 0, .int .i64 0]) 2 32 := by unfold Inf; kernel_rfl
theorem places86 : Places Try.prog 86 [(0, 1), (1, 1)] := ⟨_, Try.underlying86, by kernel_rfl⟩
theorem inf104 : Inf Try.prog 104 (.agg #[.int .i64 0, .int .i64 0, .int .i64 0, .int .i64 0]) 4 32 := by unfold Inf; kernel_rfl
theorem inf105 : Inf Try.prog 105 .nilFunc 1 8 := by unfold Inf; kernel_rfl
theorem sz105 : (Try.prog.info? 105).map (·.size) = some 1 := by kernel_rfl
theorem sc105 : scalar Try.prog 105 = true := by kernel_rfl
theorem places104 : Places Try.prog 104 [(0, 1), (1, 1), (2, 1), (3, 1)] := ⟨_, Try.underlying104, by kernel_rfl⟩
theorem sz104 : (Try.prog.info? 104).map (·.size) = some 4 := by kernel_rfl
theorem nz3 : Try.prog.cellsOf 3 ≠ 0 := by decide +kernel
theorem sc3 : scalar Try.prog 3 = true := by kernel_rfl
theorem nz37 : Try.prog.cellsOf 37 ≠ 0 := by decide +kernel
theorem sz37 : (Try.prog.info? 37).map (·.size) = some 1 := by kernel_rfl
theorem sc37 : scalar Try.prog 37 = true := by kernel_rfl
theorem nz26 : Try.prog.cellsOf 26 ≠ 0 := by decide +kernel
theorem sc26 : scalar Try.prog 26 = true := by kernel_rfl
theorem sz83 : (Try.prog.info? 83).map (·.size) = some 2 := by kernel_rfl
theorem inf83 : Inf Try.prog 83 (.agg #[.int .i64 0, .int .i64 0]) 2 16 := by unfold Inf; kernel_rfl
theorem nz27 : Try.prog.cellsOf 27 ≠ 0 := by decide +kernel
theorem sc27 : scalar Try.prog 27 = true := by kernel_rfl
theorem sz30 : (Try.prog.info? 30).map (·.size) = some 1 := by kernel_rfl
theorem nz28 : Try.prog.cellsOf 28 ≠ 0 := by decide +kernel
theorem sc28 : scalar Try.prog 28 = true := by kernel_rfl
theorem sz50 : (Try.prog.info? 50).map (·.size) = some 2 := by kernel_rfl
theorem nz30 : Try.prog.cellsOf 30 ≠ 0 := by decide +kernel
theorem nz4 : Try.prog.cellsOf 4 ≠ 0 := by decide +kernel
theorem sc4 : scalar Try.prog 4 = true := by kernel_rfl
theorem mixO : Try.prog.follows .mixedOrders = true := by kernel_rfl
theorem nz31 : Try.prog.cellsOf 31 ≠ 0 := by decide +kernel
theorem sc31 : scalar Try.prog 31 = true := by kernel_rfl
theorem sz135 : (Try.prog.info? 135).map (·.size) = some 4 := by kernel_rfl
theorem inf135 : Inf Try.prog 135 (.agg #[.int .i64 0, .slice none 0 0, .slice none 0 0, .slice none 0 0]) 4 80 := by unfold Inf; kernel_rfl
theorem nz32 : Try.prog.cellsOf 32 ≠ 0 := by decide +kernel
theorem sc32 : scalar Try.prog 32 = true := by kernel_rfl
theorem sz58 : (Try.prog.info? 58).map (·.size) = some 7 := by kernel_rfl
theorem nz53 : Try.prog.cellsOf 53 ≠ 0 := by decide +kernel
theorem sc53 : scalar Try.prog 53 = true := by kernel_rfl
theorem inf111 : Inf Try.prog 111 (.agg #[.int .i64 0, .int .i64 0, .slice none 0 0, .slice none 0 0, .slice none 0 0]) 5 88 := by unfold Inf; kernel_rfl
theorem places111 : Places Try.prog 111 [(0, 1), (1, 1), (2, 1), (3, 1), (4, 1)] := ⟨_, Try.underlying111, by kernel_rfl⟩
theorem sz111 : (Try.prog.info? 111).map (·.size) = some 5 := by kernel_rfl
theorem sz52 : (Try.prog.info? 52).map (·.size) = some 5 := by kernel_rfl
theorem inf126 : Inf Try.prog 126 (.agg #[.bool false, .bool false, .bool false]) 3 3 := by unfold Inf; kernel_rfl
theorem places126 : Places Try.prog 126 [(0, 1), (1, 1), (2, 1)] := ⟨_, Try.underlying126, by kernel_rfl⟩
theorem sz126 : (Try.prog.info? 126).map (·.size) = some 3 := by kernel_rfl
theorem sz3 : (Try.prog.info? 3).map (·.size) = some 1 := by kernel_rfl
theorem sz4 : (Try.prog.info? 4).map (·.size) = some 1 := by kernel_rfl
theorem sih52 : Try.prog.stoodInHeld 52 = false := by kernel_rfl
theorem eqg52 : Try.prog.eqGuardType Try.prog.depth 52 = false := by kernel_rfl
theorem inf93 : Inf Try.prog 93 (.agg #[.int .i64 0, .int .i64 0, .int .i64 0, .int .i64 0, .bool false]) 5 40 := by unfold Inf; kernel_rfl
theorem places93 : Places Try.prog 93 [(0, 1), (1, 1), (2, 1), (3, 1), (4, 1)] := ⟨_, Try.underlying93, by kernel_rfl⟩
theorem nz56 : Try.prog.cellsOf 56 ≠ 0 := by decide +kernel
theorem sz56 : (Try.prog.info? 56).map (·.size) = some 6 := by kernel_rfl
theorem nz54 : Try.prog.cellsOf 54 ≠ 0 := by decide +kernel
theorem sc54 : scalar Try.prog 54 = true := by kernel_rfl
theorem inf3 : Inf Try.prog 3 (.int .i64 0) 1 8 := by unfold Inf; kernel_rfl
theorem sz54 : (Try.prog.info? 54).map (·.size) = some 1 := by kernel_rfl
theorem inf75 : Inf Try.prog 75 (.agg #[.int .i64 0, .int .i64 0, .slice none 0 0, .slice none 0 0, .slice none 0 0, .slice none 0 0, .slice none 0 0, .pointer none]) 8 144 := by unfold Inf; kernel_rfl
theorem places75 : Places Try.prog 75 [(0, 7), (7, 1)] := ⟨_, Try.underlying75, by kernel_rfl⟩
theorem sz75 : (Try.prog.info? 75).map (·.size) = some 8 := by kernel_rfl
theorem nz72 : Try.prog.cellsOf 72 ≠ 0 := by decide +kernel
theorem sc72 : scalar Try.prog 72 = true := by kernel_rfl
theorem nz34 : Try.prog.cellsOf 34 ≠ 0 := by decide +kernel
theorem sz93 : (Try.prog.info? 93).map (·.size) = some 5 := by kernel_rfl
theorem inf45 : Inf Try.prog 45 (.agg #[.int .i64 0, .int .i64 0, .int .i64 0, .int .i64 0, .bool false]) 5 40 := by unfold Inf; kernel_rfl
theorem places45 : Places Try.prog 45 [(0, 1), (1, 1), (2, 1), (3, 1), (4, 1)] := ⟨_, Try.underlying45, by kernel_rfl⟩
theorem sz45 : (Try.prog.info? 45).map (·.size) = some 5 := by kernel_rfl
theorem inf47 : Inf Try.prog 47 (.agg #[.int .i64 0, .int .i64 0, .int .i64 0, .int .i64 0, .int .i64 0, .int .i64 0, .bool false]) 7 56 := by unfold Inf; kernel_rfl
theorem places47 : Places Try.prog 47 [(0, 1), (1, 1), (2, 5)] := ⟨_, Try.underlying47, by kernel_rfl⟩
theorem sz47 : (Try.prog.info? 47).map (·.size) = some 7 := by kernel_rfl
theorem places83 : Places Try.prog 83 [(0, 1), (1, 1)] := ⟨_, Try.underlying83, by kernel_rfl⟩
theorem nz45 : Try.prog.cellsOf 45 ≠ 0 := by decide +kernel
theorem inf112 : Inf Try.prog 112 (.agg #[.int .u8 0, .int .u8 0, .int .u8 0, .int .u8 0, .int .u8 0, .int .u8 0, .int .u8 0, .int .u8 0, .int .u8 0, .int .u8 0, .int .u8 0, .int .u8 0, .int .u8 0, .int .u8 0, .int .u8 0, .int .u8 0, .int .u8 0, .int .u8 0, .int .u8 0, .int .u8 0]) 20 20 := by unfold Inf; kernel_rfl
theorem sz5 : (Try.prog.info? 5).map (·.size) = some 1 := by kernel_rfl
theorem inf9 : Inf Try.prog 9 (.string ⟨[].toArray⟩) 1 16 := by unfold Inf; kernel_rfl
theorem sz9 : (Try.prog.info? 9).map (·.size) = some 1 := by kernel_rfl
theorem sc9 : scalar Try.prog 9 = true := by kernel_rfl
theorem inf41 : Inf Try.prog 41 (.agg #[.int .i64 0, .int .i64 0]) 2 16 := by unfold Inf; kernel_rfl
theorem places41 : Places Try.prog 41 [(0, 1), (1, 1)] := ⟨_, Try.underlying41, by kernel_rfl⟩
theorem sz41 : (Try.prog.info? 41).map (·.size) = some 2 := by kernel_rfl
theorem inf69 : Inf Try.prog 69 (.agg #[.int .i64 0, .slice none 0 0, .slice none 0 0, .slice none 0 0, .slice none 0 0, .slice none 0 0]) 6 128 := by unfold Inf; kernel_rfl
theorem places69 : Places Try.prog 69 [(0, 1), (1, 1), (2, 2), (4, 2)] := ⟨_, Try.underlying69, by kernel_rfl⟩
theorem nz62 : Try.prog.cellsOf 62 ≠ 0 := by decide +kernel
theorem sc62 : scalar Try.prog 62 = true := by kernel_rfl
theorem inf67 : Inf Try.prog 67 (.agg #[.slice none 0 0, .slice none 0 0]) 2 48 := by unfold Inf; kernel_rfl
theorem places67 : Places Try.prog 67 [(0, 1), (1, 1)] := ⟨_, Try.underlying67, by kernel_rfl⟩
theorem sz67 : (Try.prog.info? 67).map (·.size) = some 2 := by kernel_rfl
theorem nz67 : Try.prog.cellsOf 67 ≠ 0 := by decide +kernel
theorem inf65 : Inf Try.prog 65 (.agg #[.int .i64 0, .int .i64 0]) 2 16 := by unfold Inf; kernel_rfl
theorem places65 : Places Try.prog 65 [(0, 1), (1, 1)] := ⟨_, Try.underlying65, by kernel_rfl⟩
theorem sz65 : (Try.prog.info? 65).map (·.size) = some 2 := by kernel_rfl

noncomputable def fn_tick_Counter_Add_zii (xb : Int) (xc : Int) : Option Unit :=
  some (())
set_option maxRecDepth 100000 in
set_option maxHeartbeats 4000000 in
theorem tick_Counter_Add_zii_ok {K : Hp} {xb : Int} {xc : Int}   {r : Unit} (h : fn_tick_Counter_Add_zii xb xc = some r) :
    Tr Try.prog 18 #[.pointer none, ii xb, ii xc] K [] (fun v K' L' => (() = r ∧ .tuple #[] = v ∧ L' = []) ∧ K = K') := by
 refine Tr.k <| Tr.of Try.func18 rfl Try.ntmps18 rfl fun E F => ?_
 unfold fn_tick_Counter_Add_zii at h
 refine cr <| jm (.pointer none) rfl <| jv (.bool false) (Val.eq (V.pn_neq Try.underlying71 rfl rfl) rfl) <| jm (.bool false) rfl <| J.skip rfl rfl rfl rfl rfl <| J.skip rfl rfl rfl rfl rfl ?_
 refine jv (.bool false) (V.pickF rfl rfl rfl) <| jm (.bool false) rfl <| J.skip rfl rfl rfl rfl rfl <| J.skip rfl rfl rfl rfl rfl <| jv (.bool false) (V.pickF rfl rfl rfl) <| J.nil <| CJ.condK (b := false) rfl rfl ?_
 refine CJ.skip ?_
 obtain rfl := si h
 exact ⟨_, _, Res.zero rfl, ⟨rfl, rfl, rfl⟩, (Hp.le_refl _), fun w hs => hs⟩

noncomputable def fn_valid_head_az (xa : (Int × Int × (List (Int × Int)) × (List (List (Int × Bool))) × (List (Int × Bool)) × (List (Int × (List (Int × Int)) × (List (List (Int × Bool))) × (List (Int × Bool)))) × (List ((List (Int × Int × Int × Int × Bool)) × (Int × Int × Int × (List Int) × (List Int) × (List Int)))))) : Option (Int × Int × Int × Int) :=
  cond ((decide (xa.1 < 1)) || (decide (xa.2.1 < xa.1))) (some ((7, 0, 0, 0))) (cond (decide (65536 < xa.2.1)) (some ((6, 0, 0, 0))) (some ((0, 0, 0, 0))))
set_option maxRecDepth 100000 in
set_option maxHeartbeats 4000000 in
theorem valid_head_az_ok {K : Hp} {xa : (Int × Int × (List (Int × Int)) × (List (List (Int × Bool))) × (List (Int × Bool)) × (List (Int × (List (Int × Int)) × (List (List (Int × Bool))) × (List (Int × Bool)))) × (List ((List (Int × Int × Int × Int × Bool)) × (Int × Int × Int × (List Int) × (List Int) × (List Int)))))} {adxa_2 : Option Addr} {cpxa_2 : Nat} {adxa_3 : Option Addr} {cpxa_3 : Nat} {adxa_4 : Option Addr} {cpxa_4 : Nat} {adxa_5 : Option Addr} {cpxa_5 : Nat} {adxa_6 : Option Addr} {cpxa_6 : Nat} (fxa_2 : Is K (.sl (.cons (.int .i64) (.one (.int .i64)))) [.slice adxa_2 xa.2.2.1.length cpxa_2] xa.2.2.1) (fxa_3 : Is K (.sl (.one (.sl (.cons (.int .i64) (.one .bool))))) [.slice adxa_3 xa.2.2.2.1.length cpxa_3] xa.2.2.2.1) (fxa_4 : Is K (.sl (.cons (.int .i64) (.one .bool))) [.slice adxa_4 xa.2.2.2.2.1.length cpxa_4] xa.2.2.2.2.1) (fxa_5 : Is K (.sl (.cons (.int .i64) (.cons (.sl (.cons (.int .i64) (.one (.int .i64)))) (.cons (.sl (.one (.sl (.cons (.int .i64) (.one .bool))))) (.one (.one (.sl (.cons (.int .i64) (.one .bool))))))))) [.slice adxa_5 xa.2.2.2.2.2.1.length cpxa_5] xa.2.2.2.2.2.1) (fxa_6 : Is K (.sl (.cons (.sl (.cons (.int .i64) (.cons (.int .i64) (.cons (.int .i64) (.cons (.int .i64) (.one .bool)))))) (.one (.cons (.int .i64) (.cons (.int .i64) (.cons (.int .i64) (.cons (.sl (.int .i64)) (.cons (.sl (.int .i64)) (.one (.sl (.int .i64))))))))))) [.slice adxa_6 xa.2.2.2.2.2.2.length cpxa_6] xa.2.2.2.2.2.2) {r : (Int × Int × Int × Int)} (h : fn_valid_head_az xa = some r) :
    Tr Try.prog 44 #[.agg #[ii xa.1, ii xa.2.1, .slice adxa_2 xa.2.2.1.length cpxa_2, .slice adxa_3 xa.2.2.2.1.length cpxa_3, .slice adxa_4 xa.2.2.2.2.1.length cpxa_4, .slice adxa_5 xa.2.2.2.2.2.1.length cpxa_5, .slice adxa_6 xa.2.2.2.2.2.2.length cpxa_6], .pointer none] K [] (fun v K' L' => (∃ (i9 : Int) (i10 : Int) (i11 : Int) (i12 : Int), (i9, i10, i11, i12) = r ∧ .agg #[ii i9, ii i10, ii i11, ii i12] = v ∧ L' = []) ∧ K = K') := by
 refine Tr.k <| Tr.of Try.func44 rfl Try.ntmps44 rfl fun E F => ?_
 unfold fn_valid_head_az at h
 refine cr <| jbx [ii xa.1, ii xa.2.1, .slice adxa_2 xa.2.2.1.length cpxa_2, .slice adxa_3 xa.2.2.2.1.length cpxa_3, .slice adxa_4 xa.2.2.2.2.1.length cpxa_4, .slice adxa_5 xa.2.2.2.2.2.1.length cpxa_5, .slice adxa_6 xa.2.2.2.2.2.2.length cpxa_6] rfl rfl fun b13 => jal inf104 [ii 0, ii 0, ii 0, ii 0] rfl fun b14 => J.nil <| CJ.seq <| CJ.region ?_
 refine jv (.agg #[ii 0, ii 0, ii 0, ii 0]) (V.build inf104 places104 rfl rfl) <| jal inf104 [ii 0, ii 0, ii 0, ii 0] rfl fun b15 => js [ii 0, ii 0, ii 0, ii 0] sz104 rfl rfl rfl rfl rfl rfl <| J.nil <| CJ.seq <| CJ.block <| CJ.seq ?_
 refine CJ.region <| jv _ (V.fad Try.underlying34 rfl nz3 rfl) <| jv (ii xa.1) (V.ld rfl (Ld.sc sc3 (Rd.cl 2 rfl rfl))) <| jv (.bool (decide (xa.1 < 1))) (V.lss rfl rfl) <| jm (.bool (decide (xa.1 < 1))) rfl <| J.cut 6 <| jmeet [(17, .bool ((decide (xa.1 < 1)) || (decide (xa.2.1 < xa.1)))), (2, .pointer (some ⟨b13, 0, none⟩)), (4, .pointer (some ⟨b14, 0, none⟩)), (5, .pointer (some ⟨b15, 0, none⟩))] ?_ ?_
 · rcases bt (decide (xa.1 < 1)) with hc18 | hc18
   · refine J.skip rfl rfl rfl rfl hc18 <| J.skip rfl rfl rfl rfl hc18 <| J.skip rfl rfl rfl rfl hc18 <| J.skip rfl rfl rfl rfl hc18 <| J.skip rfl rfl rfl rfl hc18 <| jv (.bool true) (V.pickT rfl hc18 rfl) <| J.nil ?_
     exact ⟨rfl, ⟨(by simp only [hc18]; rfl), rfl, rfl, rfl, trivial⟩, rfl, rfl⟩
   refine J.run rfl rfl rfl hc18 <| jv _ (V.fad Try.underlying34 rfl nz3 rfl) <| J.run rfl rfl rfl hc18 <| jv (ii xa.2.1) (V.ld rfl (Ld.sc sc3 (Rd.cl 2 rfl rfl))) <| J.run rfl rfl rfl hc18 <| jv _ (V.fad Try.underlying34 rfl nz3 rfl) <| J.run rfl rfl rfl hc18 ?_
   refine jv (ii xa.1) (V.ld rfl (Ld.sc sc3 (Rd.cl 2 rfl rfl))) <| J.run rfl rfl rfl hc18 <| jv (.bool (decide (xa.2.1 < xa.1))) (V.lss rfl rfl) <| jv (.bool (decide (xa.2.1 < xa.1))) (V.pickF rfl hc18 rfl) <| J.nil ?_
   exact ⟨rfl, ⟨(by simp only [hc18]; rfl), rfl, rfl, rfl, trivial⟩, rfl, rfl⟩
 intro ρ
 refine ja (.bool ((decide (xa.1 < 1)) || (decide (xa.2.1 < xa.1)))) rfl <| J.nil <| cc rfl h (fun hc19 h => ?_) fun hc19 h => ?_
 · refine CJ.region <| jv _ (V.fad Try.underlying104 rfl nz37 rfl) <| js1 [ii 7, ii 0, ii 0, ii 0] sz37 rfl rfl rfl rfl rfl rfl <| J.nil <| cr <| jv (.agg #[ii 7, ii 0, ii 0, ii 0]) (V.ld rfl (Ld.agg (cs := [ii 7, ii 0, ii 0, ii 0]) Try.underlying104 sz104 rfl (Rd.cls 0 0 rfl rfl))) ?_
   refine J.front 1 rfl <| js [ii 7, ii 0, ii 0, ii 0] sz104 rfl rfl rfl rfl rfl rfl <| J.nil <| CJ.ret ?_
   obtain rfl := si h
   exact ⟨_, _, Res.one rfl ⟨_, _, rfl, Ld.agg (cs := [ii 7, ii 0, ii 0, ii 0]) Try.underlying104 sz104 rfl (Rd.cls 0 0 rfl rfl)⟩, ⟨7, 0, 0, 0, rfl, rfl, rfl⟩, (Hp.le_refl _), fun w hs => (Sep.dropAt 0 rfl (Sep.dropAt 0 rfl (Sep.dropAt 0 rfl hs)))⟩
 refine cr <| jv _ (V.fad Try.underlying34 rfl nz3 rfl) <| jv (ii xa.2.1) (V.ld rfl (Ld.sc sc3 (Rd.cl 2 rfl rfl))) <| jv (.bool (decide (65536 < xa.2.1))) (V.gtr rfl rfl) <| ja (.bool (decide (65536 < xa.2.1))) rfl <| J.nil ?_
 refine cc rfl h (fun hc20 h => ?_) fun hc20 h => ?_
 · refine CJ.region <| jv _ (V.fad Try.underlying104 rfl nz37 rfl) <| js1 [ii 6, ii 0, ii 0, ii 0] sz37 rfl rfl rfl rfl rfl rfl <| J.nil <| cr <| jv (.agg #[ii 6, ii 0, ii 0, ii 0]) (V.ld rfl (Ld.agg (cs := [ii 6, ii 0, ii 0, ii 0]) Try.underlying104 sz104 rfl (Rd.cls 0 0 rfl rfl))) ?_
   refine J.front 1 rfl <| js [ii 6, ii 0, ii 0, ii 0] sz104 rfl rfl rfl rfl rfl rfl <| J.nil <| CJ.ret ?_
   obtain rfl := si h
   exact ⟨_, _, Res.one rfl ⟨_, _, rfl, Ld.agg (cs := [ii 6, ii 0, ii 0, ii 0]) Try.underlying104 sz104 rfl (Rd.cls 0 0 rfl rfl)⟩, ⟨6, 0, 0, 0, rfl, rfl, rfl⟩, (Hp.le_refl _), fun w hs => (Sep.dropAt 0 rfl (Sep.dropAt 0 rfl (Sep.dropAt 0 rfl hs)))⟩
 refine CJ.skip <| cr <| jv (.agg #[ii 0, ii 0, ii 0, ii 0]) (V.ld rfl (Ld.agg (cs := [ii 0, ii 0, ii 0, ii 0]) Try.underlying104 sz104 rfl (Rd.cls 0 0 rfl rfl))) <| J.front 1 rfl <| js [ii 0, ii 0, ii 0, ii 0] sz104 rfl rfl rfl rfl rfl rfl <| J.nil ?_
 refine CJ.ret ?_
 obtain rfl := si h
 exact ⟨_, _, Res.one rfl ⟨_, _, rfl, Ld.agg (cs := [ii 0, ii 0, ii 0, ii 0]) Try.underlying104 sz104 rfl (Rd.cls 0 0 rfl rfl)⟩, ⟨0, 0, 0, 0, rfl, rfl, rfl⟩, (Hp.le_refl _), fun w hs => (Sep.dropAt 0 rfl (Sep.dropAt 0 rfl (Sep.dropAt 0 rfl hs)))⟩

noncomputable def fn_valid_bounds_1_ip0_iikkkkk (xa : Int) (qa0 : Int) (qa1 : Int) (qa2 : (List (Int × Int))) (qa3 : (List (List (Int × Bool)))) (qa4 : (List (Int × Bool))) (qa5 : (List (Int × (List (Int × Int)) × (List (List (Int × Bool))) × (List (Int × Bool))))) (qa6 : (List ((List (Int × Int × Int × Int × Bool)) × (Int × Int × Int × (List Int) × (List Int) × (List Int))))) : Option Bool :=
  some ((decide (0 ≤ xa)) && (decide (xa < qa0)))
set_option maxRecDepth 100000 in
set_option maxHeartbeats 4000000 in
theorem valid_bounds_1_ip0_iikkkkk_ok {K : Hp} {xa : Int} {qa0 : Int} {qa1 : Int} {qa2 : (List (Int × Int))} {qa3 : (List (List (Int × Bool)))} {qa4 : (List (Int × Bool))} {qa5 : (List (Int × (List (Int × Int)) × (List (List (Int × Bool))) × (List (Int × Bool))))} {qa6 : (List ((List (Int × Int × Int × Int × Bool)) × (Int × Int × Int × (List Int) × (List Int) × (List Int))))} {pba : Nat} {adqa2 : Option Addr} {cpqa2 : Nat} {adqa3 : Option Addr} {cpqa3 : Nat} {adqa4 : Option Addr} {cpqa4 : Nat} {adqa5 : Option Addr} {cpqa5 : Nat} {adqa6 : Option Addr} {cpqa6 : Nat} (fqa2 : Is K (.sl (.cons (.int .i64) (.one (.int .i64)))) [.slice adqa2 qa2.length cpqa2] qa2) (fqa3 : Is K (.sl (.one (.sl (.cons (.int .i64) (.one .bool))))) [.slice adqa3 qa3.length cpqa3] qa3) (fqa4 : Is K (.sl (.cons (.int .i64) (.one .bool))) [.slice adqa4 qa4.length cpqa4] qa4) (fqa5 : Is K (.sl (.cons (.int .i64) (.cons (.sl (.cons (.int .i64) (.one (.int .i64)))) (.cons (.sl (.one (.sl (.cons (.int .i64) (.one .bool))))) (.one (.one (.sl (.cons (.int .i64) (.one .bool))))))))) [.slice adqa5 qa5.length cpqa5] qa5) (fqa6 : Is K (.sl (.cons (.sl (.cons (.int .i64) (.cons (.int .i64) (.cons (.int .i64) (.cons (.int .i64) (.one .bool)))))) (.one (.cons (.int .i64) (.cons (.int .i64) (.cons (.int .i64) (.cons (.sl (.int .i64)) (.cons (.sl (.int .i64)) (.one (.sl (.int .i64))))))))))) [.slice adqa6 qa6.length cpqa6] qa6) {r : Bool} (h : fn_valid_bounds_1_ip0_iikkkkk xa qa0 qa1 qa2 qa3 qa4 qa5 qa6 = some r) :
    Tr Try.prog 61 #[ii xa, .pointer (some ⟨pba, 0, none⟩)] K [Cl pba 34 [ii qa0, ii qa1, .slice adqa2 qa2.length cpqa2, .slice adqa3 qa3.length cpqa3, .slice adqa4 qa4.length cpqa4, .slice adqa5 qa5.length cpqa5, .slice adqa6 qa6.length cpqa6]] (fun v K' L' => (∃ (t4 : Bool), t4 = r ∧ .bool t4 = v ∧ L' = [Cl pba 34 [ii qa0, ii qa1, .slice adqa2 qa2.length cpqa2, .slice adqa3 qa3.length cpqa3, .slice adqa4 qa4.length cpqa4, .slice adqa5 qa5.length cpqa5, .slice adqa6 qa6.length cpqa6]]) ∧ K = K') := by
 refine Tr.k <| Tr.of Try.func61 rfl Try.ntmps61 rfl fun E F => ?_
 unfold fn_valid_bounds_1_ip0_iikkkkk at h
 refine cr <| ja (.bool false) rfl <| J.nil <| cr <| jm (ii xa) rfl ?_
 refine jv (.bool (decide (0 ≤ xa))) (V.geq rfl rfl) <| jm (.bool (decide (0 ≤ xa))) rfl <| J.cut 5 <| jmeet [(11, .bool ((decide (0 ≤ xa)) && (decide (xa < qa0))))] ?_ ?_
 · rcases bt (decide (0 ≤ xa)) with hc7 | hc7
   · refine J.run rfl rfl rfl hc7 <| jm (ii xa) rfl <| J.run rfl rfl rfl hc7 <| jv _ (V.fad Try.underlying34 rfl nz3 rfl) <| J.run rfl rfl rfl hc7 <| jv (ii qa0) (V.ld rfl (Ld.sc sc3 (Rd.cl 0 rfl rfl))) <| J.run rfl rfl rfl hc7 ?_
     refine jv (.bool (decide (xa < qa0))) (V.lss rfl rfl) <| jv (.bool (decide (xa < qa0))) (V.pickT rfl hc7 rfl) <| J.nil ?_
     exact ⟨rfl, ⟨(by simp only [hc7]; rfl), trivial⟩, rfl, rfl⟩
   refine J.skip rfl rfl rfl rfl hc7 <| J.skip rfl rfl rfl rfl hc7 <| J.skip rfl rfl rfl rfl hc7 <| J.skip rfl rfl rfl rfl hc7 <| jv (.bool false) (V.pickF rfl hc7 rfl) <| J.nil ?_
   exact ⟨rfl, ⟨(by simp only [hc7]; rfl), trivial⟩, rfl, rfl⟩
 intro ρ
 refine ja (.bool ((decide (0 ≤ xa)) && (decide (xa < qa0)))) rfl <| J.nil <| CJ.ret ?_
 obtain rfl := si h
 exact ⟨_, _, Res.one rfl rfl, ⟨(decide (0 ≤ xa)) && (decide (xa < qa0)), rfl, rfl, rfl⟩, (Hp.le_refl _), fun w hs => hs⟩
noncomputable def fn_valid_bounds_az_l1 (xa : (Int × Int × (List (Int × Int)) × (List (List (Int × Bool))) × (List (Int × Bool)) × (List (Int × (List (Int × Int)) × (List (List (Int × Bool))) × (List (Int × Bool)))) × (List ((List (Int × Int × Int × Int × Bool)) × (Int × Int × Int × (List Int) × (List Int) × (List Int)))))) : Int → Option (Int ⊕ (Unit ⊕ (Int × Int × Int × Int))) := fun (i430 : Int) => cond (decide (i430 < (((xa.2.2.1.length : Nat) : Int)))) ((getI xa.2.2.1 i430).bind fun x476 => (fn_tick_Counter_Add_zii 1 1).bind fun _ => (fn_valid_bounds_1_ip0_iikkkkk x476.1 xa.1 xa.2.1 xa.2.2.1 xa.2.2.2.1 xa.2.2.2.2.1 xa.2.2.2.2.2.1 xa.2.2.2.2.2.2).bind fun t493 => (cond (!t493) (some (true)) ((fn_valid_bounds_1_ip0_iikkkkk x476.2 xa.1 xa.2.1 xa.2.2.1 xa.2.2.2.1 xa.2.2.2.2.1 xa.2.2.2.2.2.1 xa.2.2.2.2.2.2).bind fun t509 => some (!t509))).bind fun t504 => cond (t504) (some (.inr ((.inr ((7, 1, i430, 0)))))) (some (.inl (IntKind.wrap .i64 (i430 + 1))))) (some (.inr ((.inl ()))))
noncomputable def fn_valid_bounds_az (xa : (Int × Int × (List (Int × Int)) × (List (List (Int × Bool))) × (List (Int × Bool)) × (List (Int × (List (Int × Int)) × (List (List (Int × Bool))) × (List (Int × Bool)))) × (List ((List (Int × Int × Int × Int × Bool)) × (Int × Int × Int × (List Int) × (List Int) × (List Int)))))) : Option (Int × Int × Int × Int) :=
  cond (decide (65536 < (((xa.2.2.1.length : Nat) : Int)))) (some ((6, 1, 0, 0))) ((loop (fn_valid_bounds_az_l1 xa) 0 : Option (Unit ⊕ (Int × Int × Int × Int))).bind fun o => match o with | .inr r => some r | .inl () => some ((0, 0, 0, 0)))
set_option maxRecDepth 100000 in
set_option maxHeartbeats 4000000 in
theorem valid_bounds_az_ok {K : Hp} {xa : (Int × Int × (List (Int × Int)) × (List (List (Int × Bool))) × (List (Int × Bool)) × (List (Int × (List (Int × Int)) × (List (List (Int × Bool))) × (List (Int × Bool)))) × (List ((List (Int × Int × Int × Int × Bool)) × (Int × Int × Int × (List Int) × (List Int) × (List Int)))))} {adxa_2 : Option Addr} {cpxa_2 : Nat} {adxa_3 : Option Addr} {cpxa_3 : Nat} {adxa_4 : Option Addr} {cpxa_4 : Nat} {adxa_5 : Option Addr} {cpxa_5 : Nat} {adxa_6 : Option Addr} {cpxa_6 : Nat} (fxa_2 : Is K (.sl (.cons (.int .i64) (.one (.int .i64)))) [.slice adxa_2 xa.2.2.1.length cpxa_2] xa.2.2.1) (fxa_3 : Is K (.sl (.one (.sl (.cons (.int .i64) (.one .bool))))) [.slice adxa_3 xa.2.2.2.1.length cpxa_3] xa.2.2.2.1) (fxa_4 : Is K (.sl (.cons (.int .i64) (.one .bool))) [.slice adxa_4 xa.2.2.2.2.1.length cpxa_4] xa.2.2.2.2.1) (fxa_5 : Is K (.sl (.cons (.int .i64) (.cons (.sl (.cons (.int .i64) (.one (.int .i64)))) (.cons (.sl (.one (.sl (.cons (.int .i64) (.one .bool))))) (.one (.one (.sl (.cons (.int .i64) (.one .bool))))))))) [.slice adxa_5 xa.2.2.2.2.2.1.length cpxa_5] xa.2.2.2.2.2.1) (fxa_6 : Is K (.sl (.cons (.sl (.cons (.int .i64) (.cons (.int .i64) (.cons (.int .i64) (.cons (.int .i64) (.one .bool)))))) (.one (.cons (.int .i64) (.cons (.int .i64) (.cons (.int .i64) (.cons (.sl (.int .i64)) (.cons (.sl (.int .i64)) (.one (.sl (.int .i64))))))))))) [.slice adxa_6 xa.2.2.2.2.2.2.length cpxa_6] xa.2.2.2.2.2.2) {r : (Int × Int × Int × Int)} (h : fn_valid_bounds_az xa = some r) :
    Tr Try.prog 45 #[.agg #[ii xa.1, ii xa.2.1, .slice adxa_2 xa.2.2.1.length cpxa_2, .slice adxa_3 xa.2.2.2.1.length cpxa_3, .slice adxa_4 xa.2.2.2.2.1.length cpxa_4, .slice adxa_5 xa.2.2.2.2.2.1.length cpxa_5, .slice adxa_6 xa.2.2.2.2.2.2.length cpxa_6], .pointer none] K [] (fun v K' L' => (∃ (i257 : Int) (i258 : Int) (i259 : Int) (i260 : Int), (i257, i258, i259, i260) = r ∧ .agg #[ii i257, ii i258, ii i259, ii i260] = v ∧ L' = []) ∧ K = K') := by
 refine Tr.k <| Tr.of Try.func45 rfl Try.ntmps45 rfl fun E F => ?_
 unfold fn_valid_bounds_az at h
 refine cr <| jbx [ii xa.1, ii xa.2.1, .slice adxa_2 xa.2.2.1.length cpxa_2, .slice adxa_3 xa.2.2.2.1.length cpxa_3, .slice adxa_4 xa.2.2.2.2.1.length cpxa_4, .slice adxa_5 xa.2.2.2.2.2.1.length cpxa_5, .slice adxa_6 xa.2.2.2.2.2.2.length cpxa_6] rfl rfl fun b261 => jal inf104 [ii 0, ii 0, ii 0, ii 0] rfl fun b262 => J.nil <| CJ.seq <| CJ.seq ?_
 refine CJ.region <| jv _ (V.fad Try.underlying34 rfl nz26 rfl) <| jv (.slice adxa_2 xa.2.2.1.length cpxa_2) (V.ld rfl (Ld.sc sc26 (Rd.cl 1 rfl rfl))) <| jv (ii (((xa.2.2.1.length : Nat) : Int))) (V.len Try.underlying26 rfl) <| jv (.bool (decide (65536 < (((xa.2.2.1.length : Nat) : Int))))) (V.gtr rfl rfl) <| J.nil <| cc rfl h (fun hc263 h => ?_) fun hc263 h => ?_
 · refine cr <| jv (.agg #[ii 6, ii 1, ii 0, ii 0]) (V.build inf104 places104 rfl rfl) <| js [ii 6, ii 1, ii 0, ii 0] sz104 rfl rfl rfl rfl rfl rfl <| J.nil <| CJ.ret ?_
   obtain rfl := si h
   exact ⟨_, _, Res.one rfl ⟨_, _, rfl, Ld.agg (cs := [ii 6, ii 1, ii 0, ii 0]) Try.underlying104 sz104 rfl (Rd.cls 0 0 rfl rfl)⟩, ⟨6, 1, 0, 0, rfl, rfl, rfl⟩, (Hp.le_refl _), fun w hs => (Sep.dropAt 0 rfl (Sep.dropAt 0 rfl hs))⟩
 refine CJ.skip <| cr <| jv (.func (.func 61) #[] #[.pointer (some ⟨b261, 0, none⟩)]) (V.mkf rfl) <| ja (.func (.func 61) #[] #[.pointer (some ⟨b261, 0, none⟩)]) rfl <| J.nil <| CJ.seq ?_
 refine cr <| jv _ (V.fad Try.underlying34 rfl nz26 rfl) <| jv (.slice adxa_2 xa.2.2.1.length cpxa_2) (V.ld rfl (Ld.sc sc26 (Rd.cl 1 rfl rfl))) <| jv (ii (((xa.2.2.1.length : Nat) : Int))) (V.len Try.underlying26 rfl) <| jm (ii 0) rfl <| J.nil ?_
 obtain ⟨o388, ho389, h⟩ := ob h
 refine CJ.joinN (o := o388) (fun s ρ K' L' => () = s ∧ Fits [(4, .pointer (some ⟨b262, 0, none⟩))] ρ ∧ K = K' ∧ L' = Cl b262 104 [ii 0, ii 0, ii 0, ii 0] :: F) ?_ ?_
 · refine CJ.block <| CJ.loop (fun s ρ K' L' => ∃ (i430 : Int), i430 = s ∧ Fits [(1, .pointer none), (4, .pointer (some ⟨b262, 0, none⟩)), (5, .func (.func 61) #[] #[.pointer (some ⟨b261, 0, none⟩)]), (15, .slice adxa_2 xa.2.2.1.length cpxa_2), (16, ii (((xa.2.2.1.length : Nat) : Int))), (17, ii i430)] ρ ∧ K = K' ∧ L' = Cl b262 104 [ii 0, ii 0, ii 0, ii 0] :: Cl b261 34 [ii xa.1, ii xa.2.1, .slice adxa_2 xa.2.2.1.length cpxa_2, .slice adxa_3 xa.2.2.2.1.length cpxa_3, .slice adxa_4 xa.2.2.2.2.1.length cpxa_4, .slice adxa_5 xa.2.2.2.2.2.1.length cpxa_5, .slice adxa_6 xa.2.2.2.2.2.2.length cpxa_6] :: F) ho389 ⟨0, rfl, ⟨rfl, rfl, rfl, rfl, rfl, rfl, trivial⟩, rfl, rfl⟩ ?_
   rintro s ρ _ _ r474 ⟨i430, rfl, hf472, rfl, rfl⟩ h471
   obtain ⟨ρ, rfl⟩ := hf472.ex
   refine cr <| jv (.bool (decide (i430 < (((xa.2.2.1.length : Nat) : Int))))) (V.lss rfl rfl) <| J.nil <| CJ.seq <| cc rfl h471 (fun hc475 h471 => ?_) fun hc475 h471 => ?_
   · refine CJ.skip <| CJ.seq <| CJ.block <| cr <| jm (ii i430) rfl ?_
     obtain ⟨x476, hx477, h471⟩ := ob h471
     obtain ⟨p478, p479, p480⟩ := getI_some hx477
     obtain ⟨b481, o482, e483, a484⟩ := (fxa_2).at p479
     refine jv _ (V.iad Try.underlying26 sz83 rfl e483 rfl p478 p480) <| jv (.agg #[ii x476.1, ii x476.2]) (V.ld rfl (Ld.aggK (cs := [ii x476.1, ii x476.2]) Try.underlying83 sz83 rfl ⟨((a484).fst).int, (((a484).snd).one).int, trivial⟩ (Hp.le_refl _))) <| jal inf83 [ii 0, ii 0] rfl fun b485 => ja (ii i430) rfl <| js [ii x476.1, ii x476.2] sz83 rfl rfl rfl rfl rfl rfl <| J.nil <| CJ.seq ?_
     refine CJ.region <| jm (.pointer none) rfl ?_
     obtain ⟨r486, hr487, h471⟩ := ob h471
     refine J.op rfl (A.call (L1 := []) Try.call18 rfl (tick_Counter_Add_zii_ok hr487) rfl rfl) ?_
     rintro _ _ _ ⟨v488, _, rfl, ⟨⟨rfl, rfl, rfl⟩, rfl⟩, _, rfl⟩
     refine J.nil <| cr <| jm (.func (.func 61) #[] #[.pointer (some ⟨b261, 0, none⟩)]) rfl <| jv _ (V.fad Try.underlying83 rfl nz3 rfl) <| jv (ii x476.1) (V.ld rfl (Ld.sc sc3 (Rd.cl 0 rfl rfl))) ?_
     obtain ⟨r491, hr492, h471⟩ := ob h471
     refine J.front 2 rfl <| J.op rfl (A.call (L1 := [Cl b261 34 [ii xa.1, ii xa.2.1, .slice adxa_2 xa.2.2.1.length cpxa_2, .slice adxa_3 xa.2.2.2.1.length cpxa_3, .slice adxa_4 xa.2.2.2.2.1.length cpxa_4, .slice adxa_5 xa.2.2.2.2.2.1.length cpxa_5, .slice adxa_6 xa.2.2.2.2.2.2.length cpxa_6]]) Try.call61 rfl (valid_bounds_1_ip0_iikkkkk_ok fxa_2 fxa_3 fxa_4 fxa_5 fxa_6 hr492) rfl rfl) ?_
     rintro _ _ _ ⟨v494, _, rfl, ⟨⟨t493, rfl, rfl, rfl⟩, rfl⟩, _, rfl⟩
     refine jv (.bool (!t493)) (V.not rfl) <| jm (.bool (!t493)) rfl <| J.cut 6 ?_
     obtain ⟨t504, ht505, h471⟩ := ob h471
     refine jmeet [(35, .bool t504), (1, .pointer none), (4, .pointer (some ⟨b262, 0, none⟩)), (5, .func (.func 61) #[] #[.pointer (some ⟨b261, 0, none⟩)]), (6, ii i430), (15, .slice adxa_2 xa.2.2.1.length cpxa_2), (16, ii (((xa.2.2.1.length : Nat) : Int))), (17, ii i430)] ?_ ?_
     · rcases bt (!t493) with hc506 | hc506
       · have ht505 := ct hc506 ht505
         refine J.skip rfl rfl rfl rfl hc506 <| J.skip rfl rfl rfl rfl hc506 <| J.skip rfl rfl rfl rfl hc506 <| J.skip rfl rfl rfl rfl hc506 <| J.skip rfl rfl rfl rfl hc506 <| jv (.bool true) (V.pickT rfl hc506 rfl) <| J.nil ?_
         obtain rfl := si ht505
         exact ⟨rfl, ⟨rfl, rfl, rfl, rfl, rfl, rfl, rfl, rfl, trivial⟩, rfl, rfl⟩
       have ht505 := cf hc506 ht505
       refine J.run rfl rfl rfl hc506 <| jm (.func (.func 61) #[] #[.pointer (some ⟨b261, 0, none⟩)]) rfl <| J.run rfl rfl rfl hc506 <| jv _ (V.fad Try.underlying83 rfl nz3 rfl) <| J.run rfl rfl rfl hc506 <| jv (ii x476.2) (V.ld rfl (Ld.sc sc3 (Rd.cl 1 rfl rfl))) <| J.run rfl rfl rfl hc506 ?_
       obtain ⟨r507, hr508, ht505⟩ := ob ht505
       refine J.op rfl (A.call (L1 := [Cl b261 34 [ii xa.1, ii xa.2.1, .slice adxa_2 xa.2.2.1.length cpxa_2, .slice adxa_3 xa.2.2.2.1.length cpxa_3, .slice adxa_4 xa.2.2.2.2.1.length cpxa_4, .slice adxa_5 xa.2.2.2.2.2.1.length cpxa_5, .slice adxa_6 xa.2.2.2.2.2.2.length cpxa_6]]) Try.call61 rfl (valid_bounds_1_ip0_iikkkkk_ok fxa_2 fxa_3 fxa_4 fxa_5 fxa_6 hr508) rfl rfl) ?_
       rintro _ _ _ ⟨v510, _, rfl, ⟨⟨t509, rfl, rfl, rfl⟩, rfl⟩, _, rfl⟩
       refine J.run rfl rfl rfl hc506 <| jv (.bool (!t509)) (V.not rfl) <| jv (.bool (!t509)) (V.pickF rfl hc506 rfl) <| J.nil ?_
       obtain rfl := si ht505
       exact ⟨rfl, ⟨rfl, rfl, rfl, rfl, rfl, rfl, rfl, rfl, trivial⟩, rfl, rfl⟩
     intro ρ
     refine J.nil <| cc rfl h471 (fun hc513 h471 => ?_) fun hc513 h471 => ?_
     · refine cr <| jm (ii i430) rfl <| jv (.agg #[ii 7, ii 1, ii i430, ii 0]) (V.build inf104 places104 rfl rfl) <| J.front 2 rfl <| js [ii 7, ii 1, ii i430, ii 0] sz104 rfl rfl rfl rfl rfl rfl <| J.nil ?_
       refine CJ.ret ?_
       obtain rfl := si h471
       refine ⟨nofun, fun e => ?_⟩
       subst e
       refine .inr ⟨nofun, ?_⟩
       obtain rfl := si h
       exact ⟨_, _, Res.one rfl ⟨_, _, rfl, Ld.agg (cs := [ii 7, ii 1, ii i430, ii 0]) Try.underlying104 sz104 rfl (Rd.cls 0 0 rfl rfl)⟩, ⟨7, 1, i430, 0, rfl, rfl, rfl⟩, (Hp.le_refl _), fun w hs => (Sep.dropAt 0 rfl (Sep.dropAt 0 rfl (Sep.dropAt 0 rfl hs)))⟩
     refine CJ.skip <| CJ.region <| jv (ii (IntKind.wrap .i64 (i430 + 1))) (V.add rfl rfl) <| jm (ii (IntKind.wrap .i64 (i430 + 1))) rfl <| J.dropAt 1 rfl <| J.front 1 rfl <| J.nil ?_
     obtain rfl := si h471
     exact ⟨rfl, ⟨IntKind.wrap .i64 (i430 + 1), rfl, ⟨rfl, rfl, rfl, rfl, rfl, rfl, trivial⟩, rfl, rfl⟩⟩
   refine CJ.dropAt 1 rfl <| CJ.exit ?_
   obtain rfl := si h471
   refine ⟨nofun, fun e => ?_⟩
   subst e
   exact .inl ⟨rfl, _, rfl, ⟨rfl, ⟨rfl, trivial⟩, rfl, rfl⟩⟩
 rintro s ρ _ _ ho514 ⟨rfl, hf515, rfl, rfl⟩
 subst ho514
 obtain ⟨ρ, rfl⟩ := hf515.ex
 refine PJ.done <| cr <| jv (.agg #[ii 0, ii 0, ii 0, ii 0]) (V.build inf104 places104 rfl rfl) <| js [ii 0, ii 0, ii 0, ii 0] sz104 rfl rfl rfl rfl rfl rfl <| J.nil <| CJ.ret ?_
 obtain rfl := si h
 exact ⟨_, _, Res.one rfl ⟨_, _, rfl, Ld.agg (cs := [ii 0, ii 0, ii 0, ii 0]) Try.underlying104 sz104 rfl (Rd.cls 0 0 rfl rfl)⟩, ⟨0, 0, 0, 0, rfl, rfl, rfl⟩, (Hp.le_refl _), fun w hs => (Sep.dropAt 0 rfl hs)⟩

noncomputable def fn_row_within_1_ap0_i (xa : (Int × Bool)) (qa0 : Int) : Option Bool :=
  some ((decide (xa.1 < 0)) || (decide (qa0 ≤ xa.1)))
set_option maxRecDepth 100000 in
set_option maxHeartbeats 4000000 in
theorem row_within_1_ap0_i_ok {K : Hp} {xa : (Int × Bool)} {qa0 : Int} {pba : Nat}  {r : Bool} (h : fn_row_within_1_ap0_i xa qa0 = some r) :
    Tr Try.prog 88 #[.agg #[ii xa.1, .bool xa.2], .pointer (some ⟨pba, 0, none⟩)] K [Cl pba 3 [ii qa0]] (fun v K' L' => (∃ (t5 : Bool), t5 = r ∧ .bool t5 = v ∧ L' = [Cl pba 3 [ii qa0]]) ∧ K = K') := by
 refine Tr.k <| Tr.of Try.func88 rfl Try.ntmps88 rfl fun E F => ?_
 unfold fn_row_within_1_ap0_i at h
 refine cr <| jbx [ii xa.1, .bool xa.2] rfl rfl fun b6 => ja (.bool false) rfl <| J.nil <| CJ.seq <| CJ.region ?_
 refine jv _ (V.fad Try.underlying50 rfl nz3 rfl) <| jv (ii xa.1) (V.ld rfl (Ld.sc sc3 (Rd.cl 0 rfl rfl))) <| jv (.bool (decide (xa.1 < 0))) (V.lss rfl rfl) <| jm (.bool (decide (xa.1 < 0))) rfl <| J.cut 5 <| jmeet [(12, .bool ((decide (xa.1 < 0)) || (decide (qa0 ≤ xa.1))))] ?_ ?_
 · rcases bt (decide (xa.1 < 0)) with hc9 | hc9
   · refine J.skip rfl rfl rfl rfl hc9 <| J.skip rfl rfl rfl rfl hc9 <| J.skip rfl rfl rfl rfl hc9 <| J.skip rfl rfl rfl rfl hc9 <| jv (.bool true) (V.pickT rfl hc9 rfl) <| J.nil ?_
     exact ⟨rfl, ⟨(by simp only [hc9]; rfl), trivial⟩, rfl, rfl⟩
   refine J.run rfl rfl rfl hc9 <| jv _ (V.fad Try.underlying50 rfl nz3 rfl) <| J.run rfl rfl rfl hc9 <| jv (ii xa.1) (V.ld rfl (Ld.sc sc3 (Rd.cl 0 rfl rfl))) <| J.run rfl rfl rfl hc9 <| jv (ii qa0) (V.ld rfl (Ld.sc sc3 (Rd.cl 1 rfl rfl))) <| J.run rfl rfl rfl hc9 ?_
   refine jv (.bool (decide (qa0 ≤ xa.1))) (V.geq rfl rfl) <| jv (.bool (decide (qa0 ≤ xa.1))) (V.pickF rfl hc9 rfl) <| J.nil ?_
   exact ⟨rfl, ⟨(by simp only [hc9]; rfl), trivial⟩, rfl, rfl⟩
 intro ρ
 refine ja (.bool ((decide (xa.1 < 0)) || (decide (qa0 ≤ xa.1)))) rfl <| J.nil <| CJ.ret ?_
 obtain rfl := si h
 exact ⟨_, _, Res.one rfl rfl, ⟨(decide (xa.1 < 0)) || (decide (qa0 ≤ xa.1)), rfl, rfl, rfl⟩, (Hp.le_refl _), fun w hs => (Sep.dropAt 0 rfl hs)⟩
noncomputable def fn_slices_IndexFunc_api_Slot_api_Slot_k_row_within_1_p0_i_l1 (xa : (List (Int × Bool))) (qa0 : Int) : Int → Option (Int ⊕ (Unit ⊕ Int)) := fun (i201 : Int) => cond (decide (i201 < (((xa.length : Nat) : Int)))) ((getI xa i201).bind fun x225 => (fn_row_within_1_ap0_i (x225.1, x225.2) qa0).bind fun t236 => cond (t236) (some (.inr ((.inr (i201))))) (some (.inl (IntKind.wrap .i64 (i201 + 1))))) (some (.inr ((.inl ()))))
noncomputable def fn_slices_IndexFunc_api_Slot_api_Slot_k_row_within_1_p0_i (xa : (List (Int × Bool))) (qa0 : Int) : Option Int :=
  (loop (fn_slices_IndexFunc_api_Slot_api_Slot_k_row_within_1_p0_i_l1 xa qa0) 0 : Option (Unit ⊕ Int)).bind fun o => match o with | .inr r => some r | .inl () => some ((-1))
set_option maxRecDepth 100000 in
set_option maxHeartbeats 4000000 in
theorem slices_IndexFunc_api_Slot_api_Slot_k_row_within_1_p0_i_ok {K : Hp} {xa : (List (Int × Bool))} {qa0 : Int} {pba : Nat} {adxa_0 : Option Addr} {cpxa_0 : Nat} (fxa_0 : Is K (.sl (.cons (.int .i64) (.one .bool))) [.slice adxa_0 xa.length cpxa_0] xa) {r : Int} (h : fn_slices_IndexFunc_api_Slot_api_Slot_k_row_within_1_p0_i xa qa0 = some r) :
    Tr Try.prog 89 #[.slice adxa_0 xa.length cpxa_0, .func (.func 88) #[] #[.pointer (some ⟨pba, 0, none⟩)]] K [Cl pba 3 [ii qa0]] (fun v K' L' => (∃ (i122 : Int), i122 = r ∧ ii i122 = v ∧ L' = [Cl pba 3 [ii qa0]]) ∧ K = K') := by
 refine Tr.k <| Tr.of Try.func89 rfl Try.ntmps89 rfl fun E F => ?_
 unfold fn_slices_IndexFunc_api_Slot_api_Slot_k_row_within_1_p0_i at h
 refine cr <| ja (ii 0) rfl <| J.nil <| CJ.seq <| CJ.seq <| CJ.region ?_
 refine jm (.slice adxa_0 xa.length cpxa_0) rfl <| jv (ii (((xa.length : Nat) : Int))) (V.len Try.underlying28 rfl) <| jm (ii 0) rfl <| J.nil ?_
 obtain ⟨o181, ho182, h⟩ := ob h
 refine CJ.joinN (o := o181) (fun s ρ K' L' => () = s ∧ Fits [] ρ ∧ K = K' ∧ L' = Cl pba 3 [ii qa0] :: F) ?_ ?_
 · refine CJ.block <| CJ.loop (fun s ρ K' L' => ∃ (i201 : Int), i201 = s ∧ Fits [(0, .slice adxa_0 xa.length cpxa_0), (1, .func (.func 88) #[] #[.pointer (some ⟨pba, 0, none⟩)]), (7, ii (((xa.length : Nat) : Int))), (8, ii i201)] ρ ∧ K = K' ∧ L' = Cl pba 3 [ii qa0] :: F) ho182 ⟨0, rfl, ⟨rfl, rfl, rfl, rfl, trivial⟩, rfl, rfl⟩ ?_
   rintro s ρ _ _ r223 ⟨i201, rfl, hf221, rfl, rfl⟩ h220
   obtain ⟨ρ, rfl⟩ := hf221.ex
   refine cr <| jv (.bool (decide (i201 < (((xa.length : Nat) : Int))))) (V.lss rfl rfl) <| J.nil <| CJ.seq <| cc rfl h220 (fun hc224 h220 => ?_) fun hc224 h220 => ?_
   · refine CJ.skip <| CJ.seq <| CJ.block <| cr <| jm (ii i201) rfl <| ja (ii i201) rfl ?_
     refine J.nil <| cr <| jm (.func (.func 88) #[] #[.pointer (some ⟨pba, 0, none⟩)]) rfl <| jm (.slice adxa_0 xa.length cpxa_0) rfl <| jm (ii i201) rfl ?_
     obtain ⟨x225, hx226, h220⟩ := ob h220
     obtain ⟨p227, p228, p229⟩ := getI_some hx226
     obtain ⟨b230, o231, e232, a233⟩ := (fxa_0).at p228
     refine jv _ (V.iad Try.underlying28 sz50 rfl e232 rfl p227 p229) <| jv (.agg #[ii x225.1, .bool x225.2]) (V.ld rfl (Ld.aggK (cs := [ii x225.1, .bool x225.2]) Try.underlying50 sz50 rfl ⟨((a233).fst).int, (((a233).snd).one).bool, trivial⟩ (Hp.le_refl _))) ?_
     obtain ⟨r234, hr235, h220⟩ := ob h220
     refine J.op rfl (A.call (L1 := [Cl pba 3 [ii qa0]]) Try.call88 rfl (row_within_1_ap0_i_ok hr235) rfl rfl) ?_
     rintro _ _ _ ⟨v237, _, rfl, ⟨⟨t236, rfl, rfl, rfl⟩, rfl⟩, _, rfl⟩
     refine J.nil <| cc rfl h220 (fun hc240 h220 => ?_) fun hc240 h220 => ?_
     · refine cr <| jm (ii i201) rfl <| ja (ii i201) rfl <| J.nil <| CJ.ret ?_
       obtain rfl := si h220
       refine ⟨nofun, fun e => ?_⟩
       subst e
       refine .inr ⟨nofun, ?_⟩
       obtain rfl := si h
       exact ⟨_, _, Res.one rfl rfl, ⟨i201, rfl, rfl, rfl⟩, (Hp.le_refl _), fun w hs => hs⟩
     refine CJ.skip <| CJ.region <| jv (ii (IntKind.wrap .i64 (i201 + 1))) (V.add rfl rfl) <| jm (ii (IntKind.wrap .i64 (i201 + 1))) rfl <| J.nil ?_
     obtain rfl := si h220
     exact ⟨rfl, ⟨IntKind.wrap .i64 (i201 + 1), rfl, ⟨rfl, rfl, rfl, rfl, trivial⟩, rfl, rfl⟩⟩
   refine CJ.exit ?_
   obtain rfl := si h220
   refine ⟨nofun, fun e => ?_⟩
   subst e
   exact .inl ⟨rfl, _, rfl, ⟨rfl, trivial, rfl, rfl⟩⟩
 rintro s ρ _ _ ho241 ⟨rfl, hf242, rfl, rfl⟩
 subst ho241
 obtain ⟨ρ, rfl⟩ := hf242.ex
 refine PJ.done <| cr <| ja (ii (-1)) rfl <| J.nil <| CJ.ret ?_
 obtain rfl := si h
 exact ⟨_, _, Res.one rfl rfl, ⟨(-1), rfl, rfl, rfl⟩, (Hp.le_refl _), fun w hs => hs⟩

noncomputable def fn_slices_ContainsFunc_api_Slot_api_Slot_k_row_within_1_p0_i (xa : (List (Int × Bool))) (qa0 : Int) : Option Bool :=
  (fn_slices_IndexFunc_api_Slot_api_Slot_k_row_within_1_p0_i xa qa0).bind fun i10 => some (decide (0 ≤ i10))
set_option maxRecDepth 100000 in
set_option maxHeartbeats 4000000 in
theorem slices_ContainsFunc_api_Slot_api_Slot_k_row_within_1_p0_i_ok {K : Hp} {xa : (List (Int × Bool))} {qa0 : Int} {pba : Nat} {adxa_0 : Option Addr} {cpxa_0 : Nat} (fxa_0 : Is K (.sl (.cons (.int .i64) (.one .bool))) [.slice adxa_0 xa.length cpxa_0] xa) {r : Bool} (h : fn_slices_ContainsFunc_api_Slot_api_Slot_k_row_within_1_p0_i xa qa0 = some r) :
    Tr Try.prog 83 #[.slice adxa_0 xa.length cpxa_0, .func (.func 88) #[] #[.pointer (some ⟨pba, 0, none⟩)]] K [Cl pba 3 [ii qa0]] (fun v K' L' => (∃ (t7 : Bool), t7 = r ∧ .bool t7 = v ∧ L' = [Cl pba 3 [ii qa0]]) ∧ K = K') := by
 refine Tr.k <| Tr.of Try.func83 rfl Try.ntmps83 rfl fun E F => ?_
 unfold fn_slices_ContainsFunc_api_Slot_api_Slot_k_row_within_1_p0_i at h
 refine cr <| ja (.bool false) rfl <| J.nil <| cr <| jm (.slice adxa_0 xa.length cpxa_0) rfl ?_
 refine jm (.func (.func 88) #[] #[.pointer (some ⟨pba, 0, none⟩)]) rfl ?_
 obtain ⟨r8, hr9, h⟩ := ob h
 refine J.op rfl (A.call (L1 := [Cl pba 3 [ii qa0]]) Try.call89 rfl (slices_IndexFunc_api_Slot_api_Slot_k_row_within_1_p0_i_ok fxa_0 hr9) rfl rfl) ?_
 rintro _ _ _ ⟨v11, _, rfl, ⟨⟨i10, rfl, rfl, rfl⟩, rfl⟩, _, rfl⟩
 refine jv (.bool (decide (0 ≤ i10))) (V.geq rfl rfl) <| ja (.bool (decide (0 ≤ i10))) rfl <| J.nil <| CJ.ret ?_
 obtain rfl := si h
 exact ⟨_, _, Res.one rfl rfl, ⟨decide (0 ≤ i10), rfl, rfl, rfl⟩, (Hp.le_refl _), fun w hs => hs⟩

noncomputable def fn_row_within (xa : (List (Int × Bool))) (xb : Int) : Option Bool :=
  (fn_slices_ContainsFunc_api_Slot_api_Slot_k_row_within_1_p0_i xa xb).bind fun t14 => some (!t14)
set_option maxRecDepth 100000 in
set_option maxHeartbeats 4000000 in
theorem row_within_ok {K : Hp} {xa : (List (Int × Bool))} {xb : Int} {adxa_0 : Option Addr} {cpxa_0 : Nat} (fxa_0 : Is K (.sl (.cons (.int .i64) (.one .bool))) [.slice adxa_0 xa.length cpxa_0] xa) {r : Bool} (h : fn_row_within xa xb = some r) :
    Tr Try.prog 79 #[.agg #[.slice adxa_0 xa.length cpxa_0], ii xb] K [] (fun v K' L' => (∃ (t9 : Bool), t9 = r ∧ .bool t9 = v ∧ L' = []) ∧ K = K') := by
 refine Tr.k <| Tr.of Try.func79 rfl Try.ntmps79 rfl fun E F => ?_
 unfold fn_row_within at h
 refine cr <| jbx [.slice adxa_0 xa.length cpxa_0] rfl rfl fun b10 => jbx [ii xb] rfl rfl fun b11 => ja (.bool false) rfl <| J.nil <| CJ.seq ?_
 refine CJ.region <| jv _ (V.fad Try.underlying30 rfl nz28 rfl) <| jv (.slice adxa_0 xa.length cpxa_0) (V.ld rfl (Ld.sc sc28 (Rd.cl 1 rfl rfl))) <| jv (.func (.func 88) #[] #[.pointer (some ⟨b11, 0, none⟩)]) (V.mkf rfl) ?_
 obtain ⟨r12, hr13, h⟩ := ob h
 refine J.op rfl (A.call (L1 := [Cl b11 3 [ii xb]]) Try.call83 rfl (slices_ContainsFunc_api_Slot_api_Slot_k_row_within_1_p0_i_ok fxa_0 hr13) rfl rfl) ?_
 rintro _ _ _ ⟨v15, _, rfl, ⟨⟨t14, rfl, rfl, rfl⟩, rfl⟩, _, rfl⟩
 refine jv (.bool (!t14)) (V.not rfl) <| ja (.bool (!t14)) rfl <| J.nil <| CJ.ret ?_
 obtain rfl := si h
 exact ⟨_, _, Res.one rfl rfl, ⟨!t14, rfl, rfl, rfl⟩, (Hp.le_refl _), fun w hs => (Sep.dropAt 0 rfl (Sep.dropAt 0 rfl hs))⟩

noncomputable def fn_row_Check (xa : (List (Int × Bool))) (xb : Int) : Option Int :=
  cond (decide (16 < (((xa.length : Nat) : Int)))) (some (6)) ((fn_row_within xa xb).bind fun t15 => cond (!t15) (some (7)) (some (0)))
set_option maxRecDepth 100000 in
set_option maxHeartbeats 4000000 in
theorem row_Check_ok {K : Hp} {xa : (List (Int × Bool))} {xb : Int} {adxa_0 : Option Addr} {cpxa_0 : Nat} (fxa_0 : Is K (.sl (.cons (.int .i64) (.one .bool))) [.slice adxa_0 xa.length cpxa_0] xa) {r : Int} (h : fn_row_Check xa xb = some r) :
    Tr Try.prog 62 #[.agg #[.slice adxa_0 xa.length cpxa_0], ii xb] K [] (fun v K' L' => (∃ (i10 : Int), i10 = r ∧ ii i10 = v ∧ L' = []) ∧ K = K') := by
 refine Tr.k <| Tr.of Try.func62 rfl Try.ntmps62 rfl fun E F => ?_
 unfold fn_row_Check at h
 refine cr <| jbx [.slice adxa_0 xa.length cpxa_0] rfl rfl fun b11 => ja (ii 0) rfl <| J.nil <| CJ.seq <| CJ.seq ?_
 refine CJ.region <| jv _ (V.fad Try.underlying30 rfl nz28 rfl) <| jv (.slice adxa_0 xa.length cpxa_0) (V.ld rfl (Ld.sc sc28 (Rd.cl 0 rfl rfl))) <| jv (ii (((xa.length : Nat) : Int))) (V.len Try.underlying28 rfl) <| jv (.bool (decide (16 < (((xa.length : Nat) : Int))))) (V.gtr rfl rfl) <| J.nil <| cc rfl h (fun hc12 h => ?_) fun hc12 h => ?_
 · refine cr <| ja (ii 6) rfl <| J.nil <| CJ.ret ?_
   obtain rfl := si h
   exact ⟨_, _, Res.one rfl rfl, ⟨6, rfl, rfl, rfl⟩, (Hp.le_refl _), fun w hs => (Sep.dropAt 0 rfl hs)⟩
 refine CJ.skip <| CJ.seq <| cr <| jv (.agg #[.slice adxa_0 xa.length cpxa_0]) (V.ld rfl (Ld.agg (cs := [.slice adxa_0 xa.length cpxa_0]) Try.underlying30 sz30 rfl (Rd.cls 0 0 rfl rfl))) <| jm (ii xb) rfl ?_
 obtain ⟨r13, hr14, h⟩ := ob h
 refine J.op rfl (A.call (L1 := []) Try.call79 rfl (row_within_ok fxa_0 hr14) rfl rfl) ?_
 rintro _ _ _ ⟨v16, _, rfl, ⟨⟨t15, rfl, rfl, rfl⟩, rfl⟩, _, rfl⟩
 refine jv (.bool (!t15)) (V.not rfl) <| J.nil <| cc rfl h (fun hc19 h => ?_) fun hc19 h => ?_
 · refine cr <| ja (ii 7) rfl <| J.nil <| CJ.ret ?_
   obtain rfl := si h
   exact ⟨_, _, Res.one rfl rfl, ⟨7, rfl, rfl, rfl⟩, (Hp.le_refl _), fun w hs => (Sep.dropAt 0 rfl hs)⟩
 refine CJ.skip <| cr <| ja (ii 0) rfl <| J.nil <| CJ.ret ?_
 obtain rfl := si h
 exact ⟨_, _, Res.one rfl rfl, ⟨0, rfl, rfl, rfl⟩, (Hp.le_refl _), fun w hs => (Sep.dropAt 0 rfl hs)⟩
noncomputable def fn_valid_locals_az_l1 (xa : (Int × Int × (List (Int × Int)) × (List (List (Int × Bool))) × (List (Int × Bool)) × (List (Int × (List (Int × Int)) × (List (List (Int × Bool))) × (List (Int × Bool)))) × (List ((List (Int × Int × Int × Int × Bool)) × (Int × Int × Int × (List Int) × (List Int) × (List Int)))))) : Int → Option (Int ⊕ (Unit ⊕ (Int × Int × Int × Int))) := fun (i313 : Int) => cond (decide (i313 < (((xa.2.2.2.1.length : Nat) : Int)))) ((getI xa.2.2.2.1 i313).bind fun x347 => (fn_tick_Counter_Add_zii 1 1).bind fun _ => (fn_row_Check x347 xa.2.1).bind fun i368 => cond (!decide (i368 = 0)) (some (.inr ((.inr ((i368, 2, i313, 0)))))) (some (.inl (IntKind.wrap .i64 (i313 + 1))))) (some (.inr ((.inl ()))))
noncomputable def fn_valid_locals_az (xa : (Int × Int × (List (Int × Int)) × (List (List (Int × Bool))) × (List (Int × Bool)) × (List (Int × (List (Int × Int)) × (List (List (Int × Bool))) × (List (Int × Bool)))) × (List ((List (Int × Int × Int × Int × Bool)) × (Int × Int × Int × (List Int) × (List Int) × (List Int)))))) : Option (Int × Int × Int × Int) :=
  cond (decide ((((xa.2.2.2.1.length : Nat) : Int)) = 0)) (some ((14, 2, 0, 0))) (cond (decide (65536 < (((xa.2.2.2.1.length : Nat) : Int)))) (some ((6, 2, 0, 0))) ((loop (fn_valid_locals_az_l1 xa) 0 : Option (Unit ⊕ (Int × Int × Int × Int))).bind fun o => match o with | .inr r => some r | .inl () => some ((0, 0, 0, 0))))
set_option maxRecDepth 100000 in
set_option maxHeartbeats 4000000 in
theorem valid_locals_az_ok {K : Hp} {xa : (Int × Int × (List (Int × Int)) × (List (List (Int × Bool))) × (List (Int × Bool)) × (List (Int × (List (Int × Int)) × (List (List (Int × Bool))) × (List (Int × Bool)))) × (List ((List (Int × Int × Int × Int × Bool)) × (Int × Int × Int × (List Int) × (List Int) × (List Int)))))} {adxa_2 : Option Addr} {cpxa_2 : Nat} {adxa_3 : Option Addr} {cpxa_3 : Nat} {adxa_4 : Option Addr} {cpxa_4 : Nat} {adxa_5 : Option Addr} {cpxa_5 : Nat} {adxa_6 : Option Addr} {cpxa_6 : Nat} (fxa_2 : Is K (.sl (.cons (.int .i64) (.one (.int .i64)))) [.slice adxa_2 xa.2.2.1.length cpxa_2] xa.2.2.1) (fxa_3 : Is K (.sl (.one (.sl (.cons (.int .i64) (.one .bool))))) [.slice adxa_3 xa.2.2.2.1.length cpxa_3] xa.2.2.2.1) (fxa_4 : Is K (.sl (.cons (.int .i64) (.one .bool))) [.slice adxa_4 xa.2.2.2.2.1.length cpxa_4] xa.2.2.2.2.1) (fxa_5 : Is K (.sl (.cons (.int .i64) (.cons (.sl (.cons (.int .i64) (.one (.int .i64)))) (.cons (.sl (.one (.sl (.cons (.int .i64) (.one .bool))))) (.one (.one (.sl (.cons (.int .i64) (.one .bool))))))))) [.slice adxa_5 xa.2.2.2.2.2.1.length cpxa_5] xa.2.2.2.2.2.1) (fxa_6 : Is K (.sl (.cons (.sl (.cons (.int .i64) (.cons (.int .i64) (.cons (.int .i64) (.cons (.int .i64) (.one .bool)))))) (.one (.cons (.int .i64) (.cons (.int .i64) (.cons (.int .i64) (.cons (.sl (.int .i64)) (.cons (.sl (.int .i64)) (.one (.sl (.int .i64))))))))))) [.slice adxa_6 xa.2.2.2.2.2.2.length cpxa_6] xa.2.2.2.2.2.2) {r : (Int × Int × Int × Int)} (h : fn_valid_locals_az xa = some r) :
    Tr Try.prog 46 #[.agg #[ii xa.1, ii xa.2.1, .slice adxa_2 xa.2.2.1.length cpxa_2, .slice adxa_3 xa.2.2.2.1.length cpxa_3, .slice adxa_4 xa.2.2.2.2.1.length cpxa_4, .slice adxa_5 xa.2.2.2.2.2.1.length cpxa_5, .slice adxa_6 xa.2.2.2.2.2.2.length cpxa_6], .pointer none] K [] (fun v K' L' => (∃ (i187 : Int) (i188 : Int) (i189 : Int) (i190 : Int), (i187, i188, i189, i190) = r ∧ .agg #[ii i187, ii i188, ii i189, ii i190] = v ∧ L' = []) ∧ K = K') := by
 refine Tr.k <| Tr.of Try.func46 rfl Try.ntmps46 rfl fun E F => ?_
 unfold fn_valid_locals_az at h
 refine cr <| jbx [ii xa.1, ii xa.2.1, .slice adxa_2 xa.2.2.1.length cpxa_2, .slice adxa_3 xa.2.2.2.1.length cpxa_3, .slice adxa_4 xa.2.2.2.2.1.length cpxa_4, .slice adxa_5 xa.2.2.2.2.2.1.length cpxa_5, .slice adxa_6 xa.2.2.2.2.2.2.length cpxa_6] rfl rfl fun b191 => jal inf104 [ii 0, ii 0, ii 0, ii 0] rfl fun b192 => J.nil <| CJ.seq <| CJ.seq ?_
 refine CJ.region <| jv _ (V.fad Try.underlying34 rfl nz27 rfl) <| jv (.slice adxa_3 xa.2.2.2.1.length cpxa_3) (V.ld rfl (Ld.sc sc27 (Rd.cl 1 rfl rfl))) <| jv (ii (((xa.2.2.2.1.length : Nat) : Int))) (V.len Try.underlying27 rfl) <| jv (.bool (decide ((((xa.2.2.2.1.length : Nat) : Int)) = 0))) (V.eql rfl rfl) <| J.nil <| cc rfl h (fun hc193 h => ?_) fun hc193 h => ?_
 · refine cr <| jv (.agg #[ii 14, ii 2, ii 0, ii 0]) (V.build inf104 places104 rfl rfl) <| js [ii 14, ii 2, ii 0, ii 0] sz104 rfl rfl rfl rfl rfl rfl <| J.nil <| CJ.ret ?_
   obtain rfl := si h
   exact ⟨_, _, Res.one rfl ⟨_, _, rfl, Ld.agg (cs := [ii 14, ii 2, ii 0, ii 0]) Try.underlying104 sz104 rfl (Rd.cls 0 0 rfl rfl)⟩, ⟨14, 2, 0, 0, rfl, rfl, rfl⟩, (Hp.le_refl _), fun w hs => (Sep.dropAt 0 rfl (Sep.dropAt 0 rfl hs))⟩
 refine CJ.skip <| CJ.seq <| cr <| jv _ (V.fad Try.underlying34 rfl nz27 rfl) <| jv (.slice adxa_3 xa.2.2.2.1.length cpxa_3) (V.ld rfl (Ld.sc sc27 (Rd.cl 1 rfl rfl))) <| jv (ii (((xa.2.2.2.1.length : Nat) : Int))) (V.len Try.underlying27 rfl) ?_
 refine jv (.bool (decide (65536 < (((xa.2.2.2.1.length : Nat) : Int))))) (V.gtr rfl rfl) <| J.nil <| cc rfl h (fun hc194 h => ?_) fun hc194 h => ?_
 · refine cr <| jv (.agg #[ii 6, ii 2, ii 0, ii 0]) (V.build inf104 places104 rfl rfl) <| js [ii 6, ii 2, ii 0, ii 0] sz104 rfl rfl rfl rfl rfl rfl <| J.nil <| CJ.ret ?_
   obtain rfl := si h
   exact ⟨_, _, Res.one rfl ⟨_, _, rfl, Ld.agg (cs := [ii 6, ii 2, ii 0, ii 0]) Try.underlying104 sz104 rfl (Rd.cls 0 0 rfl rfl)⟩, ⟨6, 2, 0, 0, rfl, rfl, rfl⟩, (Hp.le_refl _), fun w hs => (Sep.dropAt 0 rfl (Sep.dropAt 0 rfl hs))⟩
 refine CJ.skip <| CJ.seq <| cr <| jv _ (V.fad Try.underlying34 rfl nz27 rfl) <| jv (.slice adxa_3 xa.2.2.2.1.length cpxa_3) (V.ld rfl (Ld.sc sc27 (Rd.cl 1 rfl rfl))) <| jv (ii (((xa.2.2.2.1.length : Nat) : Int))) (V.len Try.underlying27 rfl) ?_
 refine jm (ii 0) rfl <| J.nil ?_
 obtain ⟨o283, ho284, h⟩ := ob h
 refine CJ.joinN (o := o283) (fun s ρ K' L' => () = s ∧ Fits [(4, .pointer (some ⟨b192, 0, none⟩))] ρ ∧ K = K' ∧ L' = Cl b192 104 [ii 0, ii 0, ii 0, ii 0] :: F) ?_ ?_
 · refine CJ.block <| CJ.front 1 rfl <| CJ.loop (fun s ρ K' L' => ∃ (i313 : Int), i313 = s ∧ Fits [(1, .pointer none), (2, .pointer (some ⟨b191, 0, none⟩)), (4, .pointer (some ⟨b192, 0, none⟩)), (19, .slice adxa_3 xa.2.2.2.1.length cpxa_3), (20, ii (((xa.2.2.2.1.length : Nat) : Int))), (21, ii i313)] ρ ∧ K = K' ∧ L' = Cl b191 34 [ii xa.1, ii xa.2.1, .slice adxa_2 xa.2.2.1.length cpxa_2, .slice adxa_3 xa.2.2.2.1.length cpxa_3, .slice adxa_4 xa.2.2.2.2.1.length cpxa_4, .slice adxa_5 xa.2.2.2.2.2.1.length cpxa_5, .slice adxa_6 xa.2.2.2.2.2.2.length cpxa_6] :: Cl b192 104 [ii 0, ii 0, ii 0, ii 0] :: F) ho284 ⟨0, rfl, ⟨rfl, rfl, rfl, rfl, rfl, rfl, trivial⟩, rfl, rfl⟩ ?_
   rintro s ρ _ _ r345 ⟨i313, rfl, hf343, rfl, rfl⟩ h342
   obtain ⟨ρ, rfl⟩ := hf343.ex
   refine cr <| jv (.bool (decide (i313 < (((xa.2.2.2.1.length : Nat) : Int))))) (V.lss rfl rfl) <| J.nil <| CJ.seq <| cc rfl h342 (fun hc346 h342 => ?_) fun hc346 h342 => ?_
   · refine CJ.skip <| CJ.seq <| CJ.block <| cr <| jm (ii i313) rfl ?_
     obtain ⟨x347, hx348, h342⟩ := ob h342
     obtain ⟨p349, p350, p351⟩ := getI_some hx348
     obtain ⟨b352, o353, e354, a355⟩ := (fxa_3).at p350
     refine jv _ (V.iad Try.underlying27 sz30 rfl e354 rfl p349 p351) ?_
     obtain ⟨ad356, cp357, c358, f359⟩ := ((a355).one).sl
     refine jv (.agg #[.slice ad356 x347.length cp357]) (V.ld rfl (Ld.aggK (cs := [.slice ad356 x347.length cp357]) Try.underlying30 sz30 rfl ⟨c358, trivial⟩ (Hp.le_refl _))) <| jal inf30 [nos] rfl fun b360 => ja (ii i313) rfl <| js [.slice ad356 x347.length cp357] sz30 rfl rfl rfl rfl rfl rfl <| J.nil <| CJ.seq <| CJ.region ?_
     refine jm (.pointer none) rfl ?_
     obtain ⟨r361, hr362, h342⟩ := ob h342
     refine J.op rfl (A.call (L1 := []) Try.call18 rfl (tick_Counter_Add_zii_ok hr362) rfl rfl) ?_
     rintro _ _ _ ⟨v363, _, rfl, ⟨⟨rfl, rfl, rfl⟩, rfl⟩, _, rfl⟩
     refine J.nil <| cr <| jv (.agg #[.slice ad356 x347.length cp357]) (V.ld rfl (Ld.agg (cs := [.slice ad356 x347.length cp357]) Try.underlying30 sz30 rfl (Rd.cls 0 0 rfl rfl))) <| jv _ (V.fad Try.underlying34 rfl nz3 rfl) <| jv (ii xa.2.1) (V.ld rfl (Ld.sc sc3 (Rd.cl 1 rfl rfl))) ?_
     obtain ⟨r366, hr367, h342⟩ := ob h342
     refine J.op rfl (A.call (L1 := []) Try.call62 rfl (row_Check_ok f359 hr367) rfl rfl) ?_
     rintro _ _ _ ⟨v369, _, rfl, ⟨⟨i368, rfl, rfl, rfl⟩, rfl⟩, _, rfl⟩
     refine ja (ii i368) rfl <| J.nil <| cr <| jm (ii i368) rfl <| jv (.bool (!decide (i368 = 0))) (V.neq rfl rfl) <| J.nil ?_
     refine cc rfl h342 (fun hc372 h342 => ?_) fun hc372 h342 => ?_
     · refine cr <| jm (ii i368) rfl <| jm (ii i313) rfl <| jv (.agg #[ii i368, ii 2, ii i313, ii 0]) (V.build inf104 places104 rfl rfl) <| J.front 2 rfl <| js [ii i368, ii 2, ii i313, ii 0] sz104 rfl rfl rfl rfl rfl rfl ?_
       refine J.nil <| CJ.ret ?_
       obtain rfl := si h342
       refine ⟨nofun, fun e => ?_⟩
       subst e
       refine .inr ⟨nofun, ?_⟩
       obtain rfl := si h
       exact ⟨_, _, Res.one rfl ⟨_, _, rfl, Ld.agg (cs := [ii i368, ii 2, ii i313, ii 0]) Try.underlying104 sz104 rfl (Rd.cls 0 0 rfl rfl)⟩, ⟨i368, 2, i313, 0, rfl, rfl, rfl⟩, (Hp.le_refl _), fun w hs => (Sep.dropAt 0 rfl (Sep.dropAt 0 rfl (Sep.dropAt 0 rfl hs)))⟩
     refine CJ.skip <| CJ.region <| jv (ii (IntKind.wrap .i64 (i313 + 1))) (V.add rfl rfl) <| jm (ii (IntKind.wrap .i64 (i313 + 1))) rfl <| J.dropAt 0 rfl <| J.nil ?_
     obtain rfl := si h342
     exact ⟨rfl, ⟨IntKind.wrap .i64 (i313 + 1), rfl, ⟨rfl, rfl, rfl, rfl, rfl, rfl, trivial⟩, rfl, rfl⟩⟩
   refine CJ.dropAt 0 rfl <| CJ.exit ?_
   obtain rfl := si h342
   refine ⟨nofun, fun e => ?_⟩
   subst e
   exact .inl ⟨rfl, _, rfl, ⟨rfl, ⟨rfl, trivial⟩, rfl, rfl⟩⟩
 rintro s ρ _ _ ho373 ⟨rfl, hf374, rfl, rfl⟩
 subst ho373
 obtain ⟨ρ, rfl⟩ := hf374.ex
 refine PJ.done <| cr <| jv (.agg #[ii 0, ii 0, ii 0, ii 0]) (V.build inf104 places104 rfl rfl) <| js [ii 0, ii 0, ii 0, ii 0] sz104 rfl rfl rfl rfl rfl rfl <| J.nil <| CJ.ret ?_
 obtain rfl := si h
 exact ⟨_, _, Res.one rfl ⟨_, _, rfl, Ld.agg (cs := [ii 0, ii 0, ii 0, ii 0]) Try.underlying104 sz104 rfl (Rd.cls 0 0 rfl rfl)⟩, ⟨0, 0, 0, 0, rfl, rfl, rfl⟩, (Hp.le_refl _), fun w hs => (Sep.dropAt 0 rfl hs)⟩

noncomputable def fn_row_Shape_1 (xa : (Int × Bool)) (xb : (Int × Bool)) : Option Bool :=
  some (xa.2 == xb.2)
set_option maxRecDepth 100000 in
set_option maxHeartbeats 4000000 in
theorem row_Shape_1_ok {K : Hp} {xa : (Int × Bool)} {xb : (Int × Bool)}   {r : Bool} (h : fn_row_Shape_1 xa xb = some r) :
    Tr Try.prog 81 #[.agg #[ii xa.1, .bool xa.2], .agg #[ii xb.1, .bool xb.2]] K [] (fun v K' L' => (∃ (t3 : Bool), t3 = r ∧ .bool t3 = v ∧ L' = []) ∧ K = K') := by
 refine Tr.k <| Tr.of Try.func81 rfl Try.ntmps81 rfl fun E F => ?_
 unfold fn_row_Shape_1 at h
 refine cr <| jbx [ii xa.1, .bool xa.2] rfl rfl fun b4 => jbx [ii xb.1, .bool xb.2] rfl rfl fun b5 => ja (.bool false) rfl <| J.nil <| CJ.seq ?_
 refine CJ.region <| jv _ (V.fad Try.underlying50 rfl nz4 rfl) <| jv (.bool xa.2) (V.ld rfl (Ld.sc sc4 (Rd.cl 1 rfl rfl))) <| jv _ (V.fad Try.underlying50 rfl nz4 rfl) <| jv (.bool xb.2) (V.ld rfl (Ld.sc sc4 (Rd.cl 0 rfl rfl))) <| jv (.bool (xa.2 == xb.2)) (V.eqb Try.underlying4 rfl rfl) <| ja (.bool (xa.2 == xb.2)) rfl ?_
 refine J.nil <| CJ.ret ?_
 obtain rfl := si h
 exact ⟨_, _, Res.one rfl rfl, ⟨xa.2 == xb.2, rfl, rfl, rfl⟩, (Hp.le_refl _), fun w hs => (Sep.dropAt 0 rfl (Sep.dropAt 0 rfl hs))⟩
noncomputable def fn_slices_EqualFunc_api_Slot_api_Slot_api_Slot_api_Slot_kk_row_Shape_1_l1 (xa : (List (Int × Bool))) (xb : (List (Int × Bool))) : Int → Option (Int ⊕ (Unit ⊕ Bool)) := fun (i313 : Int) => cond (decide (i313 < (((xa.length : Nat) : Int)))) ((getI xa i313).bind fun x348 => (getI xb i313).bind fun x358 => (fn_row_Shape_1 (x348.1, x348.2) (x358.1, x358.2)).bind fun t370 => cond (!t370) (some (.inr ((.inr (false))))) (some (.inl (IntKind.wrap .i64 (i313 + 1))))) (some (.inr ((.inl ()))))
noncomputable def fn_slices_EqualFunc_api_Slot_api_Slot_api_Slot_api_Slot_kk_row_Shape_1 (xa : (List (Int × Bool))) (xb : (List (Int × Bool))) : Option Bool :=
  cond (!decide ((((xa.length : Nat) : Int)) = (((xb.length : Nat) : Int)))) (some (false)) ((loop (fn_slices_EqualFunc_api_Slot_api_Slot_api_Slot_api_Slot_kk_row_Shape_1_l1 xa xb) 0 : Option (Unit ⊕ Bool)).bind fun o => match o with | .inr r => some r | .inl () => some (true))
set_option maxRecDepth 100000 in
set_option maxHeartbeats 4000000 in
theorem slices_EqualFunc_api_Slot_api_Slot_api_Slot_api_Slot_kk_row_Shape_1_ok {K : Hp} {xa : (List (Int × Bool))} {xb : (List (Int × Bool))} {adxa_0 : Option Addr} {cpxa_0 : Nat} {adxb_0 : Option Addr} {cpxb_0 : Nat} (fxa_0 : Is K (.sl (.cons (.int .i64) (.one .bool))) [.slice adxa_0 xa.length cpxa_0] xa) (fxb_0 : Is K (.sl (.cons (.int .i64) (.one .bool))) [.slice adxb_0 xb.length cpxb_0] xb) {r : Bool} (h : fn_slices_EqualFunc_api_Slot_api_Slot_api_Slot_api_Slot_kk_row_Shape_1 xa xb = some r) :
    Tr Try.prog 80 #[.slice adxa_0 xa.length cpxa_0, .slice adxb_0 xb.length cpxb_0, .func (.func 81) #[] #[]] K [] (fun v K' L' => (∃ (t189 : Bool), t189 = r ∧ .bool t189 = v ∧ L' = []) ∧ K = K') := by
 refine Tr.k <| Tr.of Try.func80 rfl Try.ntmps80 rfl fun E F => ?_
 unfold fn_slices_EqualFunc_api_Slot_api_Slot_api_Slot_api_Slot_kk_row_Shape_1 at h
 refine cr <| ja (.bool false) rfl <| J.nil <| CJ.seq <| CJ.seq <| CJ.region ?_
 refine jm (.slice adxa_0 xa.length cpxa_0) rfl <| jv (ii (((xa.length : Nat) : Int))) (V.len Try.underlying28 rfl) <| jm (.slice adxb_0 xb.length cpxb_0) rfl <| jv (ii (((xb.length : Nat) : Int))) (V.len Try.underlying28 rfl) <| jv (.bool (!decide ((((xa.length : Nat) : Int)) = (((xb.length : Nat) : Int))))) (V.neq rfl rfl) <| J.nil <| cc rfl h (fun hc190 h => ?_) fun hc190 h => ?_
 · refine cr <| ja (.bool false) rfl <| J.nil <| CJ.ret ?_
   obtain rfl := si h
   exact ⟨_, _, Res.one rfl rfl, ⟨false, rfl, rfl, rfl⟩, (Hp.le_refl _), fun w hs => hs⟩
 refine CJ.skip <| CJ.seq <| cr <| jm (.slice adxa_0 xa.length cpxa_0) rfl <| jv (ii (((xa.length : Nat) : Int))) (V.len Try.underlying28 rfl) <| jm (ii 0) rfl ?_
 refine J.nil ?_
 obtain ⟨o282, ho283, h⟩ := ob h
 refine CJ.joinN (o := o282) (fun s ρ K' L' => () = s ∧ Fits [] ρ ∧ K = K' ∧ F = L') ?_ ?_
 · refine CJ.block <| CJ.loop (fun s ρ K' L' => ∃ (i313 : Int), i313 = s ∧ Fits [(1, .slice adxb_0 xb.length cpxb_0), (2, .func (.func 81) #[] #[]), (15, .slice adxa_0 xa.length cpxa_0), (16, ii (((xa.length : Nat) : Int))), (17, ii i313)] ρ ∧ K = K' ∧ F = L') ho283 ⟨0, rfl, ⟨rfl, rfl, rfl, rfl, rfl, trivial⟩, rfl, rfl⟩ ?_
   rintro s ρ _ _ r346 ⟨i313, rfl, hf344, rfl, rfl⟩ h343
   obtain ⟨ρ, rfl⟩ := hf344.ex
   refine cr <| jv (.bool (decide (i313 < (((xa.length : Nat) : Int))))) (V.lss rfl rfl) <| J.nil <| CJ.seq <| cc rfl h343 (fun hc347 h343 => ?_) fun hc347 h343 => ?_
   · refine CJ.skip <| CJ.seq <| CJ.block <| cr <| jm (ii i313) rfl ?_
     obtain ⟨x348, hx349, h343⟩ := ob h343
     obtain ⟨p350, p351, p352⟩ := getI_some hx349
     obtain ⟨b353, o354, e355, a356⟩ := (fxa_0).at p351
     refine jv _ (V.iad Try.underlying28 sz50 rfl e355 rfl p350 p352) <| jv (.agg #[ii x348.1, .bool x348.2]) (V.ld rfl (Ld.aggK (cs := [ii x348.1, .bool x348.2]) Try.underlying50 sz50 rfl ⟨((a356).fst).int, (((a356).snd).one).bool, trivial⟩ (Hp.le_refl _))) <| jal inf50 [ii 0, .bool false] rfl fun b357 => ja (ii i313) rfl <| js [ii x348.1, .bool x348.2] sz50 rfl rfl rfl rfl rfl rfl <| J.nil <| CJ.seq ?_
     refine CJ.region <| jm (.slice adxb_0 xb.length cpxb_0) rfl <| jm (ii i313) rfl ?_
     obtain ⟨x358, hx359, h343⟩ := ob h343
     obtain ⟨p360, p361, p362⟩ := getI_some hx359
     obtain ⟨b363, o364, e365, a366⟩ := (fxb_0).at p361
     refine jv _ (V.iad Try.underlying28 sz50 rfl e365 rfl p360 p362) <| jv (.agg #[ii x358.1, .bool x358.2]) (V.ld rfl (Ld.aggK (cs := [ii x358.1, .bool x358.2]) Try.underlying50 sz50 rfl ⟨((a366).fst).int, (((a366).snd).one).bool, trivial⟩ (Hp.le_refl _))) <| jal inf50 [ii 0, .bool false] rfl fun b367 => js [ii x358.1, .bool x358.2] sz50 rfl rfl rfl rfl rfl rfl <| J.nil <| CJ.seq <| CJ.region ?_
     refine jm (.func (.func 81) #[] #[]) rfl <| jv (.agg #[ii x348.1, .bool x348.2]) (V.ld rfl (Ld.agg (cs := [ii x348.1, .bool x348.2]) Try.underlying50 sz50 rfl (Rd.cls 1 0 rfl rfl))) <| jv (.agg #[ii x358.1, .bool x358.2]) (V.ld rfl (Ld.agg (cs := [ii x358.1, .bool x358.2]) Try.underlying50 sz50 rfl (Rd.cls 0 0 rfl rfl))) ?_
     obtain ⟨r368, hr369, h343⟩ := ob h343
     refine J.op rfl (A.call (L1 := []) Try.call81 rfl (row_Shape_1_ok hr369) rfl rfl) ?_
     rintro _ _ _ ⟨v371, _, rfl, ⟨⟨t370, rfl, rfl, rfl⟩, rfl⟩, _, rfl⟩
     refine jv (.bool (!t370)) (V.not rfl) <| J.nil <| cc rfl h343 (fun hc374 h343 => ?_) fun hc374 h343 => ?_
     · refine cr <| ja (.bool false) rfl <| J.nil <| CJ.ret ?_
       obtain rfl := si h343
       refine ⟨nofun, fun e => ?_⟩
       subst e
       refine .inr ⟨nofun, ?_⟩
       obtain rfl := si h
       exact ⟨_, _, Res.one rfl rfl, ⟨false, rfl, rfl, rfl⟩, (Hp.le_refl _), fun w hs => (Sep.dropAt 0 rfl (Sep.dropAt 0 rfl hs))⟩
     refine CJ.skip <| CJ.region <| jv (ii (IntKind.wrap .i64 (i313 + 1))) (V.add rfl rfl) <| jm (ii (IntKind.wrap .i64 (i313 + 1))) rfl <| J.dropAt 0 rfl <| J.dropAt 0 rfl <| J.nil ?_
     obtain rfl := si h343
     exact ⟨rfl, ⟨IntKind.wrap .i64 (i313 + 1), rfl, ⟨rfl, rfl, rfl, rfl, rfl, trivial⟩, rfl, rfl⟩⟩
   refine CJ.exit ?_
   obtain rfl := si h343
   refine ⟨nofun, fun e => ?_⟩
   subst e
   exact .inl ⟨rfl, _, rfl, ⟨rfl, trivial, rfl, rfl⟩⟩
 rintro s ρ _ _ ho375 ⟨rfl, hf376, rfl, rfl⟩
 subst ho375
 obtain ⟨ρ, rfl⟩ := hf376.ex
 refine PJ.done <| cr <| ja (.bool true) rfl <| J.nil <| CJ.ret ?_
 obtain rfl := si h
 exact ⟨_, _, Res.one rfl rfl, ⟨true, rfl, rfl, rfl⟩, (Hp.le_refl _), fun w hs => hs⟩

noncomputable def fn_row_Shape (xa : (List (Int × Bool))) (xb : (List (Int × Bool))) : Option Bool :=
  (fn_slices_EqualFunc_api_Slot_api_Slot_api_Slot_api_Slot_kk_row_Shape_1 xa xb).bind fun t14 => some (t14)
set_option maxRecDepth 100000 in
set_option maxHeartbeats 4000000 in
theorem row_Shape_ok {K : Hp} {xa : (List (Int × Bool))} {xb : (List (Int × Bool))} {adxa_0 : Option Addr} {cpxa_0 : Nat} {adxb_0 : Option Addr} {cpxb_0 : Nat} (fxa_0 : Is K (.sl (.cons (.int .i64) (.one .bool))) [.slice adxa_0 xa.length cpxa_0] xa) (fxb_0 : Is K (.sl (.cons (.int .i64) (.one .bool))) [.slice adxb_0 xb.length cpxb_0] xb) {r : Bool} (h : fn_row_Shape xa xb = some r) :
    Tr Try.prog 63 #[.agg #[.slice adxa_0 xa.length cpxa_0], .agg #[.slice adxb_0 xb.length cpxb_0]] K [] (fun v K' L' => (∃ (t9 : Bool), t9 = r ∧ .bool t9 = v ∧ L' = []) ∧ K = K') := by
 refine Tr.k <| Tr.of Try.func63 rfl Try.ntmps63 rfl fun E F => ?_
 unfold fn_row_Shape at h
 refine cr <| jbx [.slice adxa_0 xa.length cpxa_0] rfl rfl fun b10 => jbx [.slice adxb_0 xb.length cpxb_0] rfl rfl fun b11 => ja (.bool false) rfl <| J.nil <| CJ.seq ?_
 refine CJ.region <| jv _ (V.fad Try.underlying30 rfl nz28 rfl) <| jv (.slice adxa_0 xa.length cpxa_0) (V.ld rfl (Ld.sc sc28 (Rd.cl 1 rfl rfl))) <| jv _ (V.fad Try.underlying30 rfl nz28 rfl) <| jv (.slice adxb_0 xb.length cpxb_0) (V.ld rfl (Ld.sc sc28 (Rd.cl 0 rfl rfl))) ?_
 obtain ⟨r12, hr13, h⟩ := ob h
 refine J.op rfl (A.call (L1 := []) Try.call80 rfl (slices_EqualFunc_api_Slot_api_Slot_api_Slot_api_Slot_kk_row_Shape_1_ok fxa_0 fxb_0 hr13) rfl rfl) ?_
 rintro _ _ _ ⟨v15, _, rfl, ⟨⟨t14, rfl, rfl, rfl⟩, rfl⟩, _, rfl⟩
 refine ja (.bool t14) rfl <| J.nil <| CJ.ret ?_
 obtain rfl := si h
 exact ⟨_, _, Res.one rfl rfl, ⟨t14, rfl, rfl, rfl⟩, (Hp.le_refl _), fun w hs => (Sep.dropAt 0 rfl (Sep.dropAt 0 rfl hs))⟩

noncomputable def fn_valid_ret_az (xa : (Int × Int × (List (Int × Int)) × (List (List (Int × Bool))) × (List (Int × Bool)) × (List (Int × (List (Int × Int)) × (List (List (Int × Bool))) × (List (Int × Bool)))) × (List ((List (Int × Int × Int × Int × Bool)) × (Int × Int × Int × (List Int) × (List Int) × (List Int)))))) : Option (Int × Int × Int × Int) :=
  (fn_row_Check xa.2.2.2.2.1 xa.1).bind fun i59 => cond (decide (i59 = 0)) ((getI xa.2.2.2.1 0).bind fun x85 => (fn_row_Shape xa.2.2.2.2.1 x85).bind fun t100 => cond (!t100) (some ((8, 3, 0, 0))) (some ((i59, 3, 0, 0)))) (some ((i59, 3, 0, 0)))
set_option maxRecDepth 100000 in
set_option maxHeartbeats 4000000 in
theorem valid_ret_az_ok {K : Hp} {xa : (Int × Int × (List (Int × Int)) × (List (List (Int × Bool))) × (List (Int × Bool)) × (List (Int × (List (Int × Int)) × (List (List (Int × Bool))) × (List (Int × Bool)))) × (List ((List (Int × Int × Int × Int × Bool)) × (Int × Int × Int × (List Int) × (List Int) × (List Int)))))} {adxa_2 : Option Addr} {cpxa_2 : Nat} {adxa_3 : Option Addr} {cpxa_3 : Nat} {adxa_4 : Option Addr} {cpxa_4 : Nat} {adxa_5 : Option Addr} {cpxa_5 : Nat} {adxa_6 : Option Addr} {cpxa_6 : Nat} (fxa_2 : Is K (.sl (.cons (.int .i64) (.one (.int .i64)))) [.slice adxa_2 xa.2.2.1.length cpxa_2] xa.2.2.1) (fxa_3 : Is K (.sl (.one (.sl (.cons (.int .i64) (.one .bool))))) [.slice adxa_3 xa.2.2.2.1.length cpxa_3] xa.2.2.2.1) (fxa_4 : Is K (.sl (.cons (.int .i64) (.one .bool))) [.slice adxa_4 xa.2.2.2.2.1.length cpxa_4] xa.2.2.2.2.1) (fxa_5 : Is K (.sl (.cons (.int .i64) (.cons (.sl (.cons (.int .i64) (.one (.int .i64)))) (.cons (.sl (.one (.sl (.cons (.int .i64) (.one .bool))))) (.one (.one (.sl (.cons (.int .i64) (.one .bool))))))))) [.slice adxa_5 xa.2.2.2.2.2.1.length cpxa_5] xa.2.2.2.2.2.1) (fxa_6 : Is K (.sl (.cons (.sl (.cons (.int .i64) (.cons (.int .i64) (.cons (.int .i64) (.cons (.int .i64) (.one .bool)))))) (.one (.cons (.int .i64) (.cons (.int .i64) (.cons (.int .i64) (.cons (.sl (.int .i64)) (.cons (.sl (.int .i64)) (.one (.sl (.int .i64))))))))))) [.slice adxa_6 xa.2.2.2.2.2.2.length cpxa_6] xa.2.2.2.2.2.2) {r : (Int × Int × Int × Int)} (h : fn_valid_ret_az xa = some r) :
    Tr Try.prog 47 #[.agg #[ii xa.1, ii xa.2.1, .slice adxa_2 xa.2.2.1.length cpxa_2, .slice adxa_3 xa.2.2.2.1.length cpxa_3, .slice adxa_4 xa.2.2.2.2.1.length cpxa_4, .slice adxa_5 xa.2.2.2.2.2.1.length cpxa_5, .slice adxa_6 xa.2.2.2.2.2.2.length cpxa_6], .pointer none] K [] (fun v K' L' => (∃ (i51 : Int) (i52 : Int) (i53 : Int) (i54 : Int), (i51, i52, i53, i54) = r ∧ .agg #[ii i51, ii i52, ii i53, ii i54] = v ∧ L' = []) ∧ K = K') := by
 refine Tr.k <| Tr.of Try.func47 rfl Try.ntmps47 rfl fun E F => ?_
 unfold fn_valid_ret_az at h
 refine cr <| jbx [ii xa.1, ii xa.2.1, .slice adxa_2 xa.2.2.1.length cpxa_2, .slice adxa_3 xa.2.2.2.1.length cpxa_3, .slice adxa_4 xa.2.2.2.2.1.length cpxa_4, .slice adxa_5 xa.2.2.2.2.2.1.length cpxa_5, .slice adxa_6 xa.2.2.2.2.2.2.length cpxa_6] rfl rfl fun b55 => jal inf104 [ii 0, ii 0, ii 0, ii 0] rfl fun b56 => J.nil <| CJ.seq <| CJ.region ?_
 refine jv _ (V.fad Try.underlying34 rfl nz30 rfl) <| jv (.agg #[.slice adxa_4 xa.2.2.2.2.1.length cpxa_4]) (V.ld rfl (Ld.agg (cs := [.slice adxa_4 xa.2.2.2.2.1.length cpxa_4]) Try.underlying30 sz30 rfl (Rd.cls 1 4 rfl rfl))) <| jv _ (V.fad Try.underlying34 rfl nz3 rfl) <| jv (ii xa.1) (V.ld rfl (Ld.sc sc3 (Rd.cl 1 rfl rfl))) ?_
 obtain ⟨r57, hr58, h⟩ := ob h
 refine J.op rfl (A.call (L1 := []) Try.call62 rfl (row_Check_ok fxa_4 hr58) rfl rfl) ?_
 rintro _ _ _ ⟨v60, _, rfl, ⟨⟨i59, rfl, rfl, rfl⟩, rfl⟩, _, rfl⟩
 refine jv (.agg #[ii i59, ii 3, ii 0, ii 0]) (V.build inf104 places104 rfl rfl) <| jal inf104 [ii 0, ii 0, ii 0, ii 0] rfl fun b63 => js [ii i59, ii 3, ii 0, ii 0] sz104 rfl rfl rfl rfl rfl rfl <| J.nil <| CJ.seq <| CJ.seq <| CJ.mix [Cl b63 104 [ii i59, ii 3, ii 0, ii 0], Cl b56 104 [ii 0, ii 0, ii 0, ii 0], Cl b55 34 [ii xa.1, ii xa.2.1, .slice adxa_2 xa.2.2.1.length cpxa_2, .slice adxa_3 xa.2.2.2.1.length cpxa_3, .slice adxa_4 xa.2.2.2.2.1.length cpxa_4, .slice adxa_5 xa.2.2.2.2.2.1.length cpxa_5, .slice adxa_6 xa.2.2.2.2.2.2.length cpxa_6]] [([0, 1, 2, 3, 4, 5, 6, 7, 8, 9], 10)] [11, 12] [] mixO (by decide +kernel) ⟨0, rfl, 0, rfl, 0, rfl, trivial⟩ rfl rfl rfl ?_
 refine JM.cons <| qv _ (V.fad Try.underlying104 rfl nz37 rfl) <| qv (ii i59) (V.ld rfl (Ld.sc sc37 (Rd.cl 0 rfl rfl))) <| qv (.bool (decide (i59 = 0))) (V.eql rfl rfl) <| qm (.bool (decide (i59 = 0))) rfl ?_
 rcases bt (decide (i59 = 0)) with hc84 | hc84
 · have h := ct hc84 h
   refine JQ.run rfl rfl rfl hc84 <| qv _ (V.fad Try.underlying34 rfl nz30 rfl) <| JQ.run rfl rfl rfl hc84 <| qv (.agg #[.slice adxa_4 xa.2.2.2.2.1.length cpxa_4]) (V.ld rfl (Ld.agg (cs := [.slice adxa_4 xa.2.2.2.2.1.length cpxa_4]) Try.underlying30 sz30 rfl (Rd.cls 2 4 rfl rfl))) <| JQ.run rfl rfl rfl hc84 <| qv _ (V.fad Try.underlying34 rfl nz27 rfl) <| JQ.run rfl rfl rfl hc84 ?_
   refine qv (.slice adxa_3 xa.2.2.2.1.length cpxa_3) (V.ld rfl (Ld.sc sc27 (Rd.cl 2 rfl rfl))) <| JQ.run rfl rfl rfl hc84 ?_
   obtain ⟨x85, hx86, h⟩ := ob h
   obtain ⟨p87, p88, p89⟩ := getI_some hx86
   obtain ⟨b90, o91, e92, a93⟩ := (fxa_3).at p88
   refine qv _ (V.iad Try.underlying27 sz30 rfl e92 rfl p87 p89) <| JQ.run rfl rfl rfl hc84 ?_
   obtain ⟨ad94, cp95, c96, f97⟩ := ((a93).one).sl
   refine qv (.agg #[.slice ad94 x85.length cp95]) (V.ld rfl (Ld.aggK (cs := [.slice ad94 x85.length cp95]) Try.underlying30 sz30 rfl ⟨c96, trivial⟩ (Hp.le_refl _))) <| JQ.nil <| JA.run rfl rfl rfl hc84 ?_
   obtain ⟨r98, hr99, h⟩ := ob h
   refine JA.op rfl (A.call (L1 := []) Try.call63 rfl (row_Shape_ok fxa_4 f97 hr99) rfl rfl) ?_
   rintro _ _ _ ⟨v101, _, rfl, ⟨⟨t100, rfl, rfl, rfl⟩, rfl⟩, _, rfl⟩
   refine ⟨fun w hs => Hold.sub (Hp.le_refl _) ⟨0, rfl, 0, rfl, 0, rfl, trivial⟩ hs, ?_⟩
   refine JM.nil <| JQ.run rfl rfl rfl hc84 <| qv (.bool (!t100)) (V.not rfl) <| qv (.bool (!t100)) (V.pickT rfl hc84 rfl) <| JQ.nil <| J.nil <| cc rfl h (fun hc104 h => ?_) fun hc104 h => ?_
   · refine CJ.region <| jv _ (V.fad Try.underlying104 rfl nz37 rfl) <| js1 [ii 8, ii 3, ii 0, ii 0] sz37 rfl rfl rfl rfl rfl rfl <| J.nil <| cr <| jv (.agg #[ii 8, ii 3, ii 0, ii 0]) (V.ld rfl (Ld.agg (cs := [ii 8, ii 3, ii 0, ii 0]) Try.underlying104 sz104 rfl (Rd.cls 0 0 rfl rfl))) ?_
     refine J.front 1 rfl <| js [ii 8, ii 3, ii 0, ii 0] sz104 rfl rfl rfl rfl rfl rfl <| J.nil <| CJ.ret ?_
     obtain rfl := si h
     exact ⟨_, _, Res.one rfl ⟨_, _, rfl, Ld.agg (cs := [ii 8, ii 3, ii 0, ii 0]) Try.underlying104 sz104 rfl (Rd.cls 0 0 rfl rfl)⟩, ⟨8, 3, 0, 0, rfl, rfl, rfl⟩, (Hp.le_refl _), fun w hs => (Sep.dropAt 0 rfl (Sep.dropAt 0 rfl (Sep.dropAt 0 rfl hs)))⟩
   refine CJ.skip <| cr <| jv (.agg #[ii i59, ii 3, ii 0, ii 0]) (V.ld rfl (Ld.agg (cs := [ii i59, ii 3, ii 0, ii 0]) Try.underlying104 sz104 rfl (Rd.cls 0 0 rfl rfl))) <| J.front 1 rfl <| js [ii i59, ii 3, ii 0, ii 0] sz104 rfl rfl rfl rfl rfl rfl <| J.nil ?_
   refine CJ.ret ?_
   obtain rfl := si h
   exact ⟨_, _, Res.one rfl ⟨_, _, rfl, Ld.agg (cs := [ii i59, ii 3, ii 0, ii 0]) Try.underlying104 sz104 rfl (Rd.cls 0 0 rfl rfl)⟩, ⟨i59, 3, 0, 0, rfl, rfl, rfl⟩, (Hp.le_refl _), fun w hs => (Sep.dropAt 0 rfl (Sep.dropAt 0 rfl (Sep.dropAt 0 rfl hs)))⟩
 have h := cf hc84 h
 refine JQ.skip rfl rfl rfl rfl hc84 <| JQ.skip rfl rfl rfl rfl hc84 <| JQ.skip rfl rfl rfl rfl hc84 <| JQ.skip rfl rfl rfl rfl hc84 <| JQ.skip rfl rfl rfl rfl hc84 <| JQ.skip rfl rfl rfl rfl hc84 <| JQ.nil ?_
 refine JA.skip rfl rfl rfl rfl hc84 <| JM.nil <| JQ.skip rfl rfl rfl rfl hc84 <| qv (.bool false) (V.pickF rfl hc84 rfl) <| JQ.nil <| J.nil <| CJ.condK (b := false) rfl rfl ?_
 refine CJ.skip <| cr <| jv (.agg #[ii i59, ii 3, ii 0, ii 0]) (V.ld rfl (Ld.agg (cs := [ii i59, ii 3, ii 0, ii 0]) Try.underlying104 sz104 rfl (Rd.cls 0 0 rfl rfl))) <| J.front 1 rfl <| js [ii i59, ii 3, ii 0, ii 0] sz104 rfl rfl rfl rfl rfl rfl <| J.nil ?_
 refine CJ.ret ?_
 obtain rfl := si h
 exact ⟨_, _, Res.one rfl ⟨_, _, rfl, Ld.agg (cs := [ii i59, ii 3, ii 0, ii 0]) Try.underlying104 sz104 rfl (Rd.cls 0 0 rfl rfl)⟩, ⟨i59, 3, 0, 0, rfl, rfl, rfl⟩, (Hp.le_refl _), fun w hs => (Sep.dropAt 0 rfl (Sep.dropAt 0 rfl (Sep.dropAt 0 rfl hs)))⟩

noncomputable def fn_sig_Check_1_ip0_ikkk (xa : Int) (qa0 : Int) (qa1 : (List (Int × Int))) (qa2 : (List (List (Int × Bool)))) (qa3 : (List (Int × Bool))) : Option Bool :=
  some ((decide (0 ≤ xa)) && (decide (xa < qa0)))
set_option maxRecDepth 100000 in
set_option maxHeartbeats 4000000 in
theorem sig_Check_1_ip0_ikkk_ok {K : Hp} {xa : Int} {qa0 : Int} {qa1 : (List (Int × Int))} {qa2 : (List (List (Int × Bool)))} {qa3 : (List (Int × Bool))} {pba : Nat} {adqa1 : Option Addr} {cpqa1 : Nat} {adqa2 : Option Addr} {cpqa2 : Nat} {adqa3 : Option Addr} {cpqa3 : Nat} (fqa1 : Is K (.sl (.cons (.int .i64) (.one (.int .i64)))) [.slice adqa1 qa1.length cpqa1] qa1) (fqa2 : Is K (.sl (.one (.sl (.cons (.int .i64) (.one .bool))))) [.slice adqa2 qa2.length cpqa2] qa2) (fqa3 : Is K (.sl (.cons (.int .i64) (.one .bool))) [.slice adqa3 qa3.length cpqa3] qa3) {r : Bool} (h : fn_sig_Check_1_ip0_ikkk xa qa0 qa1 qa2 qa3 = some r) :
    Tr Try.prog 82 #[ii xa, .pointer (some ⟨pba, 0, none⟩)] K [Cl pba 135 [ii qa0, .slice adqa1 qa1.length cpqa1, .slice adqa2 qa2.length cpqa2, .slice adqa3 qa3.length cpqa3]] (fun v K' L' => (∃ (t4 : Bool), t4 = r ∧ .bool t4 = v ∧ L' = [Cl pba 135 [ii qa0, .slice adqa1 qa1.length cpqa1, .slice adqa2 qa2.length cpqa2, .slice adqa3 qa3.length cpqa3]]) ∧ K = K') := by
 refine Tr.k <| Tr.of Try.func82 rfl Try.ntmps82 rfl fun E F => ?_
 unfold fn_sig_Check_1_ip0_ikkk at h
 refine cr <| ja (.bool false) rfl <| J.nil <| cr <| jm (ii xa) rfl ?_
 refine jv (.bool (decide (0 ≤ xa))) (V.geq rfl rfl) <| jm (.bool (decide (0 ≤ xa))) rfl <| J.cut 5 <| jmeet [(11, .bool ((decide (0 ≤ xa)) && (decide (xa < qa0))))] ?_ ?_
 · rcases bt (decide (0 ≤ xa)) with hc7 | hc7
   · refine J.run rfl rfl rfl hc7 <| jm (ii xa) rfl <| J.run rfl rfl rfl hc7 <| jv _ (V.fad Try.underlying135 rfl nz3 rfl) <| J.run rfl rfl rfl hc7 <| jv (ii qa0) (V.ld rfl (Ld.sc sc3 (Rd.cl 0 rfl rfl))) <| J.run rfl rfl rfl hc7 ?_
     refine jv (.bool (decide (xa < qa0))) (V.lss rfl rfl) <| jv (.bool (decide (xa < qa0))) (V.pickT rfl hc7 rfl) <| J.nil ?_
     exact ⟨rfl, ⟨(by simp only [hc7]; rfl), trivial⟩, rfl, rfl⟩
   refine J.skip rfl rfl rfl rfl hc7 <| J.skip rfl rfl rfl rfl hc7 <| J.skip rfl rfl rfl rfl hc7 <| J.skip rfl rfl rfl rfl hc7 <| jv (.bool false) (V.pickF rfl hc7 rfl) <| J.nil ?_
   exact ⟨rfl, ⟨(by simp only [hc7]; rfl), trivial⟩, rfl, rfl⟩
 intro ρ
 refine ja (.bool ((decide (0 ≤ xa)) && (decide (xa < qa0)))) rfl <| J.nil <| CJ.ret ?_
 obtain rfl := si h
 exact ⟨_, _, Res.one rfl rfl, ⟨(decide (0 ≤ xa)) && (decide (xa < qa0)), rfl, rfl, rfl⟩, (Hp.le_refl _), fun w hs => hs⟩
noncomputable def fn_sig_Check_l1 (xa : (Int × (List (Int × Int)) × (List (List (Int × Bool))) × (List (Int × Bool)))) : Int → Option (Int ⊕ (Unit ⊕ Int)) := fun (i546 : Int) => cond (decide (i546 < (((xa.2.1.length : Nat) : Int)))) ((getI xa.2.1 i546).bind fun x587 => (fn_sig_Check_1_ip0_ikkk x587.1 xa.1 xa.2.1 xa.2.2.1 xa.2.2.2).bind fun t599 => (cond (!t599) (some (true)) ((fn_sig_Check_1_ip0_ikkk x587.2 xa.1 xa.2.1 xa.2.2.1 xa.2.2.2).bind fun t615 => some (!t615))).bind fun t610 => cond (t610) (some (.inr ((.inr (7))))) (some (.inl (IntKind.wrap .i64 (i546 + 1))))) (some (.inr ((.inl ()))))
noncomputable def fn_sig_Check_l2 (xa : (Int × (List (Int × Int)) × (List (List (Int × Bool))) × (List (Int × Bool)))) : Int → Option (Int ⊕ (Unit ⊕ Int)) := fun (i721 : Int) => cond (decide (i721 < (((xa.2.2.1.length : Nat) : Int)))) ((getI xa.2.2.1 i721).bind fun x750 => (fn_row_Check x750 xa.1).bind fun i766 => cond (!decide (i766 = 0)) (some (.inr ((.inr (i766))))) (some (.inl (IntKind.wrap .i64 (i721 + 1))))) (some (.inr ((.inl ()))))
noncomputable def fn_sig_Check (xa : (Int × (List (Int × Int)) × (List (List (Int × Bool))) × (List (Int × Bool)))) : Option Int :=
  cond (decide (xa.1 < 0)) (some (7)) (cond (((decide (16 < xa.1)) || (decide (16 < (((xa.2.1.length : Nat) : Int))))) || (decide (16 < (((xa.2.2.1.length : Nat) : Int))))) (some (6)) ((loop (fn_sig_Check_l1 xa) 0 : Option (Unit ⊕ Int)).bind fun o => match o with | .inr r => some r | .inl () => (loop (fn_sig_Check_l2 xa) 0 : Option (Unit ⊕ Int)).bind fun o => match o with | .inr r => some r | .inl () => (fn_row_Check xa.2.2.2 xa.1).bind fun i776 => some (i776)))
set_option maxRecDepth 100000 in
set_option maxHeartbeats 4000000 in
theorem sig_Check_ok {K : Hp} {xa : (Int × (List (Int × Int)) × (List (List (Int × Bool))) × (List (Int × Bool)))} {adxa_1 : Option Addr} {cpxa_1 : Nat} {adxa_2 : Option Addr} {cpxa_2 : Nat} {adxa_3 : Option Addr} {cpxa_3 : Nat} (fxa_1 : Is K (.sl (.cons (.int .i64) (.one (.int .i64)))) [.slice adxa_1 xa.2.1.length cpxa_1] xa.2.1) (fxa_2 : Is K (.sl (.one (.sl (.cons (.int .i64) (.one .bool))))) [.slice adxa_2 xa.2.2.1.length cpxa_2] xa.2.2.1) (fxa_3 : Is K (.sl (.cons (.int .i64) (.one .bool))) [.slice adxa_3 xa.2.2.2.length cpxa_3] xa.2.2.2) {r : Int} (h : fn_sig_Check xa = some r) :
    Tr Try.prog 64 #[.agg #[ii xa.1, .slice adxa_1 xa.2.1.length cpxa_1, .slice adxa_2 xa.2.2.1.length cpxa_2, .slice adxa_3 xa.2.2.2.length cpxa_3]] K [] (fun v K' L' => (∃ (i390 : Int), i390 = r ∧ ii i390 = v ∧ L' = []) ∧ K = K') := by
 refine Tr.k <| Tr.of Try.func64 rfl Try.ntmps64 rfl fun E F => ?_
 unfold fn_sig_Check at h
 refine cr <| jbx [ii xa.1, .slice adxa_1 xa.2.1.length cpxa_1, .slice adxa_2 xa.2.2.1.length cpxa_2, .slice adxa_3 xa.2.2.2.length cpxa_3] rfl rfl fun b391 => ja (ii 0) rfl <| J.nil <| CJ.seq <| CJ.seq ?_
 refine CJ.region <| jv _ (V.fad Try.underlying135 rfl nz3 rfl) <| jv (ii xa.1) (V.ld rfl (Ld.sc sc3 (Rd.cl 0 rfl rfl))) <| jv (.bool (decide (xa.1 < 0))) (V.lss rfl rfl) <| J.nil <| cc rfl h (fun hc392 h => ?_) fun hc392 h => ?_
 · refine cr <| ja (ii 7) rfl <| J.nil <| CJ.ret ?_
   obtain rfl := si h
   exact ⟨_, _, Res.one rfl rfl, ⟨7, rfl, rfl, rfl⟩, (Hp.le_refl _), fun w hs => (Sep.dropAt 0 rfl hs)⟩
 refine CJ.skip <| CJ.seq <| cr <| jv _ (V.fad Try.underlying135 rfl nz3 rfl) <| jv (ii xa.1) (V.ld rfl (Ld.sc sc3 (Rd.cl 0 rfl rfl))) <| jv (.bool (decide (16 < xa.1))) (V.gtr rfl rfl) ?_
 refine jm (.bool (decide (16 < xa.1))) rfl <| J.cut 5 <| jmeet [(20, .bool ((decide (16 < xa.1)) || (decide (16 < (((xa.2.1.length : Nat) : Int)))))), (1, .pointer (some ⟨b391, 0, none⟩))] ?_ ?_
 · rcases bt (decide (16 < xa.1)) with hc395 | hc395
   · refine J.skip rfl rfl rfl rfl hc395 <| J.skip rfl rfl rfl rfl hc395 <| J.skip rfl rfl rfl rfl hc395 <| J.skip rfl rfl rfl rfl hc395 <| jv (.bool true) (V.pickT rfl hc395 rfl) <| J.nil ?_
     exact ⟨rfl, ⟨(by simp only [hc395]; rfl), rfl, trivial⟩, rfl, rfl⟩
   refine J.run rfl rfl rfl hc395 <| jv _ (V.fad Try.underlying135 rfl nz26 rfl) <| J.run rfl rfl rfl hc395 <| jv (.slice adxa_1 xa.2.1.length cpxa_1) (V.ld rfl (Ld.sc sc26 (Rd.cl 0 rfl rfl))) <| J.run rfl rfl rfl hc395 <| jv (ii (((xa.2.1.length : Nat) : Int))) (V.len Try.underlying26 rfl) <| J.run rfl rfl rfl hc395 ?_
   refine jv (.bool (decide (16 < (((xa.2.1.length : Nat) : Int))))) (V.gtr rfl rfl) <| jv (.bool (decide (16 < (((xa.2.1.length : Nat) : Int))))) (V.pickF rfl hc395 rfl) <| J.nil ?_
   exact ⟨rfl, ⟨(by simp only [hc395]; rfl), rfl, trivial⟩, rfl, rfl⟩
 intro ρ
 refine jm (.bool ((decide (16 < xa.1)) || (decide (16 < (((xa.2.1.length : Nat) : Int)))))) rfl <| J.cut 5 <| jmeet [(26, .bool (((decide (16 < xa.1)) || (decide (16 < (((xa.2.1.length : Nat) : Int))))) || (decide (16 < (((xa.2.2.1.length : Nat) : Int)))))), (1, .pointer (some ⟨b391, 0, none⟩))] ?_ ?_
 · rcases bt ((decide (16 < xa.1)) || (decide (16 < (((xa.2.1.length : Nat) : Int))))) with hc398 | hc398
   · refine J.skip rfl rfl rfl rfl hc398 <| J.skip rfl rfl rfl rfl hc398 <| J.skip rfl rfl rfl rfl hc398 <| J.skip rfl rfl rfl rfl hc398 <| jv (.bool true) (V.pickT rfl hc398 rfl) <| J.nil ?_
     exact ⟨rfl, ⟨(by simp only [hc398]; rfl), rfl, trivial⟩, rfl, rfl⟩
   refine J.run rfl rfl rfl hc398 <| jv _ (V.fad Try.underlying135 rfl nz27 rfl) <| J.run rfl rfl rfl hc398 <| jv (.slice adxa_2 xa.2.2.1.length cpxa_2) (V.ld rfl (Ld.sc sc27 (Rd.cl 0 rfl rfl))) <| J.run rfl rfl rfl hc398 <| jv (ii (((xa.2.2.1.length : Nat) : Int))) (V.len Try.underlying27 rfl) <| J.run rfl rfl rfl hc398 ?_
   refine jv (.bool (decide (16 < (((xa.2.2.1.length : Nat) : Int))))) (V.gtr rfl rfl) <| jv (.bool (decide (16 < (((xa.2.2.1.length : Nat) : Int))))) (V.pickF rfl hc398 rfl) <| J.nil ?_
   exact ⟨rfl, ⟨(by simp only [hc398]; rfl), rfl, trivial⟩, rfl, rfl⟩
 intro ρ
 refine J.nil <| cc rfl h (fun hc399 h => ?_) fun hc399 h => ?_
 · refine cr <| ja (ii 6) rfl <| J.nil <| CJ.ret ?_
   obtain rfl := si h
   exact ⟨_, _, Res.one rfl rfl, ⟨6, rfl, rfl, rfl⟩, (Hp.le_refl _), fun w hs => (Sep.dropAt 0 rfl hs)⟩
 refine CJ.skip <| cr <| jv (.func (.func 82) #[] #[.pointer (some ⟨b391, 0, none⟩)]) (V.mkf rfl) <| ja (.func (.func 82) #[] #[.pointer (some ⟨b391, 0, none⟩)]) rfl <| J.nil <| CJ.seq ?_
 refine cr <| jv _ (V.fad Try.underlying135 rfl nz26 rfl) <| jv (.slice adxa_1 xa.2.1.length cpxa_1) (V.ld rfl (Ld.sc sc26 (Rd.cl 0 rfl rfl))) <| jv (ii (((xa.2.1.length : Nat) : Int))) (V.len Try.underlying26 rfl) <| jm (ii 0) rfl <| J.nil ?_
 obtain ⟨o509, ho510, h⟩ := ob h
 refine CJ.joinN (o := o509) (fun s ρ K' L' => () = s ∧ Fits [(1, .pointer (some ⟨b391, 0, none⟩))] ρ ∧ K = K' ∧ L' = Cl b391 135 [ii xa.1, .slice adxa_1 xa.2.1.length cpxa_1, .slice adxa_2 xa.2.2.1.length cpxa_2, .slice adxa_3 xa.2.2.2.length cpxa_3] :: F) ?_ ?_
 · refine CJ.block <| CJ.loop (fun s ρ K' L' => ∃ (i546 : Int), i546 = s ∧ Fits [(1, .pointer (some ⟨b391, 0, none⟩)), (3, .func (.func 82) #[] #[.pointer (some ⟨b391, 0, none⟩)]), (29, .slice adxa_1 xa.2.1.length cpxa_1), (30, ii (((xa.2.1.length : Nat) : Int))), (31, ii i546)] ρ ∧ K = K' ∧ L' = Cl b391 135 [ii xa.1, .slice adxa_1 xa.2.1.length cpxa_1, .slice adxa_2 xa.2.2.1.length cpxa_2, .slice adxa_3 xa.2.2.2.length cpxa_3] :: F) ho510 ⟨0, rfl, ⟨rfl, rfl, rfl, rfl, rfl, trivial⟩, rfl, rfl⟩ ?_
   rintro s ρ _ _ r585 ⟨i546, rfl, hf583, rfl, rfl⟩ h582
   obtain ⟨ρ, rfl⟩ := hf583.ex
   refine cr <| jv (.bool (decide (i546 < (((xa.2.1.length : Nat) : Int))))) (V.lss rfl rfl) <| J.nil <| CJ.seq <| cc rfl h582 (fun hc586 h582 => ?_) fun hc586 h582 => ?_
   · refine CJ.skip <| CJ.seq <| CJ.block <| CJ.seq <| CJ.region ?_
     obtain ⟨x587, hx588, h582⟩ := ob h582
     obtain ⟨p589, p590, p591⟩ := getI_some hx588
     obtain ⟨b592, o593, e594, a595⟩ := (fxa_1).at p590
     refine jv _ (V.iad Try.underlying26 sz83 rfl e594 rfl p589 p591) <| jv (.agg #[ii x587.1, ii x587.2]) (V.ld rfl (Ld.aggK (cs := [ii x587.1, ii x587.2]) Try.underlying83 sz83 rfl ⟨((a595).fst).int, (((a595).snd).one).int, trivial⟩ (Hp.le_refl _))) <| jal inf83 [ii 0, ii 0] rfl fun b596 => js [ii x587.1, ii x587.2] sz83 rfl rfl rfl rfl rfl rfl <| J.nil <| CJ.seq <| CJ.region ?_
     refine jm (.func (.func 82) #[] #[.pointer (some ⟨b391, 0, none⟩)]) rfl <| jv _ (V.fad Try.underlying83 rfl nz3 rfl) <| jv (ii x587.1) (V.ld rfl (Ld.sc sc3 (Rd.cl 0 rfl rfl))) ?_
     obtain ⟨r597, hr598, h582⟩ := ob h582
     refine J.front 1 rfl <| J.op rfl (A.call (L1 := [Cl b391 135 [ii xa.1, .slice adxa_1 xa.2.1.length cpxa_1, .slice adxa_2 xa.2.2.1.length cpxa_2, .slice adxa_3 xa.2.2.2.length cpxa_3]]) Try.call82 rfl (sig_Check_1_ip0_ikkk_ok fxa_1 fxa_2 fxa_3 hr598) rfl rfl) ?_
     rintro _ _ _ ⟨v600, _, rfl, ⟨⟨t599, rfl, rfl, rfl⟩, rfl⟩, _, rfl⟩
     refine jv (.bool (!t599)) (V.not rfl) <| jm (.bool (!t599)) rfl <| J.cut 6 ?_
     obtain ⟨t610, ht611, h582⟩ := ob h582
     refine jmeet [(46, .bool t610), (1, .pointer (some ⟨b391, 0, none⟩)), (3, .func (.func 82) #[] #[.pointer (some ⟨b391, 0, none⟩)]), (29, .slice adxa_1 xa.2.1.length cpxa_1), (30, ii (((xa.2.1.length : Nat) : Int))), (31, ii i546)] ?_ ?_
     · rcases bt (!t599) with hc612 | hc612
       · have ht611 := ct hc612 ht611
         refine J.skip rfl rfl rfl rfl hc612 <| J.skip rfl rfl rfl rfl hc612 <| J.skip rfl rfl rfl rfl hc612 <| J.skip rfl rfl rfl rfl hc612 <| J.skip rfl rfl rfl rfl hc612 <| jv (.bool true) (V.pickT rfl hc612 rfl) <| J.nil ?_
         obtain rfl := si ht611
         exact ⟨rfl, ⟨rfl, rfl, rfl, rfl, rfl, rfl, trivial⟩, rfl, rfl⟩
       have ht611 := cf hc612 ht611
       refine J.run rfl rfl rfl hc612 <| jm (.func (.func 82) #[] #[.pointer (some ⟨b391, 0, none⟩)]) rfl <| J.run rfl rfl rfl hc612 <| jv _ (V.fad Try.underlying83 rfl nz3 rfl) <| J.run rfl rfl rfl hc612 <| jv (ii x587.2) (V.ld rfl (Ld.sc sc3 (Rd.cl 1 rfl rfl))) <| J.run rfl rfl rfl hc612 ?_
       obtain ⟨r613, hr614, ht611⟩ := ob ht611
       refine J.op rfl (A.call (L1 := [Cl b391 135 [ii xa.1, .slice adxa_1 xa.2.1.length cpxa_1, .slice adxa_2 xa.2.2.1.length cpxa_2, .slice adxa_3 xa.2.2.2.length cpxa_3]]) Try.call82 rfl (sig_Check_1_ip0_ikkk_ok fxa_1 fxa_2 fxa_3 hr614) rfl rfl) ?_
       rintro _ _ _ ⟨v616, _, rfl, ⟨⟨t615, rfl, rfl, rfl⟩, rfl⟩, _, rfl⟩
       refine J.run rfl rfl rfl hc612 <| jv (.bool (!t615)) (V.not rfl) <| jv (.bool (!t615)) (V.pickF rfl hc612 rfl) <| J.nil ?_
       obtain rfl := si ht611
       exact ⟨rfl, ⟨rfl, rfl, rfl, rfl, rfl, rfl, trivial⟩, rfl, rfl⟩
     intro ρ
     refine J.nil <| cc rfl h582 (fun hc619 h582 => ?_) fun hc619 h582 => ?_
     · refine cr <| ja (ii 7) rfl <| J.nil <| CJ.ret ?_
       obtain rfl := si h582
       refine ⟨nofun, fun e => ?_⟩
       subst e
       refine .inr ⟨nofun, ?_⟩
       obtain rfl := si h
       exact ⟨_, _, Res.one rfl rfl, ⟨7, rfl, rfl, rfl⟩, (Hp.le_refl _), fun w hs => (Sep.dropAt 0 rfl (Sep.dropAt 0 rfl hs))⟩
     refine CJ.skip <| CJ.region <| jv (ii (IntKind.wrap .i64 (i546 + 1))) (V.add rfl rfl) <| jm (ii (IntKind.wrap .i64 (i546 + 1))) rfl <| J.dropAt 1 rfl <| J.nil ?_
     obtain rfl := si h582
     exact ⟨rfl, ⟨IntKind.wrap .i64 (i546 + 1), rfl, ⟨rfl, rfl, rfl, rfl, rfl, trivial⟩, rfl, rfl⟩⟩
   refine CJ.exit ?_
   obtain rfl := si h582
   refine ⟨nofun, fun e => ?_⟩
   subst e
   exact .inl ⟨rfl, _, rfl, ⟨rfl, ⟨rfl, trivial⟩, rfl, rfl⟩⟩
 rintro s ρ _ _ ho620 ⟨rfl, hf621, rfl, rfl⟩
 subst ho620
 obtain ⟨ρ, rfl⟩ := hf621.ex
 refine PJ.done <| CJ.seq <| cr <| jv _ (V.fad Try.underlying135 rfl nz27 rfl) <| jv (.slice adxa_2 xa.2.2.1.length cpxa_2) (V.ld rfl (Ld.sc sc27 (Rd.cl 0 rfl rfl))) <| jv (ii (((xa.2.2.1.length : Nat) : Int))) (V.len Try.underlying27 rfl) ?_
 refine jm (ii 0) rfl <| J.nil ?_
 obtain ⟨o696, ho697, h⟩ := ob h
 refine CJ.joinN (o := o696) (fun s ρ K' L' => () = s ∧ Fits [(1, .pointer (some ⟨b391, 0, none⟩))] ρ ∧ K = K' ∧ L' = Cl b391 135 [ii xa.1, .slice adxa_1 xa.2.1.length cpxa_1, .slice adxa_2 xa.2.2.1.length cpxa_2, .slice adxa_3 xa.2.2.2.length cpxa_3] :: F) ?_ ?_
 · refine CJ.block <| CJ.loop (fun s ρ K' L' => ∃ (i721 : Int), i721 = s ∧ Fits [(1, .pointer (some ⟨b391, 0, none⟩)), (49, .slice adxa_2 xa.2.2.1.length cpxa_2), (50, ii (((xa.2.2.1.length : Nat) : Int))), (51, ii i721)] ρ ∧ K = K' ∧ L' = Cl b391 135 [ii xa.1, .slice adxa_1 xa.2.1.length cpxa_1, .slice adxa_2 xa.2.2.1.length cpxa_2, .slice adxa_3 xa.2.2.2.length cpxa_3] :: F) ho697 ⟨0, rfl, ⟨rfl, rfl, rfl, rfl, trivial⟩, rfl, rfl⟩ ?_
   rintro s ρ _ _ r748 ⟨i721, rfl, hf746, rfl, rfl⟩ h745
   obtain ⟨ρ, rfl⟩ := hf746.ex
   refine cr <| jv (.bool (decide (i721 < (((xa.2.2.1.length : Nat) : Int))))) (V.lss rfl rfl) <| J.nil <| CJ.seq <| cc rfl h745 (fun hc749 h745 => ?_) fun hc749 h745 => ?_
   · refine CJ.skip <| CJ.seq <| CJ.block <| CJ.seq <| CJ.region ?_
     obtain ⟨x750, hx751, h745⟩ := ob h745
     obtain ⟨p752, p753, p754⟩ := getI_some hx751
     obtain ⟨b755, o756, e757, a758⟩ := (fxa_2).at p753
     refine jv _ (V.iad Try.underlying27 sz30 rfl e757 rfl p752 p754) ?_
     obtain ⟨ad759, cp760, c761, f762⟩ := ((a758).one).sl
     refine jv (.agg #[.slice ad759 x750.length cp760]) (V.ld rfl (Ld.aggK (cs := [.slice ad759 x750.length cp760]) Try.underlying30 sz30 rfl ⟨c761, trivial⟩ (Hp.le_refl _))) <| jal inf30 [nos] rfl fun b763 => js [.slice ad759 x750.length cp760] sz30 rfl rfl rfl rfl rfl rfl <| J.nil <| cr <| jv (.agg #[.slice ad759 x750.length cp760]) (V.ld rfl (Ld.agg (cs := [.slice ad759 x750.length cp760]) Try.underlying30 sz30 rfl (Rd.cls 0 0 rfl rfl))) ?_
     refine jv _ (V.fad Try.underlying135 rfl nz3 rfl) <| jv (ii xa.1) (V.ld rfl (Ld.sc sc3 (Rd.cl 1 rfl rfl))) ?_
     obtain ⟨r764, hr765, h745⟩ := ob h745
     refine J.op rfl (A.call (L1 := []) Try.call62 rfl (row_Check_ok f762 hr765) rfl rfl) ?_
     rintro _ _ _ ⟨v767, _, rfl, ⟨⟨i766, rfl, rfl, rfl⟩, rfl⟩, _, rfl⟩
     refine ja (ii i766) rfl <| J.nil <| cr <| jm (ii i766) rfl <| jv (.bool (!decide (i766 = 0))) (V.neq rfl rfl) <| J.nil ?_
     refine cc rfl h745 (fun hc770 h745 => ?_) fun hc770 h745 => ?_
     · refine cr <| jm (ii i766) rfl <| ja (ii i766) rfl <| J.nil <| CJ.ret ?_
       obtain rfl := si h745
       refine ⟨nofun, fun e => ?_⟩
       subst e
       refine .inr ⟨nofun, ?_⟩
       obtain rfl := si h
       exact ⟨_, _, Res.one rfl rfl, ⟨i766, rfl, rfl, rfl⟩, (Hp.le_refl _), fun w hs => (Sep.dropAt 0 rfl (Sep.dropAt 0 rfl hs))⟩
     refine CJ.skip <| CJ.region <| jv (ii (IntKind.wrap .i64 (i721 + 1))) (V.add rfl rfl) <| jm (ii (IntKind.wrap .i64 (i721 + 1))) rfl <| J.dropAt 0 rfl <| J.nil ?_
     obtain rfl := si h745
     exact ⟨rfl, ⟨IntKind.wrap .i64 (i721 + 1), rfl, ⟨rfl, rfl, rfl, rfl, trivial⟩, rfl, rfl⟩⟩
   refine CJ.exit ?_
   obtain rfl := si h745
   refine ⟨nofun, fun e => ?_⟩
   subst e
   exact .inl ⟨rfl, _, rfl, ⟨rfl, ⟨rfl, trivial⟩, rfl, rfl⟩⟩
 rintro s ρ _ _ ho771 ⟨rfl, hf772, rfl, rfl⟩
 subst ho771
 obtain ⟨ρ, rfl⟩ := hf772.ex
 refine PJ.done <| cr <| jv _ (V.fad Try.underlying135 rfl nz30 rfl) <| jv (.agg #[.slice adxa_3 xa.2.2.2.length cpxa_3]) (V.ld rfl (Ld.agg (cs := [.slice adxa_3 xa.2.2.2.length cpxa_3]) Try.underlying30 sz30 rfl (Rd.cls 0 3 rfl rfl))) <| jv _ (V.fad Try.underlying135 rfl nz3 rfl) <| jv (ii xa.1) (V.ld rfl (Ld.sc sc3 (Rd.cl 0 rfl rfl))) ?_
 obtain ⟨r774, hr775, h⟩ := ob h
 refine J.op rfl (A.call (L1 := []) Try.call62 rfl (row_Check_ok fxa_3 hr775) rfl rfl) ?_
 rintro _ _ _ ⟨v777, _, rfl, ⟨⟨i776, rfl, rfl, rfl⟩, rfl⟩, _, rfl⟩
 refine ja (ii i776) rfl <| J.nil <| CJ.ret ?_
 obtain rfl := si h
 exact ⟨_, _, Res.one rfl rfl, ⟨i776, rfl, rfl, rfl⟩, (Hp.le_refl _), fun w hs => (Sep.dropAt 0 rfl hs)⟩
noncomputable def fn_valid_sigs_az_l1 (xa : (Int × Int × (List (Int × Int)) × (List (List (Int × Bool))) × (List (Int × Bool)) × (List (Int × (List (Int × Int)) × (List (List (Int × Bool))) × (List (Int × Bool)))) × (List ((List (Int × Int × Int × Int × Bool)) × (Int × Int × Int × (List Int) × (List Int) × (List Int)))))) : Int → Option (Int ⊕ (Unit ⊕ (Int × Int × Int × Int))) := fun (i390 : Int) => cond (decide (i390 < (((xa.2.2.2.2.2.1.length : Nat) : Int)))) ((getI xa.2.2.2.2.2.1 i390).bind fun x432 => (fn_tick_Counter_Add_zii 1 1).bind fun _ => (fn_sig_Check (x432.1, x432.2.1, x432.2.2.1, x432.2.2.2)).bind fun i461 => cond (!decide (i461 = 0)) (some (.inr ((.inr ((i461, 4, i390, 0)))))) (some (.inl (IntKind.wrap .i64 (i390 + 1))))) (some (.inr ((.inl ()))))
noncomputable def fn_valid_sigs_az (xa : (Int × Int × (List (Int × Int)) × (List (List (Int × Bool))) × (List (Int × Bool)) × (List (Int × (List (Int × Int)) × (List (List (Int × Bool))) × (List (Int × Bool)))) × (List ((List (Int × Int × Int × Int × Bool)) × (Int × Int × Int × (List Int) × (List Int) × (List Int)))))) : Option (Int × Int × Int × Int) :=
  cond (decide (65536 < (((xa.2.2.2.2.2.1.length : Nat) : Int)))) (some ((6, 4, 0, 0))) ((loop (fn_valid_sigs_az_l1 xa) 0 : Option (Unit ⊕ (Int × Int × Int × Int))).bind fun o => match o with | .inr r => some r | .inl () => some ((0, 0, 0, 0)))
set_option maxRecDepth 100000 in
set_option maxHeartbeats 4000000 in
theorem valid_sigs_az_ok {K : Hp} {xa : (Int × Int × (List (Int × Int)) × (List (List (Int × Bool))) × (List (Int × Bool)) × (List (Int × (List (Int × Int)) × (List (List (Int × Bool))) × (List (Int × Bool)))) × (List ((List (Int × Int × Int × Int × Bool)) × (Int × Int × Int × (List Int) × (List Int) × (List Int)))))} {adxa_2 : Option Addr} {cpxa_2 : Nat} {adxa_3 : Option Addr} {cpxa_3 : Nat} {adxa_4 : Option Addr} {cpxa_4 : Nat} {adxa_5 : Option Addr} {cpxa_5 : Nat} {adxa_6 : Option Addr} {cpxa_6 : Nat} (fxa_2 : Is K (.sl (.cons (.int .i64) (.one (.int .i64)))) [.slice adxa_2 xa.2.2.1.length cpxa_2] xa.2.2.1) (fxa_3 : Is K (.sl (.one (.sl (.cons (.int .i64) (.one .bool))))) [.slice adxa_3 xa.2.2.2.1.length cpxa_3] xa.2.2.2.1) (fxa_4 : Is K (.sl (.cons (.int .i64) (.one .bool))) [.slice adxa_4 xa.2.2.2.2.1.length cpxa_4] xa.2.2.2.2.1) (fxa_5 : Is K (.sl (.cons (.int .i64) (.cons (.sl (.cons (.int .i64) (.one (.int .i64)))) (.cons (.sl (.one (.sl (.cons (.int .i64) (.one .bool))))) (.one (.one (.sl (.cons (.int .i64) (.one .bool))))))))) [.slice adxa_5 xa.2.2.2.2.2.1.length cpxa_5] xa.2.2.2.2.2.1) (fxa_6 : Is K (.sl (.cons (.sl (.cons (.int .i64) (.cons (.int .i64) (.cons (.int .i64) (.cons (.int .i64) (.one .bool)))))) (.one (.cons (.int .i64) (.cons (.int .i64) (.cons (.int .i64) (.cons (.sl (.int .i64)) (.cons (.sl (.int .i64)) (.one (.sl (.int .i64))))))))))) [.slice adxa_6 xa.2.2.2.2.2.2.length cpxa_6] xa.2.2.2.2.2.2) {r : (Int × Int × Int × Int)} (h : fn_valid_sigs_az xa = some r) :
    Tr Try.prog 48 #[.agg #[ii xa.1, ii xa.2.1, .slice adxa_2 xa.2.2.1.length cpxa_2, .slice adxa_3 xa.2.2.2.1.length cpxa_3, .slice adxa_4 xa.2.2.2.2.1.length cpxa_4, .slice adxa_5 xa.2.2.2.2.2.1.length cpxa_5, .slice adxa_6 xa.2.2.2.2.2.2.length cpxa_6], .pointer none] K [] (fun v K' L' => (∃ (i233 : Int) (i234 : Int) (i235 : Int) (i236 : Int), (i233, i234, i235, i236) = r ∧ .agg #[ii i233, ii i234, ii i235, ii i236] = v ∧ L' = []) ∧ K = K') := by
 refine Tr.k <| Tr.of Try.func48 rfl Try.ntmps48 rfl fun E F => ?_
 unfold fn_valid_sigs_az at h
 refine cr <| jbx [ii xa.1, ii xa.2.1, .slice adxa_2 xa.2.2.1.length cpxa_2, .slice adxa_3 xa.2.2.2.1.length cpxa_3, .slice adxa_4 xa.2.2.2.2.1.length cpxa_4, .slice adxa_5 xa.2.2.2.2.2.1.length cpxa_5, .slice adxa_6 xa.2.2.2.2.2.2.length cpxa_6] rfl rfl fun b237 => jal inf104 [ii 0, ii 0, ii 0, ii 0] rfl fun b238 => J.nil <| CJ.seq <| CJ.seq ?_
 refine CJ.region <| jv _ (V.fad Try.underlying34 rfl nz31 rfl) <| jv (.slice adxa_5 xa.2.2.2.2.2.1.length cpxa_5) (V.ld rfl (Ld.sc sc31 (Rd.cl 1 rfl rfl))) <| jv (ii (((xa.2.2.2.2.2.1.length : Nat) : Int))) (V.len Try.underlying31 rfl) <| jv (.bool (decide (65536 < (((xa.2.2.2.2.2.1.length : Nat) : Int))))) (V.gtr rfl rfl) <| J.nil <| cc rfl h (fun hc239 h => ?_) fun hc239 h => ?_
 · refine cr <| jv (.agg #[ii 6, ii 4, ii 0, ii 0]) (V.build inf104 places104 rfl rfl) <| js [ii 6, ii 4, ii 0, ii 0] sz104 rfl rfl rfl rfl rfl rfl <| J.nil <| CJ.ret ?_
   obtain rfl := si h
   exact ⟨_, _, Res.one rfl ⟨_, _, rfl, Ld.agg (cs := [ii 6, ii 4, ii 0, ii 0]) Try.underlying104 sz104 rfl (Rd.cls 0 0 rfl rfl)⟩, ⟨6, 4, 0, 0, rfl, rfl, rfl⟩, (Hp.le_refl _), fun w hs => (Sep.dropAt 0 rfl (Sep.dropAt 0 rfl hs))⟩
 refine CJ.skip <| CJ.seq <| cr <| jv _ (V.fad Try.underlying34 rfl nz31 rfl) <| jv (.slice adxa_5 xa.2.2.2.2.2.1.length cpxa_5) (V.ld rfl (Ld.sc sc31 (Rd.cl 1 rfl rfl))) <| jv (ii (((xa.2.2.2.2.2.1.length : Nat) : Int))) (V.len Try.underlying31 rfl) ?_
 refine jm (ii 0) rfl <| J.nil ?_
 obtain ⟨o352, ho353, h⟩ := ob h
 refine CJ.joinN (o := o352) (fun s ρ K' L' => () = s ∧ Fits [(4, .pointer (some ⟨b238, 0, none⟩))] ρ ∧ K = K' ∧ L' = Cl b238 104 [ii 0, ii 0, ii 0, ii 0] :: F) ?_ ?_
 · refine CJ.block <| CJ.dropAt 1 rfl <| CJ.loop (fun s ρ K' L' => ∃ (i390 : Int), i390 = s ∧ Fits [(1, .pointer none), (4, .pointer (some ⟨b238, 0, none⟩)), (14, .slice adxa_5 xa.2.2.2.2.2.1.length cpxa_5), (15, ii (((xa.2.2.2.2.2.1.length : Nat) : Int))), (16, ii i390)] ρ ∧ K = K' ∧ L' = Cl b238 104 [ii 0, ii 0, ii 0, ii 0] :: F) ho353 ⟨0, rfl, ⟨rfl, rfl, rfl, rfl, rfl, trivial⟩, rfl, rfl⟩ ?_
   rintro s ρ _ _ r430 ⟨i390, rfl, hf428, rfl, rfl⟩ h427
   obtain ⟨ρ, rfl⟩ := hf428.ex
   refine cr <| jv (.bool (decide (i390 < (((xa.2.2.2.2.2.1.length : Nat) : Int))))) (V.lss rfl rfl) <| J.nil <| CJ.seq <| cc rfl h427 (fun hc431 h427 => ?_) fun hc431 h427 => ?_
   · refine CJ.skip <| CJ.seq <| CJ.block <| cr <| jm (ii i390) rfl ?_
     obtain ⟨x432, hx433, h427⟩ := ob h427
     obtain ⟨p434, p435, p436⟩ := getI_some hx433
     obtain ⟨b437, o438, e439, a440⟩ := (fxa_5).at p435
     refine jv _ (V.iad Try.underlying31 sz135 rfl e439 rfl p434 p436) ?_
     obtain ⟨ad441, cp442, c443, f444⟩ := (((a440).snd).fst).sl
     obtain ⟨ad445, cp446, c447, f448⟩ := ((((a440).snd).snd).fst).sl
     obtain ⟨ad449, cp450, c451, f452⟩ := ((((((a440).snd).snd).snd).one).one).sl
     refine jv (.agg #[ii x432.1, .slice ad441 x432.2.1.length cp442, .slice ad445 x432.2.2.1.length cp446, .slice ad449 x432.2.2.2.length cp450]) (V.ld rfl (Ld.aggK (cs := [ii x432.1, .slice ad441 x432.2.1.length cp442, .slice ad445 x432.2.2.1.length cp446, .slice ad449 x432.2.2.2.length cp450]) Try.underlying135 sz135 rfl ⟨((a440).fst).int, c443, c447, c451, trivial⟩ (Hp.le_refl _))) <| jal inf135 [ii 0, nos, nos, nos] rfl fun b453 => ja (ii i390) rfl <| js [ii x432.1, .slice ad441 x432.2.1.length cp442, .slice ad445 x432.2.2.1.length cp446, .slice ad449 x432.2.2.2.length cp450] sz135 rfl rfl rfl rfl rfl rfl <| J.nil <| CJ.seq <| CJ.region ?_
     refine jm (.pointer none) rfl ?_
     obtain ⟨r454, hr455, h427⟩ := ob h427
     refine J.op rfl (A.call (L1 := []) Try.call18 rfl (tick_Counter_Add_zii_ok hr455) rfl rfl) ?_
     rintro _ _ _ ⟨v456, _, rfl, ⟨⟨rfl, rfl, rfl⟩, rfl⟩, _, rfl⟩
     refine J.nil <| cr <| jv (.agg #[ii x432.1, .slice ad441 x432.2.1.length cp442, .slice ad445 x432.2.2.1.length cp446, .slice ad449 x432.2.2.2.length cp450]) (V.ld rfl (Ld.agg (cs := [ii x432.1, .slice ad441 x432.2.1.length cp442, .slice ad445 x432.2.2.1.length cp446, .slice ad449 x432.2.2.2.length cp450]) Try.underlying135 sz135 rfl (Rd.cls 0 0 rfl rfl))) ?_
     obtain ⟨r459, hr460, h427⟩ := ob h427
     refine J.op rfl (A.call (L1 := []) Try.call64 rfl (sig_Check_ok f444 f448 f452 hr460) rfl rfl) ?_
     rintro _ _ _ ⟨v462, _, rfl, ⟨⟨i461, rfl, rfl, rfl⟩, rfl⟩, _, rfl⟩
     refine ja (ii i461) rfl <| J.nil <| cr <| jm (ii i461) rfl <| jv (.bool (!decide (i461 = 0))) (V.neq rfl rfl) <| J.nil ?_
     refine cc rfl h427 (fun hc465 h427 => ?_) fun hc465 h427 => ?_
     · refine cr <| jm (ii i461) rfl <| jm (ii i390) rfl <| jv (.agg #[ii i461, ii 4, ii i390, ii 0]) (V.build inf104 places104 rfl rfl) <| J.front 1 rfl <| js [ii i461, ii 4, ii i390, ii 0] sz104 rfl rfl rfl rfl rfl rfl ?_
       refine J.nil <| CJ.ret ?_
       obtain rfl := si h427
       refine ⟨nofun, fun e => ?_⟩
       subst e
       refine .inr ⟨nofun, ?_⟩
       obtain rfl := si h
       exact ⟨_, _, Res.one rfl ⟨_, _, rfl, Ld.agg (cs := [ii i461, ii 4, ii i390, ii 0]) Try.underlying104 sz104 rfl (Rd.cls 0 0 rfl rfl)⟩, ⟨i461, 4, i390, 0, rfl, rfl, rfl⟩, (Hp.le_refl _), fun w hs => (Sep.dropAt 0 rfl (Sep.dropAt 0 rfl hs))⟩
     refine CJ.skip <| CJ.region <| jv (ii (IntKind.wrap .i64 (i390 + 1))) (V.add rfl rfl) <| jm (ii (IntKind.wrap .i64 (i390 + 1))) rfl <| J.dropAt 0 rfl <| J.nil ?_
     obtain rfl := si h427
     exact ⟨rfl, ⟨IntKind.wrap .i64 (i390 + 1), rfl, ⟨rfl, rfl, rfl, rfl, rfl, trivial⟩, rfl, rfl⟩⟩
   refine CJ.exit ?_
   obtain rfl := si h427
   refine ⟨nofun, fun e => ?_⟩
   subst e
   exact .inl ⟨rfl, _, rfl, ⟨rfl, ⟨rfl, trivial⟩, rfl, rfl⟩⟩
 rintro s ρ _ _ ho466 ⟨rfl, hf467, rfl, rfl⟩
 subst ho466
 obtain ⟨ρ, rfl⟩ := hf467.ex
 refine PJ.done <| cr <| jv (.agg #[ii 0, ii 0, ii 0, ii 0]) (V.build inf104 places104 rfl rfl) <| js [ii 0, ii 0, ii 0, ii 0] sz104 rfl rfl rfl rfl rfl rfl <| J.nil <| CJ.ret ?_
 obtain rfl := si h
 exact ⟨_, _, Res.one rfl ⟨_, _, rfl, Ld.agg (cs := [ii 0, ii 0, ii 0, ii 0]) Try.underlying104 sz104 rfl (Rd.cls 0 0 rfl rfl)⟩, ⟨0, 0, 0, 0, rfl, rfl, rfl⟩, (Hp.le_refl _), fun w hs => (Sep.dropAt 0 rfl hs)⟩
noncomputable def fn_valid_blocks_az_l1 (xa : (Int × Int × (List (Int × Int)) × (List (List (Int × Bool))) × (List (Int × Bool)) × (List (Int × (List (Int × Int)) × (List (List (Int × Bool))) × (List (Int × Bool)))) × (List ((List (Int × Int × Int × Int × Bool)) × (Int × Int × Int × (List Int) × (List Int) × (List Int)))))) : (Int × Int) → Option ((Int × Int) ⊕ (Unit ⊕ (Int × Int × Int × Int))) := fun ((i382, i383) : (Int × Int)) => cond (decide (i383 < (((xa.2.2.2.2.2.2.length : Nat) : Int)))) ((getI xa.2.2.2.2.2.2 i383).bind fun x424 => (fn_tick_Counter_Add_zii 1 1).bind fun _ => cond (decide (65536 < (IntKind.wrap .i64 (i382 + (((x424.1.length : Nat) : Int)))))) (some (.inr ((.inr ((6, 5, i383, 0)))))) (some (.inl ((IntKind.wrap .i64 (i382 + (((x424.1.length : Nat) : Int))), IntKind.wrap .i64 (i383 + 1)))))) (some (.inr ((.inl ()))))
noncomputable def fn_valid_blocks_az (xa : (Int × Int × (List (Int × Int)) × (List (List (Int × Bool))) × (List (Int × Bool)) × (List (Int × (List (Int × Int)) × (List (List (Int × Bool))) × (List (Int × Bool)))) × (List ((List (Int × Int × Int × Int × Bool)) × (Int × Int × Int × (List Int) × (List Int) × (List Int)))))) : Option (Int × Int × Int × Int) :=
  cond (decide ((((xa.2.2.2.2.2.2.length : Nat) : Int)) = 0)) (some ((14, 5, 0, 0))) (cond (decide (65536 < (((xa.2.2.2.2.2.2.length : Nat) : Int)))) (some ((6, 5, 0, 0))) ((loop (fn_valid_blocks_az_l1 xa) (0, 0) : Option (Unit ⊕ (Int × Int × Int × Int))).bind fun o => match o with | .inr r => some r | .inl () => some ((0, 0, 0, 0))))
set_option maxRecDepth 100000 in
set_option maxHeartbeats 4000000 in
theorem valid_blocks_az_ok {K : Hp} {xa : (Int × Int × (List (Int × Int)) × (List (List (Int × Bool))) × (List (Int × Bool)) × (List (Int × (List (Int × Int)) × (List (List (Int × Bool))) × (List (Int × Bool)))) × (List ((List (Int × Int × Int × Int × Bool)) × (Int × Int × Int × (List Int) × (List Int) × (List Int)))))} {adxa_2 : Option Addr} {cpxa_2 : Nat} {adxa_3 : Option Addr} {cpxa_3 : Nat} {adxa_4 : Option Addr} {cpxa_4 : Nat} {adxa_5 : Option Addr} {cpxa_5 : Nat} {adxa_6 : Option Addr} {cpxa_6 : Nat} (fxa_2 : Is K (.sl (.cons (.int .i64) (.one (.int .i64)))) [.slice adxa_2 xa.2.2.1.length cpxa_2] xa.2.2.1) (fxa_3 : Is K (.sl (.one (.sl (.cons (.int .i64) (.one .bool))))) [.slice adxa_3 xa.2.2.2.1.length cpxa_3] xa.2.2.2.1) (fxa_4 : Is K (.sl (.cons (.int .i64) (.one .bool))) [.slice adxa_4 xa.2.2.2.2.1.length cpxa_4] xa.2.2.2.2.1) (fxa_5 : Is K (.sl (.cons (.int .i64) (.cons (.sl (.cons (.int .i64) (.one (.int .i64)))) (.cons (.sl (.one (.sl (.cons (.int .i64) (.one .bool))))) (.one (.one (.sl (.cons (.int .i64) (.one .bool))))))))) [.slice adxa_5 xa.2.2.2.2.2.1.length cpxa_5] xa.2.2.2.2.2.1) (fxa_6 : Is K (.sl (.cons (.sl (.cons (.int .i64) (.cons (.int .i64) (.cons (.int .i64) (.cons (.int .i64) (.one .bool)))))) (.one (.cons (.int .i64) (.cons (.int .i64) (.cons (.int .i64) (.cons (.sl (.int .i64)) (.cons (.sl (.int .i64)) (.one (.sl (.int .i64))))))))))) [.slice adxa_6 xa.2.2.2.2.2.2.length cpxa_6] xa.2.2.2.2.2.2) {r : (Int × Int × Int × Int)} (h : fn_valid_blocks_az xa = some r) :
    Tr Try.prog 49 #[.agg #[ii xa.1, ii xa.2.1, .slice adxa_2 xa.2.2.1.length cpxa_2, .slice adxa_3 xa.2.2.2.1.length cpxa_3, .slice adxa_4 xa.2.2.2.2.1.length cpxa_4, .slice adxa_5 xa.2.2.2.2.2.1.length cpxa_5, .slice adxa_6 xa.2.2.2.2.2.2.length cpxa_6], .pointer none] K [] (fun v K' L' => (∃ (i228 : Int) (i229 : Int) (i230 : Int) (i231 : Int), (i228, i229, i230, i231) = r ∧ .agg #[ii i228, ii i229, ii i230, ii i231] = v ∧ L' = []) ∧ K = K') := by
 refine Tr.k <| Tr.of Try.func49 rfl Try.ntmps49 rfl fun E F => ?_
 unfold fn_valid_blocks_az at h
 refine cr <| jbx [ii xa.1, ii xa.2.1, .slice adxa_2 xa.2.2.1.length cpxa_2, .slice adxa_3 xa.2.2.2.1.length cpxa_3, .slice adxa_4 xa.2.2.2.2.1.length cpxa_4, .slice adxa_5 xa.2.2.2.2.2.1.length cpxa_5, .slice adxa_6 xa.2.2.2.2.2.2.length cpxa_6] rfl rfl fun b232 => jal inf104 [ii 0, ii 0, ii 0, ii 0] rfl fun b233 => J.nil <| CJ.seq <| CJ.seq ?_
 refine CJ.region <| jv _ (V.fad Try.underlying34 rfl nz32 rfl) <| jv (.slice adxa_6 xa.2.2.2.2.2.2.length cpxa_6) (V.ld rfl (Ld.sc sc32 (Rd.cl 1 rfl rfl))) <| jv (ii (((xa.2.2.2.2.2.2.length : Nat) : Int))) (V.len Try.underlying32 rfl) <| jv (.bool (decide ((((xa.2.2.2.2.2.2.length : Nat) : Int)) = 0))) (V.eql rfl rfl) <| J.nil <| cc rfl h (fun hc234 h => ?_) fun hc234 h => ?_
 · refine cr <| jv (.agg #[ii 14, ii 5, ii 0, ii 0]) (V.build inf104 places104 rfl rfl) <| js [ii 14, ii 5, ii 0, ii 0] sz104 rfl rfl rfl rfl rfl rfl <| J.nil <| CJ.ret ?_
   obtain rfl := si h
   exact ⟨_, _, Res.one rfl ⟨_, _, rfl, Ld.agg (cs := [ii 14, ii 5, ii 0, ii 0]) Try.underlying104 sz104 rfl (Rd.cls 0 0 rfl rfl)⟩, ⟨14, 5, 0, 0, rfl, rfl, rfl⟩, (Hp.le_refl _), fun w hs => (Sep.dropAt 0 rfl (Sep.dropAt 0 rfl hs))⟩
 refine CJ.skip <| CJ.seq <| cr <| jv _ (V.fad Try.underlying34 rfl nz32 rfl) <| jv (.slice adxa_6 xa.2.2.2.2.2.2.length cpxa_6) (V.ld rfl (Ld.sc sc32 (Rd.cl 1 rfl rfl))) <| jv (ii (((xa.2.2.2.2.2.2.length : Nat) : Int))) (V.len Try.underlying32 rfl) ?_
 refine jv (.bool (decide (65536 < (((xa.2.2.2.2.2.2.length : Nat) : Int))))) (V.gtr rfl rfl) <| J.nil <| cc rfl h (fun hc235 h => ?_) fun hc235 h => ?_
 · refine cr <| jv (.agg #[ii 6, ii 5, ii 0, ii 0]) (V.build inf104 places104 rfl rfl) <| js [ii 6, ii 5, ii 0, ii 0] sz104 rfl rfl rfl rfl rfl rfl <| J.nil <| CJ.ret ?_
   obtain rfl := si h
   exact ⟨_, _, Res.one rfl ⟨_, _, rfl, Ld.agg (cs := [ii 6, ii 5, ii 0, ii 0]) Try.underlying104 sz104 rfl (Rd.cls 0 0 rfl rfl)⟩, ⟨6, 5, 0, 0, rfl, rfl, rfl⟩, (Hp.le_refl _), fun w hs => (Sep.dropAt 0 rfl (Sep.dropAt 0 rfl hs))⟩
 refine CJ.skip <| cr <| ja (ii 0) rfl <| J.nil <| CJ.seq <| CJ.seq ?_
 refine CJ.region <| jv _ (V.fad Try.underlying34 rfl nz32 rfl) <| jv (.slice adxa_6 xa.2.2.2.2.2.2.length cpxa_6) (V.ld rfl (Ld.sc sc32 (Rd.cl 1 rfl rfl))) <| jv (ii (((xa.2.2.2.2.2.2.length : Nat) : Int))) (V.len Try.underlying32 rfl) <| jm (ii 0) rfl <| J.nil ?_
 obtain ⟨o345, ho346, h⟩ := ob h
 refine CJ.joinN (o := o345) (fun s ρ K' L' => () = s ∧ Fits [(4, .pointer (some ⟨b233, 0, none⟩))] ρ ∧ K = K' ∧ L' = Cl b233 104 [ii 0, ii 0, ii 0, ii 0] :: F) ?_ ?_
 · refine CJ.block <| CJ.dropAt 1 rfl <| CJ.loop (fun s ρ K' L' => ∃ (i382 : Int) (i383 : Int), (i382, i383) = s ∧ Fits [(1, .pointer none), (4, .pointer (some ⟨b233, 0, none⟩)), (5, ii i382), (19, .slice adxa_6 xa.2.2.2.2.2.2.length cpxa_6), (20, ii (((xa.2.2.2.2.2.2.length : Nat) : Int))), (21, ii i383)] ρ ∧ K = K' ∧ L' = Cl b233 104 [ii 0, ii 0, ii 0, ii 0] :: F) ho346 ⟨0, 0, rfl, ⟨rfl, rfl, rfl, rfl, rfl, rfl, trivial⟩, rfl, rfl⟩ ?_
   rintro s ρ _ _ r422 ⟨i382, i383, rfl, hf420, rfl, rfl⟩ h419
   obtain ⟨ρ, rfl⟩ := hf420.ex
   refine cr <| jv (.bool (decide (i383 < (((xa.2.2.2.2.2.2.length : Nat) : Int))))) (V.lss rfl rfl) <| J.nil <| CJ.seq <| cc rfl h419 (fun hc423 h419 => ?_) fun hc423 h419 => ?_
   · refine CJ.skip <| CJ.seq <| CJ.block <| cr <| jm (ii i383) rfl ?_
     obtain ⟨x424, hx425, h419⟩ := ob h419
     obtain ⟨p426, p427, p428⟩ := getI_some hx425
     obtain ⟨b429, o430, e431, a432⟩ := (fxa_6).at p427
     refine jv _ (V.iad Try.underlying32 sz58 rfl e431 rfl p426 p428) ?_
     obtain ⟨ad433, cp434, c435, f436⟩ := ((a432).fst).sl
     obtain ⟨ad437, cp438, c439, f440⟩ := (((((((a432).snd).one).snd).snd).snd).fst).sl
     obtain ⟨ad441, cp442, c443, f444⟩ := ((((((((a432).snd).one).snd).snd).snd).snd).fst).sl
     obtain ⟨ad445, cp446, c447, f448⟩ := (((((((((a432).snd).one).snd).snd).snd).snd).snd).one).sl
     refine jv (.agg #[.slice ad433 x424.1.length cp434, ii x424.2.1, ii x424.2.2.1, ii x424.2.2.2.1, .slice ad437 x424.2.2.2.2.1.length cp438, .slice ad441 x424.2.2.2.2.2.1.length cp442, .slice ad445 x424.2.2.2.2.2.2.length cp446]) (V.ld rfl (Ld.aggK (cs := [.slice ad433 x424.1.length cp434, ii x424.2.1, ii x424.2.2.1, ii x424.2.2.2.1, .slice ad437 x424.2.2.2.2.1.length cp438, .slice ad441 x424.2.2.2.2.2.1.length cp442, .slice ad445 x424.2.2.2.2.2.2.length cp446]) Try.underlying58 sz58 rfl ⟨c435, ((((a432).snd).one).fst).int, (((((a432).snd).one).snd).fst).int, ((((((a432).snd).one).snd).snd).fst).int, c439, c443, c447, trivial⟩ (Hp.le_refl _))) <| jal inf58 [nos, ii 0, ii 0, ii 0, nos, nos, nos] rfl fun b449 => ja (ii i383) rfl <| js [.slice ad433 x424.1.length cp434, ii x424.2.1, ii x424.2.2.1, ii x424.2.2.2.1, .slice ad437 x424.2.2.2.2.1.length cp438, .slice ad441 x424.2.2.2.2.2.1.length cp442, .slice ad445 x424.2.2.2.2.2.2.length cp446] sz58 rfl rfl rfl rfl rfl rfl <| J.nil <| CJ.seq <| CJ.region ?_
     refine jm (.pointer none) rfl ?_
     obtain ⟨r450, hr451, h419⟩ := ob h419
     refine J.op rfl (A.call (L1 := []) Try.call18 rfl (tick_Counter_Add_zii_ok hr451) rfl rfl) ?_
     rintro _ _ _ ⟨v452, _, rfl, ⟨⟨rfl, rfl, rfl⟩, rfl⟩, _, rfl⟩
     refine J.nil <| cr <| jm (ii i382) rfl <| jv _ (V.fad Try.underlying58 rfl nz53 rfl) <| jv (.slice ad433 x424.1.length cp434) (V.ld rfl (Ld.sc sc53 (Rd.cl 0 rfl rfl))) <| jv (ii (((x424.1.length : Nat) : Int))) (V.len Try.underlying53 rfl) ?_
     refine jv (ii (IntKind.wrap .i64 (i382 + (((x424.1.length : Nat) : Int))))) (V.add rfl rfl) <| ja (ii (IntKind.wrap .i64 (i382 + (((x424.1.length : Nat) : Int))))) rfl <| J.nil <| cr <| jm (ii (IntKind.wrap .i64 (i382 + (((x424.1.length : Nat) : Int))))) rfl <| jv (.bool (decide (65536 < (IntKind.wrap .i64 (i382 + (((x424.1.length : Nat) : Int))))))) (V.gtr rfl rfl) ?_
     refine J.nil <| cc rfl h419 (fun hc455 h419 => ?_) fun hc455 h419 => ?_
     · refine cr <| jm (ii i383) rfl <| jv (.agg #[ii 6, ii 5, ii i383, ii 0]) (V.build inf104 places104 rfl rfl) <| J.front 1 rfl <| js [ii 6, ii 5, ii i383, ii 0] sz104 rfl rfl rfl rfl rfl rfl <| J.nil ?_
       refine CJ.ret ?_
       obtain rfl := si h419
       refine ⟨nofun, fun e => ?_⟩
       subst e
       refine .inr ⟨nofun, ?_⟩
       obtain rfl := si h
       exact ⟨_, _, Res.one rfl ⟨_, _, rfl, Ld.agg (cs := [ii 6, ii 5, ii i383, ii 0]) Try.underlying104 sz104 rfl (Rd.cls 0 0 rfl rfl)⟩, ⟨6, 5, i383, 0, rfl, rfl, rfl⟩, (Hp.le_refl _), fun w hs => (Sep.dropAt 0 rfl (Sep.dropAt 0 rfl hs))⟩
     refine CJ.skip <| CJ.region <| jv (ii (IntKind.wrap .i64 (i383 + 1))) (V.add rfl rfl) <| jm (ii (IntKind.wrap .i64 (i383 + 1))) rfl <| J.dropAt 0 rfl <| J.nil ?_
     obtain rfl := si h419
     exact ⟨rfl, ⟨IntKind.wrap .i64 (i382 + (((x424.1.length : Nat) : Int))), IntKind.wrap .i64 (i383 + 1), rfl, ⟨rfl, rfl, rfl, rfl, rfl, rfl, trivial⟩, rfl, rfl⟩⟩
   refine CJ.exit ?_
   obtain rfl := si h419
   refine ⟨nofun, fun e => ?_⟩
   subst e
   exact .inl ⟨rfl, _, rfl, ⟨rfl, ⟨rfl, trivial⟩, rfl, rfl⟩⟩
 rintro s ρ _ _ ho456 ⟨rfl, hf457, rfl, rfl⟩
 subst ho456
 obtain ⟨ρ, rfl⟩ := hf457.ex
 refine PJ.done <| cr <| jv (.agg #[ii 0, ii 0, ii 0, ii 0]) (V.build inf104 places104 rfl rfl) <| js [ii 0, ii 0, ii 0, ii 0] sz104 rfl rfl rfl rfl rfl rfl <| J.nil <| CJ.ret ?_
 obtain rfl := si h
 exact ⟨_, _, Res.one rfl ⟨_, _, rfl, Ld.agg (cs := [ii 0, ii 0, ii 0, ii 0]) Try.underlying104 sz104 rfl (Rd.cls 0 0 rfl rfl)⟩, ⟨0, 0, 0, 0, rfl, rfl, rfl⟩, (Hp.le_refl _), fun w hs => (Sep.dropAt 0 rfl hs)⟩

noncomputable def fn_stmt_fieldsOf (xa : Int) : Option (Bool × Bool × Bool × Bool) :=
  cond (decide (xa = 0)) (some ((false, false, false, true))) (cond (decide (xa = 1)) (some ((true, true, false, true))) ((cond (decide (xa = 2)) (some (decide (xa = 2))) (some (decide (xa = 3))) : Option Bool).bind fun t22 => cond (t22) (some ((true, true, true, true))) (cond (decide (xa = 4)) (some ((false, true, false, true))) (cond (decide (xa = 5)) (some ((true, false, false, true))) (some ((false, false, false, false)))))))
set_option maxRecDepth 100000 in
set_option maxHeartbeats 4000000 in
theorem stmt_fieldsOf_ok {K : Hp} {xa : Int}   {r : (Bool × Bool × Bool × Bool)} (h : fn_stmt_fieldsOf xa = some r) :
    Tr Try.prog 67 #[ii xa] K [] (fun v K' L' => (∃ (t14 : Bool) (t15 : Bool) (t16 : Bool) (t17 : Bool), (t14, t15, t16, t17) = r ∧ .tuple #[.agg #[.bool t14, .bool t15, .bool t16], .bool t17] = v ∧ L' = []) ∧ K = K') := by
 refine Tr.k <| Tr.of Try.func67 rfl Try.ntmps67 rfl fun E F => ?_
 unfold fn_stmt_fieldsOf at h
 refine cr <| jal inf126 [.bool false, .bool false, .bool false] rfl fun b18 => ja (.bool false) rfl <| J.nil <| CJ.seq <| CJ.seq ?_
 refine CJ.region <| jm (ii xa) rfl <| J.nil <| CJ.block <| cr <| jv (.bool (decide (xa = 0))) (V.eql rfl rfl) ?_
 refine ja (.bool (decide (xa = 0))) rfl <| J.nil <| cc rfl h (fun hc19 h => ?_) fun hc19 h => ?_
 · refine cr <| jv (.agg #[.bool false, .bool false, .bool false]) (V.build inf126 places126 rfl rfl) <| js [.bool false, .bool false, .bool false] sz126 rfl rfl rfl rfl rfl rfl <| ja (.bool true) rfl <| J.nil <| CJ.ret ?_
   obtain rfl := si h
   exact ⟨_, _, Res.two rfl ⟨_, _, rfl, Ld.agg (cs := [.bool false, .bool false, .bool false]) Try.underlying126 sz126 rfl (Rd.cls 0 0 rfl rfl)⟩ rfl, ⟨false, false, false, true, rfl, rfl, rfl⟩, (Hp.le_refl _), fun w hs => (Sep.dropAt 0 rfl hs)⟩
 refine cr <| jv (.bool (decide (xa = 1))) (V.eql rfl rfl) <| ja (.bool (decide (xa = 1))) rfl <| J.nil <| cc rfl h (fun hc20 h => ?_) fun hc20 h => ?_
 · refine cr <| jv (.agg #[.bool true, .bool true, .bool false]) (V.build inf126 places126 rfl rfl) <| js [.bool true, .bool true, .bool false] sz126 rfl rfl rfl rfl rfl rfl <| ja (.bool true) rfl <| J.nil <| CJ.ret ?_
   obtain rfl := si h
   exact ⟨_, _, Res.two rfl ⟨_, _, rfl, Ld.agg (cs := [.bool true, .bool true, .bool false]) Try.underlying126 sz126 rfl (Rd.cls 0 0 rfl rfl)⟩ rfl, ⟨true, true, false, true, rfl, rfl, rfl⟩, (Hp.le_refl _), fun w hs => (Sep.dropAt 0 rfl hs)⟩
 refine CJ.seq ?_
 obtain ⟨o23, ho24, h⟩ := ob h
 refine CJ.meetN (fun ρ K' L' => ∃ (t22 : Bool), t22 = o23 ∧ Fits [(2, .pointer (some ⟨b18, 0, none⟩)), (4, ii xa), (11, .bool t22)] ρ ∧ K = K' ∧ L' = Cl b18 126 [.bool false, .bool false, .bool false] :: F) ?_ ?_
 · refine cr <| jv (.bool (decide (xa = 2))) (V.eql rfl rfl) <| ja (.bool (decide (xa = 2))) rfl <| J.nil <| cc rfl ho24 (fun hc25 ho24 => ?_) fun hc25 ho24 => ?_
   · refine CJ.skip ?_
     obtain rfl := si ho24
     exact ⟨rfl, ⟨decide (xa = 2), rfl, ⟨rfl, rfl, rfl, trivial⟩, rfl, rfl⟩⟩
   refine CJ.region <| jv (.bool (decide (xa = 3))) (V.eql rfl rfl) <| ja (.bool (decide (xa = 3))) rfl <| J.nil ?_
   obtain rfl := si ho24
   exact ⟨rfl, ⟨decide (xa = 3), rfl, ⟨rfl, rfl, rfl, trivial⟩, rfl, rfl⟩⟩
 rintro ρ _ _ ⟨t22, rfl, hf26, rfl, rfl⟩
 obtain ⟨ρ, rfl⟩ := hf26.ex
 refine PJ.done <| cc rfl h (fun hc28 h => ?_) fun hc28 h => ?_
 · refine cr <| jv (.agg #[.bool true, .bool true, .bool true]) (V.build inf126 places126 rfl rfl) <| js [.bool true, .bool true, .bool true] sz126 rfl rfl rfl rfl rfl rfl <| ja (.bool true) rfl <| J.nil <| CJ.ret ?_
   obtain rfl := si h
   exact ⟨_, _, Res.two rfl ⟨_, _, rfl, Ld.agg (cs := [.bool true, .bool true, .bool true]) Try.underlying126 sz126 rfl (Rd.cls 0 0 rfl rfl)⟩ rfl, ⟨true, true, true, true, rfl, rfl, rfl⟩, (Hp.le_refl _), fun w hs => (Sep.dropAt 0 rfl hs)⟩
 refine cr <| jv (.bool (decide (xa = 4))) (V.eql rfl rfl) <| ja (.bool (decide (xa = 4))) rfl <| J.nil <| cc rfl h (fun hc29 h => ?_) fun hc29 h => ?_
 · refine cr <| jv (.agg #[.bool false, .bool true, .bool false]) (V.build inf126 places126 rfl rfl) <| js [.bool false, .bool true, .bool false] sz126 rfl rfl rfl rfl rfl rfl <| ja (.bool true) rfl <| J.nil <| CJ.ret ?_
   obtain rfl := si h
   exact ⟨_, _, Res.two rfl ⟨_, _, rfl, Ld.agg (cs := [.bool false, .bool true, .bool false]) Try.underlying126 sz126 rfl (Rd.cls 0 0 rfl rfl)⟩ rfl, ⟨false, true, false, true, rfl, rfl, rfl⟩, (Hp.le_refl _), fun w hs => (Sep.dropAt 0 rfl hs)⟩
 refine cr <| jv (.bool (decide (xa = 5))) (V.eql rfl rfl) <| ja (.bool (decide (xa = 5))) rfl <| J.nil <| cc rfl h (fun hc30 h => ?_) fun hc30 h => ?_
 · refine cr <| jv (.agg #[.bool true, .bool false, .bool false]) (V.build inf126 places126 rfl rfl) <| js [.bool true, .bool false, .bool false] sz126 rfl rfl rfl rfl rfl rfl <| ja (.bool true) rfl <| J.nil <| CJ.ret ?_
   obtain rfl := si h
   exact ⟨_, _, Res.two rfl ⟨_, _, rfl, Ld.agg (cs := [.bool true, .bool false, .bool false]) Try.underlying126 sz126 rfl (Rd.cls 0 0 rfl rfl)⟩ rfl, ⟨true, false, false, true, rfl, rfl, rfl⟩, (Hp.le_refl _), fun w hs => (Sep.dropAt 0 rfl hs)⟩
 refine CJ.skip <| cr <| jv (.agg #[.bool false, .bool false, .bool false]) (V.build inf126 places126 rfl rfl) <| js [.bool false, .bool false, .bool false] sz126 rfl rfl rfl rfl rfl rfl <| ja (.bool false) rfl <| J.nil ?_
 refine CJ.ret ?_
 obtain rfl := si h
 exact ⟨_, _, Res.two rfl ⟨_, _, rfl, Ld.agg (cs := [.bool false, .bool false, .bool false]) Try.underlying126 sz126 rfl (Rd.cls 0 0 rfl rfl)⟩ rfl, ⟨false, false, false, false, rfl, rfl, rfl⟩, (Hp.le_refl _), fun w hs => (Sep.dropAt 0 rfl hs)⟩

noncomputable def fn_stmt_own (xa : (Int × Int × Int × Int × Bool)) (xb : (Bool × Bool × Bool)) : Option (Int × Int × Int × Int × Bool) :=
  (cond (xb.1) (some (xa.2.1)) (some (0)) : Option Int).bind fun i30 => (cond (xb.2.1) (some (xa.2.2.1)) (some (0)) : Option Int).bind fun i37 => cond (xb.2.2) (some ((xa.1, i30, i37, xa.2.2.2.1, xa.2.2.2.2))) (some ((xa.1, i30, i37, 0, false)))
set_option maxRecDepth 100000 in
set_option maxHeartbeats 4000000 in
theorem stmt_own_ok {K : Hp} {xa : (Int × Int × Int × Int × Bool)} {xb : (Bool × Bool × Bool)}   {r : (Int × Int × Int × Int × Bool)} (h : fn_stmt_own xa xb = some r) :
    Tr Try.prog 68 #[.agg #[ii xa.1, ii xa.2.1, ii xa.2.2.1, ii xa.2.2.2.1, .bool xa.2.2.2.2], .agg #[.bool xb.1, .bool xb.2.1, .bool xb.2.2]] K [] (fun v K' L' => (∃ (i20 : Int) (i21 : Int) (i22 : Int) (i23 : Int) (t24 : Bool), (i20, i21, i22, i23, t24) = r ∧ .agg #[ii i20, ii i21, ii i22, ii i23, .bool t24] = v ∧ L' = []) ∧ K = K') := by
 refine Tr.k <| Tr.of Try.func68 rfl Try.ntmps68 rfl fun E F => ?_
 unfold fn_stmt_own at h
 refine cr <| jbx [ii xa.1, ii xa.2.1, ii xa.2.2.1, ii xa.2.2.2.1, .bool xa.2.2.2.2] rfl rfl fun b25 => jbx [.bool xb.1, .bool xb.2.1, .bool xb.2.2] rfl rfl fun b26 => jal inf52 [ii 0, ii 0, ii 0, ii 0, .bool false] rfl fun b27 => J.nil <| CJ.seq ?_
 refine CJ.region <| jv _ (V.fad Try.underlying52 rfl nz3 rfl) <| jv (ii xa.1) (V.ld rfl (Ld.sc sc3 (Rd.cl 2 rfl rfl))) <| jv (.agg #[ii xa.1, ii 0, ii 0, ii 0, .bool false]) (V.build inf52 places52 rfl rfl) <| jal inf52 [ii 0, ii 0, ii 0, ii 0, .bool false] rfl fun b28 => js [ii xa.1, ii 0, ii 0, ii 0, .bool false] sz52 rfl rfl rfl rfl rfl rfl <| J.nil ?_
 refine CJ.seq ?_
 obtain ⟨o31, ho32, h⟩ := ob h
 refine CJ.meetN (fun ρ K' L' => ∃ (i30 : Int), i30 = o31 ∧ Fits [(2, .pointer (some ⟨b25, 0, none⟩)), (3, .pointer (some ⟨b26, 0, none⟩)), (4, .pointer (some ⟨b27, 0, none⟩)), (5, .pointer (some ⟨b28, 0, none⟩))] ρ ∧ K = K' ∧ L' = Cl b25 52 [ii xa.1, ii xa.2.1, ii xa.2.2.1, ii xa.2.2.2.1, .bool xa.2.2.2.2] :: Cl b26 126 [.bool xb.1, .bool xb.2.1, .bool xb.2.2] :: Cl b27 52 [ii 0, ii 0, ii 0, ii 0, .bool false] :: Cl b28 52 [ii xa.1, ii i30, ii 0, ii 0, .bool false] :: F) ?_ ?_
 · refine cr <| jv _ (V.fad Try.underlying126 rfl nz4 rfl) <| jv (.bool xb.1) (V.ld rfl (Ld.sc sc4 (Rd.cl 2 rfl rfl))) <| J.nil <| cc rfl ho32 (fun hc33 ho32 => ?_) fun hc33 ho32 => ?_
   · refine CJ.region <| jv _ (V.fad Try.underlying52 rfl nz3 rfl) <| jv (ii xa.2.1) (V.ld rfl (Ld.sc sc3 (Rd.cl 3 rfl rfl))) <| jv _ (V.fad Try.underlying52 rfl nz3 rfl) <| js1 [ii xa.1, ii xa.2.1, ii 0, ii 0, .bool false] sz3 rfl rfl rfl rfl rfl rfl <| J.front 1 rfl <| J.front 2 rfl ?_
     refine J.front 3 rfl <| J.nil ?_
     obtain rfl := si ho32
     exact ⟨rfl, ⟨xa.2.1, rfl, ⟨rfl, rfl, rfl, rfl, trivial⟩, rfl, rfl⟩⟩
   refine CJ.front 1 rfl <| CJ.front 2 rfl <| CJ.front 3 rfl <| CJ.skip ?_
   obtain rfl := si ho32
   exact ⟨rfl, ⟨0, rfl, ⟨rfl, rfl, rfl, rfl, trivial⟩, rfl, rfl⟩⟩
 rintro ρ _ _ ⟨i30, rfl, hf34, rfl, rfl⟩
 obtain ⟨ρ, rfl⟩ := hf34.ex
 refine PJ.done <| CJ.seq ?_
 obtain ⟨o38, ho39, h⟩ := ob h
 refine CJ.meetN (fun ρ K' L' => ∃ (i37 : Int), i37 = o38 ∧ Fits [(2, .pointer (some ⟨b25, 0, none⟩)), (3, .pointer (some ⟨b26, 0, none⟩)), (4, .pointer (some ⟨b27, 0, none⟩)), (5, .pointer (some ⟨b28, 0, none⟩))] ρ ∧ K = K' ∧ L' = Cl b25 52 [ii xa.1, ii xa.2.1, ii xa.2.2.1, ii xa.2.2.2.1, .bool xa.2.2.2.2] :: Cl b26 126 [.bool xb.1, .bool xb.2.1, .bool xb.2.2] :: Cl b27 52 [ii 0, ii 0, ii 0, ii 0, .bool false] :: Cl b28 52 [ii xa.1, ii i30, ii i37, ii 0, .bool false] :: F) ?_ ?_
 · refine cr <| jv _ (V.fad Try.underlying126 rfl nz4 rfl) <| jv (.bool xb.2.1) (V.ld rfl (Ld.sc sc4 (Rd.cl 1 rfl rfl))) <| J.nil <| cc rfl ho39 (fun hc40 ho39 => ?_) fun hc40 ho39 => ?_
   · refine CJ.region <| jv _ (V.fad Try.underlying52 rfl nz3 rfl) <| jv (ii xa.2.2.1) (V.ld rfl (Ld.sc sc3 (Rd.cl 0 rfl rfl))) <| jv _ (V.fad Try.underlying52 rfl nz3 rfl) <| J.front 3 rfl <| js1 [ii xa.1, ii i30, ii xa.2.2.1, ii 0, .bool false] sz3 rfl rfl rfl rfl rfl rfl <| J.front 3 rfl ?_
     refine J.front 3 rfl <| J.front 3 rfl <| J.nil ?_
     obtain rfl := si ho39
     exact ⟨rfl, ⟨xa.2.2.1, rfl, ⟨rfl, rfl, rfl, rfl, trivial⟩, rfl, rfl⟩⟩
   refine CJ.skip ?_
   obtain rfl := si ho39
   exact ⟨rfl, ⟨0, rfl, ⟨rfl, rfl, rfl, rfl, trivial⟩, rfl, rfl⟩⟩
 rintro ρ _ _ ⟨i37, rfl, hf41, rfl, rfl⟩
 obtain ⟨ρ, rfl⟩ := hf41.ex
 refine PJ.done <| CJ.seq <| cr <| jv _ (V.fad Try.underlying126 rfl nz4 rfl) <| jv (.bool xb.2.2) (V.ld rfl (Ld.sc sc4 (Rd.cl 1 rfl rfl))) <| J.nil ?_
 refine cc rfl h (fun hc43 h => ?_) fun hc43 h => ?_
 · refine CJ.mix [Cl b25 52 [ii xa.1, ii xa.2.1, ii xa.2.2.1, ii xa.2.2.2.1, .bool xa.2.2.2.2], Cl b26 126 [.bool xb.1, .bool xb.2.1, .bool xb.2.2], Cl b27 52 [ii 0, ii 0, ii 0, ii 0, .bool false]] [([0, 1, 2, 3, 4], 5)] [6] [7] mixO (by decide +kernel) ⟨0, rfl, 0, rfl, 0, rfl, trivial⟩ rfl rfl rfl <| JM.cons <| qv _ (V.fad Try.underlying52 rfl nz3 rfl) <| qv (ii xa.2.2.2.1) (V.ld rfl (Ld.sc sc3 (Rd.cl 0 rfl rfl))) <| qv _ (V.fad Try.underlying52 rfl nz4 rfl) <| qv (.bool xa.2.2.2.2) (V.ld rfl (Ld.sc sc4 (Rd.cl 0 rfl rfl))) <| qv _ (V.fad Try.underlying52 rfl nz3 rfl) ?_
   refine JQ.nil <| JA.front 3 rfl <| JA.op rfl (A.store1 (v := ii xa.2.2.2.1) (cs' := [ii xa.1, ii i30, ii i37, ii xa.2.2.2.1, .bool false]) sz3 rfl rfl rfl rfl rfl rfl) ?_
   rintro _ _ _ ⟨rfl, rfl, rfl⟩
   refine ⟨fun w hs => Hold.sub (Hp.le_refl _) ⟨1, rfl, 1, rfl, 1, rfl, trivial⟩ hs, ?_⟩
   refine JM.nil <| qv _ (V.fad Try.underlying52 rfl nz4 rfl) <| JQ.nil <| js1 [ii xa.1, ii i30, ii i37, ii xa.2.2.2.1, .bool xa.2.2.2.2] sz4 rfl rfl rfl rfl rfl rfl <| J.nil <| CJ.seq <| CJ.region ?_
   refine jv (.agg #[ii xa.1, ii i30, ii i37, ii xa.2.2.2.1, .bool xa.2.2.2.2]) (V.ld rfl (Ld.agg (cs := [ii xa.1, ii i30, ii i37, ii xa.2.2.2.1, .bool xa.2.2.2.2]) Try.underlying52 sz52 rfl (Rd.cls 0 0 rfl rfl))) <| J.front 3 rfl <| js [ii xa.1, ii i30, ii i37, ii xa.2.2.2.1, .bool xa.2.2.2.2] sz52 rfl rfl rfl rfl rfl rfl <| J.nil <| CJ.ret ?_
   obtain rfl := si h
   exact ⟨_, _, Res.one rfl ⟨_, _, rfl, Ld.agg (cs := [ii xa.1, ii i30, ii i37, ii xa.2.2.2.1, .bool xa.2.2.2.2]) Try.underlying52 sz52 rfl (Rd.cls 0 0 rfl rfl)⟩, ⟨xa.1, i30, i37, xa.2.2.2.1, xa.2.2.2.2, rfl, rfl, rfl⟩, (Hp.le_refl _), fun w hs => (Sep.dropAt 0 rfl (Sep.dropAt 0 rfl (Sep.dropAt 0 rfl (Sep.dropAt 0 rfl hs))))⟩
 refine CJ.skip <| cr <| jv (.agg #[ii xa.1, ii i30, ii i37, ii 0, .bool false]) (V.ld rfl (Ld.agg (cs := [ii xa.1, ii i30, ii i37, ii 0, .bool false]) Try.underlying52 sz52 rfl (Rd.cls 3 0 rfl rfl))) <| J.front 2 rfl <| js [ii xa.1, ii i30, ii i37, ii 0, .bool false] sz52 rfl rfl rfl rfl rfl rfl <| J.nil ?_
 refine CJ.ret ?_
 obtain rfl := si h
 exact ⟨_, _, Res.one rfl ⟨_, _, rfl, Ld.agg (cs := [ii xa.1, ii i30, ii i37, ii 0, .bool false]) Try.underlying52 sz52 rfl (Rd.cls 0 0 rfl rfl)⟩, ⟨xa.1, i30, i37, 0, false, rfl, rfl, rfl⟩, (Hp.le_refl _), fun w hs => (Sep.dropAt 0 rfl (Sep.dropAt 0 rfl (Sep.dropAt 0 rfl (Sep.dropAt 0 rfl hs))))⟩

noncomputable def fn_stmt_form (xa : (Int × Int × Int × Int × Bool)) : Option (Bool × Bool × Bool × Int) :=
  (fn_stmt_fieldsOf xa.1).bind fun (t45, t46, t47, t48) => cond (!t48) (some ((false, false, false, 3))) ((fn_stmt_own (xa.1, xa.2.1, xa.2.2.1, xa.2.2.2.1, xa.2.2.2.2) (t45, t46, t47)).bind fun (i67, i68, i69, i70, t71) => cond (!((decide (xa.1 = i67)) && ((decide (xa.2.1 = i68)) && ((decide (xa.2.2.1 = i69)) && ((decide (xa.2.2.2.1 = i70)) && (xa.2.2.2.2 == t71)))))) (some ((false, false, false, 3))) (some ((t45, t46, t47, 0))))
set_option maxRecDepth 100000 in
set_option maxHeartbeats 4000000 in
theorem stmt_form_ok {K : Hp} {xa : (Int × Int × Int × Int × Bool)}   {r : (Bool × Bool × Bool × Int)} (h : fn_stmt_form xa = some r) :
    Tr Try.prog 51 #[.agg #[ii xa.1, ii xa.2.1, ii xa.2.2.1, ii xa.2.2.2.1, .bool xa.2.2.2.2]] K [] (fun v K' L' => (∃ (t37 : Bool) (t38 : Bool) (t39 : Bool) (i40 : Int), (t37, t38, t39, i40) = r ∧ .tuple #[.agg #[.bool t37, .bool t38, .bool t39], ii i40] = v ∧ L' = []) ∧ K = K') := by
 refine Tr.k <| Tr.of Try.func51 rfl Try.ntmps51 rfl fun E F => ?_
 unfold fn_stmt_form at h
 refine cr <| jbx [ii xa.1, ii xa.2.1, ii xa.2.2.1, ii xa.2.2.2.1, .bool xa.2.2.2.2] rfl rfl fun b41 => jal inf126 [.bool false, .bool false, .bool false] rfl fun b42 => ja (ii 0) rfl <| J.nil <| CJ.seq ?_
 refine CJ.region <| jv _ (V.fad Try.underlying52 rfl nz3 rfl) <| jv (ii xa.1) (V.ld rfl (Ld.sc sc3 (Rd.cl 1 rfl rfl))) ?_
 obtain ⟨r43, hr44, h⟩ := ob h
 refine J.op rfl (A.call (L1 := []) Try.call67 rfl (stmt_fieldsOf_ok hr44) rfl rfl) ?_
 rintro _ _ _ ⟨v49, _, rfl, ⟨⟨t45, t46, t47, t48, rfl, rfl, rfl⟩, rfl⟩, _, rfl⟩
 refine jm (.tuple #[.agg #[.bool t45, .bool t46, .bool t47], .bool t48]) rfl <| jx (.agg #[.bool t45, .bool t46, .bool t47]) rfl rfl <| jx (.bool t48) rfl rfl <| jal inf126 [.bool false, .bool false, .bool false] rfl fun b52 => js [.bool t45, .bool t46, .bool t47] sz126 rfl rfl rfl rfl rfl rfl <| ja (.bool t48) rfl <| J.nil ?_
 refine CJ.seq <| CJ.seq <| CJ.mix [Cl b52 126 [.bool t45, .bool t46, .bool t47], Cl b42 126 [.bool false, .bool false, .bool false], Cl b41 52 [ii xa.1, ii xa.2.1, ii xa.2.2.1, ii xa.2.2.2.1, .bool xa.2.2.2.2]] [([0, 1, 2, 3, 4, 5], 6)] [7, 8] [] mixO (by decide +kernel) ⟨0, rfl, 0, rfl, 0, rfl, trivial⟩ rfl rfl rfl <| JM.cons <| qm (.bool t48) rfl <| qv (.bool (!t48)) (V.not rfl) <| qm (.bool (!t48)) rfl ?_
 rcases bt (!t48) with hc64 | hc64
 · have h := ct hc64 h
   refine JQ.skip rfl rfl rfl rfl hc64 <| JQ.skip rfl rfl rfl rfl hc64 <| JQ.skip rfl rfl rfl rfl hc64 <| JQ.nil <| JA.skip rfl rfl rfl rfl hc64 <| JM.nil <| JQ.skip rfl rfl rfl rfl hc64 ?_
   refine qv (.bool true) (V.pickT rfl hc64 rfl) <| JQ.nil <| J.nil <| CJ.condK (b := true) rfl rfl <| cr <| jv (.agg #[.bool false, .bool false, .bool false]) (V.build inf126 places126 rfl rfl) ?_
   refine J.front 1 rfl <| js [.bool false, .bool false, .bool false] sz126 rfl rfl rfl rfl rfl rfl <| ja (ii 3) rfl <| J.nil <| CJ.ret ?_
   obtain rfl := si h
   exact ⟨_, _, Res.two rfl ⟨_, _, rfl, Ld.agg (cs := [.bool false, .bool false, .bool false]) Try.underlying126 sz126 rfl (Rd.cls 0 0 rfl rfl)⟩ rfl, ⟨false, false, false, 3, rfl, rfl, rfl⟩, (Hp.le_refl _), fun w hs => (Sep.dropAt 0 rfl (Sep.dropAt 0 rfl (Sep.dropAt 0 rfl hs)))⟩
 have h := cf hc64 h
 refine JQ.run rfl rfl rfl hc64 <| qv (.agg #[ii xa.1, ii xa.2.1, ii xa.2.2.1, ii xa.2.2.2.1, .bool xa.2.2.2.2]) (V.ld rfl (Ld.agg (cs := [ii xa.1, ii xa.2.1, ii xa.2.2.1, ii xa.2.2.2.1, .bool xa.2.2.2.2]) Try.underlying52 sz52 rfl (Rd.cls 2 0 rfl rfl))) <| JQ.run rfl rfl rfl hc64 <| qv (.agg #[ii xa.1, ii xa.2.1, ii xa.2.2.1, ii xa.2.2.2.1, .bool xa.2.2.2.2]) (V.ld rfl (Ld.agg (cs := [ii xa.1, ii xa.2.1, ii xa.2.2.1, ii xa.2.2.2.1, .bool xa.2.2.2.2]) Try.underlying52 sz52 rfl (Rd.cls 2 0 rfl rfl))) <| JQ.run rfl rfl rfl hc64 <| qv (.agg #[.bool t45, .bool t46, .bool t47]) (V.ld rfl (Ld.agg (cs := [.bool t45, .bool t46, .bool t47]) Try.underlying126 sz126 rfl (Rd.cls 0 0 rfl rfl))) <| JQ.nil ?_
 refine JA.run rfl rfl rfl hc64 ?_
 obtain ⟨r65, hr66, h⟩ := ob h
 refine JA.op rfl (A.call (L1 := []) Try.call68 rfl (stmt_own_ok hr66) rfl rfl) ?_
 rintro _ _ _ ⟨v72, _, rfl, ⟨⟨i67, i68, i69, i70, t71, rfl, rfl, rfl⟩, rfl⟩, _, rfl⟩
 refine ⟨fun w hs => Hold.sub (Hp.le_refl _) ⟨0, rfl, 0, rfl, 0, rfl, trivial⟩ hs, ?_⟩
 refine JM.nil <| JQ.run rfl rfl rfl hc64 <| qv (.bool (!((decide (xa.1 = i67)) && ((decide (xa.2.1 = i68)) && ((decide (xa.2.2.1 = i69)) && ((decide (xa.2.2.2.1 = i70)) && (xa.2.2.2.2 == t71))))))) (V.nest eqg52 (EqIn.st (d := 9999) rfl Try.underlying52 sih52 (EqFs.cons (by decide) (Ld0.sc sc3 rfl) (Ld0.sc sc3 rfl) (EqIn.int (d := 9998) rfl Try.underlying3) (EqFs.cons (by decide) (Ld0.sc sc3 rfl) (Ld0.sc sc3 rfl) (EqIn.int (d := 9998) rfl Try.underlying3) (EqFs.cons (by decide) (Ld0.sc sc3 rfl) (Ld0.sc sc3 rfl) (EqIn.int (d := 9998) rfl Try.underlying3) (EqFs.cons (by decide) (Ld0.sc sc3 rfl) (Ld0.sc sc3 rfl) (EqIn.int (d := 9998) rfl Try.underlying3) (EqFs.last (by decide) (Ld0.sc sc4 rfl) (Ld0.sc sc4 rfl) (EqIn.bool (d := 9998) rfl Try.underlying4))))))) rfl rfl) <| qv (.bool (!((decide (xa.1 = i67)) && ((decide (xa.2.1 = i68)) && ((decide (xa.2.2.1 = i69)) && ((decide (xa.2.2.2.1 = i70)) && (xa.2.2.2.2 == t71))))))) (V.pickF rfl hc64 rfl) <| JQ.nil <| J.nil <| cc rfl h (fun hc75 h => ?_) fun hc75 h => ?_
 · refine cr <| jv (.agg #[.bool false, .bool false, .bool false]) (V.build inf126 places126 rfl rfl) <| J.front 1 rfl <| js [.bool false, .bool false, .bool false] sz126 rfl rfl rfl rfl rfl rfl <| ja (ii 3) rfl <| J.nil ?_
   refine CJ.ret ?_
   obtain rfl := si h
   exact ⟨_, _, Res.two rfl ⟨_, _, rfl, Ld.agg (cs := [.bool false, .bool false, .bool false]) Try.underlying126 sz126 rfl (Rd.cls 0 0 rfl rfl)⟩ rfl, ⟨false, false, false, 3, rfl, rfl, rfl⟩, (Hp.le_refl _), fun w hs => (Sep.dropAt 0 rfl (Sep.dropAt 0 rfl (Sep.dropAt 0 rfl hs)))⟩
 refine CJ.skip <| cr <| jv (.agg #[.bool t45, .bool t46, .bool t47]) (V.ld rfl (Ld.agg (cs := [.bool t45, .bool t46, .bool t47]) Try.underlying126 sz126 rfl (Rd.cls 0 0 rfl rfl))) <| J.front 1 rfl <| js [.bool t45, .bool t46, .bool t47] sz126 rfl rfl rfl rfl rfl rfl <| ja (ii 0) rfl ?_
 refine J.nil <| CJ.ret ?_
 obtain rfl := si h
 exact ⟨_, _, Res.two rfl ⟨_, _, rfl, Ld.agg (cs := [.bool t45, .bool t46, .bool t47]) Try.underlying126 sz126 rfl (Rd.cls 0 0 rfl rfl)⟩ rfl, ⟨t45, t46, t47, 0, rfl, rfl, rfl⟩, (Hp.le_refl _), fun w hs => (Sep.dropAt 0 rfl (Sep.dropAt 0 rfl (Sep.dropAt 0 rfl hs)))⟩

noncomputable def fn_stmt_Needs_1_ip0_k (xa : Int) (qa0 : (List (List (Int × Bool)))) : Option Bool :=
  some ((decide (0 ≤ xa)) && (decide (xa < (((qa0.length : Nat) : Int)))))
set_option maxRecDepth 100000 in
set_option maxHeartbeats 4000000 in
theorem stmt_Needs_1_ip0_k_ok {K : Hp} {xa : Int} {qa0 : (List (List (Int × Bool)))} {pba : Nat} {adqa0 : Option Addr} {cpqa0 : Nat} (fqa0 : Is K (.sl (.one (.sl (.cons (.int .i64) (.one .bool))))) [.slice adqa0 qa0.length cpqa0] qa0) {r : Bool} (h : fn_stmt_Needs_1_ip0_k xa qa0 = some r) :
    Tr Try.prog 52 #[ii xa, .pointer (some ⟨pba, 0, none⟩)] K [Cl pba 27 [.slice adqa0 qa0.length cpqa0]] (fun v K' L' => (∃ (t4 : Bool), t4 = r ∧ .bool t4 = v ∧ L' = [Cl pba 27 [.slice adqa0 qa0.length cpqa0]]) ∧ K = K') := by
 refine Tr.k <| Tr.of Try.func52 rfl Try.ntmps52 rfl fun E F => ?_
 unfold fn_stmt_Needs_1_ip0_k at h
 refine cr <| ja (.bool false) rfl <| J.nil <| cr <| jm (ii xa) rfl ?_
 refine jv (.bool (decide (0 ≤ xa))) (V.geq rfl rfl) <| jm (.bool (decide (0 ≤ xa))) rfl <| J.cut 5 <| jmeet [(11, .bool ((decide (0 ≤ xa)) && (decide (xa < (((qa0.length : Nat) : Int))))))] ?_ ?_
 · rcases bt (decide (0 ≤ xa)) with hc7 | hc7
   · refine J.run rfl rfl rfl hc7 <| jm (ii xa) rfl <| J.run rfl rfl rfl hc7 <| jv (.slice adqa0 qa0.length cpqa0) (V.ld rfl (Ld.sc sc27 (Rd.cl 0 rfl rfl))) <| J.run rfl rfl rfl hc7 <| jv (ii (((qa0.length : Nat) : Int))) (V.len Try.underlying27 rfl) <| J.run rfl rfl rfl hc7 ?_
     refine jv (.bool (decide (xa < (((qa0.length : Nat) : Int))))) (V.lss rfl rfl) <| jv (.bool (decide (xa < (((qa0.length : Nat) : Int))))) (V.pickT rfl hc7 rfl) <| J.nil ?_
     exact ⟨rfl, ⟨(by simp only [hc7]; rfl), trivial⟩, rfl, rfl⟩
   refine J.skip rfl rfl rfl rfl hc7 <| J.skip rfl rfl rfl rfl hc7 <| J.skip rfl rfl rfl rfl hc7 <| J.skip rfl rfl rfl rfl hc7 <| jv (.bool false) (V.pickF rfl hc7 rfl) <| J.nil ?_
   exact ⟨rfl, ⟨(by simp only [hc7]; rfl), trivial⟩, rfl, rfl⟩
 intro ρ
 refine ja (.bool ((decide (0 ≤ xa)) && (decide (xa < (((qa0.length : Nat) : Int)))))) rfl <| J.nil <| CJ.ret ?_
 obtain rfl := si h
 exact ⟨_, _, Res.one rfl rfl, ⟨(decide (0 ≤ xa)) && (decide (xa < (((qa0.length : Nat) : Int)))), rfl, rfl, rfl⟩, (Hp.le_refl _), fun w hs => hs⟩
noncomputable def fn_relate_related_l1 (xa : (List (Int × Bool))) (xb : (List (Int × Bool))) (xc : Int) (xd : Int) : ((List (Int × Int × Int × Int × Bool)) × Int) → Option (((List (Int × Int × Int × Int × Bool)) × Int) ⊕ (List (Int × Int × Int × Int × Bool))) := fun ((l1175, i1180) : ((List (Int × Int × Int × Int × Bool)) × Int)) => cond (decide (i1180 < (((xa.length : Nat) : Int)))) ((getI xa i1180).bind fun x1321 => (getI xb i1180).bind fun x1330 => (app l1175 (([(x1321.1, x1330.1, xc, IntKind.wrap .i64 (xd + i1180), false)] : List (Int × Int × Int × Int × Bool)))).bind fun z1342 => (getI xb i1180).bind fun x1348 => cond (x1348.2) ((getI xb i1180).bind fun x1379 => (getI xa i1180).bind fun x1388 => (app z1342 (([(x1379.1, x1388.1, xc, IntKind.wrap .i64 (xd + i1180), true)] : List (Int × Int × Int × Int × Bool)))).bind fun z1400 => some (.inl ((z1400, IntKind.wrap .i64 (i1180 + 1))))) (some (.inl ((z1342, IntKind.wrap .i64 (i1180 + 1)))))) (some (.inr (l1175)))
noncomputable def fn_relate_related (xa : (List (Int × Bool))) (xb : (List (Int × Bool))) (xc : Int) (xd : Int) : Option ((List (Int × Int × Int × Int × Bool))) :=
  (loop (fn_relate_related_l1 xa xb xc xd) ([], 0) : Option ((List (Int × Int × Int × Int × Bool)))).bind fun l1053 => some (l1053)
set_option maxRecDepth 100000 in
set_option maxHeartbeats 4000000 in
theorem relate_related_ok {K : Hp} {xa : (List (Int × Bool))} {xb : (List (Int × Bool))} {xc : Int} {xd : Int} {adxa_0 : Option Addr} {cpxa_0 : Nat} {adxb_0 : Option Addr} {cpxb_0 : Nat} (fxa_0 : Is K (.sl (.cons (.int .i64) (.one .bool))) [.slice adxa_0 xa.length cpxa_0] xa) (fxb_0 : Is K (.sl (.cons (.int .i64) (.one .bool))) [.slice adxb_0 xb.length cpxb_0] xb) {r : (List (Int × Int × Int × Int × Bool))} (h : fn_relate_related xa xb xc xd = some r) :
    Tr Try.prog 69 #[.slice adxa_0 xa.length cpxa_0, .slice adxb_0 xb.length cpxb_0, ii xc, ii xd] K [] (fun v K' L' => (∃ (l702 : (List (Int × Int × Int × Int × Bool))) (ad703 : Option Addr) (cp704 : Nat), l702 = r ∧ .slice ad703 l702.length cp704 = v ∧ L' = [Row Hp.nil 93 (.cons (.int .i64) (.cons (.int .i64) (.cons (.int .i64) (.cons (.int .i64) (.one .bool))))) (.slice ad703 l702.length cp704) l702]) ∧ K = K') := by
 refine Tr.k <| Tr.of Try.func69 rfl Try.ntmps69 rfl fun E F => ?_
 unfold fn_relate_related at h
 refine cr <| ja (nos) rfl <| J.nil <| cr <| ja (nos) rfl ?_
 refine J.nil <| CJ.seq <| cr <| jm (.slice adxa_0 xa.length cpxa_0) rfl <| jv (ii (((xa.length : Nat) : Int))) (V.len Try.underlying28 rfl) <| jm (ii 0) rfl ?_
 refine J.nil ?_
 obtain ⟨o1058, ho1059, h⟩ := ob h
 refine CJ.meetN (fun ρ K' L' => ∃ (l1053 : (List (Int × Int × Int × Int × Bool))) (ad1054 : Option Addr) (cp1055 : Nat), l1053 = o1058 ∧ Fits [(9, .slice ad1054 l1053.length cp1055)] ρ ∧ K = K' ∧ L' = Row Hp.nil 93 (.cons (.int .i64) (.cons (.int .i64) (.cons (.int .i64) (.cons (.int .i64) (.one .bool))))) (.slice ad1054 l1053.length cp1055) l1053 :: F) ?_ ?_
 · refine CJ.block <| CJ.by (fun w hs => Sep.rowNil (e := 93) (t := (.cons (.int .i64) (.cons (.int .i64) (.cons (.int .i64) (.cons (.int .i64) (.one .bool)))))) hs) <| CJ.loop (fun s ρ K' L' => ∃ (l1175 : (List (Int × Int × Int × Int × Bool))) (i1180 : Int) (ad1176 : Option Addr) (cp1177 : Nat), (l1175, i1180) = s ∧ Fits [(0, .slice adxa_0 xa.length cpxa_0), (1, .slice adxb_0 xb.length cpxb_0), (2, ii xc), (3, ii xd), (9, .slice ad1176 l1175.length cp1177), (12, ii (((xa.length : Nat) : Int))), (13, ii i1180)] ρ ∧ K = K' ∧ L' = Row Hp.nil 93 (.cons (.int .i64) (.cons (.int .i64) (.cons (.int .i64) (.cons (.int .i64) (.one .bool))))) (.slice ad1176 l1175.length cp1177) l1175 :: F) ho1059 ⟨[], 0, none, 0, rfl, ⟨rfl, rfl, rfl, rfl, rfl, rfl, rfl, trivial⟩, rfl, rfl⟩ ?_
   rintro s ρ _ _ r1298 ⟨l1175, i1180, ad1176, cp1177, rfl, hf1296, rfl, rfl⟩ h1294
   obtain ⟨ρ, rfl⟩ := hf1296.ex
   refine CJ.wit Row.hn fun hn1179 => cr <| jv (.bool (decide (i1180 < (((xa.length : Nat) : Int))))) (V.lss rfl rfl) <| J.nil <| CJ.seq <| cc rfl h1294 (fun hc1299 h1294 => ?_) fun hc1299 h1294 => ?_
   · refine CJ.skip <| CJ.seq <| CJ.block <| cr <| jm (ii i1180) rfl <| ja (ii i1180) rfl ?_
     refine J.nil <| CJ.seq <| CJ.mix [Row Hp.nil 93 (.cons (.int .i64) (.cons (.int .i64) (.cons (.int .i64) (.cons (.int .i64) (.one .bool))))) (.slice ad1176 l1175.length cp1177) l1175] [([0, 1, 2, 3, 4, 5, 6, 7, 8, 9, 10, 11, 12, 13, 14, 15], 16)] [] [17, 18] mixO (by decide +kernel) ⟨0, rfl, trivial⟩ rfl rfl rfl <| JM.cons <| qm (.slice ad1176 l1175.length cp1177) rfl <| qm (.slice adxa_0 xa.length cpxa_0) rfl <| qm (ii i1180) rfl ?_
     obtain ⟨x1321, hx1322, h1294⟩ := ob h1294
     obtain ⟨p1323, p1324, p1325⟩ := getI_some hx1322
     obtain ⟨b1326, o1327, e1328, a1329⟩ := (fxa_0).at p1324
     refine qv _ (V.iad Try.underlying28 sz50 rfl e1328 rfl p1323 p1325) <| qv _ (V.fad Try.underlying50 rfl nz3 rfl) <| qv (ii x1321.1) (V.ld rfl (Ld.sc sc3 (Rd.k ((a1329).fst).int (Hp.le_refl _)))) <| qm (.slice adxb_0 xb.length cpxb_0) rfl <| qm (ii i1180) rfl ?_
     obtain ⟨x1330, hx1331, h1294⟩ := ob h1294
     obtain ⟨p1332, p1333, p1334⟩ := getI_some hx1331
     obtain ⟨b1335, o1336, e1337, a1338⟩ := (fxb_0).at p1333
     refine qv _ (V.iad Try.underlying28 sz50 rfl e1337 rfl p1332 p1334) <| qv _ (V.fad Try.underlying50 rfl nz3 rfl) <| qv (ii x1330.1) (V.ld rfl (Ld.sc sc3 (Rd.k ((a1338).fst).int (Hp.le_refl _)))) <| qm (ii xc) rfl <| qm (ii xd) rfl <| qm (ii i1180) rfl <| qv (ii (IntKind.wrap .i64 (xd + i1180))) (V.add rfl rfl) ?_
     refine qv (.agg #[ii x1321.1, ii x1330.1, ii xc, ii (IntKind.wrap .i64 (xd + i1180)), .bool false]) (V.build inf93 places93 rfl rfl) <| JQ.nil ?_
     refine JA.op rfl (A.lit (K0 := Hp.nil) (ty := (.cons (.int .i64) (.cons (.int .i64) (.cons (.int .i64) (.cons (.int .i64) (.one .bool)))))) (xs := ([(x1321.1, x1330.1, xc, IntKind.wrap .i64 (xd + i1180), false)] : List (Int × Int × Int × Int × Bool))) Try.underlying90 inf93 rfl (by decide) rfl rfl rfl ⟨_, _, rfl, ⟨_, _, rfl, rfl, rfl, ⟨_, _, rfl, rfl, rfl, ⟨_, _, rfl, rfl, rfl, ⟨_, _, rfl, rfl, rfl, rfl⟩⟩⟩⟩, rfl⟩ rfl (by decide)) ?_
     rintro _ _ _ ⟨b1339, rfl, rfl, rfl⟩
     have hn1340 : ([(x1321.1, x1330.1, xc, IntKind.wrap .i64 (xd + i1180), false)] : List (Int × Int × Int × Int × Bool)) ≠ [] → ∃ g, (some ⟨b1339, 0, none⟩ : Option Addr) = some ⟨g, 0, none⟩ := fun _ => ⟨b1339, rfl⟩
     refine ⟨fun w hs => Hold.sub (Hp.le_refl _) ⟨1, rfl, trivial⟩ hs, ?_⟩
     refine JM.nil <| JQ.nil ?_
     obtain ⟨z1342, hz1343, h1294⟩ := ob h1294
     refine J.front 1 rfl <| J.op rfl (A.appR (Kr := Hp.nil) Try.underlying90 inf93 rfl rfl (by decide) (by decide) rfl rfl (Els.flat rfl) (Els.flat rfl) hz1343) ?_
     rintro _ _ _ ⟨v1344, rfl, rfl, rfl⟩
     refine J.wit Row.form ?_
     rintro ⟨ad1345, cp1346, rfl, _, _, hn1347⟩
     refine ja (.slice ad1345 z1342.length cp1346) rfl <| J.nil <| cr <| jm (.slice adxb_0 xb.length cpxb_0) rfl <| jm (ii i1180) rfl ?_
     obtain ⟨x1348, hx1349, h1294⟩ := ob h1294
     obtain ⟨p1350, p1351, p1352⟩ := getI_some hx1349
     obtain ⟨b1353, o1354, e1355, a1356⟩ := (fxb_0).at p1351
     refine jv _ (V.iad Try.underlying28 sz50 rfl e1355 rfl p1350 p1352) <| jv _ (V.fad Try.underlying50 rfl nz4 rfl) <| jv (.bool x1348.2) (V.ld rfl (Ld.sc sc4 (Rd.k (((a1356).snd).one).bool (Hp.le_refl _)))) <| J.nil <| cc rfl h1294 (fun hc1357 h1294 => ?_) fun hc1357 h1294 => ?_
     · refine CJ.mix [Row Hp.nil 93 (.cons (.int .i64) (.cons (.int .i64) (.cons (.int .i64) (.cons (.int .i64) (.one .bool))))) (.slice ad1345 z1342.length cp1346) z1342] [([0, 1, 2, 3, 4, 5, 6, 7, 8, 9, 10, 11, 12, 13, 14, 15], 16)] [] [17, 18] mixO (by decide +kernel) ⟨0, rfl, trivial⟩ rfl rfl rfl <| JM.cons <| qm (.slice ad1345 z1342.length cp1346) rfl <| qm (.slice adxb_0 xb.length cpxb_0) rfl <| qm (ii i1180) rfl ?_
       obtain ⟨x1379, hx1380, h1294⟩ := ob h1294
       obtain ⟨p1381, p1382, p1383⟩ := getI_some hx1380
       obtain ⟨b1384, o1385, e1386, a1387⟩ := (fxb_0).at p1382
       refine qv _ (V.iad Try.underlying28 sz50 rfl e1386 rfl p1381 p1383) <| qv _ (V.fad Try.underlying50 rfl nz3 rfl) <| qv (ii x1379.1) (V.ld rfl (Ld.sc sc3 (Rd.k ((a1387).fst).int (Hp.le_refl _)))) <| qm (.slice adxa_0 xa.length cpxa_0) rfl <| qm (ii i1180) rfl ?_
       obtain ⟨x1388, hx1389, h1294⟩ := ob h1294
       obtain ⟨p1390, p1391, p1392⟩ := getI_some hx1389
       obtain ⟨b1393, o1394, e1395, a1396⟩ := (fxa_0).at p1391
       refine qv _ (V.iad Try.underlying28 sz50 rfl e1395 rfl p1390 p1392) <| qv _ (V.fad Try.underlying50 rfl nz3 rfl) <| qv (ii x1388.1) (V.ld rfl (Ld.sc sc3 (Rd.k ((a1396).fst).int (Hp.le_refl _)))) <| qm (ii xc) rfl <| qm (ii xd) rfl <| qm (ii i1180) rfl <| qv (ii (IntKind.wrap .i64 (xd + i1180))) (V.add rfl rfl) ?_
       refine qv (.agg #[ii x1379.1, ii x1388.1, ii xc, ii (IntKind.wrap .i64 (xd + i1180)), .bool true]) (V.build inf93 places93 rfl rfl) <| JQ.nil ?_
       refine JA.op rfl (A.lit (K0 := Hp.nil) (ty := (.cons (.int .i64) (.cons (.int .i64) (.cons (.int .i64) (.cons (.int .i64) (.one .bool)))))) (xs := ([(x1379.1, x1388.1, xc, IntKind.wrap .i64 (xd + i1180), true)] : List (Int × Int × Int × Int × Bool))) Try.underlying90 inf93 rfl (by decide) rfl rfl rfl ⟨_, _, rfl, ⟨_, _, rfl, rfl, rfl, ⟨_, _, rfl, rfl, rfl, ⟨_, _, rfl, rfl, rfl, ⟨_, _, rfl, rfl, rfl, rfl⟩⟩⟩⟩, rfl⟩ rfl (by decide)) ?_
       rintro _ _ _ ⟨b1397, rfl, rfl, rfl⟩
       have hn1398 : ([(x1379.1, x1388.1, xc, IntKind.wrap .i64 (xd + i1180), true)] : List (Int × Int × Int × Int × Bool)) ≠ [] → ∃ g, (some ⟨b1397, 0, none⟩ : Option Addr) = some ⟨g, 0, none⟩ := fun _ => ⟨b1397, rfl⟩
       refine ⟨fun w hs => Hold.sub (Hp.le_refl _) ⟨1, rfl, trivial⟩ hs, ?_⟩
       refine JM.nil <| JQ.nil ?_
       obtain ⟨z1400, hz1401, h1294⟩ := ob h1294
       refine J.front 1 rfl <| J.op rfl (A.appR (Kr := Hp.nil) Try.underlying90 inf93 rfl rfl (by decide) (by decide) rfl rfl (Els.flat rfl) (Els.flat rfl) hz1401) ?_
       rintro _ _ _ ⟨v1402, rfl, rfl, rfl⟩
       refine J.wit Row.form ?_
       rintro ⟨ad1403, cp1404, rfl, _, _, hn1405⟩
       refine ja (.slice ad1403 z1400.length cp1404) rfl <| J.nil <| CJ.region <| jv (ii (IntKind.wrap .i64 (i1180 + 1))) (V.add rfl rfl) <| jm (ii (IntKind.wrap .i64 (i1180 + 1))) rfl <| J.nil ?_
       obtain rfl := si h1294
       exact ⟨rfl, ⟨z1400, IntKind.wrap .i64 (i1180 + 1), ad1403, cp1404, rfl, ⟨rfl, rfl, rfl, rfl, rfl, rfl, rfl, trivial⟩, rfl, rfl⟩⟩
     refine CJ.skip <| CJ.region <| jv (ii (IntKind.wrap .i64 (i1180 + 1))) (V.add rfl rfl) <| jm (ii (IntKind.wrap .i64 (i1180 + 1))) rfl <| J.nil ?_
     obtain rfl := si h1294
     exact ⟨rfl, ⟨z1342, IntKind.wrap .i64 (i1180 + 1), ad1345, cp1346, rfl, ⟨rfl, rfl, rfl, rfl, rfl, rfl, rfl, trivial⟩, rfl, rfl⟩⟩
   refine CJ.exit ?_
   obtain rfl := si h1294
   refine ⟨nofun, fun e => ?_⟩
   subst e
   exact ⟨rfl, ⟨l1175, ad1176, cp1177, rfl, ⟨rfl, trivial⟩, rfl, rfl⟩⟩
 rintro ρ _ _ ⟨l1053, ad1054, cp1055, rfl, hf1406, rfl, rfl⟩
 obtain ⟨ρ, rfl⟩ := hf1406.ex
 refine PJ.wit Row.hn fun hn1057 => PJ.done <| cr <| jm (.slice ad1054 l1053.length cp1055) rfl <| ja (.slice ad1054 l1053.length cp1055) rfl <| J.nil ?_
 refine CJ.ret ?_
 obtain rfl := si h
 exact ⟨_, _, Res.one rfl rfl, ⟨l1053, ad1054, cp1055, rfl, rfl, rfl⟩, (Hp.le_refl _), fun w hs => hs⟩

noncomputable def fn_relate_Flow (xa : (List (Int × Bool))) (xb : (List (Int × Bool))) (xc : Int) (xd : Int) : Option (((List (Int × Int × Int × Int × Bool)) × Int)) :=
  (fn_row_Shape xa xb).bind fun t30 => cond (!t30) (some (([], 8))) ((fn_relate_related xa xb xc xd).bind fun l38 => some ((l38, 0)))
set_option maxRecDepth 100000 in
set_option maxHeartbeats 4000000 in
theorem relate_Flow_ok {K : Hp} {xa : (List (Int × Bool))} {xb : (List (Int × Bool))} {xc : Int} {xd : Int} {adxa_0 : Option Addr} {cpxa_0 : Nat} {adxb_0 : Option Addr} {cpxb_0 : Nat} (fxa_0 : Is K (.sl (.cons (.int .i64) (.one .bool))) [.slice adxa_0 xa.length cpxa_0] xa) (fxb_0 : Is K (.sl (.cons (.int .i64) (.one .bool))) [.slice adxb_0 xb.length cpxb_0] xb) {r : ((List (Int × Int × Int × Int × Bool)) × Int)} (h : fn_relate_Flow xa xb xc xd = some r) :
    Tr Try.prog 53 #[.agg #[.slice adxa_0 xa.length cpxa_0], .agg #[.slice adxb_0 xb.length cpxb_0], ii xc, ii xd] K [] (fun v K' L' => (∃ (l20 : (List (Int × Int × Int × Int × Bool))) (i25 : Int) (ad21 : Option Addr) (cp22 : Nat), (l20, i25) = r ∧ .tuple #[.slice ad21 l20.length cp22, ii i25] = v ∧ L' = [Row Hp.nil 93 (.cons (.int .i64) (.cons (.int .i64) (.cons (.int .i64) (.cons (.int .i64) (.one .bool))))) (.slice ad21 l20.length cp22) l20]) ∧ K = K') := by
 refine Tr.k <| Tr.of Try.func53 rfl Try.ntmps53 rfl fun E F => ?_
 unfold fn_relate_Flow at h
 refine cr <| jbx [.slice adxa_0 xa.length cpxa_0] rfl rfl fun b26 => jbx [.slice adxb_0 xb.length cpxb_0] rfl rfl fun b27 => ja (nos) rfl <| ja (ii 0) rfl <| J.nil ?_
 refine CJ.seq <| cr <| jv (.agg #[.slice adxa_0 xa.length cpxa_0]) (V.ld rfl (Ld.agg (cs := [.slice adxa_0 xa.length cpxa_0]) Try.underlying30 sz30 rfl (Rd.cls 1 0 rfl rfl))) <| jv (.agg #[.slice adxb_0 xb.length cpxb_0]) (V.ld rfl (Ld.agg (cs := [.slice adxb_0 xb.length cpxb_0]) Try.underlying30 sz30 rfl (Rd.cls 0 0 rfl rfl))) ?_
 obtain ⟨r28, hr29, h⟩ := ob h
 refine J.op rfl (A.call (L1 := []) Try.call63 rfl (row_Shape_ok fxa_0 fxb_0 hr29) rfl rfl) ?_
 rintro _ _ _ ⟨v31, _, rfl, ⟨⟨t30, rfl, rfl, rfl⟩, rfl⟩, _, rfl⟩
 refine jv (.bool (!t30)) (V.not rfl) <| J.nil <| cc rfl h (fun hc34 h => ?_) fun hc34 h => ?_
 · refine cr <| ja (nos) rfl <| ja (ii 8) rfl <| J.nil <| CJ.by (fun w hs => Sep.rowNil (e := 93) (t := (.cons (.int .i64) (.cons (.int .i64) (.cons (.int .i64) (.cons (.int .i64) (.one .bool)))))) hs) <| CJ.ret ?_
   obtain rfl := si h
   exact ⟨_, _, Res.two rfl rfl rfl, ⟨[], 8, none, 0, rfl, rfl, rfl⟩, (Hp.le_refl _), fun w hs => (Sep.dropAt 1 rfl (Sep.dropAt 1 rfl hs))⟩
 refine CJ.skip <| cr <| jv _ (V.fad Try.underlying30 rfl nz28 rfl) <| jv (.slice adxa_0 xa.length cpxa_0) (V.ld rfl (Ld.sc sc28 (Rd.cl 1 rfl rfl))) <| jv _ (V.fad Try.underlying30 rfl nz28 rfl) <| jv (.slice adxb_0 xb.length cpxb_0) (V.ld rfl (Ld.sc sc28 (Rd.cl 0 rfl rfl))) ?_
 refine jm (ii xc) rfl <| jm (ii xd) rfl ?_
 obtain ⟨r36, hr37, h⟩ := ob h
 refine J.op rfl (A.call (L1 := []) Try.call69 rfl (relate_related_ok fxa_0 fxb_0 hr37) rfl rfl) ?_
 rintro _ _ _ ⟨v42, _, rfl, ⟨⟨l38, ad39, cp40, rfl, rfl, rfl⟩, rfl⟩, _, rfl⟩
 refine J.wit Row.hn fun hn41 => ja (.slice ad39 l38.length cp40) rfl <| ja (ii 0) rfl <| J.nil <| CJ.ret ?_
 obtain rfl := si h
 exact ⟨_, _, Res.two rfl rfl rfl, ⟨l38, 0, ad39, cp40, rfl, rfl, rfl⟩, (Hp.le_refl _), fun w hs => (Sep.dropAt 1 rfl (Sep.dropAt 1 rfl hs))⟩
noncomputable def fn_row_Ref_l1 (xa : (List (Int × Bool))) (xc : Bool) : ((List (Int × Bool)) × Int) → Option (((List (Int × Bool)) × Int) ⊕ (List (Int × Bool))) := fun ((l334, i339) : ((List (Int × Bool)) × Int)) => cond (decide (i339 < (((xa.length : Nat) : Int)))) ((getI xa i339).bind fun x374 => (app l334 (([(x374.1, x374.2 || xc)] : List (Int × Bool)))).bind fun z390 => some (.inl ((z390, IntKind.wrap .i64 (i339 + 1))))) (some (.inr (l334)))
noncomputable def fn_row_Ref (xa : (List (Int × Bool))) (xb : Int) (xc : Bool) : Option ((List (Int × Bool))) :=
  (loop (fn_row_Ref_l1 xa xc) ((([(xb, false)] : List (Int × Bool)), 0)) : Option ((List (Int × Bool)))).bind fun l298 => some (l298)
set_option maxRecDepth 100000 in
set_option maxHeartbeats 4000000 in
theorem row_Ref_ok {K : Hp} {xa : (List (Int × Bool))} {xb : Int} {xc : Bool} {adxa_0 : Option Addr} {cpxa_0 : Nat} (fxa_0 : Is K (.sl (.cons (.int .i64) (.one .bool))) [.slice adxa_0 xa.length cpxa_0] xa) {r : (List (Int × Bool))} (h : fn_row_Ref xa xb xc = some r) :
    Tr Try.prog 70 #[.agg #[.slice adxa_0 xa.length cpxa_0], ii xb, .bool xc] K [] (fun v K' L' => (∃ (l197 : (List (Int × Bool))) (ad198 : Option Addr) (cp199 : Nat), l197 = r ∧ .agg #[.slice ad198 l197.length cp199] = v ∧ L' = [Row Hp.nil 50 (.cons (.int .i64) (.one .bool)) (.slice ad198 l197.length cp199) l197]) ∧ K = K') := by
 refine Tr.k <| Tr.of Try.func70 rfl Try.ntmps70 rfl fun E F => ?_
 unfold fn_row_Ref at h
 refine cr <| jbx [.slice adxa_0 xa.length cpxa_0] rfl rfl fun b202 => jal inf30 [nos] rfl fun b203 => J.nil <| CJ.seq <| CJ.region ?_
 refine jm (ii xb) rfl <| jv (.agg #[ii xb, .bool false]) (V.build inf50 places50 rfl rfl) ?_
 refine J.op rfl (A.lit (K0 := Hp.nil) (ty := (.cons (.int .i64) (.one .bool))) (xs := ([(xb, false)] : List (Int × Bool))) Try.underlying28 inf50 rfl (by decide) rfl rfl rfl ⟨_, _, rfl, ⟨_, _, rfl, rfl, rfl, rfl⟩, rfl⟩ rfl (by decide)) ?_
 rintro _ _ _ ⟨b204, rfl, rfl, rfl⟩
 have hn205 : ([(xb, false)] : List (Int × Bool)) ≠ [] → ∃ g, (some ⟨b204, 0, none⟩ : Option Addr) = some ⟨g, 0, none⟩ := fun _ => ⟨b204, rfl⟩
 refine ja (.slice (some ⟨b204, 0, none⟩) ((([(xb, false)] : List (Int × Bool))).length) 1) rfl <| J.nil <| CJ.seq <| cr <| jv _ (V.fad Try.underlying30 rfl nz28 rfl) <| jv (.slice adxa_0 xa.length cpxa_0) (V.ld rfl (Ld.sc sc28 (Rd.cl 2 rfl rfl))) ?_
 refine jv (ii (((xa.length : Nat) : Int))) (V.len Try.underlying28 rfl) <| jm (ii 0) rfl <| J.nil ?_
 obtain ⟨o303, ho304, h⟩ := ob h
 refine CJ.meetN (fun ρ K' L' => ∃ (l298 : (List (Int × Bool))) (ad299 : Option Addr) (cp300 : Nat), l298 = o303 ∧ Fits [(6, .pointer (some ⟨b203, 0, none⟩)), (7, .slice ad299 l298.length cp300)] ρ ∧ K = K' ∧ L' = Cl b203 30 [nos] :: Row Hp.nil 50 (.cons (.int .i64) (.one .bool)) (.slice ad299 l298.length cp300) l298 :: F) ?_ ?_
 · refine CJ.block <| CJ.dropAt 2 rfl <| CJ.front 1 rfl <| CJ.loop (fun s ρ K' L' => ∃ (l334 : (List (Int × Bool))) (i339 : Int) (ad335 : Option Addr) (cp336 : Nat), (l334, i339) = s ∧ Fits [(2, .bool xc), (6, .pointer (some ⟨b203, 0, none⟩)), (7, .slice ad335 l334.length cp336), (14, .slice adxa_0 xa.length cpxa_0), (15, ii (((xa.length : Nat) : Int))), (16, ii i339)] ρ ∧ K = K' ∧ L' = Cl b203 30 [nos] :: Row Hp.nil 50 (.cons (.int .i64) (.one .bool)) (.slice ad335 l334.length cp336) l334 :: F) ho304 ⟨([(xb, false)] : List (Int × Bool)), 0, (some ⟨b204, 0, none⟩), 1, rfl, ⟨rfl, rfl, rfl, rfl, rfl, rfl, trivial⟩, rfl, rfl⟩ ?_
   rintro s ρ _ _ r372 ⟨l334, i339, ad335, cp336, rfl, hf370, rfl, rfl⟩ h369
   obtain ⟨ρ, rfl⟩ := hf370.ex
   refine CJ.front 1 rfl <| CJ.wit Row.hn fun hn338 => cr <| jv (.bool (decide (i339 < (((xa.length : Nat) : Int))))) (V.lss rfl rfl) <| J.nil <| CJ.seq ?_
   refine cc rfl h369 (fun hc373 h369 => ?_) fun hc373 h369 => ?_
   · refine CJ.skip <| CJ.seq <| CJ.block <| CJ.seq <| CJ.region ?_
     obtain ⟨x374, hx375, h369⟩ := ob h369
     obtain ⟨p376, p377, p378⟩ := getI_some hx375
     obtain ⟨b379, o380, e381, a382⟩ := (fxa_0).at p377
     refine jv _ (V.iad Try.underlying28 sz50 rfl e381 rfl p376 p378) <| jv (.agg #[ii x374.1, .bool x374.2]) (V.ld rfl (Ld.aggK (cs := [ii x374.1, .bool x374.2]) Try.underlying50 sz50 rfl ⟨((a382).fst).int, (((a382).snd).one).bool, trivial⟩ (Hp.le_refl _))) <| jal inf50 [ii 0, .bool false] rfl fun b383 => js [ii x374.1, .bool x374.2] sz50 rfl rfl rfl rfl rfl rfl <| J.nil <| CJ.region <| jm (.slice ad335 l334.length cp336) rfl ?_
     refine jv _ (V.fad Try.underlying50 rfl nz3 rfl) <| jv (ii x374.1) (V.ld rfl (Ld.sc sc3 (Rd.cl 0 rfl rfl))) <| jv _ (V.fad Try.underlying50 rfl nz4 rfl) <| jv (.bool x374.2) (V.ld rfl (Ld.sc sc4 (Rd.cl 0 rfl rfl))) <| jm (.bool x374.2) rfl <| J.cut 2 <| jmeet [(27, .bool (x374.2 || xc)), (2, .bool xc), (6, .pointer (some ⟨b203, 0, none⟩)), (14, .slice adxa_0 xa.length cpxa_0), (15, ii (((xa.length : Nat) : Int))), (16, ii i339), (20, .slice ad335 l334.length cp336), (22, ii x374.1)] ?_ ?_
     · rcases bt (x374.2) with hc386 | hc386
       · refine J.skip rfl rfl rfl rfl hc386 <| jv (.bool true) (V.pickT rfl hc386 rfl) <| J.nil ?_
         exact ⟨rfl, ⟨(by simp only [hc386]; rfl), rfl, rfl, rfl, rfl, rfl, rfl, rfl, trivial⟩, rfl, rfl⟩
       refine J.run rfl rfl rfl hc386 <| jm (.bool xc) rfl <| jv (.bool xc) (V.pickF rfl hc386 rfl) <| J.nil ?_
       exact ⟨rfl, ⟨(by simp only [hc386]; rfl), rfl, rfl, rfl, rfl, rfl, rfl, rfl, trivial⟩, rfl, rfl⟩
     intro ρ
     refine jv (.agg #[ii x374.1, .bool (x374.2 || xc)]) (V.build inf50 places50 rfl rfl) ?_
     refine J.op rfl (A.lit (K0 := Hp.nil) (ty := (.cons (.int .i64) (.one .bool))) (xs := ([(x374.1, x374.2 || xc)] : List (Int × Bool))) Try.underlying28 inf50 rfl (by decide) rfl rfl rfl ⟨_, _, rfl, ⟨_, _, rfl, rfl, rfl, rfl⟩, rfl⟩ rfl (by decide)) ?_
     rintro _ _ _ ⟨b387, rfl, rfl, rfl⟩
     have hn388 : ([(x374.1, x374.2 || xc)] : List (Int × Bool)) ≠ [] → ∃ g, (some ⟨b387, 0, none⟩ : Option Addr) = some ⟨g, 0, none⟩ := fun _ => ⟨b387, rfl⟩
     obtain ⟨z390, hz391, h369⟩ := ob h369
     refine J.front 2 rfl <| J.op rfl (A.appR (Kr := Hp.nil) Try.underlying28 inf50 rfl rfl (by decide) (by decide) rfl rfl (Els.flat rfl) (Els.flat rfl) hz391) ?_
     rintro _ _ _ ⟨v392, rfl, rfl, rfl⟩
     refine J.wit Row.form ?_
     rintro ⟨ad393, cp394, rfl, _, _, hn395⟩
     refine ja (.slice ad393 z390.length cp394) rfl <| J.nil <| CJ.region <| jv (ii (IntKind.wrap .i64 (i339 + 1))) (V.add rfl rfl) <| jm (ii (IntKind.wrap .i64 (i339 + 1))) rfl <| J.dropAt 1 rfl <| J.front 1 rfl ?_
     refine J.nil ?_
     obtain rfl := si h369
     exact ⟨rfl, ⟨z390, IntKind.wrap .i64 (i339 + 1), ad393, cp394, rfl, ⟨rfl, rfl, rfl, rfl, rfl, rfl, trivial⟩, rfl, rfl⟩⟩
   refine CJ.front 1 rfl <| CJ.exit ?_
   obtain rfl := si h369
   refine ⟨nofun, fun e => ?_⟩
   subst e
   exact ⟨rfl, ⟨l334, ad335, cp336, rfl, ⟨rfl, rfl, trivial⟩, rfl, rfl⟩⟩
 rintro ρ _ _ ⟨l298, ad299, cp300, rfl, hf396, rfl, rfl⟩
 obtain ⟨ρ, rfl⟩ := hf396.ex
 refine PJ.front 1 rfl <| PJ.wit Row.hn fun hn302 => PJ.done <| cr <| jm (.slice ad299 l298.length cp300) rfl <| jv (.agg #[.slice ad299 l298.length cp300]) (V.build inf30 places30 rfl rfl) ?_
 refine J.front 1 rfl <| js [.slice ad299 l298.length cp300] sz30 rfl rfl rfl rfl rfl rfl <| J.nil <| CJ.ret ?_
 obtain rfl := si h
 exact ⟨_, _, Res.one rfl ⟨_, _, rfl, Ld.agg (cs := [.slice ad299 l298.length cp300]) Try.underlying30 sz30 rfl (Rd.cls 0 0 rfl rfl)⟩, ⟨l298, ad299, cp300, rfl, rfl, rfl⟩, (Hp.le_refl _), fun w hs => (Sep.dropAt 0 rfl hs)⟩

noncomputable def fn_relate_Loan (xa : (List (Int × Bool))) (xb : (List (Int × Bool))) (xc : Int) (xd : Bool) : Option (((List (Int × Int × Int × Int × Bool)) × Int)) :=
  (fn_row_Ref xa xc xd).bind fun l121 => (fn_row_Shape xb l121).bind fun t134 => cond (!t134) (some (([], 8))) ((getI xb 0).bind fun x140 => (subL xb 1 (((xb.length : Nat) : Int))).bind fun y168 => (fn_relate_related xa y168 1 1).bind fun l176 => (app (([(xc, x140.1, 2, 0, false)] : List (Int × Int × Int × Int × Bool))) l176).bind fun z184 => some ((z184, 0)))
set_option maxRecDepth 100000 in
set_option maxHeartbeats 4000000 in
theorem relate_Loan_ok {K : Hp} {xa : (List (Int × Bool))} {xb : (List (Int × Bool))} {xc : Int} {xd : Bool} {adxa_0 : Option Addr} {cpxa_0 : Nat} {adxb_0 : Option Addr} {cpxb_0 : Nat} (fxa_0 : Is K (.sl (.cons (.int .i64) (.one .bool))) [.slice adxa_0 xa.length cpxa_0] xa) (fxb_0 : Is K (.sl (.cons (.int .i64) (.one .bool))) [.slice adxb_0 xb.length cpxb_0] xb) {r : ((List (Int × Int × Int × Int × Bool)) × Int)} (h : fn_relate_Loan xa xb xc xd = some r) :
    Tr Try.prog 54 #[.agg #[.slice adxa_0 xa.length cpxa_0], .agg #[.slice adxb_0 xb.length cpxb_0], ii xc, .bool xd] K [] (fun v K' L' => (∃ (l92 : (List (Int × Int × Int × Int × Bool))) (i97 : Int) (ad93 : Option Addr) (cp94 : Nat), (l92, i97) = r ∧ .tuple #[.slice ad93 l92.length cp94, ii i97] = v ∧ L' = [Row Hp.nil 93 (.cons (.int .i64) (.cons (.int .i64) (.cons (.int .i64) (.cons (.int .i64) (.one .bool))))) (.slice ad93 l92.length cp94) l92]) ∧ K = K') := by
 refine Tr.k <| Tr.of Try.func54 rfl Try.ntmps54 rfl fun E F => ?_
 unfold fn_relate_Loan at h
 refine cr <| jbx [.slice adxa_0 xa.length cpxa_0] rfl rfl fun b98 => jbx [.slice adxb_0 xb.length cpxb_0] rfl rfl fun b99 => ja (nos) rfl <| ja (ii 0) rfl <| J.nil ?_
 refine CJ.seq <| CJ.seq <| CJ.mix [Cl b99 30 [.slice adxb_0 xb.length cpxb_0], Cl b98 30 [.slice adxa_0 xa.length cpxa_0]] [([0, 1, 2, 3], 4), ([], 5)] [6] [] mixO (by decide +kernel) ⟨0, rfl, 0, rfl, trivial⟩ rfl rfl rfl <| JM.cons <| qv (.agg #[.slice adxb_0 xb.length cpxb_0]) (V.ld rfl (Ld.agg (cs := [.slice adxb_0 xb.length cpxb_0]) Try.underlying30 sz30 rfl (Rd.cls 0 0 rfl rfl))) <| qv (.agg #[.slice adxa_0 xa.length cpxa_0]) (V.ld rfl (Ld.agg (cs := [.slice adxa_0 xa.length cpxa_0]) Try.underlying30 sz30 rfl (Rd.cls 1 0 rfl rfl))) <| qm (ii xc) rfl ?_
 refine qm (.bool xd) rfl <| JQ.nil ?_
 obtain ⟨r119, hr120, h⟩ := ob h
 refine JA.op rfl (A.call (L1 := []) Try.call70 rfl (row_Ref_ok fxa_0 hr120) rfl rfl) ?_
 rintro _ _ _ ⟨v125, _, rfl, ⟨⟨l121, ad122, cp123, rfl, rfl, rfl⟩, rfl⟩, _, rfl⟩
 refine ⟨fun w hs => Hold.sub (Hp.le_refl _) ⟨1, rfl, 1, rfl, trivial⟩ hs, ?_⟩
 refine JM.wit Row.hn fun hn124 => JM.cons <| JQ.nil ?_
 obtain ⟨r129, hr130, h⟩ := ob h
 refine JA.op rfl (A.call (L1 := [Row Hp.nil 50 (.cons (.int .i64) (.one .bool)) (.slice ad122 l121.length cp123) l121]) Try.call63 rfl (Tr.lend (Hp.nil_le _) (by decide) (fun K131 hK132 f133 => row_Shape_ok (fxb_0.mono hK132) f133 hr130)) rfl rfl) ?_
 rintro _ _ _ ⟨v135, _, rfl, ⟨⟨_, ⟨t134, rfl, rfl, rfl⟩, rfl⟩, rfl⟩, _, rfl⟩
 refine ⟨fun w hs => Hold.sub (Hp.le_refl _) ⟨1, rfl, 1, rfl, trivial⟩ hs, ?_⟩
 refine JM.nil <| qv (.bool (!t134)) (V.not rfl) <| JQ.nil <| J.nil <| cc rfl h (fun hc138 h => ?_) fun hc138 h => ?_
 · refine cr <| ja (nos) rfl <| ja (ii 8) rfl <| J.nil <| CJ.by (fun w hs => Sep.rowNil (e := 93) (t := (.cons (.int .i64) (.cons (.int .i64) (.cons (.int .i64) (.cons (.int .i64) (.one .bool)))))) hs) <| CJ.ret ?_
   obtain rfl := si h
   exact ⟨_, _, Res.two rfl rfl rfl, ⟨[], 8, none, 0, rfl, rfl, rfl⟩, (Hp.le_refl _), fun w hs => (Sep.dropAt 1 rfl (Sep.dropAt 1 rfl (Sep.dropAt 1 rfl hs)))⟩
 refine CJ.skip <| cr <| jm (ii xc) rfl <| jv _ (V.fad Try.underlying30 rfl nz28 rfl) <| jv (.slice adxb_0 xb.length cpxb_0) (V.ld rfl (Ld.sc sc28 (Rd.cl 1 rfl rfl))) ?_
 obtain ⟨x140, hx141, h⟩ := ob h
 obtain ⟨p142, p143, p144⟩ := getI_some hx141
 obtain ⟨b145, o146, e147, a148⟩ := (fxb_0).at p143
 refine jv _ (V.iad Try.underlying28 sz50 rfl e147 rfl p142 p144) <| jv _ (V.fad Try.underlying50 rfl nz3 rfl) <| jv (ii x140.1) (V.ld rfl (Ld.sc sc3 (Rd.k ((a148).fst).int (Hp.le_refl _)))) <| jv (.agg #[ii xc, ii x140.1, ii 2, ii 0, .bool false]) (V.build inf93 places93 rfl rfl) ?_
 refine J.op rfl (A.lit (K0 := Hp.nil) (ty := (.cons (.int .i64) (.cons (.int .i64) (.cons (.int .i64) (.cons (.int .i64) (.one .bool)))))) (xs := ([(xc, x140.1, 2, 0, false)] : List (Int × Int × Int × Int × Bool))) Try.underlying90 inf93 rfl (by decide) rfl rfl rfl ⟨_, _, rfl, ⟨_, _, rfl, rfl, rfl, ⟨_, _, rfl, rfl, rfl, ⟨_, _, rfl, rfl, rfl, ⟨_, _, rfl, rfl, rfl, rfl⟩⟩⟩⟩, rfl⟩ rfl (by decide)) ?_
 rintro _ _ _ ⟨b149, rfl, rfl, rfl⟩
 have hn150 : ([(xc, x140.1, 2, 0, false)] : List (Int × Int × Int × Int × Bool)) ≠ [] → ∃ g, (some ⟨b149, 0, none⟩ : Option Addr) = some ⟨g, 0, none⟩ := fun _ => ⟨b149, rfl⟩
 refine ja (.slice (some ⟨b149, 0, none⟩) ((([(xc, x140.1, 2, 0, false)] : List (Int × Int × Int × Int × Bool))).length) 1) rfl <| J.nil <| CJ.seq <| CJ.mix [Row Hp.nil 93 (.cons (.int .i64) (.cons (.int .i64) (.cons (.int .i64) (.cons (.int .i64) (.one .bool))))) (.slice (some ⟨b149, 0, none⟩) ((([(xc, x140.1, 2, 0, false)] : List (Int × Int × Int × Int × Bool))).length) 1) (([(xc, x140.1, 2, 0, false)] : List (Int × Int × Int × Int × Bool))), Row Hp.nil 50 (.cons (.int .i64) (.one .bool)) (.slice ad122 l121.length cp123) l121, Cl b99 30 [.slice adxb_0 xb.length cpxb_0], Cl b98 30 [.slice adxa_0 xa.length cpxa_0]] [([0, 1, 2, 3, 4, 5], 6)] [] [7, 8, 9] mixO (by decide +kernel) ⟨0, rfl, 0, rfl, 0, rfl, 0, rfl, trivial⟩ rfl rfl rfl <| JM.cons <| qm (.slice (some ⟨b149, 0, none⟩) ((([(xc, x140.1, 2, 0, false)] : List (Int × Int × Int × Int × Bool))).length) 1) rfl <| qv _ (V.fad Try.underlying30 rfl nz28 rfl) ?_
 refine qv (.slice adxa_0 xa.length cpxa_0) (V.ld rfl (Ld.sc sc28 (Rd.cl 3 rfl rfl))) <| qv _ (V.fad Try.underlying30 rfl nz28 rfl) <| qv (.slice adxb_0 xb.length cpxb_0) (V.ld rfl (Ld.sc sc28 (Rd.cl 2 rfl rfl))) ?_
 obtain ⟨y168, hy169, h⟩ := ob h
 obtain ⟨ad170, cp171, hv172, f173⟩ := V.subI (tp := (.cons (.int .i64) (.one .bool))) Try.underlying28 sz50 fxb_0 hy169
 refine qv (.slice ad170 y168.length cp171) (hv172 rfl (fun _ h => by cases h; exact ⟨_, rfl⟩) nofun nofun (fun _ => rfl)) <| JQ.nil ?_
 obtain ⟨r174, hr175, h⟩ := ob h
 refine JA.op rfl (A.call (L1 := []) Try.call69 rfl (relate_related_ok fxa_0 f173 hr175) rfl rfl) ?_
 rintro _ _ _ ⟨v180, _, rfl, ⟨⟨l176, ad177, cp178, rfl, rfl, rfl⟩, rfl⟩, _, rfl⟩
 refine ⟨fun w hs => Hold.sub (Hp.le_refl _) ⟨1, rfl, 1, rfl, 1, rfl, 1, rfl, trivial⟩ hs, ?_⟩
 refine JM.wit Row.hn fun hn179 => JM.nil <| JQ.nil ?_
 obtain ⟨z184, hz185, h⟩ := ob h
 refine J.front 1 rfl <| J.op rfl (A.appR (Kr := Hp.nil) Try.underlying90 inf93 rfl rfl (by decide) (by decide) rfl rfl (Els.flat rfl) (Els.flat rfl) hz185) ?_
 rintro _ _ _ ⟨v186, rfl, rfl, rfl⟩
 refine J.wit Row.form ?_
 rintro ⟨ad187, cp188, rfl, _, _, hn189⟩
 refine ja (.slice ad187 z184.length cp188) rfl <| ja (ii 0) rfl <| J.nil <| CJ.ret ?_
 obtain rfl := si h
 exact ⟨_, _, Res.two rfl rfl rfl, ⟨z184, 0, ad187, cp188, rfl, rfl, rfl⟩, (Hp.le_refl _), fun w hs => (Sep.dropAt 1 rfl (Sep.dropAt 1 rfl (Sep.dropAt 1 rfl hs)))⟩

noncomputable def fn_relate_mayBorrowAgain_1 (xa : (Int × Bool)) : Option Bool :=
  some (!xa.2)
set_option maxRecDepth 100000 in
set_option maxHeartbeats 4000000 in
theorem relate_mayBorrowAgain_1_ok {K : Hp} {xa : (Int × Bool)}   {r : Bool} (h : fn_relate_mayBorrowAgain_1 xa = some r) :
    Tr Try.prog 84 #[.agg #[ii xa.1, .bool xa.2]] K [] (fun v K' L' => (∃ (t2 : Bool), t2 = r ∧ .bool t2 = v ∧ L' = []) ∧ K = K') := by
 refine Tr.k <| Tr.of Try.func84 rfl Try.ntmps84 rfl fun E F => ?_
 unfold fn_relate_mayBorrowAgain_1 at h
 refine cr <| jbx [ii xa.1, .bool xa.2] rfl rfl fun b3 => ja (.bool false) rfl <| J.nil <| CJ.seq <| CJ.region ?_
 refine jv _ (V.fad Try.underlying50 rfl nz4 rfl) <| jv (.bool xa.2) (V.ld rfl (Ld.sc sc4 (Rd.cl 0 rfl rfl))) <| jv (.bool (!xa.2)) (V.not rfl) <| ja (.bool (!xa.2)) rfl <| J.nil <| CJ.ret ?_
 obtain rfl := si h
 exact ⟨_, _, Res.one rfl rfl, ⟨!xa.2, rfl, rfl, rfl⟩, (Hp.le_refl _), fun w hs => (Sep.dropAt 0 rfl hs)⟩
noncomputable def fn_slices_IndexFunc_api_Slot_api_Slot_k_relate_mayBorrowAgain_1_l1 (xa : (List (Int × Bool))) : Int → Option (Int ⊕ (Unit ⊕ Int)) := fun (i201 : Int) => cond (decide (i201 < (((xa.length : Nat) : Int)))) ((getI xa i201).bind fun x225 => (fn_relate_mayBorrowAgain_1 (x225.1, x225.2)).bind fun t236 => cond (t236) (some (.inr ((.inr (i201))))) (some (.inl (IntKind.wrap .i64 (i201 + 1))))) (some (.inr ((.inl ()))))
noncomputable def fn_slices_IndexFunc_api_Slot_api_Slot_k_relate_mayBorrowAgain_1 (xa : (List (Int × Bool))) : Option Int :=
  (loop (fn_slices_IndexFunc_api_Slot_api_Slot_k_relate_mayBorrowAgain_1_l1 xa) 0 : Option (Unit ⊕ Int)).bind fun o => match o with | .inr r => some r | .inl () => some ((-1))
set_option maxRecDepth 100000 in
set_option maxHeartbeats 4000000 in
theorem slices_IndexFunc_api_Slot_api_Slot_k_relate_mayBorrowAgain_1_ok {K : Hp} {xa : (List (Int × Bool))} {adxa_0 : Option Addr} {cpxa_0 : Nat} (fxa_0 : Is K (.sl (.cons (.int .i64) (.one .bool))) [.slice adxa_0 xa.length cpxa_0] xa) {r : Int} (h : fn_slices_IndexFunc_api_Slot_api_Slot_k_relate_mayBorrowAgain_1 xa = some r) :
    Tr Try.prog 89 #[.slice adxa_0 xa.length cpxa_0, .func (.func 84) #[] #[]] K [] (fun v K' L' => (∃ (i122 : Int), i122 = r ∧ ii i122 = v ∧ L' = []) ∧ K = K') := by
 refine Tr.k <| Tr.of Try.func89 rfl Try.ntmps89 rfl fun E F => ?_
 unfold fn_slices_IndexFunc_api_Slot_api_Slot_k_relate_mayBorrowAgain_1 at h
 refine cr <| ja (ii 0) rfl <| J.nil <| CJ.seq <| CJ.seq <| CJ.region ?_
 refine jm (.slice adxa_0 xa.length cpxa_0) rfl <| jv (ii (((xa.length : Nat) : Int))) (V.len Try.underlying28 rfl) <| jm (ii 0) rfl <| J.nil ?_
 obtain ⟨o181, ho182, h⟩ := ob h
 refine CJ.joinN (o := o181) (fun s ρ K' L' => () = s ∧ Fits [] ρ ∧ K = K' ∧ F = L') ?_ ?_
 · refine CJ.block <| CJ.loop (fun s ρ K' L' => ∃ (i201 : Int), i201 = s ∧ Fits [(0, .slice adxa_0 xa.length cpxa_0), (1, .func (.func 84) #[] #[]), (7, ii (((xa.length : Nat) : Int))), (8, ii i201)] ρ ∧ K = K' ∧ F = L') ho182 ⟨0, rfl, ⟨rfl, rfl, rfl, rfl, trivial⟩, rfl, rfl⟩ ?_
   rintro s ρ _ _ r223 ⟨i201, rfl, hf221, rfl, rfl⟩ h220
   obtain ⟨ρ, rfl⟩ := hf221.ex
   refine cr <| jv (.bool (decide (i201 < (((xa.length : Nat) : Int))))) (V.lss rfl rfl) <| J.nil <| CJ.seq <| cc rfl h220 (fun hc224 h220 => ?_) fun hc224 h220 => ?_
   · refine CJ.skip <| CJ.seq <| CJ.block <| cr <| jm (ii i201) rfl <| ja (ii i201) rfl ?_
     refine J.nil <| cr <| jm (.func (.func 84) #[] #[]) rfl <| jm (.slice adxa_0 xa.length cpxa_0) rfl <| jm (ii i201) rfl ?_
     obtain ⟨x225, hx226, h220⟩ := ob h220
     obtain ⟨p227, p228, p229⟩ := getI_some hx226
     obtain ⟨b230, o231, e232, a233⟩ := (fxa_0).at p228
     refine jv _ (V.iad Try.underlying28 sz50 rfl e232 rfl p227 p229) <| jv (.agg #[ii x225.1, .bool x225.2]) (V.ld rfl (Ld.aggK (cs := [ii x225.1, .bool x225.2]) Try.underlying50 sz50 rfl ⟨((a233).fst).int, (((a233).snd).one).bool, trivial⟩ (Hp.le_refl _))) ?_
     obtain ⟨r234, hr235, h220⟩ := ob h220
     refine J.op rfl (A.call (L1 := []) Try.call84 rfl (relate_mayBorrowAgain_1_ok hr235) rfl rfl) ?_
     rintro _ _ _ ⟨v237, _, rfl, ⟨⟨t236, rfl, rfl, rfl⟩, rfl⟩, _, rfl⟩
     refine J.nil <| cc rfl h220 (fun hc240 h220 => ?_) fun hc240 h220 => ?_
     · refine cr <| jm (ii i201) rfl <| ja (ii i201) rfl <| J.nil <| CJ.ret ?_
       obtain rfl := si h220
       refine ⟨nofun, fun e => ?_⟩
       subst e
       refine .inr ⟨nofun, ?_⟩
       obtain rfl := si h
       exact ⟨_, _, Res.one rfl rfl, ⟨i201, rfl, rfl, rfl⟩, (Hp.le_refl _), fun w hs => hs⟩
     refine CJ.skip <| CJ.region <| jv (ii (IntKind.wrap .i64 (i201 + 1))) (V.add rfl rfl) <| jm (ii (IntKind.wrap .i64 (i201 + 1))) rfl <| J.nil ?_
     obtain rfl := si h220
     exact ⟨rfl, ⟨IntKind.wrap .i64 (i201 + 1), rfl, ⟨rfl, rfl, rfl, rfl, trivial⟩, rfl, rfl⟩⟩
   refine CJ.exit ?_
   obtain rfl := si h220
   refine ⟨nofun, fun e => ?_⟩
   subst e
   exact .inl ⟨rfl, _, rfl, ⟨rfl, trivial, rfl, rfl⟩⟩
 rintro s ρ _ _ ho241 ⟨rfl, hf242, rfl, rfl⟩
 subst ho241
 obtain ⟨ρ, rfl⟩ := hf242.ex
 refine PJ.done <| cr <| ja (ii (-1)) rfl <| J.nil <| CJ.ret ?_
 obtain rfl := si h
 exact ⟨_, _, Res.one rfl rfl, ⟨(-1), rfl, rfl, rfl⟩, (Hp.le_refl _), fun w hs => hs⟩

noncomputable def fn_slices_ContainsFunc_api_Slot_api_Slot_k_relate_mayBorrowAgain_1 (xa : (List (Int × Bool))) : Option Bool :=
  (fn_slices_IndexFunc_api_Slot_api_Slot_k_relate_mayBorrowAgain_1 xa).bind fun i10 => some (decide (0 ≤ i10))
set_option maxRecDepth 100000 in
set_option maxHeartbeats 4000000 in
theorem slices_ContainsFunc_api_Slot_api_Slot_k_relate_mayBorrowAgain_1_ok {K : Hp} {xa : (List (Int × Bool))} {adxa_0 : Option Addr} {cpxa_0 : Nat} (fxa_0 : Is K (.sl (.cons (.int .i64) (.one .bool))) [.slice adxa_0 xa.length cpxa_0] xa) {r : Bool} (h : fn_slices_ContainsFunc_api_Slot_api_Slot_k_relate_mayBorrowAgain_1 xa = some r) :
    Tr Try.prog 83 #[.slice adxa_0 xa.length cpxa_0, .func (.func 84) #[] #[]] K [] (fun v K' L' => (∃ (t7 : Bool), t7 = r ∧ .bool t7 = v ∧ L' = []) ∧ K = K') := by
 refine Tr.k <| Tr.of Try.func83 rfl Try.ntmps83 rfl fun E F => ?_
 unfold fn_slices_ContainsFunc_api_Slot_api_Slot_k_relate_mayBorrowAgain_1 at h
 refine cr <| ja (.bool false) rfl <| J.nil <| cr <| jm (.slice adxa_0 xa.length cpxa_0) rfl ?_
 refine jm (.func (.func 84) #[] #[]) rfl ?_
 obtain ⟨r8, hr9, h⟩ := ob h
 refine J.op rfl (A.call (L1 := []) Try.call89 rfl (slices_IndexFunc_api_Slot_api_Slot_k_relate_mayBorrowAgain_1_ok fxa_0 hr9) rfl rfl) ?_
 rintro _ _ _ ⟨v11, _, rfl, ⟨⟨i10, rfl, rfl, rfl⟩, rfl⟩, _, rfl⟩
 refine jv (.bool (decide (0 ≤ i10))) (V.geq rfl rfl) <| ja (.bool (decide (0 ≤ i10))) rfl <| J.nil <| CJ.ret ?_
 obtain rfl := si h
 exact ⟨_, _, Res.one rfl rfl, ⟨decide (0 ≤ i10), rfl, rfl, rfl⟩, (Hp.le_refl _), fun w hs => hs⟩

noncomputable def fn_relate_mayBorrowAgain (xa : (List (Int × Bool))) (xb : (List (Int × Bool))) (xc : Bool) : Option Bool :=
  (cond (decide ((((xa.length : Nat) : Int)) = 0)) (some (true)) ((getI xa 0).bind fun x73 => some (x73.2))).bind fun t70 => (cond (t70) (some (true)) ((fn_row_Shape xa xb).bind fun t94 => some (!t94))).bind fun t89 => cond (t89) (some (false)) ((subL xa 1 (((xa.length : Nat) : Int))).bind fun y99 => (fn_slices_ContainsFunc_api_Slot_api_Slot_k_relate_mayBorrowAgain_1 y99).bind fun t107 => some ((!xc) || (!t107)))
set_option maxRecDepth 100000 in
set_option maxHeartbeats 4000000 in
theorem relate_mayBorrowAgain_ok {K : Hp} {xa : (List (Int × Bool))} {xb : (List (Int × Bool))} {xc : Bool} {adxa_0 : Option Addr} {cpxa_0 : Nat} {adxb_0 : Option Addr} {cpxb_0 : Nat} (fxa_0 : Is K (.sl (.cons (.int .i64) (.one .bool))) [.slice adxa_0 xa.length cpxa_0] xa) (fxb_0 : Is K (.sl (.cons (.int .i64) (.one .bool))) [.slice adxb_0 xb.length cpxb_0] xb) {r : Bool} (h : fn_relate_mayBorrowAgain xa xb xc = some r) :
    Tr Try.prog 71 #[.agg #[.slice adxa_0 xa.length cpxa_0], .agg #[.slice adxb_0 xb.length cpxb_0], .bool xc] K [] (fun v K' L' => (∃ (t57 : Bool), t57 = r ∧ .bool t57 = v ∧ L' = []) ∧ K = K') := by
 refine Tr.k <| Tr.of Try.func71 rfl Try.ntmps71 rfl fun E F => ?_
 unfold fn_relate_mayBorrowAgain at h
 refine cr <| jbx [.slice adxa_0 xa.length cpxa_0] rfl rfl fun b58 => jbx [.slice adxb_0 xb.length cpxb_0] rfl rfl fun b59 => ja (.bool false) rfl <| J.nil <| CJ.seq ?_
 refine cr <| jv _ (V.fad Try.underlying30 rfl nz28 rfl) <| jv (.slice adxa_0 xa.length cpxa_0) (V.ld rfl (Ld.sc sc28 (Rd.cl 1 rfl rfl))) <| jv (ii (((xa.length : Nat) : Int))) (V.len Try.underlying28 rfl) <| jv (.bool (decide ((((xa.length : Nat) : Int)) = 0))) (V.eql rfl rfl) <| jm (.bool (decide ((((xa.length : Nat) : Int)) = 0))) rfl ?_
 refine J.cut 6 ?_
 obtain ⟨t70, ht71, h⟩ := ob h
 refine jmeet [(18, .bool t70), (2, .bool xc), (3, .pointer (some ⟨b58, 0, none⟩)), (4, .pointer (some ⟨b59, 0, none⟩))] ?_ ?_
 · rcases bt (decide ((((xa.length : Nat) : Int)) = 0)) with hc72 | hc72
   · have ht71 := ct hc72 ht71
     refine J.skip rfl rfl rfl rfl hc72 <| J.skip rfl rfl rfl rfl hc72 <| J.skip rfl rfl rfl rfl hc72 <| J.skip rfl rfl rfl rfl hc72 <| J.skip rfl rfl rfl rfl hc72 <| jv (.bool true) (V.pickT rfl hc72 rfl) <| J.nil ?_
     obtain rfl := si ht71
     exact ⟨rfl, ⟨rfl, rfl, rfl, rfl, trivial⟩, rfl, rfl⟩
   have ht71 := cf hc72 ht71
   refine J.run rfl rfl rfl hc72 <| jv _ (V.fad Try.underlying30 rfl nz28 rfl) <| J.run rfl rfl rfl hc72 <| jv (.slice adxa_0 xa.length cpxa_0) (V.ld rfl (Ld.sc sc28 (Rd.cl 1 rfl rfl))) <| J.run rfl rfl rfl hc72 ?_
   obtain ⟨x73, hx74, ht71⟩ := ob ht71
   obtain ⟨p75, p76, p77⟩ := getI_some hx74
   obtain ⟨b78, o79, e80, a81⟩ := (fxa_0).at p76
   refine jv _ (V.iad Try.underlying28 sz50 rfl e80 rfl p75 p77) <| J.run rfl rfl rfl hc72 <| jv _ (V.fad Try.underlying50 rfl nz4 rfl) <| J.run rfl rfl rfl hc72 <| jv (.bool x73.2) (V.ld rfl (Ld.sc sc4 (Rd.k (((a81).snd).one).bool (Hp.le_refl _)))) <| jv (.bool x73.2) (V.pickF rfl hc72 rfl) <| J.nil ?_
   obtain rfl := si ht71
   exact ⟨rfl, ⟨rfl, rfl, rfl, rfl, trivial⟩, rfl, rfl⟩
 intro ρ
 refine jm (.bool t70) rfl <| J.cut 5 ?_
 obtain ⟨t89, ht90, h⟩ := ob h
 refine jmeet [(24, .bool t89), (2, .bool xc), (3, .pointer (some ⟨b58, 0, none⟩))] ?_ ?_
 · rcases bt (t70) with hc91 | hc91
   · have ht90 := ct hc91 ht90
     refine J.skip rfl rfl rfl rfl hc91 <| J.skip rfl rfl rfl rfl hc91 <| J.skip rfl rfl rfl rfl hc91 <| J.skip rfl rfl rfl rfl hc91 <| jv (.bool true) (V.pickT rfl hc91 rfl) <| J.nil ?_
     obtain rfl := si ht90
     exact ⟨rfl, ⟨rfl, rfl, rfl, trivial⟩, rfl, rfl⟩
   have ht90 := cf hc91 ht90
   refine J.run rfl rfl rfl hc91 <| jv (.agg #[.slice adxa_0 xa.length cpxa_0]) (V.ld rfl (Ld.agg (cs := [.slice adxa_0 xa.length cpxa_0]) Try.underlying30 sz30 rfl (Rd.cls 1 0 rfl rfl))) <| J.run rfl rfl rfl hc91 <| jv (.agg #[.slice adxb_0 xb.length cpxb_0]) (V.ld rfl (Ld.agg (cs := [.slice adxb_0 xb.length cpxb_0]) Try.underlying30 sz30 rfl (Rd.cls 0 0 rfl rfl))) <| J.run rfl rfl rfl hc91 ?_
   obtain ⟨r92, hr93, ht90⟩ := ob ht90
   refine J.op rfl (A.call (L1 := []) Try.call63 rfl (row_Shape_ok fxa_0 fxb_0 hr93) rfl rfl) ?_
   rintro _ _ _ ⟨v95, _, rfl, ⟨⟨t94, rfl, rfl, rfl⟩, rfl⟩, _, rfl⟩
   refine J.run rfl rfl rfl hc91 <| jv (.bool (!t94)) (V.not rfl) <| jv (.bool (!t94)) (V.pickF rfl hc91 rfl) <| J.nil ?_
   obtain rfl := si ht90
   exact ⟨rfl, ⟨rfl, rfl, rfl, trivial⟩, rfl, rfl⟩
 intro ρ
 refine J.nil <| cc rfl h (fun hc98 h => ?_) fun hc98 h => ?_
 · refine cr <| ja (.bool false) rfl <| J.nil <| CJ.ret ?_
   obtain rfl := si h
   exact ⟨_, _, Res.one rfl rfl, ⟨false, rfl, rfl, rfl⟩, (Hp.le_refl _), fun w hs => (Sep.dropAt 0 rfl (Sep.dropAt 0 rfl hs))⟩
 refine CJ.skip <| cr <| jv _ (V.fad Try.underlying30 rfl nz28 rfl) <| jv (.slice adxa_0 xa.length cpxa_0) (V.ld rfl (Ld.sc sc28 (Rd.cl 1 rfl rfl))) ?_
 obtain ⟨y99, hy100, h⟩ := ob h
 obtain ⟨ad101, cp102, hv103, f104⟩ := V.subI (tp := (.cons (.int .i64) (.one .bool))) Try.underlying28 sz50 fxa_0 hy100
 refine jv (.slice ad101 y99.length cp102) (hv103 rfl (fun _ h => by cases h; exact ⟨_, rfl⟩) nofun nofun (fun _ => rfl)) ?_
 obtain ⟨r105, hr106, h⟩ := ob h
 refine J.op rfl (A.call (L1 := []) Try.call83 rfl (slices_ContainsFunc_api_Slot_api_Slot_k_relate_mayBorrowAgain_1_ok f104 hr106) rfl rfl) ?_
 rintro _ _ _ ⟨v108, _, rfl, ⟨⟨t107, rfl, rfl, rfl⟩, rfl⟩, _, rfl⟩
 refine ja (.bool t107) rfl <| J.nil <| cr <| jm (.bool xc) rfl <| jv (.bool (!xc)) (V.not rfl) <| jm (.bool (!xc)) rfl ?_
 refine J.cut 3 <| jmeet [(34, .bool ((!xc) || (!t107)))] ?_ ?_
 · rcases bt (!xc) with hc113 | hc113
   · refine J.skip rfl rfl rfl rfl hc113 <| J.skip rfl rfl rfl rfl hc113 <| jv (.bool true) (V.pickT rfl hc113 rfl) <| J.nil ?_
     exact ⟨rfl, ⟨(by simp only [hc113]; rfl), trivial⟩, rfl, rfl⟩
   refine J.run rfl rfl rfl hc113 <| jm (.bool t107) rfl <| J.run rfl rfl rfl hc113 <| jv (.bool (!t107)) (V.not rfl) <| jv (.bool (!t107)) (V.pickF rfl hc113 rfl) <| J.nil ?_
   exact ⟨rfl, ⟨(by simp only [hc113]; rfl), trivial⟩, rfl, rfl⟩
 intro ρ
 refine ja (.bool ((!xc) || (!t107))) rfl <| J.nil <| CJ.ret ?_
 obtain rfl := si h
 exact ⟨_, _, Res.one rfl rfl, ⟨(!xc) || (!t107), rfl, rfl, rfl⟩, (Hp.le_refl _), fun w hs => (Sep.dropAt 0 rfl (Sep.dropAt 0 rfl hs))⟩

noncomputable def fn_relate_Again (xa : (List (Int × Bool))) (xb : (List (Int × Bool))) (xc : Int) (xd : Bool) : Option (((List (Int × Int × Int × Int × Bool)) × Int)) :=
  (fn_relate_mayBorrowAgain xa xb xd).bind fun t112 => cond (!t112) (some (([], 8))) ((getI xa 0).bind fun x139 => (getI xb 0).bind fun x148 => (subL xa 1 (((xa.length : Nat) : Int))).bind fun y182 => (subL xb 1 (((xb.length : Nat) : Int))).bind fun y188 => (fn_relate_related y182 y188 1 1).bind fun l196 => (app (([(x139.1, xc, 3, 0, false), (xc, x148.1, 2, 0, false)] : List (Int × Int × Int × Int × Bool))) l196).bind fun z204 => some ((z204, 0)))
set_option maxRecDepth 100000 in
set_option maxHeartbeats 4000000 in
theorem relate_Again_ok {K : Hp} {xa : (List (Int × Bool))} {xb : (List (Int × Bool))} {xc : Int} {xd : Bool} {adxa_0 : Option Addr} {cpxa_0 : Nat} {adxb_0 : Option Addr} {cpxb_0 : Nat} (fxa_0 : Is K (.sl (.cons (.int .i64) (.one .bool))) [.slice adxa_0 xa.length cpxa_0] xa) (fxb_0 : Is K (.sl (.cons (.int .i64) (.one .bool))) [.slice adxb_0 xb.length cpxb_0] xb) {r : ((List (Int × Int × Int × Int × Bool)) × Int)} (h : fn_relate_Again xa xb xc xd = some r) :
    Tr Try.prog 55 #[.agg #[.slice adxa_0 xa.length cpxa_0], .agg #[.slice adxb_0 xb.length cpxb_0], ii xc, .bool xd] K [] (fun v K' L' => (∃ (l102 : (List (Int × Int × Int × Int × Bool))) (i107 : Int) (ad103 : Option Addr) (cp104 : Nat), (l102, i107) = r ∧ .tuple #[.slice ad103 l102.length cp104, ii i107] = v ∧ L' = [Row Hp.nil 93 (.cons (.int .i64) (.cons (.int .i64) (.cons (.int .i64) (.cons (.int .i64) (.one .bool))))) (.slice ad103 l102.length cp104) l102]) ∧ K = K') := by
 refine Tr.k <| Tr.of Try.func55 rfl Try.ntmps55 rfl fun E F => ?_
 unfold fn_relate_Again at h
 refine cr <| jbx [.slice adxa_0 xa.length cpxa_0] rfl rfl fun b108 => jbx [.slice adxb_0 xb.length cpxb_0] rfl rfl fun b109 => ja (nos) rfl <| ja (ii 0) rfl <| J.nil ?_
 refine CJ.seq <| cr <| jv (.agg #[.slice adxa_0 xa.length cpxa_0]) (V.ld rfl (Ld.agg (cs := [.slice adxa_0 xa.length cpxa_0]) Try.underlying30 sz30 rfl (Rd.cls 1 0 rfl rfl))) <| jv (.agg #[.slice adxb_0 xb.length cpxb_0]) (V.ld rfl (Ld.agg (cs := [.slice adxb_0 xb.length cpxb_0]) Try.underlying30 sz30 rfl (Rd.cls 0 0 rfl rfl))) <| jm (.bool xd) rfl ?_
 obtain ⟨r110, hr111, h⟩ := ob h
 refine J.op rfl (A.call (L1 := []) Try.call71 rfl (relate_mayBorrowAgain_ok fxa_0 fxb_0 hr111) rfl rfl) ?_
 rintro _ _ _ ⟨v113, _, rfl, ⟨⟨t112, rfl, rfl, rfl⟩, rfl⟩, _, rfl⟩
 refine jv (.bool (!t112)) (V.not rfl) <| J.nil <| cc rfl h (fun hc116 h => ?_) fun hc116 h => ?_
 · refine cr <| ja (nos) rfl <| ja (ii 8) rfl <| J.nil <| CJ.by (fun w hs => Sep.rowNil (e := 93) (t := (.cons (.int .i64) (.cons (.int .i64) (.cons (.int .i64) (.cons (.int .i64) (.one .bool)))))) hs) <| CJ.ret ?_
   obtain rfl := si h
   exact ⟨_, _, Res.two rfl rfl rfl, ⟨[], 8, none, 0, rfl, rfl, rfl⟩, (Hp.le_refl _), fun w hs => (Sep.dropAt 1 rfl (Sep.dropAt 1 rfl hs))⟩
 refine CJ.skip <| CJ.seq <| CJ.mix [Cl b109 30 [.slice adxb_0 xb.length cpxb_0], Cl b108 30 [.slice adxa_0 xa.length cpxa_0]] [([0, 1, 2, 3, 4, 5, 6, 7, 8, 9, 10, 11, 12, 13], 14)] [15] [] mixO (by decide +kernel) ⟨0, rfl, 0, rfl, trivial⟩ rfl rfl rfl <| JM.cons <| qv _ (V.fad Try.underlying30 rfl nz28 rfl) <| qv (.slice adxa_0 xa.length cpxa_0) (V.ld rfl (Ld.sc sc28 (Rd.cl 1 rfl rfl))) ?_
 obtain ⟨x139, hx140, h⟩ := ob h
 obtain ⟨p141, p142, p143⟩ := getI_some hx140
 obtain ⟨b144, o145, e146, a147⟩ := (fxa_0).at p142
 refine qv _ (V.iad Try.underlying28 sz50 rfl e146 rfl p141 p143) <| qv _ (V.fad Try.underlying50 rfl nz3 rfl) <| qv (ii x139.1) (V.ld rfl (Ld.sc sc3 (Rd.k ((a147).fst).int (Hp.le_refl _)))) <| qm (ii xc) rfl <| qv (.agg #[ii x139.1, ii xc, ii 3, ii 0, .bool false]) (V.build inf93 places93 rfl rfl) <| qm (ii xc) rfl <| qv _ (V.fad Try.underlying30 rfl nz28 rfl) ?_
 refine qv (.slice adxb_0 xb.length cpxb_0) (V.ld rfl (Ld.sc sc28 (Rd.cl 0 rfl rfl))) ?_
 obtain ⟨x148, hx149, h⟩ := ob h
 obtain ⟨p150, p151, p152⟩ := getI_some hx149
 obtain ⟨b153, o154, e155, a156⟩ := (fxb_0).at p151
 refine qv _ (V.iad Try.underlying28 sz50 rfl e155 rfl p150 p152) <| qv _ (V.fad Try.underlying50 rfl nz3 rfl) <| qv (ii x148.1) (V.ld rfl (Ld.sc sc3 (Rd.k ((a156).fst).int (Hp.le_refl _)))) <| qv (.agg #[ii xc, ii x148.1, ii 2, ii 0, .bool false]) (V.build inf93 places93 rfl rfl) <| JQ.nil ?_
 refine JA.op rfl (A.lit (K0 := Hp.nil) (ty := (.cons (.int .i64) (.cons (.int .i64) (.cons (.int .i64) (.cons (.int .i64) (.one .bool)))))) (xs := ([(x139.1, xc, 3, 0, false), (xc, x148.1, 2, 0, false)] : List (Int × Int × Int × Int × Bool))) Try.underlying90 inf93 rfl (by decide) rfl rfl rfl ⟨_, _, rfl, ⟨_, _, rfl, rfl, rfl, ⟨_, _, rfl, rfl, rfl, ⟨_, _, rfl, rfl, rfl, ⟨_, _, rfl, rfl, rfl, rfl⟩⟩⟩⟩, ⟨_, _, rfl, ⟨_, _, rfl, rfl, rfl, ⟨_, _, rfl, rfl, rfl, ⟨_, _, rfl, rfl, rfl, ⟨_, _, rfl, rfl, rfl, rfl⟩⟩⟩⟩, rfl⟩⟩ rfl (by decide)) ?_
 rintro _ _ _ ⟨b157, rfl, rfl, rfl⟩
 have hn158 : ([(x139.1, xc, 3, 0, false), (xc, x148.1, 2, 0, false)] : List (Int × Int × Int × Int × Bool)) ≠ [] → ∃ g, (some ⟨b157, 0, none⟩ : Option Addr) = some ⟨g, 0, none⟩ := fun _ => ⟨b157, rfl⟩
 refine ⟨fun w hs => Hold.sub (Hp.le_refl _) ⟨1, rfl, 1, rfl, trivial⟩ hs, ?_⟩
 refine JM.nil <| qa (.slice (some ⟨b157, 0, none⟩) ((([(x139.1, xc, 3, 0, false), (xc, x148.1, 2, 0, false)] : List (Int × Int × Int × Int × Bool))).length) 2) rfl <| JQ.nil <| J.nil <| CJ.seq <| CJ.mix [Row Hp.nil 93 (.cons (.int .i64) (.cons (.int .i64) (.cons (.int .i64) (.cons (.int .i64) (.one .bool))))) (.slice (some ⟨b157, 0, none⟩) ((([(x139.1, xc, 3, 0, false), (xc, x148.1, 2, 0, false)] : List (Int × Int × Int × Int × Bool))).length) 2) (([(x139.1, xc, 3, 0, false), (xc, x148.1, 2, 0, false)] : List (Int × Int × Int × Int × Bool))), Cl b109 30 [.slice adxb_0 xb.length cpxb_0], Cl b108 30 [.slice adxa_0 xa.length cpxa_0]] [([0, 1, 2, 3, 4, 5, 6], 7)] [] [8, 9, 10] mixO (by decide +kernel) ⟨0, rfl, 0, rfl, 0, rfl, trivial⟩ rfl rfl rfl <| JM.cons ?_
 refine qm (.slice (some ⟨b157, 0, none⟩) ((([(x139.1, xc, 3, 0, false), (xc, x148.1, 2, 0, false)] : List (Int × Int × Int × Int × Bool))).length) 2) rfl <| qv _ (V.fad Try.underlying30 rfl nz28 rfl) <| qv (.slice adxa_0 xa.length cpxa_0) (V.ld rfl (Ld.sc sc28 (Rd.cl 2 rfl rfl))) ?_
 obtain ⟨y182, hy183, h⟩ := ob h
 obtain ⟨ad184, cp185, hv186, f187⟩ := V.subI (tp := (.cons (.int .i64) (.one .bool))) Try.underlying28 sz50 fxa_0 hy183
 refine qv (.slice ad184 y182.length cp185) (hv186 rfl (fun _ h => by cases h; exact ⟨_, rfl⟩) nofun nofun (fun _ => rfl)) <| qv _ (V.fad Try.underlying30 rfl nz28 rfl) <| qv (.slice adxb_0 xb.length cpxb_0) (V.ld rfl (Ld.sc sc28 (Rd.cl 1 rfl rfl))) ?_
 obtain ⟨y188, hy189, h⟩ := ob h
 obtain ⟨ad190, cp191, hv192, f193⟩ := V.subI (tp := (.cons (.int .i64) (.one .bool))) Try.underlying28 sz50 fxb_0 hy189
 refine qv (.slice ad190 y188.length cp191) (hv192 rfl (fun _ h => by cases h; exact ⟨_, rfl⟩) nofun nofun (fun _ => rfl)) <| JQ.nil ?_
 obtain ⟨r194, hr195, h⟩ := ob h
 refine JA.op rfl (A.call (L1 := []) Try.call69 rfl (relate_related_ok f187 f193 hr195) rfl rfl) ?_
 rintro _ _ _ ⟨v200, _, rfl, ⟨⟨l196, ad197, cp198, rfl, rfl, rfl⟩, rfl⟩, _, rfl⟩
 refine ⟨fun w hs => Hold.sub (Hp.le_refl _) ⟨1, rfl, 1, rfl, 1, rfl, trivial⟩ hs, ?_⟩
 refine JM.wit Row.hn fun hn199 => JM.nil <| JQ.nil ?_
 obtain ⟨z204, hz205, h⟩ := ob h
 refine J.front 1 rfl <| J.op rfl (A.appR (Kr := Hp.nil) Try.underlying90 inf93 rfl rfl (by decide) (by decide) rfl rfl (Els.flat rfl) (Els.flat rfl) hz205) ?_
 rintro _ _ _ ⟨v206, rfl, rfl, rfl⟩
 refine J.wit Row.form ?_
 rintro ⟨ad207, cp208, rfl, _, _, hn209⟩
 refine ja (.slice ad207 z204.length cp208) rfl <| ja (ii 0) rfl <| J.nil <| CJ.ret ?_
 obtain rfl := si h
 exact ⟨_, _, Res.two rfl rfl rfl, ⟨z204, 0, ad207, cp208, rfl, rfl, rfl⟩, (Hp.le_refl _), fun w hs => (Sep.dropAt 1 rfl (Sep.dropAt 1 rfl hs))⟩
end Go.Proofs.Ytelekeapfgfknaa
