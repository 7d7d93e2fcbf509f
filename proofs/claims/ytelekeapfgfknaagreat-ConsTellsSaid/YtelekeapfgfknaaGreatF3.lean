/- What Go functions answer: generated. -/
import Derived.Test.YtelekeapfgfknaaGreatF2
namespace Go.Proofs.YtelekeapfgfknaaGreat
open Go.RowKit
set_option linter.unusedVariables false
set_option linter.unnecessarySimpa false
set_option linter.unusedSimpArgs false
set_option maxRecDepth 20000

noncomputable def fn_valid_Check_az (xa : (Int × Int × (List (Int × Int)) × (List (List (Int × Bool))) × (List (Int × Bool)) × (List (Int × (List (Int × Int)) × (List (List (Int × Bool))) × (List (Int × Bool)))) × (List ((List (Int × Int × Int × Int × Bool)) × (Int × Int × Int × (List Int) × (List Int) × (List Int)))))) : Option (Int × Int × Int × Int) :=
  (fn_tick_Counter_Add_zii 1 1).bind fun _ => (fn_valid_head_az (xa.1, xa.2.1, xa.2.2.1, xa.2.2.2.1, xa.2.2.2.2.1, xa.2.2.2.2.2.1, xa.2.2.2.2.2.2)).bind fun (i100, i101, i102, i103) => cond (!decide (i100 = 0)) (some ((i100, i101, i102, i103))) ((fn_valid_bounds_az (xa.1, xa.2.1, xa.2.2.1, xa.2.2.2.1, xa.2.2.2.2.1, xa.2.2.2.2.2.1, xa.2.2.2.2.2.2)).bind fun (i111, i112, i113, i114) => cond (!decide (i111 = 0)) (some ((i111, i112, i113, i114))) ((fn_valid_locals_az (xa.1, xa.2.1, xa.2.2.1, xa.2.2.2.1, xa.2.2.2.2.1, xa.2.2.2.2.2.1, xa.2.2.2.2.2.2)).bind fun (i122, i123, i124, i125) => cond (!decide (i122 = 0)) (some ((i122, i123, i124, i125))) ((fn_valid_ret_az (xa.1, xa.2.1, xa.2.2.1, xa.2.2.2.1, xa.2.2.2.2.1, xa.2.2.2.2.2.1, xa.2.2.2.2.2.2)).bind fun (i133, i134, i135, i136) => cond (!decide (i133 = 0)) (some ((i133, i134, i135, i136))) ((fn_valid_sigs_az (xa.1, xa.2.1, xa.2.2.1, xa.2.2.2.1, xa.2.2.2.2.1, xa.2.2.2.2.2.1, xa.2.2.2.2.2.2)).bind fun (i144, i145, i146, i147) => cond (!decide (i144 = 0)) (some ((i144, i145, i146, i147))) ((fn_valid_blocks_az (xa.1, xa.2.1, xa.2.2.1, xa.2.2.2.1, xa.2.2.2.2.1, xa.2.2.2.2.2.1, xa.2.2.2.2.2.2)).bind fun (i155, i156, i157, i158) => cond (!decide (i155 = 0)) (some ((i155, i156, i157, i158))) ((fn_valid_code_az (xa.1, xa.2.1, xa.2.2.1, xa.2.2.2.1, xa.2.2.2.2.1, xa.2.2.2.2.2.1, xa.2.2.2.2.2.2)).bind fun (i166, i167, i168, i169) => cond (!decide (i166 = 0)) (some ((i166, i167, i168, i169))) (some ((0, 0, 0, 0)))))))))
set_option maxRecDepth 100000 in
set_option maxHeartbeats 4000000 in
theorem valid_Check_az_ok {K : Hp} {xa : (Int × Int × (List (Int × Int)) × (List (List (Int × Bool))) × (List (Int × Bool)) × (List (Int × (List (Int × Int)) × (List (List (Int × Bool))) × (List (Int × Bool)))) × (List ((List (Int × Int × Int × Int × Bool)) × (Int × Int × Int × (List Int) × (List Int) × (List Int)))))} {adxa_2 : Option Addr} {cpxa_2 : Nat} {adxa_3 : Option Addr} {cpxa_3 : Nat} {adxa_4 : Option Addr} {cpxa_4 : Nat} {adxa_5 : Option Addr} {cpxa_5 : Nat} {adxa_6 : Option Addr} {cpxa_6 : Nat} (fxa_2 : Is K (.sl (.cons (.int .i64) (.one (.int .i64)))) [.slice adxa_2 xa.2.2.1.length cpxa_2] xa.2.2.1) (fxa_3 : Is K (.sl (.one (.sl (.cons (.int .i64) (.one .bool))))) [.slice adxa_3 xa.2.2.2.1.length cpxa_3] xa.2.2.2.1) (fxa_4 : Is K (.sl (.cons (.int .i64) (.one .bool))) [.slice adxa_4 xa.2.2.2.2.1.length cpxa_4] xa.2.2.2.2.1) (fxa_5 : Is K (.sl (.cons (.int .i64) (.cons (.sl (.cons (.int .i64) (.one (.int .i64)))) (.cons (.sl (.one (.sl (.cons (.int .i64) (.one .bool))))) (.one (.one (.sl (.cons (.int .i64) (.one .bool))))))))) [.slice adxa_5 xa.2.2.2.2.2.1.length cpxa_5] xa.2.2.2.2.2.1) (fxa_6 : Is K (.sl (.cons (.sl (.cons (.int .i64) (.cons (.int .i64) (.cons (.int .i64) (.cons (.int .i64) (.one .bool)))))) (.one (.cons (.int .i64) (.cons (.int .i64) (.cons (.int .i64) (.cons (.sl (.int .i64)) (.cons (.sl (.int .i64)) (.one (.sl (.int .i64))))))))))) [.slice adxa_6 xa.2.2.2.2.2.2.length cpxa_6] xa.2.2.2.2.2.2) {r : (Int × Int × Int × Int)} (h : fn_valid_Check_az xa = some r) :
    Tr Tryz.prog 55 #[.agg #[ii xa.1, ii xa.2.1, .slice adxa_2 xa.2.2.1.length cpxa_2, .slice adxa_3 xa.2.2.2.1.length cpxa_3, .slice adxa_4 xa.2.2.2.2.1.length cpxa_4, .slice adxa_5 xa.2.2.2.2.2.1.length cpxa_5, .slice adxa_6 xa.2.2.2.2.2.2.length cpxa_6], .pointer none] K [] (fun v K' L' => (∃ (i86 : Int) (i87 : Int) (i88 : Int) (i89 : Int), (i86, i87, i88, i89) = r ∧ .agg #[ii i86, ii i87, ii i88, ii i89] = v ∧ L' = []) ∧ K = K') := by
 refine Tr.k <| Tr.of Tryz.func55 rfl Tryz.ntmps55 rfl fun E F => ?_
 unfold fn_valid_Check_az at h
 refine cr <| jbx [ii xa.1, ii xa.2.1, .slice adxa_2 xa.2.2.1.length cpxa_2, .slice adxa_3 xa.2.2.2.1.length cpxa_3, .slice adxa_4 xa.2.2.2.2.1.length cpxa_4, .slice adxa_5 xa.2.2.2.2.2.1.length cpxa_5, .slice adxa_6 xa.2.2.2.2.2.2.length cpxa_6] rfl rfl fun b90 => jal inf111 [ii 0, ii 0, ii 0, ii 0] rfl fun b91 => J.nil <| CJ.seq <| CJ.region ?_
 refine jm (.pointer none) rfl ?_
 obtain ⟨r92, hr93, h⟩ := ob h
 refine J.op rfl (A.call (L1 := []) Tryz.call24 rfl (tick_Counter_Add_zii_ok hr93) rfl rfl) ?_
 rintro _ _ _ ⟨v94, _, rfl, ⟨⟨rfl, rfl, rfl⟩, rfl⟩, _, rfl⟩
 refine J.nil <| CJ.seq <| CJ.region ?_
 refine J.op rfl (A.litC (cs := [.func (.func 69) #[] #[], .func (.func 70) #[] #[], .func (.func 71) #[] #[], .func (.func 72) #[] #[], .func (.func 73) #[] #[], .func (.func 74) #[] #[], .func (.func 75) #[] #[]]) Tryz.underlying126 inf112 (by decide) rfl rfl (by decide)) ?_
 rintro _ _ _ ⟨b97, rfl, rfl, rfl⟩
 refine ja (.slice (some ⟨b97, 0, none⟩) 7 7) rfl <| J.nil <| CJ.seq <| cr <| jm (.slice (some ⟨b97, 0, none⟩) 7 7) rfl <| jv (ii 7) (Val.eq (V.len Tryz.underlying126 rfl) rfl) ?_
 refine jm (ii 0) rfl <| J.nil <| CJ.block <| CJ.unroll 64 <| RJ.next <| CJ.seq <| CJ.region ?_
 refine jv (.bool true) (Val.eq (V.lss rfl rfl) rfl) <| J.nil <| CJ.seq <| CJ.condK (b := true) rfl rfl <| CJ.skip <| CJ.seq <| CJ.block ?_
 refine cr <| jv _ (Val.eq (V.iad Tryz.underlying126 sz112 rfl rfl rfl (by decide) (by decide)) rfl) <| jv (.func (.func 69) #[] #[]) (V.ld rfl (Ld.sc sc112 (Rd.cl 0 rfl rfl))) <| ja (.func (.func 69) #[] #[]) rfl <| J.nil <| CJ.seq ?_
 refine CJ.region <| jm (.func (.func 69) #[] #[]) rfl <| jv (.agg #[ii xa.1, ii xa.2.1, .slice adxa_2 xa.2.2.1.length cpxa_2, .slice adxa_3 xa.2.2.2.1.length cpxa_3, .slice adxa_4 xa.2.2.2.2.1.length cpxa_4, .slice adxa_5 xa.2.2.2.2.2.1.length cpxa_5, .slice adxa_6 xa.2.2.2.2.2.2.length cpxa_6]) (V.ld rfl (Ld.agg (cs := [ii xa.1, ii xa.2.1, .slice adxa_2 xa.2.2.1.length cpxa_2, .slice adxa_3 xa.2.2.2.1.length cpxa_3, .slice adxa_4 xa.2.2.2.2.1.length cpxa_4, .slice adxa_5 xa.2.2.2.2.2.1.length cpxa_5, .slice adxa_6 xa.2.2.2.2.2.2.length cpxa_6]) Tryz.underlying30 sz30 rfl (Rd.cls 2 0 rfl rfl))) <| jm (.pointer none) rfl ?_
 obtain ⟨r98, hr99, h⟩ := ob h
 refine J.op rfl (A.call (L1 := []) Tryz.call69 rfl (valid_head_az_ok fxa_2 fxa_3 fxa_4 fxa_5 fxa_6 hr99) rfl rfl) ?_
 rintro _ _ _ ⟨v104, _, rfl, ⟨⟨i100, i101, i102, i103, rfl, rfl, rfl⟩, rfl⟩, _, rfl⟩
 refine jal inf111 [ii 0, ii 0, ii 0, ii 0] rfl fun b107 => js [ii i100, ii i101, ii i102, ii i103] sz111 rfl rfl rfl rfl rfl rfl <| J.nil <| cr <| jv _ (V.fad Tryz.underlying111 rfl nz88 rfl) <| jv (ii i100) (V.ld rfl (Ld.sc sc88 (Rd.cl 0 rfl rfl))) ?_
 refine jv (.bool (!decide (i100 = 0))) (V.neq rfl rfl) <| J.nil <| cc rfl h (fun hc108 h => ?_) fun hc108 h => ?_
 · refine cr <| jv (.agg #[ii i100, ii i101, ii i102, ii i103]) (V.ld rfl (Ld.agg (cs := [ii i100, ii i101, ii i102, ii i103]) Tryz.underlying111 sz111 rfl (Rd.cls 0 0 rfl rfl))) <| J.front 2 rfl <| js [ii i100, ii i101, ii i102, ii i103] sz111 rfl rfl rfl rfl rfl rfl <| J.nil <| CJ.ret ?_
   obtain rfl := si h
   exact ⟨_, _, Res.one rfl ⟨_, _, rfl, Ld.agg (cs := [ii i100, ii i101, ii i102, ii i103]) Tryz.underlying111 sz111 rfl (Rd.cls 0 0 rfl rfl)⟩, ⟨i100, i101, i102, i103, rfl, rfl, rfl⟩, (Hp.le_refl _), fun w hs => (Sep.dropAt 0 rfl (Sep.dropAt 0 rfl (Sep.dropAt 0 rfl (Sep.dropAt 0 rfl hs))))⟩
 refine CJ.skip <| CJ.region <| jv (ii 1) (Val.eq (V.add rfl rfl) rfl) <| jm (ii 1) rfl <| J.nil <| RJ.next <| CJ.seq ?_
 refine CJ.region <| jv (.bool true) (Val.eq (V.lss rfl rfl) rfl) <| J.nil <| CJ.seq <| CJ.condK (b := true) rfl rfl <| CJ.skip <| CJ.seq ?_
 refine CJ.block <| cr <| jv _ (Val.eq (V.iad Tryz.underlying126 sz112 rfl rfl rfl (by decide) (by decide)) rfl) <| jv (.func (.func 70) #[] #[]) (V.ld rfl (Ld.sc sc112 (Rd.cl 1 rfl rfl))) <| ja (.func (.func 70) #[] #[]) rfl <| J.nil ?_
 refine cr <| jm (.func (.func 70) #[] #[]) rfl <| jv (.agg #[ii xa.1, ii xa.2.1, .slice adxa_2 xa.2.2.1.length cpxa_2, .slice adxa_3 xa.2.2.2.1.length cpxa_3, .slice adxa_4 xa.2.2.2.2.1.length cpxa_4, .slice adxa_5 xa.2.2.2.2.2.1.length cpxa_5, .slice adxa_6 xa.2.2.2.2.2.2.length cpxa_6]) (V.ld rfl (Ld.agg (cs := [ii xa.1, ii xa.2.1, .slice adxa_2 xa.2.2.1.length cpxa_2, .slice adxa_3 xa.2.2.2.1.length cpxa_3, .slice adxa_4 xa.2.2.2.2.1.length cpxa_4, .slice adxa_5 xa.2.2.2.2.2.1.length cpxa_5, .slice adxa_6 xa.2.2.2.2.2.2.length cpxa_6]) Tryz.underlying30 sz30 rfl (Rd.cls 3 0 rfl rfl))) <| jm (.pointer none) rfl ?_
 obtain ⟨r109, hr110, h⟩ := ob h
 refine J.op rfl (A.call (L1 := []) Tryz.call70 rfl (valid_bounds_az_ok fxa_2 fxa_3 fxa_4 fxa_5 fxa_6 hr110) rfl rfl) ?_
 rintro _ _ _ ⟨v115, _, rfl, ⟨⟨i111, i112, i113, i114, rfl, rfl, rfl⟩, rfl⟩, _, rfl⟩
 refine jal inf111 [ii 0, ii 0, ii 0, ii 0] rfl fun b118 => js [ii i111, ii i112, ii i113, ii i114] sz111 rfl rfl rfl rfl rfl rfl <| J.nil <| cr <| jv _ (V.fad Tryz.underlying111 rfl nz88 rfl) <| jv (ii i111) (V.ld rfl (Ld.sc sc88 (Rd.cl 0 rfl rfl))) ?_
 refine jv (.bool (!decide (i111 = 0))) (V.neq rfl rfl) <| J.nil <| cc rfl h (fun hc119 h => ?_) fun hc119 h => ?_
 · refine cr <| jv (.agg #[ii i111, ii i112, ii i113, ii i114]) (V.ld rfl (Ld.agg (cs := [ii i111, ii i112, ii i113, ii i114]) Tryz.underlying111 sz111 rfl (Rd.cls 0 0 rfl rfl))) <| J.front 3 rfl <| js [ii i111, ii i112, ii i113, ii i114] sz111 rfl rfl rfl rfl rfl rfl <| J.nil <| CJ.ret ?_
   obtain rfl := si h
   exact ⟨_, _, Res.one rfl ⟨_, _, rfl, Ld.agg (cs := [ii i111, ii i112, ii i113, ii i114]) Tryz.underlying111 sz111 rfl (Rd.cls 0 0 rfl rfl)⟩, ⟨i111, i112, i113, i114, rfl, rfl, rfl⟩, (Hp.le_refl _), fun w hs => (Sep.dropAt 0 rfl (Sep.dropAt 0 rfl (Sep.dropAt 0 rfl (Sep.dropAt 0 rfl (Sep.dropAt 0 rfl hs)))))⟩
 refine CJ.skip <| CJ.region <| jv (ii 2) (Val.eq (V.add rfl rfl) rfl) <| jm (ii 2) rfl <| J.nil <| RJ.next <| CJ.seq ?_
 refine CJ.region <| jv (.bool true) (Val.eq (V.lss rfl rfl) rfl) <| J.nil <| CJ.seq <| CJ.condK (b := true) rfl rfl <| CJ.skip <| CJ.seq ?_
 refine CJ.block <| cr <| jv _ (Val.eq (V.iad Tryz.underlying126 sz112 rfl rfl rfl (by decide) (by decide)) rfl) <| jv (.func (.func 71) #[] #[]) (V.ld rfl (Ld.sc sc112 (Rd.cl 2 rfl rfl))) <| ja (.func (.func 71) #[] #[]) rfl <| J.nil ?_
 refine cr <| jm (.func (.func 71) #[] #[]) rfl <| jv (.agg #[ii xa.1, ii xa.2.1, .slice adxa_2 xa.2.2.1.length cpxa_2, .slice adxa_3 xa.2.2.2.1.length cpxa_3, .slice adxa_4 xa.2.2.2.2.1.length cpxa_4, .slice adxa_5 xa.2.2.2.2.2.1.length cpxa_5, .slice adxa_6 xa.2.2.2.2.2.2.length cpxa_6]) (V.ld rfl (Ld.agg (cs := [ii xa.1, ii xa.2.1, .slice adxa_2 xa.2.2.1.length cpxa_2, .slice adxa_3 xa.2.2.2.1.length cpxa_3, .slice adxa_4 xa.2.2.2.2.1.length cpxa_4, .slice adxa_5 xa.2.2.2.2.2.1.length cpxa_5, .slice adxa_6 xa.2.2.2.2.2.2.length cpxa_6]) Tryz.underlying30 sz30 rfl (Rd.cls 4 0 rfl rfl))) <| jm (.pointer none) rfl ?_
 obtain ⟨r120, hr121, h⟩ := ob h
 refine J.op rfl (A.call (L1 := []) Tryz.call71 rfl (valid_locals_az_ok fxa_2 fxa_3 fxa_4 fxa_5 fxa_6 hr121) rfl rfl) ?_
 rintro _ _ _ ⟨v126, _, rfl, ⟨⟨i122, i123, i124, i125, rfl, rfl, rfl⟩, rfl⟩, _, rfl⟩
 refine jal inf111 [ii 0, ii 0, ii 0, ii 0] rfl fun b129 => js [ii i122, ii i123, ii i124, ii i125] sz111 rfl rfl rfl rfl rfl rfl <| J.nil <| cr <| jv _ (V.fad Tryz.underlying111 rfl nz88 rfl) <| jv (ii i122) (V.ld rfl (Ld.sc sc88 (Rd.cl 0 rfl rfl))) ?_
 refine jv (.bool (!decide (i122 = 0))) (V.neq rfl rfl) <| J.nil <| cc rfl h (fun hc130 h => ?_) fun hc130 h => ?_
 · refine cr <| jv (.agg #[ii i122, ii i123, ii i124, ii i125]) (V.ld rfl (Ld.agg (cs := [ii i122, ii i123, ii i124, ii i125]) Tryz.underlying111 sz111 rfl (Rd.cls 0 0 rfl rfl))) <| J.front 4 rfl <| js [ii i122, ii i123, ii i124, ii i125] sz111 rfl rfl rfl rfl rfl rfl <| J.nil <| CJ.ret ?_
   obtain rfl := si h
   exact ⟨_, _, Res.one rfl ⟨_, _, rfl, Ld.agg (cs := [ii i122, ii i123, ii i124, ii i125]) Tryz.underlying111 sz111 rfl (Rd.cls 0 0 rfl rfl)⟩, ⟨i122, i123, i124, i125, rfl, rfl, rfl⟩, (Hp.le_refl _), fun w hs => (Sep.dropAt 0 rfl (Sep.dropAt 0 rfl (Sep.dropAt 0 rfl (Sep.dropAt 0 rfl (Sep.dropAt 0 rfl (Sep.dropAt 0 rfl hs))))))⟩
 refine CJ.skip <| CJ.region <| jv (ii 3) (Val.eq (V.add rfl rfl) rfl) <| jm (ii 3) rfl <| J.nil <| RJ.next <| CJ.seq ?_
 refine CJ.region <| jv (.bool true) (Val.eq (V.lss rfl rfl) rfl) <| J.nil <| CJ.seq <| CJ.condK (b := true) rfl rfl <| CJ.skip <| CJ.seq ?_
 refine CJ.block <| cr <| jv _ (Val.eq (V.iad Tryz.underlying126 sz112 rfl rfl rfl (by decide) (by decide)) rfl) <| jv (.func (.func 72) #[] #[]) (V.ld rfl (Ld.sc sc112 (Rd.cl 3 rfl rfl))) <| ja (.func (.func 72) #[] #[]) rfl <| J.nil ?_
 refine cr <| jm (.func (.func 72) #[] #[]) rfl <| jv (.agg #[ii xa.1, ii xa.2.1, .slice adxa_2 xa.2.2.1.length cpxa_2, .slice adxa_3 xa.2.2.2.1.length cpxa_3, .slice adxa_4 xa.2.2.2.2.1.length cpxa_4, .slice adxa_5 xa.2.2.2.2.2.1.length cpxa_5, .slice adxa_6 xa.2.2.2.2.2.2.length cpxa_6]) (V.ld rfl (Ld.agg (cs := [ii xa.1, ii xa.2.1, .slice adxa_2 xa.2.2.1.length cpxa_2, .slice adxa_3 xa.2.2.2.1.length cpxa_3, .slice adxa_4 xa.2.2.2.2.1.length cpxa_4, .slice adxa_5 xa.2.2.2.2.2.1.length cpxa_5, .slice adxa_6 xa.2.2.2.2.2.2.length cpxa_6]) Tryz.underlying30 sz30 rfl (Rd.cls 5 0 rfl rfl))) <| jm (.pointer none) rfl ?_
 obtain ⟨r131, hr132, h⟩ := ob h
 refine J.op rfl (A.call (L1 := []) Tryz.call72 rfl (valid_ret_az_ok fxa_2 fxa_3 fxa_4 fxa_5 fxa_6 hr132) rfl rfl) ?_
 rintro _ _ _ ⟨v137, _, rfl, ⟨⟨i133, i134, i135, i136, rfl, rfl, rfl⟩, rfl⟩, _, rfl⟩
 refine jal inf111 [ii 0, ii 0, ii 0, ii 0] rfl fun b140 => js [ii i133, ii i134, ii i135, ii i136] sz111 rfl rfl rfl rfl rfl rfl <| J.nil <| cr <| jv _ (V.fad Tryz.underlying111 rfl nz88 rfl) <| jv (ii i133) (V.ld rfl (Ld.sc sc88 (Rd.cl 0 rfl rfl))) ?_
 refine jv (.bool (!decide (i133 = 0))) (V.neq rfl rfl) <| J.nil <| cc rfl h (fun hc141 h => ?_) fun hc141 h => ?_
 · refine cr <| jv (.agg #[ii i133, ii i134, ii i135, ii i136]) (V.ld rfl (Ld.agg (cs := [ii i133, ii i134, ii i135, ii i136]) Tryz.underlying111 sz111 rfl (Rd.cls 0 0 rfl rfl))) <| J.front 5 rfl <| js [ii i133, ii i134, ii i135, ii i136] sz111 rfl rfl rfl rfl rfl rfl <| J.nil <| CJ.ret ?_
   obtain rfl := si h
   exact ⟨_, _, Res.one rfl ⟨_, _, rfl, Ld.agg (cs := [ii i133, ii i134, ii i135, ii i136]) Tryz.underlying111 sz111 rfl (Rd.cls 0 0 rfl rfl)⟩, ⟨i133, i134, i135, i136, rfl, rfl, rfl⟩, (Hp.le_refl _), fun w hs => (Sep.dropAt 0 rfl (Sep.dropAt 0 rfl (Sep.dropAt 0 rfl (Sep.dropAt 0 rfl (Sep.dropAt 0 rfl (Sep.dropAt 0 rfl (Sep.dropAt 0 rfl hs)))))))⟩
 refine CJ.skip <| CJ.region <| jv (ii 4) (Val.eq (V.add rfl rfl) rfl) <| jm (ii 4) rfl <| J.nil <| RJ.next <| CJ.seq ?_
 refine CJ.region <| jv (.bool true) (Val.eq (V.lss rfl rfl) rfl) <| J.nil <| CJ.seq <| CJ.condK (b := true) rfl rfl <| CJ.skip <| CJ.seq ?_
 refine CJ.block <| cr <| jv _ (Val.eq (V.iad Tryz.underlying126 sz112 rfl rfl rfl (by decide) (by decide)) rfl) <| jv (.func (.func 73) #[] #[]) (V.ld rfl (Ld.sc sc112 (Rd.cl 4 rfl rfl))) <| ja (.func (.func 73) #[] #[]) rfl <| J.nil ?_
 refine cr <| jm (.func (.func 73) #[] #[]) rfl <| jv (.agg #[ii xa.1, ii xa.2.1, .slice adxa_2 xa.2.2.1.length cpxa_2, .slice adxa_3 xa.2.2.2.1.length cpxa_3, .slice adxa_4 xa.2.2.2.2.1.length cpxa_4, .slice adxa_5 xa.2.2.2.2.2.1.length cpxa_5, .slice adxa_6 xa.2.2.2.2.2.2.length cpxa_6]) (V.ld rfl (Ld.agg (cs := [ii xa.1, ii xa.2.1, .slice adxa_2 xa.2.2.1.length cpxa_2, .slice adxa_3 xa.2.2.2.1.length cpxa_3, .slice adxa_4 xa.2.2.2.2.1.length cpxa_4, .slice adxa_5 xa.2.2.2.2.2.1.length cpxa_5, .slice adxa_6 xa.2.2.2.2.2.2.length cpxa_6]) Tryz.underlying30 sz30 rfl (Rd.cls 6 0 rfl rfl))) <| jm (.pointer none) rfl ?_
 obtain ⟨r142, hr143, h⟩ := ob h
 refine J.op rfl (A.call (L1 := []) Tryz.call73 rfl (valid_sigs_az_ok fxa_2 fxa_3 fxa_4 fxa_5 fxa_6 hr143) rfl rfl) ?_
 rintro _ _ _ ⟨v148, _, rfl, ⟨⟨i144, i145, i146, i147, rfl, rfl, rfl⟩, rfl⟩, _, rfl⟩
 refine jal inf111 [ii 0, ii 0, ii 0, ii 0] rfl fun b151 => js [ii i144, ii i145, ii i146, ii i147] sz111 rfl rfl rfl rfl rfl rfl <| J.nil <| cr <| jv _ (V.fad Tryz.underlying111 rfl nz88 rfl) <| jv (ii i144) (V.ld rfl (Ld.sc sc88 (Rd.cl 0 rfl rfl))) ?_
 refine jv (.bool (!decide (i144 = 0))) (V.neq rfl rfl) <| J.nil <| cc rfl h (fun hc152 h => ?_) fun hc152 h => ?_
 · refine cr <| jv (.agg #[ii i144, ii i145, ii i146, ii i147]) (V.ld rfl (Ld.agg (cs := [ii i144, ii i145, ii i146, ii i147]) Tryz.underlying111 sz111 rfl (Rd.cls 0 0 rfl rfl))) <| J.front 6 rfl <| js [ii i144, ii i145, ii i146, ii i147] sz111 rfl rfl rfl rfl rfl rfl <| J.nil <| CJ.ret ?_
   obtain rfl := si h
   exact ⟨_, _, Res.one rfl ⟨_, _, rfl, Ld.agg (cs := [ii i144, ii i145, ii i146, ii i147]) Tryz.underlying111 sz111 rfl (Rd.cls 0 0 rfl rfl)⟩, ⟨i144, i145, i146, i147, rfl, rfl, rfl⟩, (Hp.le_refl _), fun w hs => (Sep.dropAt 0 rfl (Sep.dropAt 0 rfl (Sep.dropAt 0 rfl (Sep.dropAt 0 rfl (Sep.dropAt 0 rfl (Sep.dropAt 0 rfl (Sep.dropAt 0 rfl (Sep.dropAt 0 rfl hs))))))))⟩
 refine CJ.skip <| CJ.region <| jv (ii 5) (Val.eq (V.add rfl rfl) rfl) <| jm (ii 5) rfl <| J.nil <| RJ.next <| CJ.seq ?_
 refine CJ.region <| jv (.bool true) (Val.eq (V.lss rfl rfl) rfl) <| J.nil <| CJ.seq <| CJ.condK (b := true) rfl rfl <| CJ.skip <| CJ.seq ?_
 refine CJ.block <| cr <| jv _ (Val.eq (V.iad Tryz.underlying126 sz112 rfl rfl rfl (by decide) (by decide)) rfl) <| jv (.func (.func 74) #[] #[]) (V.ld rfl (Ld.sc sc112 (Rd.cl 5 rfl rfl))) <| ja (.func (.func 74) #[] #[]) rfl <| J.nil ?_
 refine cr <| jm (.func (.func 74) #[] #[]) rfl <| jv (.agg #[ii xa.1, ii xa.2.1, .slice adxa_2 xa.2.2.1.length cpxa_2, .slice adxa_3 xa.2.2.2.1.length cpxa_3, .slice adxa_4 xa.2.2.2.2.1.length cpxa_4, .slice adxa_5 xa.2.2.2.2.2.1.length cpxa_5, .slice adxa_6 xa.2.2.2.2.2.2.length cpxa_6]) (V.ld rfl (Ld.agg (cs := [ii xa.1, ii xa.2.1, .slice adxa_2 xa.2.2.1.length cpxa_2, .slice adxa_3 xa.2.2.2.1.length cpxa_3, .slice adxa_4 xa.2.2.2.2.1.length cpxa_4, .slice adxa_5 xa.2.2.2.2.2.1.length cpxa_5, .slice adxa_6 xa.2.2.2.2.2.2.length cpxa_6]) Tryz.underlying30 sz30 rfl (Rd.cls 7 0 rfl rfl))) <| jm (.pointer none) rfl ?_
 obtain ⟨r153, hr154, h⟩ := ob h
 refine J.op rfl (A.call (L1 := []) Tryz.call74 rfl (valid_blocks_az_ok fxa_2 fxa_3 fxa_4 fxa_5 fxa_6 hr154) rfl rfl) ?_
 rintro _ _ _ ⟨v159, _, rfl, ⟨⟨i155, i156, i157, i158, rfl, rfl, rfl⟩, rfl⟩, _, rfl⟩
 refine jal inf111 [ii 0, ii 0, ii 0, ii 0] rfl fun b162 => js [ii i155, ii i156, ii i157, ii i158] sz111 rfl rfl rfl rfl rfl rfl <| J.nil <| cr <| jv _ (V.fad Tryz.underlying111 rfl nz88 rfl) <| jv (ii i155) (V.ld rfl (Ld.sc sc88 (Rd.cl 0 rfl rfl))) ?_
 refine jv (.bool (!decide (i155 = 0))) (V.neq rfl rfl) <| J.nil <| cc rfl h (fun hc163 h => ?_) fun hc163 h => ?_
 · refine cr <| jv (.agg #[ii i155, ii i156, ii i157, ii i158]) (V.ld rfl (Ld.agg (cs := [ii i155, ii i156, ii i157, ii i158]) Tryz.underlying111 sz111 rfl (Rd.cls 0 0 rfl rfl))) <| J.front 7 rfl <| js [ii i155, ii i156, ii i157, ii i158] sz111 rfl rfl rfl rfl rfl rfl <| J.nil <| CJ.ret ?_
   obtain rfl := si h
   exact ⟨_, _, Res.one rfl ⟨_, _, rfl, Ld.agg (cs := [ii i155, ii i156, ii i157, ii i158]) Tryz.underlying111 sz111 rfl (Rd.cls 0 0 rfl rfl)⟩, ⟨i155, i156, i157, i158, rfl, rfl, rfl⟩, (Hp.le_refl _), fun w hs => (Sep.dropAt 0 rfl (Sep.dropAt 0 rfl (Sep.dropAt 0 rfl (Sep.dropAt 0 rfl (Sep.dropAt 0 rfl (Sep.dropAt 0 rfl (Sep.dropAt 0 rfl (Sep.dropAt 0 rfl (Sep.dropAt 0 rfl hs)))))))))⟩
 refine CJ.skip <| CJ.region <| jv (ii 6) (Val.eq (V.add rfl rfl) rfl) <| jm (ii 6) rfl <| J.nil <| RJ.next <| CJ.seq ?_
 refine CJ.region <| jv (.bool true) (Val.eq (V.lss rfl rfl) rfl) <| J.nil <| CJ.seq <| CJ.condK (b := true) rfl rfl <| CJ.skip <| CJ.seq ?_
 refine CJ.block <| cr <| jv _ (Val.eq (V.iad Tryz.underlying126 sz112 rfl rfl rfl (by decide) (by decide)) rfl) <| jv (.func (.func 75) #[] #[]) (V.ld rfl (Ld.sc sc112 (Rd.cl 6 rfl rfl))) <| ja (.func (.func 75) #[] #[]) rfl <| J.nil ?_
 refine cr <| jm (.func (.func 75) #[] #[]) rfl <| jv (.agg #[ii xa.1, ii xa.2.1, .slice adxa_2 xa.2.2.1.length cpxa_2, .slice adxa_3 xa.2.2.2.1.length cpxa_3, .slice adxa_4 xa.2.2.2.2.1.length cpxa_4, .slice adxa_5 xa.2.2.2.2.2.1.length cpxa_5, .slice adxa_6 xa.2.2.2.2.2.2.length cpxa_6]) (V.ld rfl (Ld.agg (cs := [ii xa.1, ii xa.2.1, .slice adxa_2 xa.2.2.1.length cpxa_2, .slice adxa_3 xa.2.2.2.1.length cpxa_3, .slice adxa_4 xa.2.2.2.2.1.length cpxa_4, .slice adxa_5 xa.2.2.2.2.2.1.length cpxa_5, .slice adxa_6 xa.2.2.2.2.2.2.length cpxa_6]) Tryz.underlying30 sz30 rfl (Rd.cls 8 0 rfl rfl))) <| jm (.pointer none) rfl ?_
 obtain ⟨r164, hr165, h⟩ := ob h
 refine J.op rfl (A.call (L1 := []) Tryz.call75 rfl (valid_code_az_ok fxa_2 fxa_3 fxa_4 fxa_5 fxa_6 hr165) rfl rfl) ?_
 rintro _ _ _ ⟨v170, _, rfl, ⟨⟨i166, i167, i168, i169, rfl, rfl, rfl⟩, rfl⟩, _, rfl⟩
 refine jal inf111 [ii 0, ii 0, ii 0, ii 0] rfl fun b173 => js [ii i166, ii i167, ii i168, ii i169] sz111 rfl rfl rfl rfl rfl rfl <| J.nil <| cr <| jv _ (V.fad Tryz.underlying111 rfl nz88 rfl) <| jv (ii i166) (V.ld rfl (Ld.sc sc88 (Rd.cl 0 rfl rfl))) ?_
 refine jv (.bool (!decide (i166 = 0))) (V.neq rfl rfl) <| J.nil <| cc rfl h (fun hc174 h => ?_) fun hc174 h => ?_
 · refine cr <| jv (.agg #[ii i166, ii i167, ii i168, ii i169]) (V.ld rfl (Ld.agg (cs := [ii i166, ii i167, ii i168, ii i169]) Tryz.underlying111 sz111 rfl (Rd.cls 0 0 rfl rfl))) <| J.front 8 rfl <| js [ii i166, ii i167, ii i168, ii i169] sz111 rfl rfl rfl rfl rfl rfl <| J.nil <| CJ.ret ?_
   obtain rfl := si h
   exact ⟨_, _, Res.one rfl ⟨_, _, rfl, Ld.agg (cs := [ii i166, ii i167, ii i168, ii i169]) Tryz.underlying111 sz111 rfl (Rd.cls 0 0 rfl rfl)⟩, ⟨i166, i167, i168, i169, rfl, rfl, rfl⟩, (Hp.le_refl _), fun w hs => (Sep.dropAt 0 rfl (Sep.dropAt 0 rfl (Sep.dropAt 0 rfl (Sep.dropAt 0 rfl (Sep.dropAt 0 rfl (Sep.dropAt 0 rfl (Sep.dropAt 0 rfl (Sep.dropAt 0 rfl (Sep.dropAt 0 rfl (Sep.dropAt 0 rfl hs))))))))))⟩
 refine CJ.skip <| CJ.region <| jv (ii 7) (Val.eq (V.add rfl rfl) rfl) <| jm (ii 7) rfl <| J.nil <| RJ.next <| CJ.seq ?_
 refine CJ.region <| jv (.bool false) (Val.eq (V.lss rfl rfl) rfl) <| J.nil <| CJ.seq <| CJ.condK (b := false) rfl rfl <| CJ.exit <| CJ.seq ?_
 refine CJ.region <| jv (.agg #[ii 0, ii 0, ii 0, ii 0]) (V.build inf111 places111 rfl rfl) <| J.front 8 rfl <| js [ii 0, ii 0, ii 0, ii 0] sz111 rfl rfl rfl rfl rfl rfl <| J.nil <| CJ.ret ?_
 obtain rfl := si h
 exact ⟨_, _, Res.one rfl ⟨_, _, rfl, Ld.agg (cs := [ii 0, ii 0, ii 0, ii 0]) Tryz.underlying111 sz111 rfl (Rd.cls 0 0 rfl rfl)⟩, ⟨0, 0, 0, 0, rfl, rfl, rfl⟩, (Hp.le_refl _), fun w hs => (Sep.dropAt 0 rfl (Sep.dropAt 0 rfl (Sep.dropAt 0 rfl (Sep.dropAt 0 rfl (Sep.dropAt 0 rfl (Sep.dropAt 0 rfl (Sep.dropAt 0 rfl (Sep.dropAt 0 rfl (Sep.dropAt 0 rfl (Sep.dropAt 0 rfl hs))))))))))⟩

noncomputable def fn_valid_OK (xa : (Int × Int × (List (Int × Int)) × (List (List (Int × Bool))) × (List (Int × Bool)) × (List (Int × (List (Int × Int)) × (List (List (Int × Bool))) × (List (Int × Bool)))) × (List ((List (Int × Int × Int × Int × Bool)) × (Int × Int × Int × (List Int) × (List Int) × (List Int)))))) : Option Bool :=
  (fn_valid_Check_az (xa.1, xa.2.1, xa.2.2.1, xa.2.2.2.1, xa.2.2.2.2.1, xa.2.2.2.2.2.1, xa.2.2.2.2.2.2)).bind fun (i15, i17, i18, i19) => some (decide (i15 = 0))
set_option maxRecDepth 100000 in
set_option maxHeartbeats 4000000 in
theorem valid_OK_ok {K : Hp} {xa : (Int × Int × (List (Int × Int)) × (List (List (Int × Bool))) × (List (Int × Bool)) × (List (Int × (List (Int × Int)) × (List (List (Int × Bool))) × (List (Int × Bool)))) × (List ((List (Int × Int × Int × Int × Bool)) × (Int × Int × Int × (List Int) × (List Int) × (List Int)))))} {adxa_2 : Option Addr} {cpxa_2 : Nat} {adxa_3 : Option Addr} {cpxa_3 : Nat} {adxa_4 : Option Addr} {cpxa_4 : Nat} {adxa_5 : Option Addr} {cpxa_5 : Nat} {adxa_6 : Option Addr} {cpxa_6 : Nat} (fxa_2 : Is K (.sl (.cons (.int .i64) (.one (.int .i64)))) [.slice adxa_2 xa.2.2.1.length cpxa_2] xa.2.2.1) (fxa_3 : Is K (.sl (.one (.sl (.cons (.int .i64) (.one .bool))))) [.slice adxa_3 xa.2.2.2.1.length cpxa_3] xa.2.2.2.1) (fxa_4 : Is K (.sl (.cons (.int .i64) (.one .bool))) [.slice adxa_4 xa.2.2.2.2.1.length cpxa_4] xa.2.2.2.2.1) (fxa_5 : Is K (.sl (.cons (.int .i64) (.cons (.sl (.cons (.int .i64) (.one (.int .i64)))) (.cons (.sl (.one (.sl (.cons (.int .i64) (.one .bool))))) (.one (.one (.sl (.cons (.int .i64) (.one .bool))))))))) [.slice adxa_5 xa.2.2.2.2.2.1.length cpxa_5] xa.2.2.2.2.2.1) (fxa_6 : Is K (.sl (.cons (.sl (.cons (.int .i64) (.cons (.int .i64) (.cons (.int .i64) (.cons (.int .i64) (.one .bool)))))) (.one (.cons (.int .i64) (.cons (.int .i64) (.cons (.int .i64) (.cons (.sl (.int .i64)) (.cons (.sl (.int .i64)) (.one (.sl (.int .i64))))))))))) [.slice adxa_6 xa.2.2.2.2.2.2.length cpxa_6] xa.2.2.2.2.2.2) {r : Bool} (h : fn_valid_OK xa = some r) :
    Tr Tryz.prog 34 #[.agg #[ii xa.1, ii xa.2.1, .slice adxa_2 xa.2.2.1.length cpxa_2, .slice adxa_3 xa.2.2.2.1.length cpxa_3, .slice adxa_4 xa.2.2.2.2.1.length cpxa_4, .slice adxa_5 xa.2.2.2.2.2.1.length cpxa_5, .slice adxa_6 xa.2.2.2.2.2.2.length cpxa_6]] K [] (fun v K' L' => (∃ (t11 : Bool), t11 = r ∧ .bool t11 = v ∧ L' = []) ∧ K = K') := by
 refine Tr.k <| Tr.of Tryz.func34 rfl Tryz.ntmps34 rfl fun E F => ?_
 unfold fn_valid_OK at h
 refine cr <| jbx [ii xa.1, ii xa.2.1, .slice adxa_2 xa.2.2.1.length cpxa_2, .slice adxa_3 xa.2.2.2.1.length cpxa_3, .slice adxa_4 xa.2.2.2.2.1.length cpxa_4, .slice adxa_5 xa.2.2.2.2.2.1.length cpxa_5, .slice adxa_6 xa.2.2.2.2.2.2.length cpxa_6] rfl rfl fun b12 => ja (.bool false) rfl <| J.nil <| CJ.seq <| CJ.region ?_
 refine jv (.agg #[ii xa.1, ii xa.2.1, .slice adxa_2 xa.2.2.1.length cpxa_2, .slice adxa_3 xa.2.2.2.1.length cpxa_3, .slice adxa_4 xa.2.2.2.2.1.length cpxa_4, .slice adxa_5 xa.2.2.2.2.2.1.length cpxa_5, .slice adxa_6 xa.2.2.2.2.2.2.length cpxa_6]) (V.ld rfl (Ld.agg (cs := [ii xa.1, ii xa.2.1, .slice adxa_2 xa.2.2.1.length cpxa_2, .slice adxa_3 xa.2.2.2.1.length cpxa_3, .slice adxa_4 xa.2.2.2.2.1.length cpxa_4, .slice adxa_5 xa.2.2.2.2.2.1.length cpxa_5, .slice adxa_6 xa.2.2.2.2.2.2.length cpxa_6]) Tryz.underlying30 sz30 rfl (Rd.cls 0 0 rfl rfl))) ?_
 obtain ⟨r13, hr14, h⟩ := ob h
 refine J.op rfl (A.call (L1 := []) Tryz.call55 rfl (valid_Check_az_ok fxa_2 fxa_3 fxa_4 fxa_5 fxa_6 hr14) rfl rfl) ?_
 rintro _ _ _ ⟨v20, _, rfl, ⟨⟨i15, i17, i18, i19, rfl, rfl, rfl⟩, rfl⟩, _, rfl⟩
 refine jv (ii i15) (V.fld (ft := 0) Tryz.underlying111 rfl (Ld0.sc sc88 rfl) rfl) <| jv (.bool (decide (i15 = 0))) (V.eql rfl rfl) <| ja (.bool (decide (i15 = 0))) rfl <| J.nil <| CJ.ret ?_
 obtain rfl := si h
 exact ⟨_, _, Res.one rfl rfl, ⟨decide (i15 = 0), rfl, rfl, rfl⟩, (Hp.le_refl _), fun w hs => (Sep.dropAt 0 rfl hs)⟩
noncomputable def fn_point_New_l1 (xa : (Int × Int × (List (Int × Int)) × (List (List (Int × Bool))) × (List (Int × Bool)) × (List (Int × (List (Int × Int)) × (List (List (Int × Bool))) × (List (Int × Bool)))) × (List ((List (Int × Int × Int × Int × Bool)) × (Int × Int × Int × (List Int) × (List Int) × (List Int)))))) : (Int × (List Int) × Int) → Option ((Int × (List Int) × Int) ⊕ ((List Int) × Int)) := fun ((i603, l604, i609) : (Int × (List Int) × Int)) => cond (decide (i603 < (((xa.2.2.2.2.2.2.length : Nat) : Int)))) ((getI xa.2.2.2.2.2.2 i603).bind fun x668 => (app l604 ([i609] : List Int)).bind fun z706 => some (.inl ((IntKind.wrap .i64 (i603 + 1), z706, IntKind.wrap .i64 (i609 + (IntKind.wrap .i64 ((((x668.1.length : Nat) : Int)) + 1))))))) (some (.inr (((l604, i609)))))
noncomputable def fn_point_New (xa : (Int × Int × (List (Int × Int)) × (List (List (Int × Bool))) × (List (Int × Bool)) × (List (Int × (List (Int × Int)) × (List (List (Int × Bool))) × (List (Int × Bool)))) × (List ((List (Int × Int × Int × Int × Bool)) × (Int × Int × Int × (List Int) × (List Int) × (List Int)))))) : Option ((Option ((List Int) × Int))) :=
  (fn_valid_OK (xa.1, xa.2.1, xa.2.2.1, xa.2.2.2.1, xa.2.2.2.2.1, xa.2.2.2.2.2.1, xa.2.2.2.2.2.2)).bind fun t366 => cond (!t366) (some ((some ([], 0)))) ((loop (fn_point_New_l1 xa) (0, [], 0) : Option (((List Int) × Int))).bind fun (l539, i544) => some ((some (l539, i544))))
set_option maxRecDepth 100000 in
set_option maxHeartbeats 4000000 in
theorem point_New_ok {K : Hp} {xa : (Int × Int × (List (Int × Int)) × (List (List (Int × Bool))) × (List (Int × Bool)) × (List (Int × (List (Int × Int)) × (List (List (Int × Bool))) × (List (Int × Bool)))) × (List ((List (Int × Int × Int × Int × Bool)) × (Int × Int × Int × (List Int) × (List Int) × (List Int)))))} {adxa_2 : Option Addr} {cpxa_2 : Nat} {adxa_3 : Option Addr} {cpxa_3 : Nat} {adxa_4 : Option Addr} {cpxa_4 : Nat} {adxa_5 : Option Addr} {cpxa_5 : Nat} {adxa_6 : Option Addr} {cpxa_6 : Nat} (fxa_2 : Is K (.sl (.cons (.int .i64) (.one (.int .i64)))) [.slice adxa_2 xa.2.2.1.length cpxa_2] xa.2.2.1) (fxa_3 : Is K (.sl (.one (.sl (.cons (.int .i64) (.one .bool))))) [.slice adxa_3 xa.2.2.2.1.length cpxa_3] xa.2.2.2.1) (fxa_4 : Is K (.sl (.cons (.int .i64) (.one .bool))) [.slice adxa_4 xa.2.2.2.2.1.length cpxa_4] xa.2.2.2.2.1) (fxa_5 : Is K (.sl (.cons (.int .i64) (.cons (.sl (.cons (.int .i64) (.one (.int .i64)))) (.cons (.sl (.one (.sl (.cons (.int .i64) (.one .bool))))) (.one (.one (.sl (.cons (.int .i64) (.one .bool))))))))) [.slice adxa_5 xa.2.2.2.2.2.1.length cpxa_5] xa.2.2.2.2.2.1) (fxa_6 : Is K (.sl (.cons (.sl (.cons (.int .i64) (.cons (.int .i64) (.cons (.int .i64) (.cons (.int .i64) (.one .bool)))))) (.one (.cons (.int .i64) (.cons (.int .i64) (.cons (.int .i64) (.cons (.sl (.int .i64)) (.cons (.sl (.int .i64)) (.one (.sl (.int .i64))))))))))) [.slice adxa_6 xa.2.2.2.2.2.2.length cpxa_6] xa.2.2.2.2.2.2) {r : (Option ((List Int) × Int))} (h : fn_point_New xa = some r) :
    Tr Tryz.prog 21 #[.agg #[ii xa.1, ii xa.2.1, .slice adxa_2 xa.2.2.1.length cpxa_2, .slice adxa_3 xa.2.2.2.1.length cpxa_3, .slice adxa_4 xa.2.2.2.2.1.length cpxa_4, .slice adxa_5 xa.2.2.2.2.2.1.length cpxa_5, .slice adxa_6 xa.2.2.2.2.2.2.length cpxa_6]] K [] (fun v K' L' => (∃ (p359 : (Option ((List Int) × Int))) (v360 : Value), p359 = r ∧ v360 = v ∧ Is K' (.ptr (.cons (.sl (.int .i64)) (.one (.int .i64)))) [v360] p359 ∧ L' = [])) := by
 refine Tr.of Tryz.func21 rfl Tryz.ntmps21 rfl fun E F => ?_
 unfold fn_point_New at h
 refine cr <| jbx [ii xa.1, ii xa.2.1, .slice adxa_2 xa.2.2.1.length cpxa_2, .slice adxa_3 xa.2.2.2.1.length cpxa_3, .slice adxa_4 xa.2.2.2.2.1.length cpxa_4, .slice adxa_5 xa.2.2.2.2.2.1.length cpxa_5, .slice adxa_6 xa.2.2.2.2.2.2.length cpxa_6] rfl rfl fun b362 => ja (.pointer none) rfl <| J.nil <| CJ.seq <| CJ.region ?_
 refine jv (.agg #[nos, ii 0]) (V.build inf98 places98 rfl rfl) <| jbx [nos, ii 0] rfl rfl fun b363 => ja _ rfl <| J.nil <| CJ.seq <| CJ.seq <| CJ.region ?_
 refine jv (.agg #[ii xa.1, ii xa.2.1, .slice adxa_2 xa.2.2.1.length cpxa_2, .slice adxa_3 xa.2.2.2.1.length cpxa_3, .slice adxa_4 xa.2.2.2.2.1.length cpxa_4, .slice adxa_5 xa.2.2.2.2.2.1.length cpxa_5, .slice adxa_6 xa.2.2.2.2.2.2.length cpxa_6]) (V.ld rfl (Ld.agg (cs := [ii xa.1, ii xa.2.1, .slice adxa_2 xa.2.2.1.length cpxa_2, .slice adxa_3 xa.2.2.2.1.length cpxa_3, .slice adxa_4 xa.2.2.2.2.1.length cpxa_4, .slice adxa_5 xa.2.2.2.2.2.1.length cpxa_5, .slice adxa_6 xa.2.2.2.2.2.2.length cpxa_6]) Tryz.underlying30 sz30 rfl (Rd.cls 1 0 rfl rfl))) ?_
 obtain ⟨r364, hr365, h⟩ := ob h
 refine J.op rfl (A.call (L1 := []) Tryz.call34 rfl (valid_OK_ok fxa_2 fxa_3 fxa_4 fxa_5 fxa_6 hr365) rfl rfl) ?_
 rintro _ _ _ ⟨v367, _, rfl, ⟨⟨t366, rfl, rfl, rfl⟩, rfl⟩, _, rfl⟩
 refine jv (.bool (!t366)) (V.not rfl) <| J.nil <| cc rfl h (fun hc370 h => ?_) fun hc370 h => ?_
 · refine cr <| jm _ rfl <| ja _ rfl <| J.nil <| CJ.persistAt (t := (.cons (.sl (.int .i64)) (.one (.int .i64)))) (x := ([], 0)) ⟨_, _, rfl, rfl, (isNil (K := K) (t := (.int .i64))), rfl⟩ fun K371 hK372 a373 => CJ.ret ?_
   obtain rfl := si h
   exact ⟨_, _, Res.one rfl rfl, ⟨(some ([], 0)), .pointer (some ⟨b363, 0, none⟩), rfl, rfl, (At.is_ptr a373), rfl⟩, hK372, fun w hs => (Sep.dropAt 0 rfl hs)⟩
 refine CJ.skip <| CJ.seq <| cr <| jv _ (V.fad Tryz.underlying30 rfl nz28 rfl) <| jv (.slice adxa_6 xa.2.2.2.2.2.2.length cpxa_6) (V.ld rfl (Ld.sc sc28 (Rd.cl 1 rfl rfl))) <| jv (ii (((xa.2.2.2.2.2.2.length : Nat) : Int))) (V.len Tryz.underlying28 rfl) ?_
 refine jm (ii 0) rfl <| J.nil ?_
 obtain ⟨o545, ho546, h⟩ := ob h
 refine CJ.meetN (fun ρ K' L' => ∃ (l539 : (List Int)) (i544 : Int) (ad540 : Option Addr) (cp541 : Nat), (l539, i544) = o545 ∧ Fits [(3, .pointer (some ⟨b363, 0, none⟩))] ρ ∧ K = K' ∧ L' = Cl b363 98 [.slice ad540 l539.length cp541, ii i544] :: Row Hp.nil 3 (.int .i64) (.slice ad540 l539.length cp541) l539 :: F) ?_ ?_
 · refine CJ.block <| CJ.by (fun w hs => Sep.rowNil (e := 3) (t := (.int .i64)) hs) <| CJ.dropAt 2 rfl <| CJ.front 1 rfl <| CJ.loop (fun s ρ K' L' => ∃ (i603 : Int) (l604 : (List Int)) (i609 : Int) (ad605 : Option Addr) (cp606 : Nat), (i603, l604, i609) = s ∧ Fits [(3, .pointer (some ⟨b363, 0, none⟩)), (13, .slice adxa_6 xa.2.2.2.2.2.2.length cpxa_6), (14, ii (((xa.2.2.2.2.2.2.length : Nat) : Int))), (15, ii i603)] ρ ∧ K = K' ∧ L' = Cl b363 98 [.slice ad605 l604.length cp606, ii i609] :: Row Hp.nil 3 (.int .i64) (.slice ad605 l604.length cp606) l604 :: F) ho546 ⟨0, [], 0, none, 0, rfl, ⟨rfl, rfl, rfl, rfl, trivial⟩, rfl, rfl⟩ ?_
   rintro s ρ _ _ r666 ⟨i603, l604, i609, ad605, cp606, rfl, hf664, rfl, rfl⟩ h662
   obtain ⟨ρ, rfl⟩ := hf664.ex
   refine CJ.front 1 rfl <| CJ.wit Row.hn fun hn608 => cr <| jv (.bool (decide (i603 < (((xa.2.2.2.2.2.2.length : Nat) : Int))))) (V.lss rfl rfl) <| J.nil <| CJ.seq ?_
   refine cc rfl h662 (fun hc667 h662 => ?_) fun hc667 h662 => ?_
   · refine CJ.skip <| CJ.seq <| CJ.block <| CJ.seq <| CJ.region ?_
     obtain ⟨x668, hx669, h662⟩ := ob h662
     obtain ⟨p670, p671, p672⟩ := getI_some hx669
     obtain ⟨b673, o674, e675, a676⟩ := (fxa_6).at p671
     refine jv _ (V.iad Tryz.underlying28 sz63 rfl e675 rfl p670 p672) ?_
     obtain ⟨ad677, cp678, c679, f680⟩ := ((a676).fst).sl
     obtain ⟨ad681, cp682, c683, f684⟩ := (((((((a676).snd).one).snd).snd).snd).fst).sl
     obtain ⟨ad685, cp686, c687, f688⟩ := ((((((((a676).snd).one).snd).snd).snd).snd).fst).sl
     obtain ⟨ad689, cp690, c691, f692⟩ := (((((((((a676).snd).one).snd).snd).snd).snd).snd).one).sl
     refine jv (.agg #[.slice ad677 x668.1.length cp678, ii x668.2.1, ii x668.2.2.1, ii x668.2.2.2.1, .slice ad681 x668.2.2.2.2.1.length cp682, .slice ad685 x668.2.2.2.2.2.1.length cp686, .slice ad689 x668.2.2.2.2.2.2.length cp690]) (V.ld rfl (Ld.aggK (cs := [.slice ad677 x668.1.length cp678, ii x668.2.1, ii x668.2.2.1, ii x668.2.2.2.1, .slice ad681 x668.2.2.2.2.1.length cp682, .slice ad685 x668.2.2.2.2.2.1.length cp686, .slice ad689 x668.2.2.2.2.2.2.length cp690]) Tryz.underlying63 sz63 rfl ⟨c679, ((((a676).snd).one).fst).int, (((((a676).snd).one).snd).fst).int, ((((((a676).snd).one).snd).snd).fst).int, c683, c687, c691, trivial⟩ (Hp.le_refl _))) <| jal inf63 [nos, ii 0, ii 0, ii 0, nos, nos, nos] rfl fun b693 => js [.slice ad677 x668.1.length cp678, ii x668.2.1, ii x668.2.2.1, ii x668.2.2.2.1, .slice ad681 x668.2.2.2.2.1.length cp682, .slice ad685 x668.2.2.2.2.2.1.length cp686, .slice ad689 x668.2.2.2.2.2.2.length cp690] sz63 rfl rfl rfl rfl rfl rfl <| J.nil <| CJ.seq <| CJ.mix [Cl b693 63 [.slice ad677 x668.1.length cp678, ii x668.2.1, ii x668.2.2.1, ii x668.2.2.2.1, .slice ad681 x668.2.2.2.2.1.length cp682, .slice ad685 x668.2.2.2.2.2.1.length cp686, .slice ad689 x668.2.2.2.2.2.2.length cp690], Cl b363 98 [.slice ad605 l604.length cp606, ii i609]] [([0, 1, 2, 3, 4, 5, 6, 7, 8], 9), ([], 10)] [11, 12] [13] mixO (by decide +kernel) ⟨0, rfl, 1, rfl, trivial⟩ rfl rfl rfl <| JM.cons ?_
     refine qm _ rfl <| qm _ rfl <| qv _ (V.nck rfl) <| qv _ (V.fad Tryz.underlying98 rfl nz59 rfl) <| qv (.slice ad605 l604.length cp606) (V.ld rfl (Ld.sc sc59 (Rd.cl 1 rfl rfl))) <| qm _ rfl <| qv _ (V.nck rfl) ?_
     refine qv _ (V.fad Tryz.underlying98 rfl nz3 rfl) <| qv (ii i609) (V.ld rfl (Ld.sc sc3 (Rd.cl 1 rfl rfl))) <| JQ.nil ?_
     refine JA.op rfl (A.lit (K0 := Hp.nil) (ty := (.int .i64)) (xs := ([i609] : List Int)) Tryz.underlying59 inf3 rfl (by decide) rfl rfl rfl ⟨_, _, rfl, rfl, rfl⟩ rfl (by decide)) ?_
     rintro _ _ _ ⟨b703, rfl, rfl, rfl⟩
     have hn704 : ([i609] : List Int) ≠ [] → ∃ g, (some ⟨b703, 0, none⟩ : Option Addr) = some ⟨g, 0, none⟩ := fun _ => ⟨b703, rfl⟩
     refine ⟨fun w hs => Hold.sub (Hp.le_refl _) ⟨1, rfl, 2, rfl, trivial⟩ hs, ?_⟩
     refine JM.cons <| JQ.nil ?_
     obtain ⟨z706, hz707, h662⟩ := ob h662
     refine JA.front 2 rfl <| JA.op rfl (A.appR (Kr := Hp.nil) Tryz.underlying59 inf3 rfl rfl (by decide) (by decide) rfl rfl (Els.flat rfl) (Els.flat rfl) hz707) ?_
     rintro _ _ _ ⟨v708, rfl, rfl, rfl⟩
     refine ⟨fun w hs => Hold.sub (Hp.le_refl _) ⟨1, rfl, 1, rfl, trivial⟩ hs, ?_⟩
     refine JM.wit Row.form ?_
     rintro ⟨ad709, cp710, rfl, _, _, hn711⟩
     refine JM.nil <| qv _ (V.nck rfl) <| qv _ (V.fad Tryz.underlying98 rfl nz59 rfl) <| JQ.nil <| J.front 2 rfl <| js1 [.slice ad709 z706.length cp710, ii i609] sz59 rfl rfl rfl rfl rfl rfl <| J.nil ?_
     refine CJ.mix [Cl b363 98 [.slice ad709 z706.length cp710, ii i609], Row Hp.nil 3 (.int .i64) (.slice ad709 z706.length cp710) z706, Cl b693 63 [.slice ad677 x668.1.length cp678, ii x668.2.1, ii x668.2.2.1, ii x668.2.2.2.1, .slice ad681 x668.2.2.2.2.1.length cp682, .slice ad685 x668.2.2.2.2.2.1.length cp686, .slice ad689 x668.2.2.2.2.2.2.length cp690]] [] [0, 1, 2, 3, 4, 5, 6, 7, 8, 9, 10] [11] mixO (by decide +kernel) ⟨0, rfl, 0, rfl, 0, rfl, trivial⟩ rfl rfl rfl <| JM.nil <| qm _ rfl <| qv _ (V.nck rfl) <| qv _ (V.fad Tryz.underlying98 rfl nz3 rfl) <| qv (ii i609) (V.ld rfl (Ld.sc sc3 (Rd.cl 0 rfl rfl))) <| qv _ (V.fad Tryz.underlying63 rfl nz58 rfl) ?_
     refine qv (.slice ad677 x668.1.length cp678) (V.ld rfl (Ld.sc sc58 (Rd.cl 2 rfl rfl))) <| qv (ii (((x668.1.length : Nat) : Int))) (V.len Tryz.underlying58 rfl) <| qv (ii (IntKind.wrap .i64 ((((x668.1.length : Nat) : Int)) + 1))) (V.add rfl rfl) <| qv (ii (IntKind.wrap .i64 (i609 + (IntKind.wrap .i64 ((((x668.1.length : Nat) : Int)) + 1))))) (V.add rfl rfl) <| qv _ (V.nck rfl) <| qv _ (V.fad Tryz.underlying98 rfl nz3 rfl) <| JQ.nil ?_
     refine js1 [.slice ad709 z706.length cp710, ii (IntKind.wrap .i64 (i609 + (IntKind.wrap .i64 ((((x668.1.length : Nat) : Int)) + 1))))] sz3 rfl rfl rfl rfl rfl rfl <| J.nil <| CJ.region <| jv (ii (IntKind.wrap .i64 (i603 + 1))) (V.add rfl rfl) <| jm (ii (IntKind.wrap .i64 (i603 + 1))) rfl <| J.dropAt 2 rfl <| J.nil ?_
     obtain rfl := si h662
     exact ⟨rfl, ⟨IntKind.wrap .i64 (i603 + 1), z706, IntKind.wrap .i64 (i609 + (IntKind.wrap .i64 ((((x668.1.length : Nat) : Int)) + 1))), ad709, cp710, rfl, ⟨rfl, rfl, rfl, rfl, trivial⟩, rfl, rfl⟩⟩
   refine CJ.front 1 rfl <| CJ.exit ?_
   obtain rfl := si h662
   refine ⟨nofun, fun e => ?_⟩
   subst e
   exact ⟨rfl, ⟨l604, i609, ad605, cp606, rfl, ⟨rfl, trivial⟩, rfl, rfl⟩⟩
 rintro ρ _ _ ⟨l539, i544, ad540, cp541, rfl, hf712, rfl, rfl⟩
 obtain ⟨ρ, rfl⟩ := hf712.ex
 refine PJ.front 1 rfl <| PJ.wit Row.hn fun hn543 => PJ.done <| cr <| jm _ rfl <| ja _ rfl ?_
 refine J.nil <| CJ.persist (Hp.nil_le _) (by decide) fun K714 hK715 f716 => CJ.persistAt (t := (.cons (.sl (.int .i64)) (.one (.int .i64)))) (x := (l539, i544)) ⟨_, _, rfl, rfl, f716, rfl⟩ fun K717 hK718 a719 => CJ.ret ?_
 obtain rfl := si h
 exact ⟨_, _, Res.one rfl rfl, ⟨(some (l539, i544)), .pointer (some ⟨b363, 0, none⟩), rfl, rfl, (At.is_ptr a719), rfl⟩, (hK715.trans hK718), fun w hs => hs⟩

noncomputable def fn_point_Points_Len (xa : (Option ((List Int) × Int))) : Option Int :=
  cond (xa.isNone) (some (0)) ((xa : Option ((List Int) × Int)).bind fun y11 => some (y11.2))
set_option maxRecDepth 100000 in
set_option maxHeartbeats 4000000 in
theorem point_Points_Len_ok {K : Hp} {xa : (Option ((List Int) × Int))} {vxa_0 : Value} (fxa_0 : Is K (.ptr (.cons (.sl (.int .i64)) (.one (.int .i64)))) [vxa_0] xa) {r : Int} (h : fn_point_Points_Len xa = some r) :
    Tr Tryz.prog 22 #[vxa_0] K [] (fun v K' L' => (∃ (i9 : Int), i9 = r ∧ ii i9 = v ∧ L' = []) ∧ K = K') := by
 refine Tr.k <| Tr.of Tryz.func22 rfl Tryz.ntmps22 rfl fun E F => ?_
 unfold fn_point_Points_Len at h
 refine cr <| ja (ii 0) rfl <| J.nil <| CJ.seq <| CJ.seq <| CJ.region ?_
 refine jm vxa_0 rfl <| jv (.bool xa.isNone) (V.kp_eql Tryz.underlying73 fxa_0 rfl rfl) <| J.nil <| cc rfl h (fun hc10 h => ?_) fun hc10 h => ?_
 · refine cr <| ja (ii 0) rfl <| J.nil <| CJ.ret ?_
   obtain rfl := si h
   exact ⟨_, _, Res.one rfl rfl, ⟨0, rfl, rfl, rfl⟩, (Hp.le_refl _), fun w hs => hs⟩
 refine CJ.skip <| cr <| jm vxa_0 rfl ?_
 obtain ⟨y11, hy12, h⟩ := ob h
 obtain ⟨b13, o14, hv15, a16⟩ := Is.psome fxa_0 hy12
 refine jv _ (V.nck hv15) <| jv _ (V.fad Tryz.underlying98 rfl nz3 rfl) <| jv (ii y11.2) (V.ld rfl (Ld.sc sc3 (Rd.k (((a16).snd).one).int (Hp.le_refl _)))) <| ja (ii y11.2) rfl <| J.nil <| CJ.ret ?_
 obtain rfl := si h
 exact ⟨_, _, Res.one rfl rfl, ⟨y11.2, rfl, rfl, rfl⟩, (Hp.le_refl _), fun w hs => hs⟩

noncomputable def fn_point_Points_At_1_ip0p1_kp_i (xa : Int) (qa0 : (Option ((List Int) × Int))) (qb0 : Int) : Option Bool :=
  (qa0 : Option ((List Int) × Int)).bind fun y59 => (getI y59.1 xa).bind fun x69 => some (decide (qb0 < x69))
set_option maxRecDepth 100000 in
set_option maxHeartbeats 4000000 in
theorem point_Points_At_1_ip0p1_kp_i_ok {K : Hp} {xa : Int} {qa0 : (Option ((List Int) × Int))} {qb0 : Int} {pba : Nat} {pbb : Nat} {vqa0 : Value} (fqa0 : Is K (.ptr (.cons (.sl (.int .i64)) (.one (.int .i64)))) [vqa0] qa0) {r : Bool} (h : fn_point_Points_At_1_ip0p1_kp_i xa qa0 qb0 = some r) :
    Tr Tryz.prog 57 #[ii xa, .pointer (some ⟨pba, 0, none⟩), .pointer (some ⟨pbb, 0, none⟩)] K [Cl pba 73 [vqa0], Cl pbb 3 [ii qb0]] (fun v K' L' => (∃ (t39 : Bool), t39 = r ∧ .bool t39 = v ∧ L' = [Cl pba 73 [vqa0], Cl pbb 3 [ii qb0]]) ∧ K = K') := by
 refine Tr.k <| Tr.of Tryz.func57 rfl Tryz.ntmps57 rfl fun E F => ?_
 unfold fn_point_Points_At_1_ip0p1_kp_i at h
 refine cr <| ja (.bool false) rfl <| J.nil <| CJ.seq <| CJ.mix [Cl pba 73 [vqa0], Cl pbb 3 [ii qb0]] [] [0, 1, 2, 3, 4, 5, 6, 7, 8, 9] [] mixO (by decide +kernel) ⟨0, rfl, 0, rfl, trivial⟩ rfl rfl rfl <| JM.nil ?_
 refine qv vqa0 (V.ld rfl (Ld.sc sc73 (Rd.cl 0 rfl rfl))) ?_
 obtain ⟨y59, hy60, h⟩ := ob h
 obtain ⟨b61, o62, hv63, a64⟩ := Is.psome fqa0 hy60
 refine qv _ (V.nck hv63) <| qv _ (V.fad Tryz.underlying98 rfl nz59 rfl) ?_
 obtain ⟨ad65, cp66, c67, f68⟩ := ((a64).fst).sl
 refine qv (.slice ad65 y59.1.length cp66) (V.ld rfl (Ld.sc sc59 (Rd.k c67 (Hp.le_refl _)))) <| qm (ii xa) rfl ?_
 obtain ⟨x69, hx70, h⟩ := ob h
 obtain ⟨p71, p72, p73⟩ := getI_some hx70
 obtain ⟨b74, o75, e76, a77⟩ := (f68).at p72
 refine qv _ (V.iad Tryz.underlying59 sz3 rfl e76 rfl p71 p73) <| qv (ii x69) (V.ld rfl (Ld.sc sc3 (Rd.k (a77).int (Hp.le_refl _)))) <| qv (ii qb0) (V.ld rfl (Ld.sc sc3 (Rd.cl 1 rfl rfl))) <| qv (.bool (decide (qb0 < x69))) (V.gtr rfl rfl) <| qa (.bool (decide (qb0 < x69))) rfl <| JQ.nil <| J.nil ?_
 refine CJ.ret ?_
 obtain rfl := si h
 exact ⟨_, _, Res.one rfl rfl, ⟨decide (qb0 < x69), rfl, rfl, rfl⟩, (Hp.le_refl _), fun w hs => hs⟩
noncomputable def fn_sort_Search_i_point_Points_At_1_p0p1_kp_i_l1 (qa0 : (Option ((List Int) × Int))) (qb0 : Int) : (Int × Int) → Option ((Int × Int) ⊕ Int) := fun ((i122, i123) : (Int × Int)) => cond (decide (i122 < i123)) ((fn_point_Points_At_1_ip0p1_kp_i (IntKind.wrap .i64 (Int.fdiv (IntKind.wrap .u64 (IntKind.wrap .i64 (i122 + i123))) (2 ^ (min (Int.toNat 1) (IntKind.bits .u64))))) qa0 qb0).bind fun t141 => cond (!t141) (some (.inl ((IntKind.wrap .i64 ((IntKind.wrap .i64 (Int.fdiv (IntKind.wrap .u64 (IntKind.wrap .i64 (i122 + i123))) (2 ^ (min (Int.toNat 1) (IntKind.bits .u64))))) + 1), i123)))) (some (.inl ((i122, IntKind.wrap .i64 (Int.fdiv (IntKind.wrap .u64 (IntKind.wrap .i64 (i122 + i123))) (2 ^ (min (Int.toNat 1) (IntKind.bits .u64))))))))) (some (.inr (i122)))
noncomputable def fn_sort_Search_i_point_Points_At_1_p0p1_kp_i (xa : Int) (qa0 : (Option ((List Int) × Int))) (qb0 : Int) : Option Int :=
  (loop (fn_sort_Search_i_point_Points_At_1_p0p1_kp_i_l1 qa0 qb0) (0, xa) : Option Int).bind fun i109 => some (i109)
set_option maxRecDepth 100000 in
set_option maxHeartbeats 4000000 in
theorem sort_Search_i_point_Points_At_1_p0p1_kp_i_ok {K : Hp} {xa : Int} {qa0 : (Option ((List Int) × Int))} {qb0 : Int} {pba : Nat} {pbb : Nat} {vqa0 : Value} (fqa0 : Is K (.ptr (.cons (.sl (.int .i64)) (.one (.int .i64)))) [vqa0] qa0) {r : Int} (h : fn_sort_Search_i_point_Points_At_1_p0p1_kp_i xa qa0 qb0 = some r) :
    Tr Tryz.prog 56 #[ii xa, .func (.func 57) #[] #[.pointer (some ⟨pba, 0, none⟩), .pointer (some ⟨pbb, 0, none⟩)]] K [Cl pba 73 [vqa0], Cl pbb 3 [ii qb0]] (fun v K' L' => (∃ (i74 : Int), i74 = r ∧ ii i74 = v ∧ L' = [Cl pba 73 [vqa0], Cl pbb 3 [ii qb0]]) ∧ K = K') := by
 refine Tr.k <| Tr.of Tryz.func56 rfl Tryz.ntmps56 rfl fun E F => ?_
 unfold fn_sort_Search_i_point_Points_At_1_p0p1_kp_i at h
 refine cr <| ja (ii 0) rfl <| J.nil <| cr <| jm (ii xa) rfl ?_
 refine ja (ii 0) rfl <| ja (ii xa) rfl <| J.nil <| CJ.seq ?_
 obtain ⟨o110, ho111, h⟩ := ob h
 refine CJ.meetN (fun ρ K' L' => ∃ (i109 : Int), i109 = o110 ∧ Fits [(5, ii i109)] ρ ∧ K = K' ∧ L' = Cl pba 73 [vqa0] :: Cl pbb 3 [ii qb0] :: F) ?_ ?_
 · refine CJ.block <| CJ.loop (fun s ρ K' L' => ∃ (i122 : Int) (i123 : Int), (i122, i123) = s ∧ Fits [(1, .func (.func 57) #[] #[.pointer (some ⟨pba, 0, none⟩), .pointer (some ⟨pbb, 0, none⟩)]), (5, ii i122), (6, ii i123)] ρ ∧ K = K' ∧ L' = Cl pba 73 [vqa0] :: Cl pbb 3 [ii qb0] :: F) ho111 ⟨0, xa, rfl, ⟨rfl, rfl, rfl, trivial⟩, rfl, rfl⟩ ?_
   rintro s ρ _ _ r137 ⟨i122, i123, rfl, hf135, rfl, rfl⟩ h134
   obtain ⟨ρ, rfl⟩ := hf135.ex
   refine CJ.seq <| cr <| jm (ii i122) rfl <| jm (ii i123) rfl <| jv (.bool (decide (i122 < i123))) (V.lss rfl rfl) <| J.nil ?_
   refine cc rfl h134 (fun hc138 h134 => ?_) fun hc138 h134 => ?_
   · refine CJ.skip <| CJ.block <| cr <| jm (ii i122) rfl <| jm (ii i123) rfl <| jv (ii (IntKind.wrap .i64 (i122 + i123))) (V.add rfl rfl) ?_
     refine jv (.int .u64 (IntKind.wrap .u64 (IntKind.wrap .i64 (i122 + i123)))) (V.conv Tryz.underlying3 Tryz.underlying127 rfl) <| jv (.int .u64 (Int.fdiv (IntKind.wrap .u64 (IntKind.wrap .i64 (i122 + i123))) (2 ^ (min (Int.toNat 1) (IntKind.bits .u64))))) (V.shr rfl rfl (by decide)) <| jv (ii (IntKind.wrap .i64 (Int.fdiv (IntKind.wrap .u64 (IntKind.wrap .i64 (i122 + i123))) (2 ^ (min (Int.toNat 1) (IntKind.bits .u64)))))) (V.conv Tryz.underlying127 Tryz.underlying3 rfl) <| ja (ii (IntKind.wrap .i64 (Int.fdiv (IntKind.wrap .u64 (IntKind.wrap .i64 (i122 + i123))) (2 ^ (min (Int.toNat 1) (IntKind.bits .u64)))))) rfl <| J.nil <| CJ.seq <| CJ.region ?_
     refine jm (.func (.func 57) #[] #[.pointer (some ⟨pba, 0, none⟩), .pointer (some ⟨pbb, 0, none⟩)]) rfl <| jm (ii (IntKind.wrap .i64 (Int.fdiv (IntKind.wrap .u64 (IntKind.wrap .i64 (i122 + i123))) (2 ^ (min (Int.toNat 1) (IntKind.bits .u64)))))) rfl ?_
     obtain ⟨r139, hr140, h134⟩ := ob h134
     refine J.op rfl (A.call (L1 := [Cl pba 73 [vqa0], Cl pbb 3 [ii qb0]]) Tryz.call57 rfl (point_Points_At_1_ip0p1_kp_i_ok fqa0 hr140) rfl rfl) ?_
     rintro _ _ _ ⟨v142, _, rfl, ⟨⟨t141, rfl, rfl, rfl⟩, rfl⟩, _, rfl⟩
     refine jv (.bool (!t141)) (V.not rfl) <| J.nil <| cc rfl h134 (fun hc145 h134 => ?_) fun hc145 h134 => ?_
     · refine CJ.region <| jm (ii (IntKind.wrap .i64 (Int.fdiv (IntKind.wrap .u64 (IntKind.wrap .i64 (i122 + i123))) (2 ^ (min (Int.toNat 1) (IntKind.bits .u64)))))) rfl <| jv (ii (IntKind.wrap .i64 ((IntKind.wrap .i64 (Int.fdiv (IntKind.wrap .u64 (IntKind.wrap .i64 (i122 + i123))) (2 ^ (min (Int.toNat 1) (IntKind.bits .u64))))) + 1))) (V.add rfl rfl) <| ja (ii (IntKind.wrap .i64 ((IntKind.wrap .i64 (Int.fdiv (IntKind.wrap .u64 (IntKind.wrap .i64 (i122 + i123))) (2 ^ (min (Int.toNat 1) (IntKind.bits .u64))))) + 1))) rfl <| J.nil ?_
       obtain rfl := si h134
       exact ⟨rfl, ⟨IntKind.wrap .i64 ((IntKind.wrap .i64 (Int.fdiv (IntKind.wrap .u64 (IntKind.wrap .i64 (i122 + i123))) (2 ^ (min (Int.toNat 1) (IntKind.bits .u64))))) + 1), i123, rfl, ⟨rfl, rfl, rfl, trivial⟩, rfl, rfl⟩⟩
     refine CJ.region <| jm (ii (IntKind.wrap .i64 (Int.fdiv (IntKind.wrap .u64 (IntKind.wrap .i64 (i122 + i123))) (2 ^ (min (Int.toNat 1) (IntKind.bits .u64)))))) rfl <| ja (ii (IntKind.wrap .i64 (Int.fdiv (IntKind.wrap .u64 (IntKind.wrap .i64 (i122 + i123))) (2 ^ (min (Int.toNat 1) (IntKind.bits .u64)))))) rfl <| J.nil ?_
     obtain rfl := si h134
     exact ⟨rfl, ⟨i122, IntKind.wrap .i64 (Int.fdiv (IntKind.wrap .u64 (IntKind.wrap .i64 (i122 + i123))) (2 ^ (min (Int.toNat 1) (IntKind.bits .u64)))), rfl, ⟨rfl, rfl, rfl, trivial⟩, rfl, rfl⟩⟩
   refine CJ.exit ?_
   obtain rfl := si h134
   refine ⟨nofun, fun e => ?_⟩
   subst e
   exact ⟨rfl, ⟨i122, rfl, ⟨rfl, trivial⟩, rfl, rfl⟩⟩
 rintro ρ _ _ ⟨i109, rfl, hf146, rfl, rfl⟩
 obtain ⟨ρ, rfl⟩ := hf146.ex
 refine PJ.done <| cr <| jm (ii i109) rfl <| ja (ii i109) rfl <| J.nil <| CJ.ret ?_
 obtain rfl := si h
 exact ⟨_, _, Res.one rfl rfl, ⟨i109, rfl, rfl, rfl⟩, (Hp.le_refl _), fun w hs => hs⟩

noncomputable def fn_point_Points_At (xa : (Option ((List Int) × Int))) (xb : Int) : Option (Int × Int × Bool) :=
  cond (decide (xb < 0)) (some ((0, 0, false))) ((fn_point_Points_Len xa).bind fun i75 => cond (decide (i75 ≤ xb)) (some ((0, 0, false))) ((xa : Option ((List Int) × Int)).bind fun y80 => (fn_sort_Search_i_point_Points_At_1_p0p1_kp_i (((y80.1.length : Nat) : Int)) xa xb).bind fun i92 => (getI y80.1 (IntKind.wrap .i64 (i92 - 1))).bind fun x113 => some ((IntKind.wrap .i64 (i92 - 1), IntKind.wrap .i64 (xb - x113), true))))
set_option maxRecDepth 100000 in
set_option maxHeartbeats 4000000 in
theorem point_Points_At_ok {K : Hp} {xa : (Option ((List Int) × Int))} {xb : Int} {vxa_0 : Value} (fxa_0 : Is K (.ptr (.cons (.sl (.int .i64)) (.one (.int .i64)))) [vxa_0] xa) {r : (Int × Int × Bool)} (h : fn_point_Points_At xa xb = some r) :
    Tr Tryz.prog 35 #[vxa_0, ii xb] K [] (fun v K' L' => (∃ (i60 : Int) (i61 : Int) (t62 : Bool), (i60, i61, t62) = r ∧ .tuple #[ii i60, ii i61, .bool t62] = v ∧ L' = []) ∧ K = K') := by
 refine Tr.k <| Tr.of Tryz.func35 rfl Tryz.ntmps35 rfl fun E F => ?_
 unfold fn_point_Points_At at h
 refine cr <| jbx [vxa_0] rfl (Is.pcells fxa_0) fun b63 => jbx [ii xb] rfl rfl fun b64 => ja (ii 0) rfl <| ja (ii 0) rfl <| ja (.bool false) rfl ?_
 refine J.nil <| CJ.seq <| CJ.seq <| CJ.mix [Cl b64 3 [ii xb], Cl b63 73 [vxa_0]] [([0, 1, 2, 3, 4], 5)] [6, 7] [] mixO (by decide +kernel) ⟨0, rfl, 0, rfl, trivial⟩ rfl rfl rfl <| JM.cons <| qv (ii xb) (V.ld rfl (Ld.sc sc3 (Rd.cl 0 rfl rfl))) <| qv (.bool (decide (xb < 0))) (V.lss rfl rfl) ?_
 refine qm (.bool (decide (xb < 0))) rfl ?_
 rcases bt (decide (xb < 0)) with hc72 | hc72
 · have h := ct hc72 h
   refine JQ.skip rfl rfl rfl rfl hc72 <| JQ.skip rfl rfl rfl rfl hc72 <| JQ.nil <| JA.skip rfl rfl rfl rfl hc72 <| JM.nil <| JQ.skip rfl rfl rfl rfl hc72 <| qv (.bool true) (V.pickT rfl hc72 rfl) ?_
   refine JQ.nil <| J.nil <| CJ.condK (b := true) rfl rfl <| cr <| ja (ii 0) rfl <| ja (ii 0) rfl ?_
   refine ja (.bool false) rfl <| J.nil <| CJ.ret ?_
   obtain rfl := si h
   exact ⟨_, _, Res.three rfl rfl rfl rfl, ⟨0, 0, false, rfl, rfl, rfl⟩, (Hp.le_refl _), fun w hs => (Sep.dropAt 0 rfl (Sep.dropAt 0 rfl hs))⟩
 have h := cf hc72 h
 refine JQ.run rfl rfl rfl hc72 <| qv (ii xb) (V.ld rfl (Ld.sc sc3 (Rd.cl 0 rfl rfl))) <| JQ.run rfl rfl rfl hc72 <| qv vxa_0 (V.ld rfl (Ld.sc sc73 (Rd.cl 1 rfl rfl))) <| JQ.nil <| JA.run rfl rfl rfl hc72 ?_
 obtain ⟨r73, hr74, h⟩ := ob h
 refine JA.op rfl (A.call (L1 := []) Tryz.call22 rfl (point_Points_Len_ok fxa_0 hr74) rfl rfl) ?_
 rintro _ _ _ ⟨v76, _, rfl, ⟨⟨i75, rfl, rfl, rfl⟩, rfl⟩, _, rfl⟩
 refine ⟨fun w hs => Hold.sub (Hp.le_refl _) ⟨0, rfl, 0, rfl, trivial⟩ hs, ?_⟩
 refine JM.nil <| JQ.run rfl rfl rfl hc72 <| qv (.bool (decide (i75 ≤ xb))) (V.geq rfl rfl) <| qv (.bool (decide (i75 ≤ xb))) (V.pickF rfl hc72 rfl) <| JQ.nil <| J.nil <| cc rfl h (fun hc79 h => ?_) fun hc79 h => ?_
 · refine cr <| ja (ii 0) rfl <| ja (ii 0) rfl <| ja (.bool false) rfl <| J.nil <| CJ.ret ?_
   obtain rfl := si h
   exact ⟨_, _, Res.three rfl rfl rfl rfl, ⟨0, 0, false, rfl, rfl, rfl⟩, (Hp.le_refl _), fun w hs => (Sep.dropAt 0 rfl (Sep.dropAt 0 rfl hs))⟩
 refine CJ.skip <| cr <| jv vxa_0 (V.ld rfl (Ld.sc sc73 (Rd.cl 1 rfl rfl))) ?_
 obtain ⟨y80, hy81, h⟩ := ob h
 obtain ⟨b82, o83, hv84, a85⟩ := Is.psome fxa_0 hy81
 refine jv _ (V.nck hv84) <| jv _ (V.fad Tryz.underlying98 rfl nz59 rfl) ?_
 obtain ⟨ad86, cp87, c88, f89⟩ := ((a85).fst).sl
 refine jv (.slice ad86 y80.1.length cp87) (V.ld rfl (Ld.sc sc59 (Rd.k c88 (Hp.le_refl _)))) <| jv (ii (((y80.1.length : Nat) : Int))) (V.len Tryz.underlying59 rfl) <| jv (.func (.func 57) #[] #[.pointer (some ⟨b63, 0, none⟩), .pointer (some ⟨b64, 0, none⟩)]) (V.mkf rfl) ?_
 obtain ⟨r90, hr91, h⟩ := ob h
 refine J.front 1 rfl <| J.op rfl (A.call (L1 := [Cl b63 73 [vxa_0], Cl b64 3 [ii xb]]) Tryz.call56 rfl (sort_Search_i_point_Points_At_1_p0p1_kp_i_ok fxa_0 hr91) rfl rfl) ?_
 rintro _ _ _ ⟨v93, _, rfl, ⟨⟨i92, rfl, rfl, rfl⟩, rfl⟩, _, rfl⟩
 refine jv (ii (IntKind.wrap .i64 (i92 - 1))) (V.sub rfl rfl) <| ja (ii (IntKind.wrap .i64 (i92 - 1))) rfl <| J.nil <| CJ.seq <| CJ.mix [Cl b63 73 [vxa_0], Cl b64 3 [ii xb]] [] [0, 1, 2, 3, 4, 5, 6, 7, 8, 9, 10, 11, 12] [] mixO (by decide +kernel) ⟨0, rfl, 0, rfl, trivial⟩ rfl rfl rfl <| JM.nil <| qm (ii (IntKind.wrap .i64 (i92 - 1))) rfl ?_
 refine qv (ii xb) (V.ld rfl (Ld.sc sc3 (Rd.cl 1 rfl rfl))) <| qv vxa_0 (V.ld rfl (Ld.sc sc73 (Rd.cl 0 rfl rfl))) <| qv _ (V.nck hv84) <| qv _ (V.fad Tryz.underlying98 rfl nz59 rfl) ?_
 obtain ⟨ad109, cp110, c111, f112⟩ := ((a85).fst).sl
 refine qv (.slice ad109 y80.1.length cp110) (V.ld rfl (Ld.sc sc59 (Rd.k c111 (Hp.le_refl _)))) <| qm (ii (IntKind.wrap .i64 (i92 - 1))) rfl ?_
 obtain ⟨x113, hx114, h⟩ := ob h
 obtain ⟨p115, p116, p117⟩ := getI_some hx114
 obtain ⟨b118, o119, e120, a121⟩ := (f112).at p116
 refine qv _ (V.iad Tryz.underlying59 sz3 rfl e120 rfl p115 p117) <| qv (ii x113) (V.ld rfl (Ld.sc sc3 (Rd.k (a121).int (Hp.le_refl _)))) <| qv (ii (IntKind.wrap .i64 (xb - x113))) (V.sub rfl rfl) <| qa (ii (IntKind.wrap .i64 (i92 - 1))) rfl <| qa (ii (IntKind.wrap .i64 (xb - x113))) rfl <| qa (.bool true) rfl <| JQ.nil ?_
 refine J.nil <| CJ.ret ?_
 obtain rfl := si h
 exact ⟨_, _, Res.three rfl rfl rfl rfl, ⟨IntKind.wrap .i64 (i92 - 1), IntKind.wrap .i64 (xb - x113), true, rfl, rfl, rfl⟩, (Hp.le_refl _), fun w hs => (Sep.dropAt 0 rfl (Sep.dropAt 0 rfl hs))⟩

noncomputable def fn_cons_maker_needs (xa : ((Int × Int × (List (Int × Int)) × (List (List (Int × Bool))) × (List (Int × Bool)) × (List (Int × (List (Int × Int)) × (List (List (Int × Bool))) × (List (Int × Bool)))) × (List ((List (Int × Int × Int × Int × Bool)) × (Int × Int × Int × (List Int) × (List Int) × (List Int))))) × (Option ((List Int) × Int)))) (xb : Int) (xc : Int) : Option ((List (Int × Int × Int × Int × Bool))) :=
  (getI xa.1.2.2.2.2.2.2 xb).bind fun x88 => cond (decide (xc < (((x88.1.length : Nat) : Int)))) ((getI x88.1 xc).bind fun x135 => (fn_stmt_Needs (x135.1, x135.2.1, x135.2.2.1, x135.2.2.2.1, x135.2.2.2.2) xa.1.2.2.2.1 xa.1.2.1).bind fun (l146, i147) => some (l146)) ((fn_term_Needs (x88.2.1, x88.2.2.1, x88.2.2.2.1, x88.2.2.2.2.1, x88.2.2.2.2.2.1, x88.2.2.2.2.2.2) ((((xa.1.2.2.2.2.2.2.length : Nat) : Int), xa.1.2.1, xa.1.2.2.2.1, xa.1.2.2.2.2.1, xa.1.2.2.2.2.2.1))).bind fun (l157, i158) => some (l157))
set_option maxRecDepth 100000 in
set_option maxHeartbeats 4000000 in
theorem cons_maker_needs_ok {K : Hp} {xa : ((Int × Int × (List (Int × Int)) × (List (List (Int × Bool))) × (List (Int × Bool)) × (List (Int × (List (Int × Int)) × (List (List (Int × Bool))) × (List (Int × Bool)))) × (List ((List (Int × Int × Int × Int × Bool)) × (Int × Int × Int × (List Int) × (List Int) × (List Int))))) × (Option ((List Int) × Int)))} {xb : Int} {xc : Int} {adxa_2 : Option Addr} {cpxa_2 : Nat} {adxa_3 : Option Addr} {cpxa_3 : Nat} {adxa_4 : Option Addr} {cpxa_4 : Nat} {adxa_5 : Option Addr} {cpxa_5 : Nat} {adxa_6 : Option Addr} {cpxa_6 : Nat} {vxa_7 : Value} (fxa_2 : Is K (.sl (.cons (.int .i64) (.one (.int .i64)))) [.slice adxa_2 xa.1.2.2.1.length cpxa_2] xa.1.2.2.1) (fxa_3 : Is K (.sl (.one (.sl (.cons (.int .i64) (.one .bool))))) [.slice adxa_3 xa.1.2.2.2.1.length cpxa_3] xa.1.2.2.2.1) (fxa_4 : Is K (.sl (.cons (.int .i64) (.one .bool))) [.slice adxa_4 xa.1.2.2.2.2.1.length cpxa_4] xa.1.2.2.2.2.1) (fxa_5 : Is K (.sl (.cons (.int .i64) (.cons (.sl (.cons (.int .i64) (.one (.int .i64)))) (.cons (.sl (.one (.sl (.cons (.int .i64) (.one .bool))))) (.one (.one (.sl (.cons (.int .i64) (.one .bool))))))))) [.slice adxa_5 xa.1.2.2.2.2.2.1.length cpxa_5] xa.1.2.2.2.2.2.1) (fxa_6 : Is K (.sl (.cons (.sl (.cons (.int .i64) (.cons (.int .i64) (.cons (.int .i64) (.cons (.int .i64) (.one .bool)))))) (.one (.cons (.int .i64) (.cons (.int .i64) (.cons (.int .i64) (.cons (.sl (.int .i64)) (.cons (.sl (.int .i64)) (.one (.sl (.int .i64))))))))))) [.slice adxa_6 xa.1.2.2.2.2.2.2.length cpxa_6] xa.1.2.2.2.2.2.2) (fxa_7 : Is K (.ptr (.cons (.sl (.int .i64)) (.one (.int .i64)))) [vxa_7] xa.2) {r : (List (Int × Int × Int × Int × Bool))} (h : fn_cons_maker_needs xa xb xc = some r) :
    Tr Tryz.prog 36 #[.agg #[ii xa.1.1, ii xa.1.2.1, .slice adxa_2 xa.1.2.2.1.length cpxa_2, .slice adxa_3 xa.1.2.2.2.1.length cpxa_3, .slice adxa_4 xa.1.2.2.2.2.1.length cpxa_4, .slice adxa_5 xa.1.2.2.2.2.2.1.length cpxa_5, .slice adxa_6 xa.1.2.2.2.2.2.2.length cpxa_6, vxa_7], ii xb, ii xc] K [] (fun v K' L' => (∃ (l81 : (List (Int × Int × Int × Int × Bool))) (ad82 : Option Addr) (cp83 : Nat), l81 = r ∧ .slice ad82 l81.length cp83 = v ∧ L' = [Row Hp.nil 103 (.cons (.int .i64) (.cons (.int .i64) (.cons (.int .i64) (.cons (.int .i64) (.one .bool))))) (.slice ad82 l81.length cp83) l81]) ∧ K = K') := by
 refine Tr.k <| Tr.of Tryz.func36 rfl Tryz.ntmps36 rfl fun E F => ?_
 unfold fn_cons_maker_needs at h
 refine cr <| jbx [ii xa.1.1, ii xa.1.2.1, .slice adxa_2 xa.1.2.2.1.length cpxa_2, .slice adxa_3 xa.1.2.2.2.1.length cpxa_3, .slice adxa_4 xa.1.2.2.2.2.1.length cpxa_4, .slice adxa_5 xa.1.2.2.2.2.2.1.length cpxa_5, .slice adxa_6 xa.1.2.2.2.2.2.2.length cpxa_6, vxa_7] rfl rfl fun b86 => ja (nos) rfl <| J.nil <| CJ.seq <| CJ.region ?_
 refine jv _ (V.fad Tryz.underlying76 rfl nz30 rfl) <| jv (.agg #[ii xa.1.1, ii xa.1.2.1, .slice adxa_2 xa.1.2.2.1.length cpxa_2, .slice adxa_3 xa.1.2.2.2.1.length cpxa_3, .slice adxa_4 xa.1.2.2.2.2.1.length cpxa_4, .slice adxa_5 xa.1.2.2.2.2.2.1.length cpxa_5, .slice adxa_6 xa.1.2.2.2.2.2.2.length cpxa_6]) (V.ld rfl (Ld.agg (cs := [ii xa.1.1, ii xa.1.2.1, .slice adxa_2 xa.1.2.2.1.length cpxa_2, .slice adxa_3 xa.1.2.2.2.1.length cpxa_3, .slice adxa_4 xa.1.2.2.2.2.1.length cpxa_4, .slice adxa_5 xa.1.2.2.2.2.2.1.length cpxa_5, .slice adxa_6 xa.1.2.2.2.2.2.2.length cpxa_6]) Tryz.underlying30 sz30 rfl (Rd.cls 0 0 rfl rfl))) <| jal inf30 [ii 0, ii 0, nos, nos, nos, nos, nos] rfl fun b87 => js [ii xa.1.1, ii xa.1.2.1, .slice adxa_2 xa.1.2.2.1.length cpxa_2, .slice adxa_3 xa.1.2.2.2.1.length cpxa_3, .slice adxa_4 xa.1.2.2.2.2.1.length cpxa_4, .slice adxa_5 xa.1.2.2.2.2.2.1.length cpxa_5, .slice adxa_6 xa.1.2.2.2.2.2.2.length cpxa_6] sz30 rfl rfl rfl rfl rfl rfl <| J.nil <| CJ.seq <| CJ.region ?_
 refine jv _ (V.fad Tryz.underlying30 rfl nz28 rfl) <| jv (.slice adxa_6 xa.1.2.2.2.2.2.2.length cpxa_6) (V.ld rfl (Ld.sc sc28 (Rd.cl 0 rfl rfl))) <| jm (ii xb) rfl ?_
 obtain ⟨x88, hx89, h⟩ := ob h
 obtain ⟨p90, p91, p92⟩ := getI_some hx89
 obtain ⟨b93, o94, e95, a96⟩ := (fxa_6).at p91
 refine jv _ (V.iad Tryz.underlying28 sz63 rfl e95 rfl p90 p92) ?_
 obtain ⟨ad97, cp98, c99, f100⟩ := ((a96).fst).sl
 obtain ⟨ad101, cp102, c103, f104⟩ := (((((((a96).snd).one).snd).snd).snd).fst).sl
 obtain ⟨ad105, cp106, c107, f108⟩ := ((((((((a96).snd).one).snd).snd).snd).snd).fst).sl
 obtain ⟨ad109, cp110, c111, f112⟩ := (((((((((a96).snd).one).snd).snd).snd).snd).snd).one).sl
 refine jv (.agg #[.slice ad97 x88.1.length cp98, ii x88.2.1, ii x88.2.2.1, ii x88.2.2.2.1, .slice ad101 x88.2.2.2.2.1.length cp102, .slice ad105 x88.2.2.2.2.2.1.length cp106, .slice ad109 x88.2.2.2.2.2.2.length cp110]) (V.ld rfl (Ld.aggK (cs := [.slice ad97 x88.1.length cp98, ii x88.2.1, ii x88.2.2.1, ii x88.2.2.2.1, .slice ad101 x88.2.2.2.2.1.length cp102, .slice ad105 x88.2.2.2.2.2.1.length cp106, .slice ad109 x88.2.2.2.2.2.2.length cp110]) Tryz.underlying63 sz63 rfl ⟨c99, ((((a96).snd).one).fst).int, (((((a96).snd).one).snd).fst).int, ((((((a96).snd).one).snd).snd).fst).int, c103, c107, c111, trivial⟩ (Hp.le_refl _))) <| jal inf63 [nos, ii 0, ii 0, ii 0, nos, nos, nos] rfl fun b113 => js [.slice ad97 x88.1.length cp98, ii x88.2.1, ii x88.2.2.1, ii x88.2.2.2.1, .slice ad101 x88.2.2.2.2.1.length cp102, .slice ad105 x88.2.2.2.2.2.1.length cp106, .slice ad109 x88.2.2.2.2.2.2.length cp110] sz63 rfl rfl rfl rfl rfl rfl <| J.nil <| CJ.seq <| CJ.seq <| CJ.region ?_
 refine jm (ii xc) rfl <| jv _ (V.fad Tryz.underlying63 rfl nz58 rfl) <| jv (.slice ad97 x88.1.length cp98) (V.ld rfl (Ld.sc sc58 (Rd.cl 0 rfl rfl))) <| jv (ii (((x88.1.length : Nat) : Int))) (V.len Tryz.underlying58 rfl) <| jv (.bool (decide (xc < (((x88.1.length : Nat) : Int))))) (V.lss rfl rfl) <| J.nil <| cc rfl h (fun hc114 h => ?_) fun hc114 h => ?_
 · refine CJ.seq <| CJ.mix [Cl b113 63 [.slice ad97 x88.1.length cp98, ii x88.2.1, ii x88.2.2.1, ii x88.2.2.2.1, .slice ad101 x88.2.2.2.2.1.length cp102, .slice ad105 x88.2.2.2.2.2.1.length cp106, .slice ad109 x88.2.2.2.2.2.2.length cp110], Cl b87 30 [ii xa.1.1, ii xa.1.2.1, .slice adxa_2 xa.1.2.2.1.length cpxa_2, .slice adxa_3 xa.1.2.2.2.1.length cpxa_3, .slice adxa_4 xa.1.2.2.2.2.1.length cpxa_4, .slice adxa_5 xa.1.2.2.2.2.2.1.length cpxa_5, .slice adxa_6 xa.1.2.2.2.2.2.2.length cpxa_6], Cl b86 76 [ii xa.1.1, ii xa.1.2.1, .slice adxa_2 xa.1.2.2.1.length cpxa_2, .slice adxa_3 xa.1.2.2.2.1.length cpxa_3, .slice adxa_4 xa.1.2.2.2.2.1.length cpxa_4, .slice adxa_5 xa.1.2.2.2.2.2.1.length cpxa_5, .slice adxa_6 xa.1.2.2.2.2.2.2.length cpxa_6, vxa_7]] [([0, 1, 2, 3, 4, 5, 6, 7, 8], 9)] [10, 11, 12, 13, 14] [] mixO (by decide +kernel) ⟨0, rfl, 0, rfl, 0, rfl, trivial⟩ rfl rfl rfl <| JM.cons <| qv _ (V.fad Tryz.underlying63 rfl nz58 rfl) <| qv (.slice ad97 x88.1.length cp98) (V.ld rfl (Ld.sc sc58 (Rd.cl 0 rfl rfl))) <| qm (ii xc) rfl ?_
   obtain ⟨x135, hx136, h⟩ := ob h
   obtain ⟨p137, p138, p139⟩ := getI_some hx136
   obtain ⟨b140, o141, e142, a143⟩ := (f100).at p138
   refine qv _ (V.iad Tryz.underlying58 sz65 rfl e142 rfl p137 p139) <| qv (.agg #[ii x135.1, ii x135.2.1, ii x135.2.2.1, ii x135.2.2.2.1, .bool x135.2.2.2.2]) (V.ld rfl (Ld.aggK (cs := [ii x135.1, ii x135.2.1, ii x135.2.2.1, ii x135.2.2.2.1, .bool x135.2.2.2.2]) Tryz.underlying65 sz65 rfl ⟨((a143).fst).int, (((a143).snd).fst).int, ((((a143).snd).snd).fst).int, (((((a143).snd).snd).snd).fst).int, ((((((a143).snd).snd).snd).snd).one).bool, trivial⟩ (Hp.le_refl _))) <| qv _ (V.fad Tryz.underlying30 rfl nz23 rfl) <| qv (.slice adxa_3 xa.1.2.2.2.1.length cpxa_3) (V.ld rfl (Ld.sc sc23 (Rd.cl 1 rfl rfl))) <| qv _ (V.fad Tryz.underlying30 rfl nz3 rfl) <| qv (ii xa.1.2.1) (V.ld rfl (Ld.sc sc3 (Rd.cl 1 rfl rfl))) <| JQ.nil ?_
   obtain ⟨r144, hr145, h⟩ := ob h
   refine JA.op rfl (A.call (L1 := []) Tryz.call58 rfl (stmt_Needs_ok fxa_3 hr145) rfl rfl) ?_
   rintro _ _ _ ⟨v151, _, rfl, ⟨⟨l146, i147, ad148, cp149, rfl, rfl, rfl⟩, rfl⟩, _, rfl⟩
   refine ⟨fun w hs => Hold.sub (Hp.le_refl _) ⟨1, rfl, 1, rfl, 1, rfl, trivial⟩ hs, ?_⟩
   refine JM.wit Row.hn fun hn150 => JM.nil <| qm (.tuple #[.slice ad148 l146.length cp149, ii i147]) rfl <| qv (.slice ad148 l146.length cp149) (V.ext rfl rfl) <| qv (ii i147) (V.ext rfl rfl) <| qa (.slice ad148 l146.length cp149) rfl <| qa (ii i147) rfl ?_
   refine JQ.nil <| J.nil <| cr <| jm (.slice ad148 l146.length cp149) rfl <| ja (.slice ad148 l146.length cp149) rfl <| J.nil ?_
   refine CJ.ret ?_
   obtain rfl := si h
   exact ⟨_, _, Res.one rfl rfl, ⟨l146, ad148, cp149, rfl, rfl, rfl⟩, (Hp.le_refl _), fun w hs => (Sep.dropAt 1 rfl (Sep.dropAt 1 rfl (Sep.dropAt 1 rfl hs)))⟩
 refine CJ.skip <| cr <| jv _ (V.fad Tryz.underlying63 rfl nz61 rfl) <| jv (.agg #[ii x88.2.1, ii x88.2.2.1, ii x88.2.2.2.1, .slice ad101 x88.2.2.2.2.1.length cp102, .slice ad105 x88.2.2.2.2.2.1.length cp106, .slice ad109 x88.2.2.2.2.2.2.length cp110]) (V.ld rfl (Ld.agg (cs := [ii x88.2.1, ii x88.2.2.1, ii x88.2.2.2.1, .slice ad101 x88.2.2.2.2.1.length cp102, .slice ad105 x88.2.2.2.2.2.1.length cp106, .slice ad109 x88.2.2.2.2.2.2.length cp110]) Tryz.underlying61 sz61 rfl (Rd.cls 0 1 rfl rfl))) <| jv _ (V.fad Tryz.underlying30 rfl nz28 rfl) <| jv (.slice adxa_6 xa.1.2.2.2.2.2.2.length cpxa_6) (V.ld rfl (Ld.sc sc28 (Rd.cl 1 rfl rfl))) ?_
 refine jv (ii (((xa.1.2.2.2.2.2.2.length : Nat) : Int))) (V.len Tryz.underlying28 rfl) <| jv _ (V.fad Tryz.underlying30 rfl nz3 rfl) <| jv (ii xa.1.2.1) (V.ld rfl (Ld.sc sc3 (Rd.cl 1 rfl rfl))) <| jv _ (V.fad Tryz.underlying30 rfl nz23 rfl) <| jv (.slice adxa_3 xa.1.2.2.2.1.length cpxa_3) (V.ld rfl (Ld.sc sc23 (Rd.cl 1 rfl rfl))) <| jv _ (V.fad Tryz.underlying30 rfl nz26 rfl) <| jv (.agg #[.slice adxa_4 xa.1.2.2.2.2.1.length cpxa_4]) (V.ld rfl (Ld.agg (cs := [.slice adxa_4 xa.1.2.2.2.2.1.length cpxa_4]) Tryz.underlying26 sz26 rfl (Rd.cls 1 4 rfl rfl))) ?_
 refine jv _ (V.fad Tryz.underlying30 rfl nz27 rfl) <| jv (.slice adxa_5 xa.1.2.2.2.2.2.1.length cpxa_5) (V.ld rfl (Ld.sc sc27 (Rd.cl 1 rfl rfl))) <| jv (.agg #[ii (((xa.1.2.2.2.2.2.2.length : Nat) : Int)), ii xa.1.2.1, .slice adxa_3 xa.1.2.2.2.1.length cpxa_3, .slice adxa_4 xa.1.2.2.2.2.1.length cpxa_4, .slice adxa_5 xa.1.2.2.2.2.2.1.length cpxa_5]) (V.build inf117 places117 rfl rfl) ?_
 obtain ⟨r155, hr156, h⟩ := ob h
 refine J.op rfl (A.call (L1 := []) Tryz.call59 rfl (term_Needs_ok f104 f108 f112 fxa_3 fxa_4 fxa_5 hr156) rfl rfl) ?_
 rintro _ _ _ ⟨v162, _, rfl, ⟨⟨l157, i158, ad159, cp160, rfl, rfl, rfl⟩, rfl⟩, _, rfl⟩
 refine J.wit Row.hn fun hn161 => jm (.tuple #[.slice ad159 l157.length cp160, ii i158]) rfl <| jx (.slice ad159 l157.length cp160) rfl rfl <| jx (ii i158) rfl rfl <| ja (.slice ad159 l157.length cp160) rfl <| ja (ii i158) rfl <| J.nil ?_
 refine cr <| jm (.slice ad159 l157.length cp160) rfl <| ja (.slice ad159 l157.length cp160) rfl <| J.nil <| CJ.ret ?_
 obtain rfl := si h
 exact ⟨_, _, Res.one rfl rfl, ⟨l157, ad159, cp160, rfl, rfl, rfl⟩, (Hp.le_refl _), fun w hs => (Sep.dropAt 1 rfl (Sep.dropAt 1 rfl (Sep.dropAt 1 rfl hs)))⟩
noncomputable def fn_cons_maker_at_l1 (i202 : Int) (i203 : Int) (l212 : (List (Int × Int × Int × Int × Bool))) : ((List (Int × Int × (Int × Int × Int × Int × Bool))) × Int) → Option (((List (Int × Int × (Int × Int × Int × Int × Bool))) × Int) ⊕ (List (Int × Int × (Int × Int × Int × Int × Bool)))) := fun ((l336, i341) : ((List (Int × Int × (Int × Int × Int × Int × Bool))) × Int)) => cond (decide (i341 < (((l212.length : Nat) : Int)))) ((getI l212 i341).bind fun x373 => (app l336 (([(x373.1, x373.2.1, (i202, i203, x373.2.2.1, x373.2.2.2.1, x373.2.2.2.2))] : List (Int × Int × (Int × Int × Int × Int × Bool))))).bind fun z385 => some (.inl ((z385, IntKind.wrap .i64 (i341 + 1))))) (some (.inr (l336)))
noncomputable def fn_cons_maker_at (xa : ((Int × Int × (List (Int × Int)) × (List (List (Int × Bool))) × (List (Int × Bool)) × (List (Int × (List (Int × Int)) × (List (List (Int × Bool))) × (List (Int × Bool)))) × (List ((List (Int × Int × Int × Int × Bool)) × (Int × Int × Int × (List Int) × (List Int) × (List Int))))) × (Option ((List Int) × Int)))) (xb : Int) : Option ((List (Int × Int × (Int × Int × Int × Int × Bool)))) :=
  (fn_point_Points_At xa.2 xb).bind fun (i202, i203, t204) => cond (!t204) (some ([])) ((fn_cons_maker_needs (((xa.1.1, xa.1.2.1, xa.1.2.2.1, xa.1.2.2.2.1, xa.1.2.2.2.2.1, xa.1.2.2.2.2.2.1, xa.1.2.2.2.2.2.2), xa.2)) i202 i203).bind fun l212 => (loop (fn_cons_maker_at_l1 i202 i203 l212) ([], 0) : Option ((List (Int × Int × (Int × Int × Int × Int × Bool))))).bind fun l302 => some (l302))
set_option maxRecDepth 100000 in
set_option maxHeartbeats 4000000 in
theorem cons_maker_at_ok {K : Hp} {xa : ((Int × Int × (List (Int × Int)) × (List (List (Int × Bool))) × (List (Int × Bool)) × (List (Int × (List (Int × Int)) × (List (List (Int × Bool))) × (List (Int × Bool)))) × (List ((List (Int × Int × Int × Int × Bool)) × (Int × Int × Int × (List Int) × (List Int) × (List Int))))) × (Option ((List Int) × Int)))} {xb : Int} {adxa_2 : Option Addr} {cpxa_2 : Nat} {adxa_3 : Option Addr} {cpxa_3 : Nat} {adxa_4 : Option Addr} {cpxa_4 : Nat} {adxa_5 : Option Addr} {cpxa_5 : Nat} {adxa_6 : Option Addr} {cpxa_6 : Nat} {vxa_7 : Value} (fxa_2 : Is K (.sl (.cons (.int .i64) (.one (.int .i64)))) [.slice adxa_2 xa.1.2.2.1.length cpxa_2] xa.1.2.2.1) (fxa_3 : Is K (.sl (.one (.sl (.cons (.int .i64) (.one .bool))))) [.slice adxa_3 xa.1.2.2.2.1.length cpxa_3] xa.1.2.2.2.1) (fxa_4 : Is K (.sl (.cons (.int .i64) (.one .bool))) [.slice adxa_4 xa.1.2.2.2.2.1.length cpxa_4] xa.1.2.2.2.2.1) (fxa_5 : Is K (.sl (.cons (.int .i64) (.cons (.sl (.cons (.int .i64) (.one (.int .i64)))) (.cons (.sl (.one (.sl (.cons (.int .i64) (.one .bool))))) (.one (.one (.sl (.cons (.int .i64) (.one .bool))))))))) [.slice adxa_5 xa.1.2.2.2.2.2.1.length cpxa_5] xa.1.2.2.2.2.2.1) (fxa_6 : Is K (.sl (.cons (.sl (.cons (.int .i64) (.cons (.int .i64) (.cons (.int .i64) (.cons (.int .i64) (.one .bool)))))) (.one (.cons (.int .i64) (.cons (.int .i64) (.cons (.int .i64) (.cons (.sl (.int .i64)) (.cons (.sl (.int .i64)) (.one (.sl (.int .i64))))))))))) [.slice adxa_6 xa.1.2.2.2.2.2.2.length cpxa_6] xa.1.2.2.2.2.2.2) (fxa_7 : Is K (.ptr (.cons (.sl (.int .i64)) (.one (.int .i64)))) [vxa_7] xa.2) {r : (List (Int × Int × (Int × Int × Int × Int × Bool)))} (h : fn_cons_maker_at xa xb = some r) :
    Tr Tryz.prog 23 #[.agg #[ii xa.1.1, ii xa.1.2.1, .slice adxa_2 xa.1.2.2.1.length cpxa_2, .slice adxa_3 xa.1.2.2.2.1.length cpxa_3, .slice adxa_4 xa.1.2.2.2.2.1.length cpxa_4, .slice adxa_5 xa.1.2.2.2.2.2.1.length cpxa_5, .slice adxa_6 xa.1.2.2.2.2.2.2.length cpxa_6, vxa_7], ii xb] K [] (fun v K' L' => (∃ (l194 : (List (Int × Int × (Int × Int × Int × Int × Bool)))) (ad195 : Option Addr) (cp196 : Nat), l194 = r ∧ .slice ad195 l194.length cp196 = v ∧ L' = [Row Hp.nil 51 (.cons (.int .i64) (.cons (.int .i64) (.one (.cons (.int .i64) (.cons (.int .i64) (.cons (.int .i64) (.cons (.int .i64) (.one .bool)))))))) (.slice ad195 l194.length cp196) l194]) ∧ K = K') := by
 refine Tr.k <| Tr.of Tryz.func23 rfl Tryz.ntmps23 rfl fun E F => ?_
 unfold fn_cons_maker_at at h
 refine cr <| jbx [ii xa.1.1, ii xa.1.2.1, .slice adxa_2 xa.1.2.2.1.length cpxa_2, .slice adxa_3 xa.1.2.2.2.1.length cpxa_3, .slice adxa_4 xa.1.2.2.2.2.1.length cpxa_4, .slice adxa_5 xa.1.2.2.2.2.2.1.length cpxa_5, .slice adxa_6 xa.1.2.2.2.2.2.2.length cpxa_6, vxa_7] rfl rfl fun b199 => ja (nos) rfl <| J.nil <| CJ.seq <| CJ.region ?_
 refine jv _ (V.fad Tryz.underlying76 rfl nz73 rfl) <| jv vxa_7 (V.ld rfl (Ld.sc sc73 (Rd.cl 0 rfl rfl))) <| jm (ii xb) rfl ?_
 obtain ⟨r200, hr201, h⟩ := ob h
 refine J.op rfl (A.call (L1 := []) Tryz.call35 rfl (point_Points_At_ok fxa_7 hr201) rfl rfl) ?_
 rintro _ _ _ ⟨v205, _, rfl, ⟨⟨i202, i203, t204, rfl, rfl, rfl⟩, rfl⟩, _, rfl⟩
 refine jm (.tuple #[ii i202, ii i203, .bool t204]) rfl <| jx (ii i202) rfl rfl <| jx (ii i203) rfl rfl <| jx (.bool t204) rfl rfl <| ja (ii i202) rfl <| ja (ii i203) rfl <| ja (.bool t204) rfl ?_
 refine J.nil <| CJ.seq <| cr <| jm (.bool t204) rfl <| jv (.bool (!t204)) (V.not rfl) <| J.nil ?_
 refine cc rfl h (fun hc208 h => ?_) fun hc208 h => ?_
 · refine cr <| ja (nos) rfl <| J.nil <| CJ.by (fun w hs => Sep.rowNil (e := 51) (t := (.cons (.int .i64) (.cons (.int .i64) (.one (.cons (.int .i64) (.cons (.int .i64) (.cons (.int .i64) (.cons (.int .i64) (.one .bool))))))))) hs) <| CJ.ret ?_
   obtain rfl := si h
   exact ⟨_, _, Res.one rfl rfl, ⟨[], none, 0, rfl, rfl, rfl⟩, (Hp.le_refl _), fun w hs => (Sep.dropAt 1 rfl hs)⟩
 refine CJ.skip <| cr <| ja (nos) rfl <| J.nil <| CJ.seq <| CJ.seq ?_
 refine CJ.region <| jv (.agg #[ii xa.1.1, ii xa.1.2.1, .slice adxa_2 xa.1.2.2.1.length cpxa_2, .slice adxa_3 xa.1.2.2.2.1.length cpxa_3, .slice adxa_4 xa.1.2.2.2.2.1.length cpxa_4, .slice adxa_5 xa.1.2.2.2.2.2.1.length cpxa_5, .slice adxa_6 xa.1.2.2.2.2.2.2.length cpxa_6, vxa_7]) (V.ld rfl (Ld.agg (cs := [ii xa.1.1, ii xa.1.2.1, .slice adxa_2 xa.1.2.2.1.length cpxa_2, .slice adxa_3 xa.1.2.2.2.1.length cpxa_3, .slice adxa_4 xa.1.2.2.2.2.1.length cpxa_4, .slice adxa_5 xa.1.2.2.2.2.2.1.length cpxa_5, .slice adxa_6 xa.1.2.2.2.2.2.2.length cpxa_6, vxa_7]) Tryz.underlying76 sz76 rfl (Rd.cls 0 0 rfl rfl))) <| jm (ii i202) rfl <| jm (ii i203) rfl ?_
 obtain ⟨r210, hr211, h⟩ := ob h
 refine J.op rfl (A.call (L1 := []) Tryz.call36 rfl (cons_maker_needs_ok fxa_2 fxa_3 fxa_4 fxa_5 fxa_6 fxa_7 hr211) rfl rfl) ?_
 rintro _ _ _ ⟨v216, _, rfl, ⟨⟨l212, ad213, cp214, rfl, rfl, rfl⟩, rfl⟩, _, rfl⟩
 refine J.wit Row.hn fun hn215 => jv (ii (((l212.length : Nat) : Int))) (V.len Tryz.underlying101 rfl) <| jm (ii 0) rfl <| J.nil ?_
 obtain ⟨o307, ho308, h⟩ := ob h
 refine CJ.meetN (fun ρ K' L' => ∃ (l302 : (List (Int × Int × (Int × Int × Int × Int × Bool)))) (ad303 : Option Addr) (cp304 : Nat), l302 = o307 ∧ Fits [(8, .slice ad303 l302.length cp304)] ρ ∧ K = K' ∧ L' = Row Hp.nil 51 (.cons (.int .i64) (.cons (.int .i64) (.one (.cons (.int .i64) (.cons (.int .i64) (.cons (.int .i64) (.cons (.int .i64) (.one .bool)))))))) (.slice ad303 l302.length cp304) l302 :: F) ?_ ?_
 · refine CJ.block <| CJ.by (fun w hs => Sep.rowNil (e := 51) (t := (.cons (.int .i64) (.cons (.int .i64) (.one (.cons (.int .i64) (.cons (.int .i64) (.cons (.int .i64) (.cons (.int .i64) (.one .bool))))))))) hs) <| CJ.dropAt 2 rfl <| CJ.front 1 rfl <| CJ.loop (fun s ρ K' L' => ∃ (l336 : (List (Int × Int × (Int × Int × Int × Int × Bool)))) (i341 : Int) (ad337 : Option Addr) (cp338 : Nat), (l336, i341) = s ∧ Fits [(5, ii i202), (6, ii i203), (8, .slice ad337 l336.length cp338), (25, .slice ad213 l212.length cp214), (26, ii (((l212.length : Nat) : Int))), (27, ii i341)] ρ ∧ K = K' ∧ L' = Row Hp.nil 103 (.cons (.int .i64) (.cons (.int .i64) (.cons (.int .i64) (.cons (.int .i64) (.one .bool))))) (.slice ad213 l212.length cp214) l212 :: Row Hp.nil 51 (.cons (.int .i64) (.cons (.int .i64) (.one (.cons (.int .i64) (.cons (.int .i64) (.cons (.int .i64) (.cons (.int .i64) (.one .bool)))))))) (.slice ad337 l336.length cp338) l336 :: F) ho308 ⟨[], 0, none, 0, rfl, ⟨rfl, rfl, rfl, rfl, rfl, rfl, trivial⟩, rfl, rfl⟩ ?_
   rintro s ρ _ _ r371 ⟨l336, i341, ad337, cp338, rfl, hf369, rfl, rfl⟩ h367
   obtain ⟨ρ, rfl⟩ := hf369.ex
   refine CJ.front 1 rfl <| CJ.wit Row.hn fun hn340 => cr <| jv (.bool (decide (i341 < (((l212.length : Nat) : Int))))) (V.lss rfl rfl) <| J.nil <| CJ.seq ?_
   refine cc rfl h367 (fun hc372 h367 => ?_) fun hc372 h367 => ?_
   · refine CJ.skip <| CJ.seq <| CJ.block <| CJ.seq <| CJ.region ?_
     obtain ⟨x373, hx374, h367⟩ := ob h367
     obtain ⟨p375, p376, p377⟩ := getI_some hx374
     obtain ⟨g378, e379⟩ := hn215 (fun e => by rw [e] at p376; simp at p376)
     refine jv _ (V.iad Tryz.underlying101 sz103 rfl e379 rfl p375 p377) <| jv (.agg #[ii x373.1, ii x373.2.1, ii x373.2.2.1, ii x373.2.2.2.1, .bool x373.2.2.2.2]) (V.ld rfl (Ld.agg Tryz.underlying103 sz103 rfl (Rd.rows (K0 := Hp.nil) (s := (.cons (.int .i64) (.cons (.int .i64) (.cons (.int .i64) (.cons (.int .i64) (.one .bool)))))) 1 rfl e379 p376 (cs := [ii x373.1, ii x373.2.1, ii x373.2.2.1, ii x373.2.2.2.1, .bool x373.2.2.2.2]) rfl (by rintro _ ⟨_, _, rfl, _, rfl, ⟨_, _, rfl, _, rfl, ⟨_, _, rfl, _, rfl, ⟨_, _, rfl, _, rfl, rfl⟩⟩⟩⟩; rfl)))) <| jal inf103 [ii 0, ii 0, ii 0, ii 0, .bool false] rfl fun b380 => js [ii x373.1, ii x373.2.1, ii x373.2.2.1, ii x373.2.2.2.1, .bool x373.2.2.2.2] sz103 rfl rfl rfl rfl rfl rfl <| J.nil <| CJ.seq <| CJ.region ?_
     refine jm (ii i202) rfl <| jm (ii i203) rfl <| jv _ (V.fad Tryz.underlying103 rfl nz3 rfl) <| jv (ii x373.2.2.1) (V.ld rfl (Ld.sc sc3 (Rd.cl 0 rfl rfl))) <| jv _ (V.fad Tryz.underlying103 rfl nz3 rfl) <| jv (ii x373.2.2.2.1) (V.ld rfl (Ld.sc sc3 (Rd.cl 0 rfl rfl))) <| jv _ (V.fad Tryz.underlying103 rfl nz4 rfl) ?_
     refine jv (.bool x373.2.2.2.2) (V.ld rfl (Ld.sc sc4 (Rd.cl 0 rfl rfl))) <| jv (.agg #[ii i202, ii i203, ii x373.2.2.1, ii x373.2.2.2.1, .bool x373.2.2.2.2]) (V.build inf49 places49 rfl rfl) <| jal inf49 [ii 0, ii 0, ii 0, ii 0, .bool false] rfl fun b381 => js [ii i202, ii i203, ii x373.2.2.1, ii x373.2.2.2.1, .bool x373.2.2.2.2] sz49 rfl rfl rfl rfl rfl rfl <| J.nil <| CJ.region <| jm (.slice ad337 l336.length cp338) rfl ?_
     refine jv _ (V.fad Tryz.underlying103 rfl nz3 rfl) <| jv (ii x373.1) (V.ld rfl (Ld.sc sc3 (Rd.cl 1 rfl rfl))) <| jv _ (V.fad Tryz.underlying103 rfl nz3 rfl) <| jv (ii x373.2.1) (V.ld rfl (Ld.sc sc3 (Rd.cl 1 rfl rfl))) <| jv (.agg #[ii i202, ii i203, ii x373.2.2.1, ii x373.2.2.2.1, .bool x373.2.2.2.2]) (V.ld rfl (Ld.agg (cs := [ii i202, ii i203, ii x373.2.2.1, ii x373.2.2.2.1, .bool x373.2.2.2.2]) Tryz.underlying49 sz49 rfl (Rd.cls 0 0 rfl rfl))) <| jv (.agg #[ii x373.1, ii x373.2.1, ii i202, ii i203, ii x373.2.2.1, ii x373.2.2.2.1, .bool x373.2.2.2.2]) (V.build inf51 places51 rfl rfl) ?_
     refine J.op rfl (A.lit (K0 := Hp.nil) (ty := (.cons (.int .i64) (.cons (.int .i64) (.one (.cons (.int .i64) (.cons (.int .i64) (.cons (.int .i64) (.cons (.int .i64) (.one .bool))))))))) (xs := ([(x373.1, x373.2.1, (i202, i203, x373.2.2.1, x373.2.2.2.1, x373.2.2.2.2))] : List (Int × Int × (Int × Int × Int × Int × Bool)))) Tryz.underlying36 inf51 rfl (by decide) rfl rfl rfl ⟨_, _, rfl, ⟨_, _, rfl, rfl, rfl, ⟨_, _, rfl, rfl, rfl, ⟨_, _, rfl, rfl, rfl, ⟨_, _, rfl, rfl, rfl, ⟨_, _, rfl, rfl, rfl, ⟨_, _, rfl, rfl, rfl, rfl⟩⟩⟩⟩⟩⟩, rfl⟩ rfl (by decide)) ?_
     rintro _ _ _ ⟨b382, rfl, rfl, rfl⟩
     have hn383 : ([(x373.1, x373.2.1, (i202, i203, x373.2.2.1, x373.2.2.2.1, x373.2.2.2.2))] : List (Int × Int × (Int × Int × Int × Int × Bool))) ≠ [] → ∃ g, (some ⟨b382, 0, none⟩ : Option Addr) = some ⟨g, 0, none⟩ := fun _ => ⟨b382, rfl⟩
     obtain ⟨z385, hz386, h367⟩ := ob h367
     refine J.front 3 rfl <| J.op rfl (A.appR (Kr := Hp.nil) Tryz.underlying36 inf51 rfl rfl (by decide) (by decide) rfl rfl (Els.flat rfl) (Els.flat rfl) hz386) ?_
     rintro _ _ _ ⟨v387, rfl, rfl, rfl⟩
     refine J.wit Row.form ?_
     rintro ⟨ad388, cp389, rfl, _, _, hn390⟩
     refine ja (.slice ad388 z385.length cp389) rfl <| J.nil <| CJ.region <| jv (ii (IntKind.wrap .i64 (i341 + 1))) (V.add rfl rfl) <| jm (ii (IntKind.wrap .i64 (i341 + 1))) rfl <| J.dropAt 1 rfl <| J.dropAt 1 rfl ?_
     refine J.front 1 rfl <| J.nil ?_
     obtain rfl := si h367
     exact ⟨rfl, ⟨z385, IntKind.wrap .i64 (i341 + 1), ad388, cp389, rfl, ⟨rfl, rfl, rfl, rfl, rfl, rfl, trivial⟩, rfl, rfl⟩⟩
   refine CJ.dropAt 1 rfl <| CJ.exit ?_
   obtain rfl := si h367
   refine ⟨nofun, fun e => ?_⟩
   subst e
   exact ⟨rfl, ⟨l336, ad337, cp338, rfl, ⟨rfl, trivial⟩, rfl, rfl⟩⟩
 rintro ρ _ _ ⟨l302, ad303, cp304, rfl, hf391, rfl, rfl⟩
 obtain ⟨ρ, rfl⟩ := hf391.ex
 refine PJ.wit Row.hn fun hn306 => PJ.done <| cr <| jm (.slice ad303 l302.length cp304) rfl <| ja (.slice ad303 l302.length cp304) rfl <| J.nil ?_
 refine CJ.ret ?_
 obtain rfl := si h
 exact ⟨_, _, Res.one rfl rfl, ⟨l302, ad303, cp304, rfl, rfl, rfl⟩, (Hp.le_refl _), fun w hs => hs⟩
noncomputable def fn_cons_Of_az_l1 (xa : (Int × Int × (List (Int × Int)) × (List (List (Int × Bool))) × (List (Int × Bool)) × (List (Int × (List (Int × Int)) × (List (List (Int × Bool))) × (List (Int × Bool)))) × (List ((List (Int × Int × Int × Int × Bool)) × (Int × Int × Int × (List Int) × (List Int) × (List Int)))))) (p312 : (Option ((List Int) × Int))) (i359 : Int) : ((List (Int × Int × (Int × Int × Int × Int × Bool))) × Int) → Option (((List (Int × Int × (Int × Int × Int × Int × Bool))) × Int) ⊕ (List (Int × Int × (Int × Int × Int × Int × Bool)))) := fun ((l471, i476) : ((List (Int × Int × (Int × Int × Int × Int × Bool))) × Int)) => cond (decide (i476 < i359)) ((fn_cons_maker_at (((xa.1, xa.2.1, xa.2.2.1, xa.2.2.2.1, xa.2.2.2.2.1, xa.2.2.2.2.2.1, xa.2.2.2.2.2.2), p312)) i476).bind fun l508 => (app l471 l508).bind fun z516 => some (.inl ((z516, IntKind.wrap .i64 (i476 + 1))))) (some (.inr (l471)))
noncomputable def fn_cons_Of_az (xa : (Int × Int × (List (Int × Int)) × (List (List (Int × Bool))) × (List (Int × Bool)) × (List (Int × (List (Int × Int)) × (List (List (Int × Bool))) × (List (Int × Bool)))) × (List ((List (Int × Int × Int × Int × Bool)) × (Int × Int × Int × (List Int) × (List Int) × (List Int)))))) : Option ((List (Int × Int × (Int × Int × Int × Int × Bool)))) :=
  ((fn_point_New (xa.1, xa.2.1, xa.2.2.1, xa.2.2.2.1, xa.2.2.2.2.1, xa.2.2.2.2.2.1, xa.2.2.2.2.2.2)).bind fun p336 => some (p336) : Option ((Option ((List Int) × Int)))).bind fun p312 => (fn_point_Points_Len p312).bind fun i359 => (loop (fn_cons_Of_az_l1 xa p312 i359) ([], 0) : Option ((List (Int × Int × (Int × Int × Int × Int × Bool))))).bind fun l439 => (fn_point_Points_Len p312).bind fun i526 => (fn_tick_Counter_Add_zii 3 (IntKind.wrap .i64 (i526 + (((l439.length : Nat) : Int))))).bind fun _ => some (l439)
set_option maxRecDepth 100000 in
set_option maxHeartbeats 4000000 in
theorem cons_Of_az_ok {K : Hp} {xa : (Int × Int × (List (Int × Int)) × (List (List (Int × Bool))) × (List (Int × Bool)) × (List (Int × (List (Int × Int)) × (List (List (Int × Bool))) × (List (Int × Bool)))) × (List ((List (Int × Int × Int × Int × Bool)) × (Int × Int × Int × (List Int) × (List Int) × (List Int)))))} {adxa_2 : Option Addr} {cpxa_2 : Nat} {adxa_3 : Option Addr} {cpxa_3 : Nat} {adxa_4 : Option Addr} {cpxa_4 : Nat} {adxa_5 : Option Addr} {cpxa_5 : Nat} {adxa_6 : Option Addr} {cpxa_6 : Nat} (fxa_2 : Is K (.sl (.cons (.int .i64) (.one (.int .i64)))) [.slice adxa_2 xa.2.2.1.length cpxa_2] xa.2.2.1) (fxa_3 : Is K (.sl (.one (.sl (.cons (.int .i64) (.one .bool))))) [.slice adxa_3 xa.2.2.2.1.length cpxa_3] xa.2.2.2.1) (fxa_4 : Is K (.sl (.cons (.int .i64) (.one .bool))) [.slice adxa_4 xa.2.2.2.2.1.length cpxa_4] xa.2.2.2.2.1) (fxa_5 : Is K (.sl (.cons (.int .i64) (.cons (.sl (.cons (.int .i64) (.one (.int .i64)))) (.cons (.sl (.one (.sl (.cons (.int .i64) (.one .bool))))) (.one (.one (.sl (.cons (.int .i64) (.one .bool))))))))) [.slice adxa_5 xa.2.2.2.2.2.1.length cpxa_5] xa.2.2.2.2.2.1) (fxa_6 : Is K (.sl (.cons (.sl (.cons (.int .i64) (.cons (.int .i64) (.cons (.int .i64) (.cons (.int .i64) (.one .bool)))))) (.one (.cons (.int .i64) (.cons (.int .i64) (.cons (.int .i64) (.cons (.sl (.int .i64)) (.cons (.sl (.int .i64)) (.one (.sl (.int .i64))))))))))) [.slice adxa_6 xa.2.2.2.2.2.2.length cpxa_6] xa.2.2.2.2.2.2) {r : (List (Int × Int × (Int × Int × Int × Int × Bool)))} (h : fn_cons_Of_az xa = some r) :
    Tr Tryz.prog 7 #[.agg #[ii xa.1, ii xa.2.1, .slice adxa_2 xa.2.2.1.length cpxa_2, .slice adxa_3 xa.2.2.2.1.length cpxa_3, .slice adxa_4 xa.2.2.2.2.1.length cpxa_4, .slice adxa_5 xa.2.2.2.2.2.1.length cpxa_5, .slice adxa_6 xa.2.2.2.2.2.2.length cpxa_6], .pointer none] K [] (fun v K' L' => (∃ (l266 : (List (Int × Int × (Int × Int × Int × Int × Bool)))) (ad267 : Option Addr) (cp268 : Nat), l266 = r ∧ .slice ad267 l266.length cp268 = v ∧ L' = [Row Hp.nil 51 (.cons (.int .i64) (.cons (.int .i64) (.one (.cons (.int .i64) (.cons (.int .i64) (.cons (.int .i64) (.cons (.int .i64) (.one .bool)))))))) (.slice ad267 l266.length cp268) l266]) ∧ K = K') := by
 refine Tr.k <| Tr.of Tryz.func7 rfl Tryz.ntmps7 rfl fun E F => ?_
 unfold fn_cons_Of_az at h
 refine cr <| jbx [ii xa.1, ii xa.2.1, .slice adxa_2 xa.2.2.1.length cpxa_2, .slice adxa_3 xa.2.2.2.1.length cpxa_3, .slice adxa_4 xa.2.2.2.2.1.length cpxa_4, .slice adxa_5 xa.2.2.2.2.2.1.length cpxa_5, .slice adxa_6 xa.2.2.2.2.2.2.length cpxa_6] rfl rfl fun b271 => ja (nos) rfl <| J.nil <| CJ.seq ?_
 obtain ⟨o315, ho316, h⟩ := ob h
 refine CJ.meetN (fun ρ K' L' => ∃ (p312 : (Option ((List Int) × Int))) (nb311 : Nat) (v313 : Value), p312 = o315 ∧ Fits [(1, .pointer none), (5, .pointer (some ⟨nb311, 0, none⟩))] ρ ∧ Hp.le K K' ∧ Is K' (.ptr (.cons (.sl (.int .i64)) (.one (.int .i64)))) [v313] p312 ∧ L' = Cl nb311 76 [ii xa.1, ii xa.2.1, .slice adxa_2 xa.2.2.1.length cpxa_2, .slice adxa_3 xa.2.2.2.1.length cpxa_3, .slice adxa_4 xa.2.2.2.2.1.length cpxa_4, .slice adxa_5 xa.2.2.2.2.2.1.length cpxa_5, .slice adxa_6 xa.2.2.2.2.2.2.length cpxa_6, v313] :: F) ?_ ?_
 · refine CJ.tree [Cl b271 30 [ii xa.1, ii xa.2.1, .slice adxa_2 xa.2.2.1.length cpxa_2, .slice adxa_3 xa.2.2.2.1.length cpxa_3, .slice adxa_4 xa.2.2.2.2.1.length cpxa_4, .slice adxa_5 xa.2.2.2.2.2.1.length cpxa_5, .slice adxa_6 xa.2.2.2.2.2.2.length cpxa_6]] (.still [0, 1] (.alt 2 (.still [3] (.alt 4 (.alt 5 (.leaf []) .done) .done)) (.alt 4 (.alt 2 (.still [3] (.alt 5 (.leaf []) .done)) .done) .done))) [] mixO (by decide +kernel) ⟨0, rfl, trivial⟩ rfl <| JT.still rfl <| qv (.agg #[ii xa.1, ii xa.2.1, .slice adxa_2 xa.2.2.1.length cpxa_2, .slice adxa_3 xa.2.2.2.1.length cpxa_3, .slice adxa_4 xa.2.2.2.2.1.length cpxa_4, .slice adxa_5 xa.2.2.2.2.2.1.length cpxa_5, .slice adxa_6 xa.2.2.2.2.2.2.length cpxa_6]) (V.ld rfl (Ld.agg (cs := [ii xa.1, ii xa.2.1, .slice adxa_2 xa.2.2.1.length cpxa_2, .slice adxa_3 xa.2.2.2.1.length cpxa_3, .slice adxa_4 xa.2.2.2.2.1.length cpxa_4, .slice adxa_5 xa.2.2.2.2.2.1.length cpxa_5, .slice adxa_6 xa.2.2.2.2.2.2.length cpxa_6]) Tryz.underlying30 sz30 rfl (Rd.cls 0 0 rfl rfl))) <| qv (.agg #[ii xa.1, ii xa.2.1, .slice adxa_2 xa.2.2.1.length cpxa_2, .slice adxa_3 xa.2.2.2.1.length cpxa_3, .slice adxa_4 xa.2.2.2.2.1.length cpxa_4, .slice adxa_5 xa.2.2.2.2.2.1.length cpxa_5, .slice adxa_6 xa.2.2.2.2.2.2.length cpxa_6]) (V.ld rfl (Ld.agg (cs := [ii xa.1, ii xa.2.1, .slice adxa_2 xa.2.2.1.length cpxa_2, .slice adxa_3 xa.2.2.2.1.length cpxa_3, .slice adxa_4 xa.2.2.2.2.1.length cpxa_4, .slice adxa_5 xa.2.2.2.2.2.1.length cpxa_5, .slice adxa_6 xa.2.2.2.2.2.2.length cpxa_6]) Tryz.underlying30 sz30 rfl (Rd.cls 0 0 rfl rfl))) <| JQ.nil ?_
   obtain ⟨r337, hr338, ho316⟩ := ob ho316
   refine JT.alt rfl ?_ ?_
   · refine JB.op rfl (A.call (L1 := []) Tryz.call21 rfl (point_New_ok fxa_2 fxa_3 fxa_4 fxa_5 fxa_6 hr338) rfl rfl) ?_
     rintro _ K343 _ ⟨v342, _, rfl, ⟨p336, v340, rfl, rfl, f341, rfl⟩, hK344, rfl⟩
     refine ⟨fun w hs => Hold.sub hK344 ⟨0, rfl, trivial⟩ hs, ?_⟩
     refine JT.still rfl ?_
     obtain ⟨q345, rfl⟩ := Is.ptrv f341
     refine qv (.agg #[ii xa.1, ii xa.2.1, .slice adxa_2 xa.2.2.1.length cpxa_2, .slice adxa_3 xa.2.2.2.1.length cpxa_3, .slice adxa_4 xa.2.2.2.2.1.length cpxa_4, .slice adxa_5 xa.2.2.2.2.2.1.length cpxa_5, .slice adxa_6 xa.2.2.2.2.2.2.length cpxa_6, .pointer q345]) (V.build inf76 places76 rfl rfl) <| JQ.nil <| JT.alt rfl ?_ JT.done
     refine JB.op rfl (A.alloc (cs := [ii 0, ii 0, nos, nos, nos, nos, nos, .pointer none]) inf76 rfl) ?_
     rintro _ _ _ ⟨b346, rfl, rfl, rfl⟩
     refine ⟨fun w hs => Hold.sub hK344 ⟨1, rfl, trivial⟩ hs, ?_⟩
     refine JT.alt rfl ?_ JT.done
     refine JB.op rfl (A.store (v := .agg #[ii xa.1, ii xa.2.1, .slice adxa_2 xa.2.2.1.length cpxa_2, .slice adxa_3 xa.2.2.2.1.length cpxa_3, .slice adxa_4 xa.2.2.2.2.1.length cpxa_4, .slice adxa_5 xa.2.2.2.2.2.1.length cpxa_5, .slice adxa_6 xa.2.2.2.2.2.2.length cpxa_6, .pointer q345]) (cs' := [ii xa.1, ii xa.2.1, .slice adxa_2 xa.2.2.1.length cpxa_2, .slice adxa_3 xa.2.2.2.1.length cpxa_3, .slice adxa_4 xa.2.2.2.2.1.length cpxa_4, .slice adxa_5 xa.2.2.2.2.2.1.length cpxa_5, .slice adxa_6 xa.2.2.2.2.2.2.length cpxa_6, .pointer q345]) sz76 rfl rfl rfl rfl rfl rfl) ?_
     rintro _ _ _ ⟨rfl, rfl, rfl⟩
     refine ⟨fun w hs => Hold.sub hK344 ⟨1, rfl, trivial⟩ hs, ?_⟩
     refine JT.leaf rfl <| JQ.nil <| J.dropAt 1 rfl <| J.nil ?_
     obtain rfl := si ho316
     exact ⟨rfl, ⟨p336, b346, .pointer q345, rfl, ⟨rfl, rfl, trivial⟩, hK344, f341, rfl⟩⟩
   refine JT.alt rfl ?_ JT.done
   refine JB.op rfl (A.alloc (cs := [ii 0, ii 0, nos, nos, nos, nos, nos, .pointer none]) inf76 rfl) ?_
   rintro _ _ _ ⟨b347, rfl, rfl, rfl⟩
   refine ⟨fun w hs => Hold.sub (Hp.le_refl _) ⟨1, rfl, trivial⟩ hs, ?_⟩
   refine JT.alt rfl ?_ JT.done
   refine JB.op rfl (A.call (L1 := []) Tryz.call21 rfl (point_New_ok fxa_2 fxa_3 fxa_4 fxa_5 fxa_6 hr338) rfl rfl) ?_
   rintro _ K352 _ ⟨v351, _, rfl, ⟨p336, v349, rfl, rfl, f350, rfl⟩, hK353, rfl⟩
   refine ⟨fun w hs => Hold.sub hK353 ⟨1, rfl, trivial⟩ hs, ?_⟩
   refine JT.still rfl ?_
   obtain ⟨q354, rfl⟩ := Is.ptrv f350
   refine qv (.agg #[ii xa.1, ii xa.2.1, .slice adxa_2 xa.2.2.1.length cpxa_2, .slice adxa_3 xa.2.2.2.1.length cpxa_3, .slice adxa_4 xa.2.2.2.2.1.length cpxa_4, .slice adxa_5 xa.2.2.2.2.2.1.length cpxa_5, .slice adxa_6 xa.2.2.2.2.2.2.length cpxa_6, .pointer q354]) (V.build inf76 places76 rfl rfl) <| JQ.nil <| JT.alt rfl ?_ JT.done
   refine JB.op rfl (A.store (v := .agg #[ii xa.1, ii xa.2.1, .slice adxa_2 xa.2.2.1.length cpxa_2, .slice adxa_3 xa.2.2.2.1.length cpxa_3, .slice adxa_4 xa.2.2.2.2.1.length cpxa_4, .slice adxa_5 xa.2.2.2.2.2.1.length cpxa_5, .slice adxa_6 xa.2.2.2.2.2.2.length cpxa_6, .pointer q354]) (cs' := [ii xa.1, ii xa.2.1, .slice adxa_2 xa.2.2.1.length cpxa_2, .slice adxa_3 xa.2.2.2.1.length cpxa_3, .slice adxa_4 xa.2.2.2.2.1.length cpxa_4, .slice adxa_5 xa.2.2.2.2.2.1.length cpxa_5, .slice adxa_6 xa.2.2.2.2.2.2.length cpxa_6, .pointer q354]) sz76 rfl rfl rfl rfl rfl rfl) ?_
   rintro _ _ _ ⟨rfl, rfl, rfl⟩
   refine ⟨fun w hs => Hold.sub hK353 ⟨1, rfl, trivial⟩ hs, ?_⟩
   refine JT.leaf rfl <| JQ.nil <| J.dropAt 1 rfl <| J.nil ?_
   obtain rfl := si ho316
   exact ⟨rfl, ⟨p336, b347, .pointer q354, rfl, ⟨rfl, rfl, trivial⟩, hK353, f350, rfl⟩⟩
 rintro ρ K310 _ ⟨p312, nb311, v313, rfl, hf355, hk356, f314, rfl⟩
 obtain ⟨ρ, rfl⟩ := hf355.ex
 refine PJ.done <| cr <| ja (nos) rfl <| J.nil <| CJ.seq <| CJ.seq ?_
 refine CJ.region <| jv _ (V.fad Tryz.underlying76 rfl nz73 rfl) <| jv v313 (V.ld rfl (Ld.sc sc73 (Rd.cl 0 rfl rfl))) ?_
 obtain ⟨r357, hr358, h⟩ := ob h
 refine J.op rfl (A.call (L1 := []) Tryz.call22 rfl (point_Points_Len_ok f314 hr358) rfl rfl) ?_
 rintro _ _ _ ⟨v360, _, rfl, ⟨⟨i359, rfl, rfl, rfl⟩, rfl⟩, _, rfl⟩
 refine jm (ii 0) rfl <| J.nil ?_
 obtain ⟨o444, ho445, h⟩ := ob h
 refine CJ.meetN (fun ρ K' L' => ∃ (l439 : (List (Int × Int × (Int × Int × Int × Int × Bool)))) (ad440 : Option Addr) (cp441 : Nat), l439 = o444 ∧ Fits [(1, .pointer none), (5, .pointer (some ⟨nb311, 0, none⟩)), (6, .slice ad440 l439.length cp441)] ρ ∧ K310 = K' ∧ L' = Cl nb311 76 [ii xa.1, ii xa.2.1, .slice adxa_2 xa.2.2.1.length cpxa_2, .slice adxa_3 xa.2.2.2.1.length cpxa_3, .slice adxa_4 xa.2.2.2.2.1.length cpxa_4, .slice adxa_5 xa.2.2.2.2.2.1.length cpxa_5, .slice adxa_6 xa.2.2.2.2.2.2.length cpxa_6, v313] :: Row Hp.nil 51 (.cons (.int .i64) (.cons (.int .i64) (.one (.cons (.int .i64) (.cons (.int .i64) (.cons (.int .i64) (.cons (.int .i64) (.one .bool)))))))) (.slice ad440 l439.length cp441) l439 :: F) ?_ ?_
 · refine CJ.block <| CJ.by (fun w hs => Sep.rowNil (e := 51) (t := (.cons (.int .i64) (.cons (.int .i64) (.one (.cons (.int .i64) (.cons (.int .i64) (.cons (.int .i64) (.cons (.int .i64) (.one .bool))))))))) hs) <| CJ.front 1 rfl <| CJ.loop (fun s ρ K' L' => ∃ (l471 : (List (Int × Int × (Int × Int × Int × Int × Bool)))) (i476 : Int) (ad472 : Option Addr) (cp473 : Nat), (l471, i476) = s ∧ Fits [(1, .pointer none), (5, .pointer (some ⟨nb311, 0, none⟩)), (6, .slice ad472 l471.length cp473), (14, ii i359), (15, ii i476)] ρ ∧ K310 = K' ∧ L' = Cl nb311 76 [ii xa.1, ii xa.2.1, .slice adxa_2 xa.2.2.1.length cpxa_2, .slice adxa_3 xa.2.2.2.1.length cpxa_3, .slice adxa_4 xa.2.2.2.2.1.length cpxa_4, .slice adxa_5 xa.2.2.2.2.2.1.length cpxa_5, .slice adxa_6 xa.2.2.2.2.2.2.length cpxa_6, v313] :: Row Hp.nil 51 (.cons (.int .i64) (.cons (.int .i64) (.one (.cons (.int .i64) (.cons (.int .i64) (.cons (.int .i64) (.cons (.int .i64) (.one .bool)))))))) (.slice ad472 l471.length cp473) l471 :: F) ho445 ⟨[], 0, none, 0, rfl, ⟨rfl, rfl, rfl, rfl, rfl, trivial⟩, rfl, rfl⟩ ?_
   rintro s ρ _ _ r504 ⟨l471, i476, ad472, cp473, rfl, hf502, rfl, rfl⟩ h500
   obtain ⟨ρ, rfl⟩ := hf502.ex
   refine CJ.front 1 rfl <| CJ.wit Row.hn fun hn475 => cr <| jv (.bool (decide (i476 < i359))) (V.lss rfl rfl) <| J.nil <| CJ.seq ?_
   refine cc rfl h500 (fun hc505 h500 => ?_) fun hc505 h500 => ?_
   · refine CJ.skip <| CJ.seq <| CJ.block <| cr <| jm (ii i476) rfl <| ja (ii i476) rfl ?_
     refine J.nil <| CJ.region <| jm (.slice ad472 l471.length cp473) rfl <| jv (.agg #[ii xa.1, ii xa.2.1, .slice adxa_2 xa.2.2.1.length cpxa_2, .slice adxa_3 xa.2.2.2.1.length cpxa_3, .slice adxa_4 xa.2.2.2.2.1.length cpxa_4, .slice adxa_5 xa.2.2.2.2.2.1.length cpxa_5, .slice adxa_6 xa.2.2.2.2.2.2.length cpxa_6, v313]) (V.ld rfl (Ld.agg (cs := [ii xa.1, ii xa.2.1, .slice adxa_2 xa.2.2.1.length cpxa_2, .slice adxa_3 xa.2.2.2.1.length cpxa_3, .slice adxa_4 xa.2.2.2.2.1.length cpxa_4, .slice adxa_5 xa.2.2.2.2.2.1.length cpxa_5, .slice adxa_6 xa.2.2.2.2.2.2.length cpxa_6, v313]) Tryz.underlying76 sz76 rfl (Rd.cls 1 0 rfl rfl))) <| jm (ii i476) rfl ?_
     obtain ⟨r506, hr507, h500⟩ := ob h500
     refine J.op rfl (A.call (L1 := []) Tryz.call23 rfl (cons_maker_at_ok (fxa_2.mono hk356) (fxa_3.mono hk356) (fxa_4.mono hk356) (fxa_5.mono hk356) (fxa_6.mono hk356) f314 hr507) rfl rfl) ?_
     rintro _ _ _ ⟨v512, _, rfl, ⟨⟨l508, ad509, cp510, rfl, rfl, rfl⟩, rfl⟩, _, rfl⟩
     refine J.wit Row.hn fun hn511 => ?_
     obtain ⟨z516, hz517, h500⟩ := ob h500
     refine J.front 1 rfl <| J.op rfl (A.appR (Kr := Hp.nil) Tryz.underlying36 inf51 rfl rfl (by decide) (by decide) rfl rfl (Els.flat rfl) (Els.flat rfl) hz517) ?_
     rintro _ _ _ ⟨v518, rfl, rfl, rfl⟩
     refine J.wit Row.form ?_
     rintro ⟨ad519, cp520, rfl, _, _, hn521⟩
     refine ja (.slice ad519 z516.length cp520) rfl <| J.nil <| CJ.region <| jv (ii (IntKind.wrap .i64 (i476 + 1))) (V.add rfl rfl) <| jm (ii (IntKind.wrap .i64 (i476 + 1))) rfl <| J.front 1 rfl <| J.nil ?_
     obtain rfl := si h500
     exact ⟨rfl, ⟨z516, IntKind.wrap .i64 (i476 + 1), ad519, cp520, rfl, ⟨rfl, rfl, rfl, rfl, rfl, trivial⟩, rfl, rfl⟩⟩
   refine CJ.front 1 rfl <| CJ.exit ?_
   obtain rfl := si h500
   refine ⟨nofun, fun e => ?_⟩
   subst e
   exact ⟨rfl, ⟨l471, ad472, cp473, rfl, ⟨rfl, rfl, rfl, trivial⟩, rfl, rfl⟩⟩
 rintro ρ _ _ ⟨l439, ad440, cp441, rfl, hf522, rfl, rfl⟩
 obtain ⟨ρ, rfl⟩ := hf522.ex
 refine PJ.front 1 rfl <| PJ.wit Row.hn fun hn443 => PJ.done <| cr <| jm (.pointer none) rfl <| jv _ (V.fad Tryz.underlying76 rfl nz73 rfl) ?_
 refine jv v313 (V.ld rfl (Ld.sc sc73 (Rd.cl 1 rfl rfl))) ?_
 obtain ⟨r524, hr525, h⟩ := ob h
 refine J.op rfl (A.call (L1 := []) Tryz.call22 rfl (point_Points_Len_ok f314 hr525) rfl rfl) ?_
 rintro _ _ _ ⟨v527, _, rfl, ⟨⟨i526, rfl, rfl, rfl⟩, rfl⟩, _, rfl⟩
 refine jm (.slice ad440 l439.length cp441) rfl <| jv (ii (((l439.length : Nat) : Int))) (V.len Tryz.underlying36 rfl) <| jv (ii (IntKind.wrap .i64 (i526 + (((l439.length : Nat) : Int))))) (V.add rfl rfl) ?_
 obtain ⟨r530, hr531, h⟩ := ob h
 refine J.op rfl (A.call (L1 := []) Tryz.call24 rfl (tick_Counter_Add_zii_ok hr531) rfl rfl) ?_
 rintro _ _ _ ⟨v532, _, rfl, ⟨⟨rfl, rfl, rfl⟩, rfl⟩, _, rfl⟩
 refine J.nil <| cr <| jm (.slice ad440 l439.length cp441) rfl <| ja (.slice ad440 l439.length cp441) rfl <| J.nil <| CJ.ret ?_
 obtain rfl := si h
 exact ⟨_, _, Res.one rfl rfl, ⟨l439, ad440, cp441, rfl, rfl, rfl⟩, hk356, fun w hs => (Sep.dropAt 1 rfl hs)⟩
noncomputable def fn_numeral_Text_l1  : (Int × (List Int) × Int) → Option ((Int × (List Int) × Int) ⊕ List UInt8) := fun ((i262, l263, i266) : (Int × (List Int) × Int)) => (getI l263 (IntKind.wrap .i64 (i266 - 1))).bind fun x295 => (some (l263.set (IntKind.wrap .i64 (i266 - 1)).toNat (IntKind.wrap .u8 (IntKind.wrap .i64 (48 + (Int.tmod i262 10)))))).bind fun z300 => cond (decide ((IntKind.wrap .i64 (Int.tdiv i262 10)) = 0)) ((subL z300 (IntKind.wrap .i64 (i266 - 1)) (((20 : Nat) : Int))).bind fun y308 => some (.inr (toU8 y308))) (some (.inl ((IntKind.wrap .i64 (Int.tdiv i262 10), z300, IntKind.wrap .i64 (i266 - 1)))))
noncomputable def fn_numeral_Text (xa : Int) : Option (List UInt8) :=
  cond (decide (xa < 0)) (some (([] : List UInt8))) (loop (fn_numeral_Text_l1) ((xa, ([0, 0, 0, 0, 0, 0, 0, 0, 0, 0, 0, 0, 0, 0, 0, 0, 0, 0, 0, 0] : List Int), 20)))
set_option maxRecDepth 100000 in
set_option maxHeartbeats 4000000 in
theorem numeral_Text_ok {K : Hp} {xa : Int}   {r : List UInt8} (h : fn_numeral_Text xa = some r) :
    Tr Tryz.prog 60 #[ii xa] K [] (fun v K' L' => (∃ (s157 : List UInt8), s157 = r ∧ .string ⟨s157.toArray⟩ = v ∧ L' = []) ∧ K = K') := by
 refine Tr.k <| Tr.of Tryz.func60 rfl Tryz.ntmps60 rfl fun E F => ?_
 unfold fn_numeral_Text at h
 refine cr <| ja (.string ⟨([] : List UInt8).toArray⟩) rfl <| J.nil <| CJ.seq <| CJ.seq <| CJ.region ?_
 refine jm (ii xa) rfl <| jv (.bool (decide (xa < 0))) (V.lss rfl rfl) <| J.nil <| cc rfl h (fun hc158 h => ?_) fun hc158 h => ?_
 · refine cr <| ja (.string ⟨([] : List UInt8).toArray⟩) rfl <| J.nil <| CJ.ret ?_
   obtain rfl := si h
   exact ⟨_, _, Res.one rfl rfl, ⟨([] : List UInt8), rfl, rfl, rfl⟩, (Hp.le_refl _), fun w hs => hs⟩
 refine CJ.skip <| cr <| jal inf136 [.int .u8 0, .int .u8 0, .int .u8 0, .int .u8 0, .int .u8 0, .int .u8 0, .int .u8 0, .int .u8 0, .int .u8 0, .int .u8 0, .int .u8 0, .int .u8 0, .int .u8 0, .int .u8 0, .int .u8 0, .int .u8 0, .int .u8 0, .int .u8 0, .int .u8 0, .int .u8 0] rfl fun b159 => ?_
 have hl160 : ([0, 0, 0, 0, 0, 0, 0, 0, 0, 0, 0, 0, 0, 0, 0, 0, 0, 0, 0, 0] : List Int).length = 20 := rfl
 refine J.by (fun w hs => Sep.arr (t := (.int .u8)) (xs := ([0, 0, 0, 0, 0, 0, 0, 0, 0, 0, 0, 0, 0, 0, 0, 0, 0, 0, 0, 0] : List Int)) ⟨_, _, rfl, rfl, ⟨_, _, rfl, rfl, ⟨_, _, rfl, rfl, ⟨_, _, rfl, rfl, ⟨_, _, rfl, rfl, ⟨_, _, rfl, rfl, ⟨_, _, rfl, rfl, ⟨_, _, rfl, rfl, ⟨_, _, rfl, rfl, ⟨_, _, rfl, rfl, ⟨_, _, rfl, rfl, ⟨_, _, rfl, rfl, ⟨_, _, rfl, rfl, ⟨_, _, rfl, rfl, ⟨_, _, rfl, rfl, ⟨_, _, rfl, rfl, ⟨_, _, rfl, rfl, ⟨_, _, rfl, rfl, ⟨_, _, rfl, rfl, ⟨_, _, rfl, rfl, rfl⟩⟩⟩⟩⟩⟩⟩⟩⟩⟩⟩⟩⟩⟩⟩⟩⟩⟩⟩⟩ hl160 rfl hs) <| J.nil <| cr <| ja (ii 20) rfl <| J.nil <| CJ.block ?_
 refine CJ.loop (fun s ρ K' L' => ∃ (i262 : Int) (l263 : (List Int)) (i266 : Int), (i262, l263, i266) = s ∧ Fits [(0, ii i262), (3, .pointer (some ⟨b159, 0, none⟩)), (4, ii i266)] ρ ∧ K = K' ∧ L' = Row Hp.nil 136 (.int .u8) (.slice (some ⟨b159, 0, none⟩) 20 20) l263 :: F) h ⟨xa, ([0, 0, 0, 0, 0, 0, 0, 0, 0, 0, 0, 0, 0, 0, 0, 0, 0, 0, 0, 0] : List Int), 20, rfl, ⟨rfl, rfl, rfl, trivial⟩, rfl, rfl⟩ ?_
 rintro s ρ _ _ r294 ⟨i262, l263, i266, rfl, hf292, rfl, rfl⟩ h291
 obtain ⟨ρ, rfl⟩ := hf292.ex
 refine CJ.wit Row.len fun hl265 => CJ.block <| cr <| jm (ii i266) rfl <| jv (ii (IntKind.wrap .i64 (i266 - 1))) (V.sub rfl rfl) <| ja (ii (IntKind.wrap .i64 (i266 - 1))) rfl ?_
 refine J.nil <| cr <| jm (ii (IntKind.wrap .i64 (i266 - 1))) rfl <| jm (ii i262) rfl <| jv (ii (Int.tmod i262 10)) (V.rem rfl rfl (by decide)) <| jv (ii (IntKind.wrap .i64 (48 + (Int.tmod i262 10)))) (V.add rfl rfl) ?_
 refine jv (.int .u8 (IntKind.wrap .u8 (IntKind.wrap .i64 (48 + (Int.tmod i262 10))))) (V.conv Tryz.underlying3 Tryz.underlying5 rfl) ?_
 obtain ⟨x295, hx296, h291⟩ := ob h291
 obtain ⟨p297, p298, p299⟩ := getI_some hx296
 refine jv _ (V.iadA Tryz.underlying136 sz5 rfl rfl p297 (lt_cap p299 hl265)) ?_
 obtain ⟨z300, hz301, h291⟩ := ob h291
 have e302 := Option.some.inj hz301
 have hl303 : z300.length = 20 := by rw [← e302, List.length_set]; exact hl265
 refine J.op rfl (A.storeR (ty := (.int .u8)) (q := 0) (y0 := IntKind.wrap .u8 (IntKind.wrap .i64 (48 + (Int.tmod i262 10)))) (zs := z300) sz5 rfl rfl rfl rfl rfl p298 (by simp [Tp.size]) (by decide) (by rintro _ rfl; exact rfl) e302) ?_
 rintro _ _ _ ⟨rfl, rfl, rfl⟩
 refine J.nil <| cr <| jm (ii i262) rfl <| jv (ii (IntKind.wrap .i64 (Int.tdiv i262 10))) (V.quo rfl rfl (by decide)) <| ja (ii (IntKind.wrap .i64 (Int.tdiv i262 10))) rfl <| J.nil ?_
 refine cr <| jm (ii (IntKind.wrap .i64 (Int.tdiv i262 10))) rfl <| jv (.bool (decide ((IntKind.wrap .i64 (Int.tdiv i262 10)) = 0))) (V.eql rfl rfl) <| J.nil <| cc rfl h291 (fun hc304 h291 => ?_) fun hc304 h291 => ?_
 · refine cr <| jm (ii (IntKind.wrap .i64 (i266 - 1))) rfl <| J.persist (Hp.nil_le _) (by decide) fun K305 hK306 f307 => ?_
   obtain ⟨y308, hy309, h291⟩ := ob h291
   obtain ⟨ad310, cp311, hv312, f313⟩ := V.subA (tp := (.int .u8)) Tryz.underlying136 sz5 hl303 f307 hy309
   refine jv (.slice ad310 y308.length cp311) (hv312 rfl (fun _ h => by cases h; exact ⟨_, rfl⟩) nofun nofun (fun _ => rfl)) <| jv (.string ⟨(toU8 y308).toArray⟩) (V.b2sK Tryz.underlying137 Tryz.underlying5 Tryz.underlying9 rfl f313 (Hp.le_refl _)) <| ja (.string ⟨(toU8 y308).toArray⟩) rfl <| J.nil <| CJ.ret ?_
   obtain rfl := si h291
   refine ⟨nofun, fun e => ?_⟩
   subst e
   exact ⟨_, _, Res.one rfl rfl, ⟨toU8 y308, rfl, rfl, rfl⟩, hK306, fun w hs => hs⟩
 refine CJ.skip ?_
 obtain rfl := si h291
 exact ⟨rfl, ⟨IntKind.wrap .i64 (Int.tdiv i262 10), z300, IntKind.wrap .i64 (i266 - 1), rfl, ⟨rfl, rfl, rfl, trivial⟩, rfl, rfl⟩⟩

noncomputable def fn_numeral_Pair (xa : (Int × Int)) : Option (List UInt8) :=
  cond ((decide (xa.1 < 0)) || (decide (xa.2 < 0))) (some (([] : List UInt8))) ((fn_numeral_Text xa.1).bind fun s62 => (app s62 ([58] : List UInt8)).bind fun z66 => (fn_numeral_Text xa.2).bind fun s70 => (app z66 s70).bind fun z74 => some (z74))
set_option maxRecDepth 100000 in
set_option maxHeartbeats 4000000 in
theorem numeral_Pair_ok {K : Hp} {xa : (Int × Int)}   {r : List UInt8} (h : fn_numeral_Pair xa = some r) :
    Tr Tryz.prog 37 #[.agg #[ii xa.1, ii xa.2]] K [] (fun v K' L' => (∃ (s38 : List UInt8), s38 = r ∧ .string ⟨s38.toArray⟩ = v ∧ L' = []) ∧ K = K') := by
 refine Tr.k <| Tr.of Tryz.func37 rfl Tryz.ntmps37 rfl fun E F => ?_
 unfold fn_numeral_Pair at h
 refine cr <| jbx [ii xa.1, ii xa.2] rfl rfl fun b39 => ja (.string ⟨([] : List UInt8).toArray⟩) rfl <| J.nil <| CJ.seq <| CJ.seq ?_
 refine CJ.region <| jv _ (V.fad Tryz.underlying83 rfl nz3 rfl) <| jv (ii xa.1) (V.ld rfl (Ld.sc sc3 (Rd.cl 0 rfl rfl))) <| jv (.bool (decide (xa.1 < 0))) (V.lss rfl rfl) <| jm (.bool (decide (xa.1 < 0))) rfl <| J.cut 4 <| jmeet [(10, .bool ((decide (xa.1 < 0)) || (decide (xa.2 < 0)))), (1, .pointer (some ⟨b39, 0, none⟩))] ?_ ?_
 · rcases bt (decide (xa.1 < 0)) with hc42 | hc42
   · refine J.skip rfl rfl rfl rfl hc42 <| J.skip rfl rfl rfl rfl hc42 <| J.skip rfl rfl rfl rfl hc42 <| jv (.bool true) (V.pickT rfl hc42 rfl) <| J.nil ?_
     exact ⟨rfl, ⟨(by simp only [hc42]; rfl), rfl, trivial⟩, rfl, rfl⟩
   refine J.run rfl rfl rfl hc42 <| jv _ (V.fad Tryz.underlying83 rfl nz3 rfl) <| J.run rfl rfl rfl hc42 <| jv (ii xa.2) (V.ld rfl (Ld.sc sc3 (Rd.cl 0 rfl rfl))) <| J.run rfl rfl rfl hc42 <| jv (.bool (decide (xa.2 < 0))) (V.lss rfl rfl) <| jv (.bool (decide (xa.2 < 0))) (V.pickF rfl hc42 rfl) ?_
   refine J.nil ?_
   exact ⟨rfl, ⟨(by simp only [hc42]; rfl), rfl, trivial⟩, rfl, rfl⟩
 intro ρ
 refine J.nil <| cc rfl h (fun hc43 h => ?_) fun hc43 h => ?_
 · refine cr <| ja (.string ⟨([] : List UInt8).toArray⟩) rfl <| J.nil <| CJ.ret ?_
   obtain rfl := si h
   exact ⟨_, _, Res.one rfl rfl, ⟨([] : List UInt8), rfl, rfl, rfl⟩, (Hp.le_refl _), fun w hs => (Sep.dropAt 0 rfl hs)⟩
 refine CJ.skip <| CJ.seq <| CJ.mix [Cl b39 83 [ii xa.1, ii xa.2]] [([0, 1, 4, 5], 2), ([3], 6)] [7, 8] [] mixO (by decide +kernel) ⟨0, rfl, trivial⟩ rfl rfl rfl <| JM.cons <| qv _ (V.fad Tryz.underlying83 rfl nz3 rfl) <| qv (ii xa.1) (V.ld rfl (Ld.sc sc3 (Rd.cl 0 rfl rfl))) <| qv _ (V.fad Tryz.underlying83 rfl nz3 rfl) ?_
 refine qv (ii xa.2) (V.ld rfl (Ld.sc sc3 (Rd.cl 0 rfl rfl))) <| JQ.nil ?_
 obtain ⟨r60, hr61, h⟩ := ob h
 refine JA.op rfl (A.call (L1 := []) Tryz.call60 rfl (numeral_Text_ok hr61) rfl rfl) ?_
 rintro _ _ _ ⟨v63, _, rfl, ⟨⟨s62, rfl, rfl, rfl⟩, rfl⟩, _, rfl⟩
 refine ⟨fun w hs => Hold.sub (Hp.le_refl _) ⟨0, rfl, trivial⟩ hs, ?_⟩
 refine JM.cons ?_
 obtain ⟨z66, hz67, h⟩ := ob h
 refine qv (.string ⟨z66.toArray⟩) (V.cat rfl rfl hz67) <| JQ.nil ?_
 obtain ⟨r68, hr69, h⟩ := ob h
 refine JA.op rfl (A.call (L1 := []) Tryz.call60 rfl (numeral_Text_ok hr69) rfl rfl) ?_
 rintro _ _ _ ⟨v71, _, rfl, ⟨⟨s70, rfl, rfl, rfl⟩, rfl⟩, _, rfl⟩
 refine ⟨fun w hs => Hold.sub (Hp.le_refl _) ⟨0, rfl, trivial⟩ hs, ?_⟩
 refine JM.nil ?_
 obtain ⟨z74, hz75, h⟩ := ob h
 refine qv (.string ⟨z74.toArray⟩) (V.cat rfl rfl hz75) <| qa (.string ⟨z74.toArray⟩) rfl <| JQ.nil <| J.nil <| CJ.ret ?_
 obtain rfl := si h
 exact ⟨_, _, Res.one rfl rfl, ⟨z74, rfl, rfl, rfl⟩, (Hp.le_refl _), fun w hs => (Sep.dropAt 0 rfl hs)⟩

noncomputable def fn_prov_isKind (xa : Int) : Option Bool :=
  some ((decide (1 ≤ xa)) && (decide (xa ≤ 7)))
set_option maxRecDepth 100000 in
set_option maxHeartbeats 4000000 in
theorem prov_isKind_ok {K : Hp} {xa : Int}   {r : Bool} (h : fn_prov_isKind xa = some r) :
    Tr Tryz.prog 33 #[ii xa] K [] (fun v K' L' => (∃ (t4 : Bool), t4 = r ∧ .bool t4 = v ∧ L' = []) ∧ K = K') := by
 refine Tr.k <| Tr.of Tryz.func33 rfl Tryz.ntmps33 rfl fun E F => ?_
 unfold fn_prov_isKind at h
 refine cr <| ja (.bool false) rfl <| J.nil <| cr <| jm (ii xa) rfl ?_
 refine jv (.bool (decide (1 ≤ xa))) (V.geq rfl rfl) <| jm (.bool (decide (1 ≤ xa))) rfl <| J.cut 3 <| jmeet [(8, .bool ((decide (1 ≤ xa)) && (decide (xa ≤ 7))))] ?_ ?_
 · rcases bt (decide (1 ≤ xa)) with hc7 | hc7
   · refine J.run rfl rfl rfl hc7 <| jm (ii xa) rfl <| J.run rfl rfl rfl hc7 <| jv (.bool (decide (xa ≤ 7))) (V.leq rfl rfl) <| jv (.bool (decide (xa ≤ 7))) (V.pickT rfl hc7 rfl) <| J.nil ?_
     exact ⟨rfl, ⟨(by simp only [hc7]; rfl), trivial⟩, rfl, rfl⟩
   refine J.skip rfl rfl rfl rfl hc7 <| J.skip rfl rfl rfl rfl hc7 <| jv (.bool false) (V.pickF rfl hc7 rfl) <| J.nil ?_
   exact ⟨rfl, ⟨(by simp only [hc7]; rfl), trivial⟩, rfl, rfl⟩
 intro ρ
 refine ja (.bool ((decide (1 ≤ xa)) && (decide (xa ≤ 7)))) rfl <| J.nil <| CJ.ret ?_
 obtain rfl := si h
 exact ⟨_, _, Res.one rfl rfl, ⟨(decide (1 ≤ xa)) && (decide (xa ≤ 7)), rfl, rfl, rfl⟩, (Hp.le_refl _), fun w hs => hs⟩

noncomputable def fn_prov_Right (xa : (Int × Int × Int × Int × Bool)) : Option Bool :=
  (cond (((decide (0 ≤ xa.1)) && (decide (0 ≤ xa.2.1))) && (decide (0 ≤ xa.2.2.2.1))) ((fn_prov_isKind xa.2.2.1).bind fun t44 => some (t44)) (some (false))).bind fun t39 => some (t39)
set_option maxRecDepth 100000 in
set_option maxHeartbeats 4000000 in
theorem prov_Right_ok {K : Hp} {xa : (Int × Int × Int × Int × Bool)}   {r : Bool} (h : fn_prov_Right xa = some r) :
    Tr Tryz.prog 18 #[.agg #[ii xa.1, ii xa.2.1, ii xa.2.2.1, ii xa.2.2.2.1, .bool xa.2.2.2.2]] K [] (fun v K' L' => (∃ (t24 : Bool), t24 = r ∧ .bool t24 = v ∧ L' = []) ∧ K = K') := by
 refine Tr.k <| Tr.of Tryz.func18 rfl Tryz.ntmps18 rfl fun E F => ?_
 unfold fn_prov_Right at h
 refine cr <| jbx [ii xa.1, ii xa.2.1, ii xa.2.2.1, ii xa.2.2.2.1, .bool xa.2.2.2.2] rfl rfl fun b25 => ja (.bool false) rfl <| J.nil <| CJ.seq <| CJ.region ?_
 refine jv _ (V.fad Tryz.underlying49 rfl nz3 rfl) <| jv (ii xa.1) (V.ld rfl (Ld.sc sc3 (Rd.cl 0 rfl rfl))) <| jv (.bool (decide (0 ≤ xa.1))) (V.geq rfl rfl) <| jm (.bool (decide (0 ≤ xa.1))) rfl <| J.cut 4 <| jmeet [(10, .bool ((decide (0 ≤ xa.1)) && (decide (0 ≤ xa.2.1)))), (1, .pointer (some ⟨b25, 0, none⟩))] ?_ ?_
 · rcases bt (decide (0 ≤ xa.1)) with hc28 | hc28
   · refine J.run rfl rfl rfl hc28 <| jv _ (V.fad Tryz.underlying49 rfl nz3 rfl) <| J.run rfl rfl rfl hc28 <| jv (ii xa.2.1) (V.ld rfl (Ld.sc sc3 (Rd.cl 0 rfl rfl))) <| J.run rfl rfl rfl hc28 <| jv (.bool (decide (0 ≤ xa.2.1))) (V.geq rfl rfl) <| jv (.bool (decide (0 ≤ xa.2.1))) (V.pickT rfl hc28 rfl) ?_
     refine J.nil ?_
     exact ⟨rfl, ⟨(by simp only [hc28]; rfl), rfl, trivial⟩, rfl, rfl⟩
   refine J.skip rfl rfl rfl rfl hc28 <| J.skip rfl rfl rfl rfl hc28 <| J.skip rfl rfl rfl rfl hc28 <| jv (.bool false) (V.pickF rfl hc28 rfl) <| J.nil ?_
   exact ⟨rfl, ⟨(by simp only [hc28]; rfl), rfl, trivial⟩, rfl, rfl⟩
 intro ρ
 refine jm (.bool ((decide (0 ≤ xa.1)) && (decide (0 ≤ xa.2.1)))) rfl <| J.cut 4 <| jmeet [(15, .bool (((decide (0 ≤ xa.1)) && (decide (0 ≤ xa.2.1))) && (decide (0 ≤ xa.2.2.2.1)))), (1, .pointer (some ⟨b25, 0, none⟩))] ?_ ?_
 · rcases bt ((decide (0 ≤ xa.1)) && (decide (0 ≤ xa.2.1))) with hc31 | hc31
   · refine J.run rfl rfl rfl hc31 <| jv _ (V.fad Tryz.underlying49 rfl nz3 rfl) <| J.run rfl rfl rfl hc31 <| jv (ii xa.2.2.2.1) (V.ld rfl (Ld.sc sc3 (Rd.cl 0 rfl rfl))) <| J.run rfl rfl rfl hc31 <| jv (.bool (decide (0 ≤ xa.2.2.2.1))) (V.geq rfl rfl) <| jv (.bool (decide (0 ≤ xa.2.2.2.1))) (V.pickT rfl hc31 rfl) ?_
     refine J.nil ?_
     exact ⟨rfl, ⟨(by simp only [hc31]; rfl), rfl, trivial⟩, rfl, rfl⟩
   refine J.skip rfl rfl rfl rfl hc31 <| J.skip rfl rfl rfl rfl hc31 <| J.skip rfl rfl rfl rfl hc31 <| jv (.bool false) (V.pickF rfl hc31 rfl) <| J.nil ?_
   exact ⟨rfl, ⟨(by simp only [hc31]; rfl), rfl, trivial⟩, rfl, rfl⟩
 intro ρ
 refine jm (.bool (((decide (0 ≤ xa.1)) && (decide (0 ≤ xa.2.1))) && (decide (0 ≤ xa.2.2.2.1)))) rfl <| J.cut 4 ?_
 obtain ⟨t39, ht40, h⟩ := ob h
 refine jmeet [(20, .bool t39)] ?_ ?_
 · rcases bt (((decide (0 ≤ xa.1)) && (decide (0 ≤ xa.2.1))) && (decide (0 ≤ xa.2.2.2.1))) with hc41 | hc41
   · have ht40 := ct hc41 ht40
     refine J.run rfl rfl rfl hc41 <| jv _ (V.fad Tryz.underlying49 rfl nz3 rfl) <| J.run rfl rfl rfl hc41 <| jv (ii xa.2.2.1) (V.ld rfl (Ld.sc sc3 (Rd.cl 0 rfl rfl))) <| J.run rfl rfl rfl hc41 ?_
     obtain ⟨r42, hr43, ht40⟩ := ob ht40
     refine J.op rfl (A.call (L1 := []) Tryz.call33 rfl (prov_isKind_ok hr43) rfl rfl) ?_
     rintro _ _ _ ⟨v45, _, rfl, ⟨⟨t44, rfl, rfl, rfl⟩, rfl⟩, _, rfl⟩
     refine jv (.bool t44) (V.pickT rfl hc41 rfl) <| J.nil ?_
     obtain rfl := si ht40
     exact ⟨rfl, ⟨rfl, trivial⟩, rfl, rfl⟩
   have ht40 := cf hc41 ht40
   refine J.skip rfl rfl rfl rfl hc41 <| J.skip rfl rfl rfl rfl hc41 <| J.skip rfl rfl rfl rfl hc41 <| jv (.bool false) (V.pickF rfl hc41 rfl) <| J.nil ?_
   obtain rfl := si ht40
   exact ⟨rfl, ⟨rfl, trivial⟩, rfl, rfl⟩
 intro ρ
 refine ja (.bool t39) rfl <| J.nil <| CJ.ret ?_
 obtain rfl := si h
 exact ⟨_, _, Res.one rfl rfl, ⟨t39, rfl, rfl, rfl⟩, (Hp.le_refl _), fun w hs => (Sep.dropAt 0 rfl hs)⟩

noncomputable def fn_prov_Name (xa : Int) : Option (List UInt8) :=
  cond (decide (xa = 1)) (some (([102, 108, 111, 119] : List UInt8))) (cond (decide (xa = 2)) (some (([108, 111, 97, 110] : List UInt8))) (cond (decide (xa = 3)) (some (([98, 97, 115, 101] : List UInt8))) (cond (decide (xa = 4)) (some (([110, 101, 101, 100] : List UInt8))) (cond (decide (xa = 5)) (some (([112, 97, 115, 115] : List UInt8))) (cond (decide (xa = 6)) (some (([103, 105, 118, 101] : List UInt8))) (cond (decide (xa = 7)) (some (([111, 117, 116] : List UInt8))) (some (([63] : List UInt8)))))))))
set_option maxRecDepth 100000 in
set_option maxHeartbeats 4000000 in
theorem prov_Name_ok {K : Hp} {xa : Int}   {r : List UInt8} (h : fn_prov_Name xa = some r) :
    Tr Tryz.prog 61 #[ii xa] K [] (fun v K' L' => (∃ (s8 : List UInt8), s8 = r ∧ .string ⟨s8.toArray⟩ = v ∧ L' = []) ∧ K = K') := by
 refine Tr.k <| Tr.of Tryz.func61 rfl Tryz.ntmps61 rfl fun E F => ?_
 unfold fn_prov_Name at h
 refine cr <| ja (.string ⟨([] : List UInt8).toArray⟩) rfl <| J.nil <| CJ.seq <| CJ.seq <| CJ.region ?_
 refine jm (ii xa) rfl <| J.nil <| CJ.block <| cr <| jv (.bool (decide (xa = 1))) (V.eql rfl rfl) <| ja (.bool (decide (xa = 1))) rfl ?_
 refine J.nil <| cc rfl h (fun hc9 h => ?_) fun hc9 h => ?_
 · refine cr <| ja (.string ⟨([102, 108, 111, 119] : List UInt8).toArray⟩) rfl <| J.nil <| CJ.ret ?_
   obtain rfl := si h
   exact ⟨_, _, Res.one rfl rfl, ⟨([102, 108, 111, 119] : List UInt8), rfl, rfl, rfl⟩, (Hp.le_refl _), fun w hs => hs⟩
 refine cr <| jv (.bool (decide (xa = 2))) (V.eql rfl rfl) <| ja (.bool (decide (xa = 2))) rfl <| J.nil <| cc rfl h (fun hc10 h => ?_) fun hc10 h => ?_
 · refine cr <| ja (.string ⟨([108, 111, 97, 110] : List UInt8).toArray⟩) rfl <| J.nil <| CJ.ret ?_
   obtain rfl := si h
   exact ⟨_, _, Res.one rfl rfl, ⟨([108, 111, 97, 110] : List UInt8), rfl, rfl, rfl⟩, (Hp.le_refl _), fun w hs => hs⟩
 refine cr <| jv (.bool (decide (xa = 3))) (V.eql rfl rfl) <| ja (.bool (decide (xa = 3))) rfl <| J.nil <| cc rfl h (fun hc11 h => ?_) fun hc11 h => ?_
 · refine cr <| ja (.string ⟨([98, 97, 115, 101] : List UInt8).toArray⟩) rfl <| J.nil <| CJ.ret ?_
   obtain rfl := si h
   exact ⟨_, _, Res.one rfl rfl, ⟨([98, 97, 115, 101] : List UInt8), rfl, rfl, rfl⟩, (Hp.le_refl _), fun w hs => hs⟩
 refine cr <| jv (.bool (decide (xa = 4))) (V.eql rfl rfl) <| ja (.bool (decide (xa = 4))) rfl <| J.nil <| cc rfl h (fun hc12 h => ?_) fun hc12 h => ?_
 · refine cr <| ja (.string ⟨([110, 101, 101, 100] : List UInt8).toArray⟩) rfl <| J.nil <| CJ.ret ?_
   obtain rfl := si h
   exact ⟨_, _, Res.one rfl rfl, ⟨([110, 101, 101, 100] : List UInt8), rfl, rfl, rfl⟩, (Hp.le_refl _), fun w hs => hs⟩
 refine cr <| jv (.bool (decide (xa = 5))) (V.eql rfl rfl) <| ja (.bool (decide (xa = 5))) rfl <| J.nil <| cc rfl h (fun hc13 h => ?_) fun hc13 h => ?_
 · refine cr <| ja (.string ⟨([112, 97, 115, 115] : List UInt8).toArray⟩) rfl <| J.nil <| CJ.ret ?_
   obtain rfl := si h
   exact ⟨_, _, Res.one rfl rfl, ⟨([112, 97, 115, 115] : List UInt8), rfl, rfl, rfl⟩, (Hp.le_refl _), fun w hs => hs⟩
 refine cr <| jv (.bool (decide (xa = 6))) (V.eql rfl rfl) <| ja (.bool (decide (xa = 6))) rfl <| J.nil <| cc rfl h (fun hc14 h => ?_) fun hc14 h => ?_
 · refine cr <| ja (.string ⟨([103, 105, 118, 101] : List UInt8).toArray⟩) rfl <| J.nil <| CJ.ret ?_
   obtain rfl := si h
   exact ⟨_, _, Res.one rfl rfl, ⟨([103, 105, 118, 101] : List UInt8), rfl, rfl, rfl⟩, (Hp.le_refl _), fun w hs => hs⟩
 refine cr <| jv (.bool (decide (xa = 7))) (V.eql rfl rfl) <| ja (.bool (decide (xa = 7))) rfl <| J.nil <| cc rfl h (fun hc15 h => ?_) fun hc15 h => ?_
 · refine cr <| ja (.string ⟨([111, 117, 116] : List UInt8).toArray⟩) rfl <| J.nil <| CJ.ret ?_
   obtain rfl := si h
   exact ⟨_, _, Res.one rfl rfl, ⟨([111, 117, 116] : List UInt8), rfl, rfl, rfl⟩, (Hp.le_refl _), fun w hs => hs⟩
 refine CJ.skip <| cr <| ja (.string ⟨([63] : List UInt8).toArray⟩) rfl <| J.nil <| CJ.ret ?_
 obtain rfl := si h
 exact ⟨_, _, Res.one rfl rfl, ⟨([63] : List UInt8), rfl, rfl, rfl⟩, (Hp.le_refl _), fun w hs => hs⟩

noncomputable def fn_prov_Text (xa : (Int × Int × Int × Int × Bool)) : Option (List UInt8) :=
  (fn_prov_Right (xa.1, xa.2.1, xa.2.2.1, xa.2.2.2.1, xa.2.2.2.2)).bind fun t103 => cond (!t103) (some (([63] : List UInt8))) ((fn_numeral_Text xa.1).bind fun s141 => (app s141 ([46] : List UInt8)).bind fun z145 => (fn_numeral_Text xa.2.1).bind fun s149 => (app z145 s149).bind fun z153 => (fn_prov_Name xa.2.2.1).bind fun s157 => (fn_numeral_Text xa.2.2.2.1).bind fun s163 => cond (xa.2.2.2.2) ((app (([z153, s157, s163] : List (List UInt8))) (([([98, 97, 99, 107] : List UInt8)] : List (List UInt8)))).bind fun z174 => (joinF z174 ([32] : List UInt8)).bind fun s185 => some (s185)) ((joinF (([z153, s157, s163] : List (List UInt8))) ([32] : List UInt8)).bind fun s194 => some (s194)))
set_option maxRecDepth 100000 in
set_option maxHeartbeats 4000000 in
theorem prov_Text_ok {K : Hp} {xa : (Int × Int × Int × Int × Bool)}   {r : List UInt8} (h : fn_prov_Text xa = some r) :
    Tr Tryz.prog 38 #[.agg #[ii xa.1, ii xa.2.1, ii xa.2.2.1, ii xa.2.2.2.1, .bool xa.2.2.2.2]] K [] (fun v K' L' => (∃ (s99 : List UInt8), s99 = r ∧ .string ⟨s99.toArray⟩ = v ∧ L' = []) ∧ K = K') := by
 refine Tr.k <| Tr.of Tryz.func38 rfl Tryz.ntmps38 rfl fun E F => ?_
 unfold fn_prov_Text at h
 refine cr <| jbx [ii xa.1, ii xa.2.1, ii xa.2.2.1, ii xa.2.2.2.1, .bool xa.2.2.2.2] rfl rfl fun b100 => ja (.string ⟨([] : List UInt8).toArray⟩) rfl <| J.nil <| CJ.seq <| CJ.seq ?_
 refine CJ.region <| jv (.agg #[ii xa.1, ii xa.2.1, ii xa.2.2.1, ii xa.2.2.2.1, .bool xa.2.2.2.2]) (V.ld rfl (Ld.agg (cs := [ii xa.1, ii xa.2.1, ii xa.2.2.1, ii xa.2.2.2.1, .bool xa.2.2.2.2]) Tryz.underlying49 sz49 rfl (Rd.cls 0 0 rfl rfl))) ?_
 obtain ⟨r101, hr102, h⟩ := ob h
 refine J.op rfl (A.call (L1 := []) Tryz.call18 rfl (prov_Right_ok hr102) rfl rfl) ?_
 rintro _ _ _ ⟨v104, _, rfl, ⟨⟨t103, rfl, rfl, rfl⟩, rfl⟩, _, rfl⟩
 refine jv (.bool (!t103)) (V.not rfl) <| J.nil <| cc rfl h (fun hc107 h => ?_) fun hc107 h => ?_
 · refine cr <| ja (.string ⟨([63] : List UInt8).toArray⟩) rfl <| J.nil <| CJ.ret ?_
   obtain rfl := si h
   exact ⟨_, _, Res.one rfl rfl, ⟨([63] : List UInt8), rfl, rfl, rfl⟩, (Hp.le_refl _), fun w hs => (Sep.dropAt 0 rfl hs)⟩
 refine CJ.skip <| CJ.seq <| CJ.mix [Cl b100 49 [ii xa.1, ii xa.2.1, ii xa.2.2.1, ii xa.2.2.2.1, .bool xa.2.2.2.2]] [([0, 1, 4, 5, 8, 9, 11, 12], 2), ([3], 6), ([7], 10), ([], 13), ([], 14)] [15] [] mixO (by decide +kernel) ⟨0, rfl, trivial⟩ rfl rfl rfl <| JM.cons <| qv _ (V.fad Tryz.underlying49 rfl nz3 rfl) <| qv (ii xa.1) (V.ld rfl (Ld.sc sc3 (Rd.cl 0 rfl rfl))) <| qv _ (V.fad Tryz.underlying49 rfl nz3 rfl) ?_
 refine qv (ii xa.2.1) (V.ld rfl (Ld.sc sc3 (Rd.cl 0 rfl rfl))) <| qv _ (V.fad Tryz.underlying49 rfl nz3 rfl) <| qv (ii xa.2.2.1) (V.ld rfl (Ld.sc sc3 (Rd.cl 0 rfl rfl))) <| qv _ (V.fad Tryz.underlying49 rfl nz3 rfl) <| qv (ii xa.2.2.2.1) (V.ld rfl (Ld.sc sc3 (Rd.cl 0 rfl rfl))) <| JQ.nil ?_
 obtain ⟨r139, hr140, h⟩ := ob h
 refine JA.op rfl (A.call (L1 := []) Tryz.call60 rfl (numeral_Text_ok hr140) rfl rfl) ?_
 rintro _ _ _ ⟨v142, _, rfl, ⟨⟨s141, rfl, rfl, rfl⟩, rfl⟩, _, rfl⟩
 refine ⟨fun w hs => Hold.sub (Hp.le_refl _) ⟨0, rfl, trivial⟩ hs, ?_⟩
 refine JM.cons ?_
 obtain ⟨z145, hz146, h⟩ := ob h
 refine qv (.string ⟨z145.toArray⟩) (V.cat rfl rfl hz146) <| JQ.nil ?_
 obtain ⟨r147, hr148, h⟩ := ob h
 refine JA.op rfl (A.call (L1 := []) Tryz.call60 rfl (numeral_Text_ok hr148) rfl rfl) ?_
 rintro _ _ _ ⟨v150, _, rfl, ⟨⟨s149, rfl, rfl, rfl⟩, rfl⟩, _, rfl⟩
 refine ⟨fun w hs => Hold.sub (Hp.le_refl _) ⟨0, rfl, trivial⟩ hs, ?_⟩
 refine JM.cons ?_
 obtain ⟨z153, hz154, h⟩ := ob h
 refine qv (.string ⟨z153.toArray⟩) (V.cat rfl rfl hz154) <| JQ.nil ?_
 obtain ⟨r155, hr156, h⟩ := ob h
 refine JA.op rfl (A.call (L1 := []) Tryz.call61 rfl (prov_Name_ok hr156) rfl rfl) ?_
 rintro _ _ _ ⟨v158, _, rfl, ⟨⟨s157, rfl, rfl, rfl⟩, rfl⟩, _, rfl⟩
 refine ⟨fun w hs => Hold.sub (Hp.le_refl _) ⟨0, rfl, trivial⟩ hs, ?_⟩
 refine JM.cons <| JQ.nil ?_
 obtain ⟨r161, hr162, h⟩ := ob h
 refine JA.op rfl (A.call (L1 := []) Tryz.call60 rfl (numeral_Text_ok hr162) rfl rfl) ?_
 rintro _ _ _ ⟨v164, _, rfl, ⟨⟨s163, rfl, rfl, rfl⟩, rfl⟩, _, rfl⟩
 refine ⟨fun w hs => Hold.sub (Hp.le_refl _) ⟨0, rfl, trivial⟩ hs, ?_⟩
 refine JM.cons <| JQ.nil ?_
 refine JA.op rfl (A.lit (K0 := Hp.nil) (ty := .str) (xs := ([z153, s157, s163] : List (List UInt8))) Tryz.underlying45 inf9 rfl (by decide) rfl rfl rfl ⟨_, _, rfl, rfl, ⟨_, _, rfl, rfl, ⟨_, _, rfl, rfl, rfl⟩⟩⟩ rfl (by decide)) ?_
 rintro _ _ _ ⟨b167, rfl, rfl, rfl⟩
 have hn168 : ([z153, s157, s163] : List (List UInt8)) ≠ [] → ∃ g, (some ⟨b167, 0, none⟩ : Option Addr) = some ⟨g, 0, none⟩ := fun _ => ⟨b167, rfl⟩
 refine ⟨fun w hs => Hold.sub (Hp.le_refl _) ⟨1, rfl, trivial⟩ hs, ?_⟩
 refine JM.nil <| qa (.slice (some ⟨b167, 0, none⟩) ((([z153, s157, s163] : List (List UInt8))).length) 3) rfl <| JQ.nil <| J.nil <| CJ.seq <| CJ.seq <| CJ.region ?_
 refine jv _ (V.fad Tryz.underlying49 rfl nz4 rfl) <| jv (.bool xa.2.2.2.2) (V.ld rfl (Ld.sc sc4 (Rd.cl 1 rfl rfl))) <| J.nil <| cc rfl h (fun hc170 h => ?_) fun hc170 h => ?_
 · refine CJ.region <| jm (.slice (some ⟨b167, 0, none⟩) ((([z153, s157, s163] : List (List UInt8))).length) 3) rfl ?_
   refine J.op rfl (A.lit (K0 := Hp.nil) (ty := .str) (xs := ([([98, 97, 99, 107] : List UInt8)] : List (List UInt8))) Tryz.underlying45 inf9 rfl (by decide) rfl rfl rfl ⟨_, _, rfl, rfl, rfl⟩ rfl (by decide)) ?_
   rintro _ _ _ ⟨b171, rfl, rfl, rfl⟩
   have hn172 : ([([98, 97, 99, 107] : List UInt8)] : List (List UInt8)) ≠ [] → ∃ g, (some ⟨b171, 0, none⟩ : Option Addr) = some ⟨g, 0, none⟩ := fun _ => ⟨b171, rfl⟩
   obtain ⟨z174, hz175, h⟩ := ob h
   refine J.front 1 rfl <| J.op rfl (A.appR (Kr := Hp.nil) Tryz.underlying45 inf9 rfl rfl (by decide) (by decide) rfl rfl (Els.flat rfl) (Els.flat rfl) hz175) ?_
   rintro _ _ _ ⟨v176, rfl, rfl, rfl⟩
   refine J.wit Row.form ?_
   rintro ⟨ad177, cp178, rfl, _, _, hn179⟩
   refine ja (.slice ad177 z174.length cp178) rfl <| J.nil <| cr <| jm (.slice ad177 z174.length cp178) rfl ?_
   obtain ⟨r180, hr181, h⟩ := ob h
   refine J.op rfl (A.call (L1 := [Row Hp.nil 9 .str (.slice ad177 z174.length cp178) z174]) Tryz.call62 rfl (Tr.lend (Hp.nil_le _) (by decide) (fun K182 hK183 f184 => strings_Join_ok f184 hr181)) rfl rfl) ?_
   rintro _ _ _ ⟨v186, _, rfl, ⟨⟨_, ⟨s185, rfl, rfl, rfl⟩, rfl⟩, rfl⟩, _, rfl⟩
   refine ja (.string ⟨s185.toArray⟩) rfl <| J.nil <| CJ.ret ?_
   obtain rfl := si h
   exact ⟨_, _, Res.one rfl rfl, ⟨s185, rfl, rfl, rfl⟩, (Hp.le_refl _), fun w hs => (Sep.dropAt 0 rfl (Sep.dropAt 0 rfl hs))⟩
 refine CJ.skip <| cr <| jm (.slice (some ⟨b167, 0, none⟩) ((([z153, s157, s163] : List (List UInt8))).length) 3) rfl ?_
 obtain ⟨r189, hr190, h⟩ := ob h
 refine J.op rfl (A.call (L1 := [Row Hp.nil 9 .str (.slice (some ⟨b167, 0, none⟩) ((([z153, s157, s163] : List (List UInt8))).length) 3) (([z153, s157, s163] : List (List UInt8)))]) Tryz.call62 rfl (Tr.lend (Hp.nil_le _) (by decide) (fun K191 hK192 f193 => strings_Join_ok f193 hr190)) rfl rfl) ?_
 rintro _ _ _ ⟨v195, _, rfl, ⟨⟨_, ⟨s194, rfl, rfl, rfl⟩, rfl⟩, rfl⟩, _, rfl⟩
 refine ja (.string ⟨s194.toArray⟩) rfl <| J.nil <| CJ.ret ?_
 obtain rfl := si h
 exact ⟨_, _, Res.one rfl rfl, ⟨s194, rfl, rfl, rfl⟩, (Hp.le_refl _), fun w hs => (Sep.dropAt 0 rfl (Sep.dropAt 0 rfl hs))⟩

noncomputable def fn_prov_Edge (xa : (Int × Int × (Int × Int × Int × Int × Bool))) : Option (List UInt8) :=
  (fn_numeral_Pair (xa.1, xa.2.1)).bind fun s54 => (app s54 ([32, 97, 116, 32] : List UInt8)).bind fun z58 => (fn_prov_Text (xa.2.2.1, xa.2.2.2.1, xa.2.2.2.2.1, xa.2.2.2.2.2.1, xa.2.2.2.2.2.2)).bind fun s62 => (app z58 s62).bind fun z66 => some (z66)
set_option maxRecDepth 100000 in
set_option maxHeartbeats 4000000 in
theorem prov_Edge_ok {K : Hp} {xa : (Int × Int × (Int × Int × Int × Int × Bool))}   {r : List UInt8} (h : fn_prov_Edge xa = some r) :
    Tr Tryz.prog 27 #[.agg #[ii xa.1, ii xa.2.1, ii xa.2.2.1, ii xa.2.2.2.1, ii xa.2.2.2.2.1, ii xa.2.2.2.2.2.1, .bool xa.2.2.2.2.2.2]] K [] (fun v K' L' => (∃ (s34 : List UInt8), s34 = r ∧ .string ⟨s34.toArray⟩ = v ∧ L' = []) ∧ K = K') := by
 refine Tr.k <| Tr.of Tryz.func27 rfl Tryz.ntmps27 rfl fun E F => ?_
 unfold fn_prov_Edge at h
 refine cr <| jbx [ii xa.1, ii xa.2.1, ii xa.2.2.1, ii xa.2.2.2.1, ii xa.2.2.2.2.1, ii xa.2.2.2.2.2.1, .bool xa.2.2.2.2.2.2] rfl rfl fun b35 => ja (.string ⟨([] : List UInt8).toArray⟩) rfl <| J.nil <| CJ.seq <| CJ.mix [Cl b35 51 [ii xa.1, ii xa.2.1, ii xa.2.2.1, ii xa.2.2.2.1, ii xa.2.2.2.2.1, ii xa.2.2.2.2.2.1, .bool xa.2.2.2.2.2.2]] [([0, 1, 2, 3, 4, 7, 8], 5), ([6], 9)] [10, 11] [] mixO (by decide +kernel) ⟨0, rfl, trivial⟩ rfl rfl rfl ?_
 refine JM.cons <| qv _ (V.fad Tryz.underlying51 rfl nz3 rfl) <| qv (ii xa.1) (V.ld rfl (Ld.sc sc3 (Rd.cl 0 rfl rfl))) <| qv _ (V.fad Tryz.underlying51 rfl nz3 rfl) <| qv (ii xa.2.1) (V.ld rfl (Ld.sc sc3 (Rd.cl 0 rfl rfl))) <| qv (.agg #[ii xa.1, ii xa.2.1]) (V.build inf83 places83 rfl rfl) <| qv _ (V.fad Tryz.underlying51 rfl nz49 rfl) ?_
 refine qv (.agg #[ii xa.2.2.1, ii xa.2.2.2.1, ii xa.2.2.2.2.1, ii xa.2.2.2.2.2.1, .bool xa.2.2.2.2.2.2]) (V.ld rfl (Ld.agg (cs := [ii xa.2.2.1, ii xa.2.2.2.1, ii xa.2.2.2.2.1, ii xa.2.2.2.2.2.1, .bool xa.2.2.2.2.2.2]) Tryz.underlying49 sz49 rfl (Rd.cls 0 2 rfl rfl))) <| JQ.nil ?_
 obtain ⟨r52, hr53, h⟩ := ob h
 refine JA.op rfl (A.call (L1 := []) Tryz.call37 rfl (numeral_Pair_ok hr53) rfl rfl) ?_
 rintro _ _ _ ⟨v55, _, rfl, ⟨⟨s54, rfl, rfl, rfl⟩, rfl⟩, _, rfl⟩
 refine ⟨fun w hs => Hold.sub (Hp.le_refl _) ⟨0, rfl, trivial⟩ hs, ?_⟩
 refine JM.cons ?_
 obtain ⟨z58, hz59, h⟩ := ob h
 refine qv (.string ⟨z58.toArray⟩) (V.cat rfl rfl hz59) <| JQ.nil ?_
 obtain ⟨r60, hr61, h⟩ := ob h
 refine JA.op rfl (A.call (L1 := []) Tryz.call38 rfl (prov_Text_ok hr61) rfl rfl) ?_
 rintro _ _ _ ⟨v63, _, rfl, ⟨⟨s62, rfl, rfl, rfl⟩, rfl⟩, _, rfl⟩
 refine ⟨fun w hs => Hold.sub (Hp.le_refl _) ⟨0, rfl, trivial⟩ hs, ?_⟩
 refine JM.nil ?_
 obtain ⟨z66, hz67, h⟩ := ob h
 refine qv (.string ⟨z66.toArray⟩) (V.cat rfl rfl hz67) <| qa (.string ⟨z66.toArray⟩) rfl <| JQ.nil <| J.nil <| CJ.ret ?_
 obtain rfl := si h
 exact ⟨_, _, Res.one rfl rfl, ⟨z66, rfl, rfl, rfl⟩, (Hp.le_refl _), fun w hs => (Sep.dropAt 0 rfl hs)⟩
noncomputable def fn_cons_Lines_l1 (xa : (List (Int × Int × (Int × Int × Int × Int × Bool)))) : ((List (List UInt8)) × Int) → Option (((List (List UInt8)) × Int) ⊕ (List (List UInt8))) := fun ((l365, i370) : ((List (List UInt8)) × Int)) => cond (decide (i370 < (((xa.length : Nat) : Int)))) ((getI xa i370).bind fun x409 => (fn_prov_Edge ((x409.1, x409.2.1, (x409.2.2.1, x409.2.2.2.1, x409.2.2.2.2.1, x409.2.2.2.2.2.1, x409.2.2.2.2.2.2)))).bind fun s421 => (app l365 (([s421] : List (List UInt8)))).bind fun z428 => some (.inl ((z428, IntKind.wrap .i64 (i370 + 1))))) (some (.inr (l365)))
noncomputable def fn_cons_Lines (xa : (List (Int × Int × (Int × Int × Int × Int × Bool)))) : Option ((List (List UInt8))) :=
  (loop (fn_cons_Lines_l1 xa) ([], 0) : Option ((List (List UInt8)))).bind fun l324 => some (l324)
set_option maxRecDepth 100000 in
set_option maxHeartbeats 4000000 in
theorem cons_Lines_ok {K : Hp} {xa : (List (Int × Int × (Int × Int × Int × Int × Bool)))} {adxa_0 : Option Addr} {cpxa_0 : Nat} (fxa_0 : Is K (.sl (.cons (.int .i64) (.cons (.int .i64) (.one (.cons (.int .i64) (.cons (.int .i64) (.cons (.int .i64) (.cons (.int .i64) (.one .bool))))))))) [.slice adxa_0 xa.length cpxa_0] xa) {r : (List (List UInt8))} (h : fn_cons_Lines xa = some r) :
    Tr Tryz.prog 13 #[.slice adxa_0 xa.length cpxa_0] K [] (fun v K' L' => (∃ (l216 : (List (List UInt8))) (ad217 : Option Addr) (cp218 : Nat), l216 = r ∧ .slice ad217 l216.length cp218 = v ∧ L' = [Row Hp.nil 9 .str (.slice ad217 l216.length cp218) l216]) ∧ K = K') := by
 refine Tr.k <| Tr.of Tryz.func13 rfl Tryz.ntmps13 rfl fun E F => ?_
 unfold fn_cons_Lines at h
 refine cr <| ja (nos) rfl <| J.nil <| cr <| ja (nos) rfl ?_
 refine J.nil <| CJ.seq <| cr <| jm (.slice adxa_0 xa.length cpxa_0) rfl <| jv (ii (((xa.length : Nat) : Int))) (V.len Tryz.underlying36 rfl) <| jm (ii 0) rfl ?_
 refine J.nil ?_
 obtain ⟨o329, ho330, h⟩ := ob h
 refine CJ.meetN (fun ρ K' L' => ∃ (l324 : (List (List UInt8))) (ad325 : Option Addr) (cp326 : Nat), l324 = o329 ∧ Fits [(3, .slice ad325 l324.length cp326)] ρ ∧ K = K' ∧ L' = Row Hp.nil 9 .str (.slice ad325 l324.length cp326) l324 :: F) ?_ ?_
 · refine CJ.block <| CJ.by (fun w hs => Sep.rowNil (e := 9) (t := .str) hs) <| CJ.loop (fun s ρ K' L' => ∃ (l365 : (List (List UInt8))) (i370 : Int) (ad366 : Option Addr) (cp367 : Nat), (l365, i370) = s ∧ Fits [(3, .slice ad366 l365.length cp367), (6, .slice adxa_0 xa.length cpxa_0), (7, ii (((xa.length : Nat) : Int))), (8, ii i370)] ρ ∧ K = K' ∧ L' = Row Hp.nil 9 .str (.slice ad366 l365.length cp367) l365 :: F) ho330 ⟨[], 0, none, 0, rfl, ⟨rfl, rfl, rfl, rfl, trivial⟩, rfl, rfl⟩ ?_
   rintro s ρ _ _ r407 ⟨l365, i370, ad366, cp367, rfl, hf405, rfl, rfl⟩ h403
   obtain ⟨ρ, rfl⟩ := hf405.ex
   refine CJ.wit Row.hn fun hn369 => cr <| jv (.bool (decide (i370 < (((xa.length : Nat) : Int))))) (V.lss rfl rfl) <| J.nil <| CJ.seq <| cc rfl h403 (fun hc408 h403 => ?_) fun hc408 h403 => ?_
   · refine CJ.skip <| CJ.seq <| CJ.block <| CJ.seq <| CJ.region ?_
     obtain ⟨x409, hx410, h403⟩ := ob h403
     obtain ⟨p411, p412, p413⟩ := getI_some hx410
     obtain ⟨b414, o415, e416, a417⟩ := (fxa_0).at p412
     refine jv _ (V.iad Tryz.underlying36 sz51 rfl e416 rfl p411 p413) <| jv (.agg #[ii x409.1, ii x409.2.1, ii x409.2.2.1, ii x409.2.2.2.1, ii x409.2.2.2.2.1, ii x409.2.2.2.2.2.1, .bool x409.2.2.2.2.2.2]) (V.ld rfl (Ld.aggK (cs := [ii x409.1, ii x409.2.1, ii x409.2.2.1, ii x409.2.2.2.1, ii x409.2.2.2.2.1, ii x409.2.2.2.2.2.1, .bool x409.2.2.2.2.2.2]) Tryz.underlying51 sz51 rfl ⟨((a417).fst).int, (((a417).snd).fst).int, (((((a417).snd).snd).one).fst).int, ((((((a417).snd).snd).one).snd).fst).int, (((((((a417).snd).snd).one).snd).snd).fst).int, ((((((((a417).snd).snd).one).snd).snd).snd).fst).int, (((((((((a417).snd).snd).one).snd).snd).snd).snd).one).bool, trivial⟩ (Hp.le_refl _))) <| jal inf51 [ii 0, ii 0, ii 0, ii 0, ii 0, ii 0, .bool false] rfl fun b418 => js [ii x409.1, ii x409.2.1, ii x409.2.2.1, ii x409.2.2.2.1, ii x409.2.2.2.2.1, ii x409.2.2.2.2.2.1, .bool x409.2.2.2.2.2.2] sz51 rfl rfl rfl rfl rfl rfl <| J.nil <| CJ.region <| jm (.slice ad366 l365.length cp367) rfl ?_
     refine jv (.agg #[ii x409.1, ii x409.2.1, ii x409.2.2.1, ii x409.2.2.2.1, ii x409.2.2.2.2.1, ii x409.2.2.2.2.2.1, .bool x409.2.2.2.2.2.2]) (V.ld rfl (Ld.agg (cs := [ii x409.1, ii x409.2.1, ii x409.2.2.1, ii x409.2.2.2.1, ii x409.2.2.2.2.1, ii x409.2.2.2.2.2.1, .bool x409.2.2.2.2.2.2]) Tryz.underlying51 sz51 rfl (Rd.cls 0 0 rfl rfl))) ?_
     obtain ⟨r419, hr420, h403⟩ := ob h403
     refine J.op rfl (A.call (L1 := []) Tryz.call27 rfl (prov_Edge_ok hr420) rfl rfl) ?_
     rintro _ _ _ ⟨v422, _, rfl, ⟨⟨s421, rfl, rfl, rfl⟩, rfl⟩, _, rfl⟩
     refine J.op rfl (A.lit (K0 := Hp.nil) (ty := .str) (xs := ([s421] : List (List UInt8))) Tryz.underlying45 inf9 rfl (by decide) rfl rfl rfl ⟨_, _, rfl, rfl, rfl⟩ rfl (by decide)) ?_
     rintro _ _ _ ⟨b425, rfl, rfl, rfl⟩
     have hn426 : ([s421] : List (List UInt8)) ≠ [] → ∃ g, (some ⟨b425, 0, none⟩ : Option Addr) = some ⟨g, 0, none⟩ := fun _ => ⟨b425, rfl⟩
     obtain ⟨z428, hz429, h403⟩ := ob h403
     refine J.front 2 rfl <| J.op rfl (A.appR (Kr := Hp.nil) Tryz.underlying45 inf9 rfl rfl (by decide) (by decide) rfl rfl (Els.flat rfl) (Els.flat rfl) hz429) ?_
     rintro _ _ _ ⟨v430, rfl, rfl, rfl⟩
     refine J.wit Row.form ?_
     rintro ⟨ad431, cp432, rfl, _, _, hn433⟩
     refine ja (.slice ad431 z428.length cp432) rfl <| J.nil <| CJ.region <| jv (ii (IntKind.wrap .i64 (i370 + 1))) (V.add rfl rfl) <| jm (ii (IntKind.wrap .i64 (i370 + 1))) rfl <| J.dropAt 1 rfl <| J.nil ?_
     obtain rfl := si h403
     exact ⟨rfl, ⟨z428, IntKind.wrap .i64 (i370 + 1), ad431, cp432, rfl, ⟨rfl, rfl, rfl, rfl, trivial⟩, rfl, rfl⟩⟩
   refine CJ.exit ?_
   obtain rfl := si h403
   refine ⟨nofun, fun e => ?_⟩
   subst e
   exact ⟨rfl, ⟨l365, ad366, cp367, rfl, ⟨rfl, trivial⟩, rfl, rfl⟩⟩
 rintro ρ _ _ ⟨l324, ad325, cp326, rfl, hf434, rfl, rfl⟩
 obtain ⟨ρ, rfl⟩ := hf434.ex
 refine PJ.wit Row.hn fun hn328 => PJ.done <| cr <| jm (.slice ad325 l324.length cp326) rfl <| ja (.slice ad325 l324.length cp326) rfl <| J.nil ?_
 refine CJ.ret ?_
 obtain rfl := si h
 exact ⟨_, _, Res.one rfl rfl, ⟨l324, ad325, cp326, rfl, rfl, rfl⟩, (Hp.le_refl _), fun w hs => hs⟩

noncomputable def fn_law27_awake  : Option Bool :=
  (fn_cons_Of_az ((1, 3, [], ([([(1, false)] : List (Int × Bool)), ([(2, false)] : List (Int × Bool))] : List (List (Int × Bool))), ([(0, false)] : List (Int × Bool)), [], ([(([(1, 0, 1, 0, false)] : List (Int × Int × Int × Int × Bool)), (3, 0, 0, [], [], []))] : List ((List (Int × Int × Int × Int × Bool)) × (Int × Int × Int × (List Int) × (List Int) × (List Int))))))).bind fun l137 => (fn_cons_Lines l137).bind fun l150 => (cond (decide ((((l150.length : Nat) : Int)) = 2)) ((getI l150 0).bind fun x169 => some (decide (x169 = ([50, 58, 49, 32, 97, 116, 32, 48, 46, 48, 32, 102, 108, 111, 119, 32, 48] : List UInt8)))) (some (false))).bind fun t166 => (cond (t166) ((getI l150 1).bind fun x187 => some (decide (x187 = ([49, 58, 48, 32, 97, 116, 32, 48, 46, 49, 32, 111, 117, 116, 32, 48] : List UInt8)))) (some (false))).bind fun t184 => some (t184)
set_option maxRecDepth 100000 in
set_option maxHeartbeats 4000000 in
theorem law27_awake_ok {K : Hp}    {r : Bool} (h : fn_law27_awake = some r) :
    Tr Tryz.prog 6 #[] K [] (fun v K' L' => (∃ (t97 : Bool), t97 = r ∧ .bool t97 = v ∧ L' = []) ∧ K = K') := by
 refine Tr.k <| Tr.of Tryz.func6 rfl Tryz.ntmps6 rfl fun E F => ?_
 unfold fn_law27_awake at h
 refine cr <| ja (.bool false) rfl <| J.nil <| cr <| jv (.agg #[ii 1, .bool false]) (V.build inf72 places72 rfl rfl) ?_
 refine J.op rfl (A.lit (K0 := Hp.nil) (ty := (.cons (.int .i64) (.one .bool))) (xs := ([(1, false)] : List (Int × Bool))) Tryz.underlying24 inf72 rfl (by decide) rfl rfl rfl ⟨_, _, rfl, ⟨_, _, rfl, rfl, rfl, rfl⟩, rfl⟩ rfl (by decide)) ?_
 rintro _ _ _ ⟨b98, rfl, rfl, rfl⟩
 have hn99 : ([(1, false)] : List (Int × Bool)) ≠ [] → ∃ g, (some ⟨b98, 0, none⟩ : Option Addr) = some ⟨g, 0, none⟩ := fun _ => ⟨b98, rfl⟩
 refine jv (.agg #[.slice (some ⟨b98, 0, none⟩) ((([(1, false)] : List (Int × Bool))).length) 1]) (V.build inf26 places26 rfl rfl) <| jv (.agg #[ii 2, .bool false]) (V.build inf72 places72 rfl rfl) ?_
 refine J.op rfl (A.lit (K0 := Hp.nil) (ty := (.cons (.int .i64) (.one .bool))) (xs := ([(2, false)] : List (Int × Bool))) Tryz.underlying24 inf72 rfl (by decide) rfl rfl rfl ⟨_, _, rfl, ⟨_, _, rfl, rfl, rfl, rfl⟩, rfl⟩ rfl (by decide)) ?_
 rintro _ _ _ ⟨b101, rfl, rfl, rfl⟩
 have hn102 : ([(2, false)] : List (Int × Bool)) ≠ [] → ∃ g, (some ⟨b101, 0, none⟩ : Option Addr) = some ⟨g, 0, none⟩ := fun _ => ⟨b101, rfl⟩
 refine jv (.agg #[.slice (some ⟨b101, 0, none⟩) ((([(2, false)] : List (Int × Bool))).length) 1]) (V.build inf26 places26 rfl rfl) <| J.front 1 rfl <| J.persist (Hp.nil_le _) (by decide) fun K104 hK105 f106 => J.persist (Hp.nil_le _) (by decide) fun K107 hK108 f109 => ?_
 refine J.op rfl (A.lit (K0 := K107) (ty := (.one (.sl (.cons (.int .i64) (.one .bool))))) (xs := ([([(1, false)] : List (Int × Bool)), ([(2, false)] : List (Int × Bool))] : List (List (Int × Bool)))) Tryz.underlying23 inf26 rfl (by decide) rfl rfl rfl ⟨_, _, rfl, (f106.mono hK108), ⟨_, _, rfl, f109, rfl⟩⟩ rfl (by decide)) ?_
 rintro _ _ _ ⟨b110, rfl, rfl, rfl⟩
 have hn111 : ([([(1, false)] : List (Int × Bool)), ([(2, false)] : List (Int × Bool))] : List (List (Int × Bool))) ≠ [] → ∃ g, (some ⟨b110, 0, none⟩ : Option Addr) = some ⟨g, 0, none⟩ := fun _ => ⟨b110, rfl⟩
 refine jv (.agg #[ii 0, .bool false]) (V.build inf72 places72 rfl rfl) ?_
 refine J.op rfl (A.lit (K0 := Hp.nil) (ty := (.cons (.int .i64) (.one .bool))) (xs := ([(0, false)] : List (Int × Bool))) Tryz.underlying24 inf72 rfl (by decide) rfl rfl rfl ⟨_, _, rfl, ⟨_, _, rfl, rfl, rfl, rfl⟩, rfl⟩ rfl (by decide)) ?_
 rintro _ _ _ ⟨b113, rfl, rfl, rfl⟩
 have hn114 : ([(0, false)] : List (Int × Bool)) ≠ [] → ∃ g, (some ⟨b113, 0, none⟩ : Option Addr) = some ⟨g, 0, none⟩ := fun _ => ⟨b113, rfl⟩
 refine jv (.agg #[.slice (some ⟨b113, 0, none⟩) ((([(0, false)] : List (Int × Bool))).length) 1]) (V.build inf26 places26 rfl rfl) <| jv (.agg #[ii 1, ii 0, ii 1, ii 0, .bool false]) (V.build inf65 places65 rfl rfl) ?_
 refine J.op rfl (A.lit (K0 := Hp.nil) (ty := (.cons (.int .i64) (.cons (.int .i64) (.cons (.int .i64) (.cons (.int .i64) (.one .bool)))))) (xs := ([(1, 0, 1, 0, false)] : List (Int × Int × Int × Int × Bool))) Tryz.underlying58 inf65 rfl (by decide) rfl rfl rfl ⟨_, _, rfl, ⟨_, _, rfl, rfl, rfl, ⟨_, _, rfl, rfl, rfl, ⟨_, _, rfl, rfl, rfl, ⟨_, _, rfl, rfl, rfl, rfl⟩⟩⟩⟩, rfl⟩ rfl (by decide)) ?_
 rintro _ _ _ ⟨b116, rfl, rfl, rfl⟩
 have hn117 : ([(1, 0, 1, 0, false)] : List (Int × Int × Int × Int × Bool)) ≠ [] → ∃ g, (some ⟨b116, 0, none⟩ : Option Addr) = some ⟨g, 0, none⟩ := fun _ => ⟨b116, rfl⟩
 refine jv (.agg #[ii 3, ii 0, ii 0, nos, nos, nos]) (V.build inf61 places61 rfl rfl) <| jv (.agg #[.slice (some ⟨b116, 0, none⟩) ((([(1, 0, 1, 0, false)] : List (Int × Int × Int × Int × Bool))).length) 1, ii 3, ii 0, ii 0, nos, nos, nos]) (V.build inf63 places63 rfl rfl) <| J.persist (Hp.nil_le _) (by decide) fun K119 hK120 f121 => ?_
 refine J.op rfl (A.lit (K0 := K119) (ty := (.cons (.sl (.cons (.int .i64) (.cons (.int .i64) (.cons (.int .i64) (.cons (.int .i64) (.one .bool)))))) (.one (.cons (.int .i64) (.cons (.int .i64) (.cons (.int .i64) (.cons (.sl (.int .i64)) (.cons (.sl (.int .i64)) (.one (.sl (.int .i64))))))))))) (xs := ([(([(1, 0, 1, 0, false)] : List (Int × Int × Int × Int × Bool)), (3, 0, 0, [], [], []))] : List ((List (Int × Int × Int × Int × Bool)) × (Int × Int × Int × (List Int) × (List Int) × (List Int))))) Tryz.underlying28 inf63 rfl (by decide) rfl rfl rfl ⟨_, _, rfl, ⟨_, _, rfl, rfl, f121, ⟨_, _, rfl, rfl, rfl, ⟨_, _, rfl, rfl, rfl, ⟨_, _, rfl, rfl, rfl, ⟨_, _, rfl, rfl, (isNil (K := K119) (t := (.int .i64))), ⟨_, _, rfl, rfl, (isNil (K := K119) (t := (.int .i64))), (isNil (K := K119) (t := (.int .i64)))⟩⟩⟩⟩⟩⟩, rfl⟩ rfl (by decide)) ?_
 rintro _ _ _ ⟨b122, rfl, rfl, rfl⟩
 have hn123 : ([(([(1, 0, 1, 0, false)] : List (Int × Int × Int × Int × Bool)), (3, 0, 0, [], [], []))] : List ((List (Int × Int × Int × Int × Bool)) × (Int × Int × Int × (List Int) × (List Int) × (List Int)))) ≠ [] → ∃ g, (some ⟨b122, 0, none⟩ : Option Addr) = some ⟨g, 0, none⟩ := fun _ => ⟨b122, rfl⟩
 refine jv (.agg #[ii 1, ii 3, nos, .slice (some ⟨b110, 0, none⟩) ((([([(1, false)] : List (Int × Bool)), ([(2, false)] : List (Int × Bool))] : List (List (Int × Bool)))).length) 2, .slice (some ⟨b113, 0, none⟩) ((([(0, false)] : List (Int × Bool))).length) 1, nos, .slice (some ⟨b122, 0, none⟩) ((([(([(1, 0, 1, 0, false)] : List (Int × Int × Int × Int × Bool)), (3, 0, 0, [], [], []))] : List ((List (Int × Int × Int × Int × Bool)) × (Int × Int × Int × (List Int) × (List Int) × (List Int))))).length) 1]) (V.build inf30 places30 rfl rfl) <| jal inf30 [ii 0, ii 0, nos, nos, nos, nos, nos] rfl fun b125 => js [ii 1, ii 3, nos, .slice (some ⟨b110, 0, none⟩) ((([([(1, false)] : List (Int × Bool)), ([(2, false)] : List (Int × Bool))] : List (List (Int × Bool)))).length) 2, .slice (some ⟨b113, 0, none⟩) ((([(0, false)] : List (Int × Bool))).length) 1, nos, .slice (some ⟨b122, 0, none⟩) ((([(([(1, 0, 1, 0, false)] : List (Int × Int × Int × Int × Bool)), (3, 0, 0, [], [], []))] : List ((List (Int × Int × Int × Int × Bool)) × (Int × Int × Int × (List Int) × (List Int) × (List Int))))).length) 1] sz30 rfl rfl rfl rfl rfl rfl <| J.nil <| cr <| jv (.agg #[ii 1, ii 3, nos, .slice (some ⟨b110, 0, none⟩) ((([([(1, false)] : List (Int × Bool)), ([(2, false)] : List (Int × Bool))] : List (List (Int × Bool)))).length) 2, .slice (some ⟨b113, 0, none⟩) ((([(0, false)] : List (Int × Bool))).length) 1, nos, .slice (some ⟨b122, 0, none⟩) ((([(([(1, 0, 1, 0, false)] : List (Int × Int × Int × Int × Bool)), (3, 0, 0, [], [], []))] : List ((List (Int × Int × Int × Int × Bool)) × (Int × Int × Int × (List Int) × (List Int) × (List Int))))).length) 1]) (V.ld rfl (Ld.agg (cs := [ii 1, ii 3, nos, .slice (some ⟨b110, 0, none⟩) ((([([(1, false)] : List (Int × Bool)), ([(2, false)] : List (Int × Bool))] : List (List (Int × Bool)))).length) 2, .slice (some ⟨b113, 0, none⟩) ((([(0, false)] : List (Int × Bool))).length) 1, nos, .slice (some ⟨b122, 0, none⟩) ((([(([(1, 0, 1, 0, false)] : List (Int × Int × Int × Int × Bool)), (3, 0, 0, [], [], []))] : List ((List (Int × Int × Int × Int × Bool)) × (Int × Int × Int × (List Int) × (List Int) × (List Int))))).length) 1]) Tryz.underlying30 sz30 rfl (Rd.cls 0 0 rfl rfl))) ?_
 refine J.front 3 rfl <| J.persist hK120 (by decide) fun K126 hK127 f128 => J.front 2 rfl <| J.persist (Hp.nil_le _) (by decide) fun K129 hK130 f131 => J.front 1 rfl <| J.persist (hK127.trans hK130) (by decide) fun K132 hK133 f134 => ?_
 obtain ⟨r135, hr136, h⟩ := ob h
 refine J.op rfl (A.call (L1 := []) Tryz.call7 rfl (cons_Of_az_ok isNil (f128.mono (hK130.trans hK133)) (f131.mono hK133) isNil f134 hr136) rfl rfl) ?_
 rintro _ _ _ ⟨v141, _, rfl, ⟨⟨l137, ad138, cp139, rfl, rfl, rfl⟩, rfl⟩, _, rfl⟩
 refine J.wit Row.hn fun hn140 => J.persist (Hp.nil_le _) (by decide) fun K145 hK146 f147 => ?_
 obtain ⟨r148, hr149, h⟩ := ob h
 refine J.op rfl (A.call (L1 := []) Tryz.call13 rfl (cons_Lines_ok f147 hr149) rfl rfl) ?_
 rintro _ _ _ ⟨v154, _, rfl, ⟨⟨l150, ad151, cp152, rfl, rfl, rfl⟩, rfl⟩, _, rfl⟩
 refine J.wit Row.hn fun hn153 => ja (.slice ad151 l150.length cp152) rfl <| J.nil <| cr <| jm (.slice ad151 l150.length cp152) rfl <| jv (ii (((l150.length : Nat) : Int))) (V.len Tryz.underlying45 rfl) ?_
 refine jv (.bool (decide ((((l150.length : Nat) : Int)) = 2))) (V.eql rfl rfl) <| jm (.bool (decide ((((l150.length : Nat) : Int)) = 2))) rfl <| J.cut 5 ?_
 obtain ⟨t166, ht167, h⟩ := ob h
 refine jmeet [(30, .bool t166), (2, .slice ad151 l150.length cp152)] ?_ ?_
 · rcases bt (decide ((((l150.length : Nat) : Int)) = 2)) with hc168 | hc168
   · have ht167 := ct hc168 ht167
     refine J.run rfl rfl rfl hc168 <| jm (.slice ad151 l150.length cp152) rfl <| J.run rfl rfl rfl hc168 ?_
     obtain ⟨x169, hx170, ht167⟩ := ob ht167
     obtain ⟨p171, p172, p173⟩ := getI_some hx170
     obtain ⟨g174, e175⟩ := hn153 (fun e => by rw [e] at p172; simp at p172)
     refine jv _ (V.iad Tryz.underlying45 sz9 rfl e175 rfl p171 p173) <| J.run rfl rfl rfl hc168 <| jv (.string ⟨x169.toArray⟩) (V.ld rfl (Ld.sc sc9 (Rd.row 0 rfl e175 p172 (q := 0) (by simp [Tp.size]) (by decide) (by rintro _ rfl; rfl)))) <| J.run rfl rfl rfl hc168 <| jv (.bool (decide (x169 = ([50, 58, 49, 32, 97, 116, 32, 48, 46, 48, 32, 102, 108, 111, 119, 32, 48] : List UInt8)))) (V.eqs rfl rfl) <| jv (.bool (decide (x169 = ([50, 58, 49, 32, 97, 116, 32, 48, 46, 48, 32, 102, 108, 111, 119, 32, 48] : List UInt8)))) (V.pickT rfl hc168 rfl) <| J.nil ?_
     obtain rfl := si ht167
     exact ⟨rfl, ⟨rfl, rfl, trivial⟩, rfl, rfl⟩
   have ht167 := cf hc168 ht167
   refine J.skip rfl rfl rfl rfl hc168 <| J.skip rfl rfl rfl rfl hc168 <| J.skip rfl rfl rfl rfl hc168 <| J.skip rfl rfl rfl rfl hc168 <| jv (.bool false) (V.pickF rfl hc168 rfl) <| J.nil ?_
   obtain rfl := si ht167
   exact ⟨rfl, ⟨rfl, rfl, trivial⟩, rfl, rfl⟩
 intro ρ
 refine jm (.bool t166) rfl <| J.cut 5 ?_
 obtain ⟨t184, ht185, h⟩ := ob h
 refine jmeet [(36, .bool t184)] ?_ ?_
 · rcases bt (t166) with hc186 | hc186
   · have ht185 := ct hc186 ht185
     refine J.run rfl rfl rfl hc186 <| jm (.slice ad151 l150.length cp152) rfl <| J.run rfl rfl rfl hc186 ?_
     obtain ⟨x187, hx188, ht185⟩ := ob ht185
     obtain ⟨p189, p190, p191⟩ := getI_some hx188
     obtain ⟨g192, e193⟩ := hn153 (fun e => by rw [e] at p190; simp at p190)
     refine jv _ (V.iad Tryz.underlying45 sz9 rfl e193 rfl p189 p191) <| J.run rfl rfl rfl hc186 <| jv (.string ⟨x187.toArray⟩) (V.ld rfl (Ld.sc sc9 (Rd.row 0 rfl e193 p190 (q := 0) (by simp [Tp.size]) (by decide) (by rintro _ rfl; rfl)))) <| J.run rfl rfl rfl hc186 <| jv (.bool (decide (x187 = ([49, 58, 48, 32, 97, 116, 32, 48, 46, 49, 32, 111, 117, 116, 32, 48] : List UInt8)))) (V.eqs rfl rfl) <| jv (.bool (decide (x187 = ([49, 58, 48, 32, 97, 116, 32, 48, 46, 49, 32, 111, 117, 116, 32, 48] : List UInt8)))) (V.pickT rfl hc186 rfl) <| J.nil ?_
     obtain rfl := si ht185
     exact ⟨rfl, ⟨rfl, trivial⟩, rfl, rfl⟩
   have ht185 := cf hc186 ht185
   refine J.skip rfl rfl rfl rfl hc186 <| J.skip rfl rfl rfl rfl hc186 <| J.skip rfl rfl rfl rfl hc186 <| J.skip rfl rfl rfl rfl hc186 <| jv (.bool false) (V.pickF rfl hc186 rfl) <| J.nil ?_
   obtain rfl := si ht185
   exact ⟨rfl, ⟨rfl, trivial⟩, rfl, rfl⟩
 intro ρ
 refine ja (.bool t184) rfl <| J.nil <| CJ.ret ?_
 obtain rfl := si h
 exact ⟨_, _, Res.one rfl rfl, ⟨t184, rfl, rfl, rfl⟩, ((((((hK105.trans hK108).trans hK120).trans hK127).trans hK130).trans hK133).trans hK146), fun w hs => (Sep.dropAt 0 rfl (Sep.dropAt 0 rfl hs))⟩

noncomputable def fn_tick_isPart (xa : Int) : Option Bool :=
  some ((decide (0 ≤ xa)) && (decide (xa < 7)))
set_option maxRecDepth 100000 in
set_option maxHeartbeats 4000000 in
theorem tick_isPart_ok {K : Hp} {xa : Int}   {r : Bool} (h : fn_tick_isPart xa = some r) :
    Tr Tryz.prog 25 #[ii xa] K [] (fun v K' L' => (∃ (t4 : Bool), t4 = r ∧ .bool t4 = v ∧ L' = []) ∧ K = K') := by
 refine Tr.k <| Tr.of Tryz.func25 rfl Tryz.ntmps25 rfl fun E F => ?_
 unfold fn_tick_isPart at h
 refine cr <| ja (.bool false) rfl <| J.nil <| cr <| jm (ii xa) rfl ?_
 refine jv (.bool (decide (0 ≤ xa))) (V.geq rfl rfl) <| jm (.bool (decide (0 ≤ xa))) rfl <| J.cut 3 <| jmeet [(8, .bool ((decide (0 ≤ xa)) && (decide (xa < 7))))] ?_ ?_
 · rcases bt (decide (0 ≤ xa)) with hc7 | hc7
   · refine J.run rfl rfl rfl hc7 <| jm (ii xa) rfl <| J.run rfl rfl rfl hc7 <| jv (.bool (decide (xa < 7))) (V.lss rfl rfl) <| jv (.bool (decide (xa < 7))) (V.pickT rfl hc7 rfl) <| J.nil ?_
     exact ⟨rfl, ⟨(by simp only [hc7]; rfl), trivial⟩, rfl, rfl⟩
   refine J.skip rfl rfl rfl rfl hc7 <| J.skip rfl rfl rfl rfl hc7 <| jv (.bool false) (V.pickF rfl hc7 rfl) <| J.nil ?_
   exact ⟨rfl, ⟨(by simp only [hc7]; rfl), trivial⟩, rfl, rfl⟩
 intro ρ
 refine ja (.bool ((decide (0 ≤ xa)) && (decide (xa < 7)))) rfl <| J.nil <| CJ.ret ?_
 obtain rfl := si h
 exact ⟨_, _, Res.one rfl rfl, ⟨(decide (0 ≤ xa)) && (decide (xa < 7)), rfl, rfl, rfl⟩, (Hp.le_refl _), fun w hs => hs⟩

noncomputable def fn_tick_sum (xa : Int) (xb : Int) : Option Int :=
  cond (decide ((IntKind.wrap .i64 (9223372036854775807 - xb)) < xa)) (some (9223372036854775807)) (some (IntKind.wrap .i64 (xa + xb)))
set_option maxRecDepth 100000 in
set_option maxHeartbeats 4000000 in
theorem tick_sum_ok {K : Hp} {xa : Int} {xb : Int}   {r : Int} (h : fn_tick_sum xa xb = some r) :
    Tr Tryz.prog 26 #[ii xa, ii xb] K [] (fun v K' L' => (∃ (i2 : Int), i2 = r ∧ ii i2 = v ∧ L' = []) ∧ K = K') := by
 refine Tr.k <| Tr.of Tryz.func26 rfl Tryz.ntmps26 rfl fun E F => ?_
 unfold fn_tick_sum at h
 refine cr <| ja (ii 0) rfl <| J.nil <| CJ.seq <| CJ.seq <| CJ.region ?_
 refine jm (ii xa) rfl <| jm (ii xb) rfl <| jv (ii (IntKind.wrap .i64 (9223372036854775807 - xb))) (V.sub rfl rfl) <| jv (.bool (decide ((IntKind.wrap .i64 (9223372036854775807 - xb)) < xa))) (V.gtr rfl rfl) <| J.nil <| cc rfl h (fun hc3 h => ?_) fun hc3 h => ?_
 · refine cr <| ja (ii 9223372036854775807) rfl <| J.nil <| CJ.ret ?_
   obtain rfl := si h
   exact ⟨_, _, Res.one rfl rfl, ⟨9223372036854775807, rfl, rfl, rfl⟩, (Hp.le_refl _), fun w hs => hs⟩
 refine CJ.skip <| cr <| jm (ii xa) rfl <| jm (ii xb) rfl <| jv (ii (IntKind.wrap .i64 (xa + xb))) (V.add rfl rfl) <| ja (ii (IntKind.wrap .i64 (xa + xb))) rfl ?_
 refine J.nil <| CJ.ret ?_
 obtain rfl := si h
 exact ⟨_, _, Res.one rfl rfl, ⟨IntKind.wrap .i64 (xa + xb), rfl, rfl, rfl⟩, (Hp.le_refl _), fun w hs => hs⟩

noncomputable def fn_tick_Counter_Add_p0c3i_iiiiiii (xc : Int) (qa0 : Int) (qa1 : Int) (qa2 : Int) (qa3 : Int) (qa4 : Int) (qa5 : Int) (qa6 : Int) : Option Int :=
  (fn_tick_isPart 3).bind fun t26 => cond (t26 && (decide (0 ≤ xc))) ((fn_tick_sum qa3 xc).bind fun i42 => some (i42)) (some (qa3))
set_option maxRecDepth 100000 in
set_option maxHeartbeats 4000000 in
theorem tick_Counter_Add_p0c3i_iiiiiii_ok {K : Hp} {xc : Int} {qa0 : Int} {qa1 : Int} {qa2 : Int} {qa3 : Int} {qa4 : Int} {qa5 : Int} {qa6 : Int} {pba : Nat}  {r : Int} (h : fn_tick_Counter_Add_p0c3i_iiiiiii xc qa0 qa1 qa2 qa3 qa4 qa5 qa6 = some r) :
    Tr Tryz.prog 24 #[.pointer (some ⟨pba, 0, none⟩), ii 3, ii xc] K [Cl pba 35 [ii qa0, ii qa1, ii qa2, ii qa3, ii qa4, ii qa5, ii qa6]] (fun v K' L' => (∃ (i23 : Int), i23 = r ∧ .tuple #[] = v ∧ L' = [Cl pba 35 [ii qa0, ii qa1, ii qa2, ii i23, ii qa4, ii qa5, ii qa6]]) ∧ K = K') := by
 refine Tr.k <| Tr.of Tryz.func24 rfl Tryz.ntmps24 rfl fun E F => ?_
 unfold fn_tick_Counter_Add_p0c3i_iiiiiii at h
 refine cr <| jm _ rfl <| jv (.bool true) (Val.eq (V.pn_neq Tryz.underlying38 rfl rfl) rfl) <| jm (.bool true) rfl <| J.run rfl rfl rfl rfl <| jm (ii 3) rfl ?_
 refine J.run rfl rfl rfl rfl ?_
 obtain ⟨r24, hr25, h⟩ := ob h
 refine J.op rfl (A.call (L1 := []) Tryz.call25 rfl (tick_isPart_ok hr25) rfl rfl) ?_
 rintro _ _ _ ⟨v27, _, rfl, ⟨⟨t26, rfl, rfl, rfl⟩, rfl⟩, _, rfl⟩
 refine jv (.bool t26) (V.pickT rfl rfl rfl) <| jm (.bool t26) rfl <| J.cut 3 <| jmeet [(15, .bool (t26 && (decide (0 ≤ xc)))), (0, .pointer (some ⟨pba, 0, none⟩)), (1, ii 3), (2, ii xc)] ?_ ?_
 · rcases bt (t26) with hc32 | hc32
   · refine J.run rfl rfl rfl hc32 <| jm (ii xc) rfl <| J.run rfl rfl rfl hc32 <| jv (.bool (decide (0 ≤ xc))) (V.geq rfl rfl) <| jv (.bool (decide (0 ≤ xc))) (V.pickT rfl hc32 rfl) <| J.nil ?_
     exact ⟨rfl, ⟨(by simp only [hc32]; rfl), rfl, rfl, rfl, trivial⟩, rfl, rfl⟩
   refine J.skip rfl rfl rfl rfl hc32 <| J.skip rfl rfl rfl rfl hc32 <| jv (.bool false) (V.pickF rfl hc32 rfl) <| J.nil ?_
   exact ⟨rfl, ⟨(by simp only [hc32]; rfl), rfl, rfl, rfl, trivial⟩, rfl, rfl⟩
 intro ρ
 refine J.nil <| cc rfl h (fun hc33 h => ?_) fun hc33 h => ?_
 · refine CJ.mix [Cl pba 35 [ii qa0, ii qa1, ii qa2, ii qa3, ii qa4, ii qa5, ii qa6]] [([0, 1, 2, 3, 4, 5, 6, 7, 8, 10, 11], 9)] [12] [13] mixO (by decide +kernel) ⟨0, rfl, trivial⟩ rfl rfl rfl <| JM.cons <| qm _ rfl <| qm (ii 3) rfl <| qm _ rfl <| qm (ii 3) rfl <| qv _ (V.nck rfl) ?_
   refine qv _ (V.fad Tryz.underlying35 rfl nz33 rfl) <| qv _ (V.iadA Tryz.underlying33 sz3 rfl rfl (by decide) (by decide)) <| qv (ii qa3) (V.ld rfl (Ld.sc sc3 (Rd.cl 0 rfl rfl))) <| qm (ii xc) rfl <| qv _ (V.nck rfl) <| qv _ (V.fad Tryz.underlying35 rfl nz33 rfl) <| JQ.nil ?_
   obtain ⟨r40, hr41, h⟩ := ob h
   refine JA.op rfl (A.call (L1 := []) Tryz.call26 rfl (tick_sum_ok hr41) rfl rfl) ?_
   rintro _ _ _ ⟨v43, _, rfl, ⟨⟨i42, rfl, rfl, rfl⟩, rfl⟩, _, rfl⟩
   refine ⟨fun w hs => Hold.sub (Hp.le_refl _) ⟨0, rfl, trivial⟩ hs, ?_⟩
   refine JM.nil <| qv _ (V.iadA Tryz.underlying33 sz3 rfl rfl (by decide) (by decide)) <| JQ.nil <| js1 [ii qa0, ii qa1, ii qa2, ii i42, ii qa4, ii qa5, ii qa6] sz3 rfl rfl rfl rfl rfl rfl <| J.nil ?_
   obtain rfl := si h
   exact ⟨_, _, Res.zero rfl, ⟨i42, rfl, rfl, rfl⟩, (Hp.le_refl _), fun w hs => hs⟩
 refine CJ.skip ?_
 obtain rfl := si h
 exact ⟨_, _, Res.zero rfl, ⟨qa3, rfl, rfl, rfl⟩, (Hp.le_refl _), fun w hs => hs⟩
noncomputable def fn_cons_Of_ap0_iiiiiii_l1 (xa : (Int × Int × (List (Int × Int)) × (List (List (Int × Bool))) × (List (Int × Bool)) × (List (Int × (List (Int × Int)) × (List (List (Int × Bool))) × (List (Int × Bool)))) × (List ((List (Int × Int × Int × Int × Bool)) × (Int × Int × Int × (List Int) × (List Int) × (List Int)))))) (p314 : (Option ((List Int) × Int))) (i361 : Int) : ((List (Int × Int × (Int × Int × Int × Int × Bool))) × Int) → Option (((List (Int × Int × (Int × Int × Int × Int × Bool))) × Int) ⊕ (List (Int × Int × (Int × Int × Int × Int × Bool)))) := fun ((l473, i478) : ((List (Int × Int × (Int × Int × Int × Int × Bool))) × Int)) => cond (decide (i478 < i361)) ((fn_cons_maker_at (((xa.1, xa.2.1, xa.2.2.1, xa.2.2.2.1, xa.2.2.2.2.1, xa.2.2.2.2.2.1, xa.2.2.2.2.2.2), p314)) i478).bind fun l510 => (app l473 l510).bind fun z518 => some (.inl ((z518, IntKind.wrap .i64 (i478 + 1))))) (some (.inr (l473)))
noncomputable def fn_cons_Of_ap0_iiiiiii (xa : (Int × Int × (List (Int × Int)) × (List (List (Int × Bool))) × (List (Int × Bool)) × (List (Int × (List (Int × Int)) × (List (List (Int × Bool))) × (List (Int × Bool)))) × (List ((List (Int × Int × Int × Int × Bool)) × (Int × Int × Int × (List Int) × (List Int) × (List Int)))))) (qa0 : Int) (qa1 : Int) (qa2 : Int) (qa3 : Int) (qa4 : Int) (qa5 : Int) (qa6 : Int) : Option (((List (Int × Int × (Int × Int × Int × Int × Bool))) × Int)) :=
  ((fn_point_New (xa.1, xa.2.1, xa.2.2.1, xa.2.2.2.1, xa.2.2.2.2.1, xa.2.2.2.2.2.1, xa.2.2.2.2.2.2)).bind fun p338 => some (p338) : Option ((Option ((List Int) × Int)))).bind fun p314 => (fn_point_Points_Len p314).bind fun i361 => (loop (fn_cons_Of_ap0_iiiiiii_l1 xa p314 i361) ([], 0) : Option ((List (Int × Int × (Int × Int × Int × Int × Bool))))).bind fun l441 => (fn_point_Points_Len p314).bind fun i528 => (fn_tick_Counter_Add_p0c3i_iiiiiii (IntKind.wrap .i64 (i528 + (((l441.length : Nat) : Int)))) qa0 qa1 qa2 qa3 qa4 qa5 qa6).bind fun i534 => some ((l441, i534))
set_option maxRecDepth 100000 in
set_option maxHeartbeats 4000000 in
theorem cons_Of_ap0_iiiiiii_ok {K : Hp} {xa : (Int × Int × (List (Int × Int)) × (List (List (Int × Bool))) × (List (Int × Bool)) × (List (Int × (List (Int × Int)) × (List (List (Int × Bool))) × (List (Int × Bool)))) × (List ((List (Int × Int × Int × Int × Bool)) × (Int × Int × Int × (List Int) × (List Int) × (List Int)))))} {qa0 : Int} {qa1 : Int} {qa2 : Int} {qa3 : Int} {qa4 : Int} {qa5 : Int} {qa6 : Int} {pba : Nat} {adxa_2 : Option Addr} {cpxa_2 : Nat} {adxa_3 : Option Addr} {cpxa_3 : Nat} {adxa_4 : Option Addr} {cpxa_4 : Nat} {adxa_5 : Option Addr} {cpxa_5 : Nat} {adxa_6 : Option Addr} {cpxa_6 : Nat} (fxa_2 : Is K (.sl (.cons (.int .i64) (.one (.int .i64)))) [.slice adxa_2 xa.2.2.1.length cpxa_2] xa.2.2.1) (fxa_3 : Is K (.sl (.one (.sl (.cons (.int .i64) (.one .bool))))) [.slice adxa_3 xa.2.2.2.1.length cpxa_3] xa.2.2.2.1) (fxa_4 : Is K (.sl (.cons (.int .i64) (.one .bool))) [.slice adxa_4 xa.2.2.2.2.1.length cpxa_4] xa.2.2.2.2.1) (fxa_5 : Is K (.sl (.cons (.int .i64) (.cons (.sl (.cons (.int .i64) (.one (.int .i64)))) (.cons (.sl (.one (.sl (.cons (.int .i64) (.one .bool))))) (.one (.one (.sl (.cons (.int .i64) (.one .bool))))))))) [.slice adxa_5 xa.2.2.2.2.2.1.length cpxa_5] xa.2.2.2.2.2.1) (fxa_6 : Is K (.sl (.cons (.sl (.cons (.int .i64) (.cons (.int .i64) (.cons (.int .i64) (.cons (.int .i64) (.one .bool)))))) (.one (.cons (.int .i64) (.cons (.int .i64) (.cons (.int .i64) (.cons (.sl (.int .i64)) (.cons (.sl (.int .i64)) (.one (.sl (.int .i64))))))))))) [.slice adxa_6 xa.2.2.2.2.2.2.length cpxa_6] xa.2.2.2.2.2.2) {r : ((List (Int × Int × (Int × Int × Int × Int × Bool))) × Int)} (h : fn_cons_Of_ap0_iiiiiii xa qa0 qa1 qa2 qa3 qa4 qa5 qa6 = some r) :
    Tr Tryz.prog 7 #[.agg #[ii xa.1, ii xa.2.1, .slice adxa_2 xa.2.2.1.length cpxa_2, .slice adxa_3 xa.2.2.2.1.length cpxa_3, .slice adxa_4 xa.2.2.2.2.1.length cpxa_4, .slice adxa_5 xa.2.2.2.2.2.1.length cpxa_5, .slice adxa_6 xa.2.2.2.2.2.2.length cpxa_6], .pointer (some ⟨pba, 0, none⟩)] K [Cl pba 35 [ii qa0, ii qa1, ii qa2, ii qa3, ii qa4, ii qa5, ii qa6]] (fun v K' L' => (∃ (l267 : (List (Int × Int × (Int × Int × Int × Int × Bool)))) (i272 : Int) (ad268 : Option Addr) (cp269 : Nat), (l267, i272) = r ∧ .slice ad268 l267.length cp269 = v ∧ L' = [Cl pba 35 [ii qa0, ii qa1, ii qa2, ii i272, ii qa4, ii qa5, ii qa6], Row Hp.nil 51 (.cons (.int .i64) (.cons (.int .i64) (.one (.cons (.int .i64) (.cons (.int .i64) (.cons (.int .i64) (.cons (.int .i64) (.one .bool)))))))) (.slice ad268 l267.length cp269) l267]) ∧ K = K') := by
 refine Tr.k <| Tr.of Tryz.func7 rfl Tryz.ntmps7 rfl fun E F => ?_
 unfold fn_cons_Of_ap0_iiiiiii at h
 refine cr <| jbx [ii xa.1, ii xa.2.1, .slice adxa_2 xa.2.2.1.length cpxa_2, .slice adxa_3 xa.2.2.2.1.length cpxa_3, .slice adxa_4 xa.2.2.2.2.1.length cpxa_4, .slice adxa_5 xa.2.2.2.2.2.1.length cpxa_5, .slice adxa_6 xa.2.2.2.2.2.2.length cpxa_6] rfl rfl fun b273 => ja (nos) rfl <| J.nil <| CJ.seq ?_
 obtain ⟨o317, ho318, h⟩ := ob h
 refine CJ.meetN (fun ρ K' L' => ∃ (p314 : (Option ((List Int) × Int))) (nb313 : Nat) (v315 : Value), p314 = o317 ∧ Fits [(1, .pointer (some ⟨pba, 0, none⟩)), (5, .pointer (some ⟨nb313, 0, none⟩))] ρ ∧ Hp.le K K' ∧ Is K' (.ptr (.cons (.sl (.int .i64)) (.one (.int .i64)))) [v315] p314 ∧ L' = Cl pba 35 [ii qa0, ii qa1, ii qa2, ii qa3, ii qa4, ii qa5, ii qa6] :: Cl nb313 76 [ii xa.1, ii xa.2.1, .slice adxa_2 xa.2.2.1.length cpxa_2, .slice adxa_3 xa.2.2.2.1.length cpxa_3, .slice adxa_4 xa.2.2.2.2.1.length cpxa_4, .slice adxa_5 xa.2.2.2.2.2.1.length cpxa_5, .slice adxa_6 xa.2.2.2.2.2.2.length cpxa_6, v315] :: F) ?_ ?_
 · refine CJ.tree [Cl b273 30 [ii xa.1, ii xa.2.1, .slice adxa_2 xa.2.2.1.length cpxa_2, .slice adxa_3 xa.2.2.2.1.length cpxa_3, .slice adxa_4 xa.2.2.2.2.1.length cpxa_4, .slice adxa_5 xa.2.2.2.2.2.1.length cpxa_5, .slice adxa_6 xa.2.2.2.2.2.2.length cpxa_6], Cl pba 35 [ii qa0, ii qa1, ii qa2, ii qa3, ii qa4, ii qa5, ii qa6]] (.still [0, 1] (.alt 2 (.still [3] (.alt 4 (.alt 5 (.leaf []) .done) .done)) (.alt 4 (.alt 2 (.still [3] (.alt 5 (.leaf []) .done)) .done) .done))) [] mixO (by decide +kernel) ⟨0, rfl, 0, rfl, trivial⟩ rfl <| JT.still rfl <| qv (.agg #[ii xa.1, ii xa.2.1, .slice adxa_2 xa.2.2.1.length cpxa_2, .slice adxa_3 xa.2.2.2.1.length cpxa_3, .slice adxa_4 xa.2.2.2.2.1.length cpxa_4, .slice adxa_5 xa.2.2.2.2.2.1.length cpxa_5, .slice adxa_6 xa.2.2.2.2.2.2.length cpxa_6]) (V.ld rfl (Ld.agg (cs := [ii xa.1, ii xa.2.1, .slice adxa_2 xa.2.2.1.length cpxa_2, .slice adxa_3 xa.2.2.2.1.length cpxa_3, .slice adxa_4 xa.2.2.2.2.1.length cpxa_4, .slice adxa_5 xa.2.2.2.2.2.1.length cpxa_5, .slice adxa_6 xa.2.2.2.2.2.2.length cpxa_6]) Tryz.underlying30 sz30 rfl (Rd.cls 0 0 rfl rfl))) <| qv (.agg #[ii xa.1, ii xa.2.1, .slice adxa_2 xa.2.2.1.length cpxa_2, .slice adxa_3 xa.2.2.2.1.length cpxa_3, .slice adxa_4 xa.2.2.2.2.1.length cpxa_4, .slice adxa_5 xa.2.2.2.2.2.1.length cpxa_5, .slice adxa_6 xa.2.2.2.2.2.2.length cpxa_6]) (V.ld rfl (Ld.agg (cs := [ii xa.1, ii xa.2.1, .slice adxa_2 xa.2.2.1.length cpxa_2, .slice adxa_3 xa.2.2.2.1.length cpxa_3, .slice adxa_4 xa.2.2.2.2.1.length cpxa_4, .slice adxa_5 xa.2.2.2.2.2.1.length cpxa_5, .slice adxa_6 xa.2.2.2.2.2.2.length cpxa_6]) Tryz.underlying30 sz30 rfl (Rd.cls 0 0 rfl rfl))) <| JQ.nil ?_
   obtain ⟨r339, hr340, ho318⟩ := ob ho318
   refine JT.alt rfl ?_ ?_
   · refine JB.op rfl (A.call (L1 := []) Tryz.call21 rfl (point_New_ok fxa_2 fxa_3 fxa_4 fxa_5 fxa_6 hr340) rfl rfl) ?_
     rintro _ K345 _ ⟨v344, _, rfl, ⟨p338, v342, rfl, rfl, f343, rfl⟩, hK346, rfl⟩
     refine ⟨fun w hs => Hold.sub hK346 ⟨0, rfl, 0, rfl, trivial⟩ hs, ?_⟩
     refine JT.still rfl ?_
     obtain ⟨q347, rfl⟩ := Is.ptrv f343
     refine qv (.agg #[ii xa.1, ii xa.2.1, .slice adxa_2 xa.2.2.1.length cpxa_2, .slice adxa_3 xa.2.2.2.1.length cpxa_3, .slice adxa_4 xa.2.2.2.2.1.length cpxa_4, .slice adxa_5 xa.2.2.2.2.2.1.length cpxa_5, .slice adxa_6 xa.2.2.2.2.2.2.length cpxa_6, .pointer q347]) (V.build inf76 places76 rfl rfl) <| JQ.nil <| JT.alt rfl ?_ JT.done
     refine JB.op rfl (A.alloc (cs := [ii 0, ii 0, nos, nos, nos, nos, nos, .pointer none]) inf76 rfl) ?_
     rintro _ _ _ ⟨b348, rfl, rfl, rfl⟩
     refine ⟨fun w hs => Hold.sub hK346 ⟨1, rfl, 1, rfl, trivial⟩ hs, ?_⟩
     refine JT.alt rfl ?_ JT.done
     refine JB.op rfl (A.store (v := .agg #[ii xa.1, ii xa.2.1, .slice adxa_2 xa.2.2.1.length cpxa_2, .slice adxa_3 xa.2.2.2.1.length cpxa_3, .slice adxa_4 xa.2.2.2.2.1.length cpxa_4, .slice adxa_5 xa.2.2.2.2.2.1.length cpxa_5, .slice adxa_6 xa.2.2.2.2.2.2.length cpxa_6, .pointer q347]) (cs' := [ii xa.1, ii xa.2.1, .slice adxa_2 xa.2.2.1.length cpxa_2, .slice adxa_3 xa.2.2.2.1.length cpxa_3, .slice adxa_4 xa.2.2.2.2.1.length cpxa_4, .slice adxa_5 xa.2.2.2.2.2.1.length cpxa_5, .slice adxa_6 xa.2.2.2.2.2.2.length cpxa_6, .pointer q347]) sz76 rfl rfl rfl rfl rfl rfl) ?_
     rintro _ _ _ ⟨rfl, rfl, rfl⟩
     refine ⟨fun w hs => Hold.sub hK346 ⟨1, rfl, 1, rfl, trivial⟩ hs, ?_⟩
     refine JT.leaf rfl <| JQ.nil <| J.dropAt 1 rfl <| J.front 1 rfl <| J.nil ?_
     obtain rfl := si ho318
     exact ⟨rfl, ⟨p338, b348, .pointer q347, rfl, ⟨rfl, rfl, trivial⟩, hK346, f343, rfl⟩⟩
   refine JT.alt rfl ?_ JT.done
   refine JB.op rfl (A.alloc (cs := [ii 0, ii 0, nos, nos, nos, nos, nos, .pointer none]) inf76 rfl) ?_
   rintro _ _ _ ⟨b349, rfl, rfl, rfl⟩
   refine ⟨fun w hs => Hold.sub (Hp.le_refl _) ⟨1, rfl, 1, rfl, trivial⟩ hs, ?_⟩
   refine JT.alt rfl ?_ JT.done
   refine JB.op rfl (A.call (L1 := []) Tryz.call21 rfl (point_New_ok fxa_2 fxa_3 fxa_4 fxa_5 fxa_6 hr340) rfl rfl) ?_
   rintro _ K354 _ ⟨v353, _, rfl, ⟨p338, v351, rfl, rfl, f352, rfl⟩, hK355, rfl⟩
   refine ⟨fun w hs => Hold.sub hK355 ⟨1, rfl, 1, rfl, trivial⟩ hs, ?_⟩
   refine JT.still rfl ?_
   obtain ⟨q356, rfl⟩ := Is.ptrv f352
   refine qv (.agg #[ii xa.1, ii xa.2.1, .slice adxa_2 xa.2.2.1.length cpxa_2, .slice adxa_3 xa.2.2.2.1.length cpxa_3, .slice adxa_4 xa.2.2.2.2.1.length cpxa_4, .slice adxa_5 xa.2.2.2.2.2.1.length cpxa_5, .slice adxa_6 xa.2.2.2.2.2.2.length cpxa_6, .pointer q356]) (V.build inf76 places76 rfl rfl) <| JQ.nil <| JT.alt rfl ?_ JT.done
   refine JB.op rfl (A.store (v := .agg #[ii xa.1, ii xa.2.1, .slice adxa_2 xa.2.2.1.length cpxa_2, .slice adxa_3 xa.2.2.2.1.length cpxa_3, .slice adxa_4 xa.2.2.2.2.1.length cpxa_4, .slice adxa_5 xa.2.2.2.2.2.1.length cpxa_5, .slice adxa_6 xa.2.2.2.2.2.2.length cpxa_6, .pointer q356]) (cs' := [ii xa.1, ii xa.2.1, .slice adxa_2 xa.2.2.1.length cpxa_2, .slice adxa_3 xa.2.2.2.1.length cpxa_3, .slice adxa_4 xa.2.2.2.2.1.length cpxa_4, .slice adxa_5 xa.2.2.2.2.2.1.length cpxa_5, .slice adxa_6 xa.2.2.2.2.2.2.length cpxa_6, .pointer q356]) sz76 rfl rfl rfl rfl rfl rfl) ?_
   rintro _ _ _ ⟨rfl, rfl, rfl⟩
   refine ⟨fun w hs => Hold.sub hK355 ⟨1, rfl, 1, rfl, trivial⟩ hs, ?_⟩
   refine JT.leaf rfl <| JQ.nil <| J.dropAt 1 rfl <| J.front 1 rfl <| J.nil ?_
   obtain rfl := si ho318
   exact ⟨rfl, ⟨p338, b349, .pointer q356, rfl, ⟨rfl, rfl, trivial⟩, hK355, f352, rfl⟩⟩
 rintro ρ K312 _ ⟨p314, nb313, v315, rfl, hf357, hk358, f316, rfl⟩
 obtain ⟨ρ, rfl⟩ := hf357.ex
 refine PJ.done <| cr <| ja (nos) rfl <| J.nil <| CJ.seq <| CJ.seq ?_
 refine CJ.region <| jv _ (V.fad Tryz.underlying76 rfl nz73 rfl) <| jv v315 (V.ld rfl (Ld.sc sc73 (Rd.cl 1 rfl rfl))) ?_
 obtain ⟨r359, hr360, h⟩ := ob h
 refine J.op rfl (A.call (L1 := []) Tryz.call22 rfl (point_Points_Len_ok f316 hr360) rfl rfl) ?_
 rintro _ _ _ ⟨v362, _, rfl, ⟨⟨i361, rfl, rfl, rfl⟩, rfl⟩, _, rfl⟩
 refine jm (ii 0) rfl <| J.nil ?_
 obtain ⟨o446, ho447, h⟩ := ob h
 refine CJ.meetN (fun ρ K' L' => ∃ (l441 : (List (Int × Int × (Int × Int × Int × Int × Bool)))) (ad442 : Option Addr) (cp443 : Nat), l441 = o446 ∧ Fits [(1, .pointer (some ⟨pba, 0, none⟩)), (5, .pointer (some ⟨nb313, 0, none⟩)), (6, .slice ad442 l441.length cp443)] ρ ∧ K312 = K' ∧ L' = Cl pba 35 [ii qa0, ii qa1, ii qa2, ii qa3, ii qa4, ii qa5, ii qa6] :: Cl nb313 76 [ii xa.1, ii xa.2.1, .slice adxa_2 xa.2.2.1.length cpxa_2, .slice adxa_3 xa.2.2.2.1.length cpxa_3, .slice adxa_4 xa.2.2.2.2.1.length cpxa_4, .slice adxa_5 xa.2.2.2.2.2.1.length cpxa_5, .slice adxa_6 xa.2.2.2.2.2.2.length cpxa_6, v315] :: Row Hp.nil 51 (.cons (.int .i64) (.cons (.int .i64) (.one (.cons (.int .i64) (.cons (.int .i64) (.cons (.int .i64) (.cons (.int .i64) (.one .bool)))))))) (.slice ad442 l441.length cp443) l441 :: F) ?_ ?_
 · refine CJ.block <| CJ.by (fun w hs => Sep.rowNil (e := 51) (t := (.cons (.int .i64) (.cons (.int .i64) (.one (.cons (.int .i64) (.cons (.int .i64) (.cons (.int .i64) (.cons (.int .i64) (.one .bool))))))))) hs) <| CJ.front 2 rfl <| CJ.front 2 rfl <| CJ.loop (fun s ρ K' L' => ∃ (l473 : (List (Int × Int × (Int × Int × Int × Int × Bool)))) (i478 : Int) (ad474 : Option Addr) (cp475 : Nat), (l473, i478) = s ∧ Fits [(1, .pointer (some ⟨pba, 0, none⟩)), (5, .pointer (some ⟨nb313, 0, none⟩)), (6, .slice ad474 l473.length cp475), (14, ii i361), (15, ii i478)] ρ ∧ K312 = K' ∧ L' = Cl pba 35 [ii qa0, ii qa1, ii qa2, ii qa3, ii qa4, ii qa5, ii qa6] :: Cl nb313 76 [ii xa.1, ii xa.2.1, .slice adxa_2 xa.2.2.1.length cpxa_2, .slice adxa_3 xa.2.2.2.1.length cpxa_3, .slice adxa_4 xa.2.2.2.2.1.length cpxa_4, .slice adxa_5 xa.2.2.2.2.2.1.length cpxa_5, .slice adxa_6 xa.2.2.2.2.2.2.length cpxa_6, v315] :: Row Hp.nil 51 (.cons (.int .i64) (.cons (.int .i64) (.one (.cons (.int .i64) (.cons (.int .i64) (.cons (.int .i64) (.cons (.int .i64) (.one .bool)))))))) (.slice ad474 l473.length cp475) l473 :: F) ho447 ⟨[], 0, none, 0, rfl, ⟨rfl, rfl, rfl, rfl, rfl, trivial⟩, rfl, rfl⟩ ?_
   rintro s ρ _ _ r506 ⟨l473, i478, ad474, cp475, rfl, hf504, rfl, rfl⟩ h502
   obtain ⟨ρ, rfl⟩ := hf504.ex
   refine CJ.front 2 rfl <| CJ.wit Row.hn fun hn477 => cr <| jv (.bool (decide (i478 < i361))) (V.lss rfl rfl) <| J.nil <| CJ.seq ?_
   refine cc rfl h502 (fun hc507 h502 => ?_) fun hc507 h502 => ?_
   · refine CJ.skip <| CJ.seq <| CJ.block <| cr <| jm (ii i478) rfl <| ja (ii i478) rfl ?_
     refine J.nil <| CJ.region <| jm (.slice ad474 l473.length cp475) rfl <| jv (.agg #[ii xa.1, ii xa.2.1, .slice adxa_2 xa.2.2.1.length cpxa_2, .slice adxa_3 xa.2.2.2.1.length cpxa_3, .slice adxa_4 xa.2.2.2.2.1.length cpxa_4, .slice adxa_5 xa.2.2.2.2.2.1.length cpxa_5, .slice adxa_6 xa.2.2.2.2.2.2.length cpxa_6, v315]) (V.ld rfl (Ld.agg (cs := [ii xa.1, ii xa.2.1, .slice adxa_2 xa.2.2.1.length cpxa_2, .slice adxa_3 xa.2.2.2.1.length cpxa_3, .slice adxa_4 xa.2.2.2.2.1.length cpxa_4, .slice adxa_5 xa.2.2.2.2.2.1.length cpxa_5, .slice adxa_6 xa.2.2.2.2.2.2.length cpxa_6, v315]) Tryz.underlying76 sz76 rfl (Rd.cls 2 0 rfl rfl))) <| jm (ii i478) rfl ?_
     obtain ⟨r508, hr509, h502⟩ := ob h502
     refine J.op rfl (A.call (L1 := []) Tryz.call23 rfl (cons_maker_at_ok (fxa_2.mono hk358) (fxa_3.mono hk358) (fxa_4.mono hk358) (fxa_5.mono hk358) (fxa_6.mono hk358) f316 hr509) rfl rfl) ?_
     rintro _ _ _ ⟨v514, _, rfl, ⟨⟨l510, ad511, cp512, rfl, rfl, rfl⟩, rfl⟩, _, rfl⟩
     refine J.wit Row.hn fun hn513 => ?_
     obtain ⟨z518, hz519, h502⟩ := ob h502
     refine J.front 1 rfl <| J.op rfl (A.appR (Kr := Hp.nil) Tryz.underlying36 inf51 rfl rfl (by decide) (by decide) rfl rfl (Els.flat rfl) (Els.flat rfl) hz519) ?_
     rintro _ _ _ ⟨v520, rfl, rfl, rfl⟩
     refine J.wit Row.form ?_
     rintro ⟨ad521, cp522, rfl, _, _, hn523⟩
     refine ja (.slice ad521 z518.length cp522) rfl <| J.nil <| CJ.region <| jv (ii (IntKind.wrap .i64 (i478 + 1))) (V.add rfl rfl) <| jm (ii (IntKind.wrap .i64 (i478 + 1))) rfl <| J.front 2 rfl <| J.front 2 rfl ?_
     refine J.nil ?_
     obtain rfl := si h502
     exact ⟨rfl, ⟨z518, IntKind.wrap .i64 (i478 + 1), ad521, cp522, rfl, ⟨rfl, rfl, rfl, rfl, rfl, trivial⟩, rfl, rfl⟩⟩
   refine CJ.front 2 rfl <| CJ.front 2 rfl <| CJ.exit ?_
   obtain rfl := si h502
   refine ⟨nofun, fun e => ?_⟩
   subst e
   exact ⟨rfl, ⟨l473, ad474, cp475, rfl, ⟨rfl, rfl, rfl, trivial⟩, rfl, rfl⟩⟩
 rintro ρ _ _ ⟨l441, ad442, cp443, rfl, hf524, rfl, rfl⟩
 obtain ⟨ρ, rfl⟩ := hf524.ex
 refine PJ.front 2 rfl <| PJ.wit Row.hn fun hn445 => PJ.done <| cr <| jm _ rfl <| jv _ (V.fad Tryz.underlying76 rfl nz73 rfl) ?_
 refine jv v315 (V.ld rfl (Ld.sc sc73 (Rd.cl 2 rfl rfl))) ?_
 obtain ⟨r526, hr527, h⟩ := ob h
 refine J.op rfl (A.call (L1 := []) Tryz.call22 rfl (point_Points_Len_ok f316 hr527) rfl rfl) ?_
 rintro _ _ _ ⟨v529, _, rfl, ⟨⟨i528, rfl, rfl, rfl⟩, rfl⟩, _, rfl⟩
 refine jm (.slice ad442 l441.length cp443) rfl <| jv (ii (((l441.length : Nat) : Int))) (V.len Tryz.underlying36 rfl) <| jv (ii (IntKind.wrap .i64 (i528 + (((l441.length : Nat) : Int))))) (V.add rfl rfl) ?_
 obtain ⟨r532, hr533, h⟩ := ob h
 refine J.front 1 rfl <| J.op rfl (A.call (L1 := [Cl pba 35 [ii qa0, ii qa1, ii qa2, ii qa3, ii qa4, ii qa5, ii qa6]]) Tryz.call24 rfl (tick_Counter_Add_p0c3i_iiiiiii_ok hr533) rfl rfl) ?_
 rintro _ _ _ ⟨v535, _, rfl, ⟨⟨i534, rfl, rfl, rfl⟩, rfl⟩, _, rfl⟩
 refine J.nil <| cr <| jm (.slice ad442 l441.length cp443) rfl <| ja (.slice ad442 l441.length cp443) rfl <| J.nil <| CJ.ret ?_
 obtain rfl := si h
 exact ⟨_, _, Res.one rfl rfl, ⟨l441, i534, ad442, cp443, rfl, rfl, rfl⟩, hk358, fun w hs => (Sep.dropAt 2 rfl hs)⟩
noncomputable def fn_ref21_head_l1 (xa : (Int × Int × (List (Int × Int)) × (List (List (Int × Bool))) × (List (Int × Bool)) × (List (Int × (List (Int × Int)) × (List (List (Int × Bool))) × (List (Int × Bool)))) × (List ((List (Int × Int × Int × Int × Bool)) × (Int × Int × Int × (List Int) × (List Int) × (List Int)))))) : Int → Option (Int ⊕ (Unit ⊕ (Int × Int × Int × Int))) := fun (i260 : Int) => cond (decide (i260 < (((xa.2.2.1.length : Nat) : Int)))) ((getI xa.2.2.1 i260).bind fun x288 => cond ((((decide (x288.1 < 0)) || (decide (xa.1 ≤ x288.1))) || (decide (x288.2 < 0))) || (decide (xa.1 ≤ x288.2))) (some (.inr ((.inr ((7, 1, i260, 0)))))) (some (.inl (IntKind.wrap .i64 (i260 + 1))))) (some (.inr ((.inl ()))))
noncomputable def fn_ref21_head (xa : (Int × Int × (List (Int × Int)) × (List (List (Int × Bool))) × (List (Int × Bool)) × (List (Int × (List (Int × Int)) × (List (List (Int × Bool))) × (List (Int × Bool)))) × (List ((List (Int × Int × Int × Int × Bool)) × (Int × Int × Int × (List Int) × (List Int) × (List Int)))))) : Option (Int × Int × Int × Int) :=
  cond ((decide (xa.1 < 1)) || (decide (xa.2.1 < xa.1))) (some ((7, 0, 0, 0))) (cond (decide (65536 < xa.2.1)) (some ((6, 0, 0, 0))) (cond (decide (65536 < (((xa.2.2.1.length : Nat) : Int)))) (some ((6, 1, 0, 0))) ((loop (fn_ref21_head_l1 xa) 0 : Option (Unit ⊕ (Int × Int × Int × Int))).bind fun o => match o with | .inr r => some r | .inl () => some ((0, 0, 0, 0)))))
set_option maxRecDepth 100000 in
set_option maxHeartbeats 4000000 in
theorem ref21_head_ok {K : Hp} {xa : (Int × Int × (List (Int × Int)) × (List (List (Int × Bool))) × (List (Int × Bool)) × (List (Int × (List (Int × Int)) × (List (List (Int × Bool))) × (List (Int × Bool)))) × (List ((List (Int × Int × Int × Int × Bool)) × (Int × Int × Int × (List Int) × (List Int) × (List Int)))))} {adxa_2 : Option Addr} {cpxa_2 : Nat} {adxa_3 : Option Addr} {cpxa_3 : Nat} {adxa_4 : Option Addr} {cpxa_4 : Nat} {adxa_5 : Option Addr} {cpxa_5 : Nat} {adxa_6 : Option Addr} {cpxa_6 : Nat} (fxa_2 : Is K (.sl (.cons (.int .i64) (.one (.int .i64)))) [.slice adxa_2 xa.2.2.1.length cpxa_2] xa.2.2.1) (fxa_3 : Is K (.sl (.one (.sl (.cons (.int .i64) (.one .bool))))) [.slice adxa_3 xa.2.2.2.1.length cpxa_3] xa.2.2.2.1) (fxa_4 : Is K (.sl (.cons (.int .i64) (.one .bool))) [.slice adxa_4 xa.2.2.2.2.1.length cpxa_4] xa.2.2.2.2.1) (fxa_5 : Is K (.sl (.cons (.int .i64) (.cons (.sl (.cons (.int .i64) (.one (.int .i64)))) (.cons (.sl (.one (.sl (.cons (.int .i64) (.one .bool))))) (.one (.one (.sl (.cons (.int .i64) (.one .bool))))))))) [.slice adxa_5 xa.2.2.2.2.2.1.length cpxa_5] xa.2.2.2.2.2.1) (fxa_6 : Is K (.sl (.cons (.sl (.cons (.int .i64) (.cons (.int .i64) (.cons (.int .i64) (.cons (.int .i64) (.one .bool)))))) (.one (.cons (.int .i64) (.cons (.int .i64) (.cons (.int .i64) (.cons (.sl (.int .i64)) (.cons (.sl (.int .i64)) (.one (.sl (.int .i64))))))))))) [.slice adxa_6 xa.2.2.2.2.2.2.length cpxa_6] xa.2.2.2.2.2.2) {r : (Int × Int × Int × Int)} (h : fn_ref21_head xa = some r) :
    Tr Tryz.prog 52 #[.agg #[ii xa.1, ii xa.2.1, .slice adxa_2 xa.2.2.1.length cpxa_2, .slice adxa_3 xa.2.2.2.1.length cpxa_3, .slice adxa_4 xa.2.2.2.2.1.length cpxa_4, .slice adxa_5 xa.2.2.2.2.2.1.length cpxa_5, .slice adxa_6 xa.2.2.2.2.2.2.length cpxa_6]] K [] (fun v K' L' => (∃ (i154 : Int) (i155 : Int) (i156 : Int) (i157 : Int), (i154, i155, i156, i157) = r ∧ .agg #[ii i154, ii i155, ii i156, ii i157] = v ∧ L' = []) ∧ K = K') := by
 refine Tr.k <| Tr.of Tryz.func52 rfl Tryz.ntmps52 rfl fun E F => ?_
 unfold fn_ref21_head at h
 refine cr <| jbx [ii xa.1, ii xa.2.1, .slice adxa_2 xa.2.2.1.length cpxa_2, .slice adxa_3 xa.2.2.2.1.length cpxa_3, .slice adxa_4 xa.2.2.2.2.1.length cpxa_4, .slice adxa_5 xa.2.2.2.2.2.1.length cpxa_5, .slice adxa_6 xa.2.2.2.2.2.2.length cpxa_6] rfl rfl fun b158 => jal inf95 [ii 0, ii 0, ii 0, ii 0] rfl fun b159 => J.nil <| CJ.seq <| CJ.seq ?_
 refine CJ.region <| jv _ (V.fad Tryz.underlying30 rfl nz3 rfl) <| jv (ii xa.1) (V.ld rfl (Ld.sc sc3 (Rd.cl 1 rfl rfl))) <| jv (.bool (decide (xa.1 < 1))) (V.lss rfl rfl) <| jm (.bool (decide (xa.1 < 1))) rfl <| J.cut 6 <| jmeet [(14, .bool ((decide (xa.1 < 1)) || (decide (xa.2.1 < xa.1)))), (1, .pointer (some ⟨b158, 0, none⟩)), (2, .pointer (some ⟨b159, 0, none⟩))] ?_ ?_
 · rcases bt (decide (xa.1 < 1)) with hc162 | hc162
   · refine J.skip rfl rfl rfl rfl hc162 <| J.skip rfl rfl rfl rfl hc162 <| J.skip rfl rfl rfl rfl hc162 <| J.skip rfl rfl rfl rfl hc162 <| J.skip rfl rfl rfl rfl hc162 <| jv (.bool true) (V.pickT rfl hc162 rfl) <| J.nil ?_
     exact ⟨rfl, ⟨(by simp only [hc162]; rfl), rfl, rfl, trivial⟩, rfl, rfl⟩
   refine J.run rfl rfl rfl hc162 <| jv _ (V.fad Tryz.underlying30 rfl nz3 rfl) <| J.run rfl rfl rfl hc162 <| jv (ii xa.2.1) (V.ld rfl (Ld.sc sc3 (Rd.cl 1 rfl rfl))) <| J.run rfl rfl rfl hc162 <| jv _ (V.fad Tryz.underlying30 rfl nz3 rfl) <| J.run rfl rfl rfl hc162 ?_
   refine jv (ii xa.1) (V.ld rfl (Ld.sc sc3 (Rd.cl 1 rfl rfl))) <| J.run rfl rfl rfl hc162 <| jv (.bool (decide (xa.2.1 < xa.1))) (V.lss rfl rfl) <| jv (.bool (decide (xa.2.1 < xa.1))) (V.pickF rfl hc162 rfl) <| J.nil ?_
   exact ⟨rfl, ⟨(by simp only [hc162]; rfl), rfl, rfl, trivial⟩, rfl, rfl⟩
 intro ρ
 refine J.nil <| cc rfl h (fun hc163 h => ?_) fun hc163 h => ?_
 · refine cr <| jv (.agg #[ii 7, ii 0, ii 0, ii 0]) (V.build inf95 places95 rfl rfl) <| js [ii 7, ii 0, ii 0, ii 0] sz95 rfl rfl rfl rfl rfl rfl <| J.nil <| CJ.ret ?_
   obtain rfl := si h
   exact ⟨_, _, Res.one rfl ⟨_, _, rfl, Ld.agg (cs := [ii 7, ii 0, ii 0, ii 0]) Tryz.underlying95 sz95 rfl (Rd.cls 0 0 rfl rfl)⟩, ⟨7, 0, 0, 0, rfl, rfl, rfl⟩, (Hp.le_refl _), fun w hs => (Sep.dropAt 0 rfl (Sep.dropAt 0 rfl hs))⟩
 refine CJ.skip <| CJ.seq <| cr <| jv _ (V.fad Tryz.underlying30 rfl nz3 rfl) <| jv (ii xa.2.1) (V.ld rfl (Ld.sc sc3 (Rd.cl 1 rfl rfl))) <| jv (.bool (decide (65536 < xa.2.1))) (V.gtr rfl rfl) ?_
 refine J.nil <| cc rfl h (fun hc164 h => ?_) fun hc164 h => ?_
 · refine cr <| jv (.agg #[ii 6, ii 0, ii 0, ii 0]) (V.build inf95 places95 rfl rfl) <| js [ii 6, ii 0, ii 0, ii 0] sz95 rfl rfl rfl rfl rfl rfl <| J.nil <| CJ.ret ?_
   obtain rfl := si h
   exact ⟨_, _, Res.one rfl ⟨_, _, rfl, Ld.agg (cs := [ii 6, ii 0, ii 0, ii 0]) Tryz.underlying95 sz95 rfl (Rd.cls 0 0 rfl rfl)⟩, ⟨6, 0, 0, 0, rfl, rfl, rfl⟩, (Hp.le_refl _), fun w hs => (Sep.dropAt 0 rfl (Sep.dropAt 0 rfl hs))⟩
 refine CJ.skip <| CJ.seq <| cr <| jv _ (V.fad Tryz.underlying30 rfl nz22 rfl) <| jv (.slice adxa_2 xa.2.2.1.length cpxa_2) (V.ld rfl (Ld.sc sc22 (Rd.cl 1 rfl rfl))) <| jv (ii (((xa.2.2.1.length : Nat) : Int))) (V.len Tryz.underlying22 rfl) ?_
 refine jv (.bool (decide (65536 < (((xa.2.2.1.length : Nat) : Int))))) (V.gtr rfl rfl) <| J.nil <| cc rfl h (fun hc165 h => ?_) fun hc165 h => ?_
 · refine cr <| jv (.agg #[ii 6, ii 1, ii 0, ii 0]) (V.build inf95 places95 rfl rfl) <| js [ii 6, ii 1, ii 0, ii 0] sz95 rfl rfl rfl rfl rfl rfl <| J.nil <| CJ.ret ?_
   obtain rfl := si h
   exact ⟨_, _, Res.one rfl ⟨_, _, rfl, Ld.agg (cs := [ii 6, ii 1, ii 0, ii 0]) Tryz.underlying95 sz95 rfl (Rd.cls 0 0 rfl rfl)⟩, ⟨6, 1, 0, 0, rfl, rfl, rfl⟩, (Hp.le_refl _), fun w hs => (Sep.dropAt 0 rfl (Sep.dropAt 0 rfl hs))⟩
 refine CJ.skip <| CJ.seq <| cr <| ja (ii 0) rfl <| J.nil ?_
 obtain ⟨o236, ho237, h⟩ := ob h
 refine CJ.joinN (o := o236) (fun s ρ K' L' => () = s ∧ Fits [(2, .pointer (some ⟨b159, 0, none⟩))] ρ ∧ K = K' ∧ L' = Cl b159 95 [ii 0, ii 0, ii 0, ii 0] :: F) ?_ ?_
 · refine CJ.block <| CJ.front 1 rfl <| CJ.loop (fun s ρ K' L' => ∃ (i260 : Int), i260 = s ∧ Fits [(1, .pointer (some ⟨b158, 0, none⟩)), (2, .pointer (some ⟨b159, 0, none⟩)), (3, ii i260)] ρ ∧ K = K' ∧ L' = Cl b158 30 [ii xa.1, ii xa.2.1, .slice adxa_2 xa.2.2.1.length cpxa_2, .slice adxa_3 xa.2.2.2.1.length cpxa_3, .slice adxa_4 xa.2.2.2.2.1.length cpxa_4, .slice adxa_5 xa.2.2.2.2.2.1.length cpxa_5, .slice adxa_6 xa.2.2.2.2.2.2.length cpxa_6] :: Cl b159 95 [ii 0, ii 0, ii 0, ii 0] :: F) ho237 ⟨0, rfl, ⟨rfl, rfl, rfl, trivial⟩, rfl, rfl⟩ ?_
   rintro s ρ _ _ r286 ⟨i260, rfl, hf284, rfl, rfl⟩ h283
   obtain ⟨ρ, rfl⟩ := hf284.ex
   refine CJ.seq <| cr <| jm (ii i260) rfl <| jv _ (V.fad Tryz.underlying30 rfl nz22 rfl) <| jv (.slice adxa_2 xa.2.2.1.length cpxa_2) (V.ld rfl (Ld.sc sc22 (Rd.cl 0 rfl rfl))) <| jv (ii (((xa.2.2.1.length : Nat) : Int))) (V.len Tryz.underlying22 rfl) ?_
   refine jv (.bool (decide (i260 < (((xa.2.2.1.length : Nat) : Int))))) (V.lss rfl rfl) <| J.nil <| cc rfl h283 (fun hc287 h283 => ?_) fun hc287 h283 => ?_
   · refine CJ.skip <| CJ.seq <| CJ.block <| cr <| jv _ (V.fad Tryz.underlying30 rfl nz22 rfl) <| jv (.slice adxa_2 xa.2.2.1.length cpxa_2) (V.ld rfl (Ld.sc sc22 (Rd.cl 0 rfl rfl))) ?_
     refine jm (ii i260) rfl ?_
     obtain ⟨x288, hx289, h283⟩ := ob h283
     obtain ⟨p290, p291, p292⟩ := getI_some hx289
     obtain ⟨b293, o294, e295, a296⟩ := (fxa_2).at p291
     refine jv _ (V.iad Tryz.underlying22 sz83 rfl e295 rfl p290 p292) <| jv (.agg #[ii x288.1, ii x288.2]) (V.ld rfl (Ld.aggK (cs := [ii x288.1, ii x288.2]) Tryz.underlying83 sz83 rfl ⟨((a296).fst).int, (((a296).snd).one).int, trivial⟩ (Hp.le_refl _))) <| jal inf83 [ii 0, ii 0] rfl fun b297 => js [ii x288.1, ii x288.2] sz83 rfl rfl rfl rfl rfl rfl <| J.nil <| CJ.seq <| CJ.region ?_
     refine jv _ (V.fad Tryz.underlying83 rfl nz3 rfl) <| jv (ii x288.1) (V.ld rfl (Ld.sc sc3 (Rd.cl 0 rfl rfl))) <| jv (.bool (decide (x288.1 < 0))) (V.lss rfl rfl) <| jm (.bool (decide (x288.1 < 0))) rfl <| J.cut 6 <| jmeet [(46, .bool ((decide (x288.1 < 0)) || (decide (xa.1 ≤ x288.1)))), (1, .pointer (some ⟨b158, 0, none⟩)), (2, .pointer (some ⟨b159, 0, none⟩)), (3, ii i260), (4, .pointer (some ⟨b297, 0, none⟩))] ?_ ?_
     · rcases bt (decide (x288.1 < 0)) with hc300 | hc300
       · refine J.skip rfl rfl rfl rfl hc300 <| J.skip rfl rfl rfl rfl hc300 <| J.skip rfl rfl rfl rfl hc300 <| J.skip rfl rfl rfl rfl hc300 <| J.skip rfl rfl rfl rfl hc300 <| jv (.bool true) (V.pickT rfl hc300 rfl) <| J.nil ?_
         exact ⟨rfl, ⟨(by simp only [hc300]; rfl), rfl, rfl, rfl, rfl, trivial⟩, rfl, rfl⟩
       refine J.run rfl rfl rfl hc300 <| jv _ (V.fad Tryz.underlying83 rfl nz3 rfl) <| J.run rfl rfl rfl hc300 <| jv (ii x288.1) (V.ld rfl (Ld.sc sc3 (Rd.cl 0 rfl rfl))) <| J.run rfl rfl rfl hc300 <| jv _ (V.fad Tryz.underlying30 rfl nz3 rfl) <| J.run rfl rfl rfl hc300 ?_
       refine jv (ii xa.1) (V.ld rfl (Ld.sc sc3 (Rd.cl 1 rfl rfl))) <| J.run rfl rfl rfl hc300 <| jv (.bool (decide (xa.1 ≤ x288.1))) (V.geq rfl rfl) <| jv (.bool (decide (xa.1 ≤ x288.1))) (V.pickF rfl hc300 rfl) <| J.nil ?_
       exact ⟨rfl, ⟨(by simp only [hc300]; rfl), rfl, rfl, rfl, rfl, trivial⟩, rfl, rfl⟩
     intro ρ
     refine jm (.bool ((decide (x288.1 < 0)) || (decide (xa.1 ≤ x288.1)))) rfl <| J.cut 4 <| jmeet [(51, .bool (((decide (x288.1 < 0)) || (decide (xa.1 ≤ x288.1))) || (decide (x288.2 < 0)))), (1, .pointer (some ⟨b158, 0, none⟩)), (2, .pointer (some ⟨b159, 0, none⟩)), (3, ii i260), (4, .pointer (some ⟨b297, 0, none⟩))] ?_ ?_
     · rcases bt ((decide (x288.1 < 0)) || (decide (xa.1 ≤ x288.1))) with hc303 | hc303
       · refine J.skip rfl rfl rfl rfl hc303 <| J.skip rfl rfl rfl rfl hc303 <| J.skip rfl rfl rfl rfl hc303 <| jv (.bool true) (V.pickT rfl hc303 rfl) <| J.nil ?_
         exact ⟨rfl, ⟨(by simp only [hc303]; rfl), rfl, rfl, rfl, rfl, trivial⟩, rfl, rfl⟩
       refine J.run rfl rfl rfl hc303 <| jv _ (V.fad Tryz.underlying83 rfl nz3 rfl) <| J.run rfl rfl rfl hc303 <| jv (ii x288.2) (V.ld rfl (Ld.sc sc3 (Rd.cl 0 rfl rfl))) <| J.run rfl rfl rfl hc303 <| jv (.bool (decide (x288.2 < 0))) (V.lss rfl rfl) <| jv (.bool (decide (x288.2 < 0))) (V.pickF rfl hc303 rfl) ?_
       refine J.nil ?_
       exact ⟨rfl, ⟨(by simp only [hc303]; rfl), rfl, rfl, rfl, rfl, trivial⟩, rfl, rfl⟩
     intro ρ
     refine jm (.bool (((decide (x288.1 < 0)) || (decide (xa.1 ≤ x288.1))) || (decide (x288.2 < 0)))) rfl <| J.cut 6 <| jmeet [(58, .bool ((((decide (x288.1 < 0)) || (decide (xa.1 ≤ x288.1))) || (decide (x288.2 < 0))) || (decide (xa.1 ≤ x288.2)))), (1, .pointer (some ⟨b158, 0, none⟩)), (2, .pointer (some ⟨b159, 0, none⟩)), (3, ii i260)] ?_ ?_
     · rcases bt (((decide (x288.1 < 0)) || (decide (xa.1 ≤ x288.1))) || (decide (x288.2 < 0))) with hc306 | hc306
       · refine J.skip rfl rfl rfl rfl hc306 <| J.skip rfl rfl rfl rfl hc306 <| J.skip rfl rfl rfl rfl hc306 <| J.skip rfl rfl rfl rfl hc306 <| J.skip rfl rfl rfl rfl hc306 <| jv (.bool true) (V.pickT rfl hc306 rfl) <| J.nil ?_
         exact ⟨rfl, ⟨(by simp only [hc306]; rfl), rfl, rfl, rfl, trivial⟩, rfl, rfl⟩
       refine J.run rfl rfl rfl hc306 <| jv _ (V.fad Tryz.underlying83 rfl nz3 rfl) <| J.run rfl rfl rfl hc306 <| jv (ii x288.2) (V.ld rfl (Ld.sc sc3 (Rd.cl 0 rfl rfl))) <| J.run rfl rfl rfl hc306 <| jv _ (V.fad Tryz.underlying30 rfl nz3 rfl) <| J.run rfl rfl rfl hc306 ?_
       refine jv (ii xa.1) (V.ld rfl (Ld.sc sc3 (Rd.cl 1 rfl rfl))) <| J.run rfl rfl rfl hc306 <| jv (.bool (decide (xa.1 ≤ x288.2))) (V.geq rfl rfl) <| jv (.bool (decide (xa.1 ≤ x288.2))) (V.pickF rfl hc306 rfl) <| J.nil ?_
       exact ⟨rfl, ⟨(by simp only [hc306]; rfl), rfl, rfl, rfl, trivial⟩, rfl, rfl⟩
     intro ρ
     refine J.nil <| cc rfl h283 (fun hc307 h283 => ?_) fun hc307 h283 => ?_
     · refine cr <| jm (ii i260) rfl <| jv (.agg #[ii 7, ii 1, ii i260, ii 0]) (V.build inf95 places95 rfl rfl) <| J.front 2 rfl <| js [ii 7, ii 1, ii i260, ii 0] sz95 rfl rfl rfl rfl rfl rfl <| J.nil ?_
       refine CJ.ret ?_
       obtain rfl := si h283
       refine ⟨nofun, fun e => ?_⟩
       subst e
       refine .inr ⟨nofun, ?_⟩
       obtain rfl := si h
       exact ⟨_, _, Res.one rfl ⟨_, _, rfl, Ld.agg (cs := [ii 7, ii 1, ii i260, ii 0]) Tryz.underlying95 sz95 rfl (Rd.cls 0 0 rfl rfl)⟩, ⟨7, 1, i260, 0, rfl, rfl, rfl⟩, (Hp.le_refl _), fun w hs => (Sep.dropAt 0 rfl (Sep.dropAt 0 rfl (Sep.dropAt 0 rfl hs)))⟩
     refine CJ.skip <| CJ.region <| jm (ii i260) rfl <| jv (ii (IntKind.wrap .i64 (i260 + 1))) (V.add rfl rfl) <| ja (ii (IntKind.wrap .i64 (i260 + 1))) rfl <| J.dropAt 0 rfl <| J.nil ?_
     obtain rfl := si h283
     exact ⟨rfl, ⟨IntKind.wrap .i64 (i260 + 1), rfl, ⟨rfl, rfl, rfl, trivial⟩, rfl, rfl⟩⟩
   refine CJ.dropAt 0 rfl <| CJ.exit ?_
   obtain rfl := si h283
   refine ⟨nofun, fun e => ?_⟩
   subst e
   exact .inl ⟨rfl, _, rfl, ⟨rfl, ⟨rfl, trivial⟩, rfl, rfl⟩⟩
 rintro s ρ _ _ ho308 ⟨rfl, hf309, rfl, rfl⟩
 subst ho308
 obtain ⟨ρ, rfl⟩ := hf309.ex
 refine PJ.done <| cr <| jv (.agg #[ii 0, ii 0, ii 0, ii 0]) (V.build inf95 places95 rfl rfl) <| js [ii 0, ii 0, ii 0, ii 0] sz95 rfl rfl rfl rfl rfl rfl <| J.nil <| CJ.ret ?_
 obtain rfl := si h
 exact ⟨_, _, Res.one rfl ⟨_, _, rfl, Ld.agg (cs := [ii 0, ii 0, ii 0, ii 0]) Tryz.underlying95 sz95 rfl (Rd.cls 0 0 rfl rfl)⟩, ⟨0, 0, 0, 0, rfl, rfl, rfl⟩, (Hp.le_refl _), fun w hs => (Sep.dropAt 0 rfl hs)⟩
noncomputable def fn_ref15_Check_l1 (xa : (List (Int × Bool))) (xb : Int) : Int → Option (Int ⊕ (Unit ⊕ Int)) := fun (i365 : Int) => cond (decide (i365 < (((xa.length : Nat) : Int)))) ((getI xa i365).bind fun x405 => (cond (decide (x405.1 < 0)) (some (true)) ((getI xa i365).bind fun x427 => some (decide (xb ≤ x427.1)))).bind fun t424 => cond (t424) (some (.inr ((.inr (7))))) (some (.inl (IntKind.wrap .i64 (i365 + 1))))) (some (.inr ((.inl ()))))
noncomputable def fn_ref15_Check (xa : (List (Int × Bool))) (xb : Int) : Option Int :=
  cond (decide (16 < (((xa.length : Nat) : Int)))) (some (6)) ((loop (fn_ref15_Check_l1 xa xb) 0 : Option (Unit ⊕ Int)).bind fun o => match o with | .inr r => some r | .inl () => some (0))
set_option maxRecDepth 100000 in
set_option maxHeartbeats 4000000 in
theorem ref15_Check_ok {K : Hp} {xa : (List (Int × Bool))} {xb : Int} {adxa_0 : Option Addr} {cpxa_0 : Nat} (fxa_0 : Is K (.sl (.cons (.int .i64) (.one .bool))) [.slice adxa_0 xa.length cpxa_0] xa) {r : Int} (h : fn_ref15_Check xa xb = some r) :
    Tr Tryz.prog 68 #[.agg #[.slice adxa_0 xa.length cpxa_0], ii xb] K [] (fun v K' L' => (∃ (i220 : Int), i220 = r ∧ ii i220 = v ∧ L' = []) ∧ K = K') := by
 refine Tr.k <| Tr.of Tryz.func68 rfl Tryz.ntmps68 rfl fun E F => ?_
 unfold fn_ref15_Check at h
 refine cr <| jbx [.slice adxa_0 xa.length cpxa_0] rfl rfl fun b221 => ja (ii 0) rfl <| J.nil <| CJ.seq <| CJ.seq ?_
 refine CJ.region <| jv _ (V.fad Tryz.underlying26 rfl nz24 rfl) <| jv (.slice adxa_0 xa.length cpxa_0) (V.ld rfl (Ld.sc sc24 (Rd.cl 0 rfl rfl))) <| jv (ii (((xa.length : Nat) : Int))) (V.len Tryz.underlying24 rfl) <| jv (.bool (decide (16 < (((xa.length : Nat) : Int))))) (V.gtr rfl rfl) <| J.nil <| cc rfl h (fun hc222 h => ?_) fun hc222 h => ?_
 · refine cr <| ja (ii 6) rfl <| J.nil <| CJ.ret ?_
   obtain rfl := si h
   exact ⟨_, _, Res.one rfl rfl, ⟨6, rfl, rfl, rfl⟩, (Hp.le_refl _), fun w hs => (Sep.dropAt 0 rfl hs)⟩
 refine CJ.skip <| CJ.seq <| cr <| ja (ii 0) rfl <| J.nil ?_
 obtain ⟨o329, ho330, h⟩ := ob h
 refine CJ.joinN (o := o329) (fun s ρ K' L' => () = s ∧ Fits [] ρ ∧ K = K' ∧ F = L') ?_ ?_
 · refine CJ.block <| CJ.loop (fun s ρ K' L' => ∃ (i365 : Int), i365 = s ∧ Fits [(1, ii xb), (2, .pointer (some ⟨b221, 0, none⟩)), (5, ii i365)] ρ ∧ K = K' ∧ L' = Cl b221 26 [.slice adxa_0 xa.length cpxa_0] :: F) ho330 ⟨0, rfl, ⟨rfl, rfl, rfl, trivial⟩, rfl, rfl⟩ ?_
   rintro s ρ _ _ r403 ⟨i365, rfl, hf401, rfl, rfl⟩ h400
   obtain ⟨ρ, rfl⟩ := hf401.ex
   refine CJ.seq <| cr <| jm (ii i365) rfl <| jv _ (V.fad Tryz.underlying26 rfl nz24 rfl) <| jv (.slice adxa_0 xa.length cpxa_0) (V.ld rfl (Ld.sc sc24 (Rd.cl 0 rfl rfl))) <| jv (ii (((xa.length : Nat) : Int))) (V.len Tryz.underlying24 rfl) ?_
   refine jv (.bool (decide (i365 < (((xa.length : Nat) : Int))))) (V.lss rfl rfl) <| J.nil <| cc rfl h400 (fun hc404 h400 => ?_) fun hc404 h400 => ?_
   · refine CJ.skip <| CJ.seq <| CJ.block <| cr <| jv _ (V.fad Tryz.underlying26 rfl nz24 rfl) <| jv (.slice adxa_0 xa.length cpxa_0) (V.ld rfl (Ld.sc sc24 (Rd.cl 0 rfl rfl))) ?_
     refine jm (ii i365) rfl ?_
     obtain ⟨x405, hx406, h400⟩ := ob h400
     obtain ⟨p407, p408, p409⟩ := getI_some hx406
     obtain ⟨b410, o411, e412, a413⟩ := (fxa_0).at p408
     refine jv _ (V.iad Tryz.underlying24 sz72 rfl e412 rfl p407 p409) <| jv _ (V.fad Tryz.underlying72 rfl nz3 rfl) <| jv (ii x405.1) (V.ld rfl (Ld.sc sc3 (Rd.k ((a413).fst).int (Hp.le_refl _)))) <| jv (.bool (decide (x405.1 < 0))) (V.lss rfl rfl) <| jm (.bool (decide (x405.1 < 0))) rfl <| J.cut 9 ?_
     obtain ⟨t424, ht425, h400⟩ := ob h400
     refine jmeet [(33, .bool t424), (1, ii xb), (2, .pointer (some ⟨b221, 0, none⟩)), (5, ii i365)] ?_ ?_
     · rcases bt (decide (x405.1 < 0)) with hc426 | hc426
       · have ht425 := ct hc426 ht425
         refine J.skip rfl rfl rfl rfl hc426 <| J.skip rfl rfl rfl rfl hc426 <| J.skip rfl rfl rfl rfl hc426 <| J.skip rfl rfl rfl rfl hc426 <| J.skip rfl rfl rfl rfl hc426 <| J.skip rfl rfl rfl rfl hc426 <| J.skip rfl rfl rfl rfl hc426 ?_
         refine J.skip rfl rfl rfl rfl hc426 <| jv (.bool true) (V.pickT rfl hc426 rfl) <| J.nil ?_
         obtain rfl := si ht425
         exact ⟨rfl, ⟨rfl, rfl, rfl, rfl, trivial⟩, rfl, rfl⟩
       have ht425 := cf hc426 ht425
       refine J.run rfl rfl rfl hc426 <| jv _ (V.fad Tryz.underlying26 rfl nz24 rfl) <| J.run rfl rfl rfl hc426 <| jv (.slice adxa_0 xa.length cpxa_0) (V.ld rfl (Ld.sc sc24 (Rd.cl 0 rfl rfl))) <| J.run rfl rfl rfl hc426 <| jm (ii i365) rfl <| J.run rfl rfl rfl hc426 ?_
       obtain ⟨x427, hx428, ht425⟩ := ob ht425
       obtain ⟨p429, p430, p431⟩ := getI_some hx428
       obtain ⟨b432, o433, e434, a435⟩ := (fxa_0).at p430
       refine jv _ (V.iad Tryz.underlying24 sz72 rfl e434 rfl p429 p431) <| J.run rfl rfl rfl hc426 <| jv _ (V.fad Tryz.underlying72 rfl nz3 rfl) <| J.run rfl rfl rfl hc426 <| jv (ii x427.1) (V.ld rfl (Ld.sc sc3 (Rd.k ((a435).fst).int (Hp.le_refl _)))) <| J.run rfl rfl rfl hc426 <| jm (ii xb) rfl ?_
       refine J.run rfl rfl rfl hc426 <| jv (.bool (decide (xb ≤ x427.1))) (V.geq rfl rfl) <| jv (.bool (decide (xb ≤ x427.1))) (V.pickF rfl hc426 rfl) <| J.nil ?_
       obtain rfl := si ht425
       exact ⟨rfl, ⟨rfl, rfl, rfl, rfl, trivial⟩, rfl, rfl⟩
     intro ρ
     refine J.nil <| cc rfl h400 (fun hc436 h400 => ?_) fun hc436 h400 => ?_
     · refine cr <| ja (ii 7) rfl <| J.nil <| CJ.ret ?_
       obtain rfl := si h400
       refine ⟨nofun, fun e => ?_⟩
       subst e
       refine .inr ⟨nofun, ?_⟩
       obtain rfl := si h
       exact ⟨_, _, Res.one rfl rfl, ⟨7, rfl, rfl, rfl⟩, (Hp.le_refl _), fun w hs => (Sep.dropAt 0 rfl hs)⟩
     refine CJ.skip <| CJ.region <| jm (ii i365) rfl <| jv (ii (IntKind.wrap .i64 (i365 + 1))) (V.add rfl rfl) <| ja (ii (IntKind.wrap .i64 (i365 + 1))) rfl <| J.nil ?_
     obtain rfl := si h400
     exact ⟨rfl, ⟨IntKind.wrap .i64 (i365 + 1), rfl, ⟨rfl, rfl, rfl, trivial⟩, rfl, rfl⟩⟩
   refine CJ.dropAt 0 rfl <| CJ.exit ?_
   obtain rfl := si h400
   refine ⟨nofun, fun e => ?_⟩
   subst e
   exact .inl ⟨rfl, _, rfl, ⟨rfl, trivial, rfl, rfl⟩⟩
 rintro s ρ _ _ ho437 ⟨rfl, hf438, rfl, rfl⟩
 subst ho437
 obtain ⟨ρ, rfl⟩ := hf438.ex
 refine PJ.done <| cr <| ja (ii 0) rfl <| J.nil <| CJ.ret ?_
 obtain rfl := si h
 exact ⟨_, _, Res.one rfl rfl, ⟨0, rfl, rfl, rfl⟩, (Hp.le_refl _), fun w hs => hs⟩
noncomputable def fn_ref15_Shape_l1 (xa : (List (Int × Bool))) (xb : (List (Int × Bool))) : Int → Option (Int ⊕ (Unit ⊕ Bool)) := fun (i417 : Int) => cond (decide (i417 < (((xa.length : Nat) : Int)))) ((getI xa i417).bind fun x480 => (getI xb i417).bind fun x489 => cond (!(x480.2 == x489.2)) (some (.inr ((.inr (false))))) (some (.inl (IntKind.wrap .i64 (i417 + 1))))) (some (.inr ((.inl ()))))
noncomputable def fn_ref15_Shape (xa : (List (Int × Bool))) (xb : (List (Int × Bool))) : Option Bool :=
  cond (!decide ((((xa.length : Nat) : Int)) = (((xb.length : Nat) : Int)))) (some (false)) ((loop (fn_ref15_Shape_l1 xa xb) 0 : Option (Unit ⊕ Bool)).bind fun o => match o with | .inr r => some r | .inl () => some (true))
set_option maxRecDepth 100000 in
set_option maxHeartbeats 4000000 in
theorem ref15_Shape_ok {K : Hp} {xa : (List (Int × Bool))} {xb : (List (Int × Bool))} {adxa_0 : Option Addr} {cpxa_0 : Nat} {adxb_0 : Option Addr} {cpxb_0 : Nat} (fxa_0 : Is K (.sl (.cons (.int .i64) (.one .bool))) [.slice adxa_0 xa.length cpxa_0] xa) (fxb_0 : Is K (.sl (.cons (.int .i64) (.one .bool))) [.slice adxb_0 xb.length cpxb_0] xb) {r : Bool} (h : fn_ref15_Shape xa xb = some r) :
    Tr Tryz.prog 63 #[.agg #[.slice adxa_0 xa.length cpxa_0], .agg #[.slice adxb_0 xb.length cpxb_0]] K [] (fun v K' L' => (∃ (t251 : Bool), t251 = r ∧ .bool t251 = v ∧ L' = []) ∧ K = K') := by
 refine Tr.k <| Tr.of Tryz.func63 rfl Tryz.ntmps63 rfl fun E F => ?_
 unfold fn_ref15_Shape at h
 refine cr <| jbx [.slice adxa_0 xa.length cpxa_0] rfl rfl fun b252 => jbx [.slice adxb_0 xb.length cpxb_0] rfl rfl fun b253 => ja (.bool false) rfl <| J.nil <| CJ.seq ?_
 refine cr <| jv _ (V.fad Tryz.underlying26 rfl nz24 rfl) <| jv (.slice adxa_0 xa.length cpxa_0) (V.ld rfl (Ld.sc sc24 (Rd.cl 1 rfl rfl))) <| jv (ii (((xa.length : Nat) : Int))) (V.len Tryz.underlying24 rfl) <| jv _ (V.fad Tryz.underlying26 rfl nz24 rfl) <| jv (.slice adxb_0 xb.length cpxb_0) (V.ld rfl (Ld.sc sc24 (Rd.cl 0 rfl rfl))) ?_
 refine jv (ii (((xb.length : Nat) : Int))) (V.len Tryz.underlying24 rfl) <| jv (.bool (!decide ((((xa.length : Nat) : Int)) = (((xb.length : Nat) : Int))))) (V.neq rfl rfl) <| J.nil <| cc rfl h (fun hc254 h => ?_) fun hc254 h => ?_
 · refine cr <| ja (.bool false) rfl <| J.nil <| CJ.ret ?_
   obtain rfl := si h
   exact ⟨_, _, Res.one rfl rfl, ⟨false, rfl, rfl, rfl⟩, (Hp.le_refl _), fun w hs => (Sep.dropAt 0 rfl (Sep.dropAt 0 rfl hs))⟩
 refine CJ.skip <| CJ.seq <| cr <| ja (ii 0) rfl <| J.nil ?_
 obtain ⟨o376, ho377, h⟩ := ob h
 refine CJ.joinN (o := o376) (fun s ρ K' L' => () = s ∧ Fits [] ρ ∧ K = K' ∧ F = L') ?_ ?_
 · refine CJ.block <| CJ.front 1 rfl <| CJ.loop (fun s ρ K' L' => ∃ (i417 : Int), i417 = s ∧ Fits [(2, .pointer (some ⟨b252, 0, none⟩)), (3, .pointer (some ⟨b253, 0, none⟩)), (5, ii i417)] ρ ∧ K = K' ∧ L' = Cl b252 26 [.slice adxa_0 xa.length cpxa_0] :: Cl b253 26 [.slice adxb_0 xb.length cpxb_0] :: F) ho377 ⟨0, rfl, ⟨rfl, rfl, rfl, trivial⟩, rfl, rfl⟩ ?_
   rintro s ρ _ _ r460 ⟨i417, rfl, hf458, rfl, rfl⟩ h457
   obtain ⟨ρ, rfl⟩ := hf458.ex
   refine CJ.seq <| cr <| jm (ii i417) rfl <| jv _ (V.fad Tryz.underlying26 rfl nz24 rfl) <| jv (.slice adxa_0 xa.length cpxa_0) (V.ld rfl (Ld.sc sc24 (Rd.cl 0 rfl rfl))) <| jv (ii (((xa.length : Nat) : Int))) (V.len Tryz.underlying24 rfl) ?_
   refine jv (.bool (decide (i417 < (((xa.length : Nat) : Int))))) (V.lss rfl rfl) <| J.nil <| cc rfl h457 (fun hc461 h457 => ?_) fun hc461 h457 => ?_
   · refine CJ.skip <| CJ.seq <| CJ.block <| CJ.seq <| CJ.mix [Cl b252 26 [.slice adxa_0 xa.length cpxa_0], Cl b253 26 [.slice adxb_0 xb.length cpxb_0]] [] [0, 1, 2, 3, 4, 5, 6, 7, 8, 9, 10, 11, 12] [] mixO (by decide +kernel) ⟨0, rfl, 0, rfl, trivial⟩ rfl rfl rfl <| JM.nil <| qv _ (V.fad Tryz.underlying26 rfl nz24 rfl) ?_
     refine qv (.slice adxa_0 xa.length cpxa_0) (V.ld rfl (Ld.sc sc24 (Rd.cl 0 rfl rfl))) <| qm (ii i417) rfl ?_
     obtain ⟨x480, hx481, h457⟩ := ob h457
     obtain ⟨p482, p483, p484⟩ := getI_some hx481
     obtain ⟨b485, o486, e487, a488⟩ := (fxa_0).at p483
     refine qv _ (V.iad Tryz.underlying24 sz72 rfl e487 rfl p482 p484) <| qv _ (V.fad Tryz.underlying72 rfl nz4 rfl) <| qv (.bool x480.2) (V.ld rfl (Ld.sc sc4 (Rd.k (((a488).snd).one).bool (Hp.le_refl _)))) <| qv _ (V.fad Tryz.underlying26 rfl nz24 rfl) <| qv (.slice adxb_0 xb.length cpxb_0) (V.ld rfl (Ld.sc sc24 (Rd.cl 1 rfl rfl))) <| qm (ii i417) rfl ?_
     obtain ⟨x489, hx490, h457⟩ := ob h457
     obtain ⟨p491, p492, p493⟩ := getI_some hx490
     obtain ⟨b494, o495, e496, a497⟩ := (fxb_0).at p492
     refine qv _ (V.iad Tryz.underlying24 sz72 rfl e496 rfl p491 p493) <| qv _ (V.fad Tryz.underlying72 rfl nz4 rfl) <| qv (.bool x489.2) (V.ld rfl (Ld.sc sc4 (Rd.k (((a497).snd).one).bool (Hp.le_refl _)))) <| qv (.bool (!(x480.2 == x489.2))) (V.neb Tryz.underlying4 rfl rfl) <| JQ.nil <| J.nil <| cc rfl h457 (fun hc498 h457 => ?_) fun hc498 h457 => ?_
     · refine cr <| ja (.bool false) rfl <| J.nil <| CJ.ret ?_
       obtain rfl := si h457
       refine ⟨nofun, fun e => ?_⟩
       subst e
       refine .inr ⟨nofun, ?_⟩
       obtain rfl := si h
       exact ⟨_, _, Res.one rfl rfl, ⟨false, rfl, rfl, rfl⟩, (Hp.le_refl _), fun w hs => (Sep.dropAt 0 rfl (Sep.dropAt 0 rfl hs))⟩
     refine CJ.skip <| CJ.region <| jm (ii i417) rfl <| jv (ii (IntKind.wrap .i64 (i417 + 1))) (V.add rfl rfl) <| ja (ii (IntKind.wrap .i64 (i417 + 1))) rfl <| J.nil ?_
     obtain rfl := si h457
     exact ⟨rfl, ⟨IntKind.wrap .i64 (i417 + 1), rfl, ⟨rfl, rfl, rfl, trivial⟩, rfl, rfl⟩⟩
   refine CJ.dropAt 0 rfl <| CJ.dropAt 0 rfl <| CJ.exit ?_
   obtain rfl := si h457
   refine ⟨nofun, fun e => ?_⟩
   subst e
   exact .inl ⟨rfl, _, rfl, ⟨rfl, trivial, rfl, rfl⟩⟩
 rintro s ρ _ _ ho499 ⟨rfl, hf500, rfl, rfl⟩
 subst ho499
 obtain ⟨ρ, rfl⟩ := hf500.ex
 refine PJ.done <| cr <| ja (.bool true) rfl <| J.nil <| CJ.ret ?_
 obtain rfl := si h
 exact ⟨_, _, Res.one rfl rfl, ⟨true, rfl, rfl, rfl⟩, (Hp.le_refl _), fun w hs => hs⟩
end Go.Proofs.YtelekeapfgfknaaGreat
