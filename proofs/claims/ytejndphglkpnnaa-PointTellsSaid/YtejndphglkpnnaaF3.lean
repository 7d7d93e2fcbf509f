/- What Go functions answer: generated. -/
import Derived.Test.YtejndphglkpnnaaF2
namespace Go.Proofs.Ytejndphglkpnnaa
open Go.RowKit
set_option linter.unusedVariables false
set_option linter.unnecessarySimpa false
set_option linter.unusedSimpArgs false
set_option maxRecDepth 20000

noncomputable def fn_valid_Check_az (xa : (Int × Int × (List (Int × Int)) × (List (List (Int × Bool))) × (List (Int × Bool)) × (List (Int × (List (Int × Int)) × (List (List (Int × Bool))) × (List (Int × Bool)))) × (List ((List (Int × Int × Int × Int × Bool)) × (Int × Int × Int × (List Int) × (List Int) × (List Int)))))) : Option (Int × Int × Int × Int) :=
  (fn_tick_Counter_Add_zii 1 1).bind fun _ => (fn_valid_head_az (xa.1, xa.2.1, xa.2.2.1, xa.2.2.2.1, xa.2.2.2.2.1, xa.2.2.2.2.2.1, xa.2.2.2.2.2.2)).bind fun (i100, i101, i102, i103) => cond (!decide (i100 = 0)) (some ((i100, i101, i102, i103))) ((fn_valid_bounds_az (xa.1, xa.2.1, xa.2.2.1, xa.2.2.2.1, xa.2.2.2.2.1, xa.2.2.2.2.2.1, xa.2.2.2.2.2.2)).bind fun (i111, i112, i113, i114) => cond (!decide (i111 = 0)) (some ((i111, i112, i113, i114))) ((fn_valid_locals_az (xa.1, xa.2.1, xa.2.2.1, xa.2.2.2.1, xa.2.2.2.2.1, xa.2.2.2.2.2.1, xa.2.2.2.2.2.2)).bind fun (i122, i123, i124, i125) => cond (!decide (i122 = 0)) (some ((i122, i123, i124, i125))) ((fn_valid_ret_az (xa.1, xa.2.1, xa.2.2.1, xa.2.2.2.1, xa.2.2.2.2.1, xa.2.2.2.2.2.1, xa.2.2.2.2.2.2)).bind fun (i133, i134, i135, i136) => cond (!decide (i133 = 0)) (some ((i133, i134, i135, i136))) ((fn_valid_sigs_az (xa.1, xa.2.1, xa.2.2.1, xa.2.2.2.1, xa.2.2.2.2.1, xa.2.2.2.2.2.1, xa.2.2.2.2.2.2)).bind fun (i144, i145, i146, i147) => cond (!decide (i144 = 0)) (some ((i144, i145, i146, i147))) ((fn_valid_blocks_az (xa.1, xa.2.1, xa.2.2.1, xa.2.2.2.1, xa.2.2.2.2.1, xa.2.2.2.2.2.1, xa.2.2.2.2.2.2)).bind fun (i155, i156, i157, i158) => cond (!decide (i155 = 0)) (some ((i155, i156, i157, i158))) ((fn_valid_code_az (xa.1, xa.2.1, xa.2.2.1, xa.2.2.2.1, xa.2.2.2.2.1, xa.2.2.2.2.2.1, xa.2.2.2.2.2.2)).bind fun (i166, i167, i168, i169) => cond (!decide (i166 = 0)) (some ((i166, i167, i168, i169))) (some ((0, 0, 0, 0)))))))))
set_option maxRecDepth 100000 in
set_option maxHeartbeats 4000000 in
theorem valid_Check_az_ok {K : Hp} {xa : (Int × Int × (List (Int × Int)) × (List (List (Int × Bool))) × (List (Int × Bool)) × (List (Int × (List (Int × Int)) × (List (List (Int × Bool))) × (List (Int × Bool)))) × (List ((List (Int × Int × Int × Int × Bool)) × (Int × Int × Int × (List Int) × (List Int) × (List Int)))))} {adxa_2 : Option Addr} {cpxa_2 : Nat} {adxa_3 : Option Addr} {cpxa_3 : Nat} {adxa_4 : Option Addr} {cpxa_4 : Nat} {adxa_5 : Option Addr} {cpxa_5 : Nat} {adxa_6 : Option Addr} {cpxa_6 : Nat} (fxa_2 : Is K (.sl (.cons (.int .i64) (.one (.int .i64)))) [.slice adxa_2 xa.2.2.1.length cpxa_2] xa.2.2.1) (fxa_3 : Is K (.sl (.one (.sl (.cons (.int .i64) (.one .bool))))) [.slice adxa_3 xa.2.2.2.1.length cpxa_3] xa.2.2.2.1) (fxa_4 : Is K (.sl (.cons (.int .i64) (.one .bool))) [.slice adxa_4 xa.2.2.2.2.1.length cpxa_4] xa.2.2.2.2.1) (fxa_5 : Is K (.sl (.cons (.int .i64) (.cons (.sl (.cons (.int .i64) (.one (.int .i64)))) (.cons (.sl (.one (.sl (.cons (.int .i64) (.one .bool))))) (.one (.one (.sl (.cons (.int .i64) (.one .bool))))))))) [.slice adxa_5 xa.2.2.2.2.2.1.length cpxa_5] xa.2.2.2.2.2.1) (fxa_6 : Is K (.sl (.cons (.sl (.cons (.int .i64) (.cons (.int .i64) (.cons (.int .i64) (.cons (.int .i64) (.one .bool)))))) (.one (.cons (.int .i64) (.cons (.int .i64) (.cons (.int .i64) (.cons (.sl (.int .i64)) (.cons (.sl (.int .i64)) (.one (.sl (.int .i64))))))))))) [.slice adxa_6 xa.2.2.2.2.2.2.length cpxa_6] xa.2.2.2.2.2.2) {r : (Int × Int × Int × Int)} (h : fn_valid_Check_az xa = some r) :
    Tr Try.prog 25 #[.agg #[ii xa.1, ii xa.2.1, .slice adxa_2 xa.2.2.1.length cpxa_2, .slice adxa_3 xa.2.2.2.1.length cpxa_3, .slice adxa_4 xa.2.2.2.2.1.length cpxa_4, .slice adxa_5 xa.2.2.2.2.2.1.length cpxa_5, .slice adxa_6 xa.2.2.2.2.2.2.length cpxa_6], .pointer none] K [] (fun v K' L' => (∃ (i86 : Int) (i87 : Int) (i88 : Int) (i89 : Int), (i86, i87, i88, i89) = r ∧ .agg #[ii i86, ii i87, ii i88, ii i89] = v ∧ L' = []) ∧ K = K') := by
 refine Tr.k <| Tr.of Try.func25 rfl Try.ntmps25 rfl fun E F => ?_
 unfold fn_valid_Check_az at h
 refine CJ.seq <| CJ.region <| jbx [ii xa.1, ii xa.2.1, .slice adxa_2 xa.2.2.1.length cpxa_2, .slice adxa_3 xa.2.2.2.1.length cpxa_3, .slice adxa_4 xa.2.2.2.2.1.length cpxa_4, .slice adxa_5 xa.2.2.2.2.2.1.length cpxa_5, .slice adxa_6 xa.2.2.2.2.2.2.length cpxa_6] rfl rfl fun b90 => jal inf68 [ii 0, ii 0, ii 0, ii 0] rfl fun b91 => J.nil <| CJ.seq <| CJ.region ?_
 refine jm (.pointer none) rfl ?_
 obtain ⟨r92, hr93, h⟩ := ob h
 refine J.op rfl (A.call (L1 := []) Try.call27 rfl (tick_Counter_Add_zii_ok hr93) rfl rfl) ?_
 rintro _ _ _ ⟨v94, _, rfl, ⟨⟨rfl, rfl, rfl⟩, rfl⟩, _, rfl⟩
 refine J.nil <| CJ.seq <| CJ.region ?_
 refine J.op rfl (A.litC (cs := [.func (.func 28) #[] #[], .func (.func 29) #[] #[], .func (.func 30) #[] #[], .func (.func 31) #[] #[], .func (.func 32) #[] #[], .func (.func 33) #[] #[], .func (.func 34) #[] #[]]) Try.underlying75 inf69 (by decide) rfl rfl (by decide)) ?_
 rintro _ _ _ ⟨b97, rfl, rfl, rfl⟩
 refine ja (.slice (some ⟨b97, 0, none⟩) 7 7) rfl <| J.nil <| CJ.seq <| CJ.seq <| CJ.region <| jm (.slice (some ⟨b97, 0, none⟩) 7 7) rfl <| jv (ii 7) (Val.eq (V.len Try.underlying75 rfl) rfl) ?_
 refine jm (ii 0) rfl <| J.nil <| CJ.block <| CJ.unroll 64 <| RJ.next <| CJ.seq <| CJ.region ?_
 refine jv (.bool true) (Val.eq (V.lss rfl rfl) rfl) <| J.nil <| CJ.seq <| CJ.condK (b := true) rfl rfl <| CJ.skip <| CJ.seq <| CJ.block ?_
 refine CJ.seq <| CJ.region <| jv _ (Val.eq (V.iad Try.underlying75 sz69 rfl rfl rfl (by decide) (by decide)) rfl) <| jv (.func (.func 28) #[] #[]) (V.ld rfl (Ld.sc sc69 (Rd.cl 0 rfl rfl))) <| ja (.func (.func 28) #[] #[]) rfl <| J.nil <| CJ.seq ?_
 refine CJ.region <| jm (.func (.func 28) #[] #[]) rfl <| jv (.agg #[ii xa.1, ii xa.2.1, .slice adxa_2 xa.2.2.1.length cpxa_2, .slice adxa_3 xa.2.2.2.1.length cpxa_3, .slice adxa_4 xa.2.2.2.2.1.length cpxa_4, .slice adxa_5 xa.2.2.2.2.2.1.length cpxa_5, .slice adxa_6 xa.2.2.2.2.2.2.length cpxa_6]) (V.ld rfl (Ld.agg (cs := [ii xa.1, ii xa.2.1, .slice adxa_2 xa.2.2.1.length cpxa_2, .slice adxa_3 xa.2.2.2.1.length cpxa_3, .slice adxa_4 xa.2.2.2.2.1.length cpxa_4, .slice adxa_5 xa.2.2.2.2.2.1.length cpxa_5, .slice adxa_6 xa.2.2.2.2.2.2.length cpxa_6]) Try.underlying30 sz30 rfl (Rd.cls 2 0 rfl rfl))) <| jm (.pointer none) rfl ?_
 obtain ⟨r98, hr99, h⟩ := ob h
 refine J.op rfl (A.call (L1 := []) Try.call28 rfl (valid_head_az_ok fxa_2 fxa_3 fxa_4 fxa_5 fxa_6 hr99) rfl rfl) ?_
 rintro _ _ _ ⟨v104, _, rfl, ⟨⟨i100, i101, i102, i103, rfl, rfl, rfl⟩, rfl⟩, _, rfl⟩
 refine jal inf68 [ii 0, ii 0, ii 0, ii 0] rfl fun b107 => js [ii i100, ii i101, ii i102, ii i103] sz68 rfl rfl rfl rfl rfl rfl <| J.nil <| CJ.seq <| CJ.region <| jv _ (V.fad Try.underlying68 rfl nz66 rfl) <| jv (ii i100) (V.ld rfl (Ld.sc sc66 (Rd.cl 0 rfl rfl))) ?_
 refine jv (.bool (!decide (i100 = 0))) (V.neq rfl rfl) <| J.nil <| cc rfl h (fun hc108 h => ?_) fun hc108 h => ?_
 · refine CJ.seq <| CJ.region <| jv (.agg #[ii i100, ii i101, ii i102, ii i103]) (V.ld rfl (Ld.agg (cs := [ii i100, ii i101, ii i102, ii i103]) Try.underlying68 sz68 rfl (Rd.cls 0 0 rfl rfl))) <| J.front 2 rfl <| js [ii i100, ii i101, ii i102, ii i103] sz68 rfl rfl rfl rfl rfl rfl <| J.nil <| CJ.ret ?_
   obtain rfl := si h
   exact ⟨_, _, Res.one rfl ⟨_, _, rfl, Ld.agg (cs := [ii i100, ii i101, ii i102, ii i103]) Try.underlying68 sz68 rfl (Rd.cls 0 0 rfl rfl)⟩, ⟨i100, i101, i102, i103, rfl, rfl, rfl⟩, (Hp.le_refl _), fun w hs => (Sep.dropAt 0 rfl (Sep.dropAt 0 rfl (Sep.dropAt 0 rfl (Sep.dropAt 0 rfl hs))))⟩
 refine CJ.skip <| CJ.region <| jv (ii 1) (Val.eq (V.add rfl rfl) rfl) <| jm (ii 1) rfl <| J.nil <| RJ.next <| CJ.seq ?_
 refine CJ.region <| jv (.bool true) (Val.eq (V.lss rfl rfl) rfl) <| J.nil <| CJ.seq <| CJ.condK (b := true) rfl rfl <| CJ.skip <| CJ.seq ?_
 refine CJ.block <| CJ.seq <| CJ.region <| jv _ (Val.eq (V.iad Try.underlying75 sz69 rfl rfl rfl (by decide) (by decide)) rfl) <| jv (.func (.func 29) #[] #[]) (V.ld rfl (Ld.sc sc69 (Rd.cl 1 rfl rfl))) <| ja (.func (.func 29) #[] #[]) rfl <| J.nil ?_
 refine CJ.seq <| CJ.region <| jm (.func (.func 29) #[] #[]) rfl <| jv (.agg #[ii xa.1, ii xa.2.1, .slice adxa_2 xa.2.2.1.length cpxa_2, .slice adxa_3 xa.2.2.2.1.length cpxa_3, .slice adxa_4 xa.2.2.2.2.1.length cpxa_4, .slice adxa_5 xa.2.2.2.2.2.1.length cpxa_5, .slice adxa_6 xa.2.2.2.2.2.2.length cpxa_6]) (V.ld rfl (Ld.agg (cs := [ii xa.1, ii xa.2.1, .slice adxa_2 xa.2.2.1.length cpxa_2, .slice adxa_3 xa.2.2.2.1.length cpxa_3, .slice adxa_4 xa.2.2.2.2.1.length cpxa_4, .slice adxa_5 xa.2.2.2.2.2.1.length cpxa_5, .slice adxa_6 xa.2.2.2.2.2.2.length cpxa_6]) Try.underlying30 sz30 rfl (Rd.cls 3 0 rfl rfl))) <| jm (.pointer none) rfl ?_
 obtain ⟨r109, hr110, h⟩ := ob h
 refine J.op rfl (A.call (L1 := []) Try.call29 rfl (valid_bounds_az_ok fxa_2 fxa_3 fxa_4 fxa_5 fxa_6 hr110) rfl rfl) ?_
 rintro _ _ _ ⟨v115, _, rfl, ⟨⟨i111, i112, i113, i114, rfl, rfl, rfl⟩, rfl⟩, _, rfl⟩
 refine jal inf68 [ii 0, ii 0, ii 0, ii 0] rfl fun b118 => js [ii i111, ii i112, ii i113, ii i114] sz68 rfl rfl rfl rfl rfl rfl <| J.nil <| CJ.seq <| CJ.region <| jv _ (V.fad Try.underlying68 rfl nz66 rfl) <| jv (ii i111) (V.ld rfl (Ld.sc sc66 (Rd.cl 0 rfl rfl))) ?_
 refine jv (.bool (!decide (i111 = 0))) (V.neq rfl rfl) <| J.nil <| cc rfl h (fun hc119 h => ?_) fun hc119 h => ?_
 · refine CJ.seq <| CJ.region <| jv (.agg #[ii i111, ii i112, ii i113, ii i114]) (V.ld rfl (Ld.agg (cs := [ii i111, ii i112, ii i113, ii i114]) Try.underlying68 sz68 rfl (Rd.cls 0 0 rfl rfl))) <| J.front 3 rfl <| js [ii i111, ii i112, ii i113, ii i114] sz68 rfl rfl rfl rfl rfl rfl <| J.nil <| CJ.ret ?_
   obtain rfl := si h
   exact ⟨_, _, Res.one rfl ⟨_, _, rfl, Ld.agg (cs := [ii i111, ii i112, ii i113, ii i114]) Try.underlying68 sz68 rfl (Rd.cls 0 0 rfl rfl)⟩, ⟨i111, i112, i113, i114, rfl, rfl, rfl⟩, (Hp.le_refl _), fun w hs => (Sep.dropAt 0 rfl (Sep.dropAt 0 rfl (Sep.dropAt 0 rfl (Sep.dropAt 0 rfl (Sep.dropAt 0 rfl hs)))))⟩
 refine CJ.skip <| CJ.region <| jv (ii 2) (Val.eq (V.add rfl rfl) rfl) <| jm (ii 2) rfl <| J.nil <| RJ.next <| CJ.seq ?_
 refine CJ.region <| jv (.bool true) (Val.eq (V.lss rfl rfl) rfl) <| J.nil <| CJ.seq <| CJ.condK (b := true) rfl rfl <| CJ.skip <| CJ.seq ?_
 refine CJ.block <| CJ.seq <| CJ.region <| jv _ (Val.eq (V.iad Try.underlying75 sz69 rfl rfl rfl (by decide) (by decide)) rfl) <| jv (.func (.func 30) #[] #[]) (V.ld rfl (Ld.sc sc69 (Rd.cl 2 rfl rfl))) <| ja (.func (.func 30) #[] #[]) rfl <| J.nil ?_
 refine CJ.seq <| CJ.region <| jm (.func (.func 30) #[] #[]) rfl <| jv (.agg #[ii xa.1, ii xa.2.1, .slice adxa_2 xa.2.2.1.length cpxa_2, .slice adxa_3 xa.2.2.2.1.length cpxa_3, .slice adxa_4 xa.2.2.2.2.1.length cpxa_4, .slice adxa_5 xa.2.2.2.2.2.1.length cpxa_5, .slice adxa_6 xa.2.2.2.2.2.2.length cpxa_6]) (V.ld rfl (Ld.agg (cs := [ii xa.1, ii xa.2.1, .slice adxa_2 xa.2.2.1.length cpxa_2, .slice adxa_3 xa.2.2.2.1.length cpxa_3, .slice adxa_4 xa.2.2.2.2.1.length cpxa_4, .slice adxa_5 xa.2.2.2.2.2.1.length cpxa_5, .slice adxa_6 xa.2.2.2.2.2.2.length cpxa_6]) Try.underlying30 sz30 rfl (Rd.cls 4 0 rfl rfl))) <| jm (.pointer none) rfl ?_
 obtain ⟨r120, hr121, h⟩ := ob h
 refine J.op rfl (A.call (L1 := []) Try.call30 rfl (valid_locals_az_ok fxa_2 fxa_3 fxa_4 fxa_5 fxa_6 hr121) rfl rfl) ?_
 rintro _ _ _ ⟨v126, _, rfl, ⟨⟨i122, i123, i124, i125, rfl, rfl, rfl⟩, rfl⟩, _, rfl⟩
 refine jal inf68 [ii 0, ii 0, ii 0, ii 0] rfl fun b129 => js [ii i122, ii i123, ii i124, ii i125] sz68 rfl rfl rfl rfl rfl rfl <| J.nil <| CJ.seq <| CJ.region <| jv _ (V.fad Try.underlying68 rfl nz66 rfl) <| jv (ii i122) (V.ld rfl (Ld.sc sc66 (Rd.cl 0 rfl rfl))) ?_
 refine jv (.bool (!decide (i122 = 0))) (V.neq rfl rfl) <| J.nil <| cc rfl h (fun hc130 h => ?_) fun hc130 h => ?_
 · refine CJ.seq <| CJ.region <| jv (.agg #[ii i122, ii i123, ii i124, ii i125]) (V.ld rfl (Ld.agg (cs := [ii i122, ii i123, ii i124, ii i125]) Try.underlying68 sz68 rfl (Rd.cls 0 0 rfl rfl))) <| J.front 4 rfl <| js [ii i122, ii i123, ii i124, ii i125] sz68 rfl rfl rfl rfl rfl rfl <| J.nil <| CJ.ret ?_
   obtain rfl := si h
   exact ⟨_, _, Res.one rfl ⟨_, _, rfl, Ld.agg (cs := [ii i122, ii i123, ii i124, ii i125]) Try.underlying68 sz68 rfl (Rd.cls 0 0 rfl rfl)⟩, ⟨i122, i123, i124, i125, rfl, rfl, rfl⟩, (Hp.le_refl _), fun w hs => (Sep.dropAt 0 rfl (Sep.dropAt 0 rfl (Sep.dropAt 0 rfl (Sep.dropAt 0 rfl (Sep.dropAt 0 rfl (Sep.dropAt 0 rfl hs))))))⟩
 refine CJ.skip <| CJ.region <| jv (ii 3) (Val.eq (V.add rfl rfl) rfl) <| jm (ii 3) rfl <| J.nil <| RJ.next <| CJ.seq ?_
 refine CJ.region <| jv (.bool true) (Val.eq (V.lss rfl rfl) rfl) <| J.nil <| CJ.seq <| CJ.condK (b := true) rfl rfl <| CJ.skip <| CJ.seq ?_
 refine CJ.block <| CJ.seq <| CJ.region <| jv _ (Val.eq (V.iad Try.underlying75 sz69 rfl rfl rfl (by decide) (by decide)) rfl) <| jv (.func (.func 31) #[] #[]) (V.ld rfl (Ld.sc sc69 (Rd.cl 3 rfl rfl))) <| ja (.func (.func 31) #[] #[]) rfl <| J.nil ?_
 refine CJ.seq <| CJ.region <| jm (.func (.func 31) #[] #[]) rfl <| jv (.agg #[ii xa.1, ii xa.2.1, .slice adxa_2 xa.2.2.1.length cpxa_2, .slice adxa_3 xa.2.2.2.1.length cpxa_3, .slice adxa_4 xa.2.2.2.2.1.length cpxa_4, .slice adxa_5 xa.2.2.2.2.2.1.length cpxa_5, .slice adxa_6 xa.2.2.2.2.2.2.length cpxa_6]) (V.ld rfl (Ld.agg (cs := [ii xa.1, ii xa.2.1, .slice adxa_2 xa.2.2.1.length cpxa_2, .slice adxa_3 xa.2.2.2.1.length cpxa_3, .slice adxa_4 xa.2.2.2.2.1.length cpxa_4, .slice adxa_5 xa.2.2.2.2.2.1.length cpxa_5, .slice adxa_6 xa.2.2.2.2.2.2.length cpxa_6]) Try.underlying30 sz30 rfl (Rd.cls 5 0 rfl rfl))) <| jm (.pointer none) rfl ?_
 obtain ⟨r131, hr132, h⟩ := ob h
 refine J.op rfl (A.call (L1 := []) Try.call31 rfl (valid_ret_az_ok fxa_2 fxa_3 fxa_4 fxa_5 fxa_6 hr132) rfl rfl) ?_
 rintro _ _ _ ⟨v137, _, rfl, ⟨⟨i133, i134, i135, i136, rfl, rfl, rfl⟩, rfl⟩, _, rfl⟩
 refine jal inf68 [ii 0, ii 0, ii 0, ii 0] rfl fun b140 => js [ii i133, ii i134, ii i135, ii i136] sz68 rfl rfl rfl rfl rfl rfl <| J.nil <| CJ.seq <| CJ.region <| jv _ (V.fad Try.underlying68 rfl nz66 rfl) <| jv (ii i133) (V.ld rfl (Ld.sc sc66 (Rd.cl 0 rfl rfl))) ?_
 refine jv (.bool (!decide (i133 = 0))) (V.neq rfl rfl) <| J.nil <| cc rfl h (fun hc141 h => ?_) fun hc141 h => ?_
 · refine CJ.seq <| CJ.region <| jv (.agg #[ii i133, ii i134, ii i135, ii i136]) (V.ld rfl (Ld.agg (cs := [ii i133, ii i134, ii i135, ii i136]) Try.underlying68 sz68 rfl (Rd.cls 0 0 rfl rfl))) <| J.front 5 rfl <| js [ii i133, ii i134, ii i135, ii i136] sz68 rfl rfl rfl rfl rfl rfl <| J.nil <| CJ.ret ?_
   obtain rfl := si h
   exact ⟨_, _, Res.one rfl ⟨_, _, rfl, Ld.agg (cs := [ii i133, ii i134, ii i135, ii i136]) Try.underlying68 sz68 rfl (Rd.cls 0 0 rfl rfl)⟩, ⟨i133, i134, i135, i136, rfl, rfl, rfl⟩, (Hp.le_refl _), fun w hs => (Sep.dropAt 0 rfl (Sep.dropAt 0 rfl (Sep.dropAt 0 rfl (Sep.dropAt 0 rfl (Sep.dropAt 0 rfl (Sep.dropAt 0 rfl (Sep.dropAt 0 rfl hs)))))))⟩
 refine CJ.skip <| CJ.region <| jv (ii 4) (Val.eq (V.add rfl rfl) rfl) <| jm (ii 4) rfl <| J.nil <| RJ.next <| CJ.seq ?_
 refine CJ.region <| jv (.bool true) (Val.eq (V.lss rfl rfl) rfl) <| J.nil <| CJ.seq <| CJ.condK (b := true) rfl rfl <| CJ.skip <| CJ.seq ?_
 refine CJ.block <| CJ.seq <| CJ.region <| jv _ (Val.eq (V.iad Try.underlying75 sz69 rfl rfl rfl (by decide) (by decide)) rfl) <| jv (.func (.func 32) #[] #[]) (V.ld rfl (Ld.sc sc69 (Rd.cl 4 rfl rfl))) <| ja (.func (.func 32) #[] #[]) rfl <| J.nil ?_
 refine CJ.seq <| CJ.region <| jm (.func (.func 32) #[] #[]) rfl <| jv (.agg #[ii xa.1, ii xa.2.1, .slice adxa_2 xa.2.2.1.length cpxa_2, .slice adxa_3 xa.2.2.2.1.length cpxa_3, .slice adxa_4 xa.2.2.2.2.1.length cpxa_4, .slice adxa_5 xa.2.2.2.2.2.1.length cpxa_5, .slice adxa_6 xa.2.2.2.2.2.2.length cpxa_6]) (V.ld rfl (Ld.agg (cs := [ii xa.1, ii xa.2.1, .slice adxa_2 xa.2.2.1.length cpxa_2, .slice adxa_3 xa.2.2.2.1.length cpxa_3, .slice adxa_4 xa.2.2.2.2.1.length cpxa_4, .slice adxa_5 xa.2.2.2.2.2.1.length cpxa_5, .slice adxa_6 xa.2.2.2.2.2.2.length cpxa_6]) Try.underlying30 sz30 rfl (Rd.cls 6 0 rfl rfl))) <| jm (.pointer none) rfl ?_
 obtain ⟨r142, hr143, h⟩ := ob h
 refine J.op rfl (A.call (L1 := []) Try.call32 rfl (valid_sigs_az_ok fxa_2 fxa_3 fxa_4 fxa_5 fxa_6 hr143) rfl rfl) ?_
 rintro _ _ _ ⟨v148, _, rfl, ⟨⟨i144, i145, i146, i147, rfl, rfl, rfl⟩, rfl⟩, _, rfl⟩
 refine jal inf68 [ii 0, ii 0, ii 0, ii 0] rfl fun b151 => js [ii i144, ii i145, ii i146, ii i147] sz68 rfl rfl rfl rfl rfl rfl <| J.nil <| CJ.seq <| CJ.region <| jv _ (V.fad Try.underlying68 rfl nz66 rfl) <| jv (ii i144) (V.ld rfl (Ld.sc sc66 (Rd.cl 0 rfl rfl))) ?_
 refine jv (.bool (!decide (i144 = 0))) (V.neq rfl rfl) <| J.nil <| cc rfl h (fun hc152 h => ?_) fun hc152 h => ?_
 · refine CJ.seq <| CJ.region <| jv (.agg #[ii i144, ii i145, ii i146, ii i147]) (V.ld rfl (Ld.agg (cs := [ii i144, ii i145, ii i146, ii i147]) Try.underlying68 sz68 rfl (Rd.cls 0 0 rfl rfl))) <| J.front 6 rfl <| js [ii i144, ii i145, ii i146, ii i147] sz68 rfl rfl rfl rfl rfl rfl <| J.nil <| CJ.ret ?_
   obtain rfl := si h
   exact ⟨_, _, Res.one rfl ⟨_, _, rfl, Ld.agg (cs := [ii i144, ii i145, ii i146, ii i147]) Try.underlying68 sz68 rfl (Rd.cls 0 0 rfl rfl)⟩, ⟨i144, i145, i146, i147, rfl, rfl, rfl⟩, (Hp.le_refl _), fun w hs => (Sep.dropAt 0 rfl (Sep.dropAt 0 rfl (Sep.dropAt 0 rfl (Sep.dropAt 0 rfl (Sep.dropAt 0 rfl (Sep.dropAt 0 rfl (Sep.dropAt 0 rfl (Sep.dropAt 0 rfl hs))))))))⟩
 refine CJ.skip <| CJ.region <| jv (ii 5) (Val.eq (V.add rfl rfl) rfl) <| jm (ii 5) rfl <| J.nil <| RJ.next <| CJ.seq ?_
 refine CJ.region <| jv (.bool true) (Val.eq (V.lss rfl rfl) rfl) <| J.nil <| CJ.seq <| CJ.condK (b := true) rfl rfl <| CJ.skip <| CJ.seq ?_
 refine CJ.block <| CJ.seq <| CJ.region <| jv _ (Val.eq (V.iad Try.underlying75 sz69 rfl rfl rfl (by decide) (by decide)) rfl) <| jv (.func (.func 33) #[] #[]) (V.ld rfl (Ld.sc sc69 (Rd.cl 5 rfl rfl))) <| ja (.func (.func 33) #[] #[]) rfl <| J.nil ?_
 refine CJ.seq <| CJ.region <| jm (.func (.func 33) #[] #[]) rfl <| jv (.agg #[ii xa.1, ii xa.2.1, .slice adxa_2 xa.2.2.1.length cpxa_2, .slice adxa_3 xa.2.2.2.1.length cpxa_3, .slice adxa_4 xa.2.2.2.2.1.length cpxa_4, .slice adxa_5 xa.2.2.2.2.2.1.length cpxa_5, .slice adxa_6 xa.2.2.2.2.2.2.length cpxa_6]) (V.ld rfl (Ld.agg (cs := [ii xa.1, ii xa.2.1, .slice adxa_2 xa.2.2.1.length cpxa_2, .slice adxa_3 xa.2.2.2.1.length cpxa_3, .slice adxa_4 xa.2.2.2.2.1.length cpxa_4, .slice adxa_5 xa.2.2.2.2.2.1.length cpxa_5, .slice adxa_6 xa.2.2.2.2.2.2.length cpxa_6]) Try.underlying30 sz30 rfl (Rd.cls 7 0 rfl rfl))) <| jm (.pointer none) rfl ?_
 obtain ⟨r153, hr154, h⟩ := ob h
 refine J.op rfl (A.call (L1 := []) Try.call33 rfl (valid_blocks_az_ok fxa_2 fxa_3 fxa_4 fxa_5 fxa_6 hr154) rfl rfl) ?_
 rintro _ _ _ ⟨v159, _, rfl, ⟨⟨i155, i156, i157, i158, rfl, rfl, rfl⟩, rfl⟩, _, rfl⟩
 refine jal inf68 [ii 0, ii 0, ii 0, ii 0] rfl fun b162 => js [ii i155, ii i156, ii i157, ii i158] sz68 rfl rfl rfl rfl rfl rfl <| J.nil <| CJ.seq <| CJ.region <| jv _ (V.fad Try.underlying68 rfl nz66 rfl) <| jv (ii i155) (V.ld rfl (Ld.sc sc66 (Rd.cl 0 rfl rfl))) ?_
 refine jv (.bool (!decide (i155 = 0))) (V.neq rfl rfl) <| J.nil <| cc rfl h (fun hc163 h => ?_) fun hc163 h => ?_
 · refine CJ.seq <| CJ.region <| jv (.agg #[ii i155, ii i156, ii i157, ii i158]) (V.ld rfl (Ld.agg (cs := [ii i155, ii i156, ii i157, ii i158]) Try.underlying68 sz68 rfl (Rd.cls 0 0 rfl rfl))) <| J.front 7 rfl <| js [ii i155, ii i156, ii i157, ii i158] sz68 rfl rfl rfl rfl rfl rfl <| J.nil <| CJ.ret ?_
   obtain rfl := si h
   exact ⟨_, _, Res.one rfl ⟨_, _, rfl, Ld.agg (cs := [ii i155, ii i156, ii i157, ii i158]) Try.underlying68 sz68 rfl (Rd.cls 0 0 rfl rfl)⟩, ⟨i155, i156, i157, i158, rfl, rfl, rfl⟩, (Hp.le_refl _), fun w hs => (Sep.dropAt 0 rfl (Sep.dropAt 0 rfl (Sep.dropAt 0 rfl (Sep.dropAt 0 rfl (Sep.dropAt 0 rfl (Sep.dropAt 0 rfl (Sep.dropAt 0 rfl (Sep.dropAt 0 rfl (Sep.dropAt 0 rfl hs)))))))))⟩
 refine CJ.skip <| CJ.region <| jv (ii 6) (Val.eq (V.add rfl rfl) rfl) <| jm (ii 6) rfl <| J.nil <| RJ.next <| CJ.seq ?_
 refine CJ.region <| jv (.bool true) (Val.eq (V.lss rfl rfl) rfl) <| J.nil <| CJ.seq <| CJ.condK (b := true) rfl rfl <| CJ.skip <| CJ.seq ?_
 refine CJ.block <| CJ.seq <| CJ.region <| jv _ (Val.eq (V.iad Try.underlying75 sz69 rfl rfl rfl (by decide) (by decide)) rfl) <| jv (.func (.func 34) #[] #[]) (V.ld rfl (Ld.sc sc69 (Rd.cl 6 rfl rfl))) <| ja (.func (.func 34) #[] #[]) rfl <| J.nil ?_
 refine CJ.seq <| CJ.region <| jm (.func (.func 34) #[] #[]) rfl <| jv (.agg #[ii xa.1, ii xa.2.1, .slice adxa_2 xa.2.2.1.length cpxa_2, .slice adxa_3 xa.2.2.2.1.length cpxa_3, .slice adxa_4 xa.2.2.2.2.1.length cpxa_4, .slice adxa_5 xa.2.2.2.2.2.1.length cpxa_5, .slice adxa_6 xa.2.2.2.2.2.2.length cpxa_6]) (V.ld rfl (Ld.agg (cs := [ii xa.1, ii xa.2.1, .slice adxa_2 xa.2.2.1.length cpxa_2, .slice adxa_3 xa.2.2.2.1.length cpxa_3, .slice adxa_4 xa.2.2.2.2.1.length cpxa_4, .slice adxa_5 xa.2.2.2.2.2.1.length cpxa_5, .slice adxa_6 xa.2.2.2.2.2.2.length cpxa_6]) Try.underlying30 sz30 rfl (Rd.cls 8 0 rfl rfl))) <| jm (.pointer none) rfl ?_
 obtain ⟨r164, hr165, h⟩ := ob h
 refine J.op rfl (A.call (L1 := []) Try.call34 rfl (valid_code_az_ok fxa_2 fxa_3 fxa_4 fxa_5 fxa_6 hr165) rfl rfl) ?_
 rintro _ _ _ ⟨v170, _, rfl, ⟨⟨i166, i167, i168, i169, rfl, rfl, rfl⟩, rfl⟩, _, rfl⟩
 refine jal inf68 [ii 0, ii 0, ii 0, ii 0] rfl fun b173 => js [ii i166, ii i167, ii i168, ii i169] sz68 rfl rfl rfl rfl rfl rfl <| J.nil <| CJ.seq <| CJ.region <| jv _ (V.fad Try.underlying68 rfl nz66 rfl) <| jv (ii i166) (V.ld rfl (Ld.sc sc66 (Rd.cl 0 rfl rfl))) ?_
 refine jv (.bool (!decide (i166 = 0))) (V.neq rfl rfl) <| J.nil <| cc rfl h (fun hc174 h => ?_) fun hc174 h => ?_
 · refine CJ.seq <| CJ.region <| jv (.agg #[ii i166, ii i167, ii i168, ii i169]) (V.ld rfl (Ld.agg (cs := [ii i166, ii i167, ii i168, ii i169]) Try.underlying68 sz68 rfl (Rd.cls 0 0 rfl rfl))) <| J.front 8 rfl <| js [ii i166, ii i167, ii i168, ii i169] sz68 rfl rfl rfl rfl rfl rfl <| J.nil <| CJ.ret ?_
   obtain rfl := si h
   exact ⟨_, _, Res.one rfl ⟨_, _, rfl, Ld.agg (cs := [ii i166, ii i167, ii i168, ii i169]) Try.underlying68 sz68 rfl (Rd.cls 0 0 rfl rfl)⟩, ⟨i166, i167, i168, i169, rfl, rfl, rfl⟩, (Hp.le_refl _), fun w hs => (Sep.dropAt 0 rfl (Sep.dropAt 0 rfl (Sep.dropAt 0 rfl (Sep.dropAt 0 rfl (Sep.dropAt 0 rfl (Sep.dropAt 0 rfl (Sep.dropAt 0 rfl (Sep.dropAt 0 rfl (Sep.dropAt 0 rfl (Sep.dropAt 0 rfl hs))))))))))⟩
 refine CJ.skip <| CJ.region <| jv (ii 7) (Val.eq (V.add rfl rfl) rfl) <| jm (ii 7) rfl <| J.nil <| RJ.next <| CJ.seq ?_
 refine CJ.region <| jv (.bool false) (Val.eq (V.lss rfl rfl) rfl) <| J.nil <| CJ.seq <| CJ.condK (b := false) rfl rfl <| CJ.exit <| CJ.seq ?_
 refine CJ.region <| jv (.agg #[ii 0, ii 0, ii 0, ii 0]) (V.build inf68 places68 rfl rfl) <| J.front 8 rfl <| js [ii 0, ii 0, ii 0, ii 0] sz68 rfl rfl rfl rfl rfl rfl <| J.nil <| CJ.ret ?_
 obtain rfl := si h
 exact ⟨_, _, Res.one rfl ⟨_, _, rfl, Ld.agg (cs := [ii 0, ii 0, ii 0, ii 0]) Try.underlying68 sz68 rfl (Rd.cls 0 0 rfl rfl)⟩, ⟨0, 0, 0, 0, rfl, rfl, rfl⟩, (Hp.le_refl _), fun w hs => (Sep.dropAt 0 rfl (Sep.dropAt 0 rfl (Sep.dropAt 0 rfl (Sep.dropAt 0 rfl (Sep.dropAt 0 rfl (Sep.dropAt 0 rfl (Sep.dropAt 0 rfl (Sep.dropAt 0 rfl (Sep.dropAt 0 rfl (Sep.dropAt 0 rfl hs))))))))))⟩

noncomputable def fn_valid_OK (xa : (Int × Int × (List (Int × Int)) × (List (List (Int × Bool))) × (List (Int × Bool)) × (List (Int × (List (Int × Int)) × (List (List (Int × Bool))) × (List (Int × Bool)))) × (List ((List (Int × Int × Int × Int × Bool)) × (Int × Int × Int × (List Int) × (List Int) × (List Int)))))) : Option Bool :=
  (fn_valid_Check_az (xa.1, xa.2.1, xa.2.2.1, xa.2.2.2.1, xa.2.2.2.2.1, xa.2.2.2.2.2.1, xa.2.2.2.2.2.2)).bind fun (i15, i17, i18, i19) => some (decide (i15 = 0))
set_option maxRecDepth 100000 in
set_option maxHeartbeats 4000000 in
theorem valid_OK_ok {K : Hp} {xa : (Int × Int × (List (Int × Int)) × (List (List (Int × Bool))) × (List (Int × Bool)) × (List (Int × (List (Int × Int)) × (List (List (Int × Bool))) × (List (Int × Bool)))) × (List ((List (Int × Int × Int × Int × Bool)) × (Int × Int × Int × (List Int) × (List Int) × (List Int)))))} {adxa_2 : Option Addr} {cpxa_2 : Nat} {adxa_3 : Option Addr} {cpxa_3 : Nat} {adxa_4 : Option Addr} {cpxa_4 : Nat} {adxa_5 : Option Addr} {cpxa_5 : Nat} {adxa_6 : Option Addr} {cpxa_6 : Nat} (fxa_2 : Is K (.sl (.cons (.int .i64) (.one (.int .i64)))) [.slice adxa_2 xa.2.2.1.length cpxa_2] xa.2.2.1) (fxa_3 : Is K (.sl (.one (.sl (.cons (.int .i64) (.one .bool))))) [.slice adxa_3 xa.2.2.2.1.length cpxa_3] xa.2.2.2.1) (fxa_4 : Is K (.sl (.cons (.int .i64) (.one .bool))) [.slice adxa_4 xa.2.2.2.2.1.length cpxa_4] xa.2.2.2.2.1) (fxa_5 : Is K (.sl (.cons (.int .i64) (.cons (.sl (.cons (.int .i64) (.one (.int .i64)))) (.cons (.sl (.one (.sl (.cons (.int .i64) (.one .bool))))) (.one (.one (.sl (.cons (.int .i64) (.one .bool))))))))) [.slice adxa_5 xa.2.2.2.2.2.1.length cpxa_5] xa.2.2.2.2.2.1) (fxa_6 : Is K (.sl (.cons (.sl (.cons (.int .i64) (.cons (.int .i64) (.cons (.int .i64) (.cons (.int .i64) (.one .bool)))))) (.one (.cons (.int .i64) (.cons (.int .i64) (.cons (.int .i64) (.cons (.sl (.int .i64)) (.cons (.sl (.int .i64)) (.one (.sl (.int .i64))))))))))) [.slice adxa_6 xa.2.2.2.2.2.2.length cpxa_6] xa.2.2.2.2.2.2) {r : Bool} (h : fn_valid_OK xa = some r) :
    Tr Try.prog 19 #[.agg #[ii xa.1, ii xa.2.1, .slice adxa_2 xa.2.2.1.length cpxa_2, .slice adxa_3 xa.2.2.2.1.length cpxa_3, .slice adxa_4 xa.2.2.2.2.1.length cpxa_4, .slice adxa_5 xa.2.2.2.2.2.1.length cpxa_5, .slice adxa_6 xa.2.2.2.2.2.2.length cpxa_6]] K [] (fun v K' L' => (∃ (t11 : Bool), t11 = r ∧ .bool t11 = v ∧ L' = []) ∧ K = K') := by
 refine Tr.k <| Tr.of Try.func19 rfl Try.ntmps19 rfl fun E F => ?_
 unfold fn_valid_OK at h
 refine CJ.seq <| CJ.region <| jbx [ii xa.1, ii xa.2.1, .slice adxa_2 xa.2.2.1.length cpxa_2, .slice adxa_3 xa.2.2.2.1.length cpxa_3, .slice adxa_4 xa.2.2.2.2.1.length cpxa_4, .slice adxa_5 xa.2.2.2.2.2.1.length cpxa_5, .slice adxa_6 xa.2.2.2.2.2.2.length cpxa_6] rfl rfl fun b12 => ja (.bool false) rfl <| J.nil <| CJ.seq <| CJ.region ?_
 refine jv (.agg #[ii xa.1, ii xa.2.1, .slice adxa_2 xa.2.2.1.length cpxa_2, .slice adxa_3 xa.2.2.2.1.length cpxa_3, .slice adxa_4 xa.2.2.2.2.1.length cpxa_4, .slice adxa_5 xa.2.2.2.2.2.1.length cpxa_5, .slice adxa_6 xa.2.2.2.2.2.2.length cpxa_6]) (V.ld rfl (Ld.agg (cs := [ii xa.1, ii xa.2.1, .slice adxa_2 xa.2.2.1.length cpxa_2, .slice adxa_3 xa.2.2.2.1.length cpxa_3, .slice adxa_4 xa.2.2.2.2.1.length cpxa_4, .slice adxa_5 xa.2.2.2.2.2.1.length cpxa_5, .slice adxa_6 xa.2.2.2.2.2.2.length cpxa_6]) Try.underlying30 sz30 rfl (Rd.cls 0 0 rfl rfl))) ?_
 obtain ⟨r13, hr14, h⟩ := ob h
 refine J.op rfl (A.call (L1 := []) Try.call25 rfl (valid_Check_az_ok fxa_2 fxa_3 fxa_4 fxa_5 fxa_6 hr14) rfl rfl) ?_
 rintro _ _ _ ⟨v20, _, rfl, ⟨⟨i15, i17, i18, i19, rfl, rfl, rfl⟩, rfl⟩, _, rfl⟩
 refine jv (ii i15) (V.fld (ft := 0) Try.underlying68 rfl (Ld0.sc sc66 rfl) rfl) <| jv (.bool (decide (i15 = 0))) (V.eql rfl rfl) <| ja (.bool (decide (i15 = 0))) rfl <| J.nil <| CJ.ret ?_
 obtain rfl := si h
 exact ⟨_, _, Res.one rfl rfl, ⟨decide (i15 = 0), rfl, rfl, rfl⟩, (Hp.le_refl _), fun w hs => (Sep.dropAt 0 rfl hs)⟩
noncomputable def fn_point_New_l1 (xa : (Int × Int × (List (Int × Int)) × (List (List (Int × Bool))) × (List (Int × Bool)) × (List (Int × (List (Int × Int)) × (List (List (Int × Bool))) × (List (Int × Bool)))) × (List ((List (Int × Int × Int × Int × Bool)) × (Int × Int × Int × (List Int) × (List Int) × (List Int)))))) : (Int × (List Int) × Int) → Option ((Int × (List Int) × Int) ⊕ ((List Int) × Int)) := fun ((i603, l604, i609) : (Int × (List Int) × Int)) => cond (decide (i603 < (((xa.2.2.2.2.2.2.length : Nat) : Int)))) ((getI xa.2.2.2.2.2.2 i603).bind fun x668 => (app l604 ([i609] : List Int)).bind fun z706 => some (.inl ((IntKind.wrap .i64 (i603 + 1), z706, IntKind.wrap .i64 (i609 + (IntKind.wrap .i64 ((((x668.1.length : Nat) : Int)) + 1))))))) (some (.inr (((l604, i609)))))
noncomputable def fn_point_New (xa : (Int × Int × (List (Int × Int)) × (List (List (Int × Bool))) × (List (Int × Bool)) × (List (Int × (List (Int × Int)) × (List (List (Int × Bool))) × (List (Int × Bool)))) × (List ((List (Int × Int × Int × Int × Bool)) × (Int × Int × Int × (List Int) × (List Int) × (List Int)))))) : Option ((Option ((List Int) × Int))) :=
  (fn_valid_OK (xa.1, xa.2.1, xa.2.2.1, xa.2.2.2.1, xa.2.2.2.2.1, xa.2.2.2.2.2.1, xa.2.2.2.2.2.2)).bind fun t366 => cond (!t366) (some ((some ([], 0)))) ((loop (fn_point_New_l1 xa) (0, [], 0) : Option (((List Int) × Int))).bind fun (l539, i544) => some ((some (l539, i544))))
set_option maxRecDepth 100000 in
set_option maxHeartbeats 4000000 in
theorem point_New_ok {K : Hp} {xa : (Int × Int × (List (Int × Int)) × (List (List (Int × Bool))) × (List (Int × Bool)) × (List (Int × (List (Int × Int)) × (List (List (Int × Bool))) × (List (Int × Bool)))) × (List ((List (Int × Int × Int × Int × Bool)) × (Int × Int × Int × (List Int) × (List Int) × (List Int)))))} {adxa_2 : Option Addr} {cpxa_2 : Nat} {adxa_3 : Option Addr} {cpxa_3 : Nat} {adxa_4 : Option Addr} {cpxa_4 : Nat} {adxa_5 : Option Addr} {cpxa_5 : Nat} {adxa_6 : Option Addr} {cpxa_6 : Nat} (fxa_2 : Is K (.sl (.cons (.int .i64) (.one (.int .i64)))) [.slice adxa_2 xa.2.2.1.length cpxa_2] xa.2.2.1) (fxa_3 : Is K (.sl (.one (.sl (.cons (.int .i64) (.one .bool))))) [.slice adxa_3 xa.2.2.2.1.length cpxa_3] xa.2.2.2.1) (fxa_4 : Is K (.sl (.cons (.int .i64) (.one .bool))) [.slice adxa_4 xa.2.2.2.2.1.length cpxa_4] xa.2.2.2.2.1) (fxa_5 : Is K (.sl (.cons (.int .i64) (.cons (.sl (.cons (.int .i64) (.one (.int .i64)))) (.cons (.sl (.one (.sl (.cons (.int .i64) (.one .bool))))) (.one (.one (.sl (.cons (.int .i64) (.one .bool))))))))) [.slice adxa_5 xa.2.2.2.2.2.1.length cpxa_5] xa.2.2.2.2.2.1) (fxa_6 : Is K (.sl (.cons (.sl (.cons (.int .i64) (.cons (.int .i64) (.cons (.int .i64) (.cons (.int .i64) (.one .bool)))))) (.one (.cons (.int .i64) (.cons (.int .i64) (.cons (.int .i64) (.cons (.sl (.int .i64)) (.cons (.sl (.int .i64)) (.one (.sl (.int .i64))))))))))) [.slice adxa_6 xa.2.2.2.2.2.2.length cpxa_6] xa.2.2.2.2.2.2) {r : (Option ((List Int) × Int))} (h : fn_point_New xa = some r) :
    Tr Try.prog 7 #[.agg #[ii xa.1, ii xa.2.1, .slice adxa_2 xa.2.2.1.length cpxa_2, .slice adxa_3 xa.2.2.2.1.length cpxa_3, .slice adxa_4 xa.2.2.2.2.1.length cpxa_4, .slice adxa_5 xa.2.2.2.2.2.1.length cpxa_5, .slice adxa_6 xa.2.2.2.2.2.2.length cpxa_6]] K [] (fun v K' L' => (∃ (p359 : (Option ((List Int) × Int))) (v360 : Value), p359 = r ∧ v360 = v ∧ Is K' (.ptr (.cons (.sl (.int .i64)) (.one (.int .i64)))) [v360] p359 ∧ L' = [])) := by
 refine Tr.of Try.func7 rfl Try.ntmps7 rfl fun E F => ?_
 unfold fn_point_New at h
 refine CJ.seq <| CJ.region <| jbx [ii xa.1, ii xa.2.1, .slice adxa_2 xa.2.2.1.length cpxa_2, .slice adxa_3 xa.2.2.2.1.length cpxa_3, .slice adxa_4 xa.2.2.2.2.1.length cpxa_4, .slice adxa_5 xa.2.2.2.2.2.1.length cpxa_5, .slice adxa_6 xa.2.2.2.2.2.2.length cpxa_6] rfl rfl fun b362 => ja (.pointer none) rfl <| J.nil <| CJ.seq <| CJ.region ?_
 refine jv (.agg #[.slice none 0 0, ii 0]) (V.build inf62 places62 rfl rfl) <| jbx [.slice none 0 0, ii 0] rfl rfl fun b363 => ja _ rfl <| J.nil <| CJ.seq <| CJ.seq <| CJ.region ?_
 refine jv (.agg #[ii xa.1, ii xa.2.1, .slice adxa_2 xa.2.2.1.length cpxa_2, .slice adxa_3 xa.2.2.2.1.length cpxa_3, .slice adxa_4 xa.2.2.2.2.1.length cpxa_4, .slice adxa_5 xa.2.2.2.2.2.1.length cpxa_5, .slice adxa_6 xa.2.2.2.2.2.2.length cpxa_6]) (V.ld rfl (Ld.agg (cs := [ii xa.1, ii xa.2.1, .slice adxa_2 xa.2.2.1.length cpxa_2, .slice adxa_3 xa.2.2.2.1.length cpxa_3, .slice adxa_4 xa.2.2.2.2.1.length cpxa_4, .slice adxa_5 xa.2.2.2.2.2.1.length cpxa_5, .slice adxa_6 xa.2.2.2.2.2.2.length cpxa_6]) Try.underlying30 sz30 rfl (Rd.cls 1 0 rfl rfl))) ?_
 obtain ⟨r364, hr365, h⟩ := ob h
 refine J.op rfl (A.call (L1 := []) Try.call19 rfl (valid_OK_ok fxa_2 fxa_3 fxa_4 fxa_5 fxa_6 hr365) rfl rfl) ?_
 rintro _ _ _ ⟨v367, _, rfl, ⟨⟨t366, rfl, rfl, rfl⟩, rfl⟩, _, rfl⟩
 refine jv (.bool (!t366)) (V.not rfl) <| J.nil <| cc rfl h (fun hc370 h => ?_) fun hc370 h => ?_
 · refine CJ.seq <| CJ.region <| jm _ rfl <| ja _ rfl <| J.nil <| CJ.persistAt (t := (.cons (.sl (.int .i64)) (.one (.int .i64)))) (x := ([], 0)) ⟨_, _, rfl, rfl, (isNil (K := K) (t := (.int .i64))), rfl⟩ fun K371 hK372 a373 => CJ.ret ?_
   obtain rfl := si h
   exact ⟨_, _, Res.one rfl rfl, ⟨(some ([], 0)), .pointer (some ⟨b363, 0, none⟩), rfl, rfl, (At.is_ptr a373), rfl⟩, hK372, fun w hs => (Sep.dropAt 0 rfl hs)⟩
 refine CJ.skip <| CJ.seq <| CJ.seq <| CJ.region <| jv _ (V.fad Try.underlying30 rfl nz28 rfl) <| jv (.slice adxa_6 xa.2.2.2.2.2.2.length cpxa_6) (V.ld rfl (Ld.sc sc28 (Rd.cl 1 rfl rfl))) <| jv (ii (((xa.2.2.2.2.2.2.length : Nat) : Int))) (V.len Try.underlying28 rfl) ?_
 refine jm (ii 0) rfl <| J.nil ?_
 obtain ⟨o545, ho546, h⟩ := ob h
 refine CJ.meetN (fun ρ K' L' => ∃ (l539 : (List Int)) (i544 : Int) (ad540 : Option Addr) (cp541 : Nat), (l539, i544) = o545 ∧ Fits [(3, .pointer (some ⟨b363, 0, none⟩))] ρ ∧ K = K' ∧ L' = Cl b363 62 [.slice ad540 l539.length cp541, ii i544] :: Row Hp.nil 3 (.int .i64) (.slice ad540 l539.length cp541) l539 :: F) ?_ ?_
 · refine CJ.block <| CJ.by (fun w hs => Sep.rowNil (e := 3) (t := (.int .i64)) hs) <| CJ.dropAt 2 rfl <| CJ.front 1 rfl <| CJ.loop (fun s ρ K' L' => ∃ (i603 : Int) (l604 : (List Int)) (i609 : Int) (ad605 : Option Addr) (cp606 : Nat), (i603, l604, i609) = s ∧ Fits [(3, .pointer (some ⟨b363, 0, none⟩)), (13, .slice adxa_6 xa.2.2.2.2.2.2.length cpxa_6), (14, ii (((xa.2.2.2.2.2.2.length : Nat) : Int))), (15, ii i603)] ρ ∧ K = K' ∧ L' = Cl b363 62 [.slice ad605 l604.length cp606, ii i609] :: Row Hp.nil 3 (.int .i64) (.slice ad605 l604.length cp606) l604 :: F) ho546 ⟨0, [], 0, none, 0, rfl, ⟨rfl, rfl, rfl, rfl, trivial⟩, rfl, rfl⟩ ?_
   rintro s ρ _ _ r666 ⟨i603, l604, i609, ad605, cp606, rfl, hf664, rfl, rfl⟩ h662
   obtain ⟨ρ, rfl⟩ := hf664.ex
   refine CJ.front 1 rfl <| CJ.wit Row.hn fun hn608 => CJ.seq <| CJ.region <| jv (.bool (decide (i603 < (((xa.2.2.2.2.2.2.length : Nat) : Int))))) (V.lss rfl rfl) <| J.nil <| CJ.seq ?_
   refine cc rfl h662 (fun hc667 h662 => ?_) fun hc667 h662 => ?_
   · refine CJ.skip <| CJ.seq <| CJ.block <| CJ.seq <| CJ.region ?_
     obtain ⟨x668, hx669, h662⟩ := ob h662
     obtain ⟨p670, p671, p672⟩ := getI_some hx669
     obtain ⟨b673, o674, e675, a676⟩ := (fxa_6).at p671
     refine jv _ (V.iad Try.underlying28 sz58 rfl e675 rfl p670 p672) ?_
     obtain ⟨ad677, cp678, c679, f680⟩ := ((a676).fst).sl
     obtain ⟨ad681, cp682, c683, f684⟩ := (((((((a676).snd).one).snd).snd).snd).fst).sl
     obtain ⟨ad685, cp686, c687, f688⟩ := ((((((((a676).snd).one).snd).snd).snd).snd).fst).sl
     obtain ⟨ad689, cp690, c691, f692⟩ := (((((((((a676).snd).one).snd).snd).snd).snd).snd).one).sl
     refine jv (.agg #[.slice ad677 x668.1.length cp678, ii x668.2.1, ii x668.2.2.1, ii x668.2.2.2.1, .slice ad681 x668.2.2.2.2.1.length cp682, .slice ad685 x668.2.2.2.2.2.1.length cp686, .slice ad689 x668.2.2.2.2.2.2.length cp690]) (V.ld rfl (Ld.aggK (cs := [.slice ad677 x668.1.length cp678, ii x668.2.1, ii x668.2.2.1, ii x668.2.2.2.1, .slice ad681 x668.2.2.2.2.1.length cp682, .slice ad685 x668.2.2.2.2.2.1.length cp686, .slice ad689 x668.2.2.2.2.2.2.length cp690]) Try.underlying58 sz58 rfl ⟨c679, ((((a676).snd).one).fst).int, (((((a676).snd).one).snd).fst).int, ((((((a676).snd).one).snd).snd).fst).int, c683, c687, c691, trivial⟩ (Hp.le_refl _))) <| jal inf58 [.slice none 0 0, ii 0, ii 0, ii 0, .slice none 0 0, .slice none 0 0, .slice none 0 0] rfl fun b693 => js [.slice ad677 x668.1.length cp678, ii x668.2.1, ii x668.2.2.1, ii x668.2.2.2.1, .slice ad681 x668.2.2.2.2.1.length cp682, .slice ad685 x668.2.2.2.2.2.1.length cp686, .slice ad689 x668.2.2.2.2.2.2.length cp690] sz58 rfl rfl rfl rfl rfl rfl <| J.nil <| CJ.seq <| CJ.mix [Cl b693 58 [.slice ad677 x668.1.length cp678, ii x668.2.1, ii x668.2.2.1, ii x668.2.2.2.1, .slice ad681 x668.2.2.2.2.1.length cp682, .slice ad685 x668.2.2.2.2.2.1.length cp686, .slice ad689 x668.2.2.2.2.2.2.length cp690], Cl b363 62 [.slice ad605 l604.length cp606, ii i609]] [([0, 1, 2, 3, 4, 5, 6, 7, 8], 9), ([], 10)] [11, 12] [13] mixO (by decide +kernel) ⟨0, rfl, 1, rfl, trivial⟩ rfl rfl rfl <| JM.cons ?_
     refine qm _ rfl <| qm _ rfl <| qv _ (V.nck rfl) <| qv _ (V.fad Try.underlying62 rfl nz37 rfl) <| qv (.slice ad605 l604.length cp606) (V.ld rfl (Ld.sc sc37 (Rd.cl 1 rfl rfl))) <| qm _ rfl <| qv _ (V.nck rfl) ?_
     refine qv _ (V.fad Try.underlying62 rfl nz3 rfl) <| qv (ii i609) (V.ld rfl (Ld.sc sc3 (Rd.cl 1 rfl rfl))) <| JQ.nil ?_
     refine JA.op rfl (A.lit (K0 := Hp.nil) (ty := (.int .i64)) (xs := ([i609] : List Int)) Try.underlying37 inf3 rfl (by decide) rfl rfl rfl ⟨_, _, rfl, rfl, rfl⟩ rfl (by decide)) ?_
     rintro _ _ _ ⟨b703, rfl, rfl, rfl⟩
     have hn704 : ([i609] : List Int) ≠ [] → ∃ g, (some ⟨b703, 0, none⟩ : Option Addr) = some ⟨g, 0, none⟩ := fun _ => ⟨b703, rfl⟩
     refine ⟨fun w hs => Hold.sub (Hp.le_refl _) ⟨1, rfl, 2, rfl, trivial⟩ hs, ?_⟩
     refine JM.cons <| JQ.nil ?_
     obtain ⟨z706, hz707, h662⟩ := ob h662
     refine JA.front 2 rfl <| JA.op rfl (A.appR (Kr := Hp.nil) Try.underlying37 inf3 rfl rfl (by decide) (by decide) rfl rfl (Els.flat rfl) (Els.flat rfl) hz707) ?_
     rintro _ _ _ ⟨v708, rfl, rfl, rfl⟩
     refine ⟨fun w hs => Hold.sub (Hp.le_refl _) ⟨1, rfl, 1, rfl, trivial⟩ hs, ?_⟩
     refine JM.wit Row.form ?_
     rintro ⟨ad709, cp710, rfl, _, _, hn711⟩
     refine JM.nil <| qv _ (V.nck rfl) <| qv _ (V.fad Try.underlying62 rfl nz37 rfl) <| JQ.nil <| J.front 2 rfl <| js1 [.slice ad709 z706.length cp710, ii i609] sz37 rfl rfl rfl rfl rfl rfl <| J.nil ?_
     refine CJ.mix [Cl b363 62 [.slice ad709 z706.length cp710, ii i609], Row Hp.nil 3 (.int .i64) (.slice ad709 z706.length cp710) z706, Cl b693 58 [.slice ad677 x668.1.length cp678, ii x668.2.1, ii x668.2.2.1, ii x668.2.2.2.1, .slice ad681 x668.2.2.2.2.1.length cp682, .slice ad685 x668.2.2.2.2.2.1.length cp686, .slice ad689 x668.2.2.2.2.2.2.length cp690]] [] [0, 1, 2, 3, 4, 5, 6, 7, 8, 9, 10] [11] mixO (by decide +kernel) ⟨0, rfl, 0, rfl, 0, rfl, trivial⟩ rfl rfl rfl <| JM.nil <| qm _ rfl <| qv _ (V.nck rfl) <| qv _ (V.fad Try.underlying62 rfl nz3 rfl) <| qv (ii i609) (V.ld rfl (Ld.sc sc3 (Rd.cl 0 rfl rfl))) <| qv _ (V.fad Try.underlying58 rfl nz54 rfl) ?_
     refine qv (.slice ad677 x668.1.length cp678) (V.ld rfl (Ld.sc sc54 (Rd.cl 2 rfl rfl))) <| qv (ii (((x668.1.length : Nat) : Int))) (V.len Try.underlying54 rfl) <| qv (ii (IntKind.wrap .i64 ((((x668.1.length : Nat) : Int)) + 1))) (V.add rfl rfl) <| qv (ii (IntKind.wrap .i64 (i609 + (IntKind.wrap .i64 ((((x668.1.length : Nat) : Int)) + 1))))) (V.add rfl rfl) <| qv _ (V.nck rfl) <| qv _ (V.fad Try.underlying62 rfl nz3 rfl) <| JQ.nil ?_
     refine js1 [.slice ad709 z706.length cp710, ii (IntKind.wrap .i64 (i609 + (IntKind.wrap .i64 ((((x668.1.length : Nat) : Int)) + 1))))] sz3 rfl rfl rfl rfl rfl rfl <| J.nil <| CJ.region <| jv (ii (IntKind.wrap .i64 (i603 + 1))) (V.add rfl rfl) <| jm (ii (IntKind.wrap .i64 (i603 + 1))) rfl <| J.dropAt 2 rfl <| J.nil ?_
     obtain rfl := si h662
     exact ⟨rfl, ⟨IntKind.wrap .i64 (i603 + 1), z706, IntKind.wrap .i64 (i609 + (IntKind.wrap .i64 ((((x668.1.length : Nat) : Int)) + 1))), ad709, cp710, rfl, ⟨rfl, rfl, rfl, rfl, trivial⟩, rfl, rfl⟩⟩
   refine CJ.front 1 rfl <| CJ.exit ?_
   obtain rfl := si h662
   refine ⟨nofun, fun e => ?_⟩
   subst e
   exact ⟨rfl, ⟨l604, i609, ad605, cp606, rfl, ⟨rfl, trivial⟩, rfl, rfl⟩⟩
 rintro ρ _ _ ⟨l539, i544, ad540, cp541, rfl, hf712, rfl, rfl⟩
 obtain ⟨ρ, rfl⟩ := hf712.ex
 refine PJ.front 1 rfl <| PJ.wit Row.hn fun hn543 => PJ.done <| CJ.seq <| CJ.region <| jm _ rfl <| ja _ rfl ?_
 refine J.nil <| CJ.persist (Hp.nil_le _) (by decide) fun K714 hK715 f716 => CJ.persistAt (t := (.cons (.sl (.int .i64)) (.one (.int .i64)))) (x := (l539, i544)) ⟨_, _, rfl, rfl, f716, rfl⟩ fun K717 hK718 a719 => CJ.ret ?_
 obtain rfl := si h
 exact ⟨_, _, Res.one rfl rfl, ⟨(some (l539, i544)), .pointer (some ⟨b363, 0, none⟩), rfl, rfl, (At.is_ptr a719), rfl⟩, (hK715.trans hK718), fun w hs => hs⟩

noncomputable def fn_point_Points_Len (xa : (Option ((List Int) × Int))) : Option Int :=
  cond (xa.isNone) (some (0)) ((xa : Option ((List Int) × Int)).bind fun y11 => some (y11.2))
set_option maxRecDepth 100000 in
set_option maxHeartbeats 4000000 in
theorem point_Points_Len_ok {K : Hp} {xa : (Option ((List Int) × Int))} {vxa_0 : Value} (fxa_0 : Is K (.ptr (.cons (.sl (.int .i64)) (.one (.int .i64)))) [vxa_0] xa) {r : Int} (h : fn_point_Points_Len xa = some r) :
    Tr Try.prog 11 #[vxa_0] K [] (fun v K' L' => (∃ (i9 : Int), i9 = r ∧ ii i9 = v ∧ L' = []) ∧ K = K') := by
 refine Tr.k <| Tr.of Try.func11 rfl Try.ntmps11 rfl fun E F => ?_
 unfold fn_point_Points_Len at h
 refine CJ.seq <| CJ.region <| ja (ii 0) rfl <| J.nil <| CJ.seq <| CJ.seq <| CJ.region ?_
 refine jm vxa_0 rfl <| jv (.bool xa.isNone) (V.kp_eql Try.underlying33 fxa_0 rfl rfl) <| J.nil <| cc rfl h (fun hc10 h => ?_) fun hc10 h => ?_
 · refine CJ.seq <| CJ.region <| ja (ii 0) rfl <| J.nil <| CJ.ret ?_
   obtain rfl := si h
   exact ⟨_, _, Res.one rfl rfl, ⟨0, rfl, rfl, rfl⟩, (Hp.le_refl _), fun w hs => hs⟩
 refine CJ.skip <| CJ.seq <| CJ.region <| jm vxa_0 rfl ?_
 obtain ⟨y11, hy12, h⟩ := ob h
 obtain ⟨b13, o14, hv15, a16⟩ := Is.psome fxa_0 hy12
 refine jv _ (V.nck hv15) <| jv _ (V.fad Try.underlying62 rfl nz3 rfl) <| jv (ii y11.2) (V.ld rfl (Ld.sc sc3 (Rd.k (((a16).snd).one).int (Hp.le_refl _)))) <| ja (ii y11.2) rfl <| J.nil <| CJ.ret ?_
 obtain rfl := si h
 exact ⟨_, _, Res.one rfl rfl, ⟨y11.2, rfl, rfl, rfl⟩, (Hp.le_refl _), fun w hs => hs⟩

noncomputable def fn_point_Points_At_1_ip0p1_kp_i (xa : Int) (qa0 : (Option ((List Int) × Int))) (qb0 : Int) : Option Bool :=
  (qa0 : Option ((List Int) × Int)).bind fun y59 => (getI y59.1 xa).bind fun x69 => some (decide (qb0 < x69))
set_option maxRecDepth 100000 in
set_option maxHeartbeats 4000000 in
theorem point_Points_At_1_ip0p1_kp_i_ok {K : Hp} {xa : Int} {qa0 : (Option ((List Int) × Int))} {qb0 : Int} {pba : Nat} {pbb : Nat} {vqa0 : Value} (fqa0 : Is K (.ptr (.cons (.sl (.int .i64)) (.one (.int .i64)))) [vqa0] qa0) {r : Bool} (h : fn_point_Points_At_1_ip0p1_kp_i xa qa0 qb0 = some r) :
    Tr Try.prog 24 #[ii xa, .pointer (some ⟨pba, 0, none⟩), .pointer (some ⟨pbb, 0, none⟩)] K [Cl pba 33 [vqa0], Cl pbb 3 [ii qb0]] (fun v K' L' => (∃ (t39 : Bool), t39 = r ∧ .bool t39 = v ∧ L' = [Cl pba 33 [vqa0], Cl pbb 3 [ii qb0]]) ∧ K = K') := by
 refine Tr.k <| Tr.of Try.func24 rfl Try.ntmps24 rfl fun E F => ?_
 unfold fn_point_Points_At_1_ip0p1_kp_i at h
 refine CJ.seq <| CJ.region <| ja (.bool false) rfl <| J.nil <| CJ.seq <| CJ.mix [Cl pba 33 [vqa0], Cl pbb 3 [ii qb0]] [] [0, 1, 2, 3, 4, 5, 6, 7, 8, 9] [] mixO (by decide +kernel) ⟨0, rfl, 0, rfl, trivial⟩ rfl rfl rfl <| JM.nil ?_
 refine qv vqa0 (V.ld rfl (Ld.sc sc33 (Rd.cl 0 rfl rfl))) ?_
 obtain ⟨y59, hy60, h⟩ := ob h
 obtain ⟨b61, o62, hv63, a64⟩ := Is.psome fqa0 hy60
 refine qv _ (V.nck hv63) <| qv _ (V.fad Try.underlying62 rfl nz37 rfl) ?_
 obtain ⟨ad65, cp66, c67, f68⟩ := ((a64).fst).sl
 refine qv (.slice ad65 y59.1.length cp66) (V.ld rfl (Ld.sc sc37 (Rd.k c67 (Hp.le_refl _)))) <| qm (ii xa) rfl ?_
 obtain ⟨x69, hx70, h⟩ := ob h
 obtain ⟨p71, p72, p73⟩ := getI_some hx70
 obtain ⟨b74, o75, e76, a77⟩ := (f68).at p72
 refine qv _ (V.iad Try.underlying37 sz3 rfl e76 rfl p71 p73) <| qv (ii x69) (V.ld rfl (Ld.sc sc3 (Rd.k (a77).int (Hp.le_refl _)))) <| qv (ii qb0) (V.ld rfl (Ld.sc sc3 (Rd.cl 1 rfl rfl))) <| qv (.bool (decide (qb0 < x69))) (V.gtr rfl rfl) <| qa (.bool (decide (qb0 < x69))) rfl <| JQ.nil <| J.nil ?_
 refine CJ.ret ?_
 obtain rfl := si h
 exact ⟨_, _, Res.one rfl rfl, ⟨decide (qb0 < x69), rfl, rfl, rfl⟩, (Hp.le_refl _), fun w hs => hs⟩
noncomputable def fn_sort_Search_i_point_Points_At_1_p0p1_kp_i_l1 (qa0 : (Option ((List Int) × Int))) (qb0 : Int) : (Int × Int) → Option ((Int × Int) ⊕ Int) := fun ((i122, i123) : (Int × Int)) => cond (decide (i122 < i123)) ((fn_point_Points_At_1_ip0p1_kp_i (IntKind.wrap .i64 (Int.fdiv (IntKind.wrap .u64 (IntKind.wrap .i64 (i122 + i123))) (2 ^ (min (Int.toNat 1) (IntKind.bits .u64))))) qa0 qb0).bind fun t141 => cond (!t141) (some (.inl ((IntKind.wrap .i64 ((IntKind.wrap .i64 (Int.fdiv (IntKind.wrap .u64 (IntKind.wrap .i64 (i122 + i123))) (2 ^ (min (Int.toNat 1) (IntKind.bits .u64))))) + 1), i123)))) (some (.inl ((i122, IntKind.wrap .i64 (Int.fdiv (IntKind.wrap .u64 (IntKind.wrap .i64 (i122 + i123))) (2 ^ (min (Int.toNat 1) (IntKind.bits .u64))))))))) (some (.inr (i122)))
noncomputable def fn_sort_Search_i_point_Points_At_1_p0p1_kp_i (xa : Int) (qa0 : (Option ((List Int) × Int))) (qb0 : Int) : Option Int :=
  (loop (fn_sort_Search_i_point_Points_At_1_p0p1_kp_i_l1 qa0 qb0) (0, xa) : Option Int).bind fun i109 => some (i109)
set_option maxRecDepth 100000 in
set_option maxHeartbeats 4000000 in
theorem sort_Search_i_point_Points_At_1_p0p1_kp_i_ok {K : Hp} {xa : Int} {qa0 : (Option ((List Int) × Int))} {qb0 : Int} {pba : Nat} {pbb : Nat} {vqa0 : Value} (fqa0 : Is K (.ptr (.cons (.sl (.int .i64)) (.one (.int .i64)))) [vqa0] qa0) {r : Int} (h : fn_sort_Search_i_point_Points_At_1_p0p1_kp_i xa qa0 qb0 = some r) :
    Tr Try.prog 23 #[ii xa, .func (.func 24) #[] #[.pointer (some ⟨pba, 0, none⟩), .pointer (some ⟨pbb, 0, none⟩)]] K [Cl pba 33 [vqa0], Cl pbb 3 [ii qb0]] (fun v K' L' => (∃ (i74 : Int), i74 = r ∧ ii i74 = v ∧ L' = [Cl pba 33 [vqa0], Cl pbb 3 [ii qb0]]) ∧ K = K') := by
 refine Tr.k <| Tr.of Try.func23 rfl Try.ntmps23 rfl fun E F => ?_
 unfold fn_sort_Search_i_point_Points_At_1_p0p1_kp_i at h
 refine CJ.seq <| CJ.region <| ja (ii 0) rfl <| J.nil <| CJ.seq <| CJ.region <| jm (ii xa) rfl ?_
 refine ja (ii 0) rfl <| ja (ii xa) rfl <| J.nil <| CJ.seq ?_
 obtain ⟨o110, ho111, h⟩ := ob h
 refine CJ.meetN (fun ρ K' L' => ∃ (i109 : Int), i109 = o110 ∧ Fits [(5, ii i109)] ρ ∧ K = K' ∧ L' = Cl pba 33 [vqa0] :: Cl pbb 3 [ii qb0] :: F) ?_ ?_
 · refine CJ.block <| CJ.loop (fun s ρ K' L' => ∃ (i122 : Int) (i123 : Int), (i122, i123) = s ∧ Fits [(1, .func (.func 24) #[] #[.pointer (some ⟨pba, 0, none⟩), .pointer (some ⟨pbb, 0, none⟩)]), (5, ii i122), (6, ii i123)] ρ ∧ K = K' ∧ L' = Cl pba 33 [vqa0] :: Cl pbb 3 [ii qb0] :: F) ho111 ⟨0, xa, rfl, ⟨rfl, rfl, rfl, trivial⟩, rfl, rfl⟩ ?_
   rintro s ρ _ _ r137 ⟨i122, i123, rfl, hf135, rfl, rfl⟩ h134
   obtain ⟨ρ, rfl⟩ := hf135.ex
   refine CJ.seq <| CJ.seq <| CJ.region <| jm (ii i122) rfl <| jm (ii i123) rfl <| jv (.bool (decide (i122 < i123))) (V.lss rfl rfl) <| J.nil ?_
   refine cc rfl h134 (fun hc138 h134 => ?_) fun hc138 h134 => ?_
   · refine CJ.skip <| CJ.block <| CJ.seq <| CJ.region <| jm (ii i122) rfl <| jm (ii i123) rfl <| jv (ii (IntKind.wrap .i64 (i122 + i123))) (V.add rfl rfl) ?_
     refine jv (.int .u64 (IntKind.wrap .u64 (IntKind.wrap .i64 (i122 + i123)))) (V.conv Try.underlying3 Try.underlying72 rfl) <| jv (.int .u64 (Int.fdiv (IntKind.wrap .u64 (IntKind.wrap .i64 (i122 + i123))) (2 ^ (min (Int.toNat 1) (IntKind.bits .u64))))) (V.shr rfl rfl (by decide)) <| jv (ii (IntKind.wrap .i64 (Int.fdiv (IntKind.wrap .u64 (IntKind.wrap .i64 (i122 + i123))) (2 ^ (min (Int.toNat 1) (IntKind.bits .u64)))))) (V.conv Try.underlying72 Try.underlying3 rfl) <| ja (ii (IntKind.wrap .i64 (Int.fdiv (IntKind.wrap .u64 (IntKind.wrap .i64 (i122 + i123))) (2 ^ (min (Int.toNat 1) (IntKind.bits .u64)))))) rfl <| J.nil <| CJ.seq <| CJ.region ?_
     refine jm (.func (.func 24) #[] #[.pointer (some ⟨pba, 0, none⟩), .pointer (some ⟨pbb, 0, none⟩)]) rfl <| jm (ii (IntKind.wrap .i64 (Int.fdiv (IntKind.wrap .u64 (IntKind.wrap .i64 (i122 + i123))) (2 ^ (min (Int.toNat 1) (IntKind.bits .u64)))))) rfl ?_
     obtain ⟨r139, hr140, h134⟩ := ob h134
     refine J.op rfl (A.call (L1 := [Cl pba 33 [vqa0], Cl pbb 3 [ii qb0]]) Try.call24 rfl (point_Points_At_1_ip0p1_kp_i_ok fqa0 hr140) rfl rfl) ?_
     rintro _ _ _ ⟨v142, _, rfl, ⟨⟨t141, rfl, rfl, rfl⟩, rfl⟩, _, rfl⟩
     refine jv (.bool (!t141)) (V.not rfl) <| J.nil <| cc rfl h134 (fun hc145 h134 => ?_) fun hc145 h134 => ?_
     · refine CJ.region <| jm (ii (IntKind.wrap .i64 (Int.fdiv (IntKind.wrap .u64 (IntKind.wrap .i64 (i122 + i123))) (2 ^ (min (Int.toNat 1) (IntKind.bits .u64)))))) rfl <| jv (ii (IntKind.wrap .i64 ((IntKind.wrap .i64 (Int.fdiv (IntKind.wrap .u64 (IntKind.wrap .i64 (i122 + i123))) (2 ^ (min (Int.toNat 1) (IntKind.bits .u64))))) + 1))) (V.add rfl rfl) <| ja (ii (IntKind.wrap .i64 ((IntKind.wrap .i64 (Int.fdiv (IntKind.wrap .u64 (IntKind.wrap .i64 (i122 + i123))) (2 ^ (min (Int.toNat 1) (IntKind.bits .u64))))) + 1))) rfl <| J.nil ?_
       obtain rfl := si h134
       exact ⟨rfl, ⟨IntKind.wrap .i64 ((IntKind.wrap .i64 (Int.fdiv (IntKind.wrap .u64 (IntKind.wrap .i64 (i122 + i123))) (2 ^ (min (Int.toNat 1) (IntKind.bits .u64))))) + 1), i123, rfl, ⟨rfl, rfl, rfl, trivial⟩, rfl, rfl⟩⟩
     refine CJ.region <| jm (ii (IntKind.wrap .i64 (Int.fdiv (IntKind.wrap .u64 (IntKind.wrap .i64 (i122 + i123))) (2 ^ (min (Int.toNat 1) (IntKind.bits .u64)))))) rfl <| ja (ii (IntKind.wrap .i64 (Int.fdiv (IntKind.wrap .u64 (IntKind.wrap .i64 (i122 + i123))) (2 ^ (min (Int.toNat 1) (IntKind.bits .u64)))))) rfl <| J.nil ?_
     obtain rfl := si h134
     exact ⟨rfl, ⟨i122, IntKind.wrap .i64 (Int.fdiv (IntKind.wrap .u64 (IntKind.wrap .i64 (i122 + i123))) (2 ^ (min (Int.toNat 1) (IntKind.bits .u64)))), rfl, ⟨rfl, rfl, rfl, trivial⟩, rfl, rfl⟩⟩
   refine CJ.exit ?_
   obtain rfl := si h134
   refine ⟨nofun, fun e => ?_⟩
   subst e
   exact ⟨rfl, ⟨i122, rfl, ⟨rfl, trivial⟩, rfl, rfl⟩⟩
 rintro ρ _ _ ⟨i109, rfl, hf146, rfl, rfl⟩
 obtain ⟨ρ, rfl⟩ := hf146.ex
 refine PJ.done <| CJ.seq <| CJ.region <| jm (ii i109) rfl <| ja (ii i109) rfl <| J.nil <| CJ.ret ?_
 obtain rfl := si h
 exact ⟨_, _, Res.one rfl rfl, ⟨i109, rfl, rfl, rfl⟩, (Hp.le_refl _), fun w hs => hs⟩

noncomputable def fn_point_Points_At (xa : (Option ((List Int) × Int))) (xb : Int) : Option (Int × Int × Bool) :=
  cond (decide (xb < 0)) (some ((0, 0, false))) ((fn_point_Points_Len xa).bind fun i75 => cond (decide (i75 ≤ xb)) (some ((0, 0, false))) ((xa : Option ((List Int) × Int)).bind fun y80 => (fn_sort_Search_i_point_Points_At_1_p0p1_kp_i (((y80.1.length : Nat) : Int)) xa xb).bind fun i92 => (getI y80.1 (IntKind.wrap .i64 (i92 - 1))).bind fun x113 => some ((IntKind.wrap .i64 (i92 - 1), IntKind.wrap .i64 (xb - x113), true))))
set_option maxRecDepth 100000 in
set_option maxHeartbeats 4000000 in
theorem point_Points_At_ok {K : Hp} {xa : (Option ((List Int) × Int))} {xb : Int} {vxa_0 : Value} (fxa_0 : Is K (.ptr (.cons (.sl (.int .i64)) (.one (.int .i64)))) [vxa_0] xa) {r : (Int × Int × Bool)} (h : fn_point_Points_At xa xb = some r) :
    Tr Try.prog 15 #[vxa_0, ii xb] K [] (fun v K' L' => (∃ (i60 : Int) (i61 : Int) (t62 : Bool), (i60, i61, t62) = r ∧ .tuple #[ii i60, ii i61, .bool t62] = v ∧ L' = []) ∧ K = K') := by
 refine Tr.k <| Tr.of Try.func15 rfl Try.ntmps15 rfl fun E F => ?_
 unfold fn_point_Points_At at h
 refine CJ.seq <| CJ.region <| jbx [vxa_0] rfl (Is.pcells fxa_0) fun b63 => jbx [ii xb] rfl rfl fun b64 => ja (ii 0) rfl <| ja (ii 0) rfl <| ja (.bool false) rfl ?_
 refine J.nil <| CJ.seq <| CJ.seq <| CJ.mix [Cl b64 3 [ii xb], Cl b63 33 [vxa_0]] [([0, 1, 2, 3, 4], 5)] [6, 7] [] mixO (by decide +kernel) ⟨0, rfl, 0, rfl, trivial⟩ rfl rfl rfl <| JM.cons <| qv (ii xb) (V.ld rfl (Ld.sc sc3 (Rd.cl 0 rfl rfl))) <| qv (.bool (decide (xb < 0))) (V.lss rfl rfl) ?_
 refine qm (.bool (decide (xb < 0))) rfl ?_
 rcases bt (decide (xb < 0)) with hc72 | hc72
 · have h := ct hc72 h
   refine JQ.skip rfl rfl rfl rfl hc72 <| JQ.skip rfl rfl rfl rfl hc72 <| JQ.nil <| JA.skip rfl rfl rfl rfl hc72 <| JM.nil <| JQ.skip rfl rfl rfl rfl hc72 <| qv (.bool true) (V.pickT rfl hc72 rfl) ?_
   refine JQ.nil <| J.nil <| CJ.condK (b := true) rfl rfl <| CJ.seq <| CJ.region <| ja (ii 0) rfl <| ja (ii 0) rfl ?_
   refine ja (.bool false) rfl <| J.nil <| CJ.ret ?_
   obtain rfl := si h
   exact ⟨_, _, Res.three rfl rfl rfl rfl, ⟨0, 0, false, rfl, rfl, rfl⟩, (Hp.le_refl _), fun w hs => (Sep.dropAt 0 rfl (Sep.dropAt 0 rfl hs))⟩
 have h := cf hc72 h
 refine JQ.run rfl rfl rfl hc72 <| qv (ii xb) (V.ld rfl (Ld.sc sc3 (Rd.cl 0 rfl rfl))) <| JQ.run rfl rfl rfl hc72 <| qv vxa_0 (V.ld rfl (Ld.sc sc33 (Rd.cl 1 rfl rfl))) <| JQ.nil <| JA.run rfl rfl rfl hc72 ?_
 obtain ⟨r73, hr74, h⟩ := ob h
 refine JA.op rfl (A.call (L1 := []) Try.call11 rfl (point_Points_Len_ok fxa_0 hr74) rfl rfl) ?_
 rintro _ _ _ ⟨v76, _, rfl, ⟨⟨i75, rfl, rfl, rfl⟩, rfl⟩, _, rfl⟩
 refine ⟨fun w hs => Hold.sub (Hp.le_refl _) ⟨0, rfl, 0, rfl, trivial⟩ hs, ?_⟩
 refine JM.nil <| JQ.run rfl rfl rfl hc72 <| qv (.bool (decide (i75 ≤ xb))) (V.geq rfl rfl) <| qv (.bool (decide (i75 ≤ xb))) (V.pickF rfl hc72 rfl) <| JQ.nil <| J.nil <| cc rfl h (fun hc79 h => ?_) fun hc79 h => ?_
 · refine CJ.seq <| CJ.region <| ja (ii 0) rfl <| ja (ii 0) rfl <| ja (.bool false) rfl <| J.nil <| CJ.ret ?_
   obtain rfl := si h
   exact ⟨_, _, Res.three rfl rfl rfl rfl, ⟨0, 0, false, rfl, rfl, rfl⟩, (Hp.le_refl _), fun w hs => (Sep.dropAt 0 rfl (Sep.dropAt 0 rfl hs))⟩
 refine CJ.skip <| CJ.seq <| CJ.region <| jv vxa_0 (V.ld rfl (Ld.sc sc33 (Rd.cl 1 rfl rfl))) ?_
 obtain ⟨y80, hy81, h⟩ := ob h
 obtain ⟨b82, o83, hv84, a85⟩ := Is.psome fxa_0 hy81
 refine jv _ (V.nck hv84) <| jv _ (V.fad Try.underlying62 rfl nz37 rfl) ?_
 obtain ⟨ad86, cp87, c88, f89⟩ := ((a85).fst).sl
 refine jv (.slice ad86 y80.1.length cp87) (V.ld rfl (Ld.sc sc37 (Rd.k c88 (Hp.le_refl _)))) <| jv (ii (((y80.1.length : Nat) : Int))) (V.len Try.underlying37 rfl) <| jv (.func (.func 24) #[] #[.pointer (some ⟨b63, 0, none⟩), .pointer (some ⟨b64, 0, none⟩)]) (V.mkf rfl) ?_
 obtain ⟨r90, hr91, h⟩ := ob h
 refine J.front 1 rfl <| J.op rfl (A.call (L1 := [Cl b63 33 [vxa_0], Cl b64 3 [ii xb]]) Try.call23 rfl (sort_Search_i_point_Points_At_1_p0p1_kp_i_ok fxa_0 hr91) rfl rfl) ?_
 rintro _ _ _ ⟨v93, _, rfl, ⟨⟨i92, rfl, rfl, rfl⟩, rfl⟩, _, rfl⟩
 refine jv (ii (IntKind.wrap .i64 (i92 - 1))) (V.sub rfl rfl) <| ja (ii (IntKind.wrap .i64 (i92 - 1))) rfl <| J.nil <| CJ.seq <| CJ.mix [Cl b63 33 [vxa_0], Cl b64 3 [ii xb]] [] [0, 1, 2, 3, 4, 5, 6, 7, 8, 9, 10, 11, 12] [] mixO (by decide +kernel) ⟨0, rfl, 0, rfl, trivial⟩ rfl rfl rfl <| JM.nil <| qm (ii (IntKind.wrap .i64 (i92 - 1))) rfl ?_
 refine qv (ii xb) (V.ld rfl (Ld.sc sc3 (Rd.cl 1 rfl rfl))) <| qv vxa_0 (V.ld rfl (Ld.sc sc33 (Rd.cl 0 rfl rfl))) <| qv _ (V.nck hv84) <| qv _ (V.fad Try.underlying62 rfl nz37 rfl) ?_
 obtain ⟨ad109, cp110, c111, f112⟩ := ((a85).fst).sl
 refine qv (.slice ad109 y80.1.length cp110) (V.ld rfl (Ld.sc sc37 (Rd.k c111 (Hp.le_refl _)))) <| qm (ii (IntKind.wrap .i64 (i92 - 1))) rfl ?_
 obtain ⟨x113, hx114, h⟩ := ob h
 obtain ⟨p115, p116, p117⟩ := getI_some hx114
 obtain ⟨b118, o119, e120, a121⟩ := (f112).at p116
 refine qv _ (V.iad Try.underlying37 sz3 rfl e120 rfl p115 p117) <| qv (ii x113) (V.ld rfl (Ld.sc sc3 (Rd.k (a121).int (Hp.le_refl _)))) <| qv (ii (IntKind.wrap .i64 (xb - x113))) (V.sub rfl rfl) <| qa (ii (IntKind.wrap .i64 (i92 - 1))) rfl <| qa (ii (IntKind.wrap .i64 (xb - x113))) rfl <| qa (.bool true) rfl <| JQ.nil ?_
 refine J.nil <| CJ.ret ?_
 obtain rfl := si h
 exact ⟨_, _, Res.three rfl rfl rfl rfl, ⟨IntKind.wrap .i64 (i92 - 1), IntKind.wrap .i64 (xb - x113), true, rfl, rfl, rfl⟩, (Hp.le_refl _), fun w hs => (Sep.dropAt 0 rfl (Sep.dropAt 0 rfl hs))⟩

noncomputable def fn_point_Points_end (xa : (Option ((List Int) × Int))) (xb : Int) : Option Int :=
  (xa : Option ((List Int) × Int)).bind fun y26 => cond (decide ((IntKind.wrap .i64 (xb + 1)) < (((y26.1.length : Nat) : Int)))) ((getI y26.1 (IntKind.wrap .i64 (xb + 1))).bind fun x41 => some (x41)) (some (y26.2))
set_option maxRecDepth 100000 in
set_option maxHeartbeats 4000000 in
theorem point_Points_end_ok {K : Hp} {xa : (Option ((List Int) × Int))} {xb : Int} {vxa_0 : Value} (fxa_0 : Is K (.ptr (.cons (.sl (.int .i64)) (.one (.int .i64)))) [vxa_0] xa) {r : Int} (h : fn_point_Points_end xa xb = some r) :
    Tr Try.prog 21 #[vxa_0, ii xb] K [] (fun v K' L' => (∃ (i25 : Int), i25 = r ∧ ii i25 = v ∧ L' = []) ∧ K = K') := by
 refine Tr.k <| Tr.of Try.func21 rfl Try.ntmps21 rfl fun E F => ?_
 unfold fn_point_Points_end at h
 refine CJ.seq <| CJ.region <| ja (ii 0) rfl <| J.nil <| CJ.seq <| CJ.seq <| CJ.region ?_
 refine jm (ii xb) rfl <| jv (ii (IntKind.wrap .i64 (xb + 1))) (V.add rfl rfl) <| jm vxa_0 rfl ?_
 obtain ⟨y26, hy27, h⟩ := ob h
 obtain ⟨b28, o29, hv30, a31⟩ := Is.psome fxa_0 hy27
 refine jv _ (V.nck hv30) <| jv _ (V.fad Try.underlying62 rfl nz37 rfl) ?_
 obtain ⟨ad32, cp33, c34, f35⟩ := ((a31).fst).sl
 refine jv (.slice ad32 y26.1.length cp33) (V.ld rfl (Ld.sc sc37 (Rd.k c34 (Hp.le_refl _)))) <| jv (ii (((y26.1.length : Nat) : Int))) (V.len Try.underlying37 rfl) <| jv (.bool (decide ((IntKind.wrap .i64 (xb + 1)) < (((y26.1.length : Nat) : Int))))) (V.lss rfl rfl) <| J.nil <| cc rfl h (fun hc36 h => ?_) fun hc36 h => ?_
 · refine CJ.seq <| CJ.region <| jm vxa_0 rfl <| jv _ (V.nck hv30) <| jv _ (V.fad Try.underlying62 rfl nz37 rfl) ?_
   obtain ⟨ad37, cp38, c39, f40⟩ := ((a31).fst).sl
   refine jv (.slice ad37 y26.1.length cp38) (V.ld rfl (Ld.sc sc37 (Rd.k c39 (Hp.le_refl _)))) <| jm (ii xb) rfl <| jv (ii (IntKind.wrap .i64 (xb + 1))) (V.add rfl rfl) ?_
   obtain ⟨x41, hx42, h⟩ := ob h
   obtain ⟨p43, p44, p45⟩ := getI_some hx42
   obtain ⟨b46, o47, e48, a49⟩ := (f40).at p44
   refine jv _ (V.iad Try.underlying37 sz3 rfl e48 rfl p43 p45) <| jv (ii x41) (V.ld rfl (Ld.sc sc3 (Rd.k (a49).int (Hp.le_refl _)))) <| ja (ii x41) rfl <| J.nil <| CJ.ret ?_
   obtain rfl := si h
   exact ⟨_, _, Res.one rfl rfl, ⟨x41, rfl, rfl, rfl⟩, (Hp.le_refl _), fun w hs => hs⟩
 refine CJ.skip <| CJ.seq <| CJ.region <| jm vxa_0 rfl <| jv _ (V.nck hv30) <| jv _ (V.fad Try.underlying62 rfl nz3 rfl) <| jv (ii y26.2) (V.ld rfl (Ld.sc sc3 (Rd.k (((a31).snd).one).int (Hp.le_refl _)))) ?_
 refine ja (ii y26.2) rfl <| J.nil <| CJ.ret ?_
 obtain rfl := si h
 exact ⟨_, _, Res.one rfl rfl, ⟨y26.2, rfl, rfl, rfl⟩, (Hp.le_refl _), fun w hs => hs⟩

noncomputable def fn_point_Points_Ends (xa : (Option ((List Int) × Int))) (xb : Int) : Option Bool :=
  (fn_point_Points_At xa xb).bind fun (i28, i29, t30) => (cond (t30) ((fn_point_Points_end xa i28).bind fun i46 => some (decide ((IntKind.wrap .i64 (xb + 1)) = i46))) (some (false))).bind fun t41 => some (t41)
set_option maxRecDepth 100000 in
set_option maxHeartbeats 4000000 in
theorem point_Points_Ends_ok {K : Hp} {xa : (Option ((List Int) × Int))} {xb : Int} {vxa_0 : Value} (fxa_0 : Is K (.ptr (.cons (.sl (.int .i64)) (.one (.int .i64)))) [vxa_0] xa) {r : Bool} (h : fn_point_Points_Ends xa xb = some r) :
    Tr Try.prog 16 #[vxa_0, ii xb] K [] (fun v K' L' => (∃ (t25 : Bool), t25 = r ∧ .bool t25 = v ∧ L' = []) ∧ K = K') := by
 refine Tr.k <| Tr.of Try.func16 rfl Try.ntmps16 rfl fun E F => ?_
 unfold fn_point_Points_Ends at h
 refine CJ.seq <| CJ.region <| ja (.bool false) rfl <| J.nil <| CJ.seq <| CJ.region <| jm vxa_0 rfl ?_
 refine jm (ii xb) rfl ?_
 obtain ⟨r26, hr27, h⟩ := ob h
 refine J.op rfl (A.call (L1 := []) Try.call15 rfl (point_Points_At_ok fxa_0 hr27) rfl rfl) ?_
 rintro _ _ _ ⟨v31, _, rfl, ⟨⟨i28, i29, t30, rfl, rfl, rfl⟩, rfl⟩, _, rfl⟩
 refine jm (.tuple #[ii i28, ii i29, .bool t30]) rfl <| jx (ii i28) rfl rfl <| jx (ii i29) rfl rfl <| jx (.bool t30) rfl rfl <| ja (ii i28) rfl <| ja (ii i29) rfl <| ja (.bool t30) rfl ?_
 refine J.nil <| CJ.seq <| CJ.region <| jm (.bool t30) rfl <| jm (.bool t30) rfl <| J.cut 7 ?_
 obtain ⟨t41, ht42, h⟩ := ob h
 refine jmeet [(23, .bool t41)] ?_ ?_
 · rcases bt (t30) with hc43 | hc43
   · have ht42 := ct hc43 ht42
     refine J.run rfl rfl rfl hc43 <| jm (ii xb) rfl <| J.run rfl rfl rfl hc43 <| jv (ii (IntKind.wrap .i64 (xb + 1))) (V.add rfl rfl) <| J.run rfl rfl rfl hc43 <| jm vxa_0 rfl <| J.run rfl rfl rfl hc43 ?_
     refine jm (ii i28) rfl <| J.run rfl rfl rfl hc43 ?_
     obtain ⟨r44, hr45, ht42⟩ := ob ht42
     refine J.op rfl (A.call (L1 := []) Try.call21 rfl (point_Points_end_ok fxa_0 hr45) rfl rfl) ?_
     rintro _ _ _ ⟨v47, _, rfl, ⟨⟨i46, rfl, rfl, rfl⟩, rfl⟩, _, rfl⟩
     refine J.run rfl rfl rfl hc43 <| jv (.bool (decide ((IntKind.wrap .i64 (xb + 1)) = i46))) (V.eql rfl rfl) <| jv (.bool (decide ((IntKind.wrap .i64 (xb + 1)) = i46))) (V.pickT rfl hc43 rfl) <| J.nil ?_
     obtain rfl := si ht42
     exact ⟨rfl, ⟨rfl, trivial⟩, rfl, rfl⟩
   have ht42 := cf hc43 ht42
   refine J.skip rfl rfl rfl rfl hc43 <| J.skip rfl rfl rfl rfl hc43 <| J.skip rfl rfl rfl rfl hc43 <| J.skip rfl rfl rfl rfl hc43 <| J.skip rfl rfl rfl rfl hc43 <| J.skip rfl rfl rfl rfl hc43 <| jv (.bool false) (V.pickF rfl hc43 rfl) ?_
   refine J.nil ?_
   obtain rfl := si ht42
   exact ⟨rfl, ⟨rfl, trivial⟩, rfl, rfl⟩
 intro ρ
 refine ja (.bool t41) rfl <| J.nil <| CJ.ret ?_
 obtain rfl := si h
 exact ⟨_, _, Res.one rfl rfl, ⟨t41, rfl, rfl, rfl⟩, (Hp.le_refl _), fun w hs => hs⟩

noncomputable def fn_law22_awake  : Option Bool :=
  (fn_point_New ((1, 1, [], ([[]] : List (List (Int × Bool))), [], [], ([(([(0, 0, 0, 0, false), (0, 0, 0, 0, false)] : List (Int × Int × Int × Int × Bool)), (3, 0, 0, [], [], [])), ([], (3, 0, 0, [], [], []))] : List ((List (Int × Int × Int × Int × Bool)) × (Int × Int × Int × (List Int) × (List Int) × (List Int))))))).bind fun p107 => (fn_point_Points_At p107 3).bind fun (i115, i116, t117) => (fn_point_Points_Len p107).bind fun i123 => (cond ((((decide (i123 = 4)) && (decide (i115 = 1))) && (decide (i116 = 0))) && t117) ((fn_point_Points_Ends p107 2).bind fun t148 => some (t148)) (some (false))).bind fun t143 => (cond (t143) ((fn_point_Points_Ends p107 1).bind fun t164 => some (!t164)) (some (false))).bind fun t159 => some (t159)
set_option maxRecDepth 100000 in
set_option maxHeartbeats 4000000 in
theorem law22_awake_ok {K : Hp}    {r : Bool} (h : fn_law22_awake = some r) :
    Tr Try.prog 6 #[] K [] (fun v K' L' => (∃ (t85 : Bool), t85 = r ∧ .bool t85 = v ∧ L' = []) ∧ K = K') := by
 refine Tr.k <| Tr.of Try.func6 rfl Try.ntmps6 rfl fun E F => ?_
 unfold fn_law22_awake at h
 refine CJ.seq <| CJ.region <| ja (.bool false) rfl <| J.nil <| CJ.seq <| CJ.region <| jv (.agg #[ii 3, ii 0, ii 0, .slice none 0 0, .slice none 0 0, .slice none 0 0]) (V.build inf56 places56 rfl rfl) ?_
 refine jal inf56 [ii 0, ii 0, ii 0, .slice none 0 0, .slice none 0 0, .slice none 0 0] rfl fun b86 => js [ii 3, ii 0, ii 0, .slice none 0 0, .slice none 0 0, .slice none 0 0] sz56 rfl rfl rfl rfl rfl rfl <| J.nil <| CJ.seq <| CJ.region <| jv (.agg #[.slice none 0 0]) (V.build inf26 places26 rfl rfl) ?_
 refine J.op rfl (A.lit (K0 := K) (ty := (.one (.sl (.cons (.int .i64) (.one .bool))))) (xs := ([[]] : List (List (Int × Bool)))) Try.underlying23 inf26 rfl (by decide) rfl rfl rfl ⟨_, _, rfl, (isNil (K := K) (t := (.cons (.int .i64) (.one .bool)))), rfl⟩ rfl (by decide)) ?_
 rintro _ _ _ ⟨b87, rfl, rfl, rfl⟩
 have hn88 : ([[]] : List (List (Int × Bool))) ≠ [] → ∃ g, (some ⟨b87, 0, none⟩ : Option Addr) = some ⟨g, 0, none⟩ := fun _ => ⟨b87, rfl⟩
 refine jv (.agg #[ii 0, ii 0, ii 0, ii 0, .bool false]) (V.build inf60 places60 rfl rfl) <| jv (.agg #[ii 0, ii 0, ii 0, ii 0, .bool false]) (V.build inf60 places60 rfl rfl) ?_
 refine J.op rfl (A.lit (K0 := Hp.nil) (ty := (.cons (.int .i64) (.cons (.int .i64) (.cons (.int .i64) (.cons (.int .i64) (.one .bool)))))) (xs := ([(0, 0, 0, 0, false), (0, 0, 0, 0, false)] : List (Int × Int × Int × Int × Bool))) Try.underlying54 inf60 rfl (by decide) rfl rfl rfl ⟨_, _, rfl, ⟨_, _, rfl, rfl, rfl, ⟨_, _, rfl, rfl, rfl, ⟨_, _, rfl, rfl, rfl, ⟨_, _, rfl, rfl, rfl, rfl⟩⟩⟩⟩, ⟨_, _, rfl, ⟨_, _, rfl, rfl, rfl, ⟨_, _, rfl, rfl, rfl, ⟨_, _, rfl, rfl, rfl, ⟨_, _, rfl, rfl, rfl, rfl⟩⟩⟩⟩, rfl⟩⟩ rfl (by decide)) ?_
 rintro _ _ _ ⟨b90, rfl, rfl, rfl⟩
 have hn91 : ([(0, 0, 0, 0, false), (0, 0, 0, 0, false)] : List (Int × Int × Int × Int × Bool)) ≠ [] → ∃ g, (some ⟨b90, 0, none⟩ : Option Addr) = some ⟨g, 0, none⟩ := fun _ => ⟨b90, rfl⟩
 refine jv (.agg #[ii 3, ii 0, ii 0, .slice none 0 0, .slice none 0 0, .slice none 0 0]) (V.ld rfl (Ld.agg (cs := [ii 3, ii 0, ii 0, .slice none 0 0, .slice none 0 0, .slice none 0 0]) Try.underlying56 sz56 rfl (Rd.cls 2 0 rfl rfl))) <| jv (.agg #[.slice (some ⟨b90, 0, none⟩) ((([(0, 0, 0, 0, false), (0, 0, 0, 0, false)] : List (Int × Int × Int × Int × Bool))).length) 2, ii 3, ii 0, ii 0, .slice none 0 0, .slice none 0 0, .slice none 0 0]) (V.build inf58 places58 rfl rfl) <| jv (.agg #[ii 3, ii 0, ii 0, .slice none 0 0, .slice none 0 0, .slice none 0 0]) (V.ld rfl (Ld.agg (cs := [ii 3, ii 0, ii 0, .slice none 0 0, .slice none 0 0, .slice none 0 0]) Try.underlying56 sz56 rfl (Rd.cls 2 0 rfl rfl))) <| jv (.agg #[.slice none 0 0, ii 3, ii 0, ii 0, .slice none 0 0, .slice none 0 0, .slice none 0 0]) (V.build inf58 places58 rfl rfl) <| J.persist (Hp.nil_le _) (by decide) fun K93 hK94 f95 => ?_
 refine J.op rfl (A.lit (K0 := K93) (ty := (.cons (.sl (.cons (.int .i64) (.cons (.int .i64) (.cons (.int .i64) (.cons (.int .i64) (.one .bool)))))) (.one (.cons (.int .i64) (.cons (.int .i64) (.cons (.int .i64) (.cons (.sl (.int .i64)) (.cons (.sl (.int .i64)) (.one (.sl (.int .i64))))))))))) (xs := ([(([(0, 0, 0, 0, false), (0, 0, 0, 0, false)] : List (Int × Int × Int × Int × Bool)), (3, 0, 0, [], [], [])), ([], (3, 0, 0, [], [], []))] : List ((List (Int × Int × Int × Int × Bool)) × (Int × Int × Int × (List Int) × (List Int) × (List Int))))) Try.underlying28 inf58 rfl (by decide) rfl rfl rfl ⟨_, _, rfl, ⟨_, _, rfl, rfl, f95, ⟨_, _, rfl, rfl, rfl, ⟨_, _, rfl, rfl, rfl, ⟨_, _, rfl, rfl, rfl, ⟨_, _, rfl, rfl, (isNil (K := K93) (t := (.int .i64))), ⟨_, _, rfl, rfl, (isNil (K := K93) (t := (.int .i64))), (isNil (K := K93) (t := (.int .i64)))⟩⟩⟩⟩⟩⟩, ⟨_, _, rfl, ⟨_, _, rfl, rfl, (isNil (K := K93) (t := (.cons (.int .i64) (.cons (.int .i64) (.cons (.int .i64) (.cons (.int .i64) (.one .bool))))))), ⟨_, _, rfl, rfl, rfl, ⟨_, _, rfl, rfl, rfl, ⟨_, _, rfl, rfl, rfl, ⟨_, _, rfl, rfl, (isNil (K := K93) (t := (.int .i64))), ⟨_, _, rfl, rfl, (isNil (K := K93) (t := (.int .i64))), (isNil (K := K93) (t := (.int .i64)))⟩⟩⟩⟩⟩⟩, rfl⟩⟩ rfl (by decide)) ?_
 rintro _ _ _ ⟨b96, rfl, rfl, rfl⟩
 have hn97 : ([(([(0, 0, 0, 0, false), (0, 0, 0, 0, false)] : List (Int × Int × Int × Int × Bool)), (3, 0, 0, [], [], [])), ([], (3, 0, 0, [], [], []))] : List ((List (Int × Int × Int × Int × Bool)) × (Int × Int × Int × (List Int) × (List Int) × (List Int)))) ≠ [] → ∃ g, (some ⟨b96, 0, none⟩ : Option Addr) = some ⟨g, 0, none⟩ := fun _ => ⟨b96, rfl⟩
 refine jv (.agg #[ii 1, ii 1, .slice none 0 0, .slice (some ⟨b87, 0, none⟩) ((([[]] : List (List (Int × Bool)))).length) 1, .slice none 0 0, .slice none 0 0, .slice (some ⟨b96, 0, none⟩) ((([(([(0, 0, 0, 0, false), (0, 0, 0, 0, false)] : List (Int × Int × Int × Int × Bool)), (3, 0, 0, [], [], [])), ([], (3, 0, 0, [], [], []))] : List ((List (Int × Int × Int × Int × Bool)) × (Int × Int × Int × (List Int) × (List Int) × (List Int))))).length) 2]) (V.build inf30 places30 rfl rfl) <| J.front 1 rfl <| J.persist hK94 (by decide) fun K99 hK100 f101 => J.persist hK100 (by decide) fun K102 hK103 f104 => ?_
 obtain ⟨r105, hr106, h⟩ := ob h
 refine J.op rfl (A.call (L1 := []) Try.call7 rfl (point_New_ok isNil (f101.mono hK103) isNil isNil f104 hr106) rfl rfl) ?_
 rintro _ K111 _ ⟨v110, _, rfl, ⟨p107, v108, rfl, rfl, f109, rfl⟩, hK112, rfl⟩
 refine ja v108 rfl <| J.nil <| CJ.seq <| CJ.region <| jm v108 rfl ?_
 obtain ⟨r113, hr114, h⟩ := ob h
 refine J.op rfl (A.call (L1 := []) Try.call15 rfl (point_Points_At_ok f109 hr114) rfl rfl) ?_
 rintro _ _ _ ⟨v118, _, rfl, ⟨⟨i115, i116, t117, rfl, rfl, rfl⟩, rfl⟩, _, rfl⟩
 refine jm (.tuple #[ii i115, ii i116, .bool t117]) rfl <| jx (ii i115) rfl rfl <| jx (ii i116) rfl rfl <| jx (.bool t117) rfl rfl <| ja (ii i115) rfl <| ja (ii i116) rfl <| ja (.bool t117) rfl ?_
 refine J.nil <| CJ.seq <| CJ.region <| jm v108 rfl ?_
 obtain ⟨r121, hr122, h⟩ := ob h
 refine J.op rfl (A.call (L1 := []) Try.call11 rfl (point_Points_Len_ok f109 hr122) rfl rfl) ?_
 rintro _ _ _ ⟨v124, _, rfl, ⟨⟨i123, rfl, rfl, rfl⟩, rfl⟩, _, rfl⟩
 refine jv (.bool (decide (i123 = 4))) (V.eql rfl rfl) <| jm (.bool (decide (i123 = 4))) rfl <| J.cut 3 <| jmeet [(31, .bool ((decide (i123 = 4)) && (decide (i115 = 1)))), (2, v108), (4, ii i116), (5, .bool t117)] ?_ ?_
 · rcases bt (decide (i123 = 4)) with hc129 | hc129
   · refine J.run rfl rfl rfl hc129 <| jm (ii i115) rfl <| J.run rfl rfl rfl hc129 <| jv (.bool (decide (i115 = 1))) (V.eql rfl rfl) <| jv (.bool (decide (i115 = 1))) (V.pickT rfl hc129 rfl) <| J.nil ?_
     exact ⟨rfl, ⟨(by simp only [hc129]; rfl), rfl, rfl, rfl, trivial⟩, rfl, rfl⟩
   refine J.skip rfl rfl rfl rfl hc129 <| J.skip rfl rfl rfl rfl hc129 <| jv (.bool false) (V.pickF rfl hc129 rfl) <| J.nil ?_
   exact ⟨rfl, ⟨(by simp only [hc129]; rfl), rfl, rfl, rfl, trivial⟩, rfl, rfl⟩
 intro ρ
 refine jm (.bool ((decide (i123 = 4)) && (decide (i115 = 1)))) rfl <| J.cut 3 <| jmeet [(35, .bool (((decide (i123 = 4)) && (decide (i115 = 1))) && (decide (i116 = 0)))), (2, v108), (5, .bool t117)] ?_ ?_
 · rcases bt ((decide (i123 = 4)) && (decide (i115 = 1))) with hc132 | hc132
   · refine J.run rfl rfl rfl hc132 <| jm (ii i116) rfl <| J.run rfl rfl rfl hc132 <| jv (.bool (decide (i116 = 0))) (V.eql rfl rfl) <| jv (.bool (decide (i116 = 0))) (V.pickT rfl hc132 rfl) <| J.nil ?_
     exact ⟨rfl, ⟨(by simp only [hc132]; rfl), rfl, rfl, trivial⟩, rfl, rfl⟩
   refine J.skip rfl rfl rfl rfl hc132 <| J.skip rfl rfl rfl rfl hc132 <| jv (.bool false) (V.pickF rfl hc132 rfl) <| J.nil ?_
   exact ⟨rfl, ⟨(by simp only [hc132]; rfl), rfl, rfl, trivial⟩, rfl, rfl⟩
 intro ρ
 refine jm (.bool (((decide (i123 = 4)) && (decide (i115 = 1))) && (decide (i116 = 0)))) rfl <| J.cut 2 <| jmeet [(38, .bool ((((decide (i123 = 4)) && (decide (i115 = 1))) && (decide (i116 = 0))) && t117)), (2, v108)] ?_ ?_
 · rcases bt (((decide (i123 = 4)) && (decide (i115 = 1))) && (decide (i116 = 0))) with hc135 | hc135
   · refine J.run rfl rfl rfl hc135 <| jm (.bool t117) rfl <| jv (.bool t117) (V.pickT rfl hc135 rfl) <| J.nil ?_
     exact ⟨rfl, ⟨(by simp only [hc135]; rfl), rfl, trivial⟩, rfl, rfl⟩
   refine J.skip rfl rfl rfl rfl hc135 <| jv (.bool false) (V.pickF rfl hc135 rfl) <| J.nil ?_
   exact ⟨rfl, ⟨(by simp only [hc135]; rfl), rfl, trivial⟩, rfl, rfl⟩
 intro ρ
 refine jm (.bool ((((decide (i123 = 4)) && (decide (i115 = 1))) && (decide (i116 = 0))) && t117)) rfl <| J.cut 3 ?_
 obtain ⟨t143, ht144, h⟩ := ob h
 refine jmeet [(42, .bool t143), (2, v108)] ?_ ?_
 · rcases bt ((((decide (i123 = 4)) && (decide (i115 = 1))) && (decide (i116 = 0))) && t117) with hc145 | hc145
   · have ht144 := ct hc145 ht144
     refine J.run rfl rfl rfl hc145 <| jm v108 rfl <| J.run rfl rfl rfl hc145 ?_
     obtain ⟨r146, hr147, ht144⟩ := ob ht144
     refine J.op rfl (A.call (L1 := []) Try.call16 rfl (point_Points_Ends_ok f109 hr147) rfl rfl) ?_
     rintro _ _ _ ⟨v149, _, rfl, ⟨⟨t148, rfl, rfl, rfl⟩, rfl⟩, _, rfl⟩
     refine jv (.bool t148) (V.pickT rfl hc145 rfl) <| J.nil ?_
     obtain rfl := si ht144
     exact ⟨rfl, ⟨rfl, rfl, trivial⟩, rfl, rfl⟩
   have ht144 := cf hc145 ht144
   refine J.skip rfl rfl rfl rfl hc145 <| J.skip rfl rfl rfl rfl hc145 <| jv (.bool false) (V.pickF rfl hc145 rfl) <| J.nil ?_
   obtain rfl := si ht144
   exact ⟨rfl, ⟨rfl, rfl, trivial⟩, rfl, rfl⟩
 intro ρ
 refine jm (.bool t143) rfl <| J.cut 4 ?_
 obtain ⟨t159, ht160, h⟩ := ob h
 refine jmeet [(47, .bool t159)] ?_ ?_
 · rcases bt (t143) with hc161 | hc161
   · have ht160 := ct hc161 ht160
     refine J.run rfl rfl rfl hc161 <| jm v108 rfl <| J.run rfl rfl rfl hc161 ?_
     obtain ⟨r162, hr163, ht160⟩ := ob ht160
     refine J.op rfl (A.call (L1 := []) Try.call16 rfl (point_Points_Ends_ok f109 hr163) rfl rfl) ?_
     rintro _ _ _ ⟨v165, _, rfl, ⟨⟨t164, rfl, rfl, rfl⟩, rfl⟩, _, rfl⟩
     refine J.run rfl rfl rfl hc161 <| jv (.bool (!t164)) (V.not rfl) <| jv (.bool (!t164)) (V.pickT rfl hc161 rfl) <| J.nil ?_
     obtain rfl := si ht160
     exact ⟨rfl, ⟨rfl, trivial⟩, rfl, rfl⟩
   have ht160 := cf hc161 ht160
   refine J.skip rfl rfl rfl rfl hc161 <| J.skip rfl rfl rfl rfl hc161 <| J.skip rfl rfl rfl rfl hc161 <| jv (.bool false) (V.pickF rfl hc161 rfl) <| J.nil ?_
   obtain rfl := si ht160
   exact ⟨rfl, ⟨rfl, trivial⟩, rfl, rfl⟩
 intro ρ
 refine ja (.bool t159) rfl <| J.nil <| CJ.ret ?_
 obtain rfl := si h
 exact ⟨_, _, Res.one rfl rfl, ⟨t159, rfl, rfl, rfl⟩, (((hK94.trans hK100).trans hK103).trans hK112), fun w hs => (Sep.dropAt 0 rfl hs)⟩
noncomputable def fn_ref21_head_l1 (xa : (Int × Int × (List (Int × Int)) × (List (List (Int × Bool))) × (List (Int × Bool)) × (List (Int × (List (Int × Int)) × (List (List (Int × Bool))) × (List (Int × Bool)))) × (List ((List (Int × Int × Int × Int × Bool)) × (Int × Int × Int × (List Int) × (List Int) × (List Int)))))) : Int → Option (Int ⊕ (Unit ⊕ (Int × Int × Int × Int))) := fun (i260 : Int) => cond (decide (i260 < (((xa.2.2.1.length : Nat) : Int)))) ((getI xa.2.2.1 i260).bind fun x288 => cond ((((decide (x288.1 < 0)) || (decide (xa.1 ≤ x288.1))) || (decide (x288.2 < 0))) || (decide (xa.1 ≤ x288.2))) (some (.inr ((.inr ((7, 1, i260, 0)))))) (some (.inl (IntKind.wrap .i64 (i260 + 1))))) (some (.inr ((.inl ()))))
noncomputable def fn_ref21_head (xa : (Int × Int × (List (Int × Int)) × (List (List (Int × Bool))) × (List (Int × Bool)) × (List (Int × (List (Int × Int)) × (List (List (Int × Bool))) × (List (Int × Bool)))) × (List ((List (Int × Int × Int × Int × Bool)) × (Int × Int × Int × (List Int) × (List Int) × (List Int)))))) : Option (Int × Int × Int × Int) :=
  cond ((decide (xa.1 < 1)) || (decide (xa.2.1 < xa.1))) (some ((7, 0, 0, 0))) (cond (decide (65536 < xa.2.1)) (some ((6, 0, 0, 0))) (cond (decide (65536 < (((xa.2.2.1.length : Nat) : Int)))) (some ((6, 1, 0, 0))) ((loop (fn_ref21_head_l1 xa) 0 : Option (Unit ⊕ (Int × Int × Int × Int))).bind fun o => match o with | .inr r => some r | .inl () => some ((0, 0, 0, 0)))))
set_option maxRecDepth 100000 in
set_option maxHeartbeats 4000000 in
theorem ref21_head_ok {K : Hp} {xa : (Int × Int × (List (Int × Int)) × (List (List (Int × Bool))) × (List (Int × Bool)) × (List (Int × (List (Int × Int)) × (List (List (Int × Bool))) × (List (Int × Bool)))) × (List ((List (Int × Int × Int × Int × Bool)) × (Int × Int × Int × (List Int) × (List Int) × (List Int)))))} {adxa_2 : Option Addr} {cpxa_2 : Nat} {adxa_3 : Option Addr} {cpxa_3 : Nat} {adxa_4 : Option Addr} {cpxa_4 : Nat} {adxa_5 : Option Addr} {cpxa_5 : Nat} {adxa_6 : Option Addr} {cpxa_6 : Nat} (fxa_2 : Is K (.sl (.cons (.int .i64) (.one (.int .i64)))) [.slice adxa_2 xa.2.2.1.length cpxa_2] xa.2.2.1) (fxa_3 : Is K (.sl (.one (.sl (.cons (.int .i64) (.one .bool))))) [.slice adxa_3 xa.2.2.2.1.length cpxa_3] xa.2.2.2.1) (fxa_4 : Is K (.sl (.cons (.int .i64) (.one .bool))) [.slice adxa_4 xa.2.2.2.2.1.length cpxa_4] xa.2.2.2.2.1) (fxa_5 : Is K (.sl (.cons (.int .i64) (.cons (.sl (.cons (.int .i64) (.one (.int .i64)))) (.cons (.sl (.one (.sl (.cons (.int .i64) (.one .bool))))) (.one (.one (.sl (.cons (.int .i64) (.one .bool))))))))) [.slice adxa_5 xa.2.2.2.2.2.1.length cpxa_5] xa.2.2.2.2.2.1) (fxa_6 : Is K (.sl (.cons (.sl (.cons (.int .i64) (.cons (.int .i64) (.cons (.int .i64) (.cons (.int .i64) (.one .bool)))))) (.one (.cons (.int .i64) (.cons (.int .i64) (.cons (.int .i64) (.cons (.sl (.int .i64)) (.cons (.sl (.int .i64)) (.one (.sl (.int .i64))))))))))) [.slice adxa_6 xa.2.2.2.2.2.2.length cpxa_6] xa.2.2.2.2.2.2) {r : (Int × Int × Int × Int)} (h : fn_ref21_head xa = some r) :
    Tr Try.prog 35 #[.agg #[ii xa.1, ii xa.2.1, .slice adxa_2 xa.2.2.1.length cpxa_2, .slice adxa_3 xa.2.2.2.1.length cpxa_3, .slice adxa_4 xa.2.2.2.2.1.length cpxa_4, .slice adxa_5 xa.2.2.2.2.2.1.length cpxa_5, .slice adxa_6 xa.2.2.2.2.2.2.length cpxa_6]] K [] (fun v K' L' => (∃ (i154 : Int) (i155 : Int) (i156 : Int) (i157 : Int), (i154, i155, i156, i157) = r ∧ .agg #[ii i154, ii i155, ii i156, ii i157] = v ∧ L' = []) ∧ K = K') := by
 refine Tr.k <| Tr.of Try.func35 rfl Try.ntmps35 rfl fun E F => ?_
 unfold fn_ref21_head at h
 refine CJ.seq <| CJ.region <| jbx [ii xa.1, ii xa.2.1, .slice adxa_2 xa.2.2.1.length cpxa_2, .slice adxa_3 xa.2.2.2.1.length cpxa_3, .slice adxa_4 xa.2.2.2.2.1.length cpxa_4, .slice adxa_5 xa.2.2.2.2.2.1.length cpxa_5, .slice adxa_6 xa.2.2.2.2.2.2.length cpxa_6] rfl rfl fun b158 => jal inf70 [ii 0, ii 0, ii 0, ii 0] rfl fun b159 => J.nil <| CJ.seq <| CJ.seq ?_
 refine CJ.region <| jv _ (V.fad Try.underlying30 rfl nz3 rfl) <| jv (ii xa.1) (V.ld rfl (Ld.sc sc3 (Rd.cl 1 rfl rfl))) <| jv (.bool (decide (xa.1 < 1))) (V.lss rfl rfl) <| jm (.bool (decide (xa.1 < 1))) rfl <| J.cut 6 <| jmeet [(14, .bool ((decide (xa.1 < 1)) || (decide (xa.2.1 < xa.1)))), (1, .pointer (some ⟨b158, 0, none⟩)), (2, .pointer (some ⟨b159, 0, none⟩))] ?_ ?_
 · rcases bt (decide (xa.1 < 1)) with hc162 | hc162
   · refine J.skip rfl rfl rfl rfl hc162 <| J.skip rfl rfl rfl rfl hc162 <| J.skip rfl rfl rfl rfl hc162 <| J.skip rfl rfl rfl rfl hc162 <| J.skip rfl rfl rfl rfl hc162 <| jv (.bool true) (V.pickT rfl hc162 rfl) <| J.nil ?_
     exact ⟨rfl, ⟨(by simp only [hc162]; rfl), rfl, rfl, trivial⟩, rfl, rfl⟩
   refine J.run rfl rfl rfl hc162 <| jv _ (V.fad Try.underlying30 rfl nz3 rfl) <| J.run rfl rfl rfl hc162 <| jv (ii xa.2.1) (V.ld rfl (Ld.sc sc3 (Rd.cl 1 rfl rfl))) <| J.run rfl rfl rfl hc162 <| jv _ (V.fad Try.underlying30 rfl nz3 rfl) <| J.run rfl rfl rfl hc162 ?_
   refine jv (ii xa.1) (V.ld rfl (Ld.sc sc3 (Rd.cl 1 rfl rfl))) <| J.run rfl rfl rfl hc162 <| jv (.bool (decide (xa.2.1 < xa.1))) (V.lss rfl rfl) <| jv (.bool (decide (xa.2.1 < xa.1))) (V.pickF rfl hc162 rfl) <| J.nil ?_
   exact ⟨rfl, ⟨(by simp only [hc162]; rfl), rfl, rfl, trivial⟩, rfl, rfl⟩
 intro ρ
 refine J.nil <| cc rfl h (fun hc163 h => ?_) fun hc163 h => ?_
 · refine CJ.seq <| CJ.region <| jv (.agg #[ii 7, ii 0, ii 0, ii 0]) (V.build inf70 places70 rfl rfl) <| js [ii 7, ii 0, ii 0, ii 0] sz70 rfl rfl rfl rfl rfl rfl <| J.nil <| CJ.ret ?_
   obtain rfl := si h
   exact ⟨_, _, Res.one rfl ⟨_, _, rfl, Ld.agg (cs := [ii 7, ii 0, ii 0, ii 0]) Try.underlying70 sz70 rfl (Rd.cls 0 0 rfl rfl)⟩, ⟨7, 0, 0, 0, rfl, rfl, rfl⟩, (Hp.le_refl _), fun w hs => (Sep.dropAt 0 rfl (Sep.dropAt 0 rfl hs))⟩
 refine CJ.skip <| CJ.seq <| CJ.seq <| CJ.region <| jv _ (V.fad Try.underlying30 rfl nz3 rfl) <| jv (ii xa.2.1) (V.ld rfl (Ld.sc sc3 (Rd.cl 1 rfl rfl))) <| jv (.bool (decide (65536 < xa.2.1))) (V.gtr rfl rfl) ?_
 refine J.nil <| cc rfl h (fun hc164 h => ?_) fun hc164 h => ?_
 · refine CJ.seq <| CJ.region <| jv (.agg #[ii 6, ii 0, ii 0, ii 0]) (V.build inf70 places70 rfl rfl) <| js [ii 6, ii 0, ii 0, ii 0] sz70 rfl rfl rfl rfl rfl rfl <| J.nil <| CJ.ret ?_
   obtain rfl := si h
   exact ⟨_, _, Res.one rfl ⟨_, _, rfl, Ld.agg (cs := [ii 6, ii 0, ii 0, ii 0]) Try.underlying70 sz70 rfl (Rd.cls 0 0 rfl rfl)⟩, ⟨6, 0, 0, 0, rfl, rfl, rfl⟩, (Hp.le_refl _), fun w hs => (Sep.dropAt 0 rfl (Sep.dropAt 0 rfl hs))⟩
 refine CJ.skip <| CJ.seq <| CJ.seq <| CJ.region <| jv _ (V.fad Try.underlying30 rfl nz22 rfl) <| jv (.slice adxa_2 xa.2.2.1.length cpxa_2) (V.ld rfl (Ld.sc sc22 (Rd.cl 1 rfl rfl))) <| jv (ii (((xa.2.2.1.length : Nat) : Int))) (V.len Try.underlying22 rfl) ?_
 refine jv (.bool (decide (65536 < (((xa.2.2.1.length : Nat) : Int))))) (V.gtr rfl rfl) <| J.nil <| cc rfl h (fun hc165 h => ?_) fun hc165 h => ?_
 · refine CJ.seq <| CJ.region <| jv (.agg #[ii 6, ii 1, ii 0, ii 0]) (V.build inf70 places70 rfl rfl) <| js [ii 6, ii 1, ii 0, ii 0] sz70 rfl rfl rfl rfl rfl rfl <| J.nil <| CJ.ret ?_
   obtain rfl := si h
   exact ⟨_, _, Res.one rfl ⟨_, _, rfl, Ld.agg (cs := [ii 6, ii 1, ii 0, ii 0]) Try.underlying70 sz70 rfl (Rd.cls 0 0 rfl rfl)⟩, ⟨6, 1, 0, 0, rfl, rfl, rfl⟩, (Hp.le_refl _), fun w hs => (Sep.dropAt 0 rfl (Sep.dropAt 0 rfl hs))⟩
 refine CJ.skip <| CJ.seq <| CJ.seq <| CJ.region <| ja (ii 0) rfl <| J.nil ?_
 obtain ⟨o236, ho237, h⟩ := ob h
 refine CJ.joinN (o := o236) (fun s ρ K' L' => () = s ∧ Fits [(2, .pointer (some ⟨b159, 0, none⟩))] ρ ∧ K = K' ∧ L' = Cl b159 70 [ii 0, ii 0, ii 0, ii 0] :: F) ?_ ?_
 · refine CJ.block <| CJ.front 1 rfl <| CJ.loop (fun s ρ K' L' => ∃ (i260 : Int), i260 = s ∧ Fits [(1, .pointer (some ⟨b158, 0, none⟩)), (2, .pointer (some ⟨b159, 0, none⟩)), (3, ii i260)] ρ ∧ K = K' ∧ L' = Cl b158 30 [ii xa.1, ii xa.2.1, .slice adxa_2 xa.2.2.1.length cpxa_2, .slice adxa_3 xa.2.2.2.1.length cpxa_3, .slice adxa_4 xa.2.2.2.2.1.length cpxa_4, .slice adxa_5 xa.2.2.2.2.2.1.length cpxa_5, .slice adxa_6 xa.2.2.2.2.2.2.length cpxa_6] :: Cl b159 70 [ii 0, ii 0, ii 0, ii 0] :: F) ho237 ⟨0, rfl, ⟨rfl, rfl, rfl, trivial⟩, rfl, rfl⟩ ?_
   rintro s ρ _ _ r286 ⟨i260, rfl, hf284, rfl, rfl⟩ h283
   obtain ⟨ρ, rfl⟩ := hf284.ex
   refine CJ.seq <| CJ.seq <| CJ.region <| jm (ii i260) rfl <| jv _ (V.fad Try.underlying30 rfl nz22 rfl) <| jv (.slice adxa_2 xa.2.2.1.length cpxa_2) (V.ld rfl (Ld.sc sc22 (Rd.cl 0 rfl rfl))) <| jv (ii (((xa.2.2.1.length : Nat) : Int))) (V.len Try.underlying22 rfl) ?_
   refine jv (.bool (decide (i260 < (((xa.2.2.1.length : Nat) : Int))))) (V.lss rfl rfl) <| J.nil <| cc rfl h283 (fun hc287 h283 => ?_) fun hc287 h283 => ?_
   · refine CJ.skip <| CJ.seq <| CJ.block <| CJ.seq <| CJ.region <| jv _ (V.fad Try.underlying30 rfl nz22 rfl) <| jv (.slice adxa_2 xa.2.2.1.length cpxa_2) (V.ld rfl (Ld.sc sc22 (Rd.cl 0 rfl rfl))) ?_
     refine jm (ii i260) rfl ?_
     obtain ⟨x288, hx289, h283⟩ := ob h283
     obtain ⟨p290, p291, p292⟩ := getI_some hx289
     obtain ⟨b293, o294, e295, a296⟩ := (fxa_2).at p291
     refine jv _ (V.iad Try.underlying22 sz81 rfl e295 rfl p290 p292) <| jv (.agg #[ii x288.1, ii x288.2]) (V.ld rfl (Ld.aggK (cs := [ii x288.1, ii x288.2]) Try.underlying81 sz81 rfl ⟨((a296).fst).int, (((a296).snd).one).int, trivial⟩ (Hp.le_refl _))) <| jal inf81 [ii 0, ii 0] rfl fun b297 => js [ii x288.1, ii x288.2] sz81 rfl rfl rfl rfl rfl rfl <| J.nil <| CJ.seq <| CJ.region ?_
     refine jv _ (V.fad Try.underlying81 rfl nz3 rfl) <| jv (ii x288.1) (V.ld rfl (Ld.sc sc3 (Rd.cl 0 rfl rfl))) <| jv (.bool (decide (x288.1 < 0))) (V.lss rfl rfl) <| jm (.bool (decide (x288.1 < 0))) rfl <| J.cut 6 <| jmeet [(46, .bool ((decide (x288.1 < 0)) || (decide (xa.1 ≤ x288.1)))), (1, .pointer (some ⟨b158, 0, none⟩)), (2, .pointer (some ⟨b159, 0, none⟩)), (3, ii i260), (4, .pointer (some ⟨b297, 0, none⟩))] ?_ ?_
     · rcases bt (decide (x288.1 < 0)) with hc300 | hc300
       · refine J.skip rfl rfl rfl rfl hc300 <| J.skip rfl rfl rfl rfl hc300 <| J.skip rfl rfl rfl rfl hc300 <| J.skip rfl rfl rfl rfl hc300 <| J.skip rfl rfl rfl rfl hc300 <| jv (.bool true) (V.pickT rfl hc300 rfl) <| J.nil ?_
         exact ⟨rfl, ⟨(by simp only [hc300]; rfl), rfl, rfl, rfl, rfl, trivial⟩, rfl, rfl⟩
       refine J.run rfl rfl rfl hc300 <| jv _ (V.fad Try.underlying81 rfl nz3 rfl) <| J.run rfl rfl rfl hc300 <| jv (ii x288.1) (V.ld rfl (Ld.sc sc3 (Rd.cl 0 rfl rfl))) <| J.run rfl rfl rfl hc300 <| jv _ (V.fad Try.underlying30 rfl nz3 rfl) <| J.run rfl rfl rfl hc300 ?_
       refine jv (ii xa.1) (V.ld rfl (Ld.sc sc3 (Rd.cl 1 rfl rfl))) <| J.run rfl rfl rfl hc300 <| jv (.bool (decide (xa.1 ≤ x288.1))) (V.geq rfl rfl) <| jv (.bool (decide (xa.1 ≤ x288.1))) (V.pickF rfl hc300 rfl) <| J.nil ?_
       exact ⟨rfl, ⟨(by simp only [hc300]; rfl), rfl, rfl, rfl, rfl, trivial⟩, rfl, rfl⟩
     intro ρ
     refine jm (.bool ((decide (x288.1 < 0)) || (decide (xa.1 ≤ x288.1)))) rfl <| J.cut 4 <| jmeet [(51, .bool (((decide (x288.1 < 0)) || (decide (xa.1 ≤ x288.1))) || (decide (x288.2 < 0)))), (1, .pointer (some ⟨b158, 0, none⟩)), (2, .pointer (some ⟨b159, 0, none⟩)), (3, ii i260), (4, .pointer (some ⟨b297, 0, none⟩))] ?_ ?_
     · rcases bt ((decide (x288.1 < 0)) || (decide (xa.1 ≤ x288.1))) with hc303 | hc303
       · refine J.skip rfl rfl rfl rfl hc303 <| J.skip rfl rfl rfl rfl hc303 <| J.skip rfl rfl rfl rfl hc303 <| jv (.bool true) (V.pickT rfl hc303 rfl) <| J.nil ?_
         exact ⟨rfl, ⟨(by simp only [hc303]; rfl), rfl, rfl, rfl, rfl, trivial⟩, rfl, rfl⟩
       refine J.run rfl rfl rfl hc303 <| jv _ (V.fad Try.underlying81 rfl nz3 rfl) <| J.run rfl rfl rfl hc303 <| jv (ii x288.2) (V.ld rfl (Ld.sc sc3 (Rd.cl 0 rfl rfl))) <| J.run rfl rfl rfl hc303 <| jv (.bool (decide (x288.2 < 0))) (V.lss rfl rfl) <| jv (.bool (decide (x288.2 < 0))) (V.pickF rfl hc303 rfl) ?_
       refine J.nil ?_
       exact ⟨rfl, ⟨(by simp only [hc303]; rfl), rfl, rfl, rfl, rfl, trivial⟩, rfl, rfl⟩
     intro ρ
     refine jm (.bool (((decide (x288.1 < 0)) || (decide (xa.1 ≤ x288.1))) || (decide (x288.2 < 0)))) rfl <| J.cut 6 <| jmeet [(58, .bool ((((decide (x288.1 < 0)) || (decide (xa.1 ≤ x288.1))) || (decide (x288.2 < 0))) || (decide (xa.1 ≤ x288.2)))), (1, .pointer (some ⟨b158, 0, none⟩)), (2, .pointer (some ⟨b159, 0, none⟩)), (3, ii i260)] ?_ ?_
     · rcases bt (((decide (x288.1 < 0)) || (decide (xa.1 ≤ x288.1))) || (decide (x288.2 < 0))) with hc306 | hc306
       · refine J.skip rfl rfl rfl rfl hc306 <| J.skip rfl rfl rfl rfl hc306 <| J.skip rfl rfl rfl rfl hc306 <| J.skip rfl rfl rfl rfl hc306 <| J.skip rfl rfl rfl rfl hc306 <| jv (.bool true) (V.pickT rfl hc306 rfl) <| J.nil ?_
         exact ⟨rfl, ⟨(by simp only [hc306]; rfl), rfl, rfl, rfl, trivial⟩, rfl, rfl⟩
       refine J.run rfl rfl rfl hc306 <| jv _ (V.fad Try.underlying81 rfl nz3 rfl) <| J.run rfl rfl rfl hc306 <| jv (ii x288.2) (V.ld rfl (Ld.sc sc3 (Rd.cl 0 rfl rfl))) <| J.run rfl rfl rfl hc306 <| jv _ (V.fad Try.underlying30 rfl nz3 rfl) <| J.run rfl rfl rfl hc306 ?_
       refine jv (ii xa.1) (V.ld rfl (Ld.sc sc3 (Rd.cl 1 rfl rfl))) <| J.run rfl rfl rfl hc306 <| jv (.bool (decide (xa.1 ≤ x288.2))) (V.geq rfl rfl) <| jv (.bool (decide (xa.1 ≤ x288.2))) (V.pickF rfl hc306 rfl) <| J.nil ?_
       exact ⟨rfl, ⟨(by simp only [hc306]; rfl), rfl, rfl, rfl, trivial⟩, rfl, rfl⟩
     intro ρ
     refine J.nil <| cc rfl h283 (fun hc307 h283 => ?_) fun hc307 h283 => ?_
     · refine CJ.seq <| CJ.region <| jm (ii i260) rfl <| jv (.agg #[ii 7, ii 1, ii i260, ii 0]) (V.build inf70 places70 rfl rfl) <| J.front 2 rfl <| js [ii 7, ii 1, ii i260, ii 0] sz70 rfl rfl rfl rfl rfl rfl <| J.nil ?_
       refine CJ.ret ?_
       obtain rfl := si h283
       refine ⟨nofun, fun e => ?_⟩
       subst e
       refine .inr ⟨nofun, ?_⟩
       obtain rfl := si h
       exact ⟨_, _, Res.one rfl ⟨_, _, rfl, Ld.agg (cs := [ii 7, ii 1, ii i260, ii 0]) Try.underlying70 sz70 rfl (Rd.cls 0 0 rfl rfl)⟩, ⟨7, 1, i260, 0, rfl, rfl, rfl⟩, (Hp.le_refl _), fun w hs => (Sep.dropAt 0 rfl (Sep.dropAt 0 rfl (Sep.dropAt 0 rfl hs)))⟩
     refine CJ.skip <| CJ.region <| jm (ii i260) rfl <| jv (ii (IntKind.wrap .i64 (i260 + 1))) (V.add rfl rfl) <| ja (ii (IntKind.wrap .i64 (i260 + 1))) rfl <| J.dropAt 0 rfl <| J.nil ?_
     obtain rfl := si h283
     exact ⟨rfl, ⟨IntKind.wrap .i64 (i260 + 1), rfl, ⟨rfl, rfl, rfl, trivial⟩, rfl, rfl⟩⟩
   refine CJ.dropAt 0 rfl <| CJ.exit ?_
   obtain rfl := si h283
   refine ⟨nofun, fun e => ?_⟩
   subst e
   exact .inl ⟨rfl, _, rfl, ⟨rfl, ⟨rfl, trivial⟩, rfl, rfl⟩⟩
 rintro s ρ _ _ ho308 ⟨rfl, hf309, rfl, rfl⟩
 subst ho308
 obtain ⟨ρ, rfl⟩ := hf309.ex
 refine PJ.done <| CJ.seq <| CJ.region <| jv (.agg #[ii 0, ii 0, ii 0, ii 0]) (V.build inf70 places70 rfl rfl) <| js [ii 0, ii 0, ii 0, ii 0] sz70 rfl rfl rfl rfl rfl rfl <| J.nil <| CJ.ret ?_
 obtain rfl := si h
 exact ⟨_, _, Res.one rfl ⟨_, _, rfl, Ld.agg (cs := [ii 0, ii 0, ii 0, ii 0]) Try.underlying70 sz70 rfl (Rd.cls 0 0 rfl rfl)⟩, ⟨0, 0, 0, 0, rfl, rfl, rfl⟩, (Hp.le_refl _), fun w hs => (Sep.dropAt 0 rfl hs)⟩
noncomputable def fn_ref15_Check_l1 (xa : (List (Int × Bool))) (xb : Int) : Int → Option (Int ⊕ (Unit ⊕ Int)) := fun (i365 : Int) => cond (decide (i365 < (((xa.length : Nat) : Int)))) ((getI xa i365).bind fun x405 => (cond (decide (x405.1 < 0)) (some (true)) ((getI xa i365).bind fun x427 => some (decide (xb ≤ x427.1)))).bind fun t424 => cond (t424) (some (.inr ((.inr (7))))) (some (.inl (IntKind.wrap .i64 (i365 + 1))))) (some (.inr ((.inl ()))))
noncomputable def fn_ref15_Check (xa : (List (Int × Bool))) (xb : Int) : Option Int :=
  cond (decide (16 < (((xa.length : Nat) : Int)))) (some (6)) ((loop (fn_ref15_Check_l1 xa xb) 0 : Option (Unit ⊕ Int)).bind fun o => match o with | .inr r => some r | .inl () => some (0))
set_option maxRecDepth 100000 in
set_option maxHeartbeats 4000000 in
theorem ref15_Check_ok {K : Hp} {xa : (List (Int × Bool))} {xb : Int} {adxa_0 : Option Addr} {cpxa_0 : Nat} (fxa_0 : Is K (.sl (.cons (.int .i64) (.one .bool))) [.slice adxa_0 xa.length cpxa_0] xa) {r : Int} (h : fn_ref15_Check xa xb = some r) :
    Tr Try.prog 46 #[.agg #[.slice adxa_0 xa.length cpxa_0], ii xb] K [] (fun v K' L' => (∃ (i220 : Int), i220 = r ∧ ii i220 = v ∧ L' = []) ∧ K = K') := by
 refine Tr.k <| Tr.of Try.func46 rfl Try.ntmps46 rfl fun E F => ?_
 unfold fn_ref15_Check at h
 refine CJ.seq <| CJ.region <| jbx [.slice adxa_0 xa.length cpxa_0] rfl rfl fun b221 => ja (ii 0) rfl <| J.nil <| CJ.seq <| CJ.seq ?_
 refine CJ.region <| jv _ (V.fad Try.underlying26 rfl nz24 rfl) <| jv (.slice adxa_0 xa.length cpxa_0) (V.ld rfl (Ld.sc sc24 (Rd.cl 0 rfl rfl))) <| jv (ii (((xa.length : Nat) : Int))) (V.len Try.underlying24 rfl) <| jv (.bool (decide (16 < (((xa.length : Nat) : Int))))) (V.gtr rfl rfl) <| J.nil <| cc rfl h (fun hc222 h => ?_) fun hc222 h => ?_
 · refine CJ.seq <| CJ.region <| ja (ii 6) rfl <| J.nil <| CJ.ret ?_
   obtain rfl := si h
   exact ⟨_, _, Res.one rfl rfl, ⟨6, rfl, rfl, rfl⟩, (Hp.le_refl _), fun w hs => (Sep.dropAt 0 rfl hs)⟩
 refine CJ.skip <| CJ.seq <| CJ.seq <| CJ.region <| ja (ii 0) rfl <| J.nil ?_
 obtain ⟨o329, ho330, h⟩ := ob h
 refine CJ.joinN (o := o329) (fun s ρ K' L' => () = s ∧ Fits [] ρ ∧ K = K' ∧ F = L') ?_ ?_
 · refine CJ.block <| CJ.loop (fun s ρ K' L' => ∃ (i365 : Int), i365 = s ∧ Fits [(1, ii xb), (2, .pointer (some ⟨b221, 0, none⟩)), (5, ii i365)] ρ ∧ K = K' ∧ L' = Cl b221 26 [.slice adxa_0 xa.length cpxa_0] :: F) ho330 ⟨0, rfl, ⟨rfl, rfl, rfl, trivial⟩, rfl, rfl⟩ ?_
   rintro s ρ _ _ r403 ⟨i365, rfl, hf401, rfl, rfl⟩ h400
   obtain ⟨ρ, rfl⟩ := hf401.ex
   refine CJ.seq <| CJ.seq <| CJ.region <| jm (ii i365) rfl <| jv _ (V.fad Try.underlying26 rfl nz24 rfl) <| jv (.slice adxa_0 xa.length cpxa_0) (V.ld rfl (Ld.sc sc24 (Rd.cl 0 rfl rfl))) <| jv (ii (((xa.length : Nat) : Int))) (V.len Try.underlying24 rfl) ?_
   refine jv (.bool (decide (i365 < (((xa.length : Nat) : Int))))) (V.lss rfl rfl) <| J.nil <| cc rfl h400 (fun hc404 h400 => ?_) fun hc404 h400 => ?_
   · refine CJ.skip <| CJ.seq <| CJ.block <| CJ.seq <| CJ.region <| jv _ (V.fad Try.underlying26 rfl nz24 rfl) <| jv (.slice adxa_0 xa.length cpxa_0) (V.ld rfl (Ld.sc sc24 (Rd.cl 0 rfl rfl))) ?_
     refine jm (ii i365) rfl ?_
     obtain ⟨x405, hx406, h400⟩ := ob h400
     obtain ⟨p407, p408, p409⟩ := getI_some hx406
     obtain ⟨b410, o411, e412, a413⟩ := (fxa_0).at p408
     refine jv _ (V.iad Try.underlying24 sz96 rfl e412 rfl p407 p409) <| jv _ (V.fad Try.underlying96 rfl nz3 rfl) <| jv (ii x405.1) (V.ld rfl (Ld.sc sc3 (Rd.k ((a413).fst).int (Hp.le_refl _)))) <| jv (.bool (decide (x405.1 < 0))) (V.lss rfl rfl) <| jm (.bool (decide (x405.1 < 0))) rfl <| J.cut 9 ?_
     obtain ⟨t424, ht425, h400⟩ := ob h400
     refine jmeet [(33, .bool t424), (1, ii xb), (2, .pointer (some ⟨b221, 0, none⟩)), (5, ii i365)] ?_ ?_
     · rcases bt (decide (x405.1 < 0)) with hc426 | hc426
       · have ht425 := ct hc426 ht425
         refine J.skip rfl rfl rfl rfl hc426 <| J.skip rfl rfl rfl rfl hc426 <| J.skip rfl rfl rfl rfl hc426 <| J.skip rfl rfl rfl rfl hc426 <| J.skip rfl rfl rfl rfl hc426 <| J.skip rfl rfl rfl rfl hc426 <| J.skip rfl rfl rfl rfl hc426 ?_
         refine J.skip rfl rfl rfl rfl hc426 <| jv (.bool true) (V.pickT rfl hc426 rfl) <| J.nil ?_
         obtain rfl := si ht425
         exact ⟨rfl, ⟨rfl, rfl, rfl, rfl, trivial⟩, rfl, rfl⟩
       have ht425 := cf hc426 ht425
       refine J.run rfl rfl rfl hc426 <| jv _ (V.fad Try.underlying26 rfl nz24 rfl) <| J.run rfl rfl rfl hc426 <| jv (.slice adxa_0 xa.length cpxa_0) (V.ld rfl (Ld.sc sc24 (Rd.cl 0 rfl rfl))) <| J.run rfl rfl rfl hc426 <| jm (ii i365) rfl <| J.run rfl rfl rfl hc426 ?_
       obtain ⟨x427, hx428, ht425⟩ := ob ht425
       obtain ⟨p429, p430, p431⟩ := getI_some hx428
       obtain ⟨b432, o433, e434, a435⟩ := (fxa_0).at p430
       refine jv _ (V.iad Try.underlying24 sz96 rfl e434 rfl p429 p431) <| J.run rfl rfl rfl hc426 <| jv _ (V.fad Try.underlying96 rfl nz3 rfl) <| J.run rfl rfl rfl hc426 <| jv (ii x427.1) (V.ld rfl (Ld.sc sc3 (Rd.k ((a435).fst).int (Hp.le_refl _)))) <| J.run rfl rfl rfl hc426 <| jm (ii xb) rfl ?_
       refine J.run rfl rfl rfl hc426 <| jv (.bool (decide (xb ≤ x427.1))) (V.geq rfl rfl) <| jv (.bool (decide (xb ≤ x427.1))) (V.pickF rfl hc426 rfl) <| J.nil ?_
       obtain rfl := si ht425
       exact ⟨rfl, ⟨rfl, rfl, rfl, rfl, trivial⟩, rfl, rfl⟩
     intro ρ
     refine J.nil <| cc rfl h400 (fun hc436 h400 => ?_) fun hc436 h400 => ?_
     · refine CJ.seq <| CJ.region <| ja (ii 7) rfl <| J.nil <| CJ.ret ?_
       obtain rfl := si h400
       refine ⟨nofun, fun e => ?_⟩
       subst e
       refine .inr ⟨nofun, ?_⟩
       obtain rfl := si h
       exact ⟨_, _, Res.one rfl rfl, ⟨7, rfl, rfl, rfl⟩, (Hp.le_refl _), fun w hs => (Sep.dropAt 0 rfl hs)⟩
     refine CJ.skip <| CJ.region <| jm (ii i365) rfl <| jv (ii (IntKind.wrap .i64 (i365 + 1))) (V.add rfl rfl) <| ja (ii (IntKind.wrap .i64 (i365 + 1))) rfl <| J.nil ?_
     obtain rfl := si h400
     exact ⟨rfl, ⟨IntKind.wrap .i64 (i365 + 1), rfl, ⟨rfl, rfl, rfl, trivial⟩, rfl, rfl⟩⟩
   refine CJ.dropAt 0 rfl <| CJ.exit ?_
   obtain rfl := si h400
   refine ⟨nofun, fun e => ?_⟩
   subst e
   exact .inl ⟨rfl, _, rfl, ⟨rfl, trivial, rfl, rfl⟩⟩
 rintro s ρ _ _ ho437 ⟨rfl, hf438, rfl, rfl⟩
 subst ho437
 obtain ⟨ρ, rfl⟩ := hf438.ex
 refine PJ.done <| CJ.seq <| CJ.region <| ja (ii 0) rfl <| J.nil <| CJ.ret ?_
 obtain rfl := si h
 exact ⟨_, _, Res.one rfl rfl, ⟨0, rfl, rfl, rfl⟩, (Hp.le_refl _), fun w hs => hs⟩
noncomputable def fn_ref15_Shape_l1 (xa : (List (Int × Bool))) (xb : (List (Int × Bool))) : Int → Option (Int ⊕ (Unit ⊕ Bool)) := fun (i417 : Int) => cond (decide (i417 < (((xa.length : Nat) : Int)))) ((getI xa i417).bind fun x480 => (getI xb i417).bind fun x489 => cond (!(x480.2 == x489.2)) (some (.inr ((.inr (false))))) (some (.inl (IntKind.wrap .i64 (i417 + 1))))) (some (.inr ((.inl ()))))
noncomputable def fn_ref15_Shape (xa : (List (Int × Bool))) (xb : (List (Int × Bool))) : Option Bool :=
  cond (!decide ((((xa.length : Nat) : Int)) = (((xb.length : Nat) : Int)))) (some (false)) ((loop (fn_ref15_Shape_l1 xa xb) 0 : Option (Unit ⊕ Bool)).bind fun o => match o with | .inr r => some r | .inl () => some (true))
set_option maxRecDepth 100000 in
set_option maxHeartbeats 4000000 in
theorem ref15_Shape_ok {K : Hp} {xa : (List (Int × Bool))} {xb : (List (Int × Bool))} {adxa_0 : Option Addr} {cpxa_0 : Nat} {adxb_0 : Option Addr} {cpxb_0 : Nat} (fxa_0 : Is K (.sl (.cons (.int .i64) (.one .bool))) [.slice adxa_0 xa.length cpxa_0] xa) (fxb_0 : Is K (.sl (.cons (.int .i64) (.one .bool))) [.slice adxb_0 xb.length cpxb_0] xb) {r : Bool} (h : fn_ref15_Shape xa xb = some r) :
    Tr Try.prog 47 #[.agg #[.slice adxa_0 xa.length cpxa_0], .agg #[.slice adxb_0 xb.length cpxb_0]] K [] (fun v K' L' => (∃ (t251 : Bool), t251 = r ∧ .bool t251 = v ∧ L' = []) ∧ K = K') := by
 refine Tr.k <| Tr.of Try.func47 rfl Try.ntmps47 rfl fun E F => ?_
 unfold fn_ref15_Shape at h
 refine CJ.seq <| CJ.region <| jbx [.slice adxa_0 xa.length cpxa_0] rfl rfl fun b252 => jbx [.slice adxb_0 xb.length cpxb_0] rfl rfl fun b253 => ja (.bool false) rfl <| J.nil <| CJ.seq ?_
 refine CJ.seq <| CJ.region <| jv _ (V.fad Try.underlying26 rfl nz24 rfl) <| jv (.slice adxa_0 xa.length cpxa_0) (V.ld rfl (Ld.sc sc24 (Rd.cl 1 rfl rfl))) <| jv (ii (((xa.length : Nat) : Int))) (V.len Try.underlying24 rfl) <| jv _ (V.fad Try.underlying26 rfl nz24 rfl) <| jv (.slice adxb_0 xb.length cpxb_0) (V.ld rfl (Ld.sc sc24 (Rd.cl 0 rfl rfl))) ?_
 refine jv (ii (((xb.length : Nat) : Int))) (V.len Try.underlying24 rfl) <| jv (.bool (!decide ((((xa.length : Nat) : Int)) = (((xb.length : Nat) : Int))))) (V.neq rfl rfl) <| J.nil <| cc rfl h (fun hc254 h => ?_) fun hc254 h => ?_
 · refine CJ.seq <| CJ.region <| ja (.bool false) rfl <| J.nil <| CJ.ret ?_
   obtain rfl := si h
   exact ⟨_, _, Res.one rfl rfl, ⟨false, rfl, rfl, rfl⟩, (Hp.le_refl _), fun w hs => (Sep.dropAt 0 rfl (Sep.dropAt 0 rfl hs))⟩
 refine CJ.skip <| CJ.seq <| CJ.seq <| CJ.region <| ja (ii 0) rfl <| J.nil ?_
 obtain ⟨o376, ho377, h⟩ := ob h
 refine CJ.joinN (o := o376) (fun s ρ K' L' => () = s ∧ Fits [] ρ ∧ K = K' ∧ F = L') ?_ ?_
 · refine CJ.block <| CJ.front 1 rfl <| CJ.loop (fun s ρ K' L' => ∃ (i417 : Int), i417 = s ∧ Fits [(2, .pointer (some ⟨b252, 0, none⟩)), (3, .pointer (some ⟨b253, 0, none⟩)), (5, ii i417)] ρ ∧ K = K' ∧ L' = Cl b252 26 [.slice adxa_0 xa.length cpxa_0] :: Cl b253 26 [.slice adxb_0 xb.length cpxb_0] :: F) ho377 ⟨0, rfl, ⟨rfl, rfl, rfl, trivial⟩, rfl, rfl⟩ ?_
   rintro s ρ _ _ r460 ⟨i417, rfl, hf458, rfl, rfl⟩ h457
   obtain ⟨ρ, rfl⟩ := hf458.ex
   refine CJ.seq <| CJ.seq <| CJ.region <| jm (ii i417) rfl <| jv _ (V.fad Try.underlying26 rfl nz24 rfl) <| jv (.slice adxa_0 xa.length cpxa_0) (V.ld rfl (Ld.sc sc24 (Rd.cl 0 rfl rfl))) <| jv (ii (((xa.length : Nat) : Int))) (V.len Try.underlying24 rfl) ?_
   refine jv (.bool (decide (i417 < (((xa.length : Nat) : Int))))) (V.lss rfl rfl) <| J.nil <| cc rfl h457 (fun hc461 h457 => ?_) fun hc461 h457 => ?_
   · refine CJ.skip <| CJ.seq <| CJ.block <| CJ.seq <| CJ.mix [Cl b252 26 [.slice adxa_0 xa.length cpxa_0], Cl b253 26 [.slice adxb_0 xb.length cpxb_0]] [] [0, 1, 2, 3, 4, 5, 6, 7, 8, 9, 10, 11, 12] [] mixO (by decide +kernel) ⟨0, rfl, 0, rfl, trivial⟩ rfl rfl rfl <| JM.nil <| qv _ (V.fad Try.underlying26 rfl nz24 rfl) ?_
     refine qv (.slice adxa_0 xa.length cpxa_0) (V.ld rfl (Ld.sc sc24 (Rd.cl 0 rfl rfl))) <| qm (ii i417) rfl ?_
     obtain ⟨x480, hx481, h457⟩ := ob h457
     obtain ⟨p482, p483, p484⟩ := getI_some hx481
     obtain ⟨b485, o486, e487, a488⟩ := (fxa_0).at p483
     refine qv _ (V.iad Try.underlying24 sz96 rfl e487 rfl p482 p484) <| qv _ (V.fad Try.underlying96 rfl nz4 rfl) <| qv (.bool x480.2) (V.ld rfl (Ld.sc sc4 (Rd.k (((a488).snd).one).bool (Hp.le_refl _)))) <| qv _ (V.fad Try.underlying26 rfl nz24 rfl) <| qv (.slice adxb_0 xb.length cpxb_0) (V.ld rfl (Ld.sc sc24 (Rd.cl 1 rfl rfl))) <| qm (ii i417) rfl ?_
     obtain ⟨x489, hx490, h457⟩ := ob h457
     obtain ⟨p491, p492, p493⟩ := getI_some hx490
     obtain ⟨b494, o495, e496, a497⟩ := (fxb_0).at p492
     refine qv _ (V.iad Try.underlying24 sz96 rfl e496 rfl p491 p493) <| qv _ (V.fad Try.underlying96 rfl nz4 rfl) <| qv (.bool x489.2) (V.ld rfl (Ld.sc sc4 (Rd.k (((a497).snd).one).bool (Hp.le_refl _)))) <| qv (.bool (!(x480.2 == x489.2))) (V.neb Try.underlying4 rfl rfl) <| JQ.nil <| J.nil <| cc rfl h457 (fun hc498 h457 => ?_) fun hc498 h457 => ?_
     · refine CJ.seq <| CJ.region <| ja (.bool false) rfl <| J.nil <| CJ.ret ?_
       obtain rfl := si h457
       refine ⟨nofun, fun e => ?_⟩
       subst e
       refine .inr ⟨nofun, ?_⟩
       obtain rfl := si h
       exact ⟨_, _, Res.one rfl rfl, ⟨false, rfl, rfl, rfl⟩, (Hp.le_refl _), fun w hs => (Sep.dropAt 0 rfl (Sep.dropAt 0 rfl hs))⟩
     refine CJ.skip <| CJ.region <| jm (ii i417) rfl <| jv (ii (IntKind.wrap .i64 (i417 + 1))) (V.add rfl rfl) <| ja (ii (IntKind.wrap .i64 (i417 + 1))) rfl <| J.nil ?_
     obtain rfl := si h457
     exact ⟨rfl, ⟨IntKind.wrap .i64 (i417 + 1), rfl, ⟨rfl, rfl, rfl, trivial⟩, rfl, rfl⟩⟩
   refine CJ.dropAt 0 rfl <| CJ.dropAt 0 rfl <| CJ.exit ?_
   obtain rfl := si h457
   refine ⟨nofun, fun e => ?_⟩
   subst e
   exact .inl ⟨rfl, _, rfl, ⟨rfl, trivial, rfl, rfl⟩⟩
 rintro s ρ _ _ ho499 ⟨rfl, hf500, rfl, rfl⟩
 subst ho499
 obtain ⟨ρ, rfl⟩ := hf500.ex
 refine PJ.done <| CJ.seq <| CJ.region <| ja (.bool true) rfl <| J.nil <| CJ.ret ?_
 obtain rfl := si h
 exact ⟨_, _, Res.one rfl rfl, ⟨true, rfl, rfl, rfl⟩, (Hp.le_refl _), fun w hs => hs⟩
noncomputable def fn_ref17_Check_l1 (xa : (Int × (List (Int × Int)) × (List (List (Int × Bool))) × (List (Int × Bool)))) : Int → Option (Int ⊕ (Unit ⊕ Int)) := fun (i525 : Int) => cond (decide (i525 < (((xa.2.1.length : Nat) : Int)))) ((getI xa.2.1 i525).bind fun x553 => cond ((((decide (x553.1 < 0)) || (decide (xa.1 ≤ x553.1))) || (decide (x553.2 < 0))) || (decide (xa.1 ≤ x553.2))) (some (.inr ((.inr (7))))) (some (.inl (IntKind.wrap .i64 (i525 + 1))))) (some (.inr ((.inl ()))))
noncomputable def fn_ref17_Check_l2 (xa : (Int × (List (Int × Int)) × (List (List (Int × Bool))) × (List (Int × Bool)))) : Int → Option (Int ⊕ (Unit ⊕ Int)) := fun (i746 : Int) => cond (decide (i746 < (((xa.2.2.1.length : Nat) : Int)))) ((getI xa.2.2.1 i746).bind fun x812 => (fn_ref15_Check x812 xa.1).bind fun i827 => cond (!decide (i827 = 0)) (some (.inr ((.inr (i827))))) (some (.inl (IntKind.wrap .i64 (i746 + 1))))) (some (.inr ((.inl ()))))
noncomputable def fn_ref17_Check (xa : (Int × (List (Int × Int)) × (List (List (Int × Bool))) × (List (Int × Bool)))) : Option Int :=
  cond (decide (xa.1 < 0)) (some (7)) (cond (((decide (16 < xa.1)) || (decide (16 < (((xa.2.1.length : Nat) : Int))))) || (decide (16 < (((xa.2.2.1.length : Nat) : Int))))) (some (6)) ((loop (fn_ref17_Check_l1 xa) 0 : Option (Unit ⊕ Int)).bind fun o => match o with | .inr r => some r | .inl () => (loop (fn_ref17_Check_l2 xa) 0 : Option (Unit ⊕ Int)).bind fun o => match o with | .inr r => some r | .inl () => (fn_ref15_Check xa.2.2.2 xa.1).bind fun i837 => some (i837)))
set_option maxRecDepth 100000 in
set_option maxHeartbeats 4000000 in
theorem ref17_Check_ok {K : Hp} {xa : (Int × (List (Int × Int)) × (List (List (Int × Bool))) × (List (Int × Bool)))} {adxa_1 : Option Addr} {cpxa_1 : Nat} {adxa_2 : Option Addr} {cpxa_2 : Nat} {adxa_3 : Option Addr} {cpxa_3 : Nat} (fxa_1 : Is K (.sl (.cons (.int .i64) (.one (.int .i64)))) [.slice adxa_1 xa.2.1.length cpxa_1] xa.2.1) (fxa_2 : Is K (.sl (.one (.sl (.cons (.int .i64) (.one .bool))))) [.slice adxa_2 xa.2.2.1.length cpxa_2] xa.2.2.1) (fxa_3 : Is K (.sl (.cons (.int .i64) (.one .bool))) [.slice adxa_3 xa.2.2.2.length cpxa_3] xa.2.2.2) {r : Int} (h : fn_ref17_Check xa = some r) :
    Tr Try.prog 48 #[.agg #[ii xa.1, .slice adxa_1 xa.2.1.length cpxa_1, .slice adxa_2 xa.2.2.1.length cpxa_2, .slice adxa_3 xa.2.2.2.length cpxa_3]] K [] (fun v K' L' => (∃ (i421 : Int), i421 = r ∧ ii i421 = v ∧ L' = []) ∧ K = K') := by
 refine Tr.k <| Tr.of Try.func48 rfl Try.ntmps48 rfl fun E F => ?_
 unfold fn_ref17_Check at h
 refine CJ.seq <| CJ.region <| jbx [ii xa.1, .slice adxa_1 xa.2.1.length cpxa_1, .slice adxa_2 xa.2.2.1.length cpxa_2, .slice adxa_3 xa.2.2.2.length cpxa_3] rfl rfl fun b422 => ja (ii 0) rfl <| J.nil <| CJ.seq <| CJ.seq ?_
 refine CJ.region <| jv _ (V.fad Try.underlying53 rfl nz3 rfl) <| jv (ii xa.1) (V.ld rfl (Ld.sc sc3 (Rd.cl 0 rfl rfl))) <| jv (.bool (decide (xa.1 < 0))) (V.lss rfl rfl) <| J.nil <| cc rfl h (fun hc423 h => ?_) fun hc423 h => ?_
 · refine CJ.seq <| CJ.region <| ja (ii 7) rfl <| J.nil <| CJ.ret ?_
   obtain rfl := si h
   exact ⟨_, _, Res.one rfl rfl, ⟨7, rfl, rfl, rfl⟩, (Hp.le_refl _), fun w hs => (Sep.dropAt 0 rfl hs)⟩
 refine CJ.skip <| CJ.seq <| CJ.seq <| CJ.region <| jv _ (V.fad Try.underlying53 rfl nz3 rfl) <| jv (ii xa.1) (V.ld rfl (Ld.sc sc3 (Rd.cl 0 rfl rfl))) <| jv (.bool (decide (16 < xa.1))) (V.gtr rfl rfl) ?_
 refine jm (.bool (decide (16 < xa.1))) rfl <| J.cut 5 <| jmeet [(18, .bool ((decide (16 < xa.1)) || (decide (16 < (((xa.2.1.length : Nat) : Int)))))), (1, .pointer (some ⟨b422, 0, none⟩))] ?_ ?_
 · rcases bt (decide (16 < xa.1)) with hc426 | hc426
   · refine J.skip rfl rfl rfl rfl hc426 <| J.skip rfl rfl rfl rfl hc426 <| J.skip rfl rfl rfl rfl hc426 <| J.skip rfl rfl rfl rfl hc426 <| jv (.bool true) (V.pickT rfl hc426 rfl) <| J.nil ?_
     exact ⟨rfl, ⟨(by simp only [hc426]; rfl), rfl, trivial⟩, rfl, rfl⟩
   refine J.run rfl rfl rfl hc426 <| jv _ (V.fad Try.underlying53 rfl nz22 rfl) <| J.run rfl rfl rfl hc426 <| jv (.slice adxa_1 xa.2.1.length cpxa_1) (V.ld rfl (Ld.sc sc22 (Rd.cl 0 rfl rfl))) <| J.run rfl rfl rfl hc426 <| jv (ii (((xa.2.1.length : Nat) : Int))) (V.len Try.underlying22 rfl) <| J.run rfl rfl rfl hc426 ?_
   refine jv (.bool (decide (16 < (((xa.2.1.length : Nat) : Int))))) (V.gtr rfl rfl) <| jv (.bool (decide (16 < (((xa.2.1.length : Nat) : Int))))) (V.pickF rfl hc426 rfl) <| J.nil ?_
   exact ⟨rfl, ⟨(by simp only [hc426]; rfl), rfl, trivial⟩, rfl, rfl⟩
 intro ρ
 refine jm (.bool ((decide (16 < xa.1)) || (decide (16 < (((xa.2.1.length : Nat) : Int)))))) rfl <| J.cut 5 <| jmeet [(24, .bool (((decide (16 < xa.1)) || (decide (16 < (((xa.2.1.length : Nat) : Int))))) || (decide (16 < (((xa.2.2.1.length : Nat) : Int)))))), (1, .pointer (some ⟨b422, 0, none⟩))] ?_ ?_
 · rcases bt ((decide (16 < xa.1)) || (decide (16 < (((xa.2.1.length : Nat) : Int))))) with hc429 | hc429
   · refine J.skip rfl rfl rfl rfl hc429 <| J.skip rfl rfl rfl rfl hc429 <| J.skip rfl rfl rfl rfl hc429 <| J.skip rfl rfl rfl rfl hc429 <| jv (.bool true) (V.pickT rfl hc429 rfl) <| J.nil ?_
     exact ⟨rfl, ⟨(by simp only [hc429]; rfl), rfl, trivial⟩, rfl, rfl⟩
   refine J.run rfl rfl rfl hc429 <| jv _ (V.fad Try.underlying53 rfl nz23 rfl) <| J.run rfl rfl rfl hc429 <| jv (.slice adxa_2 xa.2.2.1.length cpxa_2) (V.ld rfl (Ld.sc sc23 (Rd.cl 0 rfl rfl))) <| J.run rfl rfl rfl hc429 <| jv (ii (((xa.2.2.1.length : Nat) : Int))) (V.len Try.underlying23 rfl) <| J.run rfl rfl rfl hc429 ?_
   refine jv (.bool (decide (16 < (((xa.2.2.1.length : Nat) : Int))))) (V.gtr rfl rfl) <| jv (.bool (decide (16 < (((xa.2.2.1.length : Nat) : Int))))) (V.pickF rfl hc429 rfl) <| J.nil ?_
   exact ⟨rfl, ⟨(by simp only [hc429]; rfl), rfl, trivial⟩, rfl, rfl⟩
 intro ρ
 refine J.nil <| cc rfl h (fun hc430 h => ?_) fun hc430 h => ?_
 · refine CJ.seq <| CJ.region <| ja (ii 6) rfl <| J.nil <| CJ.ret ?_
   obtain rfl := si h
   exact ⟨_, _, Res.one rfl rfl, ⟨6, rfl, rfl, rfl⟩, (Hp.le_refl _), fun w hs => (Sep.dropAt 0 rfl hs)⟩
 refine CJ.skip <| CJ.seq <| CJ.seq <| CJ.region <| ja (ii 0) rfl <| J.nil ?_
 obtain ⟨o501, ho502, h⟩ := ob h
 refine CJ.joinN (o := o501) (fun s ρ K' L' => () = s ∧ Fits [(1, .pointer (some ⟨b422, 0, none⟩))] ρ ∧ K = K' ∧ L' = Cl b422 53 [ii xa.1, .slice adxa_1 xa.2.1.length cpxa_1, .slice adxa_2 xa.2.2.1.length cpxa_2, .slice adxa_3 xa.2.2.2.length cpxa_3] :: F) ?_ ?_
 · refine CJ.block <| CJ.loop (fun s ρ K' L' => ∃ (i525 : Int), i525 = s ∧ Fits [(1, .pointer (some ⟨b422, 0, none⟩)), (3, ii i525)] ρ ∧ K = K' ∧ L' = Cl b422 53 [ii xa.1, .slice adxa_1 xa.2.1.length cpxa_1, .slice adxa_2 xa.2.2.1.length cpxa_2, .slice adxa_3 xa.2.2.2.length cpxa_3] :: F) ho502 ⟨0, rfl, ⟨rfl, rfl, trivial⟩, rfl, rfl⟩ ?_
   rintro s ρ _ _ r551 ⟨i525, rfl, hf549, rfl, rfl⟩ h548
   obtain ⟨ρ, rfl⟩ := hf549.ex
   refine CJ.seq <| CJ.seq <| CJ.region <| jm (ii i525) rfl <| jv _ (V.fad Try.underlying53 rfl nz22 rfl) <| jv (.slice adxa_1 xa.2.1.length cpxa_1) (V.ld rfl (Ld.sc sc22 (Rd.cl 0 rfl rfl))) <| jv (ii (((xa.2.1.length : Nat) : Int))) (V.len Try.underlying22 rfl) ?_
   refine jv (.bool (decide (i525 < (((xa.2.1.length : Nat) : Int))))) (V.lss rfl rfl) <| J.nil <| cc rfl h548 (fun hc552 h548 => ?_) fun hc552 h548 => ?_
   · refine CJ.skip <| CJ.seq <| CJ.block <| CJ.seq <| CJ.region <| jv _ (V.fad Try.underlying53 rfl nz22 rfl) <| jv (.slice adxa_1 xa.2.1.length cpxa_1) (V.ld rfl (Ld.sc sc22 (Rd.cl 0 rfl rfl))) ?_
     refine jm (ii i525) rfl ?_
     obtain ⟨x553, hx554, h548⟩ := ob h548
     obtain ⟨p555, p556, p557⟩ := getI_some hx554
     obtain ⟨b558, o559, e560, a561⟩ := (fxa_1).at p556
     refine jv _ (V.iad Try.underlying22 sz81 rfl e560 rfl p555 p557) <| jv (.agg #[ii x553.1, ii x553.2]) (V.ld rfl (Ld.aggK (cs := [ii x553.1, ii x553.2]) Try.underlying81 sz81 rfl ⟨((a561).fst).int, (((a561).snd).one).int, trivial⟩ (Hp.le_refl _))) <| jal inf81 [ii 0, ii 0] rfl fun b562 => js [ii x553.1, ii x553.2] sz81 rfl rfl rfl rfl rfl rfl <| J.nil <| CJ.seq <| CJ.region ?_
     refine jv _ (V.fad Try.underlying81 rfl nz3 rfl) <| jv (ii x553.1) (V.ld rfl (Ld.sc sc3 (Rd.cl 0 rfl rfl))) <| jv (.bool (decide (x553.1 < 0))) (V.lss rfl rfl) <| jm (.bool (decide (x553.1 < 0))) rfl <| J.cut 6 <| jmeet [(46, .bool ((decide (x553.1 < 0)) || (decide (xa.1 ≤ x553.1)))), (1, .pointer (some ⟨b422, 0, none⟩)), (3, ii i525), (4, .pointer (some ⟨b562, 0, none⟩))] ?_ ?_
     · rcases bt (decide (x553.1 < 0)) with hc565 | hc565
       · refine J.skip rfl rfl rfl rfl hc565 <| J.skip rfl rfl rfl rfl hc565 <| J.skip rfl rfl rfl rfl hc565 <| J.skip rfl rfl rfl rfl hc565 <| J.skip rfl rfl rfl rfl hc565 <| jv (.bool true) (V.pickT rfl hc565 rfl) <| J.nil ?_
         exact ⟨rfl, ⟨(by simp only [hc565]; rfl), rfl, rfl, rfl, trivial⟩, rfl, rfl⟩
       refine J.run rfl rfl rfl hc565 <| jv _ (V.fad Try.underlying81 rfl nz3 rfl) <| J.run rfl rfl rfl hc565 <| jv (ii x553.1) (V.ld rfl (Ld.sc sc3 (Rd.cl 0 rfl rfl))) <| J.run rfl rfl rfl hc565 <| jv _ (V.fad Try.underlying53 rfl nz3 rfl) <| J.run rfl rfl rfl hc565 ?_
       refine jv (ii xa.1) (V.ld rfl (Ld.sc sc3 (Rd.cl 1 rfl rfl))) <| J.run rfl rfl rfl hc565 <| jv (.bool (decide (xa.1 ≤ x553.1))) (V.geq rfl rfl) <| jv (.bool (decide (xa.1 ≤ x553.1))) (V.pickF rfl hc565 rfl) <| J.nil ?_
       exact ⟨rfl, ⟨(by simp only [hc565]; rfl), rfl, rfl, rfl, trivial⟩, rfl, rfl⟩
     intro ρ
     refine jm (.bool ((decide (x553.1 < 0)) || (decide (xa.1 ≤ x553.1)))) rfl <| J.cut 4 <| jmeet [(51, .bool (((decide (x553.1 < 0)) || (decide (xa.1 ≤ x553.1))) || (decide (x553.2 < 0)))), (1, .pointer (some ⟨b422, 0, none⟩)), (3, ii i525), (4, .pointer (some ⟨b562, 0, none⟩))] ?_ ?_
     · rcases bt ((decide (x553.1 < 0)) || (decide (xa.1 ≤ x553.1))) with hc568 | hc568
       · refine J.skip rfl rfl rfl rfl hc568 <| J.skip rfl rfl rfl rfl hc568 <| J.skip rfl rfl rfl rfl hc568 <| jv (.bool true) (V.pickT rfl hc568 rfl) <| J.nil ?_
         exact ⟨rfl, ⟨(by simp only [hc568]; rfl), rfl, rfl, rfl, trivial⟩, rfl, rfl⟩
       refine J.run rfl rfl rfl hc568 <| jv _ (V.fad Try.underlying81 rfl nz3 rfl) <| J.run rfl rfl rfl hc568 <| jv (ii x553.2) (V.ld rfl (Ld.sc sc3 (Rd.cl 0 rfl rfl))) <| J.run rfl rfl rfl hc568 <| jv (.bool (decide (x553.2 < 0))) (V.lss rfl rfl) <| jv (.bool (decide (x553.2 < 0))) (V.pickF rfl hc568 rfl) ?_
       refine J.nil ?_
       exact ⟨rfl, ⟨(by simp only [hc568]; rfl), rfl, rfl, rfl, trivial⟩, rfl, rfl⟩
     intro ρ
     refine jm (.bool (((decide (x553.1 < 0)) || (decide (xa.1 ≤ x553.1))) || (decide (x553.2 < 0)))) rfl <| J.cut 6 <| jmeet [(58, .bool ((((decide (x553.1 < 0)) || (decide (xa.1 ≤ x553.1))) || (decide (x553.2 < 0))) || (decide (xa.1 ≤ x553.2)))), (1, .pointer (some ⟨b422, 0, none⟩)), (3, ii i525)] ?_ ?_
     · rcases bt (((decide (x553.1 < 0)) || (decide (xa.1 ≤ x553.1))) || (decide (x553.2 < 0))) with hc571 | hc571
       · refine J.skip rfl rfl rfl rfl hc571 <| J.skip rfl rfl rfl rfl hc571 <| J.skip rfl rfl rfl rfl hc571 <| J.skip rfl rfl rfl rfl hc571 <| J.skip rfl rfl rfl rfl hc571 <| jv (.bool true) (V.pickT rfl hc571 rfl) <| J.nil ?_
         exact ⟨rfl, ⟨(by simp only [hc571]; rfl), rfl, rfl, trivial⟩, rfl, rfl⟩
       refine J.run rfl rfl rfl hc571 <| jv _ (V.fad Try.underlying81 rfl nz3 rfl) <| J.run rfl rfl rfl hc571 <| jv (ii x553.2) (V.ld rfl (Ld.sc sc3 (Rd.cl 0 rfl rfl))) <| J.run rfl rfl rfl hc571 <| jv _ (V.fad Try.underlying53 rfl nz3 rfl) <| J.run rfl rfl rfl hc571 ?_
       refine jv (ii xa.1) (V.ld rfl (Ld.sc sc3 (Rd.cl 1 rfl rfl))) <| J.run rfl rfl rfl hc571 <| jv (.bool (decide (xa.1 ≤ x553.2))) (V.geq rfl rfl) <| jv (.bool (decide (xa.1 ≤ x553.2))) (V.pickF rfl hc571 rfl) <| J.nil ?_
       exact ⟨rfl, ⟨(by simp only [hc571]; rfl), rfl, rfl, trivial⟩, rfl, rfl⟩
     intro ρ
     refine J.nil <| cc rfl h548 (fun hc572 h548 => ?_) fun hc572 h548 => ?_
     · refine CJ.seq <| CJ.region <| ja (ii 7) rfl <| J.nil <| CJ.ret ?_
       obtain rfl := si h548
       refine ⟨nofun, fun e => ?_⟩
       subst e
       refine .inr ⟨nofun, ?_⟩
       obtain rfl := si h
       exact ⟨_, _, Res.one rfl rfl, ⟨7, rfl, rfl, rfl⟩, (Hp.le_refl _), fun w hs => (Sep.dropAt 0 rfl (Sep.dropAt 0 rfl hs))⟩
     refine CJ.skip <| CJ.region <| jm (ii i525) rfl <| jv (ii (IntKind.wrap .i64 (i525 + 1))) (V.add rfl rfl) <| ja (ii (IntKind.wrap .i64 (i525 + 1))) rfl <| J.dropAt 0 rfl <| J.nil ?_
     obtain rfl := si h548
     exact ⟨rfl, ⟨IntKind.wrap .i64 (i525 + 1), rfl, ⟨rfl, rfl, trivial⟩, rfl, rfl⟩⟩
   refine CJ.exit ?_
   obtain rfl := si h548
   refine ⟨nofun, fun e => ?_⟩
   subst e
   exact .inl ⟨rfl, _, rfl, ⟨rfl, ⟨rfl, trivial⟩, rfl, rfl⟩⟩
 rintro s ρ _ _ ho573 ⟨rfl, hf574, rfl, rfl⟩
 subst ho573
 obtain ⟨ρ, rfl⟩ := hf574.ex
 refine PJ.done <| CJ.seq <| CJ.seq <| CJ.region <| ja (ii 0) rfl <| J.nil ?_
 obtain ⟨o703, ho704, h⟩ := ob h
 refine CJ.joinN (o := o703) (fun s ρ K' L' => () = s ∧ Fits [(1, .pointer (some ⟨b422, 0, none⟩))] ρ ∧ K = K' ∧ L' = Cl b422 53 [ii xa.1, .slice adxa_1 xa.2.1.length cpxa_1, .slice adxa_2 xa.2.2.1.length cpxa_2, .slice adxa_3 xa.2.2.2.length cpxa_3] :: F) ?_ ?_
 · refine CJ.block <| CJ.loop (fun s ρ K' L' => ∃ (i746 : Int), i746 = s ∧ Fits [(1, .pointer (some ⟨b422, 0, none⟩)), (5, ii i746)] ρ ∧ K = K' ∧ L' = Cl b422 53 [ii xa.1, .slice adxa_1 xa.2.1.length cpxa_1, .slice adxa_2 xa.2.2.1.length cpxa_2, .slice adxa_3 xa.2.2.2.length cpxa_3] :: F) ho704 ⟨0, rfl, ⟨rfl, rfl, trivial⟩, rfl, rfl⟩ ?_
   rintro s ρ _ _ r791 ⟨i746, rfl, hf789, rfl, rfl⟩ h788
   obtain ⟨ρ, rfl⟩ := hf789.ex
   refine CJ.seq <| CJ.seq <| CJ.region <| jm (ii i746) rfl <| jv _ (V.fad Try.underlying53 rfl nz23 rfl) <| jv (.slice adxa_2 xa.2.2.1.length cpxa_2) (V.ld rfl (Ld.sc sc23 (Rd.cl 0 rfl rfl))) <| jv (ii (((xa.2.2.1.length : Nat) : Int))) (V.len Try.underlying23 rfl) ?_
   refine jv (.bool (decide (i746 < (((xa.2.2.1.length : Nat) : Int))))) (V.lss rfl rfl) <| J.nil <| cc rfl h788 (fun hc792 h788 => ?_) fun hc792 h788 => ?_
   · refine CJ.skip <| CJ.seq <| CJ.block <| CJ.seq <| CJ.mix [Cl b422 53 [ii xa.1, .slice adxa_1 xa.2.1.length cpxa_1, .slice adxa_2 xa.2.2.1.length cpxa_2, .slice adxa_3 xa.2.2.2.length cpxa_3]] [([0, 1, 2, 3, 4, 5, 6], 7)] [8] [] mixO (by decide +kernel) ⟨0, rfl, trivial⟩ rfl rfl rfl <| JM.cons <| qv _ (V.fad Try.underlying53 rfl nz23 rfl) ?_
     refine qv (.slice adxa_2 xa.2.2.1.length cpxa_2) (V.ld rfl (Ld.sc sc23 (Rd.cl 0 rfl rfl))) <| qm (ii i746) rfl ?_
     obtain ⟨x812, hx813, h788⟩ := ob h788
     obtain ⟨p814, p815, p816⟩ := getI_some hx813
     obtain ⟨b817, o818, e819, a820⟩ := (fxa_2).at p815
     refine qv _ (V.iad Try.underlying23 sz26 rfl e819 rfl p814 p816) ?_
     obtain ⟨ad821, cp822, c823, f824⟩ := ((a820).one).sl
     refine qv (.agg #[.slice ad821 x812.length cp822]) (V.ld rfl (Ld.aggK (cs := [.slice ad821 x812.length cp822]) Try.underlying26 sz26 rfl ⟨c823, trivial⟩ (Hp.le_refl _))) <| qv _ (V.fad Try.underlying53 rfl nz3 rfl) <| qv (ii xa.1) (V.ld rfl (Ld.sc sc3 (Rd.cl 0 rfl rfl))) <| JQ.nil ?_
     obtain ⟨r825, hr826, h788⟩ := ob h788
     refine JA.op rfl (A.call (L1 := []) Try.call46 rfl (ref15_Check_ok f824 hr826) rfl rfl) ?_
     rintro _ _ _ ⟨v828, _, rfl, ⟨⟨i827, rfl, rfl, rfl⟩, rfl⟩, _, rfl⟩
     refine ⟨fun w hs => Hold.sub (Hp.le_refl _) ⟨0, rfl, trivial⟩ hs, ?_⟩
     refine JM.nil <| qa (ii i827) rfl <| JQ.nil <| J.nil <| CJ.seq <| CJ.region <| jm (ii i827) rfl ?_
     refine jv (.bool (!decide (i827 = 0))) (V.neq rfl rfl) <| J.nil <| cc rfl h788 (fun hc831 h788 => ?_) fun hc831 h788 => ?_
     · refine CJ.seq <| CJ.region <| jm (ii i827) rfl <| ja (ii i827) rfl <| J.nil <| CJ.ret ?_
       obtain rfl := si h788
       refine ⟨nofun, fun e => ?_⟩
       subst e
       refine .inr ⟨nofun, ?_⟩
       obtain rfl := si h
       exact ⟨_, _, Res.one rfl rfl, ⟨i827, rfl, rfl, rfl⟩, (Hp.le_refl _), fun w hs => (Sep.dropAt 0 rfl hs)⟩
     refine CJ.skip <| CJ.region <| jm (ii i746) rfl <| jv (ii (IntKind.wrap .i64 (i746 + 1))) (V.add rfl rfl) <| ja (ii (IntKind.wrap .i64 (i746 + 1))) rfl <| J.nil ?_
     obtain rfl := si h788
     exact ⟨rfl, ⟨IntKind.wrap .i64 (i746 + 1), rfl, ⟨rfl, rfl, trivial⟩, rfl, rfl⟩⟩
   refine CJ.exit ?_
   obtain rfl := si h788
   refine ⟨nofun, fun e => ?_⟩
   subst e
   exact .inl ⟨rfl, _, rfl, ⟨rfl, ⟨rfl, trivial⟩, rfl, rfl⟩⟩
 rintro s ρ _ _ ho832 ⟨rfl, hf833, rfl, rfl⟩
 subst ho832
 obtain ⟨ρ, rfl⟩ := hf833.ex
 refine PJ.done <| CJ.seq <| CJ.region <| jv _ (V.fad Try.underlying53 rfl nz26 rfl) <| jv (.agg #[.slice adxa_3 xa.2.2.2.length cpxa_3]) (V.ld rfl (Ld.agg (cs := [.slice adxa_3 xa.2.2.2.length cpxa_3]) Try.underlying26 sz26 rfl (Rd.cls 0 3 rfl rfl))) <| jv _ (V.fad Try.underlying53 rfl nz3 rfl) <| jv (ii xa.1) (V.ld rfl (Ld.sc sc3 (Rd.cl 0 rfl rfl))) ?_
 obtain ⟨r835, hr836, h⟩ := ob h
 refine J.op rfl (A.call (L1 := []) Try.call46 rfl (ref15_Check_ok fxa_3 hr836) rfl rfl) ?_
 rintro _ _ _ ⟨v838, _, rfl, ⟨⟨i837, rfl, rfl, rfl⟩, rfl⟩, _, rfl⟩
 refine ja (ii i837) rfl <| J.nil <| CJ.ret ?_
 obtain rfl := si h
 exact ⟨_, _, Res.one rfl rfl, ⟨i837, rfl, rfl, rfl⟩, (Hp.le_refl _), fun w hs => (Sep.dropAt 0 rfl hs)⟩
noncomputable def fn_ref21_types_l1 (xa : (Int × Int × (List (Int × Int)) × (List (List (Int × Bool))) × (List (Int × Bool)) × (List (Int × (List (Int × Int)) × (List (List (Int × Bool))) × (List (Int × Bool)))) × (List ((List (Int × Int × Int × Int × Bool)) × (Int × Int × Int × (List Int) × (List Int) × (List Int)))))) : Int → Option (Int ⊕ (Unit ⊕ (Int × Int × Int × Int))) := fun (i682 : Int) => cond (decide (i682 < (((xa.2.2.2.1.length : Nat) : Int)))) ((getI xa.2.2.2.1 i682).bind fun x748 => (fn_ref15_Check x748 xa.2.1).bind fun i763 => cond (!decide (i763 = 0)) (some (.inr ((.inr ((i763, 2, i682, 0)))))) (some (.inl (IntKind.wrap .i64 (i682 + 1))))) (some (.inr ((.inl ()))))
noncomputable def fn_ref21_types_l2 (xa : (Int × Int × (List (Int × Int)) × (List (List (Int × Bool))) × (List (Int × Bool)) × (List (Int × (List (Int × Int)) × (List (List (Int × Bool))) × (List (Int × Bool)))) × (List ((List (Int × Int × Int × Int × Bool)) × (Int × Int × Int × (List Int) × (List Int) × (List Int)))))) : Int → Option (Int ⊕ (Unit ⊕ (Int × Int × Int × Int))) := fun (i944 : Int) => cond (decide (i944 < (((xa.2.2.2.2.2.1.length : Nat) : Int)))) ((getI xa.2.2.2.2.2.1 i944).bind fun x980 => (fn_ref17_Check (x980.1, x980.2.1, x980.2.2.1, x980.2.2.2)).bind fun i1003 => cond (!decide (i1003 = 0)) (some (.inr ((.inr ((i1003, 4, i944, 0)))))) (some (.inl (IntKind.wrap .i64 (i944 + 1))))) (some (.inr ((.inl ()))))
noncomputable def fn_ref21_types (xa : (Int × Int × (List (Int × Int)) × (List (List (Int × Bool))) × (List (Int × Bool)) × (List (Int × (List (Int × Int)) × (List (List (Int × Bool))) × (List (Int × Bool)))) × (List ((List (Int × Int × Int × Int × Bool)) × (Int × Int × Int × (List Int) × (List Int) × (List Int)))))) : Option (Int × Int × Int × Int) :=
  cond (decide ((((xa.2.2.2.1.length : Nat) : Int)) = 0)) (some ((14, 2, 0, 0))) (cond (decide (65536 < (((xa.2.2.2.1.length : Nat) : Int)))) (some ((6, 2, 0, 0))) ((loop (fn_ref21_types_l1 xa) 0 : Option (Unit ⊕ (Int × Int × Int × Int))).bind fun o => match o with | .inr r => some r | .inl () => (fn_ref15_Check xa.2.2.2.2.1 xa.1).bind fun i773 => cond (!decide (i773 = 0)) (some ((i773, 3, 0, 0))) ((getI xa.2.2.2.1 0).bind fun x797 => (fn_ref15_Shape x797 xa.2.2.2.2.1).bind fun t812 => cond (!t812) (some ((8, 3, 0, 0))) (cond (decide (65536 < (((xa.2.2.2.2.2.1.length : Nat) : Int)))) (some ((6, 4, 0, 0))) ((loop (fn_ref21_types_l2 xa) 0 : Option (Unit ⊕ (Int × Int × Int × Int))).bind fun o => match o with | .inr r => some r | .inl () => some ((0, 0, 0, 0)))))))
set_option maxRecDepth 100000 in
set_option maxHeartbeats 4000000 in
theorem ref21_types_ok {K : Hp} {xa : (Int × Int × (List (Int × Int)) × (List (List (Int × Bool))) × (List (Int × Bool)) × (List (Int × (List (Int × Int)) × (List (List (Int × Bool))) × (List (Int × Bool)))) × (List ((List (Int × Int × Int × Int × Bool)) × (Int × Int × Int × (List Int) × (List Int) × (List Int)))))} {adxa_2 : Option Addr} {cpxa_2 : Nat} {adxa_3 : Option Addr} {cpxa_3 : Nat} {adxa_4 : Option Addr} {cpxa_4 : Nat} {adxa_5 : Option Addr} {cpxa_5 : Nat} {adxa_6 : Option Addr} {cpxa_6 : Nat} (fxa_2 : Is K (.sl (.cons (.int .i64) (.one (.int .i64)))) [.slice adxa_2 xa.2.2.1.length cpxa_2] xa.2.2.1) (fxa_3 : Is K (.sl (.one (.sl (.cons (.int .i64) (.one .bool))))) [.slice adxa_3 xa.2.2.2.1.length cpxa_3] xa.2.2.2.1) (fxa_4 : Is K (.sl (.cons (.int .i64) (.one .bool))) [.slice adxa_4 xa.2.2.2.2.1.length cpxa_4] xa.2.2.2.2.1) (fxa_5 : Is K (.sl (.cons (.int .i64) (.cons (.sl (.cons (.int .i64) (.one (.int .i64)))) (.cons (.sl (.one (.sl (.cons (.int .i64) (.one .bool))))) (.one (.one (.sl (.cons (.int .i64) (.one .bool))))))))) [.slice adxa_5 xa.2.2.2.2.2.1.length cpxa_5] xa.2.2.2.2.2.1) (fxa_6 : Is K (.sl (.cons (.sl (.cons (.int .i64) (.cons (.int .i64) (.cons (.int .i64) (.cons (.int .i64) (.one .bool)))))) (.one (.cons (.int .i64) (.cons (.int .i64) (.cons (.int .i64) (.cons (.sl (.int .i64)) (.cons (.sl (.int .i64)) (.one (.sl (.int .i64))))))))))) [.slice adxa_6 xa.2.2.2.2.2.2.length cpxa_6] xa.2.2.2.2.2.2) {r : (Int × Int × Int × Int)} (h : fn_ref21_types xa = some r) :
    Tr Try.prog 36 #[.agg #[ii xa.1, ii xa.2.1, .slice adxa_2 xa.2.2.1.length cpxa_2, .slice adxa_3 xa.2.2.2.1.length cpxa_3, .slice adxa_4 xa.2.2.2.2.1.length cpxa_4, .slice adxa_5 xa.2.2.2.2.2.1.length cpxa_5, .slice adxa_6 xa.2.2.2.2.2.2.length cpxa_6]] K [] (fun v K' L' => (∃ (i504 : Int) (i505 : Int) (i506 : Int) (i507 : Int), (i504, i505, i506, i507) = r ∧ .agg #[ii i504, ii i505, ii i506, ii i507] = v ∧ L' = []) ∧ K = K') := by
 refine Tr.k <| Tr.of Try.func36 rfl Try.ntmps36 rfl fun E F => ?_
 unfold fn_ref21_types at h
 refine CJ.seq <| CJ.region <| jbx [ii xa.1, ii xa.2.1, .slice adxa_2 xa.2.2.1.length cpxa_2, .slice adxa_3 xa.2.2.2.1.length cpxa_3, .slice adxa_4 xa.2.2.2.2.1.length cpxa_4, .slice adxa_5 xa.2.2.2.2.2.1.length cpxa_5, .slice adxa_6 xa.2.2.2.2.2.2.length cpxa_6] rfl rfl fun b508 => jal inf70 [ii 0, ii 0, ii 0, ii 0] rfl fun b509 => J.nil <| CJ.seq <| CJ.seq ?_
 refine CJ.region <| jv _ (V.fad Try.underlying30 rfl nz23 rfl) <| jv (.slice adxa_3 xa.2.2.2.1.length cpxa_3) (V.ld rfl (Ld.sc sc23 (Rd.cl 1 rfl rfl))) <| jv (ii (((xa.2.2.2.1.length : Nat) : Int))) (V.len Try.underlying23 rfl) <| jv (.bool (decide ((((xa.2.2.2.1.length : Nat) : Int)) = 0))) (V.eql rfl rfl) <| J.nil <| cc rfl h (fun hc510 h => ?_) fun hc510 h => ?_
 · refine CJ.seq <| CJ.region <| jv (.agg #[ii 14, ii 2, ii 0, ii 0]) (V.build inf70 places70 rfl rfl) <| js [ii 14, ii 2, ii 0, ii 0] sz70 rfl rfl rfl rfl rfl rfl <| J.nil <| CJ.ret ?_
   obtain rfl := si h
   exact ⟨_, _, Res.one rfl ⟨_, _, rfl, Ld.agg (cs := [ii 14, ii 2, ii 0, ii 0]) Try.underlying70 sz70 rfl (Rd.cls 0 0 rfl rfl)⟩, ⟨14, 2, 0, 0, rfl, rfl, rfl⟩, (Hp.le_refl _), fun w hs => (Sep.dropAt 0 rfl (Sep.dropAt 0 rfl hs))⟩
 refine CJ.skip <| CJ.seq <| CJ.seq <| CJ.region <| jv _ (V.fad Try.underlying30 rfl nz23 rfl) <| jv (.slice adxa_3 xa.2.2.2.1.length cpxa_3) (V.ld rfl (Ld.sc sc23 (Rd.cl 1 rfl rfl))) <| jv (ii (((xa.2.2.2.1.length : Nat) : Int))) (V.len Try.underlying23 rfl) ?_
 refine jv (.bool (decide (65536 < (((xa.2.2.2.1.length : Nat) : Int))))) (V.gtr rfl rfl) <| J.nil <| cc rfl h (fun hc511 h => ?_) fun hc511 h => ?_
 · refine CJ.seq <| CJ.region <| jv (.agg #[ii 6, ii 2, ii 0, ii 0]) (V.build inf70 places70 rfl rfl) <| js [ii 6, ii 2, ii 0, ii 0] sz70 rfl rfl rfl rfl rfl rfl <| J.nil <| CJ.ret ?_
   obtain rfl := si h
   exact ⟨_, _, Res.one rfl ⟨_, _, rfl, Ld.agg (cs := [ii 6, ii 2, ii 0, ii 0]) Try.underlying70 sz70 rfl (Rd.cls 0 0 rfl rfl)⟩, ⟨6, 2, 0, 0, rfl, rfl, rfl⟩, (Hp.le_refl _), fun w hs => (Sep.dropAt 0 rfl (Sep.dropAt 0 rfl hs))⟩
 refine CJ.skip <| CJ.seq <| CJ.seq <| CJ.region <| ja (ii 0) rfl <| J.nil ?_
 obtain ⟨o639, ho640, h⟩ := ob h
 refine CJ.joinN (o := o639) (fun s ρ K' L' => () = s ∧ Fits [(1, .pointer (some ⟨b508, 0, none⟩)), (2, .pointer (some ⟨b509, 0, none⟩))] ρ ∧ K = K' ∧ L' = Cl b508 30 [ii xa.1, ii xa.2.1, .slice adxa_2 xa.2.2.1.length cpxa_2, .slice adxa_3 xa.2.2.2.1.length cpxa_3, .slice adxa_4 xa.2.2.2.2.1.length cpxa_4, .slice adxa_5 xa.2.2.2.2.2.1.length cpxa_5, .slice adxa_6 xa.2.2.2.2.2.2.length cpxa_6] :: Cl b509 70 [ii 0, ii 0, ii 0, ii 0] :: F) ?_ ?_
 · refine CJ.block <| CJ.front 1 rfl <| CJ.loop (fun s ρ K' L' => ∃ (i682 : Int), i682 = s ∧ Fits [(1, .pointer (some ⟨b508, 0, none⟩)), (2, .pointer (some ⟨b509, 0, none⟩)), (3, ii i682)] ρ ∧ K = K' ∧ L' = Cl b508 30 [ii xa.1, ii xa.2.1, .slice adxa_2 xa.2.2.1.length cpxa_2, .slice adxa_3 xa.2.2.2.1.length cpxa_3, .slice adxa_4 xa.2.2.2.2.1.length cpxa_4, .slice adxa_5 xa.2.2.2.2.2.1.length cpxa_5, .slice adxa_6 xa.2.2.2.2.2.2.length cpxa_6] :: Cl b509 70 [ii 0, ii 0, ii 0, ii 0] :: F) ho640 ⟨0, rfl, ⟨rfl, rfl, rfl, trivial⟩, rfl, rfl⟩ ?_
   rintro s ρ _ _ r727 ⟨i682, rfl, hf725, rfl, rfl⟩ h724
   obtain ⟨ρ, rfl⟩ := hf725.ex
   refine CJ.seq <| CJ.seq <| CJ.region <| jm (ii i682) rfl <| jv _ (V.fad Try.underlying30 rfl nz23 rfl) <| jv (.slice adxa_3 xa.2.2.2.1.length cpxa_3) (V.ld rfl (Ld.sc sc23 (Rd.cl 0 rfl rfl))) <| jv (ii (((xa.2.2.2.1.length : Nat) : Int))) (V.len Try.underlying23 rfl) ?_
   refine jv (.bool (decide (i682 < (((xa.2.2.2.1.length : Nat) : Int))))) (V.lss rfl rfl) <| J.nil <| cc rfl h724 (fun hc728 h724 => ?_) fun hc728 h724 => ?_
   · refine CJ.skip <| CJ.seq <| CJ.block <| CJ.seq <| CJ.mix [Cl b508 30 [ii xa.1, ii xa.2.1, .slice adxa_2 xa.2.2.1.length cpxa_2, .slice adxa_3 xa.2.2.2.1.length cpxa_3, .slice adxa_4 xa.2.2.2.2.1.length cpxa_4, .slice adxa_5 xa.2.2.2.2.2.1.length cpxa_5, .slice adxa_6 xa.2.2.2.2.2.2.length cpxa_6], Cl b509 70 [ii 0, ii 0, ii 0, ii 0]] [([0, 1, 2, 3, 4, 5, 6], 7)] [8] [] mixO (by decide +kernel) ⟨0, rfl, 0, rfl, trivial⟩ rfl rfl rfl <| JM.cons <| qv _ (V.fad Try.underlying30 rfl nz23 rfl) ?_
     refine qv (.slice adxa_3 xa.2.2.2.1.length cpxa_3) (V.ld rfl (Ld.sc sc23 (Rd.cl 0 rfl rfl))) <| qm (ii i682) rfl ?_
     obtain ⟨x748, hx749, h724⟩ := ob h724
     obtain ⟨p750, p751, p752⟩ := getI_some hx749
     obtain ⟨b753, o754, e755, a756⟩ := (fxa_3).at p751
     refine qv _ (V.iad Try.underlying23 sz26 rfl e755 rfl p750 p752) ?_
     obtain ⟨ad757, cp758, c759, f760⟩ := ((a756).one).sl
     refine qv (.agg #[.slice ad757 x748.length cp758]) (V.ld rfl (Ld.aggK (cs := [.slice ad757 x748.length cp758]) Try.underlying26 sz26 rfl ⟨c759, trivial⟩ (Hp.le_refl _))) <| qv _ (V.fad Try.underlying30 rfl nz3 rfl) <| qv (ii xa.2.1) (V.ld rfl (Ld.sc sc3 (Rd.cl 0 rfl rfl))) <| JQ.nil ?_
     obtain ⟨r761, hr762, h724⟩ := ob h724
     refine JA.op rfl (A.call (L1 := []) Try.call46 rfl (ref15_Check_ok f760 hr762) rfl rfl) ?_
     rintro _ _ _ ⟨v764, _, rfl, ⟨⟨i763, rfl, rfl, rfl⟩, rfl⟩, _, rfl⟩
     refine ⟨fun w hs => Hold.sub (Hp.le_refl _) ⟨0, rfl, 0, rfl, trivial⟩ hs, ?_⟩
     refine JM.nil <| qa (ii i763) rfl <| JQ.nil <| J.nil <| CJ.seq <| CJ.region <| jm (ii i763) rfl ?_
     refine jv (.bool (!decide (i763 = 0))) (V.neq rfl rfl) <| J.nil <| cc rfl h724 (fun hc767 h724 => ?_) fun hc767 h724 => ?_
     · refine CJ.seq <| CJ.region <| jm (ii i763) rfl <| jm (ii i682) rfl <| jv (.agg #[ii i763, ii 2, ii i682, ii 0]) (V.build inf70 places70 rfl rfl) <| J.front 1 rfl <| js [ii i763, ii 2, ii i682, ii 0] sz70 rfl rfl rfl rfl rfl rfl ?_
       refine J.nil <| CJ.ret ?_
       obtain rfl := si h724
       refine ⟨nofun, fun e => ?_⟩
       subst e
       refine .inr ⟨nofun, ?_⟩
       obtain rfl := si h
       exact ⟨_, _, Res.one rfl ⟨_, _, rfl, Ld.agg (cs := [ii i763, ii 2, ii i682, ii 0]) Try.underlying70 sz70 rfl (Rd.cls 0 0 rfl rfl)⟩, ⟨i763, 2, i682, 0, rfl, rfl, rfl⟩, (Hp.le_refl _), fun w hs => (Sep.dropAt 0 rfl (Sep.dropAt 0 rfl hs))⟩
     refine CJ.skip <| CJ.region <| jm (ii i682) rfl <| jv (ii (IntKind.wrap .i64 (i682 + 1))) (V.add rfl rfl) <| ja (ii (IntKind.wrap .i64 (i682 + 1))) rfl <| J.nil ?_
     obtain rfl := si h724
     exact ⟨rfl, ⟨IntKind.wrap .i64 (i682 + 1), rfl, ⟨rfl, rfl, rfl, trivial⟩, rfl, rfl⟩⟩
   refine CJ.exit ?_
   obtain rfl := si h724
   refine ⟨nofun, fun e => ?_⟩
   subst e
   exact .inl ⟨rfl, _, rfl, ⟨rfl, ⟨rfl, rfl, trivial⟩, rfl, rfl⟩⟩
 rintro s ρ _ _ ho768 ⟨rfl, hf769, rfl, rfl⟩
 subst ho768
 obtain ⟨ρ, rfl⟩ := hf769.ex
 refine PJ.done <| CJ.seq <| CJ.region <| jv _ (V.fad Try.underlying30 rfl nz26 rfl) <| jv (.agg #[.slice adxa_4 xa.2.2.2.2.1.length cpxa_4]) (V.ld rfl (Ld.agg (cs := [.slice adxa_4 xa.2.2.2.2.1.length cpxa_4]) Try.underlying26 sz26 rfl (Rd.cls 0 4 rfl rfl))) <| jv _ (V.fad Try.underlying30 rfl nz3 rfl) <| jv (ii xa.1) (V.ld rfl (Ld.sc sc3 (Rd.cl 0 rfl rfl))) ?_
 obtain ⟨r771, hr772, h⟩ := ob h
 refine J.op rfl (A.call (L1 := []) Try.call46 rfl (ref15_Check_ok fxa_4 hr772) rfl rfl) ?_
 rintro _ _ _ ⟨v774, _, rfl, ⟨⟨i773, rfl, rfl, rfl⟩, rfl⟩, _, rfl⟩
 refine ja (ii i773) rfl <| J.nil <| CJ.seq <| CJ.seq <| CJ.region <| jm (ii i773) rfl <| jv (.bool (!decide (i773 = 0))) (V.neq rfl rfl) ?_
 refine J.nil <| cc rfl h (fun hc777 h => ?_) fun hc777 h => ?_
 · refine CJ.seq <| CJ.region <| jm (ii i773) rfl <| jv (.agg #[ii i773, ii 3, ii 0, ii 0]) (V.build inf70 places70 rfl rfl) <| J.front 1 rfl <| js [ii i773, ii 3, ii 0, ii 0] sz70 rfl rfl rfl rfl rfl rfl <| J.nil ?_
   refine CJ.ret ?_
   obtain rfl := si h
   exact ⟨_, _, Res.one rfl ⟨_, _, rfl, Ld.agg (cs := [ii i773, ii 3, ii 0, ii 0]) Try.underlying70 sz70 rfl (Rd.cls 0 0 rfl rfl)⟩, ⟨i773, 3, 0, 0, rfl, rfl, rfl⟩, (Hp.le_refl _), fun w hs => (Sep.dropAt 0 rfl (Sep.dropAt 0 rfl hs))⟩
 refine CJ.skip <| CJ.seq <| CJ.seq <| CJ.mix [Cl b508 30 [ii xa.1, ii xa.2.1, .slice adxa_2 xa.2.2.1.length cpxa_2, .slice adxa_3 xa.2.2.2.1.length cpxa_3, .slice adxa_4 xa.2.2.2.2.1.length cpxa_4, .slice adxa_5 xa.2.2.2.2.2.1.length cpxa_5, .slice adxa_6 xa.2.2.2.2.2.2.length cpxa_6], Cl b509 70 [ii 0, ii 0, ii 0, ii 0]] [([0, 1, 2, 3, 4, 5], 6)] [7] [] mixO (by decide +kernel) ⟨0, rfl, 0, rfl, trivial⟩ rfl rfl rfl <| JM.cons <| qv _ (V.fad Try.underlying30 rfl nz23 rfl) <| qv (.slice adxa_3 xa.2.2.2.1.length cpxa_3) (V.ld rfl (Ld.sc sc23 (Rd.cl 0 rfl rfl))) ?_
 obtain ⟨x797, hx798, h⟩ := ob h
 obtain ⟨p799, p800, p801⟩ := getI_some hx798
 obtain ⟨b802, o803, e804, a805⟩ := (fxa_3).at p800
 refine qv _ (V.iad Try.underlying23 sz26 rfl e804 rfl p799 p801) ?_
 obtain ⟨ad806, cp807, c808, f809⟩ := ((a805).one).sl
 refine qv (.agg #[.slice ad806 x797.length cp807]) (V.ld rfl (Ld.aggK (cs := [.slice ad806 x797.length cp807]) Try.underlying26 sz26 rfl ⟨c808, trivial⟩ (Hp.le_refl _))) <| qv _ (V.fad Try.underlying30 rfl nz26 rfl) <| qv (.agg #[.slice adxa_4 xa.2.2.2.2.1.length cpxa_4]) (V.ld rfl (Ld.agg (cs := [.slice adxa_4 xa.2.2.2.2.1.length cpxa_4]) Try.underlying26 sz26 rfl (Rd.cls 0 4 rfl rfl))) <| JQ.nil ?_
 obtain ⟨r810, hr811, h⟩ := ob h
 refine JA.op rfl (A.call (L1 := []) Try.call47 rfl (ref15_Shape_ok f809 fxa_4 hr811) rfl rfl) ?_
 rintro _ _ _ ⟨v813, _, rfl, ⟨⟨t812, rfl, rfl, rfl⟩, rfl⟩, _, rfl⟩
 refine ⟨fun w hs => Hold.sub (Hp.le_refl _) ⟨0, rfl, 0, rfl, trivial⟩ hs, ?_⟩
 refine JM.nil <| qv (.bool (!t812)) (V.not rfl) <| JQ.nil <| J.nil <| cc rfl h (fun hc816 h => ?_) fun hc816 h => ?_
 · refine CJ.seq <| CJ.region <| jv (.agg #[ii 8, ii 3, ii 0, ii 0]) (V.build inf70 places70 rfl rfl) <| J.front 1 rfl <| js [ii 8, ii 3, ii 0, ii 0] sz70 rfl rfl rfl rfl rfl rfl <| J.nil <| CJ.ret ?_
   obtain rfl := si h
   exact ⟨_, _, Res.one rfl ⟨_, _, rfl, Ld.agg (cs := [ii 8, ii 3, ii 0, ii 0]) Try.underlying70 sz70 rfl (Rd.cls 0 0 rfl rfl)⟩, ⟨8, 3, 0, 0, rfl, rfl, rfl⟩, (Hp.le_refl _), fun w hs => (Sep.dropAt 0 rfl (Sep.dropAt 0 rfl hs))⟩
 refine CJ.skip <| CJ.seq <| CJ.seq <| CJ.region <| jv _ (V.fad Try.underlying30 rfl nz27 rfl) <| jv (.slice adxa_5 xa.2.2.2.2.2.1.length cpxa_5) (V.ld rfl (Ld.sc sc27 (Rd.cl 0 rfl rfl))) <| jv (ii (((xa.2.2.2.2.2.1.length : Nat) : Int))) (V.len Try.underlying27 rfl) ?_
 refine jv (.bool (decide (65536 < (((xa.2.2.2.2.2.1.length : Nat) : Int))))) (V.gtr rfl rfl) <| J.nil <| cc rfl h (fun hc817 h => ?_) fun hc817 h => ?_
 · refine CJ.seq <| CJ.region <| jv (.agg #[ii 6, ii 4, ii 0, ii 0]) (V.build inf70 places70 rfl rfl) <| J.front 1 rfl <| js [ii 6, ii 4, ii 0, ii 0] sz70 rfl rfl rfl rfl rfl rfl <| J.nil <| CJ.ret ?_
   obtain rfl := si h
   exact ⟨_, _, Res.one rfl ⟨_, _, rfl, Ld.agg (cs := [ii 6, ii 4, ii 0, ii 0]) Try.underlying70 sz70 rfl (Rd.cls 0 0 rfl rfl)⟩, ⟨6, 4, 0, 0, rfl, rfl, rfl⟩, (Hp.le_refl _), fun w hs => (Sep.dropAt 0 rfl (Sep.dropAt 0 rfl hs))⟩
 refine CJ.skip <| CJ.seq <| CJ.seq <| CJ.region <| ja (ii 0) rfl <| J.nil ?_
 obtain ⟨o912, ho913, h⟩ := ob h
 refine CJ.joinN (o := o912) (fun s ρ K' L' => () = s ∧ Fits [(2, .pointer (some ⟨b509, 0, none⟩))] ρ ∧ K = K' ∧ L' = Cl b509 70 [ii 0, ii 0, ii 0, ii 0] :: F) ?_ ?_
 · refine CJ.block <| CJ.loop (fun s ρ K' L' => ∃ (i944 : Int), i944 = s ∧ Fits [(1, .pointer (some ⟨b508, 0, none⟩)), (2, .pointer (some ⟨b509, 0, none⟩)), (6, ii i944)] ρ ∧ K = K' ∧ L' = Cl b508 30 [ii xa.1, ii xa.2.1, .slice adxa_2 xa.2.2.1.length cpxa_2, .slice adxa_3 xa.2.2.2.1.length cpxa_3, .slice adxa_4 xa.2.2.2.2.1.length cpxa_4, .slice adxa_5 xa.2.2.2.2.2.1.length cpxa_5, .slice adxa_6 xa.2.2.2.2.2.2.length cpxa_6] :: Cl b509 70 [ii 0, ii 0, ii 0, ii 0] :: F) ho913 ⟨0, rfl, ⟨rfl, rfl, rfl, trivial⟩, rfl, rfl⟩ ?_
   rintro s ρ _ _ r978 ⟨i944, rfl, hf976, rfl, rfl⟩ h975
   obtain ⟨ρ, rfl⟩ := hf976.ex
   refine CJ.seq <| CJ.seq <| CJ.region <| jm (ii i944) rfl <| jv _ (V.fad Try.underlying30 rfl nz27 rfl) <| jv (.slice adxa_5 xa.2.2.2.2.2.1.length cpxa_5) (V.ld rfl (Ld.sc sc27 (Rd.cl 0 rfl rfl))) <| jv (ii (((xa.2.2.2.2.2.1.length : Nat) : Int))) (V.len Try.underlying27 rfl) ?_
   refine jv (.bool (decide (i944 < (((xa.2.2.2.2.2.1.length : Nat) : Int))))) (V.lss rfl rfl) <| J.nil <| cc rfl h975 (fun hc979 h975 => ?_) fun hc979 h975 => ?_
   · refine CJ.skip <| CJ.seq <| CJ.block <| CJ.seq <| CJ.region <| jv _ (V.fad Try.underlying30 rfl nz27 rfl) <| jv (.slice adxa_5 xa.2.2.2.2.2.1.length cpxa_5) (V.ld rfl (Ld.sc sc27 (Rd.cl 0 rfl rfl))) ?_
     refine jm (ii i944) rfl ?_
     obtain ⟨x980, hx981, h975⟩ := ob h975
     obtain ⟨p982, p983, p984⟩ := getI_some hx981
     obtain ⟨b985, o986, e987, a988⟩ := (fxa_5).at p983
     refine jv _ (V.iad Try.underlying27 sz53 rfl e987 rfl p982 p984) ?_
     obtain ⟨ad989, cp990, c991, f992⟩ := (((a988).snd).fst).sl
     obtain ⟨ad993, cp994, c995, f996⟩ := ((((a988).snd).snd).fst).sl
     obtain ⟨ad997, cp998, c999, f1000⟩ := ((((((a988).snd).snd).snd).one).one).sl
     refine jv (.agg #[ii x980.1, .slice ad989 x980.2.1.length cp990, .slice ad993 x980.2.2.1.length cp994, .slice ad997 x980.2.2.2.length cp998]) (V.ld rfl (Ld.aggK (cs := [ii x980.1, .slice ad989 x980.2.1.length cp990, .slice ad993 x980.2.2.1.length cp994, .slice ad997 x980.2.2.2.length cp998]) Try.underlying53 sz53 rfl ⟨((a988).fst).int, c991, c995, c999, trivial⟩ (Hp.le_refl _))) ?_
     obtain ⟨r1001, hr1002, h975⟩ := ob h975
     refine J.op rfl (A.call (L1 := []) Try.call48 rfl (ref17_Check_ok f992 f996 f1000 hr1002) rfl rfl) ?_
     rintro _ _ _ ⟨v1004, _, rfl, ⟨⟨i1003, rfl, rfl, rfl⟩, rfl⟩, _, rfl⟩
     refine ja (ii i1003) rfl <| J.nil <| CJ.seq <| CJ.region <| jm (ii i1003) rfl <| jv (.bool (!decide (i1003 = 0))) (V.neq rfl rfl) <| J.nil ?_
     refine cc rfl h975 (fun hc1007 h975 => ?_) fun hc1007 h975 => ?_
     · refine CJ.seq <| CJ.region <| jm (ii i1003) rfl <| jm (ii i944) rfl <| jv (.agg #[ii i1003, ii 4, ii i944, ii 0]) (V.build inf70 places70 rfl rfl) <| J.front 1 rfl <| js [ii i1003, ii 4, ii i944, ii 0] sz70 rfl rfl rfl rfl rfl rfl ?_
       refine J.nil <| CJ.ret ?_
       obtain rfl := si h975
       refine ⟨nofun, fun e => ?_⟩
       subst e
       refine .inr ⟨nofun, ?_⟩
       obtain rfl := si h
       exact ⟨_, _, Res.one rfl ⟨_, _, rfl, Ld.agg (cs := [ii i1003, ii 4, ii i944, ii 0]) Try.underlying70 sz70 rfl (Rd.cls 0 0 rfl rfl)⟩, ⟨i1003, 4, i944, 0, rfl, rfl, rfl⟩, (Hp.le_refl _), fun w hs => (Sep.dropAt 0 rfl (Sep.dropAt 0 rfl hs))⟩
     refine CJ.skip <| CJ.region <| jm (ii i944) rfl <| jv (ii (IntKind.wrap .i64 (i944 + 1))) (V.add rfl rfl) <| ja (ii (IntKind.wrap .i64 (i944 + 1))) rfl <| J.nil ?_
     obtain rfl := si h975
     exact ⟨rfl, ⟨IntKind.wrap .i64 (i944 + 1), rfl, ⟨rfl, rfl, rfl, trivial⟩, rfl, rfl⟩⟩
   refine CJ.dropAt 0 rfl <| CJ.exit ?_
   obtain rfl := si h975
   refine ⟨nofun, fun e => ?_⟩
   subst e
   exact .inl ⟨rfl, _, rfl, ⟨rfl, ⟨rfl, trivial⟩, rfl, rfl⟩⟩
 rintro s ρ _ _ ho1008 ⟨rfl, hf1009, rfl, rfl⟩
 subst ho1008
 obtain ⟨ρ, rfl⟩ := hf1009.ex
 refine PJ.done <| CJ.seq <| CJ.region <| jv (.agg #[ii 0, ii 0, ii 0, ii 0]) (V.build inf70 places70 rfl rfl) <| js [ii 0, ii 0, ii 0, ii 0] sz70 rfl rfl rfl rfl rfl rfl <| J.nil <| CJ.ret ?_
 obtain rfl := si h
 exact ⟨_, _, Res.one rfl ⟨_, _, rfl, Ld.agg (cs := [ii 0, ii 0, ii 0, ii 0]) Try.underlying70 sz70 rfl (Rd.cls 0 0 rfl rfl)⟩, ⟨0, 0, 0, 0, rfl, rfl, rfl⟩, (Hp.le_refl _), fun w hs => (Sep.dropAt 0 rfl hs)⟩

noncomputable def fn_ref18_Dst (xa : Int) : Option Bool :=
  some ((((decide (xa = 1)) || (decide (xa = 2))) || (decide (xa = 3))) || (decide (xa = 5)))
set_option maxRecDepth 100000 in
set_option maxHeartbeats 4000000 in
theorem ref18_Dst_ok {K : Hp} {xa : Int}   {r : Bool} (h : fn_ref18_Dst xa = some r) :
    Tr Try.prog 58 #[ii xa] K [] (fun v K' L' => (∃ (t10 : Bool), t10 = r ∧ .bool t10 = v ∧ L' = []) ∧ K = K') := by
 refine Tr.k <| Tr.of Try.func58 rfl Try.ntmps58 rfl fun E F => ?_
 unfold fn_ref18_Dst at h
 refine CJ.seq <| CJ.region <| ja (.bool false) rfl <| J.nil <| CJ.seq <| CJ.region <| jm (ii xa) rfl ?_
 refine jv (.bool (decide (xa = 1))) (V.eql rfl rfl) <| jm (.bool (decide (xa = 1))) rfl <| J.cut 3 <| jmeet [(8, .bool ((decide (xa = 1)) || (decide (xa = 2)))), (0, ii xa)] ?_ ?_
 · rcases bt (decide (xa = 1)) with hc13 | hc13
   · refine J.skip rfl rfl rfl rfl hc13 <| J.skip rfl rfl rfl rfl hc13 <| jv (.bool true) (V.pickT rfl hc13 rfl) <| J.nil ?_
     exact ⟨rfl, ⟨(by simp only [hc13]; rfl), rfl, trivial⟩, rfl, rfl⟩
   refine J.run rfl rfl rfl hc13 <| jm (ii xa) rfl <| J.run rfl rfl rfl hc13 <| jv (.bool (decide (xa = 2))) (V.eql rfl rfl) <| jv (.bool (decide (xa = 2))) (V.pickF rfl hc13 rfl) <| J.nil ?_
   exact ⟨rfl, ⟨(by simp only [hc13]; rfl), rfl, trivial⟩, rfl, rfl⟩
 intro ρ
 refine jm (.bool ((decide (xa = 1)) || (decide (xa = 2)))) rfl <| J.cut 3 <| jmeet [(12, .bool (((decide (xa = 1)) || (decide (xa = 2))) || (decide (xa = 3)))), (0, ii xa)] ?_ ?_
 · rcases bt ((decide (xa = 1)) || (decide (xa = 2))) with hc16 | hc16
   · refine J.skip rfl rfl rfl rfl hc16 <| J.skip rfl rfl rfl rfl hc16 <| jv (.bool true) (V.pickT rfl hc16 rfl) <| J.nil ?_
     exact ⟨rfl, ⟨(by simp only [hc16]; rfl), rfl, trivial⟩, rfl, rfl⟩
   refine J.run rfl rfl rfl hc16 <| jm (ii xa) rfl <| J.run rfl rfl rfl hc16 <| jv (.bool (decide (xa = 3))) (V.eql rfl rfl) <| jv (.bool (decide (xa = 3))) (V.pickF rfl hc16 rfl) <| J.nil ?_
   exact ⟨rfl, ⟨(by simp only [hc16]; rfl), rfl, trivial⟩, rfl, rfl⟩
 intro ρ
 refine jm (.bool (((decide (xa = 1)) || (decide (xa = 2))) || (decide (xa = 3)))) rfl <| J.cut 3 <| jmeet [(16, .bool ((((decide (xa = 1)) || (decide (xa = 2))) || (decide (xa = 3))) || (decide (xa = 5))))] ?_ ?_
 · rcases bt (((decide (xa = 1)) || (decide (xa = 2))) || (decide (xa = 3))) with hc19 | hc19
   · refine J.skip rfl rfl rfl rfl hc19 <| J.skip rfl rfl rfl rfl hc19 <| jv (.bool true) (V.pickT rfl hc19 rfl) <| J.nil ?_
     exact ⟨rfl, ⟨(by simp only [hc19]; rfl), trivial⟩, rfl, rfl⟩
   refine J.run rfl rfl rfl hc19 <| jm (ii xa) rfl <| J.run rfl rfl rfl hc19 <| jv (.bool (decide (xa = 5))) (V.eql rfl rfl) <| jv (.bool (decide (xa = 5))) (V.pickF rfl hc19 rfl) <| J.nil ?_
   exact ⟨rfl, ⟨(by simp only [hc19]; rfl), trivial⟩, rfl, rfl⟩
 intro ρ
 refine ja (.bool ((((decide (xa = 1)) || (decide (xa = 2))) || (decide (xa = 3))) || (decide (xa = 5)))) rfl <| J.nil <| CJ.ret ?_
 obtain rfl := si h
 exact ⟨_, _, Res.one rfl rfl, ⟨(((decide (xa = 1)) || (decide (xa = 2))) || (decide (xa = 3))) || (decide (xa = 5)), rfl, rfl, rfl⟩, (Hp.le_refl _), fun w hs => hs⟩

noncomputable def fn_ref18_Src (xa : Int) : Option Bool :=
  some ((decide (1 ≤ xa)) && (decide (xa ≤ 4)))
set_option maxRecDepth 100000 in
set_option maxHeartbeats 4000000 in
theorem ref18_Src_ok {K : Hp} {xa : Int}   {r : Bool} (h : fn_ref18_Src xa = some r) :
    Tr Try.prog 59 #[ii xa] K [] (fun v K' L' => (∃ (t4 : Bool), t4 = r ∧ .bool t4 = v ∧ L' = []) ∧ K = K') := by
 refine Tr.k <| Tr.of Try.func59 rfl Try.ntmps59 rfl fun E F => ?_
 unfold fn_ref18_Src at h
 refine CJ.seq <| CJ.region <| ja (.bool false) rfl <| J.nil <| CJ.seq <| CJ.region <| jm (ii xa) rfl ?_
 refine jv (.bool (decide (1 ≤ xa))) (V.geq rfl rfl) <| jm (.bool (decide (1 ≤ xa))) rfl <| J.cut 3 <| jmeet [(8, .bool ((decide (1 ≤ xa)) && (decide (xa ≤ 4))))] ?_ ?_
 · rcases bt (decide (1 ≤ xa)) with hc7 | hc7
   · refine J.run rfl rfl rfl hc7 <| jm (ii xa) rfl <| J.run rfl rfl rfl hc7 <| jv (.bool (decide (xa ≤ 4))) (V.leq rfl rfl) <| jv (.bool (decide (xa ≤ 4))) (V.pickT rfl hc7 rfl) <| J.nil ?_
     exact ⟨rfl, ⟨(by simp only [hc7]; rfl), trivial⟩, rfl, rfl⟩
   refine J.skip rfl rfl rfl rfl hc7 <| J.skip rfl rfl rfl rfl hc7 <| jv (.bool false) (V.pickF rfl hc7 rfl) <| J.nil ?_
   exact ⟨rfl, ⟨(by simp only [hc7]; rfl), trivial⟩, rfl, rfl⟩
 intro ρ
 refine ja (.bool ((decide (1 ≤ xa)) && (decide (xa ≤ 4)))) rfl <| J.nil <| CJ.ret ?_
 obtain rfl := si h
 exact ⟨_, _, Res.one rfl rfl, ⟨(decide (1 ≤ xa)) && (decide (xa ≤ 4)), rfl, rfl, rfl⟩, (Hp.le_refl _), fun w hs => hs⟩

noncomputable def fn_ref18_Region (xa : Int) : Option Bool :=
  some ((decide (xa = 2)) || (decide (xa = 3)))
set_option maxRecDepth 100000 in
set_option maxHeartbeats 4000000 in
theorem ref18_Region_ok {K : Hp} {xa : Int}   {r : Bool} (h : fn_ref18_Region xa = some r) :
    Tr Try.prog 60 #[ii xa] K [] (fun v K' L' => (∃ (t4 : Bool), t4 = r ∧ .bool t4 = v ∧ L' = []) ∧ K = K') := by
 refine Tr.k <| Tr.of Try.func60 rfl Try.ntmps60 rfl fun E F => ?_
 unfold fn_ref18_Region at h
 refine CJ.seq <| CJ.region <| ja (.bool false) rfl <| J.nil <| CJ.seq <| CJ.region <| jm (ii xa) rfl ?_
 refine jv (.bool (decide (xa = 2))) (V.eql rfl rfl) <| jm (.bool (decide (xa = 2))) rfl <| J.cut 3 <| jmeet [(8, .bool ((decide (xa = 2)) || (decide (xa = 3))))] ?_ ?_
 · rcases bt (decide (xa = 2)) with hc7 | hc7
   · refine J.skip rfl rfl rfl rfl hc7 <| J.skip rfl rfl rfl rfl hc7 <| jv (.bool true) (V.pickT rfl hc7 rfl) <| J.nil ?_
     exact ⟨rfl, ⟨(by simp only [hc7]; rfl), trivial⟩, rfl, rfl⟩
   refine J.run rfl rfl rfl hc7 <| jm (ii xa) rfl <| J.run rfl rfl rfl hc7 <| jv (.bool (decide (xa = 3))) (V.eql rfl rfl) <| jv (.bool (decide (xa = 3))) (V.pickF rfl hc7 rfl) <| J.nil ?_
   exact ⟨rfl, ⟨(by simp only [hc7]; rfl), trivial⟩, rfl, rfl⟩
 intro ρ
 refine ja (.bool ((decide (xa = 2)) || (decide (xa = 3)))) rfl <| J.nil <| CJ.ret ?_
 obtain rfl := si h
 exact ⟨_, _, Res.one rfl rfl, ⟨(decide (xa = 2)) || (decide (xa = 3)), rfl, rfl, rfl⟩, (Hp.le_refl _), fun w hs => hs⟩

noncomputable def fn_ref18_Form (xa : (Int × Int × Int × Int × Bool)) : Option Bool :=
  (cond ((decide (0 ≤ xa.1)) && (decide (xa.1 ≤ 5))) ((fn_ref18_Dst xa.1).bind fun t103 => some (t103 || (decide (xa.2.1 = 0)))) (some (false))).bind fun t98 => (cond (t98) ((fn_ref18_Src xa.1).bind fun t125 => some (t125 || (decide (xa.2.2.1 = 0)))) (some (false))).bind fun t120 => (cond (t120) ((fn_ref18_Region xa.1).bind fun t153 => some (t153 || ((decide (xa.2.2.2.1 = 0)) && (!xa.2.2.2.2)))) (some (false))).bind fun t148 => some (t148)
set_option maxRecDepth 100000 in
set_option maxHeartbeats 4000000 in
theorem ref18_Form_ok {K : Hp} {xa : (Int × Int × Int × Int × Bool)}   {r : Bool} (h : fn_ref18_Form xa = some r) :
    Tr Try.prog 57 #[.agg #[ii xa.1, ii xa.2.1, ii xa.2.2.1, ii xa.2.2.2.1, .bool xa.2.2.2.2]] K [] (fun v K' L' => (∃ (t83 : Bool), t83 = r ∧ .bool t83 = v ∧ L' = []) ∧ K = K') := by
 refine Tr.k <| Tr.of Try.func57 rfl Try.ntmps57 rfl fun E F => ?_
 unfold fn_ref18_Form at h
 refine CJ.seq <| CJ.region <| jbx [ii xa.1, ii xa.2.1, ii xa.2.2.1, ii xa.2.2.2.1, .bool xa.2.2.2.2] rfl rfl fun b84 => ja (.bool false) rfl <| J.nil <| CJ.seq <| CJ.region ?_
 refine jv _ (V.fad Try.underlying60 rfl nz3 rfl) <| jv (ii xa.1) (V.ld rfl (Ld.sc sc3 (Rd.cl 0 rfl rfl))) <| jv (.bool (decide (0 ≤ xa.1))) (V.geq rfl rfl) <| jm (.bool (decide (0 ≤ xa.1))) rfl <| J.cut 4 <| jmeet [(10, .bool ((decide (0 ≤ xa.1)) && (decide (xa.1 ≤ 5)))), (1, .pointer (some ⟨b84, 0, none⟩))] ?_ ?_
 · rcases bt (decide (0 ≤ xa.1)) with hc87 | hc87
   · refine J.run rfl rfl rfl hc87 <| jv _ (V.fad Try.underlying60 rfl nz3 rfl) <| J.run rfl rfl rfl hc87 <| jv (ii xa.1) (V.ld rfl (Ld.sc sc3 (Rd.cl 0 rfl rfl))) <| J.run rfl rfl rfl hc87 <| jv (.bool (decide (xa.1 ≤ 5))) (V.leq rfl rfl) <| jv (.bool (decide (xa.1 ≤ 5))) (V.pickT rfl hc87 rfl) ?_
     refine J.nil ?_
     exact ⟨rfl, ⟨(by simp only [hc87]; rfl), rfl, trivial⟩, rfl, rfl⟩
   refine J.skip rfl rfl rfl rfl hc87 <| J.skip rfl rfl rfl rfl hc87 <| J.skip rfl rfl rfl rfl hc87 <| jv (.bool false) (V.pickF rfl hc87 rfl) <| J.nil ?_
   exact ⟨rfl, ⟨(by simp only [hc87]; rfl), rfl, trivial⟩, rfl, rfl⟩
 intro ρ
 refine jm (.bool ((decide (0 ≤ xa.1)) && (decide (xa.1 ≤ 5)))) rfl <| J.cut 9 ?_
 obtain ⟨t98, ht99, h⟩ := ob h
 refine jmeet [(20, .bool t98), (1, .pointer (some ⟨b84, 0, none⟩))] ?_ ?_
 · rcases bt ((decide (0 ≤ xa.1)) && (decide (xa.1 ≤ 5))) with hc100 | hc100
   · have ht99 := ct hc100 ht99
     refine J.run rfl rfl rfl hc100 <| jv _ (V.fad Try.underlying60 rfl nz3 rfl) <| J.run rfl rfl rfl hc100 <| jv (ii xa.1) (V.ld rfl (Ld.sc sc3 (Rd.cl 0 rfl rfl))) <| J.run rfl rfl rfl hc100 ?_
     obtain ⟨r101, hr102, ht99⟩ := ob ht99
     refine J.op rfl (A.call (L1 := []) Try.call58 rfl (ref18_Dst_ok hr102) rfl rfl) ?_
     rintro _ _ _ ⟨v104, _, rfl, ⟨⟨t103, rfl, rfl, rfl⟩, rfl⟩, _, rfl⟩
     refine J.run rfl rfl rfl hc100 <| jm (.bool t103) rfl <| J.cut 4 <| jmeet [(19, .bool (t103 || (decide (xa.2.1 = 0)))), (1, .pointer (some ⟨b84, 0, none⟩)), (11, .bool ((decide (0 ≤ xa.1)) && (decide (xa.1 ≤ 5))))] ?_ ?_
     · rcases bt (t103) with hc109 | hc109
       · refine J.skip rfl rfl rfl rfl hc109 <| J.skip rfl rfl rfl rfl hc109 <| J.skip rfl rfl rfl rfl hc109 <| J.run rfl rfl rfl hc100 <| jv (.bool true) (V.pickT rfl hc109 rfl) <| J.nil ?_
         exact ⟨rfl, ⟨(by simp only [hc109]; rfl), rfl, rfl, trivial⟩, rfl, rfl⟩
       refine J.run rfl rfl rfl hc109 <| jv _ (V.fad Try.underlying60 rfl nz3 rfl) <| J.run rfl rfl rfl hc109 <| jv (ii xa.2.1) (V.ld rfl (Ld.sc sc3 (Rd.cl 0 rfl rfl))) <| J.run rfl rfl rfl hc109 <| jv (.bool (decide (xa.2.1 = 0))) (V.eql rfl rfl) <| J.run rfl rfl rfl hc100 ?_
       refine jv (.bool (decide (xa.2.1 = 0))) (V.pickF rfl hc109 rfl) <| J.nil ?_
       exact ⟨rfl, ⟨(by simp only [hc109]; rfl), rfl, rfl, trivial⟩, rfl, rfl⟩
     intro ρ
     refine jv (.bool (t103 || (decide (xa.2.1 = 0)))) (V.pickT rfl hc100 rfl) <| J.nil ?_
     obtain rfl := si ht99
     exact ⟨rfl, ⟨rfl, rfl, trivial⟩, rfl, rfl⟩
   have ht99 := cf hc100 ht99
   refine J.skip rfl rfl rfl rfl hc100 <| J.skip rfl rfl rfl rfl hc100 <| J.skip rfl rfl rfl rfl hc100 <| J.skip rfl rfl rfl rfl hc100 <| J.skipu rfl rfl rfl rfl <| J.skipu rfl rfl rfl rfl <| J.skipu rfl rfl rfl rfl ?_
   refine J.skip rfl rfl rfl rfl hc100 <| jv (.bool false) (V.pickF rfl hc100 rfl) <| J.nil ?_
   obtain rfl := si ht99
   exact ⟨rfl, ⟨rfl, rfl, trivial⟩, rfl, rfl⟩
 intro ρ
 refine jm (.bool t98) rfl <| J.cut 9 ?_
 obtain ⟨t120, ht121, h⟩ := ob h
 refine jmeet [(30, .bool t120), (1, .pointer (some ⟨b84, 0, none⟩))] ?_ ?_
 · rcases bt (t98) with hc122 | hc122
   · have ht121 := ct hc122 ht121
     refine J.run rfl rfl rfl hc122 <| jv _ (V.fad Try.underlying60 rfl nz3 rfl) <| J.run rfl rfl rfl hc122 <| jv (ii xa.1) (V.ld rfl (Ld.sc sc3 (Rd.cl 0 rfl rfl))) <| J.run rfl rfl rfl hc122 ?_
     obtain ⟨r123, hr124, ht121⟩ := ob ht121
     refine J.op rfl (A.call (L1 := []) Try.call59 rfl (ref18_Src_ok hr124) rfl rfl) ?_
     rintro _ _ _ ⟨v126, _, rfl, ⟨⟨t125, rfl, rfl, rfl⟩, rfl⟩, _, rfl⟩
     refine J.run rfl rfl rfl hc122 <| jm (.bool t125) rfl <| J.cut 4 <| jmeet [(29, .bool (t125 || (decide (xa.2.2.1 = 0)))), (1, .pointer (some ⟨b84, 0, none⟩)), (21, .bool t98)] ?_ ?_
     · rcases bt (t125) with hc131 | hc131
       · refine J.skip rfl rfl rfl rfl hc131 <| J.skip rfl rfl rfl rfl hc131 <| J.skip rfl rfl rfl rfl hc131 <| J.run rfl rfl rfl hc122 <| jv (.bool true) (V.pickT rfl hc131 rfl) <| J.nil ?_
         exact ⟨rfl, ⟨(by simp only [hc131]; rfl), rfl, rfl, trivial⟩, rfl, rfl⟩
       refine J.run rfl rfl rfl hc131 <| jv _ (V.fad Try.underlying60 rfl nz3 rfl) <| J.run rfl rfl rfl hc131 <| jv (ii xa.2.2.1) (V.ld rfl (Ld.sc sc3 (Rd.cl 0 rfl rfl))) <| J.run rfl rfl rfl hc131 <| jv (.bool (decide (xa.2.2.1 = 0))) (V.eql rfl rfl) <| J.run rfl rfl rfl hc122 ?_
       refine jv (.bool (decide (xa.2.2.1 = 0))) (V.pickF rfl hc131 rfl) <| J.nil ?_
       exact ⟨rfl, ⟨(by simp only [hc131]; rfl), rfl, rfl, trivial⟩, rfl, rfl⟩
     intro ρ
     refine jv (.bool (t125 || (decide (xa.2.2.1 = 0)))) (V.pickT rfl hc122 rfl) <| J.nil ?_
     obtain rfl := si ht121
     exact ⟨rfl, ⟨rfl, rfl, trivial⟩, rfl, rfl⟩
   have ht121 := cf hc122 ht121
   refine J.skip rfl rfl rfl rfl hc122 <| J.skip rfl rfl rfl rfl hc122 <| J.skip rfl rfl rfl rfl hc122 <| J.skip rfl rfl rfl rfl hc122 <| J.skipu rfl rfl rfl rfl <| J.skipu rfl rfl rfl rfl <| J.skipu rfl rfl rfl rfl ?_
   refine J.skip rfl rfl rfl rfl hc122 <| jv (.bool false) (V.pickF rfl hc122 rfl) <| J.nil ?_
   obtain rfl := si ht121
   exact ⟨rfl, ⟨rfl, rfl, trivial⟩, rfl, rfl⟩
 intro ρ
 refine jm (.bool t120) rfl <| J.cut 14 ?_
 obtain ⟨t148, ht149, h⟩ := ob h
 refine jmeet [(45, .bool t148)] ?_ ?_
 · rcases bt (t120) with hc150 | hc150
   · have ht149 := ct hc150 ht149
     refine J.run rfl rfl rfl hc150 <| jv _ (V.fad Try.underlying60 rfl nz3 rfl) <| J.run rfl rfl rfl hc150 <| jv (ii xa.1) (V.ld rfl (Ld.sc sc3 (Rd.cl 0 rfl rfl))) <| J.run rfl rfl rfl hc150 ?_
     obtain ⟨r151, hr152, ht149⟩ := ob ht149
     refine J.op rfl (A.call (L1 := []) Try.call60 rfl (ref18_Region_ok hr152) rfl rfl) ?_
     rintro _ _ _ ⟨v154, _, rfl, ⟨⟨t153, rfl, rfl, rfl⟩, rfl⟩, _, rfl⟩
     refine J.run rfl rfl rfl hc150 <| jm (.bool t153) rfl <| J.cut 9 <| jmeet [(44, .bool (t153 || ((decide (xa.2.2.2.1 = 0)) && (!xa.2.2.2.2)))), (31, .bool t120)] ?_ ?_
     · rcases bt (t153) with hc162 | hc162
       · refine J.skip rfl rfl rfl rfl hc162 <| J.skip rfl rfl rfl rfl hc162 <| J.skip rfl rfl rfl rfl hc162 <| J.skip rfl rfl rfl rfl hc162 <| J.skipu rfl rfl rfl rfl <| J.skipu rfl rfl rfl rfl <| J.skipu rfl rfl rfl rfl ?_
         refine J.skip rfl rfl rfl rfl hc162 <| J.run rfl rfl rfl hc150 <| jv (.bool true) (V.pickT rfl hc162 rfl) <| J.nil ?_
         exact ⟨rfl, ⟨(by simp only [hc162]; rfl), rfl, trivial⟩, rfl, rfl⟩
       refine J.run rfl rfl rfl hc162 <| jv _ (V.fad Try.underlying60 rfl nz3 rfl) <| J.run rfl rfl rfl hc162 <| jv (ii xa.2.2.2.1) (V.ld rfl (Ld.sc sc3 (Rd.cl 0 rfl rfl))) <| J.run rfl rfl rfl hc162 <| jv (.bool (decide (xa.2.2.2.1 = 0))) (V.eql rfl rfl) <| J.run rfl rfl rfl hc162 ?_
       refine jm (.bool (decide (xa.2.2.2.1 = 0))) rfl <| J.cut 4 <| jmeet [(43, .bool ((decide (xa.2.2.2.1 = 0)) && (!xa.2.2.2.2))), (31, .bool t120), (35, .bool t153)] ?_ ?_
       · rcases bt (decide (xa.2.2.2.1 = 0)) with hc165 | hc165
         · refine J.run rfl rfl rfl hc165 <| jv _ (V.fad Try.underlying60 rfl nz4 rfl) <| J.run rfl rfl rfl hc165 <| jv (.bool xa.2.2.2.2) (V.ld rfl (Ld.sc sc4 (Rd.cl 0 rfl rfl))) <| J.run rfl rfl rfl hc165 <| jv (.bool (!xa.2.2.2.2)) (V.not rfl) <| J.run rfl rfl rfl hc162 ?_
           refine jv (.bool (!xa.2.2.2.2)) (V.pickT rfl hc165 rfl) <| J.nil ?_
           exact ⟨rfl, ⟨(by simp only [hc165]; rfl), rfl, rfl, trivial⟩, rfl, rfl⟩
         refine J.skip rfl rfl rfl rfl hc165 <| J.skip rfl rfl rfl rfl hc165 <| J.skip rfl rfl rfl rfl hc165 <| J.run rfl rfl rfl hc162 <| jv (.bool false) (V.pickF rfl hc165 rfl) <| J.nil ?_
         exact ⟨rfl, ⟨(by simp only [hc165]; rfl), rfl, rfl, trivial⟩, rfl, rfl⟩
       intro ρ
       refine J.run rfl rfl rfl hc150 <| jv (.bool ((decide (xa.2.2.2.1 = 0)) && (!xa.2.2.2.2))) (V.pickF rfl hc162 rfl) <| J.nil ?_
       exact ⟨rfl, ⟨(by simp only [hc162]; rfl), rfl, trivial⟩, rfl, rfl⟩
     intro ρ
     refine jv (.bool (t153 || ((decide (xa.2.2.2.1 = 0)) && (!xa.2.2.2.2)))) (V.pickT rfl hc150 rfl) <| J.nil ?_
     obtain rfl := si ht149
     exact ⟨rfl, ⟨rfl, trivial⟩, rfl, rfl⟩
   have ht149 := cf hc150 ht149
   refine J.skip rfl rfl rfl rfl hc150 <| J.skip rfl rfl rfl rfl hc150 <| J.skip rfl rfl rfl rfl hc150 <| J.skip rfl rfl rfl rfl hc150 <| J.skipu rfl rfl rfl rfl <| J.skipu rfl rfl rfl rfl <| J.skipu rfl rfl rfl rfl ?_
   refine J.skipu rfl rfl rfl rfl <| J.skipu rfl rfl rfl rfl <| J.skipu rfl rfl rfl rfl <| J.skipu rfl rfl rfl rfl <| J.skipu rfl rfl rfl rfl <| J.skip rfl rfl rfl rfl hc150 <| jv (.bool false) (V.pickF rfl hc150 rfl) ?_
   refine J.nil ?_
   obtain rfl := si ht149
   exact ⟨rfl, ⟨rfl, trivial⟩, rfl, rfl⟩
 intro ρ
 refine ja (.bool t148) rfl <| J.nil <| CJ.ret ?_
 obtain rfl := si h
 exact ⟨_, _, Res.one rfl rfl, ⟨t148, rfl, rfl, rfl⟩, (Hp.le_refl _), fun w hs => (Sep.dropAt 0 rfl hs)⟩
noncomputable def fn_ref16_slots_rkkii_l1 (xb : (List (Int × Bool))) (xc : (List (Int × Bool))) (xd : Int) (xe : Int) : ((List (Int × Int × Int × Int × Bool)) × Int) → Option (((List (Int × Int × Int × Int × Bool)) × Int) ⊕ (List (Int × Int × Int × Int × Bool))) := fun ((l1164, i1169) : ((List (Int × Int × Int × Int × Bool)) × Int)) => cond (decide (i1169 < (((xb.length : Nat) : Int)))) ((getI xb i1169).bind fun x1309 => (getI xc i1169).bind fun x1318 => (app l1164 (([(x1309.1, x1318.1, xd, IntKind.wrap .i64 (xe + i1169), false)] : List (Int × Int × Int × Int × Bool)))).bind fun z1330 => (getI xc i1169).bind fun x1336 => cond (x1336.2) ((getI xc i1169).bind fun x1367 => (getI xb i1169).bind fun x1376 => (app z1330 (([(x1367.1, x1376.1, xd, IntKind.wrap .i64 (xe + i1169), true)] : List (Int × Int × Int × Int × Bool)))).bind fun z1388 => some (.inl ((z1388, IntKind.wrap .i64 (i1169 + 1))))) (some (.inl ((z1330, IntKind.wrap .i64 (i1169 + 1)))))) (some (.inr (l1164)))
noncomputable def fn_ref16_slots_rkkii (xb : (List (Int × Bool))) (xc : (List (Int × Bool))) (xd : Int) (xe : Int) (qxa : (List (Int × Int × Int × Int × Bool))) : Option ((List (Int × Int × Int × Int × Bool))) :=
  (loop (fn_ref16_slots_rkkii_l1 xb xc xd xe) (qxa, 0) : Option ((List (Int × Int × Int × Int × Bool)))).bind fun l1044 => some (l1044)
set_option maxRecDepth 100000 in
set_option maxHeartbeats 4000000 in
theorem ref16_slots_rkkii_ok {K : Hp} {xb : (List (Int × Bool))} {xc : (List (Int × Bool))} {xd : Int} {xe : Int} {qxa : (List (Int × Int × Int × Int × Bool))} {adxb_0 : Option Addr} {cpxb_0 : Nat} {adxc_0 : Option Addr} {cpxc_0 : Nat} {adqxa : Option Addr} {cpqxa : Nat} (fxb_0 : Is K (.sl (.cons (.int .i64) (.one .bool))) [.slice adxb_0 xb.length cpxb_0] xb) (fxc_0 : Is K (.sl (.cons (.int .i64) (.one .bool))) [.slice adxc_0 xc.length cpxc_0] xc) {r : (List (Int × Int × Int × Int × Bool))} (h : fn_ref16_slots_rkkii xb xc xd xe qxa = some r) :
    Tr Try.prog 77 #[.slice adqxa qxa.length cpqxa, .slice adxb_0 xb.length cpxb_0, .slice adxc_0 xc.length cpxc_0, ii xd, ii xe] K [Row Hp.nil 121 (.cons (.int .i64) (.cons (.int .i64) (.cons (.int .i64) (.cons (.int .i64) (.one .bool))))) (.slice adqxa qxa.length cpqxa) qxa] (fun v K' L' => (∃ (l696 : (List (Int × Int × Int × Int × Bool))) (ad697 : Option Addr) (cp698 : Nat), l696 = r ∧ .slice ad697 l696.length cp698 = v ∧ L' = [Row Hp.nil 121 (.cons (.int .i64) (.cons (.int .i64) (.cons (.int .i64) (.cons (.int .i64) (.one .bool))))) (.slice ad697 l696.length cp698) l696]) ∧ K = K') := by
 refine Tr.k <| Tr.of Try.func77 rfl Try.ntmps77 rfl fun E F => ?_
 unfold fn_ref16_slots_rkkii at h
 refine CJ.wit Row.hn fun hnqxa => CJ.seq <| CJ.region <| ja (.slice none 0 0) rfl <| J.nil <| CJ.seq <| CJ.seq ?_
 refine CJ.region <| ja (ii 0) rfl <| J.nil ?_
 obtain ⟨o1049, ho1050, h⟩ := ob h
 refine CJ.meetN (fun ρ K' L' => ∃ (l1044 : (List (Int × Int × Int × Int × Bool))) (ad1045 : Option Addr) (cp1046 : Nat), l1044 = o1049 ∧ Fits [(0, .slice ad1045 l1044.length cp1046)] ρ ∧ K = K' ∧ L' = Row Hp.nil 121 (.cons (.int .i64) (.cons (.int .i64) (.cons (.int .i64) (.cons (.int .i64) (.one .bool))))) (.slice ad1045 l1044.length cp1046) l1044 :: F) ?_ ?_
 · refine CJ.block <| CJ.loop (fun s ρ K' L' => ∃ (l1164 : (List (Int × Int × Int × Int × Bool))) (i1169 : Int) (ad1165 : Option Addr) (cp1166 : Nat), (l1164, i1169) = s ∧ Fits [(0, .slice ad1165 l1164.length cp1166), (1, .slice adxb_0 xb.length cpxb_0), (2, .slice adxc_0 xc.length cpxc_0), (3, ii xd), (4, ii xe), (11, ii i1169)] ρ ∧ K = K' ∧ L' = Row Hp.nil 121 (.cons (.int .i64) (.cons (.int .i64) (.cons (.int .i64) (.cons (.int .i64) (.one .bool))))) (.slice ad1165 l1164.length cp1166) l1164 :: F) ho1050 ⟨qxa, 0, adqxa, cpqxa, rfl, ⟨rfl, rfl, rfl, rfl, rfl, rfl, trivial⟩, rfl, rfl⟩ ?_
   rintro s ρ _ _ r1286 ⟨l1164, i1169, ad1165, cp1166, rfl, hf1284, rfl, rfl⟩ h1283
   obtain ⟨ρ, rfl⟩ := hf1284.ex
   refine CJ.wit Row.hn fun hn1168 => CJ.seq <| CJ.seq <| CJ.region <| jm (ii i1169) rfl <| jm (.slice adxb_0 xb.length cpxb_0) rfl <| jv (ii (((xb.length : Nat) : Int))) (V.len Try.underlying24 rfl) ?_
   refine jv (.bool (decide (i1169 < (((xb.length : Nat) : Int))))) (V.lss rfl rfl) <| J.nil <| cc rfl h1283 (fun hc1287 h1283 => ?_) fun hc1287 h1283 => ?_
   · refine CJ.skip <| CJ.seq <| CJ.block <| CJ.seq <| CJ.mix [Row Hp.nil 121 (.cons (.int .i64) (.cons (.int .i64) (.cons (.int .i64) (.cons (.int .i64) (.one .bool))))) (.slice ad1165 l1164.length cp1166) l1164] [([0, 1, 2, 3, 4, 5, 6, 7, 8, 9, 10, 11, 12, 13, 14, 15], 16)] [] [17, 18] mixO (by decide +kernel) ⟨0, rfl, trivial⟩ rfl rfl rfl <| JM.cons <| qm (.slice ad1165 l1164.length cp1166) rfl ?_
     refine qm (.slice adxb_0 xb.length cpxb_0) rfl <| qm (ii i1169) rfl ?_
     obtain ⟨x1309, hx1310, h1283⟩ := ob h1283
     obtain ⟨p1311, p1312, p1313⟩ := getI_some hx1310
     obtain ⟨b1314, o1315, e1316, a1317⟩ := (fxb_0).at p1312
     refine qv _ (V.iad Try.underlying24 sz96 rfl e1316 rfl p1311 p1313) <| qv _ (V.fad Try.underlying96 rfl nz3 rfl) <| qv (ii x1309.1) (V.ld rfl (Ld.sc sc3 (Rd.k ((a1317).fst).int (Hp.le_refl _)))) <| qm (.slice adxc_0 xc.length cpxc_0) rfl <| qm (ii i1169) rfl ?_
     obtain ⟨x1318, hx1319, h1283⟩ := ob h1283
     obtain ⟨p1320, p1321, p1322⟩ := getI_some hx1319
     obtain ⟨b1323, o1324, e1325, a1326⟩ := (fxc_0).at p1321
     refine qv _ (V.iad Try.underlying24 sz96 rfl e1325 rfl p1320 p1322) <| qv _ (V.fad Try.underlying96 rfl nz3 rfl) <| qv (ii x1318.1) (V.ld rfl (Ld.sc sc3 (Rd.k ((a1326).fst).int (Hp.le_refl _)))) <| qm (ii xd) rfl <| qm (ii xe) rfl <| qm (ii i1169) rfl <| qv (ii (IntKind.wrap .i64 (xe + i1169))) (V.add rfl rfl) ?_
     refine qv (.agg #[ii x1309.1, ii x1318.1, ii xd, ii (IntKind.wrap .i64 (xe + i1169)), .bool false]) (V.build inf121 places121 rfl rfl) <| JQ.nil ?_
     refine JA.op rfl (A.lit (K0 := Hp.nil) (ty := (.cons (.int .i64) (.cons (.int .i64) (.cons (.int .i64) (.cons (.int .i64) (.one .bool)))))) (xs := ([(x1309.1, x1318.1, xd, IntKind.wrap .i64 (xe + i1169), false)] : List (Int × Int × Int × Int × Bool))) Try.underlying90 inf121 rfl (by decide) rfl rfl rfl ⟨_, _, rfl, ⟨_, _, rfl, rfl, rfl, ⟨_, _, rfl, rfl, rfl, ⟨_, _, rfl, rfl, rfl, ⟨_, _, rfl, rfl, rfl, rfl⟩⟩⟩⟩, rfl⟩ rfl (by decide)) ?_
     rintro _ _ _ ⟨b1327, rfl, rfl, rfl⟩
     have hn1328 : ([(x1309.1, x1318.1, xd, IntKind.wrap .i64 (xe + i1169), false)] : List (Int × Int × Int × Int × Bool)) ≠ [] → ∃ g, (some ⟨b1327, 0, none⟩ : Option Addr) = some ⟨g, 0, none⟩ := fun _ => ⟨b1327, rfl⟩
     refine ⟨fun w hs => Hold.sub (Hp.le_refl _) ⟨1, rfl, trivial⟩ hs, ?_⟩
     refine JM.nil <| JQ.nil ?_
     obtain ⟨z1330, hz1331, h1283⟩ := ob h1283
     refine J.front 1 rfl <| J.op rfl (A.appR (Kr := Hp.nil) Try.underlying90 inf121 rfl rfl (by decide) (by decide) rfl rfl (Els.flat rfl) (Els.flat rfl) hz1331) ?_
     rintro _ _ _ ⟨v1332, rfl, rfl, rfl⟩
     refine J.wit Row.form ?_
     rintro ⟨ad1333, cp1334, rfl, _, _, hn1335⟩
     refine ja (.slice ad1333 z1330.length cp1334) rfl <| J.nil <| CJ.seq <| CJ.region <| jm (.slice adxc_0 xc.length cpxc_0) rfl <| jm (ii i1169) rfl ?_
     obtain ⟨x1336, hx1337, h1283⟩ := ob h1283
     obtain ⟨p1338, p1339, p1340⟩ := getI_some hx1337
     obtain ⟨b1341, o1342, e1343, a1344⟩ := (fxc_0).at p1339
     refine jv _ (V.iad Try.underlying24 sz96 rfl e1343 rfl p1338 p1340) <| jv _ (V.fad Try.underlying96 rfl nz4 rfl) <| jv (.bool x1336.2) (V.ld rfl (Ld.sc sc4 (Rd.k (((a1344).snd).one).bool (Hp.le_refl _)))) <| J.nil <| cc rfl h1283 (fun hc1345 h1283 => ?_) fun hc1345 h1283 => ?_
     · refine CJ.mix [Row Hp.nil 121 (.cons (.int .i64) (.cons (.int .i64) (.cons (.int .i64) (.cons (.int .i64) (.one .bool))))) (.slice ad1333 z1330.length cp1334) z1330] [([0, 1, 2, 3, 4, 5, 6, 7, 8, 9, 10, 11, 12, 13, 14, 15], 16)] [] [17, 18] mixO (by decide +kernel) ⟨0, rfl, trivial⟩ rfl rfl rfl <| JM.cons <| qm (.slice ad1333 z1330.length cp1334) rfl <| qm (.slice adxc_0 xc.length cpxc_0) rfl <| qm (ii i1169) rfl ?_
       obtain ⟨x1367, hx1368, h1283⟩ := ob h1283
       obtain ⟨p1369, p1370, p1371⟩ := getI_some hx1368
       obtain ⟨b1372, o1373, e1374, a1375⟩ := (fxc_0).at p1370
       refine qv _ (V.iad Try.underlying24 sz96 rfl e1374 rfl p1369 p1371) <| qv _ (V.fad Try.underlying96 rfl nz3 rfl) <| qv (ii x1367.1) (V.ld rfl (Ld.sc sc3 (Rd.k ((a1375).fst).int (Hp.le_refl _)))) <| qm (.slice adxb_0 xb.length cpxb_0) rfl <| qm (ii i1169) rfl ?_
       obtain ⟨x1376, hx1377, h1283⟩ := ob h1283
       obtain ⟨p1378, p1379, p1380⟩ := getI_some hx1377
       obtain ⟨b1381, o1382, e1383, a1384⟩ := (fxb_0).at p1379
       refine qv _ (V.iad Try.underlying24 sz96 rfl e1383 rfl p1378 p1380) <| qv _ (V.fad Try.underlying96 rfl nz3 rfl) <| qv (ii x1376.1) (V.ld rfl (Ld.sc sc3 (Rd.k ((a1384).fst).int (Hp.le_refl _)))) <| qm (ii xd) rfl <| qm (ii xe) rfl <| qm (ii i1169) rfl <| qv (ii (IntKind.wrap .i64 (xe + i1169))) (V.add rfl rfl) ?_
       refine qv (.agg #[ii x1367.1, ii x1376.1, ii xd, ii (IntKind.wrap .i64 (xe + i1169)), .bool true]) (V.build inf121 places121 rfl rfl) <| JQ.nil ?_
       refine JA.op rfl (A.lit (K0 := Hp.nil) (ty := (.cons (.int .i64) (.cons (.int .i64) (.cons (.int .i64) (.cons (.int .i64) (.one .bool)))))) (xs := ([(x1367.1, x1376.1, xd, IntKind.wrap .i64 (xe + i1169), true)] : List (Int × Int × Int × Int × Bool))) Try.underlying90 inf121 rfl (by decide) rfl rfl rfl ⟨_, _, rfl, ⟨_, _, rfl, rfl, rfl, ⟨_, _, rfl, rfl, rfl, ⟨_, _, rfl, rfl, rfl, ⟨_, _, rfl, rfl, rfl, rfl⟩⟩⟩⟩, rfl⟩ rfl (by decide)) ?_
       rintro _ _ _ ⟨b1385, rfl, rfl, rfl⟩
       have hn1386 : ([(x1367.1, x1376.1, xd, IntKind.wrap .i64 (xe + i1169), true)] : List (Int × Int × Int × Int × Bool)) ≠ [] → ∃ g, (some ⟨b1385, 0, none⟩ : Option Addr) = some ⟨g, 0, none⟩ := fun _ => ⟨b1385, rfl⟩
       refine ⟨fun w hs => Hold.sub (Hp.le_refl _) ⟨1, rfl, trivial⟩ hs, ?_⟩
       refine JM.nil <| JQ.nil ?_
       obtain ⟨z1388, hz1389, h1283⟩ := ob h1283
       refine J.front 1 rfl <| J.op rfl (A.appR (Kr := Hp.nil) Try.underlying90 inf121 rfl rfl (by decide) (by decide) rfl rfl (Els.flat rfl) (Els.flat rfl) hz1389) ?_
       rintro _ _ _ ⟨v1390, rfl, rfl, rfl⟩
       refine J.wit Row.form ?_
       rintro ⟨ad1391, cp1392, rfl, _, _, hn1393⟩
       refine ja (.slice ad1391 z1388.length cp1392) rfl <| J.nil <| CJ.region <| jm (ii i1169) rfl <| jv (ii (IntKind.wrap .i64 (i1169 + 1))) (V.add rfl rfl) <| ja (ii (IntKind.wrap .i64 (i1169 + 1))) rfl <| J.nil ?_
       obtain rfl := si h1283
       exact ⟨rfl, ⟨z1388, IntKind.wrap .i64 (i1169 + 1), ad1391, cp1392, rfl, ⟨rfl, rfl, rfl, rfl, rfl, rfl, trivial⟩, rfl, rfl⟩⟩
     refine CJ.skip <| CJ.region <| jm (ii i1169) rfl <| jv (ii (IntKind.wrap .i64 (i1169 + 1))) (V.add rfl rfl) <| ja (ii (IntKind.wrap .i64 (i1169 + 1))) rfl <| J.nil ?_
     obtain rfl := si h1283
     exact ⟨rfl, ⟨z1330, IntKind.wrap .i64 (i1169 + 1), ad1333, cp1334, rfl, ⟨rfl, rfl, rfl, rfl, rfl, rfl, trivial⟩, rfl, rfl⟩⟩
   refine CJ.exit ?_
   obtain rfl := si h1283
   refine ⟨nofun, fun e => ?_⟩
   subst e
   exact ⟨rfl, ⟨l1164, ad1165, cp1166, rfl, ⟨rfl, trivial⟩, rfl, rfl⟩⟩
 rintro ρ _ _ ⟨l1044, ad1045, cp1046, rfl, hf1394, rfl, rfl⟩
 obtain ⟨ρ, rfl⟩ := hf1394.ex
 refine PJ.wit Row.hn fun hn1048 => PJ.done <| CJ.seq <| CJ.region <| jm (.slice ad1045 l1044.length cp1046) rfl <| ja (.slice ad1045 l1044.length cp1046) rfl <| J.nil ?_
 refine CJ.ret ?_
 obtain rfl := si h
 exact ⟨_, _, Res.one rfl rfl, ⟨l1044, ad1045, cp1046, rfl, rfl, rfl⟩, (Hp.le_refl _), fun w hs => hs⟩

noncomputable def fn_ref16_Flow (xa : (List (Int × Bool))) (xb : (List (Int × Bool))) (xc : Int) (xd : Int) : Option (((List (Int × Int × Int × Int × Bool)) × Int)) :=
  (fn_ref15_Shape xa xb).bind fun t34 => cond (!t34) (some (([], 8))) ((fn_ref16_slots_rkkii xa xb xc xd (([] : List (Int × Int × Int × Int × Bool)))).bind fun l45 => some ((l45, 0)))
set_option maxRecDepth 100000 in
set_option maxHeartbeats 4000000 in
theorem ref16_Flow_ok {K : Hp} {xa : (List (Int × Bool))} {xb : (List (Int × Bool))} {xc : Int} {xd : Int} {adxa_0 : Option Addr} {cpxa_0 : Nat} {adxb_0 : Option Addr} {cpxb_0 : Nat} (fxa_0 : Is K (.sl (.cons (.int .i64) (.one .bool))) [.slice adxa_0 xa.length cpxa_0] xa) (fxb_0 : Is K (.sl (.cons (.int .i64) (.one .bool))) [.slice adxb_0 xb.length cpxb_0] xb) {r : ((List (Int × Int × Int × Int × Bool)) × Int)} (h : fn_ref16_Flow xa xb xc xd = some r) :
    Tr Try.prog 61 #[.agg #[.slice adxa_0 xa.length cpxa_0], .agg #[.slice adxb_0 xb.length cpxb_0], ii xc, ii xd] K [] (fun v K' L' => (∃ (l24 : (List (Int × Int × Int × Int × Bool))) (i29 : Int) (ad25 : Option Addr) (cp26 : Nat), (l24, i29) = r ∧ .tuple #[.slice ad25 l24.length cp26, ii i29] = v ∧ L' = [Row Hp.nil 121 (.cons (.int .i64) (.cons (.int .i64) (.cons (.int .i64) (.cons (.int .i64) (.one .bool))))) (.slice ad25 l24.length cp26) l24]) ∧ K = K') := by
 refine Tr.k <| Tr.of Try.func61 rfl Try.ntmps61 rfl fun E F => ?_
 unfold fn_ref16_Flow at h
 refine CJ.seq <| CJ.region <| jbx [.slice adxa_0 xa.length cpxa_0] rfl rfl fun b30 => jbx [.slice adxb_0 xb.length cpxb_0] rfl rfl fun b31 => ja (.slice none 0 0) rfl <| ja (ii 0) rfl <| J.nil ?_
 refine CJ.seq <| CJ.seq <| CJ.region <| jv (.agg #[.slice adxa_0 xa.length cpxa_0]) (V.ld rfl (Ld.agg (cs := [.slice adxa_0 xa.length cpxa_0]) Try.underlying26 sz26 rfl (Rd.cls 1 0 rfl rfl))) <| jv (.agg #[.slice adxb_0 xb.length cpxb_0]) (V.ld rfl (Ld.agg (cs := [.slice adxb_0 xb.length cpxb_0]) Try.underlying26 sz26 rfl (Rd.cls 0 0 rfl rfl))) ?_
 obtain ⟨r32, hr33, h⟩ := ob h
 refine J.op rfl (A.call (L1 := []) Try.call47 rfl (ref15_Shape_ok fxa_0 fxb_0 hr33) rfl rfl) ?_
 rintro _ _ _ ⟨v35, _, rfl, ⟨⟨t34, rfl, rfl, rfl⟩, rfl⟩, _, rfl⟩
 refine jv (.bool (!t34)) (V.not rfl) <| J.nil <| cc rfl h (fun hc38 h => ?_) fun hc38 h => ?_
 · refine CJ.seq <| CJ.region <| ja (.slice none 0 0) rfl <| ja (ii 8) rfl <| J.nil <| CJ.by (fun w hs => Sep.rowNil (e := 121) (t := (.cons (.int .i64) (.cons (.int .i64) (.cons (.int .i64) (.cons (.int .i64) (.one .bool)))))) hs) <| CJ.ret ?_
   obtain rfl := si h
   exact ⟨_, _, Res.two rfl rfl rfl, ⟨[], 8, none, 0, rfl, rfl, rfl⟩, (Hp.le_refl _), fun w hs => (Sep.dropAt 1 rfl (Sep.dropAt 1 rfl hs))⟩
 refine CJ.skip <| CJ.seq <| CJ.region ?_
 refine J.op rfl (A.lit (K0 := Hp.nil) (ty := (.cons (.int .i64) (.cons (.int .i64) (.cons (.int .i64) (.cons (.int .i64) (.one .bool)))))) (xs := ([] : List (Int × Int × Int × Int × Bool))) Try.underlying90 inf121 rfl (by decide) rfl rfl rfl rfl rfl (by decide)) ?_
 rintro _ _ _ ⟨b40, rfl, rfl, rfl⟩
 have hn41 : ([] : List (Int × Int × Int × Int × Bool)) ≠ [] → ∃ g, (some ⟨b40, 0, none⟩ : Option Addr) = some ⟨g, 0, none⟩ := fun _ => ⟨b40, rfl⟩
 refine jv _ (V.fad Try.underlying26 rfl nz24 rfl) <| jv (.slice adxa_0 xa.length cpxa_0) (V.ld rfl (Ld.sc sc24 (Rd.cl 2 rfl rfl))) <| jv _ (V.fad Try.underlying26 rfl nz24 rfl) <| jv (.slice adxb_0 xb.length cpxb_0) (V.ld rfl (Ld.sc sc24 (Rd.cl 1 rfl rfl))) <| jm (ii xc) rfl <| jm (ii xd) rfl ?_
 obtain ⟨r43, hr44, h⟩ := ob h
 refine J.op rfl (A.call (L1 := [Row Hp.nil 121 (.cons (.int .i64) (.cons (.int .i64) (.cons (.int .i64) (.cons (.int .i64) (.one .bool))))) (.slice (some ⟨b40, 0, none⟩) ((([] : List (Int × Int × Int × Int × Bool))).length) 0) (([] : List (Int × Int × Int × Int × Bool)))]) Try.call77 rfl (ref16_slots_rkkii_ok fxa_0 fxb_0 hr44) rfl rfl) ?_
 rintro _ _ _ ⟨v49, _, rfl, ⟨⟨l45, ad46, cp47, rfl, rfl, rfl⟩, rfl⟩, _, rfl⟩
 refine J.wit Row.hn fun hn48 => ja (.slice ad46 l45.length cp47) rfl <| ja (ii 0) rfl <| J.nil <| CJ.ret ?_
 obtain rfl := si h
 exact ⟨_, _, Res.two rfl rfl rfl, ⟨l45, 0, ad46, cp47, rfl, rfl, rfl⟩, (Hp.le_refl _), fun w hs => (Sep.dropAt 1 rfl (Sep.dropAt 1 rfl hs))⟩
noncomputable def fn_ref15_Ref_l1 (xa : (List (Int × Bool))) (xc : Bool) : ((List (Int × Bool)) × Int) → Option (((List (Int × Bool)) × Int) ⊕ (List (Int × Bool))) := fun ((l734, i739) : ((List (Int × Bool)) × Int)) => cond (decide (i739 < (((xa.length : Nat) : Int)))) ((getI xa i739).bind fun x839 => (getI xa i739).bind fun x848 => cond (x848.2) ((app l734 (([(x839.1, true)] : List (Int × Bool)))).bind fun z861 => some (.inl ((z861, IntKind.wrap .i64 (i739 + 1))))) ((app l734 (([(x839.1, xc)] : List (Int × Bool)))).bind fun z870 => some (.inl ((z870, IntKind.wrap .i64 (i739 + 1)))))) (some (.inr (l734)))
noncomputable def fn_ref15_Ref (xa : (List (Int × Bool))) (xb : Int) (xc : Bool) : Option ((List (Int × Bool))) :=
  (loop (fn_ref15_Ref_l1 xa xc) ((([(xb, false)] : List (Int × Bool)), 0)) : Option ((List (Int × Bool)))).bind fun l658 => some (l658)
set_option maxRecDepth 100000 in
set_option maxHeartbeats 4000000 in
theorem ref15_Ref_ok {K : Hp} {xa : (List (Int × Bool))} {xb : Int} {xc : Bool} {adxa_0 : Option Addr} {cpxa_0 : Nat} (fxa_0 : Is K (.sl (.cons (.int .i64) (.one .bool))) [.slice adxa_0 xa.length cpxa_0] xa) {r : (List (Int × Bool))} (h : fn_ref15_Ref xa xb xc = some r) :
    Tr Try.prog 78 #[.agg #[.slice adxa_0 xa.length cpxa_0], ii xb, .bool xc] K [] (fun v K' L' => (∃ (l437 : (List (Int × Bool))) (ad438 : Option Addr) (cp439 : Nat), l437 = r ∧ .agg #[.slice ad438 l437.length cp439] = v ∧ L' = [Row Hp.nil 96 (.cons (.int .i64) (.one .bool)) (.slice ad438 l437.length cp439) l437]) ∧ K = K') := by
 refine Tr.k <| Tr.of Try.func78 rfl Try.ntmps78 rfl fun E F => ?_
 unfold fn_ref15_Ref at h
 refine CJ.seq <| CJ.region <| jbx [.slice adxa_0 xa.length cpxa_0] rfl rfl fun b442 => jal inf26 [.slice none 0 0] rfl fun b443 => J.nil <| CJ.seq <| CJ.region ?_
 refine jm (ii xb) rfl <| jv (.agg #[ii xb, .bool false]) (V.build inf96 places96 rfl rfl) ?_
 refine J.op rfl (A.lit (K0 := Hp.nil) (ty := (.cons (.int .i64) (.one .bool))) (xs := ([(xb, false)] : List (Int × Bool))) Try.underlying24 inf96 rfl (by decide) rfl rfl rfl ⟨_, _, rfl, ⟨_, _, rfl, rfl, rfl, rfl⟩, rfl⟩ rfl (by decide)) ?_
 rintro _ _ _ ⟨b444, rfl, rfl, rfl⟩
 have hn445 : ([(xb, false)] : List (Int × Bool)) ≠ [] → ∃ g, (some ⟨b444, 0, none⟩ : Option Addr) = some ⟨g, 0, none⟩ := fun _ => ⟨b444, rfl⟩
 refine ja (.slice (some ⟨b444, 0, none⟩) ((([(xb, false)] : List (Int × Bool))).length) 1) rfl <| J.nil <| CJ.seq <| CJ.seq <| CJ.region <| ja (ii 0) rfl <| J.nil ?_
 obtain ⟨o663, ho664, h⟩ := ob h
 refine CJ.meetN (fun ρ K' L' => ∃ (l658 : (List (Int × Bool))) (ad659 : Option Addr) (cp660 : Nat), l658 = o663 ∧ Fits [(6, .pointer (some ⟨b443, 0, none⟩)), (7, .slice ad659 l658.length cp660)] ρ ∧ K = K' ∧ L' = Cl b443 26 [.slice none 0 0] :: Row Hp.nil 96 (.cons (.int .i64) (.one .bool)) (.slice ad659 l658.length cp660) l658 :: F) ?_ ?_
 · refine CJ.block <| CJ.front 1 rfl <| CJ.front 2 rfl <| CJ.loop (fun s ρ K' L' => ∃ (l734 : (List (Int × Bool))) (i739 : Int) (ad735 : Option Addr) (cp736 : Nat), (l734, i739) = s ∧ Fits [(2, .bool xc), (3, .pointer (some ⟨b442, 0, none⟩)), (6, .pointer (some ⟨b443, 0, none⟩)), (7, .slice ad735 l734.length cp736), (8, ii i739)] ρ ∧ K = K' ∧ L' = Cl b442 26 [.slice adxa_0 xa.length cpxa_0] :: Cl b443 26 [.slice none 0 0] :: Row Hp.nil 96 (.cons (.int .i64) (.one .bool)) (.slice ad735 l734.length cp736) l734 :: F) ho664 ⟨([(xb, false)] : List (Int × Bool)), 0, (some ⟨b444, 0, none⟩), 1, rfl, ⟨rfl, rfl, rfl, rfl, rfl, trivial⟩, rfl, rfl⟩ ?_
   rintro s ρ _ _ r812 ⟨l734, i739, ad735, cp736, rfl, hf810, rfl, rfl⟩ h809
   obtain ⟨ρ, rfl⟩ := hf810.ex
   refine CJ.front 2 rfl <| CJ.wit Row.hn fun hn738 => CJ.seq <| CJ.seq <| CJ.region <| jm (ii i739) rfl <| jv _ (V.fad Try.underlying26 rfl nz24 rfl) ?_
   refine jv (.slice adxa_0 xa.length cpxa_0) (V.ld rfl (Ld.sc sc24 (Rd.cl 1 rfl rfl))) <| jv (ii (((xa.length : Nat) : Int))) (V.len Try.underlying24 rfl) <| jv (.bool (decide (i739 < (((xa.length : Nat) : Int))))) (V.lss rfl rfl) <| J.nil <| cc rfl h809 (fun hc813 h809 => ?_) fun hc813 h809 => ?_
   · refine CJ.skip <| CJ.seq <| CJ.block <| CJ.mix [Row Hp.nil 96 (.cons (.int .i64) (.one .bool)) (.slice ad735 l734.length cp736) l734, Cl b442 26 [.slice adxa_0 xa.length cpxa_0], Cl b443 26 [.slice none 0 0]] [([0, 1, 2, 3, 4, 5, 6, 7, 8, 9, 10, 11, 12, 13, 14, 15, 16], 17)] [] [18, 19] mixO (by decide +kernel) ⟨0, rfl, 0, rfl, 0, rfl, trivial⟩ rfl rfl rfl <| JM.cons <| qm (.slice ad735 l734.length cp736) rfl <| qv _ (V.fad Try.underlying26 rfl nz24 rfl) ?_
     refine qv (.slice adxa_0 xa.length cpxa_0) (V.ld rfl (Ld.sc sc24 (Rd.cl 1 rfl rfl))) <| qm (ii i739) rfl ?_
     obtain ⟨x839, hx840, h809⟩ := ob h809
     obtain ⟨p841, p842, p843⟩ := getI_some hx840
     obtain ⟨b844, o845, e846, a847⟩ := (fxa_0).at p842
     refine qv _ (V.iad Try.underlying24 sz96 rfl e846 rfl p841 p843) <| qv _ (V.fad Try.underlying96 rfl nz3 rfl) <| qv (ii x839.1) (V.ld rfl (Ld.sc sc3 (Rd.k ((a847).fst).int (Hp.le_refl _)))) <| qv _ (V.fad Try.underlying26 rfl nz24 rfl) <| qv (.slice adxa_0 xa.length cpxa_0) (V.ld rfl (Ld.sc sc24 (Rd.cl 1 rfl rfl))) <| qm (ii i739) rfl ?_
     obtain ⟨x848, hx849, h809⟩ := ob h809
     obtain ⟨p850, p851, p852⟩ := getI_some hx849
     obtain ⟨b853, o854, e855, a856⟩ := (fxa_0).at p851
     refine qv _ (V.iad Try.underlying24 sz96 rfl e855 rfl p850 p852) <| qv _ (V.fad Try.underlying96 rfl nz4 rfl) <| qv (.bool x848.2) (V.ld rfl (Ld.sc sc4 (Rd.k (((a856).snd).one).bool (Hp.le_refl _)))) <| qm (.bool x848.2) rfl ?_
     rcases bt (x848.2) with hc857 | hc857
     · have h809 := ct hc857 h809
       refine JQ.skip rfl rfl rfl rfl hc857 <| qv (.bool true) (V.pickT rfl hc857 rfl) <| qv (.agg #[ii x839.1, .bool true]) (V.build inf96 places96 rfl rfl) <| JQ.nil ?_
       refine JA.op rfl (A.lit (K0 := Hp.nil) (ty := (.cons (.int .i64) (.one .bool))) (xs := ([(x839.1, true)] : List (Int × Bool))) Try.underlying24 inf96 rfl (by decide) rfl rfl rfl ⟨_, _, rfl, ⟨_, _, rfl, rfl, rfl, rfl⟩, rfl⟩ rfl (by decide)) ?_
       rintro _ _ _ ⟨b858, rfl, rfl, rfl⟩
       have hn859 : ([(x839.1, true)] : List (Int × Bool)) ≠ [] → ∃ g, (some ⟨b858, 0, none⟩ : Option Addr) = some ⟨g, 0, none⟩ := fun _ => ⟨b858, rfl⟩
       refine ⟨fun w hs => Hold.sub (Hp.le_refl _) ⟨1, rfl, 1, rfl, 1, rfl, trivial⟩ hs, ?_⟩
       refine JM.nil <| JQ.nil ?_
       obtain ⟨z861, hz862, h809⟩ := ob h809
       refine J.front 1 rfl <| J.op rfl (A.appR (Kr := Hp.nil) Try.underlying24 inf96 rfl rfl (by decide) (by decide) rfl rfl (Els.flat rfl) (Els.flat rfl) hz862) ?_
       rintro _ _ _ ⟨v863, rfl, rfl, rfl⟩
       refine J.wit Row.form ?_
       rintro ⟨ad864, cp865, rfl, _, _, hn866⟩
       refine ja (.slice ad864 z861.length cp865) rfl <| J.nil <| CJ.region <| jm (ii i739) rfl <| jv (ii (IntKind.wrap .i64 (i739 + 1))) (V.add rfl rfl) <| ja (ii (IntKind.wrap .i64 (i739 + 1))) rfl <| J.front 2 rfl ?_
       refine J.front 2 rfl <| J.nil ?_
       obtain rfl := si h809
       exact ⟨rfl, ⟨z861, IntKind.wrap .i64 (i739 + 1), ad864, cp865, rfl, ⟨rfl, rfl, rfl, rfl, rfl, trivial⟩, rfl, rfl⟩⟩
     have h809 := cf hc857 h809
     refine JQ.run rfl rfl rfl hc857 <| qm (.bool xc) rfl <| qv (.bool xc) (V.pickF rfl hc857 rfl) <| qv (.agg #[ii x839.1, .bool xc]) (V.build inf96 places96 rfl rfl) <| JQ.nil ?_
     refine JA.op rfl (A.lit (K0 := Hp.nil) (ty := (.cons (.int .i64) (.one .bool))) (xs := ([(x839.1, xc)] : List (Int × Bool))) Try.underlying24 inf96 rfl (by decide) rfl rfl rfl ⟨_, _, rfl, ⟨_, _, rfl, rfl, rfl, rfl⟩, rfl⟩ rfl (by decide)) ?_
     rintro _ _ _ ⟨b867, rfl, rfl, rfl⟩
     have hn868 : ([(x839.1, xc)] : List (Int × Bool)) ≠ [] → ∃ g, (some ⟨b867, 0, none⟩ : Option Addr) = some ⟨g, 0, none⟩ := fun _ => ⟨b867, rfl⟩
     refine ⟨fun w hs => Hold.sub (Hp.le_refl _) ⟨1, rfl, 1, rfl, 1, rfl, trivial⟩ hs, ?_⟩
     refine JM.nil <| JQ.nil ?_
     obtain ⟨z870, hz871, h809⟩ := ob h809
     refine J.front 1 rfl <| J.op rfl (A.appR (Kr := Hp.nil) Try.underlying24 inf96 rfl rfl (by decide) (by decide) rfl rfl (Els.flat rfl) (Els.flat rfl) hz871) ?_
     rintro _ _ _ ⟨v872, rfl, rfl, rfl⟩
     refine J.wit Row.form ?_
     rintro ⟨ad873, cp874, rfl, _, _, hn875⟩
     refine ja (.slice ad873 z870.length cp874) rfl <| J.nil <| CJ.region <| jm (ii i739) rfl <| jv (ii (IntKind.wrap .i64 (i739 + 1))) (V.add rfl rfl) <| ja (ii (IntKind.wrap .i64 (i739 + 1))) rfl <| J.front 2 rfl ?_
     refine J.front 2 rfl <| J.nil ?_
     obtain rfl := si h809
     exact ⟨rfl, ⟨z870, IntKind.wrap .i64 (i739 + 1), ad873, cp874, rfl, ⟨rfl, rfl, rfl, rfl, rfl, trivial⟩, rfl, rfl⟩⟩
   refine CJ.dropAt 1 rfl <| CJ.front 1 rfl <| CJ.exit ?_
   obtain rfl := si h809
   refine ⟨nofun, fun e => ?_⟩
   subst e
   exact ⟨rfl, ⟨l734, ad735, cp736, rfl, ⟨rfl, rfl, trivial⟩, rfl, rfl⟩⟩
 rintro ρ _ _ ⟨l658, ad659, cp660, rfl, hf876, rfl, rfl⟩
 obtain ⟨ρ, rfl⟩ := hf876.ex
 refine PJ.front 1 rfl <| PJ.wit Row.hn fun hn662 => PJ.done <| CJ.seq <| CJ.region <| jm (.slice ad659 l658.length cp660) rfl <| jv (.agg #[.slice ad659 l658.length cp660]) (V.build inf26 places26 rfl rfl) ?_
 refine J.front 1 rfl <| js [.slice ad659 l658.length cp660] sz26 rfl rfl rfl rfl rfl rfl <| J.nil <| CJ.ret ?_
 obtain rfl := si h
 exact ⟨_, _, Res.one rfl ⟨_, _, rfl, Ld.agg (cs := [.slice ad659 l658.length cp660]) Try.underlying26 sz26 rfl (Rd.cls 0 0 rfl rfl)⟩, ⟨l658, ad659, cp660, rfl, rfl, rfl⟩, (Hp.le_refl _), fun w hs => (Sep.dropAt 0 rfl hs)⟩

noncomputable def fn_ref16_Loan (xa : (List (Int × Bool))) (xb : (List (Int × Bool))) (xc : Int) (xd : Bool) : Option (((List (Int × Int × Int × Int × Bool)) × Int)) :=
  (fn_ref15_Ref xa xc xd).bind fun l117 => (fn_ref15_Shape l117 xb).bind fun t130 => cond (!t130) (some (([], 8))) ((getI xb 0).bind fun x136 => (subL xb 1 (((xb.length : Nat) : Int))).bind fun y165 => (fn_ref16_slots_rkkii xa y165 1 1 (([(xc, x136.1, 2, 0, false)] : List (Int × Int × Int × Int × Bool)))).bind fun l173 => some ((l173, 0)))
set_option maxRecDepth 100000 in
set_option maxHeartbeats 4000000 in
theorem ref16_Loan_ok {K : Hp} {xa : (List (Int × Bool))} {xb : (List (Int × Bool))} {xc : Int} {xd : Bool} {adxa_0 : Option Addr} {cpxa_0 : Nat} {adxb_0 : Option Addr} {cpxb_0 : Nat} (fxa_0 : Is K (.sl (.cons (.int .i64) (.one .bool))) [.slice adxa_0 xa.length cpxa_0] xa) (fxb_0 : Is K (.sl (.cons (.int .i64) (.one .bool))) [.slice adxb_0 xb.length cpxb_0] xb) {r : ((List (Int × Int × Int × Int × Bool)) × Int)} (h : fn_ref16_Loan xa xb xc xd = some r) :
    Tr Try.prog 62 #[.agg #[.slice adxa_0 xa.length cpxa_0], .agg #[.slice adxb_0 xb.length cpxb_0], ii xc, .bool xd] K [] (fun v K' L' => (∃ (l88 : (List (Int × Int × Int × Int × Bool))) (i93 : Int) (ad89 : Option Addr) (cp90 : Nat), (l88, i93) = r ∧ .tuple #[.slice ad89 l88.length cp90, ii i93] = v ∧ L' = [Row Hp.nil 121 (.cons (.int .i64) (.cons (.int .i64) (.cons (.int .i64) (.cons (.int .i64) (.one .bool))))) (.slice ad89 l88.length cp90) l88]) ∧ K = K') := by
 refine Tr.k <| Tr.of Try.func62 rfl Try.ntmps62 rfl fun E F => ?_
 unfold fn_ref16_Loan at h
 refine CJ.seq <| CJ.region <| jbx [.slice adxa_0 xa.length cpxa_0] rfl rfl fun b94 => jbx [.slice adxb_0 xb.length cpxb_0] rfl rfl fun b95 => ja (.slice none 0 0) rfl <| ja (ii 0) rfl <| J.nil ?_
 refine CJ.seq <| CJ.seq <| CJ.mix [Cl b95 26 [.slice adxb_0 xb.length cpxb_0], Cl b94 26 [.slice adxa_0 xa.length cpxa_0]] [([0, 1, 2, 4], 3), ([], 5)] [6] [] mixO (by decide +kernel) ⟨0, rfl, 0, rfl, trivial⟩ rfl rfl rfl <| JM.cons <| qv (.agg #[.slice adxa_0 xa.length cpxa_0]) (V.ld rfl (Ld.agg (cs := [.slice adxa_0 xa.length cpxa_0]) Try.underlying26 sz26 rfl (Rd.cls 1 0 rfl rfl))) <| qm (ii xc) rfl <| qm (.bool xd) rfl ?_
 refine qv (.agg #[.slice adxb_0 xb.length cpxb_0]) (V.ld rfl (Ld.agg (cs := [.slice adxb_0 xb.length cpxb_0]) Try.underlying26 sz26 rfl (Rd.cls 0 0 rfl rfl))) <| JQ.nil ?_
 obtain ⟨r115, hr116, h⟩ := ob h
 refine JA.op rfl (A.call (L1 := []) Try.call78 rfl (ref15_Ref_ok fxa_0 hr116) rfl rfl) ?_
 rintro _ _ _ ⟨v121, _, rfl, ⟨⟨l117, ad118, cp119, rfl, rfl, rfl⟩, rfl⟩, _, rfl⟩
 refine ⟨fun w hs => Hold.sub (Hp.le_refl _) ⟨1, rfl, 1, rfl, trivial⟩ hs, ?_⟩
 refine JM.wit Row.hn fun hn120 => JM.cons <| JQ.nil ?_
 obtain ⟨r125, hr126, h⟩ := ob h
 refine JA.op rfl (A.call (L1 := [Row Hp.nil 96 (.cons (.int .i64) (.one .bool)) (.slice ad118 l117.length cp119) l117]) Try.call47 rfl (Tr.lend (Hp.nil_le _) (by decide) (fun K127 hK128 f129 => ref15_Shape_ok f129 (fxb_0.mono hK128) hr126)) rfl rfl) ?_
 rintro _ _ _ ⟨v131, _, rfl, ⟨⟨_, ⟨t130, rfl, rfl, rfl⟩, rfl⟩, rfl⟩, _, rfl⟩
 refine ⟨fun w hs => Hold.sub (Hp.le_refl _) ⟨1, rfl, 1, rfl, trivial⟩ hs, ?_⟩
 refine JM.nil <| qv (.bool (!t130)) (V.not rfl) <| JQ.nil <| J.nil <| cc rfl h (fun hc134 h => ?_) fun hc134 h => ?_
 · refine CJ.seq <| CJ.region <| ja (.slice none 0 0) rfl <| ja (ii 8) rfl <| J.nil <| CJ.by (fun w hs => Sep.rowNil (e := 121) (t := (.cons (.int .i64) (.cons (.int .i64) (.cons (.int .i64) (.cons (.int .i64) (.one .bool)))))) hs) <| CJ.ret ?_
   obtain rfl := si h
   exact ⟨_, _, Res.two rfl rfl rfl, ⟨[], 8, none, 0, rfl, rfl, rfl⟩, (Hp.le_refl _), fun w hs => (Sep.dropAt 1 rfl (Sep.dropAt 1 rfl (Sep.dropAt 1 rfl hs)))⟩
 refine CJ.skip <| CJ.seq <| CJ.region <| jm (ii xc) rfl <| jv _ (V.fad Try.underlying26 rfl nz24 rfl) <| jv (.slice adxb_0 xb.length cpxb_0) (V.ld rfl (Ld.sc sc24 (Rd.cl 1 rfl rfl))) ?_
 obtain ⟨x136, hx137, h⟩ := ob h
 obtain ⟨p138, p139, p140⟩ := getI_some hx137
 obtain ⟨b141, o142, e143, a144⟩ := (fxb_0).at p139
 refine jv _ (V.iad Try.underlying24 sz96 rfl e143 rfl p138 p140) <| jv _ (V.fad Try.underlying96 rfl nz3 rfl) <| jv (ii x136.1) (V.ld rfl (Ld.sc sc3 (Rd.k ((a144).fst).int (Hp.le_refl _)))) <| jv (.agg #[ii xc, ii x136.1, ii 2, ii 0, .bool false]) (V.build inf121 places121 rfl rfl) ?_
 refine J.op rfl (A.lit (K0 := Hp.nil) (ty := (.cons (.int .i64) (.cons (.int .i64) (.cons (.int .i64) (.cons (.int .i64) (.one .bool)))))) (xs := ([(xc, x136.1, 2, 0, false)] : List (Int × Int × Int × Int × Bool))) Try.underlying90 inf121 rfl (by decide) rfl rfl rfl ⟨_, _, rfl, ⟨_, _, rfl, rfl, rfl, ⟨_, _, rfl, rfl, rfl, ⟨_, _, rfl, rfl, rfl, ⟨_, _, rfl, rfl, rfl, rfl⟩⟩⟩⟩, rfl⟩ rfl (by decide)) ?_
 rintro _ _ _ ⟨b145, rfl, rfl, rfl⟩
 have hn146 : ([(xc, x136.1, 2, 0, false)] : List (Int × Int × Int × Int × Bool)) ≠ [] → ∃ g, (some ⟨b145, 0, none⟩ : Option Addr) = some ⟨g, 0, none⟩ := fun _ => ⟨b145, rfl⟩
 refine ja (.slice (some ⟨b145, 0, none⟩) ((([(xc, x136.1, 2, 0, false)] : List (Int × Int × Int × Int × Bool))).length) 1) rfl <| J.nil <| CJ.seq <| CJ.mix [Row Hp.nil 96 (.cons (.int .i64) (.one .bool)) (.slice ad118 l117.length cp119) l117, Cl b95 26 [.slice adxb_0 xb.length cpxb_0], Cl b94 26 [.slice adxa_0 xa.length cpxa_0]] [([0, 1, 2, 3, 4, 5], 6)] [7, 8] [] mixO (by decide +kernel) ⟨1, rfl, 1, rfl, 1, rfl, trivial⟩ rfl rfl rfl <| JM.cons <| qm (.slice (some ⟨b145, 0, none⟩) ((([(xc, x136.1, 2, 0, false)] : List (Int × Int × Int × Int × Bool))).length) 1) rfl <| qv _ (V.fad Try.underlying26 rfl nz24 rfl) ?_
 refine qv (.slice adxa_0 xa.length cpxa_0) (V.ld rfl (Ld.sc sc24 (Rd.cl 2 rfl rfl))) <| qv _ (V.fad Try.underlying26 rfl nz24 rfl) <| qv (.slice adxb_0 xb.length cpxb_0) (V.ld rfl (Ld.sc sc24 (Rd.cl 1 rfl rfl))) ?_
 obtain ⟨y165, hy166, h⟩ := ob h
 obtain ⟨ad167, cp168, hv169, f170⟩ := V.subI (tp := (.cons (.int .i64) (.one .bool))) Try.underlying24 sz96 fxb_0 hy166
 refine qv (.slice ad167 y165.length cp168) (hv169 rfl (fun _ h => by cases h; exact ⟨_, rfl⟩) nofun nofun (fun _ => rfl)) <| JQ.nil ?_
 obtain ⟨r171, hr172, h⟩ := ob h
 refine JA.op rfl (A.call (L1 := [Row Hp.nil 121 (.cons (.int .i64) (.cons (.int .i64) (.cons (.int .i64) (.cons (.int .i64) (.one .bool))))) (.slice (some ⟨b145, 0, none⟩) ((([(xc, x136.1, 2, 0, false)] : List (Int × Int × Int × Int × Bool))).length) 1) (([(xc, x136.1, 2, 0, false)] : List (Int × Int × Int × Int × Bool)))]) Try.call77 rfl (ref16_slots_rkkii_ok fxa_0 f170 hr172) rfl rfl) ?_
 rintro _ _ _ ⟨v177, _, rfl, ⟨⟨l173, ad174, cp175, rfl, rfl, rfl⟩, rfl⟩, _, rfl⟩
 refine ⟨fun w hs => Hold.sub (Hp.le_refl _) ⟨1, rfl, 1, rfl, 1, rfl, trivial⟩ hs, ?_⟩
 refine JM.wit Row.hn fun hn176 => JM.nil <| qa (.slice ad174 l173.length cp175) rfl <| qa (ii 0) rfl <| JQ.nil <| J.nil <| CJ.ret ?_
 obtain rfl := si h
 exact ⟨_, _, Res.two rfl rfl rfl, ⟨l173, 0, ad174, cp175, rfl, rfl, rfl⟩, (Hp.le_refl _), fun w hs => (Sep.dropAt 1 rfl (Sep.dropAt 1 rfl (Sep.dropAt 1 rfl hs)))⟩
end Go.Proofs.Ytejndphglkpnnaa
