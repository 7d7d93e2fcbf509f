/- What Go functions answer: generated. -/
import Derived.Test.YtbaaamdljojknaaF2
namespace Go.Proofs.Ytbaaamdljojknaa
open Go.RowKit
set_option linter.unusedVariables false
set_option linter.unnecessarySimpa false
set_option linter.unusedSimpArgs false
set_option maxRecDepth 20000

noncomputable def fn_valid_Check_az (xa : (Int × Int × (List (Int × Int)) × (List (List (Int × Bool))) × (List (Int × Bool)) × (List (Int × (List (Int × Int)) × (List (List (Int × Bool))) × (List (Int × Bool)))) × (List ((List (Int × Int × Int × Int × Bool)) × (Int × Int × Int × (List Int) × (List Int) × (List Int)))))) : Option (Int × Int × Int × Int) :=
  (fn_tick_Counter_Add_zii 1 1).bind fun _ => (fn_valid_head_az (xa.1, xa.2.1, xa.2.2.1, xa.2.2.2.1, xa.2.2.2.2.1, xa.2.2.2.2.2.1, xa.2.2.2.2.2.2)).bind fun (i100, i101, i102, i103) => cond (!decide (i100 = 0)) (some ((i100, i101, i102, i103))) ((fn_valid_bounds_az (xa.1, xa.2.1, xa.2.2.1, xa.2.2.2.1, xa.2.2.2.2.1, xa.2.2.2.2.2.1, xa.2.2.2.2.2.2)).bind fun (i111, i112, i113, i114) => cond (!decide (i111 = 0)) (some ((i111, i112, i113, i114))) ((fn_valid_locals_az (xa.1, xa.2.1, xa.2.2.1, xa.2.2.2.1, xa.2.2.2.2.1, xa.2.2.2.2.2.1, xa.2.2.2.2.2.2)).bind fun (i122, i123, i124, i125) => cond (!decide (i122 = 0)) (some ((i122, i123, i124, i125))) ((fn_valid_ret_az (xa.1, xa.2.1, xa.2.2.1, xa.2.2.2.1, xa.2.2.2.2.1, xa.2.2.2.2.2.1, xa.2.2.2.2.2.2)).bind fun (i133, i134, i135, i136) => cond (!decide (i133 = 0)) (some ((i133, i134, i135, i136))) ((fn_valid_sigs_az (xa.1, xa.2.1, xa.2.2.1, xa.2.2.2.1, xa.2.2.2.2.1, xa.2.2.2.2.2.1, xa.2.2.2.2.2.2)).bind fun (i144, i145, i146, i147) => cond (!decide (i144 = 0)) (some ((i144, i145, i146, i147))) ((fn_valid_blocks_az (xa.1, xa.2.1, xa.2.2.1, xa.2.2.2.1, xa.2.2.2.2.1, xa.2.2.2.2.2.1, xa.2.2.2.2.2.2)).bind fun (i155, i156, i157, i158) => cond (!decide (i155 = 0)) (some ((i155, i156, i157, i158))) ((fn_valid_code_az (xa.1, xa.2.1, xa.2.2.1, xa.2.2.2.1, xa.2.2.2.2.1, xa.2.2.2.2.2.1, xa.2.2.2.2.2.2)).bind fun (i166, i167, i168, i169) => cond (!decide (i166 = 0)) (some ((i166, i167, i168, i169))) (some ((0, 0, 0, 0)))))))))
set_option maxRecDepth 100000 in
set_option maxHeartbeats 4000000 in
theorem valid_Check_az_ok {K : Hp} {xa : (Int × Int × (List (Int × Int)) × (List (List (Int × Bool))) × (List (Int × Bool)) × (List (Int × (List (Int × Int)) × (List (List (Int × Bool))) × (List (Int × Bool)))) × (List ((List (Int × Int × Int × Int × Bool)) × (Int × Int × Int × (List Int) × (List Int) × (List Int)))))} {adxa_2 : Option Addr} {cpxa_2 : Nat} {adxa_3 : Option Addr} {cpxa_3 : Nat} {adxa_4 : Option Addr} {cpxa_4 : Nat} {adxa_5 : Option Addr} {cpxa_5 : Nat} {adxa_6 : Option Addr} {cpxa_6 : Nat} (fxa_2 : Is K (.sl (.cons (.int .i64) (.one (.int .i64)))) [.slice adxa_2 xa.2.2.1.length cpxa_2] xa.2.2.1) (fxa_3 : Is K (.sl (.one (.sl (.cons (.int .i64) (.one .bool))))) [.slice adxa_3 xa.2.2.2.1.length cpxa_3] xa.2.2.2.1) (fxa_4 : Is K (.sl (.cons (.int .i64) (.one .bool))) [.slice adxa_4 xa.2.2.2.2.1.length cpxa_4] xa.2.2.2.2.1) (fxa_5 : Is K (.sl (.cons (.int .i64) (.cons (.sl (.cons (.int .i64) (.one (.int .i64)))) (.cons (.sl (.one (.sl (.cons (.int .i64) (.one .bool))))) (.one (.one (.sl (.cons (.int .i64) (.one .bool))))))))) [.slice adxa_5 xa.2.2.2.2.2.1.length cpxa_5] xa.2.2.2.2.2.1) (fxa_6 : Is K (.sl (.cons (.sl (.cons (.int .i64) (.cons (.int .i64) (.cons (.int .i64) (.cons (.int .i64) (.one .bool)))))) (.one (.cons (.int .i64) (.cons (.int .i64) (.cons (.int .i64) (.cons (.sl (.int .i64)) (.cons (.sl (.int .i64)) (.one (.sl (.int .i64))))))))))) [.slice adxa_6 xa.2.2.2.2.2.2.length cpxa_6] xa.2.2.2.2.2.2) {r : (Int × Int × Int × Int)} (h : fn_valid_Check_az xa = some r) :
    Tr Try.prog 8 #[.agg #[ii xa.1, ii xa.2.1, .slice adxa_2 xa.2.2.1.length cpxa_2, .slice adxa_3 xa.2.2.2.1.length cpxa_3, .slice adxa_4 xa.2.2.2.2.1.length cpxa_4, .slice adxa_5 xa.2.2.2.2.2.1.length cpxa_5, .slice adxa_6 xa.2.2.2.2.2.2.length cpxa_6], .pointer none] K [] (fun v K' L' => (∃ (i86 : Int) (i87 : Int) (i88 : Int) (i89 : Int), (i86, i87, i88, i89) = r ∧ .agg #[ii i86, ii i87, ii i88, ii i89] = v ∧ L' = []) ∧ K = K') := by
 refine Tr.k <| Tr.of Try.func8 rfl Try.ntmps8 rfl fun E F => ?_
 unfold fn_valid_Check_az at h
 refine CJ.seq <| CJ.region <| jbx [ii xa.1, ii xa.2.1, .slice adxa_2 xa.2.2.1.length cpxa_2, .slice adxa_3 xa.2.2.2.1.length cpxa_3, .slice adxa_4 xa.2.2.2.2.1.length cpxa_4, .slice adxa_5 xa.2.2.2.2.2.1.length cpxa_5, .slice adxa_6 xa.2.2.2.2.2.2.length cpxa_6] rfl rfl fun b90 => jal inf39 [ii 0, ii 0, ii 0, ii 0] rfl fun b91 => J.nil <| CJ.seq <| CJ.region ?_
 refine jm (.pointer none) rfl ?_
 obtain ⟨r92, hr93, h⟩ := ob h
 refine J.op rfl (A.call (L1 := []) Try.call19 rfl (tick_Counter_Add_zii_ok hr93) rfl rfl) ?_
 rintro _ _ _ ⟨v94, _, rfl, ⟨⟨rfl, rfl, rfl⟩, rfl⟩, _, rfl⟩
 refine J.nil <| CJ.seq <| CJ.region ?_
 refine J.op rfl (A.litC (cs := [.func (.func 20) #[] #[], .func (.func 21) #[] #[], .func (.func 22) #[] #[], .func (.func 23) #[] #[], .func (.func 24) #[] #[], .func (.func 25) #[] #[], .func (.func 26) #[] #[]]) Try.underlying64 inf40 (by decide) rfl rfl (by decide)) ?_
 rintro _ _ _ ⟨b97, rfl, rfl, rfl⟩
 refine ja (.slice (some ⟨b97, 0, none⟩) 7 7) rfl <| J.nil <| CJ.seq <| CJ.seq <| CJ.region <| jm (.slice (some ⟨b97, 0, none⟩) 7 7) rfl <| jv (ii 7) (Val.eq (V.len Try.underlying64 rfl) rfl) ?_
 refine jm (ii 0) rfl <| J.nil <| CJ.block <| CJ.unroll 64 <| RJ.next <| CJ.seq <| CJ.region ?_
 refine jv (.bool true) (Val.eq (V.lss rfl rfl) rfl) <| J.nil <| CJ.seq <| CJ.condK (b := true) rfl rfl <| CJ.skip <| CJ.seq <| CJ.block ?_
 refine CJ.seq <| CJ.region <| jv _ (Val.eq (V.iad Try.underlying64 sz40 rfl rfl rfl (by decide) (by decide)) rfl) <| jv (.func (.func 20) #[] #[]) (V.ld rfl (Ld.sc sc40 (Rd.cl 0 rfl rfl))) <| ja (.func (.func 20) #[] #[]) rfl <| J.nil <| CJ.seq ?_
 refine CJ.region <| jm (.func (.func 20) #[] #[]) rfl <| jv (.agg #[ii xa.1, ii xa.2.1, .slice adxa_2 xa.2.2.1.length cpxa_2, .slice adxa_3 xa.2.2.2.1.length cpxa_3, .slice adxa_4 xa.2.2.2.2.1.length cpxa_4, .slice adxa_5 xa.2.2.2.2.2.1.length cpxa_5, .slice adxa_6 xa.2.2.2.2.2.2.length cpxa_6]) (V.ld rfl (Ld.agg (cs := [ii xa.1, ii xa.2.1, .slice adxa_2 xa.2.2.1.length cpxa_2, .slice adxa_3 xa.2.2.2.1.length cpxa_3, .slice adxa_4 xa.2.2.2.2.1.length cpxa_4, .slice adxa_5 xa.2.2.2.2.2.1.length cpxa_5, .slice adxa_6 xa.2.2.2.2.2.2.length cpxa_6]) Try.underlying30 sz30 rfl (Rd.cls 2 0 rfl rfl))) <| jm (.pointer none) rfl ?_
 obtain ⟨r98, hr99, h⟩ := ob h
 refine J.op rfl (A.call (L1 := []) Try.call20 rfl (valid_head_az_ok fxa_2 fxa_3 fxa_4 fxa_5 fxa_6 hr99) rfl rfl) ?_
 rintro _ _ _ ⟨v104, _, rfl, ⟨⟨i100, i101, i102, i103, rfl, rfl, rfl⟩, rfl⟩, _, rfl⟩
 refine jal inf39 [ii 0, ii 0, ii 0, ii 0] rfl fun b107 => js [ii i100, ii i101, ii i102, ii i103] sz39 rfl rfl rfl rfl rfl rfl <| J.nil <| CJ.seq <| CJ.region <| jv _ (V.fad Try.underlying39 rfl nz31 rfl) <| jv (ii i100) (V.ld rfl (Ld.sc sc31 (Rd.cl 0 rfl rfl))) ?_
 refine jv (.bool (!decide (i100 = 0))) (V.neq rfl rfl) <| J.nil <| cc rfl h (fun hc108 h => ?_) fun hc108 h => ?_
 · refine CJ.seq <| CJ.region <| jv (.agg #[ii i100, ii i101, ii i102, ii i103]) (V.ld rfl (Ld.agg (cs := [ii i100, ii i101, ii i102, ii i103]) Try.underlying39 sz39 rfl (Rd.cls 0 0 rfl rfl))) <| J.front 2 rfl <| js [ii i100, ii i101, ii i102, ii i103] sz39 rfl rfl rfl rfl rfl rfl <| J.nil <| CJ.ret ?_
   obtain rfl := si h
   exact ⟨_, _, Res.one rfl ⟨_, _, rfl, Ld.agg (cs := [ii i100, ii i101, ii i102, ii i103]) Try.underlying39 sz39 rfl (Rd.cls 0 0 rfl rfl)⟩, ⟨i100, i101, i102, i103, rfl, rfl, rfl⟩, (Hp.le_refl _), fun w hs => (Sep.dropAt 0 rfl (Sep.dropAt 0 rfl (Sep.dropAt 0 rfl (Sep.dropAt 0 rfl hs))))⟩
 refine CJ.skip <| CJ.region <| jv (ii 1) (Val.eq (V.add rfl rfl) rfl) <| jm (ii 1) rfl <| J.nil <| RJ.next <| CJ.seq ?_
 refine CJ.region <| jv (.bool true) (Val.eq (V.lss rfl rfl) rfl) <| J.nil <| CJ.seq <| CJ.condK (b := true) rfl rfl <| CJ.skip <| CJ.seq ?_
 refine CJ.block <| CJ.seq <| CJ.region <| jv _ (Val.eq (V.iad Try.underlying64 sz40 rfl rfl rfl (by decide) (by decide)) rfl) <| jv (.func (.func 21) #[] #[]) (V.ld rfl (Ld.sc sc40 (Rd.cl 1 rfl rfl))) <| ja (.func (.func 21) #[] #[]) rfl <| J.nil ?_
 refine CJ.seq <| CJ.region <| jm (.func (.func 21) #[] #[]) rfl <| jv (.agg #[ii xa.1, ii xa.2.1, .slice adxa_2 xa.2.2.1.length cpxa_2, .slice adxa_3 xa.2.2.2.1.length cpxa_3, .slice adxa_4 xa.2.2.2.2.1.length cpxa_4, .slice adxa_5 xa.2.2.2.2.2.1.length cpxa_5, .slice adxa_6 xa.2.2.2.2.2.2.length cpxa_6]) (V.ld rfl (Ld.agg (cs := [ii xa.1, ii xa.2.1, .slice adxa_2 xa.2.2.1.length cpxa_2, .slice adxa_3 xa.2.2.2.1.length cpxa_3, .slice adxa_4 xa.2.2.2.2.1.length cpxa_4, .slice adxa_5 xa.2.2.2.2.2.1.length cpxa_5, .slice adxa_6 xa.2.2.2.2.2.2.length cpxa_6]) Try.underlying30 sz30 rfl (Rd.cls 3 0 rfl rfl))) <| jm (.pointer none) rfl ?_
 obtain ⟨r109, hr110, h⟩ := ob h
 refine J.op rfl (A.call (L1 := []) Try.call21 rfl (valid_bounds_az_ok fxa_2 fxa_3 fxa_4 fxa_5 fxa_6 hr110) rfl rfl) ?_
 rintro _ _ _ ⟨v115, _, rfl, ⟨⟨i111, i112, i113, i114, rfl, rfl, rfl⟩, rfl⟩, _, rfl⟩
 refine jal inf39 [ii 0, ii 0, ii 0, ii 0] rfl fun b118 => js [ii i111, ii i112, ii i113, ii i114] sz39 rfl rfl rfl rfl rfl rfl <| J.nil <| CJ.seq <| CJ.region <| jv _ (V.fad Try.underlying39 rfl nz31 rfl) <| jv (ii i111) (V.ld rfl (Ld.sc sc31 (Rd.cl 0 rfl rfl))) ?_
 refine jv (.bool (!decide (i111 = 0))) (V.neq rfl rfl) <| J.nil <| cc rfl h (fun hc119 h => ?_) fun hc119 h => ?_
 · refine CJ.seq <| CJ.region <| jv (.agg #[ii i111, ii i112, ii i113, ii i114]) (V.ld rfl (Ld.agg (cs := [ii i111, ii i112, ii i113, ii i114]) Try.underlying39 sz39 rfl (Rd.cls 0 0 rfl rfl))) <| J.front 3 rfl <| js [ii i111, ii i112, ii i113, ii i114] sz39 rfl rfl rfl rfl rfl rfl <| J.nil <| CJ.ret ?_
   obtain rfl := si h
   exact ⟨_, _, Res.one rfl ⟨_, _, rfl, Ld.agg (cs := [ii i111, ii i112, ii i113, ii i114]) Try.underlying39 sz39 rfl (Rd.cls 0 0 rfl rfl)⟩, ⟨i111, i112, i113, i114, rfl, rfl, rfl⟩, (Hp.le_refl _), fun w hs => (Sep.dropAt 0 rfl (Sep.dropAt 0 rfl (Sep.dropAt 0 rfl (Sep.dropAt 0 rfl (Sep.dropAt 0 rfl hs)))))⟩
 refine CJ.skip <| CJ.region <| jv (ii 2) (Val.eq (V.add rfl rfl) rfl) <| jm (ii 2) rfl <| J.nil <| RJ.next <| CJ.seq ?_
 refine CJ.region <| jv (.bool true) (Val.eq (V.lss rfl rfl) rfl) <| J.nil <| CJ.seq <| CJ.condK (b := true) rfl rfl <| CJ.skip <| CJ.seq ?_
 refine CJ.block <| CJ.seq <| CJ.region <| jv _ (Val.eq (V.iad Try.underlying64 sz40 rfl rfl rfl (by decide) (by decide)) rfl) <| jv (.func (.func 22) #[] #[]) (V.ld rfl (Ld.sc sc40 (Rd.cl 2 rfl rfl))) <| ja (.func (.func 22) #[] #[]) rfl <| J.nil ?_
 refine CJ.seq <| CJ.region <| jm (.func (.func 22) #[] #[]) rfl <| jv (.agg #[ii xa.1, ii xa.2.1, .slice adxa_2 xa.2.2.1.length cpxa_2, .slice adxa_3 xa.2.2.2.1.length cpxa_3, .slice adxa_4 xa.2.2.2.2.1.length cpxa_4, .slice adxa_5 xa.2.2.2.2.2.1.length cpxa_5, .slice adxa_6 xa.2.2.2.2.2.2.length cpxa_6]) (V.ld rfl (Ld.agg (cs := [ii xa.1, ii xa.2.1, .slice adxa_2 xa.2.2.1.length cpxa_2, .slice adxa_3 xa.2.2.2.1.length cpxa_3, .slice adxa_4 xa.2.2.2.2.1.length cpxa_4, .slice adxa_5 xa.2.2.2.2.2.1.length cpxa_5, .slice adxa_6 xa.2.2.2.2.2.2.length cpxa_6]) Try.underlying30 sz30 rfl (Rd.cls 4 0 rfl rfl))) <| jm (.pointer none) rfl ?_
 obtain ⟨r120, hr121, h⟩ := ob h
 refine J.op rfl (A.call (L1 := []) Try.call22 rfl (valid_locals_az_ok fxa_2 fxa_3 fxa_4 fxa_5 fxa_6 hr121) rfl rfl) ?_
 rintro _ _ _ ⟨v126, _, rfl, ⟨⟨i122, i123, i124, i125, rfl, rfl, rfl⟩, rfl⟩, _, rfl⟩
 refine jal inf39 [ii 0, ii 0, ii 0, ii 0] rfl fun b129 => js [ii i122, ii i123, ii i124, ii i125] sz39 rfl rfl rfl rfl rfl rfl <| J.nil <| CJ.seq <| CJ.region <| jv _ (V.fad Try.underlying39 rfl nz31 rfl) <| jv (ii i122) (V.ld rfl (Ld.sc sc31 (Rd.cl 0 rfl rfl))) ?_
 refine jv (.bool (!decide (i122 = 0))) (V.neq rfl rfl) <| J.nil <| cc rfl h (fun hc130 h => ?_) fun hc130 h => ?_
 · refine CJ.seq <| CJ.region <| jv (.agg #[ii i122, ii i123, ii i124, ii i125]) (V.ld rfl (Ld.agg (cs := [ii i122, ii i123, ii i124, ii i125]) Try.underlying39 sz39 rfl (Rd.cls 0 0 rfl rfl))) <| J.front 4 rfl <| js [ii i122, ii i123, ii i124, ii i125] sz39 rfl rfl rfl rfl rfl rfl <| J.nil <| CJ.ret ?_
   obtain rfl := si h
   exact ⟨_, _, Res.one rfl ⟨_, _, rfl, Ld.agg (cs := [ii i122, ii i123, ii i124, ii i125]) Try.underlying39 sz39 rfl (Rd.cls 0 0 rfl rfl)⟩, ⟨i122, i123, i124, i125, rfl, rfl, rfl⟩, (Hp.le_refl _), fun w hs => (Sep.dropAt 0 rfl (Sep.dropAt 0 rfl (Sep.dropAt 0 rfl (Sep.dropAt 0 rfl (Sep.dropAt 0 rfl (Sep.dropAt 0 rfl hs))))))⟩
 refine CJ.skip <| CJ.region <| jv (ii 3) (Val.eq (V.add rfl rfl) rfl) <| jm (ii 3) rfl <| J.nil <| RJ.next <| CJ.seq ?_
 refine CJ.region <| jv (.bool true) (Val.eq (V.lss rfl rfl) rfl) <| J.nil <| CJ.seq <| CJ.condK (b := true) rfl rfl <| CJ.skip <| CJ.seq ?_
 refine CJ.block <| CJ.seq <| CJ.region <| jv _ (Val.eq (V.iad Try.underlying64 sz40 rfl rfl rfl (by decide) (by decide)) rfl) <| jv (.func (.func 23) #[] #[]) (V.ld rfl (Ld.sc sc40 (Rd.cl 3 rfl rfl))) <| ja (.func (.func 23) #[] #[]) rfl <| J.nil ?_
 refine CJ.seq <| CJ.region <| jm (.func (.func 23) #[] #[]) rfl <| jv (.agg #[ii xa.1, ii xa.2.1, .slice adxa_2 xa.2.2.1.length cpxa_2, .slice adxa_3 xa.2.2.2.1.length cpxa_3, .slice adxa_4 xa.2.2.2.2.1.length cpxa_4, .slice adxa_5 xa.2.2.2.2.2.1.length cpxa_5, .slice adxa_6 xa.2.2.2.2.2.2.length cpxa_6]) (V.ld rfl (Ld.agg (cs := [ii xa.1, ii xa.2.1, .slice adxa_2 xa.2.2.1.length cpxa_2, .slice adxa_3 xa.2.2.2.1.length cpxa_3, .slice adxa_4 xa.2.2.2.2.1.length cpxa_4, .slice adxa_5 xa.2.2.2.2.2.1.length cpxa_5, .slice adxa_6 xa.2.2.2.2.2.2.length cpxa_6]) Try.underlying30 sz30 rfl (Rd.cls 5 0 rfl rfl))) <| jm (.pointer none) rfl ?_
 obtain ⟨r131, hr132, h⟩ := ob h
 refine J.op rfl (A.call (L1 := []) Try.call23 rfl (valid_ret_az_ok fxa_2 fxa_3 fxa_4 fxa_5 fxa_6 hr132) rfl rfl) ?_
 rintro _ _ _ ⟨v137, _, rfl, ⟨⟨i133, i134, i135, i136, rfl, rfl, rfl⟩, rfl⟩, _, rfl⟩
 refine jal inf39 [ii 0, ii 0, ii 0, ii 0] rfl fun b140 => js [ii i133, ii i134, ii i135, ii i136] sz39 rfl rfl rfl rfl rfl rfl <| J.nil <| CJ.seq <| CJ.region <| jv _ (V.fad Try.underlying39 rfl nz31 rfl) <| jv (ii i133) (V.ld rfl (Ld.sc sc31 (Rd.cl 0 rfl rfl))) ?_
 refine jv (.bool (!decide (i133 = 0))) (V.neq rfl rfl) <| J.nil <| cc rfl h (fun hc141 h => ?_) fun hc141 h => ?_
 · refine CJ.seq <| CJ.region <| jv (.agg #[ii i133, ii i134, ii i135, ii i136]) (V.ld rfl (Ld.agg (cs := [ii i133, ii i134, ii i135, ii i136]) Try.underlying39 sz39 rfl (Rd.cls 0 0 rfl rfl))) <| J.front 5 rfl <| js [ii i133, ii i134, ii i135, ii i136] sz39 rfl rfl rfl rfl rfl rfl <| J.nil <| CJ.ret ?_
   obtain rfl := si h
   exact ⟨_, _, Res.one rfl ⟨_, _, rfl, Ld.agg (cs := [ii i133, ii i134, ii i135, ii i136]) Try.underlying39 sz39 rfl (Rd.cls 0 0 rfl rfl)⟩, ⟨i133, i134, i135, i136, rfl, rfl, rfl⟩, (Hp.le_refl _), fun w hs => (Sep.dropAt 0 rfl (Sep.dropAt 0 rfl (Sep.dropAt 0 rfl (Sep.dropAt 0 rfl (Sep.dropAt 0 rfl (Sep.dropAt 0 rfl (Sep.dropAt 0 rfl hs)))))))⟩
 refine CJ.skip <| CJ.region <| jv (ii 4) (Val.eq (V.add rfl rfl) rfl) <| jm (ii 4) rfl <| J.nil <| RJ.next <| CJ.seq ?_
 refine CJ.region <| jv (.bool true) (Val.eq (V.lss rfl rfl) rfl) <| J.nil <| CJ.seq <| CJ.condK (b := true) rfl rfl <| CJ.skip <| CJ.seq ?_
 refine CJ.block <| CJ.seq <| CJ.region <| jv _ (Val.eq (V.iad Try.underlying64 sz40 rfl rfl rfl (by decide) (by decide)) rfl) <| jv (.func (.func 24) #[] #[]) (V.ld rfl (Ld.sc sc40 (Rd.cl 4 rfl rfl))) <| ja (.func (.func 24) #[] #[]) rfl <| J.nil ?_
 refine CJ.seq <| CJ.region <| jm (.func (.func 24) #[] #[]) rfl <| jv (.agg #[ii xa.1, ii xa.2.1, .slice adxa_2 xa.2.2.1.length cpxa_2, .slice adxa_3 xa.2.2.2.1.length cpxa_3, .slice adxa_4 xa.2.2.2.2.1.length cpxa_4, .slice adxa_5 xa.2.2.2.2.2.1.length cpxa_5, .slice adxa_6 xa.2.2.2.2.2.2.length cpxa_6]) (V.ld rfl (Ld.agg (cs := [ii xa.1, ii xa.2.1, .slice adxa_2 xa.2.2.1.length cpxa_2, .slice adxa_3 xa.2.2.2.1.length cpxa_3, .slice adxa_4 xa.2.2.2.2.1.length cpxa_4, .slice adxa_5 xa.2.2.2.2.2.1.length cpxa_5, .slice adxa_6 xa.2.2.2.2.2.2.length cpxa_6]) Try.underlying30 sz30 rfl (Rd.cls 6 0 rfl rfl))) <| jm (.pointer none) rfl ?_
 obtain ⟨r142, hr143, h⟩ := ob h
 refine J.op rfl (A.call (L1 := []) Try.call24 rfl (valid_sigs_az_ok fxa_2 fxa_3 fxa_4 fxa_5 fxa_6 hr143) rfl rfl) ?_
 rintro _ _ _ ⟨v148, _, rfl, ⟨⟨i144, i145, i146, i147, rfl, rfl, rfl⟩, rfl⟩, _, rfl⟩
 refine jal inf39 [ii 0, ii 0, ii 0, ii 0] rfl fun b151 => js [ii i144, ii i145, ii i146, ii i147] sz39 rfl rfl rfl rfl rfl rfl <| J.nil <| CJ.seq <| CJ.region <| jv _ (V.fad Try.underlying39 rfl nz31 rfl) <| jv (ii i144) (V.ld rfl (Ld.sc sc31 (Rd.cl 0 rfl rfl))) ?_
 refine jv (.bool (!decide (i144 = 0))) (V.neq rfl rfl) <| J.nil <| cc rfl h (fun hc152 h => ?_) fun hc152 h => ?_
 · refine CJ.seq <| CJ.region <| jv (.agg #[ii i144, ii i145, ii i146, ii i147]) (V.ld rfl (Ld.agg (cs := [ii i144, ii i145, ii i146, ii i147]) Try.underlying39 sz39 rfl (Rd.cls 0 0 rfl rfl))) <| J.front 6 rfl <| js [ii i144, ii i145, ii i146, ii i147] sz39 rfl rfl rfl rfl rfl rfl <| J.nil <| CJ.ret ?_
   obtain rfl := si h
   exact ⟨_, _, Res.one rfl ⟨_, _, rfl, Ld.agg (cs := [ii i144, ii i145, ii i146, ii i147]) Try.underlying39 sz39 rfl (Rd.cls 0 0 rfl rfl)⟩, ⟨i144, i145, i146, i147, rfl, rfl, rfl⟩, (Hp.le_refl _), fun w hs => (Sep.dropAt 0 rfl (Sep.dropAt 0 rfl (Sep.dropAt 0 rfl (Sep.dropAt 0 rfl (Sep.dropAt 0 rfl (Sep.dropAt 0 rfl (Sep.dropAt 0 rfl (Sep.dropAt 0 rfl hs))))))))⟩
 refine CJ.skip <| CJ.region <| jv (ii 5) (Val.eq (V.add rfl rfl) rfl) <| jm (ii 5) rfl <| J.nil <| RJ.next <| CJ.seq ?_
 refine CJ.region <| jv (.bool true) (Val.eq (V.lss rfl rfl) rfl) <| J.nil <| CJ.seq <| CJ.condK (b := true) rfl rfl <| CJ.skip <| CJ.seq ?_
 refine CJ.block <| CJ.seq <| CJ.region <| jv _ (Val.eq (V.iad Try.underlying64 sz40 rfl rfl rfl (by decide) (by decide)) rfl) <| jv (.func (.func 25) #[] #[]) (V.ld rfl (Ld.sc sc40 (Rd.cl 5 rfl rfl))) <| ja (.func (.func 25) #[] #[]) rfl <| J.nil ?_
 refine CJ.seq <| CJ.region <| jm (.func (.func 25) #[] #[]) rfl <| jv (.agg #[ii xa.1, ii xa.2.1, .slice adxa_2 xa.2.2.1.length cpxa_2, .slice adxa_3 xa.2.2.2.1.length cpxa_3, .slice adxa_4 xa.2.2.2.2.1.length cpxa_4, .slice adxa_5 xa.2.2.2.2.2.1.length cpxa_5, .slice adxa_6 xa.2.2.2.2.2.2.length cpxa_6]) (V.ld rfl (Ld.agg (cs := [ii xa.1, ii xa.2.1, .slice adxa_2 xa.2.2.1.length cpxa_2, .slice adxa_3 xa.2.2.2.1.length cpxa_3, .slice adxa_4 xa.2.2.2.2.1.length cpxa_4, .slice adxa_5 xa.2.2.2.2.2.1.length cpxa_5, .slice adxa_6 xa.2.2.2.2.2.2.length cpxa_6]) Try.underlying30 sz30 rfl (Rd.cls 7 0 rfl rfl))) <| jm (.pointer none) rfl ?_
 obtain ⟨r153, hr154, h⟩ := ob h
 refine J.op rfl (A.call (L1 := []) Try.call25 rfl (valid_blocks_az_ok fxa_2 fxa_3 fxa_4 fxa_5 fxa_6 hr154) rfl rfl) ?_
 rintro _ _ _ ⟨v159, _, rfl, ⟨⟨i155, i156, i157, i158, rfl, rfl, rfl⟩, rfl⟩, _, rfl⟩
 refine jal inf39 [ii 0, ii 0, ii 0, ii 0] rfl fun b162 => js [ii i155, ii i156, ii i157, ii i158] sz39 rfl rfl rfl rfl rfl rfl <| J.nil <| CJ.seq <| CJ.region <| jv _ (V.fad Try.underlying39 rfl nz31 rfl) <| jv (ii i155) (V.ld rfl (Ld.sc sc31 (Rd.cl 0 rfl rfl))) ?_
 refine jv (.bool (!decide (i155 = 0))) (V.neq rfl rfl) <| J.nil <| cc rfl h (fun hc163 h => ?_) fun hc163 h => ?_
 · refine CJ.seq <| CJ.region <| jv (.agg #[ii i155, ii i156, ii i157, ii i158]) (V.ld rfl (Ld.agg (cs := [ii i155, ii i156, ii i157, ii i158]) Try.underlying39 sz39 rfl (Rd.cls 0 0 rfl rfl))) <| J.front 7 rfl <| js [ii i155, ii i156, ii i157, ii i158] sz39 rfl rfl rfl rfl rfl rfl <| J.nil <| CJ.ret ?_
   obtain rfl := si h
   exact ⟨_, _, Res.one rfl ⟨_, _, rfl, Ld.agg (cs := [ii i155, ii i156, ii i157, ii i158]) Try.underlying39 sz39 rfl (Rd.cls 0 0 rfl rfl)⟩, ⟨i155, i156, i157, i158, rfl, rfl, rfl⟩, (Hp.le_refl _), fun w hs => (Sep.dropAt 0 rfl (Sep.dropAt 0 rfl (Sep.dropAt 0 rfl (Sep.dropAt 0 rfl (Sep.dropAt 0 rfl (Sep.dropAt 0 rfl (Sep.dropAt 0 rfl (Sep.dropAt 0 rfl (Sep.dropAt 0 rfl hs)))))))))⟩
 refine CJ.skip <| CJ.region <| jv (ii 6) (Val.eq (V.add rfl rfl) rfl) <| jm (ii 6) rfl <| J.nil <| RJ.next <| CJ.seq ?_
 refine CJ.region <| jv (.bool true) (Val.eq (V.lss rfl rfl) rfl) <| J.nil <| CJ.seq <| CJ.condK (b := true) rfl rfl <| CJ.skip <| CJ.seq ?_
 refine CJ.block <| CJ.seq <| CJ.region <| jv _ (Val.eq (V.iad Try.underlying64 sz40 rfl rfl rfl (by decide) (by decide)) rfl) <| jv (.func (.func 26) #[] #[]) (V.ld rfl (Ld.sc sc40 (Rd.cl 6 rfl rfl))) <| ja (.func (.func 26) #[] #[]) rfl <| J.nil ?_
 refine CJ.seq <| CJ.region <| jm (.func (.func 26) #[] #[]) rfl <| jv (.agg #[ii xa.1, ii xa.2.1, .slice adxa_2 xa.2.2.1.length cpxa_2, .slice adxa_3 xa.2.2.2.1.length cpxa_3, .slice adxa_4 xa.2.2.2.2.1.length cpxa_4, .slice adxa_5 xa.2.2.2.2.2.1.length cpxa_5, .slice adxa_6 xa.2.2.2.2.2.2.length cpxa_6]) (V.ld rfl (Ld.agg (cs := [ii xa.1, ii xa.2.1, .slice adxa_2 xa.2.2.1.length cpxa_2, .slice adxa_3 xa.2.2.2.1.length cpxa_3, .slice adxa_4 xa.2.2.2.2.1.length cpxa_4, .slice adxa_5 xa.2.2.2.2.2.1.length cpxa_5, .slice adxa_6 xa.2.2.2.2.2.2.length cpxa_6]) Try.underlying30 sz30 rfl (Rd.cls 8 0 rfl rfl))) <| jm (.pointer none) rfl ?_
 obtain ⟨r164, hr165, h⟩ := ob h
 refine J.op rfl (A.call (L1 := []) Try.call26 rfl (valid_code_az_ok fxa_2 fxa_3 fxa_4 fxa_5 fxa_6 hr165) rfl rfl) ?_
 rintro _ _ _ ⟨v170, _, rfl, ⟨⟨i166, i167, i168, i169, rfl, rfl, rfl⟩, rfl⟩, _, rfl⟩
 refine jal inf39 [ii 0, ii 0, ii 0, ii 0] rfl fun b173 => js [ii i166, ii i167, ii i168, ii i169] sz39 rfl rfl rfl rfl rfl rfl <| J.nil <| CJ.seq <| CJ.region <| jv _ (V.fad Try.underlying39 rfl nz31 rfl) <| jv (ii i166) (V.ld rfl (Ld.sc sc31 (Rd.cl 0 rfl rfl))) ?_
 refine jv (.bool (!decide (i166 = 0))) (V.neq rfl rfl) <| J.nil <| cc rfl h (fun hc174 h => ?_) fun hc174 h => ?_
 · refine CJ.seq <| CJ.region <| jv (.agg #[ii i166, ii i167, ii i168, ii i169]) (V.ld rfl (Ld.agg (cs := [ii i166, ii i167, ii i168, ii i169]) Try.underlying39 sz39 rfl (Rd.cls 0 0 rfl rfl))) <| J.front 8 rfl <| js [ii i166, ii i167, ii i168, ii i169] sz39 rfl rfl rfl rfl rfl rfl <| J.nil <| CJ.ret ?_
   obtain rfl := si h
   exact ⟨_, _, Res.one rfl ⟨_, _, rfl, Ld.agg (cs := [ii i166, ii i167, ii i168, ii i169]) Try.underlying39 sz39 rfl (Rd.cls 0 0 rfl rfl)⟩, ⟨i166, i167, i168, i169, rfl, rfl, rfl⟩, (Hp.le_refl _), fun w hs => (Sep.dropAt 0 rfl (Sep.dropAt 0 rfl (Sep.dropAt 0 rfl (Sep.dropAt 0 rfl (Sep.dropAt 0 rfl (Sep.dropAt 0 rfl (Sep.dropAt 0 rfl (Sep.dropAt 0 rfl (Sep.dropAt 0 rfl (Sep.dropAt 0 rfl hs))))))))))⟩
 refine CJ.skip <| CJ.region <| jv (ii 7) (Val.eq (V.add rfl rfl) rfl) <| jm (ii 7) rfl <| J.nil <| RJ.next <| CJ.seq ?_
 refine CJ.region <| jv (.bool false) (Val.eq (V.lss rfl rfl) rfl) <| J.nil <| CJ.seq <| CJ.condK (b := false) rfl rfl <| CJ.exit <| CJ.seq ?_
 refine CJ.region <| jv (.agg #[ii 0, ii 0, ii 0, ii 0]) (V.build inf39 places39 rfl rfl) <| J.front 8 rfl <| js [ii 0, ii 0, ii 0, ii 0] sz39 rfl rfl rfl rfl rfl rfl <| J.nil <| CJ.ret ?_
 obtain rfl := si h
 exact ⟨_, _, Res.one rfl ⟨_, _, rfl, Ld.agg (cs := [ii 0, ii 0, ii 0, ii 0]) Try.underlying39 sz39 rfl (Rd.cls 0 0 rfl rfl)⟩, ⟨0, 0, 0, 0, rfl, rfl, rfl⟩, (Hp.le_refl _), fun w hs => (Sep.dropAt 0 rfl (Sep.dropAt 0 rfl (Sep.dropAt 0 rfl (Sep.dropAt 0 rfl (Sep.dropAt 0 rfl (Sep.dropAt 0 rfl (Sep.dropAt 0 rfl (Sep.dropAt 0 rfl (Sep.dropAt 0 rfl (Sep.dropAt 0 rfl hs))))))))))⟩

noncomputable def fn_valid_OK (xa : (Int × Int × (List (Int × Int)) × (List (List (Int × Bool))) × (List (Int × Bool)) × (List (Int × (List (Int × Int)) × (List (List (Int × Bool))) × (List (Int × Bool)))) × (List ((List (Int × Int × Int × Int × Bool)) × (Int × Int × Int × (List Int) × (List Int) × (List Int)))))) : Option Bool :=
  (fn_valid_Check_az (xa.1, xa.2.1, xa.2.2.1, xa.2.2.2.1, xa.2.2.2.2.1, xa.2.2.2.2.2.1, xa.2.2.2.2.2.2)).bind fun (i15, i17, i18, i19) => some (decide (i15 = 0))
set_option maxRecDepth 100000 in
set_option maxHeartbeats 4000000 in
theorem valid_OK_ok {K : Hp} {xa : (Int × Int × (List (Int × Int)) × (List (List (Int × Bool))) × (List (Int × Bool)) × (List (Int × (List (Int × Int)) × (List (List (Int × Bool))) × (List (Int × Bool)))) × (List ((List (Int × Int × Int × Int × Bool)) × (Int × Int × Int × (List Int) × (List Int) × (List Int)))))} {adxa_2 : Option Addr} {cpxa_2 : Nat} {adxa_3 : Option Addr} {cpxa_3 : Nat} {adxa_4 : Option Addr} {cpxa_4 : Nat} {adxa_5 : Option Addr} {cpxa_5 : Nat} {adxa_6 : Option Addr} {cpxa_6 : Nat} (fxa_2 : Is K (.sl (.cons (.int .i64) (.one (.int .i64)))) [.slice adxa_2 xa.2.2.1.length cpxa_2] xa.2.2.1) (fxa_3 : Is K (.sl (.one (.sl (.cons (.int .i64) (.one .bool))))) [.slice adxa_3 xa.2.2.2.1.length cpxa_3] xa.2.2.2.1) (fxa_4 : Is K (.sl (.cons (.int .i64) (.one .bool))) [.slice adxa_4 xa.2.2.2.2.1.length cpxa_4] xa.2.2.2.2.1) (fxa_5 : Is K (.sl (.cons (.int .i64) (.cons (.sl (.cons (.int .i64) (.one (.int .i64)))) (.cons (.sl (.one (.sl (.cons (.int .i64) (.one .bool))))) (.one (.one (.sl (.cons (.int .i64) (.one .bool))))))))) [.slice adxa_5 xa.2.2.2.2.2.1.length cpxa_5] xa.2.2.2.2.2.1) (fxa_6 : Is K (.sl (.cons (.sl (.cons (.int .i64) (.cons (.int .i64) (.cons (.int .i64) (.cons (.int .i64) (.one .bool)))))) (.one (.cons (.int .i64) (.cons (.int .i64) (.cons (.int .i64) (.cons (.sl (.int .i64)) (.cons (.sl (.int .i64)) (.one (.sl (.int .i64))))))))))) [.slice adxa_6 xa.2.2.2.2.2.2.length cpxa_6] xa.2.2.2.2.2.2) {r : Bool} (h : fn_valid_OK xa = some r) :
    Tr Try.prog 10 #[.agg #[ii xa.1, ii xa.2.1, .slice adxa_2 xa.2.2.1.length cpxa_2, .slice adxa_3 xa.2.2.2.1.length cpxa_3, .slice adxa_4 xa.2.2.2.2.1.length cpxa_4, .slice adxa_5 xa.2.2.2.2.2.1.length cpxa_5, .slice adxa_6 xa.2.2.2.2.2.2.length cpxa_6]] K [] (fun v K' L' => (∃ (t11 : Bool), t11 = r ∧ .bool t11 = v ∧ L' = []) ∧ K = K') := by
 refine Tr.k <| Tr.of Try.func10 rfl Try.ntmps10 rfl fun E F => ?_
 unfold fn_valid_OK at h
 refine CJ.seq <| CJ.region <| jbx [ii xa.1, ii xa.2.1, .slice adxa_2 xa.2.2.1.length cpxa_2, .slice adxa_3 xa.2.2.2.1.length cpxa_3, .slice adxa_4 xa.2.2.2.2.1.length cpxa_4, .slice adxa_5 xa.2.2.2.2.2.1.length cpxa_5, .slice adxa_6 xa.2.2.2.2.2.2.length cpxa_6] rfl rfl fun b12 => ja (.bool false) rfl <| J.nil <| CJ.seq <| CJ.region ?_
 refine jv (.agg #[ii xa.1, ii xa.2.1, .slice adxa_2 xa.2.2.1.length cpxa_2, .slice adxa_3 xa.2.2.2.1.length cpxa_3, .slice adxa_4 xa.2.2.2.2.1.length cpxa_4, .slice adxa_5 xa.2.2.2.2.2.1.length cpxa_5, .slice adxa_6 xa.2.2.2.2.2.2.length cpxa_6]) (V.ld rfl (Ld.agg (cs := [ii xa.1, ii xa.2.1, .slice adxa_2 xa.2.2.1.length cpxa_2, .slice adxa_3 xa.2.2.2.1.length cpxa_3, .slice adxa_4 xa.2.2.2.2.1.length cpxa_4, .slice adxa_5 xa.2.2.2.2.2.1.length cpxa_5, .slice adxa_6 xa.2.2.2.2.2.2.length cpxa_6]) Try.underlying30 sz30 rfl (Rd.cls 0 0 rfl rfl))) ?_
 obtain ⟨r13, hr14, h⟩ := ob h
 refine J.op rfl (A.call (L1 := []) Try.call8 rfl (valid_Check_az_ok fxa_2 fxa_3 fxa_4 fxa_5 fxa_6 hr14) rfl rfl) ?_
 rintro _ _ _ ⟨v20, _, rfl, ⟨⟨i15, i17, i18, i19, rfl, rfl, rfl⟩, rfl⟩, _, rfl⟩
 refine jv (ii i15) (V.fld (ft := 0) Try.underlying39 rfl (Ld0.sc sc31 rfl) rfl) <| jv (.bool (decide (i15 = 0))) (V.eql rfl rfl) <| ja (.bool (decide (i15 = 0))) rfl <| J.nil <| CJ.ret ?_
 obtain rfl := si h
 exact ⟨_, _, Res.one rfl rfl, ⟨decide (i15 = 0), rfl, rfl, rfl⟩, (Hp.le_refl _), fun w hs => (Sep.dropAt 0 rfl hs)⟩

noncomputable def fn_api_Errno_Error (xa : Int) : Option (List UInt8) :=
  cond ((decide (xa < 0)) || (decide (16 ≤ xa))) (some (([63] : List UInt8))) ((getI ([([111, 107] : List UInt8), ([110, 105, 108] : List UInt8), ([97, 114, 103, 117, 109, 101, 110, 116] : List UInt8), ([102, 111, 114, 109] : List UInt8), ([115, 104, 111, 114, 116] : List UInt8), ([111, 118, 101, 114] : List UInt8), ([109, 97, 110, 121] : List UInt8), ([114, 97, 110, 103, 101] : List UInt8), ([115, 104, 97, 112, 101] : List UInt8), ([115, 116, 97, 116, 101] : List UInt8), ([102, 117, 108, 108] : List UInt8), ([110, 111, 110, 101] : List UInt8), ([104, 101, 97, 100] : List UInt8), ([109, 111, 114, 101] : List UInt8), ([109, 105, 115, 115, 105, 110, 103] : List UInt8), ([119, 114, 111, 110, 103] : List UInt8)] : List (List UInt8)) xa).bind fun x17 => some (x17))
set_option maxRecDepth 100000 in
set_option maxHeartbeats 4000000 in
theorem api_Errno_Error_ok {K : Hp} {xa : Int}   {r : List UInt8} (h : fn_api_Errno_Error xa = some r) :
    Tr Try.prog 15 #[ii xa] K [] (fun v K' L' => (∃ (s11 : List UInt8), s11 = r ∧ .string ⟨s11.toArray⟩ = v ∧ L' = []) ∧ K = K') := by
 refine Tr.k <| Tr.of Try.func15 rfl Try.ntmps15 rfl fun E F => ?_
 unfold fn_api_Errno_Error at h
 refine CJ.seq <| CJ.region <| ja (.string ⟨([] : List UInt8).toArray⟩) rfl <| J.nil <| CJ.seq <| CJ.region <| jv (.agg #[.string ⟨([111, 107] : List UInt8).toArray⟩, .string ⟨([110, 105, 108] : List UInt8).toArray⟩, .string ⟨([97, 114, 103, 117, 109, 101, 110, 116] : List UInt8).toArray⟩, .string ⟨([102, 111, 114, 109] : List UInt8).toArray⟩, .string ⟨([115, 104, 111, 114, 116] : List UInt8).toArray⟩, .string ⟨([111, 118, 101, 114] : List UInt8).toArray⟩, .string ⟨([109, 97, 110, 121] : List UInt8).toArray⟩, .string ⟨([114, 97, 110, 103, 101] : List UInt8).toArray⟩, .string ⟨([115, 104, 97, 112, 101] : List UInt8).toArray⟩, .string ⟨([115, 116, 97, 116, 101] : List UInt8).toArray⟩, .string ⟨([102, 117, 108, 108] : List UInt8).toArray⟩, .string ⟨([110, 111, 110, 101] : List UInt8).toArray⟩, .string ⟨([104, 101, 97, 100] : List UInt8).toArray⟩, .string ⟨([109, 111, 114, 101] : List UInt8).toArray⟩, .string ⟨([109, 105, 115, 115, 105, 110, 103] : List UInt8).toArray⟩, .string ⟨([119, 114, 111, 110, 103] : List UInt8).toArray⟩]) (V.buildA inf68 Try.underlying68 sz9 rfl rfl) ?_
 refine jal inf68 [.string ⟨([] : List UInt8).toArray⟩, .string ⟨([] : List UInt8).toArray⟩, .string ⟨([] : List UInt8).toArray⟩, .string ⟨([] : List UInt8).toArray⟩, .string ⟨([] : List UInt8).toArray⟩, .string ⟨([] : List UInt8).toArray⟩, .string ⟨([] : List UInt8).toArray⟩, .string ⟨([] : List UInt8).toArray⟩, .string ⟨([] : List UInt8).toArray⟩, .string ⟨([] : List UInt8).toArray⟩, .string ⟨([] : List UInt8).toArray⟩, .string ⟨([] : List UInt8).toArray⟩, .string ⟨([] : List UInt8).toArray⟩, .string ⟨([] : List UInt8).toArray⟩, .string ⟨([] : List UInt8).toArray⟩, .string ⟨([] : List UInt8).toArray⟩] rfl fun b12 => js [.string ⟨([111, 107] : List UInt8).toArray⟩, .string ⟨([110, 105, 108] : List UInt8).toArray⟩, .string ⟨([97, 114, 103, 117, 109, 101, 110, 116] : List UInt8).toArray⟩, .string ⟨([102, 111, 114, 109] : List UInt8).toArray⟩, .string ⟨([115, 104, 111, 114, 116] : List UInt8).toArray⟩, .string ⟨([111, 118, 101, 114] : List UInt8).toArray⟩, .string ⟨([109, 97, 110, 121] : List UInt8).toArray⟩, .string ⟨([114, 97, 110, 103, 101] : List UInt8).toArray⟩, .string ⟨([115, 104, 97, 112, 101] : List UInt8).toArray⟩, .string ⟨([115, 116, 97, 116, 101] : List UInt8).toArray⟩, .string ⟨([102, 117, 108, 108] : List UInt8).toArray⟩, .string ⟨([110, 111, 110, 101] : List UInt8).toArray⟩, .string ⟨([104, 101, 97, 100] : List UInt8).toArray⟩, .string ⟨([109, 111, 114, 101] : List UInt8).toArray⟩, .string ⟨([109, 105, 115, 115, 105, 110, 103] : List UInt8).toArray⟩, .string ⟨([119, 114, 111, 110, 103] : List UInt8).toArray⟩] sz68 rfl rfl rfl rfl rfl rfl <| J.nil <| CJ.seq <| CJ.seq <| CJ.region <| jm (ii xa) rfl ?_
 refine jv (.bool (decide (xa < 0))) (V.lss rfl rfl) <| jm (.bool (decide (xa < 0))) rfl <| J.cut 3 <| jmeet [(10, .bool ((decide (xa < 0)) || (decide (16 ≤ xa)))), (0, ii xa), (3, .pointer (some ⟨b12, 0, none⟩))] ?_ ?_
 · rcases bt (decide (xa < 0)) with hc15 | hc15
   · refine J.skip rfl rfl rfl rfl hc15 <| J.skip rfl rfl rfl rfl hc15 <| jv (.bool true) (V.pickT rfl hc15 rfl) <| J.nil ?_
     exact ⟨rfl, ⟨(by simp only [hc15]; rfl), rfl, rfl, trivial⟩, rfl, rfl⟩
   refine J.run rfl rfl rfl hc15 <| jm (ii xa) rfl <| J.run rfl rfl rfl hc15 <| jv (.bool (decide (16 ≤ xa))) (V.geq rfl rfl) <| jv (.bool (decide (16 ≤ xa))) (V.pickF rfl hc15 rfl) <| J.nil ?_
   exact ⟨rfl, ⟨(by simp only [hc15]; rfl), rfl, rfl, trivial⟩, rfl, rfl⟩
 intro ρ
 refine J.nil <| cc rfl h (fun hc16 h => ?_) fun hc16 h => ?_
 · refine CJ.seq <| CJ.region <| ja (.string ⟨([63] : List UInt8).toArray⟩) rfl <| J.nil <| CJ.ret ?_
   obtain rfl := si h
   exact ⟨_, _, Res.one rfl rfl, ⟨([63] : List UInt8), rfl, rfl, rfl⟩, (Hp.le_refl _), fun w hs => (Sep.dropAt 0 rfl hs)⟩
 refine CJ.skip <| CJ.seq <| CJ.region <| jm (ii xa) rfl ?_
 obtain ⟨x17, hx18, h⟩ := ob h
 obtain ⟨p19, p20, p21⟩ := getI_some hx18
 refine jv _ (V.iadA Try.underlying68 sz9 rfl rfl p19 p21) <| jv (.string ⟨x17.toArray⟩) (V.ld rfl (Ld.sc sc9 (Rd.cl 0 rfl (arr_get (xs := ([([111, 107] : List UInt8), ([110, 105, 108] : List UInt8), ([97, 114, 103, 117, 109, 101, 110, 116] : List UInt8), ([102, 111, 114, 109] : List UInt8), ([115, 104, 111, 114, 116] : List UInt8), ([111, 118, 101, 114] : List UInt8), ([109, 97, 110, 121] : List UInt8), ([114, 97, 110, 103, 101] : List UInt8), ([115, 104, 97, 112, 101] : List UInt8), ([115, 116, 97, 116, 101] : List UInt8), ([102, 117, 108, 108] : List UInt8), ([110, 111, 110, 101] : List UInt8), ([104, 101, 97, 100] : List UInt8), ([109, 111, 114, 101] : List UInt8), ([109, 105, 115, 115, 105, 110, 103] : List UInt8), ([119, 114, 111, 110, 103] : List UInt8)] : List (List UInt8))) (f := (fun s => Value.string ⟨s.toArray⟩)) rfl p20)))) <| ja (.string ⟨x17.toArray⟩) rfl <| J.nil <| CJ.ret ?_
 obtain rfl := si h
 exact ⟨_, _, Res.one rfl rfl, ⟨x17, rfl, rfl, rfl⟩, (Hp.le_refl _), fun w hs => (Sep.dropAt 0 rfl hs)⟩

noncomputable def fn_valid_Text (xa : (Int × Int × Int × Int)) : Option (List UInt8) :=
  cond (((decide (xa.1 = 0)) || (decide (xa.2.1 < 0))) || (decide (8 ≤ xa.2.1))) ((fn_api_Errno_Error xa.1).bind fun s58 => some (s58)) ((getI ([([104, 101, 97, 100] : List UInt8), ([98, 111, 117, 110, 100] : List UInt8), ([108, 111, 99, 97, 108] : List UInt8), ([114, 101, 116, 117, 114, 110] : List UInt8), ([115, 105, 103, 110, 97, 116, 117, 114, 101] : List UInt8), ([98, 108, 111, 99, 107] : List UInt8), ([115, 116, 97, 116, 101, 109, 101, 110, 116] : List UInt8), ([116, 101, 114, 109, 105, 110, 97, 116, 111, 114] : List UInt8)] : List (List UInt8)) xa.2.1).bind fun x77 => (app x77 ([58, 32] : List UInt8)).bind fun z82 => (fn_api_Errno_Error xa.1).bind fun s86 => (app z82 s86).bind fun z90 => some (z90))
set_option maxRecDepth 100000 in
set_option maxHeartbeats 4000000 in
theorem valid_Text_ok {K : Hp} {xa : (Int × Int × Int × Int)}   {r : List UInt8} (h : fn_valid_Text xa = some r) :
    Tr Try.prog 13 #[.agg #[ii xa.1, ii xa.2.1, ii xa.2.2.1, ii xa.2.2.2]] K [] (fun v K' L' => (∃ (s46 : List UInt8), s46 = r ∧ .string ⟨s46.toArray⟩ = v ∧ L' = []) ∧ K = K') := by
 refine Tr.k <| Tr.of Try.func13 rfl Try.ntmps13 rfl fun E F => ?_
 unfold fn_valid_Text at h
 refine CJ.seq <| CJ.region <| jbx [ii xa.1, ii xa.2.1, ii xa.2.2.1, ii xa.2.2.2] rfl rfl fun b47 => ja (.string ⟨([] : List UInt8).toArray⟩) rfl <| J.nil <| CJ.seq <| CJ.region ?_
 refine jv (.agg #[.string ⟨([104, 101, 97, 100] : List UInt8).toArray⟩, .string ⟨([98, 111, 117, 110, 100] : List UInt8).toArray⟩, .string ⟨([108, 111, 99, 97, 108] : List UInt8).toArray⟩, .string ⟨([114, 101, 116, 117, 114, 110] : List UInt8).toArray⟩, .string ⟨([115, 105, 103, 110, 97, 116, 117, 114, 101] : List UInt8).toArray⟩, .string ⟨([98, 108, 111, 99, 107] : List UInt8).toArray⟩, .string ⟨([115, 116, 97, 116, 101, 109, 101, 110, 116] : List UInt8).toArray⟩, .string ⟨([116, 101, 114, 109, 105, 110, 97, 116, 111, 114] : List UInt8).toArray⟩]) (V.buildA inf66 Try.underlying66 sz9 rfl rfl) <| jal inf66 [.string ⟨([] : List UInt8).toArray⟩, .string ⟨([] : List UInt8).toArray⟩, .string ⟨([] : List UInt8).toArray⟩, .string ⟨([] : List UInt8).toArray⟩, .string ⟨([] : List UInt8).toArray⟩, .string ⟨([] : List UInt8).toArray⟩, .string ⟨([] : List UInt8).toArray⟩, .string ⟨([] : List UInt8).toArray⟩] rfl fun b48 => js [.string ⟨([104, 101, 97, 100] : List UInt8).toArray⟩, .string ⟨([98, 111, 117, 110, 100] : List UInt8).toArray⟩, .string ⟨([108, 111, 99, 97, 108] : List UInt8).toArray⟩, .string ⟨([114, 101, 116, 117, 114, 110] : List UInt8).toArray⟩, .string ⟨([115, 105, 103, 110, 97, 116, 117, 114, 101] : List UInt8).toArray⟩, .string ⟨([98, 108, 111, 99, 107] : List UInt8).toArray⟩, .string ⟨([115, 116, 97, 116, 101, 109, 101, 110, 116] : List UInt8).toArray⟩, .string ⟨([116, 101, 114, 109, 105, 110, 97, 116, 111, 114] : List UInt8).toArray⟩] sz66 rfl rfl rfl rfl rfl rfl <| J.nil <| CJ.seq <| CJ.seq <| CJ.region ?_
 refine jv _ (V.fad Try.underlying39 rfl nz31 rfl) <| jv (ii xa.1) (V.ld rfl (Ld.sc sc31 (Rd.cl 1 rfl rfl))) <| jv (.bool (decide (xa.1 = 0))) (V.eql rfl rfl) <| jm (.bool (decide (xa.1 = 0))) rfl <| J.cut 4 <| jmeet [(12, .bool ((decide (xa.1 = 0)) || (decide (xa.2.1 < 0)))), (1, .pointer (some ⟨b47, 0, none⟩)), (3, .pointer (some ⟨b48, 0, none⟩))] ?_ ?_
 · rcases bt (decide (xa.1 = 0)) with hc51 | hc51
   · refine J.skip rfl rfl rfl rfl hc51 <| J.skip rfl rfl rfl rfl hc51 <| J.skip rfl rfl rfl rfl hc51 <| jv (.bool true) (V.pickT rfl hc51 rfl) <| J.nil ?_
     exact ⟨rfl, ⟨(by simp only [hc51]; rfl), rfl, rfl, trivial⟩, rfl, rfl⟩
   refine J.run rfl rfl rfl hc51 <| jv _ (V.fad Try.underlying39 rfl nz3 rfl) <| J.run rfl rfl rfl hc51 <| jv (ii xa.2.1) (V.ld rfl (Ld.sc sc3 (Rd.cl 1 rfl rfl))) <| J.run rfl rfl rfl hc51 <| jv (.bool (decide (xa.2.1 < 0))) (V.lss rfl rfl) <| jv (.bool (decide (xa.2.1 < 0))) (V.pickF rfl hc51 rfl) ?_
   refine J.nil ?_
   exact ⟨rfl, ⟨(by simp only [hc51]; rfl), rfl, rfl, trivial⟩, rfl, rfl⟩
 intro ρ
 refine jm (.bool ((decide (xa.1 = 0)) || (decide (xa.2.1 < 0)))) rfl <| J.cut 4 <| jmeet [(17, .bool (((decide (xa.1 = 0)) || (decide (xa.2.1 < 0))) || (decide (8 ≤ xa.2.1)))), (1, .pointer (some ⟨b47, 0, none⟩)), (3, .pointer (some ⟨b48, 0, none⟩))] ?_ ?_
 · rcases bt ((decide (xa.1 = 0)) || (decide (xa.2.1 < 0))) with hc54 | hc54
   · refine J.skip rfl rfl rfl rfl hc54 <| J.skip rfl rfl rfl rfl hc54 <| J.skip rfl rfl rfl rfl hc54 <| jv (.bool true) (V.pickT rfl hc54 rfl) <| J.nil ?_
     exact ⟨rfl, ⟨(by simp only [hc54]; rfl), rfl, rfl, trivial⟩, rfl, rfl⟩
   refine J.run rfl rfl rfl hc54 <| jv _ (V.fad Try.underlying39 rfl nz3 rfl) <| J.run rfl rfl rfl hc54 <| jv (ii xa.2.1) (V.ld rfl (Ld.sc sc3 (Rd.cl 1 rfl rfl))) <| J.run rfl rfl rfl hc54 <| jv (.bool (decide (8 ≤ xa.2.1))) (V.geq rfl rfl) <| jv (.bool (decide (8 ≤ xa.2.1))) (V.pickF rfl hc54 rfl) ?_
   refine J.nil ?_
   exact ⟨rfl, ⟨(by simp only [hc54]; rfl), rfl, rfl, trivial⟩, rfl, rfl⟩
 intro ρ
 refine J.nil <| cc rfl h (fun hc55 h => ?_) fun hc55 h => ?_
 · refine CJ.seq <| CJ.region <| jv _ (V.fad Try.underlying39 rfl nz31 rfl) <| jv (ii xa.1) (V.ld rfl (Ld.sc sc31 (Rd.cl 1 rfl rfl))) ?_
   obtain ⟨r56, hr57, h⟩ := ob h
   refine J.op rfl (A.call (L1 := []) Try.call15 rfl (api_Errno_Error_ok hr57) rfl rfl) ?_
   rintro _ _ _ ⟨v59, _, rfl, ⟨⟨s58, rfl, rfl, rfl⟩, rfl⟩, _, rfl⟩
   refine ja (.string ⟨s58.toArray⟩) rfl <| J.nil <| CJ.ret ?_
   obtain rfl := si h
   exact ⟨_, _, Res.one rfl rfl, ⟨s58, rfl, rfl, rfl⟩, (Hp.le_refl _), fun w hs => (Sep.dropAt 0 rfl (Sep.dropAt 0 rfl hs))⟩
 refine CJ.skip <| CJ.seq <| CJ.mix [Cl b48 66 [.string ⟨([104, 101, 97, 100] : List UInt8).toArray⟩, .string ⟨([98, 111, 117, 110, 100] : List UInt8).toArray⟩, .string ⟨([108, 111, 99, 97, 108] : List UInt8).toArray⟩, .string ⟨([114, 101, 116, 117, 114, 110] : List UInt8).toArray⟩, .string ⟨([115, 105, 103, 110, 97, 116, 117, 114, 101] : List UInt8).toArray⟩, .string ⟨([98, 108, 111, 99, 107] : List UInt8).toArray⟩, .string ⟨([115, 116, 97, 116, 101, 109, 101, 110, 116] : List UInt8).toArray⟩, .string ⟨([116, 101, 114, 109, 105, 110, 97, 116, 111, 114] : List UInt8).toArray⟩], Cl b47 39 [ii xa.1, ii xa.2.1, ii xa.2.2.1, ii xa.2.2.2]] [([0, 1, 2, 3, 4, 5, 6], 7)] [8, 9] [] mixO (by decide +kernel) ⟨0, rfl, 0, rfl, trivial⟩ rfl rfl rfl <| JM.cons <| qv _ (V.fad Try.underlying39 rfl nz3 rfl) <| qv (ii xa.2.1) (V.ld rfl (Ld.sc sc3 (Rd.cl 1 rfl rfl))) ?_
 obtain ⟨x77, hx78, h⟩ := ob h
 obtain ⟨p79, p80, p81⟩ := getI_some hx78
 refine qv _ (V.iadA Try.underlying66 sz9 rfl rfl p79 p81) <| qv (.string ⟨x77.toArray⟩) (V.ld rfl (Ld.sc sc9 (Rd.cl 0 rfl (arr_get (xs := ([([104, 101, 97, 100] : List UInt8), ([98, 111, 117, 110, 100] : List UInt8), ([108, 111, 99, 97, 108] : List UInt8), ([114, 101, 116, 117, 114, 110] : List UInt8), ([115, 105, 103, 110, 97, 116, 117, 114, 101] : List UInt8), ([98, 108, 111, 99, 107] : List UInt8), ([115, 116, 97, 116, 101, 109, 101, 110, 116] : List UInt8), ([116, 101, 114, 109, 105, 110, 97, 116, 111, 114] : List UInt8)] : List (List UInt8))) (f := (fun s => Value.string ⟨s.toArray⟩)) rfl p80)))) ?_
 obtain ⟨z82, hz83, h⟩ := ob h
 refine qv (.string ⟨z82.toArray⟩) (V.cat rfl rfl hz83) <| qv _ (V.fad Try.underlying39 rfl nz31 rfl) <| qv (ii xa.1) (V.ld rfl (Ld.sc sc31 (Rd.cl 1 rfl rfl))) <| JQ.nil ?_
 obtain ⟨r84, hr85, h⟩ := ob h
 refine JA.op rfl (A.call (L1 := []) Try.call15 rfl (api_Errno_Error_ok hr85) rfl rfl) ?_
 rintro _ _ _ ⟨v87, _, rfl, ⟨⟨s86, rfl, rfl, rfl⟩, rfl⟩, _, rfl⟩
 refine ⟨fun w hs => Hold.sub (Hp.le_refl _) ⟨0, rfl, 0, rfl, trivial⟩ hs, ?_⟩
 refine JM.nil ?_
 obtain ⟨z90, hz91, h⟩ := ob h
 refine qv (.string ⟨z90.toArray⟩) (V.cat rfl rfl hz91) <| qa (.string ⟨z90.toArray⟩) rfl <| JQ.nil <| J.nil <| CJ.ret ?_
 obtain rfl := si h
 exact ⟨_, _, Res.one rfl rfl, ⟨z90, rfl, rfl, rfl⟩, (Hp.le_refl _), fun w hs => (Sep.dropAt 0 rfl (Sep.dropAt 0 rfl hs))⟩

noncomputable def fn_law21_awake  : Option Bool :=
  (fn_valid_Check_az (0, 0, [], [], [], [], [])).bind fun (i85, i86, i87, i88) => (fn_valid_Check_az (1, 1, [], [], [], [], [])).bind fun (i95, i96, i97, i98) => (cond ((((decide (i85 = 7)) && (decide (i86 = 0))) && (decide (i95 = 14))) && (decide (i96 = 2))) ((fn_valid_OK ((1, 1, [], ([[]] : List (List (Int × Bool))), [], [], ([([], (3, 0, 0, [], [], []))] : List ((List (Int × Int × Int × Int × Bool)) × (Int × Int × Int × (List Int) × (List Int) × (List Int))))))).bind fun t143 => some (t143)) (some (false))).bind fun t132 => (cond (t132) ((fn_valid_Text (i95, i96, i97, i98)).bind fun s159 => some (decide (s159 = ([108, 111, 99, 97, 108, 58, 32, 109, 105, 115, 115, 105, 110, 103] : List UInt8)))) (some (false))).bind fun t154 => some (t154)
set_option maxRecDepth 100000 in
set_option maxHeartbeats 4000000 in
theorem law21_awake_ok {K : Hp}    {r : Bool} (h : fn_law21_awake = some r) :
    Tr Try.prog 7 #[] K [] (fun v K' L' => (∃ (t82 : Bool), t82 = r ∧ .bool t82 = v ∧ L' = []) ∧ K = K') := by
 refine Tr.k <| Tr.of Try.func7 rfl Try.ntmps7 rfl fun E F => ?_
 unfold fn_law21_awake at h
 refine CJ.seq <| CJ.region <| ja (.bool false) rfl <| J.nil <| CJ.seq <| CJ.region <| jv (.agg #[ii 0, ii 0, .slice none 0 0, .slice none 0 0, .slice none 0 0, .slice none 0 0, .slice none 0 0]) (V.build inf30 places30 rfl rfl) ?_
 obtain ⟨r83, hr84, h⟩ := ob h
 refine J.op rfl (A.call (L1 := []) Try.call8 rfl (valid_Check_az_ok isNil isNil isNil isNil isNil hr84) rfl rfl) ?_
 rintro _ _ _ ⟨v89, _, rfl, ⟨⟨i85, i86, i87, i88, rfl, rfl, rfl⟩, rfl⟩, _, rfl⟩
 refine jal inf39 [ii 0, ii 0, ii 0, ii 0] rfl fun b92 => js [ii i85, ii i86, ii i87, ii i88] sz39 rfl rfl rfl rfl rfl rfl <| J.nil <| CJ.seq <| CJ.region <| jv (.agg #[ii 1, ii 1, .slice none 0 0, .slice none 0 0, .slice none 0 0, .slice none 0 0, .slice none 0 0]) (V.build inf30 places30 rfl rfl) ?_
 obtain ⟨r93, hr94, h⟩ := ob h
 refine J.op rfl (A.call (L1 := []) Try.call8 rfl (valid_Check_az_ok isNil isNil isNil isNil isNil hr94) rfl rfl) ?_
 rintro _ _ _ ⟨v99, _, rfl, ⟨⟨i95, i96, i97, i98, rfl, rfl, rfl⟩, rfl⟩, _, rfl⟩
 refine jal inf39 [ii 0, ii 0, ii 0, ii 0] rfl fun b102 => js [ii i95, ii i96, ii i97, ii i98] sz39 rfl rfl rfl rfl rfl rfl <| J.nil <| CJ.seq <| CJ.region <| jv (.agg #[.slice none 0 0]) (V.build inf26 places26 rfl rfl) ?_
 refine J.op rfl (A.lit (K0 := K) (ty := (.one (.sl (.cons (.int .i64) (.one .bool))))) (xs := ([[]] : List (List (Int × Bool)))) Try.underlying23 inf26 rfl (by decide) rfl rfl rfl ⟨_, _, rfl, (isNil (K := K) (t := (.cons (.int .i64) (.one .bool)))), rfl⟩ rfl (by decide)) ?_
 rintro _ _ _ ⟨b103, rfl, rfl, rfl⟩
 have hn104 : ([[]] : List (List (Int × Bool))) ≠ [] → ∃ g, (some ⟨b103, 0, none⟩ : Option Addr) = some ⟨g, 0, none⟩ := fun _ => ⟨b103, rfl⟩
 refine jv (.agg #[ii 3, ii 0, ii 0, .slice none 0 0, .slice none 0 0, .slice none 0 0]) (V.build inf54 places54 rfl rfl) <| jv (.agg #[.slice none 0 0, ii 3, ii 0, ii 0, .slice none 0 0, .slice none 0 0, .slice none 0 0]) (V.build inf56 places56 rfl rfl) ?_
 refine J.op rfl (A.lit (K0 := K) (ty := (.cons (.sl (.cons (.int .i64) (.cons (.int .i64) (.cons (.int .i64) (.cons (.int .i64) (.one .bool)))))) (.one (.cons (.int .i64) (.cons (.int .i64) (.cons (.int .i64) (.cons (.sl (.int .i64)) (.cons (.sl (.int .i64)) (.one (.sl (.int .i64))))))))))) (xs := ([([], (3, 0, 0, [], [], []))] : List ((List (Int × Int × Int × Int × Bool)) × (Int × Int × Int × (List Int) × (List Int) × (List Int))))) Try.underlying28 inf56 rfl (by decide) rfl rfl rfl ⟨_, _, rfl, ⟨_, _, rfl, rfl, (isNil (K := K) (t := (.cons (.int .i64) (.cons (.int .i64) (.cons (.int .i64) (.cons (.int .i64) (.one .bool))))))), ⟨_, _, rfl, rfl, rfl, ⟨_, _, rfl, rfl, rfl, ⟨_, _, rfl, rfl, rfl, ⟨_, _, rfl, rfl, (isNil (K := K) (t := (.int .i64))), ⟨_, _, rfl, rfl, (isNil (K := K) (t := (.int .i64))), (isNil (K := K) (t := (.int .i64)))⟩⟩⟩⟩⟩⟩, rfl⟩ rfl (by decide)) ?_
 rintro _ _ _ ⟨b106, rfl, rfl, rfl⟩
 have hn107 : ([([], (3, 0, 0, [], [], []))] : List ((List (Int × Int × Int × Int × Bool)) × (Int × Int × Int × (List Int) × (List Int) × (List Int)))) ≠ [] → ∃ g, (some ⟨b106, 0, none⟩ : Option Addr) = some ⟨g, 0, none⟩ := fun _ => ⟨b106, rfl⟩
 refine jv (.agg #[ii 1, ii 1, .slice none 0 0, .slice (some ⟨b103, 0, none⟩) ((([[]] : List (List (Int × Bool)))).length) 1, .slice none 0 0, .slice none 0 0, .slice (some ⟨b106, 0, none⟩) ((([([], (3, 0, 0, [], [], []))] : List ((List (Int × Int × Int × Int × Bool)) × (Int × Int × Int × (List Int) × (List Int) × (List Int))))).length) 1]) (V.build inf30 places30 rfl rfl) <| jal inf30 [ii 0, ii 0, .slice none 0 0, .slice none 0 0, .slice none 0 0, .slice none 0 0, .slice none 0 0] rfl fun b109 => js [ii 1, ii 1, .slice none 0 0, .slice (some ⟨b103, 0, none⟩) ((([[]] : List (List (Int × Bool)))).length) 1, .slice none 0 0, .slice none 0 0, .slice (some ⟨b106, 0, none⟩) ((([([], (3, 0, 0, [], [], []))] : List ((List (Int × Int × Int × Int × Bool)) × (Int × Int × Int × (List Int) × (List Int) × (List Int))))).length) 1] sz30 rfl rfl rfl rfl rfl rfl <| J.nil <| CJ.seq <| CJ.region <| jv _ (V.fad Try.underlying39 rfl nz31 rfl) ?_
 refine jv (ii i85) (V.ld rfl (Ld.sc sc31 (Rd.cl 4 rfl rfl))) <| jv (.bool (decide (i85 = 7))) (V.eql rfl rfl) <| jm (.bool (decide (i85 = 7))) rfl <| J.cut 4 <| jmeet [(21, .bool ((decide (i85 = 7)) && (decide (i86 = 0)))), (2, .pointer (some ⟨b102, 0, none⟩)), (3, .pointer (some ⟨b109, 0, none⟩))] ?_ ?_
 · rcases bt (decide (i85 = 7)) with hc112 | hc112
   · refine J.run rfl rfl rfl hc112 <| jv _ (V.fad Try.underlying39 rfl nz3 rfl) <| J.run rfl rfl rfl hc112 <| jv (ii i86) (V.ld rfl (Ld.sc sc3 (Rd.cl 4 rfl rfl))) <| J.run rfl rfl rfl hc112 <| jv (.bool (decide (i86 = 0))) (V.eql rfl rfl) <| jv (.bool (decide (i86 = 0))) (V.pickT rfl hc112 rfl) ?_
     refine J.nil ?_
     exact ⟨rfl, ⟨(by simp only [hc112]; rfl), rfl, rfl, trivial⟩, rfl, rfl⟩
   refine J.skip rfl rfl rfl rfl hc112 <| J.skip rfl rfl rfl rfl hc112 <| J.skip rfl rfl rfl rfl hc112 <| jv (.bool false) (V.pickF rfl hc112 rfl) <| J.nil ?_
   exact ⟨rfl, ⟨(by simp only [hc112]; rfl), rfl, rfl, trivial⟩, rfl, rfl⟩
 intro ρ
 refine jm (.bool ((decide (i85 = 7)) && (decide (i86 = 0)))) rfl <| J.cut 4 <| jmeet [(26, .bool (((decide (i85 = 7)) && (decide (i86 = 0))) && (decide (i95 = 14)))), (2, .pointer (some ⟨b102, 0, none⟩)), (3, .pointer (some ⟨b109, 0, none⟩))] ?_ ?_
 · rcases bt ((decide (i85 = 7)) && (decide (i86 = 0))) with hc115 | hc115
   · refine J.run rfl rfl rfl hc115 <| jv _ (V.fad Try.underlying39 rfl nz31 rfl) <| J.run rfl rfl rfl hc115 <| jv (ii i95) (V.ld rfl (Ld.sc sc31 (Rd.cl 3 rfl rfl))) <| J.run rfl rfl rfl hc115 <| jv (.bool (decide (i95 = 14))) (V.eql rfl rfl) <| jv (.bool (decide (i95 = 14))) (V.pickT rfl hc115 rfl) ?_
     refine J.nil ?_
     exact ⟨rfl, ⟨(by simp only [hc115]; rfl), rfl, rfl, trivial⟩, rfl, rfl⟩
   refine J.skip rfl rfl rfl rfl hc115 <| J.skip rfl rfl rfl rfl hc115 <| J.skip rfl rfl rfl rfl hc115 <| jv (.bool false) (V.pickF rfl hc115 rfl) <| J.nil ?_
   exact ⟨rfl, ⟨(by simp only [hc115]; rfl), rfl, rfl, trivial⟩, rfl, rfl⟩
 intro ρ
 refine jm (.bool (((decide (i85 = 7)) && (decide (i86 = 0))) && (decide (i95 = 14)))) rfl <| J.cut 4 <| jmeet [(31, .bool ((((decide (i85 = 7)) && (decide (i86 = 0))) && (decide (i95 = 14))) && (decide (i96 = 2)))), (2, .pointer (some ⟨b102, 0, none⟩)), (3, .pointer (some ⟨b109, 0, none⟩))] ?_ ?_
 · rcases bt (((decide (i85 = 7)) && (decide (i86 = 0))) && (decide (i95 = 14))) with hc118 | hc118
   · refine J.run rfl rfl rfl hc118 <| jv _ (V.fad Try.underlying39 rfl nz3 rfl) <| J.run rfl rfl rfl hc118 <| jv (ii i96) (V.ld rfl (Ld.sc sc3 (Rd.cl 3 rfl rfl))) <| J.run rfl rfl rfl hc118 <| jv (.bool (decide (i96 = 2))) (V.eql rfl rfl) <| jv (.bool (decide (i96 = 2))) (V.pickT rfl hc118 rfl) ?_
     refine J.nil ?_
     exact ⟨rfl, ⟨(by simp only [hc118]; rfl), rfl, rfl, trivial⟩, rfl, rfl⟩
   refine J.skip rfl rfl rfl rfl hc118 <| J.skip rfl rfl rfl rfl hc118 <| J.skip rfl rfl rfl rfl hc118 <| jv (.bool false) (V.pickF rfl hc118 rfl) <| J.nil ?_
   exact ⟨rfl, ⟨(by simp only [hc118]; rfl), rfl, rfl, trivial⟩, rfl, rfl⟩
 intro ρ
 refine jm (.bool ((((decide (i85 = 7)) && (decide (i86 = 0))) && (decide (i95 = 14))) && (decide (i96 = 2)))) rfl <| J.cut 3 ?_
 obtain ⟨t132, ht133, h⟩ := ob h
 refine jmeet [(35, .bool t132), (2, .pointer (some ⟨b102, 0, none⟩))] ?_ ?_
 · rcases bt ((((decide (i85 = 7)) && (decide (i86 = 0))) && (decide (i95 = 14))) && (decide (i96 = 2))) with hc134 | hc134
   · have ht133 := ct hc134 ht133
     refine J.run rfl rfl rfl hc134 <| jv (.agg #[ii 1, ii 1, .slice none 0 0, .slice (some ⟨b103, 0, none⟩) ((([[]] : List (List (Int × Bool)))).length) 1, .slice none 0 0, .slice none 0 0, .slice (some ⟨b106, 0, none⟩) ((([([], (3, 0, 0, [], [], []))] : List ((List (Int × Int × Int × Int × Bool)) × (Int × Int × Int × (List Int) × (List Int) × (List Int))))).length) 1]) (V.ld rfl (Ld.agg (cs := [ii 1, ii 1, .slice none 0 0, .slice (some ⟨b103, 0, none⟩) ((([[]] : List (List (Int × Bool)))).length) 1, .slice none 0 0, .slice none 0 0, .slice (some ⟨b106, 0, none⟩) ((([([], (3, 0, 0, [], [], []))] : List ((List (Int × Int × Int × Int × Bool)) × (Int × Int × Int × (List Int) × (List Int) × (List Int))))).length) 1]) Try.underlying30 sz30 rfl (Rd.cls 0 0 rfl rfl))) <| J.run rfl rfl rfl hc134 ?_
     obtain ⟨r135, hr136, ht133⟩ := ob ht133
     refine J.front 1 rfl <| J.front 2 rfl <| J.op rfl (A.call (L1 := [Row K 26 (.one (.sl (.cons (.int .i64) (.one .bool)))) (.slice (some ⟨b103, 0, none⟩) ((([[]] : List (List (Int × Bool)))).length) 1) (([[]] : List (List (Int × Bool)))), Row K 56 (.cons (.sl (.cons (.int .i64) (.cons (.int .i64) (.cons (.int .i64) (.cons (.int .i64) (.one .bool)))))) (.one (.cons (.int .i64) (.cons (.int .i64) (.cons (.int .i64) (.cons (.sl (.int .i64)) (.cons (.sl (.int .i64)) (.one (.sl (.int .i64)))))))))) (.slice (some ⟨b106, 0, none⟩) ((([([], (3, 0, 0, [], [], []))] : List ((List (Int × Int × Int × Int × Bool)) × (Int × Int × Int × (List Int) × (List Int) × (List Int))))).length) 1) (([([], (3, 0, 0, [], [], []))] : List ((List (Int × Int × Int × Int × Bool)) × (Int × Int × Int × (List Int) × (List Int) × (List Int)))))]) Try.call10 rfl (Tr.lend (Hp.le_refl _) (by decide) (fun K137 hK138 f139 => Tr.lend (Hp.le.trans (Hp.le_refl _) hK138) (by decide) (fun K140 hK141 f142 => valid_OK_ok isNil (f139.mono hK141) isNil isNil f142 hr136))) rfl rfl) ?_
     rintro _ _ _ ⟨v144, _, rfl, ⟨⟨_, ⟨_, ⟨t143, rfl, rfl, rfl⟩, rfl⟩, rfl⟩, rfl⟩, _, rfl⟩
     refine jv (.bool t143) (V.pickT rfl hc134 rfl) <| J.front 4 rfl <| J.front 4 rfl <| J.front 2 rfl <| J.front 3 rfl <| J.front 4 rfl <| J.nil ?_
     obtain rfl := si ht133
     exact ⟨rfl, ⟨rfl, rfl, trivial⟩, rfl, rfl⟩
   have ht133 := cf hc134 ht133
   refine J.skip rfl rfl rfl rfl hc134 <| J.skip rfl rfl rfl rfl hc134 <| jv (.bool false) (V.pickF rfl hc134 rfl) <| J.nil ?_
   obtain rfl := si ht133
   exact ⟨rfl, ⟨rfl, rfl, trivial⟩, rfl, rfl⟩
 intro ρ
 refine jm (.bool t132) rfl <| J.cut 4 ?_
 obtain ⟨t154, ht155, h⟩ := ob h
 refine jmeet [(40, .bool t154)] ?_ ?_
 · rcases bt (t132) with hc156 | hc156
   · have ht155 := ct hc156 ht155
     refine J.run rfl rfl rfl hc156 <| jv (.agg #[ii i95, ii i96, ii i97, ii i98]) (V.ld rfl (Ld.agg (cs := [ii i95, ii i96, ii i97, ii i98]) Try.underlying39 sz39 rfl (Rd.cls 3 0 rfl rfl))) <| J.run rfl rfl rfl hc156 ?_
     obtain ⟨r157, hr158, ht155⟩ := ob ht155
     refine J.op rfl (A.call (L1 := []) Try.call13 rfl (valid_Text_ok hr158) rfl rfl) ?_
     rintro _ _ _ ⟨v160, _, rfl, ⟨⟨s159, rfl, rfl, rfl⟩, rfl⟩, _, rfl⟩
     refine J.run rfl rfl rfl hc156 <| jv (.bool (decide (s159 = ([108, 111, 99, 97, 108, 58, 32, 109, 105, 115, 115, 105, 110, 103] : List UInt8)))) (V.eqs rfl rfl) <| jv (.bool (decide (s159 = ([108, 111, 99, 97, 108, 58, 32, 109, 105, 115, 115, 105, 110, 103] : List UInt8)))) (V.pickT rfl hc156 rfl) <| J.nil ?_
     obtain rfl := si ht155
     exact ⟨rfl, ⟨rfl, trivial⟩, rfl, rfl⟩
   have ht155 := cf hc156 ht155
   refine J.skip rfl rfl rfl rfl hc156 <| J.skip rfl rfl rfl rfl hc156 <| J.skip rfl rfl rfl rfl hc156 <| jv (.bool false) (V.pickF rfl hc156 rfl) <| J.nil ?_
   obtain rfl := si ht155
   exact ⟨rfl, ⟨rfl, trivial⟩, rfl, rfl⟩
 intro ρ
 refine ja (.bool t154) rfl <| J.nil <| CJ.ret ?_
 obtain rfl := si h
 exact ⟨_, _, Res.one rfl rfl, ⟨t154, rfl, rfl, rfl⟩, (Hp.le_refl _), fun w hs => (Sep.dropAt 0 rfl (Sep.dropAt 0 rfl (Sep.dropAt 0 rfl (Sep.dropAt 0 rfl (Sep.dropAt 0 rfl hs)))))⟩

noncomputable def fn_tick_isPart (xa : Int) : Option Bool :=
  some ((decide (0 ≤ xa)) && (decide (xa < 7)))
set_option maxRecDepth 100000 in
set_option maxHeartbeats 4000000 in
theorem tick_isPart_ok {K : Hp} {xa : Int}   {r : Bool} (h : fn_tick_isPart xa = some r) :
    Tr Try.prog 30 #[ii xa] K [] (fun v K' L' => (∃ (t4 : Bool), t4 = r ∧ .bool t4 = v ∧ L' = []) ∧ K = K') := by
 refine Tr.k <| Tr.of Try.func30 rfl Try.ntmps30 rfl fun E F => ?_
 unfold fn_tick_isPart at h
 refine CJ.seq <| CJ.region <| ja (.bool false) rfl <| J.nil <| CJ.seq <| CJ.region <| jm (ii xa) rfl ?_
 refine jv (.bool (decide (0 ≤ xa))) (V.geq rfl rfl) <| jm (.bool (decide (0 ≤ xa))) rfl <| J.cut 3 <| jmeet [(8, .bool ((decide (0 ≤ xa)) && (decide (xa < 7))))] ?_ ?_
 · rcases bt (decide (0 ≤ xa)) with hc7 | hc7
   · refine J.run rfl rfl rfl hc7 <| jm (ii xa) rfl <| J.run rfl rfl rfl hc7 <| jv (.bool (decide (xa < 7))) (V.lss rfl rfl) <| jv (.bool (decide (xa < 7))) (V.pickT rfl hc7 rfl) <| J.nil ?_
     exact ⟨rfl, ⟨(by simp only [hc7]; rfl), trivial⟩, rfl, rfl⟩
   refine J.skip rfl rfl rfl rfl hc7 <| J.skip rfl rfl rfl rfl hc7 <| jv (.bool false) (V.pickF rfl hc7 rfl) <| J.nil ?_
   exact ⟨rfl, ⟨(by simp only [hc7]; rfl), trivial⟩, rfl, rfl⟩
 intro ρ
 refine ja (.bool ((decide (0 ≤ xa)) && (decide (xa < 7)))) rfl <| J.nil <| CJ.ret ?_
 obtain rfl := si h
 exact ⟨_, _, Res.one rfl rfl, ⟨(decide (0 ≤ xa)) && (decide (xa < 7)), rfl, rfl, rfl⟩, (Hp.le_refl _), fun w hs => hs⟩

noncomputable def fn_tick_sum (xa : Int) (xb : Int) : Option Int :=
  cond (decide ((IntKind.wrap .i64 (9223372036854775807 - xb)) < xa)) (some (9223372036854775807)) (some (IntKind.wrap .i64 (xa + xb)))
set_option maxRecDepth 100000 in
set_option maxHeartbeats 4000000 in
theorem tick_sum_ok {K : Hp} {xa : Int} {xb : Int}   {r : Int} (h : fn_tick_sum xa xb = some r) :
    Tr Try.prog 31 #[ii xa, ii xb] K [] (fun v K' L' => (∃ (i2 : Int), i2 = r ∧ ii i2 = v ∧ L' = []) ∧ K = K') := by
 refine Tr.k <| Tr.of Try.func31 rfl Try.ntmps31 rfl fun E F => ?_
 unfold fn_tick_sum at h
 refine CJ.seq <| CJ.region <| ja (ii 0) rfl <| J.nil <| CJ.seq <| CJ.seq <| CJ.region ?_
 refine jm (ii xa) rfl <| jm (ii xb) rfl <| jv (ii (IntKind.wrap .i64 (9223372036854775807 - xb))) (V.sub rfl rfl) <| jv (.bool (decide ((IntKind.wrap .i64 (9223372036854775807 - xb)) < xa))) (V.gtr rfl rfl) <| J.nil <| cc rfl h (fun hc3 h => ?_) fun hc3 h => ?_
 · refine CJ.seq <| CJ.region <| ja (ii 9223372036854775807) rfl <| J.nil <| CJ.ret ?_
   obtain rfl := si h
   exact ⟨_, _, Res.one rfl rfl, ⟨9223372036854775807, rfl, rfl, rfl⟩, (Hp.le_refl _), fun w hs => hs⟩
 refine CJ.skip <| CJ.seq <| CJ.region <| jm (ii xa) rfl <| jm (ii xb) rfl <| jv (ii (IntKind.wrap .i64 (xa + xb))) (V.add rfl rfl) <| ja (ii (IntKind.wrap .i64 (xa + xb))) rfl ?_
 refine J.nil <| CJ.ret ?_
 obtain rfl := si h
 exact ⟨_, _, Res.one rfl rfl, ⟨IntKind.wrap .i64 (xa + xb), rfl, rfl, rfl⟩, (Hp.le_refl _), fun w hs => hs⟩

noncomputable def fn_tick_Counter_Add_p0c1i_iiiiiii (xc : Int) (qa0 : Int) (qa1 : Int) (qa2 : Int) (qa3 : Int) (qa4 : Int) (qa5 : Int) (qa6 : Int) : Option Int :=
  (fn_tick_isPart 1).bind fun t26 => cond (t26 && (decide (0 ≤ xc))) ((fn_tick_sum qa1 xc).bind fun i42 => some (i42)) (some (qa1))
set_option maxRecDepth 100000 in
set_option maxHeartbeats 4000000 in
theorem tick_Counter_Add_p0c1i_iiiiiii_ok {K : Hp} {xc : Int} {qa0 : Int} {qa1 : Int} {qa2 : Int} {qa3 : Int} {qa4 : Int} {qa5 : Int} {qa6 : Int} {pba : Nat}  {r : Int} (h : fn_tick_Counter_Add_p0c1i_iiiiiii xc qa0 qa1 qa2 qa3 qa4 qa5 qa6 = some r) :
    Tr Try.prog 19 #[.pointer (some ⟨pba, 0, none⟩), ii 1, ii xc] K [Cl pba 38 [ii qa0, ii qa1, ii qa2, ii qa3, ii qa4, ii qa5, ii qa6]] (fun v K' L' => (∃ (i23 : Int), i23 = r ∧ .tuple #[] = v ∧ L' = [Cl pba 38 [ii qa0, ii i23, ii qa2, ii qa3, ii qa4, ii qa5, ii qa6]]) ∧ K = K') := by
 refine Tr.k <| Tr.of Try.func19 rfl Try.ntmps19 rfl fun E F => ?_
 unfold fn_tick_Counter_Add_p0c1i_iiiiiii at h
 refine CJ.seq <| CJ.region <| jm _ rfl <| jv (.bool true) (Val.eq (V.pn_neq Try.underlying41 rfl rfl) rfl) <| jm (.bool true) rfl <| J.run rfl rfl rfl rfl <| jm (ii 1) rfl ?_
 refine J.run rfl rfl rfl rfl ?_
 obtain ⟨r24, hr25, h⟩ := ob h
 refine J.op rfl (A.call (L1 := []) Try.call30 rfl (tick_isPart_ok hr25) rfl rfl) ?_
 rintro _ _ _ ⟨v27, _, rfl, ⟨⟨t26, rfl, rfl, rfl⟩, rfl⟩, _, rfl⟩
 refine jv (.bool t26) (V.pickT rfl rfl rfl) <| jm (.bool t26) rfl <| J.cut 3 <| jmeet [(15, .bool (t26 && (decide (0 ≤ xc)))), (0, .pointer (some ⟨pba, 0, none⟩)), (1, ii 1), (2, ii xc)] ?_ ?_
 · rcases bt (t26) with hc32 | hc32
   · refine J.run rfl rfl rfl hc32 <| jm (ii xc) rfl <| J.run rfl rfl rfl hc32 <| jv (.bool (decide (0 ≤ xc))) (V.geq rfl rfl) <| jv (.bool (decide (0 ≤ xc))) (V.pickT rfl hc32 rfl) <| J.nil ?_
     exact ⟨rfl, ⟨(by simp only [hc32]; rfl), rfl, rfl, rfl, trivial⟩, rfl, rfl⟩
   refine J.skip rfl rfl rfl rfl hc32 <| J.skip rfl rfl rfl rfl hc32 <| jv (.bool false) (V.pickF rfl hc32 rfl) <| J.nil ?_
   exact ⟨rfl, ⟨(by simp only [hc32]; rfl), rfl, rfl, rfl, trivial⟩, rfl, rfl⟩
 intro ρ
 refine J.nil <| cc rfl h (fun hc33 h => ?_) fun hc33 h => ?_
 · refine CJ.mix [Cl pba 38 [ii qa0, ii qa1, ii qa2, ii qa3, ii qa4, ii qa5, ii qa6]] [([0, 1, 2, 3, 4, 5, 6, 7, 8, 10, 11], 9)] [12] [13] mixO (by decide +kernel) ⟨0, rfl, trivial⟩ rfl rfl rfl <| JM.cons <| qm _ rfl <| qm (ii 1) rfl <| qm _ rfl <| qm (ii 1) rfl <| qv _ (V.nck rfl) ?_
   refine qv _ (V.fad Try.underlying38 rfl nz36 rfl) <| qv _ (V.iadA Try.underlying36 sz3 rfl rfl (by decide) (by decide)) <| qv (ii qa1) (V.ld rfl (Ld.sc sc3 (Rd.cl 0 rfl rfl))) <| qm (ii xc) rfl <| qv _ (V.nck rfl) <| qv _ (V.fad Try.underlying38 rfl nz36 rfl) <| JQ.nil ?_
   obtain ⟨r40, hr41, h⟩ := ob h
   refine JA.op rfl (A.call (L1 := []) Try.call31 rfl (tick_sum_ok hr41) rfl rfl) ?_
   rintro _ _ _ ⟨v43, _, rfl, ⟨⟨i42, rfl, rfl, rfl⟩, rfl⟩, _, rfl⟩
   refine ⟨fun w hs => Hold.sub (Hp.le_refl _) ⟨0, rfl, trivial⟩ hs, ?_⟩
   refine JM.nil <| qv _ (V.iadA Try.underlying36 sz3 rfl rfl (by decide) (by decide)) <| JQ.nil <| js1 [ii qa0, ii i42, ii qa2, ii qa3, ii qa4, ii qa5, ii qa6] sz3 rfl rfl rfl rfl rfl rfl <| J.nil ?_
   obtain rfl := si h
   exact ⟨_, _, Res.zero rfl, ⟨i42, rfl, rfl, rfl⟩, (Hp.le_refl _), fun w hs => hs⟩
 refine CJ.skip ?_
 obtain rfl := si h
 exact ⟨_, _, Res.zero rfl, ⟨qa1, rfl, rfl, rfl⟩, (Hp.le_refl _), fun w hs => hs⟩

noncomputable def fn_valid_head_ap0_iiiiiii (xa : (Int × Int × (List (Int × Int)) × (List (List (Int × Bool))) × (List (Int × Bool)) × (List (Int × (List (Int × Int)) × (List (List (Int × Bool))) × (List (Int × Bool)))) × (List ((List (Int × Int × Int × Int × Bool)) × (Int × Int × Int × (List Int) × (List Int) × (List Int)))))) (qa0 : Int) (qa1 : Int) (qa2 : Int) (qa3 : Int) (qa4 : Int) (qa5 : Int) (qa6 : Int) : Option (Int × Int × Int × Int) :=
  cond ((decide (xa.1 < 1)) || (decide (xa.2.1 < xa.1))) (some ((7, 0, 0, 0))) (cond (decide (65536 < xa.2.1)) (some ((6, 0, 0, 0))) (some ((0, 0, 0, 0))))
set_option maxRecDepth 100000 in
set_option maxHeartbeats 4000000 in
theorem valid_head_ap0_iiiiiii_ok {K : Hp} {xa : (Int × Int × (List (Int × Int)) × (List (List (Int × Bool))) × (List (Int × Bool)) × (List (Int × (List (Int × Int)) × (List (List (Int × Bool))) × (List (Int × Bool)))) × (List ((List (Int × Int × Int × Int × Bool)) × (Int × Int × Int × (List Int) × (List Int) × (List Int)))))} {qa0 : Int} {qa1 : Int} {qa2 : Int} {qa3 : Int} {qa4 : Int} {qa5 : Int} {qa6 : Int} {pba : Nat} {adxa_2 : Option Addr} {cpxa_2 : Nat} {adxa_3 : Option Addr} {cpxa_3 : Nat} {adxa_4 : Option Addr} {cpxa_4 : Nat} {adxa_5 : Option Addr} {cpxa_5 : Nat} {adxa_6 : Option Addr} {cpxa_6 : Nat} (fxa_2 : Is K (.sl (.cons (.int .i64) (.one (.int .i64)))) [.slice adxa_2 xa.2.2.1.length cpxa_2] xa.2.2.1) (fxa_3 : Is K (.sl (.one (.sl (.cons (.int .i64) (.one .bool))))) [.slice adxa_3 xa.2.2.2.1.length cpxa_3] xa.2.2.2.1) (fxa_4 : Is K (.sl (.cons (.int .i64) (.one .bool))) [.slice adxa_4 xa.2.2.2.2.1.length cpxa_4] xa.2.2.2.2.1) (fxa_5 : Is K (.sl (.cons (.int .i64) (.cons (.sl (.cons (.int .i64) (.one (.int .i64)))) (.cons (.sl (.one (.sl (.cons (.int .i64) (.one .bool))))) (.one (.one (.sl (.cons (.int .i64) (.one .bool))))))))) [.slice adxa_5 xa.2.2.2.2.2.1.length cpxa_5] xa.2.2.2.2.2.1) (fxa_6 : Is K (.sl (.cons (.sl (.cons (.int .i64) (.cons (.int .i64) (.cons (.int .i64) (.cons (.int .i64) (.one .bool)))))) (.one (.cons (.int .i64) (.cons (.int .i64) (.cons (.int .i64) (.cons (.sl (.int .i64)) (.cons (.sl (.int .i64)) (.one (.sl (.int .i64))))))))))) [.slice adxa_6 xa.2.2.2.2.2.2.length cpxa_6] xa.2.2.2.2.2.2) {r : (Int × Int × Int × Int)} (h : fn_valid_head_ap0_iiiiiii xa qa0 qa1 qa2 qa3 qa4 qa5 qa6 = some r) :
    Tr Try.prog 20 #[.agg #[ii xa.1, ii xa.2.1, .slice adxa_2 xa.2.2.1.length cpxa_2, .slice adxa_3 xa.2.2.2.1.length cpxa_3, .slice adxa_4 xa.2.2.2.2.1.length cpxa_4, .slice adxa_5 xa.2.2.2.2.2.1.length cpxa_5, .slice adxa_6 xa.2.2.2.2.2.2.length cpxa_6], .pointer (some ⟨pba, 0, none⟩)] K [Cl pba 38 [ii qa0, ii qa1, ii qa2, ii qa3, ii qa4, ii qa5, ii qa6]] (fun v K' L' => (∃ (i9 : Int) (i10 : Int) (i11 : Int) (i12 : Int), (i9, i10, i11, i12) = r ∧ .agg #[ii i9, ii i10, ii i11, ii i12] = v ∧ L' = [Cl pba 38 [ii qa0, ii qa1, ii qa2, ii qa3, ii qa4, ii qa5, ii qa6]]) ∧ K = K') := by
 refine Tr.k <| Tr.of Try.func20 rfl Try.ntmps20 rfl fun E F => ?_
 unfold fn_valid_head_ap0_iiiiiii at h
 refine CJ.seq <| CJ.region <| jbx [ii xa.1, ii xa.2.1, .slice adxa_2 xa.2.2.1.length cpxa_2, .slice adxa_3 xa.2.2.2.1.length cpxa_3, .slice adxa_4 xa.2.2.2.2.1.length cpxa_4, .slice adxa_5 xa.2.2.2.2.2.1.length cpxa_5, .slice adxa_6 xa.2.2.2.2.2.2.length cpxa_6] rfl rfl fun b13 => jal inf39 [ii 0, ii 0, ii 0, ii 0] rfl fun b14 => J.nil <| CJ.seq <| CJ.region ?_
 refine jv (.agg #[ii 0, ii 0, ii 0, ii 0]) (V.build inf39 places39 rfl rfl) <| jal inf39 [ii 0, ii 0, ii 0, ii 0] rfl fun b15 => js [ii 0, ii 0, ii 0, ii 0] sz39 rfl rfl rfl rfl rfl rfl <| J.nil <| CJ.seq <| CJ.block <| CJ.seq ?_
 refine CJ.region <| jv _ (V.fad Try.underlying30 rfl nz3 rfl) <| jv (ii xa.1) (V.ld rfl (Ld.sc sc3 (Rd.cl 2 rfl rfl))) <| jv (.bool (decide (xa.1 < 1))) (V.lss rfl rfl) <| jm (.bool (decide (xa.1 < 1))) rfl <| J.cut 6 <| jmeet [(17, .bool ((decide (xa.1 < 1)) || (decide (xa.2.1 < xa.1)))), (2, .pointer (some ⟨b13, 0, none⟩)), (4, .pointer (some ⟨b14, 0, none⟩)), (5, .pointer (some ⟨b15, 0, none⟩))] ?_ ?_
 · rcases bt (decide (xa.1 < 1)) with hc18 | hc18
   · refine J.skip rfl rfl rfl rfl hc18 <| J.skip rfl rfl rfl rfl hc18 <| J.skip rfl rfl rfl rfl hc18 <| J.skip rfl rfl rfl rfl hc18 <| J.skip rfl rfl rfl rfl hc18 <| jv (.bool true) (V.pickT rfl hc18 rfl) <| J.nil ?_
     exact ⟨rfl, ⟨(by simp only [hc18]; rfl), rfl, rfl, rfl, trivial⟩, rfl, rfl⟩
   refine J.run rfl rfl rfl hc18 <| jv _ (V.fad Try.underlying30 rfl nz3 rfl) <| J.run rfl rfl rfl hc18 <| jv (ii xa.2.1) (V.ld rfl (Ld.sc sc3 (Rd.cl 2 rfl rfl))) <| J.run rfl rfl rfl hc18 <| jv _ (V.fad Try.underlying30 rfl nz3 rfl) <| J.run rfl rfl rfl hc18 ?_
   refine jv (ii xa.1) (V.ld rfl (Ld.sc sc3 (Rd.cl 2 rfl rfl))) <| J.run rfl rfl rfl hc18 <| jv (.bool (decide (xa.2.1 < xa.1))) (V.lss rfl rfl) <| jv (.bool (decide (xa.2.1 < xa.1))) (V.pickF rfl hc18 rfl) <| J.nil ?_
   exact ⟨rfl, ⟨(by simp only [hc18]; rfl), rfl, rfl, rfl, trivial⟩, rfl, rfl⟩
 intro ρ
 refine ja (.bool ((decide (xa.1 < 1)) || (decide (xa.2.1 < xa.1)))) rfl <| J.nil <| cc rfl h (fun hc19 h => ?_) fun hc19 h => ?_
 · refine CJ.region <| jv _ (V.fad Try.underlying39 rfl nz31 rfl) <| js1 [ii 7, ii 0, ii 0, ii 0] sz31 rfl rfl rfl rfl rfl rfl <| J.nil <| CJ.seq <| CJ.region <| jv (.agg #[ii 7, ii 0, ii 0, ii 0]) (V.ld rfl (Ld.agg (cs := [ii 7, ii 0, ii 0, ii 0]) Try.underlying39 sz39 rfl (Rd.cls 0 0 rfl rfl))) ?_
   refine J.front 1 rfl <| js [ii 7, ii 0, ii 0, ii 0] sz39 rfl rfl rfl rfl rfl rfl <| J.nil <| CJ.ret ?_
   obtain rfl := si h
   exact ⟨_, _, Res.one rfl ⟨_, _, rfl, Ld.agg (cs := [ii 7, ii 0, ii 0, ii 0]) Try.underlying39 sz39 rfl (Rd.cls 0 0 rfl rfl)⟩, ⟨7, 0, 0, 0, rfl, rfl, rfl⟩, (Hp.le_refl _), fun w hs => (Sep.dropAt 0 rfl (Sep.dropAt 0 rfl (Sep.dropAt 0 rfl hs)))⟩
 refine CJ.seq <| CJ.region <| jv _ (V.fad Try.underlying30 rfl nz3 rfl) <| jv (ii xa.2.1) (V.ld rfl (Ld.sc sc3 (Rd.cl 2 rfl rfl))) <| jv (.bool (decide (65536 < xa.2.1))) (V.gtr rfl rfl) <| ja (.bool (decide (65536 < xa.2.1))) rfl <| J.nil ?_
 refine cc rfl h (fun hc20 h => ?_) fun hc20 h => ?_
 · refine CJ.region <| jv _ (V.fad Try.underlying39 rfl nz31 rfl) <| js1 [ii 6, ii 0, ii 0, ii 0] sz31 rfl rfl rfl rfl rfl rfl <| J.nil <| CJ.seq <| CJ.region <| jv (.agg #[ii 6, ii 0, ii 0, ii 0]) (V.ld rfl (Ld.agg (cs := [ii 6, ii 0, ii 0, ii 0]) Try.underlying39 sz39 rfl (Rd.cls 0 0 rfl rfl))) ?_
   refine J.front 1 rfl <| js [ii 6, ii 0, ii 0, ii 0] sz39 rfl rfl rfl rfl rfl rfl <| J.nil <| CJ.ret ?_
   obtain rfl := si h
   exact ⟨_, _, Res.one rfl ⟨_, _, rfl, Ld.agg (cs := [ii 6, ii 0, ii 0, ii 0]) Try.underlying39 sz39 rfl (Rd.cls 0 0 rfl rfl)⟩, ⟨6, 0, 0, 0, rfl, rfl, rfl⟩, (Hp.le_refl _), fun w hs => (Sep.dropAt 0 rfl (Sep.dropAt 0 rfl (Sep.dropAt 0 rfl hs)))⟩
 refine CJ.skip <| CJ.seq <| CJ.region <| jv (.agg #[ii 0, ii 0, ii 0, ii 0]) (V.ld rfl (Ld.agg (cs := [ii 0, ii 0, ii 0, ii 0]) Try.underlying39 sz39 rfl (Rd.cls 0 0 rfl rfl))) <| J.front 1 rfl <| js [ii 0, ii 0, ii 0, ii 0] sz39 rfl rfl rfl rfl rfl rfl <| J.nil ?_
 refine CJ.ret ?_
 obtain rfl := si h
 exact ⟨_, _, Res.one rfl ⟨_, _, rfl, Ld.agg (cs := [ii 0, ii 0, ii 0, ii 0]) Try.underlying39 sz39 rfl (Rd.cls 0 0 rfl rfl)⟩, ⟨0, 0, 0, 0, rfl, rfl, rfl⟩, (Hp.le_refl _), fun w hs => (Sep.dropAt 0 rfl (Sep.dropAt 0 rfl (Sep.dropAt 0 rfl hs)))⟩
noncomputable def fn_valid_bounds_ap0_iiiiiii_l1 (xa : (Int × Int × (List (Int × Int)) × (List (List (Int × Bool))) × (List (Int × Bool)) × (List (Int × (List (Int × Int)) × (List (List (Int × Bool))) × (List (Int × Bool)))) × (List ((List (Int × Int × Int × Int × Bool)) × (Int × Int × Int × (List Int) × (List Int) × (List Int)))))) (qa0 : Int) (qa2 : Int) (qa3 : Int) (qa4 : Int) (qa5 : Int) (qa6 : Int) : (Int × Int) → Option ((Int × Int) ⊕ (Int ⊕ (Int × Int × Int × Int × Int))) := fun ((i453, i454) : (Int × Int)) => cond (decide (i453 < (((xa.2.2.1.length : Nat) : Int)))) ((getI xa.2.2.1 i453).bind fun x502 => (fn_tick_Counter_Add_p0c1i_iiiiiii 1 qa0 i454 qa2 qa3 qa4 qa5 qa6).bind fun i514 => (fn_valid_bounds_1_ip0_iikkkkk x502.1 xa.1 xa.2.1 xa.2.2.1 xa.2.2.2.1 xa.2.2.2.2.1 xa.2.2.2.2.2.1 xa.2.2.2.2.2.2).bind fun t520 => (cond (!t520) (some (true)) ((fn_valid_bounds_1_ip0_iikkkkk x502.2 xa.1 xa.2.1 xa.2.2.1 xa.2.2.2.1 xa.2.2.2.2.1 xa.2.2.2.2.2.1 xa.2.2.2.2.2.2).bind fun t536 => some (!t536))).bind fun t531 => cond (t531) (some (.inr ((.inr ((7, 1, i453, 0, i514)))))) (some (.inl ((IntKind.wrap .i64 (i453 + 1), i514))))) (some (.inr (.inl i454)))
noncomputable def fn_valid_bounds_ap0_iiiiiii (xa : (Int × Int × (List (Int × Int)) × (List (List (Int × Bool))) × (List (Int × Bool)) × (List (Int × (List (Int × Int)) × (List (List (Int × Bool))) × (List (Int × Bool)))) × (List ((List (Int × Int × Int × Int × Bool)) × (Int × Int × Int × (List Int) × (List Int) × (List Int)))))) (qa0 : Int) (qa1 : Int) (qa2 : Int) (qa3 : Int) (qa4 : Int) (qa5 : Int) (qa6 : Int) : Option (Int × Int × Int × Int × Int) :=
  cond (decide (65536 < (((xa.2.2.1.length : Nat) : Int)))) (some ((6, 1, 0, 0, qa1))) ((loop (fn_valid_bounds_ap0_iiiiiii_l1 xa qa0 qa2 qa3 qa4 qa5 qa6) (0, qa1) : Option (Int ⊕ (Int × Int × Int × Int × Int))).bind fun o => match o with | .inr r => some r | .inl i408 => some ((0, 0, 0, 0, i408)))
set_option maxRecDepth 100000 in
set_option maxHeartbeats 4000000 in
theorem valid_bounds_ap0_iiiiiii_ok {K : Hp} {xa : (Int × Int × (List (Int × Int)) × (List (List (Int × Bool))) × (List (Int × Bool)) × (List (Int × (List (Int × Int)) × (List (List (Int × Bool))) × (List (Int × Bool)))) × (List ((List (Int × Int × Int × Int × Bool)) × (Int × Int × Int × (List Int) × (List Int) × (List Int)))))} {qa0 : Int} {qa1 : Int} {qa2 : Int} {qa3 : Int} {qa4 : Int} {qa5 : Int} {qa6 : Int} {pba : Nat} {adxa_2 : Option Addr} {cpxa_2 : Nat} {adxa_3 : Option Addr} {cpxa_3 : Nat} {adxa_4 : Option Addr} {cpxa_4 : Nat} {adxa_5 : Option Addr} {cpxa_5 : Nat} {adxa_6 : Option Addr} {cpxa_6 : Nat} (fxa_2 : Is K (.sl (.cons (.int .i64) (.one (.int .i64)))) [.slice adxa_2 xa.2.2.1.length cpxa_2] xa.2.2.1) (fxa_3 : Is K (.sl (.one (.sl (.cons (.int .i64) (.one .bool))))) [.slice adxa_3 xa.2.2.2.1.length cpxa_3] xa.2.2.2.1) (fxa_4 : Is K (.sl (.cons (.int .i64) (.one .bool))) [.slice adxa_4 xa.2.2.2.2.1.length cpxa_4] xa.2.2.2.2.1) (fxa_5 : Is K (.sl (.cons (.int .i64) (.cons (.sl (.cons (.int .i64) (.one (.int .i64)))) (.cons (.sl (.one (.sl (.cons (.int .i64) (.one .bool))))) (.one (.one (.sl (.cons (.int .i64) (.one .bool))))))))) [.slice adxa_5 xa.2.2.2.2.2.1.length cpxa_5] xa.2.2.2.2.2.1) (fxa_6 : Is K (.sl (.cons (.sl (.cons (.int .i64) (.cons (.int .i64) (.cons (.int .i64) (.cons (.int .i64) (.one .bool)))))) (.one (.cons (.int .i64) (.cons (.int .i64) (.cons (.int .i64) (.cons (.sl (.int .i64)) (.cons (.sl (.int .i64)) (.one (.sl (.int .i64))))))))))) [.slice adxa_6 xa.2.2.2.2.2.2.length cpxa_6] xa.2.2.2.2.2.2) {r : (Int × Int × Int × Int × Int)} (h : fn_valid_bounds_ap0_iiiiiii xa qa0 qa1 qa2 qa3 qa4 qa5 qa6 = some r) :
    Tr Try.prog 21 #[.agg #[ii xa.1, ii xa.2.1, .slice adxa_2 xa.2.2.1.length cpxa_2, .slice adxa_3 xa.2.2.2.1.length cpxa_3, .slice adxa_4 xa.2.2.2.2.1.length cpxa_4, .slice adxa_5 xa.2.2.2.2.2.1.length cpxa_5, .slice adxa_6 xa.2.2.2.2.2.2.length cpxa_6], .pointer (some ⟨pba, 0, none⟩)] K [Cl pba 38 [ii qa0, ii qa1, ii qa2, ii qa3, ii qa4, ii qa5, ii qa6]] (fun v K' L' => (∃ (i270 : Int) (i271 : Int) (i272 : Int) (i273 : Int) (i274 : Int), (i270, i271, i272, i273, i274) = r ∧ .agg #[ii i270, ii i271, ii i272, ii i273] = v ∧ L' = [Cl pba 38 [ii qa0, ii i274, ii qa2, ii qa3, ii qa4, ii qa5, ii qa6]]) ∧ K = K') := by
 refine Tr.k <| Tr.of Try.func21 rfl Try.ntmps21 rfl fun E F => ?_
 unfold fn_valid_bounds_ap0_iiiiiii at h
 refine CJ.seq <| CJ.region <| jbx [ii xa.1, ii xa.2.1, .slice adxa_2 xa.2.2.1.length cpxa_2, .slice adxa_3 xa.2.2.2.1.length cpxa_3, .slice adxa_4 xa.2.2.2.2.1.length cpxa_4, .slice adxa_5 xa.2.2.2.2.2.1.length cpxa_5, .slice adxa_6 xa.2.2.2.2.2.2.length cpxa_6] rfl rfl fun b275 => jal inf39 [ii 0, ii 0, ii 0, ii 0] rfl fun b276 => J.nil <| CJ.seq <| CJ.seq ?_
 refine CJ.region <| jv _ (V.fad Try.underlying30 rfl nz22 rfl) <| jv (.slice adxa_2 xa.2.2.1.length cpxa_2) (V.ld rfl (Ld.sc sc22 (Rd.cl 1 rfl rfl))) <| jv (ii (((xa.2.2.1.length : Nat) : Int))) (V.len Try.underlying22 rfl) <| jv (.bool (decide (65536 < (((xa.2.2.1.length : Nat) : Int))))) (V.gtr rfl rfl) <| J.nil <| cc rfl h (fun hc277 h => ?_) fun hc277 h => ?_
 · refine CJ.seq <| CJ.region <| jv (.agg #[ii 6, ii 1, ii 0, ii 0]) (V.build inf39 places39 rfl rfl) <| js [ii 6, ii 1, ii 0, ii 0] sz39 rfl rfl rfl rfl rfl rfl <| J.nil <| CJ.ret ?_
   obtain rfl := si h
   exact ⟨_, _, Res.one rfl ⟨_, _, rfl, Ld.agg (cs := [ii 6, ii 1, ii 0, ii 0]) Try.underlying39 sz39 rfl (Rd.cls 0 0 rfl rfl)⟩, ⟨6, 1, 0, 0, qa1, rfl, rfl, rfl⟩, (Hp.le_refl _), fun w hs => (Sep.dropAt 0 rfl (Sep.dropAt 0 rfl hs))⟩
 refine CJ.skip <| CJ.seq <| CJ.region <| jv (.func (.func 32) #[] #[.pointer (some ⟨b275, 0, none⟩)]) (V.mkf rfl) <| ja (.func (.func 32) #[] #[.pointer (some ⟨b275, 0, none⟩)]) rfl <| J.nil <| CJ.seq ?_
 refine CJ.seq <| CJ.region <| jv _ (V.fad Try.underlying30 rfl nz22 rfl) <| jv (.slice adxa_2 xa.2.2.1.length cpxa_2) (V.ld rfl (Ld.sc sc22 (Rd.cl 1 rfl rfl))) <| jv (ii (((xa.2.2.1.length : Nat) : Int))) (V.len Try.underlying22 rfl) <| jm (ii 0) rfl <| J.nil ?_
 obtain ⟨o409, ho410, h⟩ := ob h
 refine CJ.joinN (o := o409) (fun s ρ K' L' => ∃ (i408 : Int), i408 = s ∧ Fits [(4, .pointer (some ⟨b276, 0, none⟩))] ρ ∧ K = K' ∧ L' = Cl pba 38 [ii qa0, ii i408, ii qa2, ii qa3, ii qa4, ii qa5, ii qa6] :: Cl b276 39 [ii 0, ii 0, ii 0, ii 0] :: F) ?_ ?_
 · refine CJ.block <| CJ.front 1 rfl <| CJ.front 1 rfl <| CJ.front 2 rfl <| CJ.loop (fun s ρ K' L' => ∃ (i453 : Int) (i454 : Int), (i453, i454) = s ∧ Fits [(1, .pointer (some ⟨pba, 0, none⟩)), (4, .pointer (some ⟨b276, 0, none⟩)), (5, .func (.func 32) #[] #[.pointer (some ⟨b275, 0, none⟩)]), (15, .slice adxa_2 xa.2.2.1.length cpxa_2), (16, ii (((xa.2.2.1.length : Nat) : Int))), (17, ii i453)] ρ ∧ K = K' ∧ L' = Cl pba 38 [ii qa0, ii i454, ii qa2, ii qa3, ii qa4, ii qa5, ii qa6] :: Cl b276 39 [ii 0, ii 0, ii 0, ii 0] :: Cl b275 30 [ii xa.1, ii xa.2.1, .slice adxa_2 xa.2.2.1.length cpxa_2, .slice adxa_3 xa.2.2.2.1.length cpxa_3, .slice adxa_4 xa.2.2.2.2.1.length cpxa_4, .slice adxa_5 xa.2.2.2.2.2.1.length cpxa_5, .slice adxa_6 xa.2.2.2.2.2.2.length cpxa_6] :: F) ho410 ⟨0, qa1, rfl, ⟨rfl, rfl, rfl, rfl, rfl, rfl, trivial⟩, rfl, rfl⟩ ?_
   rintro s ρ _ _ r500 ⟨i453, i454, rfl, hf498, rfl, rfl⟩ h497
   obtain ⟨ρ, rfl⟩ := hf498.ex
   refine CJ.seq <| CJ.region <| jv (.bool (decide (i453 < (((xa.2.2.1.length : Nat) : Int))))) (V.lss rfl rfl) <| J.nil <| CJ.seq <| cc rfl h497 (fun hc501 h497 => ?_) fun hc501 h497 => ?_
   · refine CJ.skip <| CJ.seq <| CJ.block <| CJ.seq <| CJ.region <| jm (ii i453) rfl ?_
     obtain ⟨x502, hx503, h497⟩ := ob h497
     obtain ⟨p504, p505, p506⟩ := getI_some hx503
     obtain ⟨b507, o508, e509, a510⟩ := (fxa_2).at p505
     refine jv _ (V.iad Try.underlying22 sz50 rfl e509 rfl p504 p506) <| jv (.agg #[ii x502.1, ii x502.2]) (V.ld rfl (Ld.aggK (cs := [ii x502.1, ii x502.2]) Try.underlying50 sz50 rfl ⟨((a510).fst).int, (((a510).snd).one).int, trivial⟩ (Hp.le_refl _))) <| jal inf50 [ii 0, ii 0] rfl fun b511 => ja (ii i453) rfl <| js [ii x502.1, ii x502.2] sz50 rfl rfl rfl rfl rfl rfl <| J.nil <| CJ.seq ?_
     refine CJ.region <| jm _ rfl ?_
     obtain ⟨r512, hr513, h497⟩ := ob h497
     refine J.front 1 rfl <| J.op rfl (A.call (L1 := [Cl pba 38 [ii qa0, ii i454, ii qa2, ii qa3, ii qa4, ii qa5, ii qa6]]) Try.call19 rfl (tick_Counter_Add_p0c1i_iiiiiii_ok hr513) rfl rfl) ?_
     rintro _ _ _ ⟨v515, _, rfl, ⟨⟨i514, rfl, rfl, rfl⟩, rfl⟩, _, rfl⟩
     refine J.nil <| CJ.seq <| CJ.region <| jm (.func (.func 32) #[] #[.pointer (some ⟨b275, 0, none⟩)]) rfl <| jv _ (V.fad Try.underlying50 rfl nz3 rfl) <| jv (ii x502.1) (V.ld rfl (Ld.sc sc3 (Rd.cl 1 rfl rfl))) ?_
     obtain ⟨r518, hr519, h497⟩ := ob h497
     refine J.front 3 rfl <| J.op rfl (A.call (L1 := [Cl b275 30 [ii xa.1, ii xa.2.1, .slice adxa_2 xa.2.2.1.length cpxa_2, .slice adxa_3 xa.2.2.2.1.length cpxa_3, .slice adxa_4 xa.2.2.2.2.1.length cpxa_4, .slice adxa_5 xa.2.2.2.2.2.1.length cpxa_5, .slice adxa_6 xa.2.2.2.2.2.2.length cpxa_6]]) Try.call32 rfl (valid_bounds_1_ip0_iikkkkk_ok fxa_2 fxa_3 fxa_4 fxa_5 fxa_6 hr519) rfl rfl) ?_
     rintro _ _ _ ⟨v521, _, rfl, ⟨⟨t520, rfl, rfl, rfl⟩, rfl⟩, _, rfl⟩
     refine jv (.bool (!t520)) (V.not rfl) <| jm (.bool (!t520)) rfl <| J.cut 6 ?_
     obtain ⟨t531, ht532, h497⟩ := ob h497
     refine jmeet [(35, .bool t531), (1, .pointer (some ⟨pba, 0, none⟩)), (4, .pointer (some ⟨b276, 0, none⟩)), (5, .func (.func 32) #[] #[.pointer (some ⟨b275, 0, none⟩)]), (6, ii i453), (15, .slice adxa_2 xa.2.2.1.length cpxa_2), (16, ii (((xa.2.2.1.length : Nat) : Int))), (17, ii i453)] ?_ ?_
     · rcases bt (!t520) with hc533 | hc533
       · have ht532 := ct hc533 ht532
         refine J.skip rfl rfl rfl rfl hc533 <| J.skip rfl rfl rfl rfl hc533 <| J.skip rfl rfl rfl rfl hc533 <| J.skip rfl rfl rfl rfl hc533 <| J.skip rfl rfl rfl rfl hc533 <| jv (.bool true) (V.pickT rfl hc533 rfl) <| J.nil ?_
         obtain rfl := si ht532
         exact ⟨rfl, ⟨rfl, rfl, rfl, rfl, rfl, rfl, rfl, rfl, trivial⟩, rfl, rfl⟩
       have ht532 := cf hc533 ht532
       refine J.run rfl rfl rfl hc533 <| jm (.func (.func 32) #[] #[.pointer (some ⟨b275, 0, none⟩)]) rfl <| J.run rfl rfl rfl hc533 <| jv _ (V.fad Try.underlying50 rfl nz3 rfl) <| J.run rfl rfl rfl hc533 <| jv (ii x502.2) (V.ld rfl (Ld.sc sc3 (Rd.cl 2 rfl rfl))) <| J.run rfl rfl rfl hc533 ?_
       obtain ⟨r534, hr535, ht532⟩ := ob ht532
       refine J.op rfl (A.call (L1 := [Cl b275 30 [ii xa.1, ii xa.2.1, .slice adxa_2 xa.2.2.1.length cpxa_2, .slice adxa_3 xa.2.2.2.1.length cpxa_3, .slice adxa_4 xa.2.2.2.2.1.length cpxa_4, .slice adxa_5 xa.2.2.2.2.2.1.length cpxa_5, .slice adxa_6 xa.2.2.2.2.2.2.length cpxa_6]]) Try.call32 rfl (valid_bounds_1_ip0_iikkkkk_ok fxa_2 fxa_3 fxa_4 fxa_5 fxa_6 hr535) rfl rfl) ?_
       rintro _ _ _ ⟨v537, _, rfl, ⟨⟨t536, rfl, rfl, rfl⟩, rfl⟩, _, rfl⟩
       refine J.run rfl rfl rfl hc533 <| jv (.bool (!t536)) (V.not rfl) <| jv (.bool (!t536)) (V.pickF rfl hc533 rfl) <| J.nil ?_
       obtain rfl := si ht532
       exact ⟨rfl, ⟨rfl, rfl, rfl, rfl, rfl, rfl, rfl, rfl, trivial⟩, rfl, rfl⟩
     intro ρ
     refine J.nil <| cc rfl h497 (fun hc540 h497 => ?_) fun hc540 h497 => ?_
     · refine CJ.seq <| CJ.region <| jm (ii i453) rfl <| jv (.agg #[ii 7, ii 1, ii i453, ii 0]) (V.build inf39 places39 rfl rfl) <| J.front 3 rfl <| js [ii 7, ii 1, ii i453, ii 0] sz39 rfl rfl rfl rfl rfl rfl <| J.nil ?_
       refine CJ.ret ?_
       obtain rfl := si h497
       refine ⟨nofun, fun e => ?_⟩
       subst e
       refine .inr ⟨nofun, ?_⟩
       obtain rfl := si h
       exact ⟨_, _, Res.one rfl ⟨_, _, rfl, Ld.agg (cs := [ii 7, ii 1, ii i453, ii 0]) Try.underlying39 sz39 rfl (Rd.cls 0 0 rfl rfl)⟩, ⟨7, 1, i453, 0, i514, rfl, rfl, rfl⟩, (Hp.le_refl _), fun w hs => (Sep.dropAt 1 rfl (Sep.dropAt 0 rfl (Sep.dropAt 0 rfl hs)))⟩
     refine CJ.skip <| CJ.region <| jv (ii (IntKind.wrap .i64 (i453 + 1))) (V.add rfl rfl) <| jm (ii (IntKind.wrap .i64 (i453 + 1))) rfl <| J.dropAt 2 rfl <| J.front 2 rfl <| J.front 2 rfl ?_
     refine J.nil ?_
     obtain rfl := si h497
     exact ⟨rfl, ⟨IntKind.wrap .i64 (i453 + 1), i514, rfl, ⟨rfl, rfl, rfl, rfl, rfl, rfl, trivial⟩, rfl, rfl⟩⟩
   refine CJ.dropAt 2 rfl <| CJ.exit ?_
   obtain rfl := si h497
   refine ⟨nofun, fun e => ?_⟩
   subst e
   exact .inl ⟨rfl, _, rfl, ⟨i454, rfl, ⟨rfl, trivial⟩, rfl, rfl⟩⟩
 rintro s ρ _ _ ho541 ⟨i408, rfl, hf542, rfl, rfl⟩
 subst ho541
 obtain ⟨ρ, rfl⟩ := hf542.ex
 refine PJ.done <| CJ.seq <| CJ.region <| jv (.agg #[ii 0, ii 0, ii 0, ii 0]) (V.build inf39 places39 rfl rfl) <| J.front 1 rfl <| js [ii 0, ii 0, ii 0, ii 0] sz39 rfl rfl rfl rfl rfl rfl <| J.nil ?_
 refine CJ.ret ?_
 obtain rfl := si h
 exact ⟨_, _, Res.one rfl ⟨_, _, rfl, Ld.agg (cs := [ii 0, ii 0, ii 0, ii 0]) Try.underlying39 sz39 rfl (Rd.cls 0 0 rfl rfl)⟩, ⟨0, 0, 0, 0, i408, rfl, rfl, rfl⟩, (Hp.le_refl _), fun w hs => (Sep.dropAt 0 rfl hs)⟩
noncomputable def fn_valid_locals_ap0_iiiiiii_l1 (xa : (Int × Int × (List (Int × Int)) × (List (List (Int × Bool))) × (List (Int × Bool)) × (List (Int × (List (Int × Int)) × (List (List (Int × Bool))) × (List (Int × Bool)))) × (List ((List (Int × Int × Int × Int × Bool)) × (Int × Int × Int × (List Int) × (List Int) × (List Int)))))) (qa0 : Int) (qa2 : Int) (qa3 : Int) (qa4 : Int) (qa5 : Int) (qa6 : Int) : (Int × Int) → Option ((Int × Int) ⊕ (Int ⊕ (Int × Int × Int × Int × Int))) := fun ((i335, i336) : (Int × Int)) => cond (decide (i335 < (((xa.2.2.2.1.length : Nat) : Int)))) ((getI xa.2.2.2.1 i335).bind fun x372 => (fn_tick_Counter_Add_p0c1i_iiiiiii 1 qa0 i336 qa2 qa3 qa4 qa5 qa6).bind fun i388 => (fn_row_Check x372 xa.2.1).bind fun i394 => cond (!decide (i394 = 0)) (some (.inr ((.inr ((i394, 2, i335, 0, i388)))))) (some (.inl ((IntKind.wrap .i64 (i335 + 1), i388))))) (some (.inr (.inl i336)))
noncomputable def fn_valid_locals_ap0_iiiiiii (xa : (Int × Int × (List (Int × Int)) × (List (List (Int × Bool))) × (List (Int × Bool)) × (List (Int × (List (Int × Int)) × (List (List (Int × Bool))) × (List (Int × Bool)))) × (List ((List (Int × Int × Int × Int × Bool)) × (Int × Int × Int × (List Int) × (List Int) × (List Int)))))) (qa0 : Int) (qa1 : Int) (qa2 : Int) (qa3 : Int) (qa4 : Int) (qa5 : Int) (qa6 : Int) : Option (Int × Int × Int × Int × Int) :=
  cond (decide ((((xa.2.2.2.1.length : Nat) : Int)) = 0)) (some ((14, 2, 0, 0, qa1))) (cond (decide (65536 < (((xa.2.2.2.1.length : Nat) : Int)))) (some ((6, 2, 0, 0, qa1))) ((loop (fn_valid_locals_ap0_iiiiiii_l1 xa qa0 qa2 qa3 qa4 qa5 qa6) (0, qa1) : Option (Int ⊕ (Int × Int × Int × Int × Int))).bind fun o => match o with | .inr r => some r | .inl i302 => some ((0, 0, 0, 0, i302))))
set_option maxRecDepth 100000 in
set_option maxHeartbeats 4000000 in
theorem valid_locals_ap0_iiiiiii_ok {K : Hp} {xa : (Int × Int × (List (Int × Int)) × (List (List (Int × Bool))) × (List (Int × Bool)) × (List (Int × (List (Int × Int)) × (List (List (Int × Bool))) × (List (Int × Bool)))) × (List ((List (Int × Int × Int × Int × Bool)) × (Int × Int × Int × (List Int) × (List Int) × (List Int)))))} {qa0 : Int} {qa1 : Int} {qa2 : Int} {qa3 : Int} {qa4 : Int} {qa5 : Int} {qa6 : Int} {pba : Nat} {adxa_2 : Option Addr} {cpxa_2 : Nat} {adxa_3 : Option Addr} {cpxa_3 : Nat} {adxa_4 : Option Addr} {cpxa_4 : Nat} {adxa_5 : Option Addr} {cpxa_5 : Nat} {adxa_6 : Option Addr} {cpxa_6 : Nat} (fxa_2 : Is K (.sl (.cons (.int .i64) (.one (.int .i64)))) [.slice adxa_2 xa.2.2.1.length cpxa_2] xa.2.2.1) (fxa_3 : Is K (.sl (.one (.sl (.cons (.int .i64) (.one .bool))))) [.slice adxa_3 xa.2.2.2.1.length cpxa_3] xa.2.2.2.1) (fxa_4 : Is K (.sl (.cons (.int .i64) (.one .bool))) [.slice adxa_4 xa.2.2.2.2.1.length cpxa_4] xa.2.2.2.2.1) (fxa_5 : Is K (.sl (.cons (.int .i64) (.cons (.sl (.cons (.int .i64) (.one (.int .i64)))) (.cons (.sl (.one (.sl (.cons (.int .i64) (.one .bool))))) (.one (.one (.sl (.cons (.int .i64) (.one .bool))))))))) [.slice adxa_5 xa.2.2.2.2.2.1.length cpxa_5] xa.2.2.2.2.2.1) (fxa_6 : Is K (.sl (.cons (.sl (.cons (.int .i64) (.cons (.int .i64) (.cons (.int .i64) (.cons (.int .i64) (.one .bool)))))) (.one (.cons (.int .i64) (.cons (.int .i64) (.cons (.int .i64) (.cons (.sl (.int .i64)) (.cons (.sl (.int .i64)) (.one (.sl (.int .i64))))))))))) [.slice adxa_6 xa.2.2.2.2.2.2.length cpxa_6] xa.2.2.2.2.2.2) {r : (Int × Int × Int × Int × Int)} (h : fn_valid_locals_ap0_iiiiiii xa qa0 qa1 qa2 qa3 qa4 qa5 qa6 = some r) :
    Tr Try.prog 22 #[.agg #[ii xa.1, ii xa.2.1, .slice adxa_2 xa.2.2.1.length cpxa_2, .slice adxa_3 xa.2.2.2.1.length cpxa_3, .slice adxa_4 xa.2.2.2.2.1.length cpxa_4, .slice adxa_5 xa.2.2.2.2.2.1.length cpxa_5, .slice adxa_6 xa.2.2.2.2.2.2.length cpxa_6], .pointer (some ⟨pba, 0, none⟩)] K [Cl pba 38 [ii qa0, ii qa1, ii qa2, ii qa3, ii qa4, ii qa5, ii qa6]] (fun v K' L' => (∃ (i199 : Int) (i200 : Int) (i201 : Int) (i202 : Int) (i203 : Int), (i199, i200, i201, i202, i203) = r ∧ .agg #[ii i199, ii i200, ii i201, ii i202] = v ∧ L' = [Cl pba 38 [ii qa0, ii i203, ii qa2, ii qa3, ii qa4, ii qa5, ii qa6]]) ∧ K = K') := by
 refine Tr.k <| Tr.of Try.func22 rfl Try.ntmps22 rfl fun E F => ?_
 unfold fn_valid_locals_ap0_iiiiiii at h
 refine CJ.seq <| CJ.region <| jbx [ii xa.1, ii xa.2.1, .slice adxa_2 xa.2.2.1.length cpxa_2, .slice adxa_3 xa.2.2.2.1.length cpxa_3, .slice adxa_4 xa.2.2.2.2.1.length cpxa_4, .slice adxa_5 xa.2.2.2.2.2.1.length cpxa_5, .slice adxa_6 xa.2.2.2.2.2.2.length cpxa_6] rfl rfl fun b204 => jal inf39 [ii 0, ii 0, ii 0, ii 0] rfl fun b205 => J.nil <| CJ.seq <| CJ.seq ?_
 refine CJ.region <| jv _ (V.fad Try.underlying30 rfl nz23 rfl) <| jv (.slice adxa_3 xa.2.2.2.1.length cpxa_3) (V.ld rfl (Ld.sc sc23 (Rd.cl 1 rfl rfl))) <| jv (ii (((xa.2.2.2.1.length : Nat) : Int))) (V.len Try.underlying23 rfl) <| jv (.bool (decide ((((xa.2.2.2.1.length : Nat) : Int)) = 0))) (V.eql rfl rfl) <| J.nil <| cc rfl h (fun hc206 h => ?_) fun hc206 h => ?_
 · refine CJ.seq <| CJ.region <| jv (.agg #[ii 14, ii 2, ii 0, ii 0]) (V.build inf39 places39 rfl rfl) <| js [ii 14, ii 2, ii 0, ii 0] sz39 rfl rfl rfl rfl rfl rfl <| J.nil <| CJ.ret ?_
   obtain rfl := si h
   exact ⟨_, _, Res.one rfl ⟨_, _, rfl, Ld.agg (cs := [ii 14, ii 2, ii 0, ii 0]) Try.underlying39 sz39 rfl (Rd.cls 0 0 rfl rfl)⟩, ⟨14, 2, 0, 0, qa1, rfl, rfl, rfl⟩, (Hp.le_refl _), fun w hs => (Sep.dropAt 0 rfl (Sep.dropAt 0 rfl hs))⟩
 refine CJ.skip <| CJ.seq <| CJ.seq <| CJ.region <| jv _ (V.fad Try.underlying30 rfl nz23 rfl) <| jv (.slice adxa_3 xa.2.2.2.1.length cpxa_3) (V.ld rfl (Ld.sc sc23 (Rd.cl 1 rfl rfl))) <| jv (ii (((xa.2.2.2.1.length : Nat) : Int))) (V.len Try.underlying23 rfl) ?_
 refine jv (.bool (decide (65536 < (((xa.2.2.2.1.length : Nat) : Int))))) (V.gtr rfl rfl) <| J.nil <| cc rfl h (fun hc207 h => ?_) fun hc207 h => ?_
 · refine CJ.seq <| CJ.region <| jv (.agg #[ii 6, ii 2, ii 0, ii 0]) (V.build inf39 places39 rfl rfl) <| js [ii 6, ii 2, ii 0, ii 0] sz39 rfl rfl rfl rfl rfl rfl <| J.nil <| CJ.ret ?_
   obtain rfl := si h
   exact ⟨_, _, Res.one rfl ⟨_, _, rfl, Ld.agg (cs := [ii 6, ii 2, ii 0, ii 0]) Try.underlying39 sz39 rfl (Rd.cls 0 0 rfl rfl)⟩, ⟨6, 2, 0, 0, qa1, rfl, rfl, rfl⟩, (Hp.le_refl _), fun w hs => (Sep.dropAt 0 rfl (Sep.dropAt 0 rfl hs))⟩
 refine CJ.skip <| CJ.seq <| CJ.seq <| CJ.region <| jv _ (V.fad Try.underlying30 rfl nz23 rfl) <| jv (.slice adxa_3 xa.2.2.2.1.length cpxa_3) (V.ld rfl (Ld.sc sc23 (Rd.cl 1 rfl rfl))) <| jv (ii (((xa.2.2.2.1.length : Nat) : Int))) (V.len Try.underlying23 rfl) ?_
 refine jm (ii 0) rfl <| J.nil ?_
 obtain ⟨o303, ho304, h⟩ := ob h
 refine CJ.joinN (o := o303) (fun s ρ K' L' => ∃ (i302 : Int), i302 = s ∧ Fits [(4, .pointer (some ⟨b205, 0, none⟩))] ρ ∧ K = K' ∧ L' = Cl pba 38 [ii qa0, ii i302, ii qa2, ii qa3, ii qa4, ii qa5, ii qa6] :: Cl b205 39 [ii 0, ii 0, ii 0, ii 0] :: F) ?_ ?_
 · refine CJ.block <| CJ.front 1 rfl <| CJ.front 2 rfl <| CJ.loop (fun s ρ K' L' => ∃ (i335 : Int) (i336 : Int), (i335, i336) = s ∧ Fits [(1, .pointer (some ⟨pba, 0, none⟩)), (2, .pointer (some ⟨b204, 0, none⟩)), (4, .pointer (some ⟨b205, 0, none⟩)), (19, .slice adxa_3 xa.2.2.2.1.length cpxa_3), (20, ii (((xa.2.2.2.1.length : Nat) : Int))), (21, ii i335)] ρ ∧ K = K' ∧ L' = Cl pba 38 [ii qa0, ii i336, ii qa2, ii qa3, ii qa4, ii qa5, ii qa6] :: Cl b204 30 [ii xa.1, ii xa.2.1, .slice adxa_2 xa.2.2.1.length cpxa_2, .slice adxa_3 xa.2.2.2.1.length cpxa_3, .slice adxa_4 xa.2.2.2.2.1.length cpxa_4, .slice adxa_5 xa.2.2.2.2.2.1.length cpxa_5, .slice adxa_6 xa.2.2.2.2.2.2.length cpxa_6] :: Cl b205 39 [ii 0, ii 0, ii 0, ii 0] :: F) ho304 ⟨0, qa1, rfl, ⟨rfl, rfl, rfl, rfl, rfl, rfl, trivial⟩, rfl, rfl⟩ ?_
   rintro s ρ _ _ r370 ⟨i335, i336, rfl, hf368, rfl, rfl⟩ h367
   obtain ⟨ρ, rfl⟩ := hf368.ex
   refine CJ.seq <| CJ.region <| jv (.bool (decide (i335 < (((xa.2.2.2.1.length : Nat) : Int))))) (V.lss rfl rfl) <| J.nil <| CJ.seq <| cc rfl h367 (fun hc371 h367 => ?_) fun hc371 h367 => ?_
   · refine CJ.skip <| CJ.seq <| CJ.block <| CJ.seq <| CJ.region <| jm (ii i335) rfl ?_
     obtain ⟨x372, hx373, h367⟩ := ob h367
     obtain ⟨p374, p375, p376⟩ := getI_some hx373
     obtain ⟨b377, o378, e379, a380⟩ := (fxa_3).at p375
     refine jv _ (V.iad Try.underlying23 sz26 rfl e379 rfl p374 p376) ?_
     obtain ⟨ad381, cp382, c383, f384⟩ := ((a380).one).sl
     refine jv (.agg #[.slice ad381 x372.length cp382]) (V.ld rfl (Ld.aggK (cs := [.slice ad381 x372.length cp382]) Try.underlying26 sz26 rfl ⟨c383, trivial⟩ (Hp.le_refl _))) <| jal inf26 [.slice none 0 0] rfl fun b385 => ja (ii i335) rfl <| js [.slice ad381 x372.length cp382] sz26 rfl rfl rfl rfl rfl rfl <| J.nil <| CJ.seq <| CJ.region ?_
     refine jm _ rfl ?_
     obtain ⟨r386, hr387, h367⟩ := ob h367
     refine J.front 1 rfl <| J.op rfl (A.call (L1 := [Cl pba 38 [ii qa0, ii i336, ii qa2, ii qa3, ii qa4, ii qa5, ii qa6]]) Try.call19 rfl (tick_Counter_Add_p0c1i_iiiiiii_ok hr387) rfl rfl) ?_
     rintro _ _ _ ⟨v389, _, rfl, ⟨⟨i388, rfl, rfl, rfl⟩, rfl⟩, _, rfl⟩
     refine J.nil <| CJ.seq <| CJ.region <| jv (.agg #[.slice ad381 x372.length cp382]) (V.ld rfl (Ld.agg (cs := [.slice ad381 x372.length cp382]) Try.underlying26 sz26 rfl (Rd.cls 1 0 rfl rfl))) <| jv _ (V.fad Try.underlying30 rfl nz3 rfl) <| jv (ii xa.2.1) (V.ld rfl (Ld.sc sc3 (Rd.cl 2 rfl rfl))) ?_
     obtain ⟨r392, hr393, h367⟩ := ob h367
     refine J.op rfl (A.call (L1 := []) Try.call33 rfl (row_Check_ok f384 hr393) rfl rfl) ?_
     rintro _ _ _ ⟨v395, _, rfl, ⟨⟨i394, rfl, rfl, rfl⟩, rfl⟩, _, rfl⟩
     refine ja (ii i394) rfl <| J.nil <| CJ.seq <| CJ.region <| jm (ii i394) rfl <| jv (.bool (!decide (i394 = 0))) (V.neq rfl rfl) <| J.nil ?_
     refine cc rfl h367 (fun hc398 h367 => ?_) fun hc398 h367 => ?_
     · refine CJ.seq <| CJ.region <| jm (ii i394) rfl <| jm (ii i335) rfl <| jv (.agg #[ii i394, ii 2, ii i335, ii 0]) (V.build inf39 places39 rfl rfl) <| J.front 3 rfl <| js [ii i394, ii 2, ii i335, ii 0] sz39 rfl rfl rfl rfl rfl rfl ?_
       refine J.nil <| CJ.ret ?_
       obtain rfl := si h367
       refine ⟨nofun, fun e => ?_⟩
       subst e
       refine .inr ⟨nofun, ?_⟩
       obtain rfl := si h
       exact ⟨_, _, Res.one rfl ⟨_, _, rfl, Ld.agg (cs := [ii i394, ii 2, ii i335, ii 0]) Try.underlying39 sz39 rfl (Rd.cls 0 0 rfl rfl)⟩, ⟨i394, 2, i335, 0, i388, rfl, rfl, rfl⟩, (Hp.le_refl _), fun w hs => (Sep.dropAt 1 rfl (Sep.dropAt 1 rfl (Sep.dropAt 0 rfl hs)))⟩
     refine CJ.skip <| CJ.region <| jv (ii (IntKind.wrap .i64 (i335 + 1))) (V.add rfl rfl) <| jm (ii (IntKind.wrap .i64 (i335 + 1))) rfl <| J.dropAt 1 rfl <| J.nil ?_
     obtain rfl := si h367
     exact ⟨rfl, ⟨IntKind.wrap .i64 (i335 + 1), i388, rfl, ⟨rfl, rfl, rfl, rfl, rfl, rfl, trivial⟩, rfl, rfl⟩⟩
   refine CJ.dropAt 1 rfl <| CJ.exit ?_
   obtain rfl := si h367
   refine ⟨nofun, fun e => ?_⟩
   subst e
   exact .inl ⟨rfl, _, rfl, ⟨i336, rfl, ⟨rfl, trivial⟩, rfl, rfl⟩⟩
 rintro s ρ _ _ ho399 ⟨i302, rfl, hf400, rfl, rfl⟩
 subst ho399
 obtain ⟨ρ, rfl⟩ := hf400.ex
 refine PJ.done <| CJ.seq <| CJ.region <| jv (.agg #[ii 0, ii 0, ii 0, ii 0]) (V.build inf39 places39 rfl rfl) <| J.front 1 rfl <| js [ii 0, ii 0, ii 0, ii 0] sz39 rfl rfl rfl rfl rfl rfl <| J.nil ?_
 refine CJ.ret ?_
 obtain rfl := si h
 exact ⟨_, _, Res.one rfl ⟨_, _, rfl, Ld.agg (cs := [ii 0, ii 0, ii 0, ii 0]) Try.underlying39 sz39 rfl (Rd.cls 0 0 rfl rfl)⟩, ⟨0, 0, 0, 0, i302, rfl, rfl, rfl⟩, (Hp.le_refl _), fun w hs => (Sep.dropAt 0 rfl hs)⟩

noncomputable def fn_valid_ret_ap0_iiiiiii (xa : (Int × Int × (List (Int × Int)) × (List (List (Int × Bool))) × (List (Int × Bool)) × (List (Int × (List (Int × Int)) × (List (List (Int × Bool))) × (List (Int × Bool)))) × (List ((List (Int × Int × Int × Int × Bool)) × (Int × Int × Int × (List Int) × (List Int) × (List Int)))))) (qa0 : Int) (qa1 : Int) (qa2 : Int) (qa3 : Int) (qa4 : Int) (qa5 : Int) (qa6 : Int) : Option (Int × Int × Int × Int) :=
  (fn_row_Check xa.2.2.2.2.1 xa.1).bind fun i59 => cond (decide (i59 = 0)) ((getI xa.2.2.2.1 0).bind fun x85 => (fn_row_Shape xa.2.2.2.2.1 x85).bind fun t100 => cond (!t100) (some ((8, 3, 0, 0))) (some ((i59, 3, 0, 0)))) (some ((i59, 3, 0, 0)))
set_option maxRecDepth 100000 in
set_option maxHeartbeats 4000000 in
theorem valid_ret_ap0_iiiiiii_ok {K : Hp} {xa : (Int × Int × (List (Int × Int)) × (List (List (Int × Bool))) × (List (Int × Bool)) × (List (Int × (List (Int × Int)) × (List (List (Int × Bool))) × (List (Int × Bool)))) × (List ((List (Int × Int × Int × Int × Bool)) × (Int × Int × Int × (List Int) × (List Int) × (List Int)))))} {qa0 : Int} {qa1 : Int} {qa2 : Int} {qa3 : Int} {qa4 : Int} {qa5 : Int} {qa6 : Int} {pba : Nat} {adxa_2 : Option Addr} {cpxa_2 : Nat} {adxa_3 : Option Addr} {cpxa_3 : Nat} {adxa_4 : Option Addr} {cpxa_4 : Nat} {adxa_5 : Option Addr} {cpxa_5 : Nat} {adxa_6 : Option Addr} {cpxa_6 : Nat} (fxa_2 : Is K (.sl (.cons (.int .i64) (.one (.int .i64)))) [.slice adxa_2 xa.2.2.1.length cpxa_2] xa.2.2.1) (fxa_3 : Is K (.sl (.one (.sl (.cons (.int .i64) (.one .bool))))) [.slice adxa_3 xa.2.2.2.1.length cpxa_3] xa.2.2.2.1) (fxa_4 : Is K (.sl (.cons (.int .i64) (.one .bool))) [.slice adxa_4 xa.2.2.2.2.1.length cpxa_4] xa.2.2.2.2.1) (fxa_5 : Is K (.sl (.cons (.int .i64) (.cons (.sl (.cons (.int .i64) (.one (.int .i64)))) (.cons (.sl (.one (.sl (.cons (.int .i64) (.one .bool))))) (.one (.one (.sl (.cons (.int .i64) (.one .bool))))))))) [.slice adxa_5 xa.2.2.2.2.2.1.length cpxa_5] xa.2.2.2.2.2.1) (fxa_6 : Is K (.sl (.cons (.sl (.cons (.int .i64) (.cons (.int .i64) (.cons (.int .i64) (.cons (.int .i64) (.one .bool)))))) (.one (.cons (.int .i64) (.cons (.int .i64) (.cons (.int .i64) (.cons (.sl (.int .i64)) (.cons (.sl (.int .i64)) (.one (.sl (.int .i64))))))))))) [.slice adxa_6 xa.2.2.2.2.2.2.length cpxa_6] xa.2.2.2.2.2.2) {r : (Int × Int × Int × Int)} (h : fn_valid_ret_ap0_iiiiiii xa qa0 qa1 qa2 qa3 qa4 qa5 qa6 = some r) :
    Tr Try.prog 23 #[.agg #[ii xa.1, ii xa.2.1, .slice adxa_2 xa.2.2.1.length cpxa_2, .slice adxa_3 xa.2.2.2.1.length cpxa_3, .slice adxa_4 xa.2.2.2.2.1.length cpxa_4, .slice adxa_5 xa.2.2.2.2.2.1.length cpxa_5, .slice adxa_6 xa.2.2.2.2.2.2.length cpxa_6], .pointer (some ⟨pba, 0, none⟩)] K [Cl pba 38 [ii qa0, ii qa1, ii qa2, ii qa3, ii qa4, ii qa5, ii qa6]] (fun v K' L' => (∃ (i51 : Int) (i52 : Int) (i53 : Int) (i54 : Int), (i51, i52, i53, i54) = r ∧ .agg #[ii i51, ii i52, ii i53, ii i54] = v ∧ L' = [Cl pba 38 [ii qa0, ii qa1, ii qa2, ii qa3, ii qa4, ii qa5, ii qa6]]) ∧ K = K') := by
 refine Tr.k <| Tr.of Try.func23 rfl Try.ntmps23 rfl fun E F => ?_
 unfold fn_valid_ret_ap0_iiiiiii at h
 refine CJ.seq <| CJ.region <| jbx [ii xa.1, ii xa.2.1, .slice adxa_2 xa.2.2.1.length cpxa_2, .slice adxa_3 xa.2.2.2.1.length cpxa_3, .slice adxa_4 xa.2.2.2.2.1.length cpxa_4, .slice adxa_5 xa.2.2.2.2.2.1.length cpxa_5, .slice adxa_6 xa.2.2.2.2.2.2.length cpxa_6] rfl rfl fun b55 => jal inf39 [ii 0, ii 0, ii 0, ii 0] rfl fun b56 => J.nil <| CJ.seq <| CJ.region ?_
 refine jv _ (V.fad Try.underlying30 rfl nz26 rfl) <| jv (.agg #[.slice adxa_4 xa.2.2.2.2.1.length cpxa_4]) (V.ld rfl (Ld.agg (cs := [.slice adxa_4 xa.2.2.2.2.1.length cpxa_4]) Try.underlying26 sz26 rfl (Rd.cls 1 4 rfl rfl))) <| jv _ (V.fad Try.underlying30 rfl nz3 rfl) <| jv (ii xa.1) (V.ld rfl (Ld.sc sc3 (Rd.cl 1 rfl rfl))) ?_
 obtain ⟨r57, hr58, h⟩ := ob h
 refine J.op rfl (A.call (L1 := []) Try.call33 rfl (row_Check_ok fxa_4 hr58) rfl rfl) ?_
 rintro _ _ _ ⟨v60, _, rfl, ⟨⟨i59, rfl, rfl, rfl⟩, rfl⟩, _, rfl⟩
 refine jv (.agg #[ii i59, ii 3, ii 0, ii 0]) (V.build inf39 places39 rfl rfl) <| jal inf39 [ii 0, ii 0, ii 0, ii 0] rfl fun b63 => js [ii i59, ii 3, ii 0, ii 0] sz39 rfl rfl rfl rfl rfl rfl <| J.nil <| CJ.seq <| CJ.seq <| CJ.mix [Cl b63 39 [ii i59, ii 3, ii 0, ii 0], Cl b56 39 [ii 0, ii 0, ii 0, ii 0], Cl b55 30 [ii xa.1, ii xa.2.1, .slice adxa_2 xa.2.2.1.length cpxa_2, .slice adxa_3 xa.2.2.2.1.length cpxa_3, .slice adxa_4 xa.2.2.2.2.1.length cpxa_4, .slice adxa_5 xa.2.2.2.2.2.1.length cpxa_5, .slice adxa_6 xa.2.2.2.2.2.2.length cpxa_6], Cl pba 38 [ii qa0, ii qa1, ii qa2, ii qa3, ii qa4, ii qa5, ii qa6]] [([0, 1, 2, 3, 4, 5, 6, 7, 8, 9], 10)] [11, 12] [] mixO (by decide +kernel) ⟨0, rfl, 0, rfl, 0, rfl, 0, rfl, trivial⟩ rfl rfl rfl ?_
 refine JM.cons <| qv _ (V.fad Try.underlying39 rfl nz31 rfl) <| qv (ii i59) (V.ld rfl (Ld.sc sc31 (Rd.cl 0 rfl rfl))) <| qv (.bool (decide (i59 = 0))) (V.eql rfl rfl) <| qm (.bool (decide (i59 = 0))) rfl ?_
 rcases bt (decide (i59 = 0)) with hc84 | hc84
 · have h := ct hc84 h
   refine JQ.run rfl rfl rfl hc84 <| qv _ (V.fad Try.underlying30 rfl nz26 rfl) <| JQ.run rfl rfl rfl hc84 <| qv (.agg #[.slice adxa_4 xa.2.2.2.2.1.length cpxa_4]) (V.ld rfl (Ld.agg (cs := [.slice adxa_4 xa.2.2.2.2.1.length cpxa_4]) Try.underlying26 sz26 rfl (Rd.cls 2 4 rfl rfl))) <| JQ.run rfl rfl rfl hc84 <| qv _ (V.fad Try.underlying30 rfl nz23 rfl) <| JQ.run rfl rfl rfl hc84 ?_
   refine qv (.slice adxa_3 xa.2.2.2.1.length cpxa_3) (V.ld rfl (Ld.sc sc23 (Rd.cl 2 rfl rfl))) <| JQ.run rfl rfl rfl hc84 ?_
   obtain ⟨x85, hx86, h⟩ := ob h
   obtain ⟨p87, p88, p89⟩ := getI_some hx86
   obtain ⟨b90, o91, e92, a93⟩ := (fxa_3).at p88
   refine qv _ (V.iad Try.underlying23 sz26 rfl e92 rfl p87 p89) <| JQ.run rfl rfl rfl hc84 ?_
   obtain ⟨ad94, cp95, c96, f97⟩ := ((a93).one).sl
   refine qv (.agg #[.slice ad94 x85.length cp95]) (V.ld rfl (Ld.aggK (cs := [.slice ad94 x85.length cp95]) Try.underlying26 sz26 rfl ⟨c96, trivial⟩ (Hp.le_refl _))) <| JQ.nil <| JA.run rfl rfl rfl hc84 ?_
   obtain ⟨r98, hr99, h⟩ := ob h
   refine JA.op rfl (A.call (L1 := []) Try.call34 rfl (row_Shape_ok fxa_4 f97 hr99) rfl rfl) ?_
   rintro _ _ _ ⟨v101, _, rfl, ⟨⟨t100, rfl, rfl, rfl⟩, rfl⟩, _, rfl⟩
   refine ⟨fun w hs => Hold.sub (Hp.le_refl _) ⟨0, rfl, 0, rfl, 0, rfl, 0, rfl, trivial⟩ hs, ?_⟩
   refine JM.nil <| JQ.run rfl rfl rfl hc84 <| qv (.bool (!t100)) (V.not rfl) <| qv (.bool (!t100)) (V.pickT rfl hc84 rfl) <| JQ.nil <| J.nil <| cc rfl h (fun hc104 h => ?_) fun hc104 h => ?_
   · refine CJ.region <| jv _ (V.fad Try.underlying39 rfl nz31 rfl) <| js1 [ii 8, ii 3, ii 0, ii 0] sz31 rfl rfl rfl rfl rfl rfl <| J.nil <| CJ.seq <| CJ.region <| jv (.agg #[ii 8, ii 3, ii 0, ii 0]) (V.ld rfl (Ld.agg (cs := [ii 8, ii 3, ii 0, ii 0]) Try.underlying39 sz39 rfl (Rd.cls 0 0 rfl rfl))) ?_
     refine J.front 1 rfl <| js [ii 8, ii 3, ii 0, ii 0] sz39 rfl rfl rfl rfl rfl rfl <| J.nil <| CJ.ret ?_
     obtain rfl := si h
     exact ⟨_, _, Res.one rfl ⟨_, _, rfl, Ld.agg (cs := [ii 8, ii 3, ii 0, ii 0]) Try.underlying39 sz39 rfl (Rd.cls 0 0 rfl rfl)⟩, ⟨8, 3, 0, 0, rfl, rfl, rfl⟩, (Hp.le_refl _), fun w hs => (Sep.dropAt 0 rfl (Sep.dropAt 0 rfl (Sep.dropAt 0 rfl hs)))⟩
   refine CJ.skip <| CJ.seq <| CJ.region <| jv (.agg #[ii i59, ii 3, ii 0, ii 0]) (V.ld rfl (Ld.agg (cs := [ii i59, ii 3, ii 0, ii 0]) Try.underlying39 sz39 rfl (Rd.cls 0 0 rfl rfl))) <| J.front 1 rfl <| js [ii i59, ii 3, ii 0, ii 0] sz39 rfl rfl rfl rfl rfl rfl <| J.nil ?_
   refine CJ.ret ?_
   obtain rfl := si h
   exact ⟨_, _, Res.one rfl ⟨_, _, rfl, Ld.agg (cs := [ii i59, ii 3, ii 0, ii 0]) Try.underlying39 sz39 rfl (Rd.cls 0 0 rfl rfl)⟩, ⟨i59, 3, 0, 0, rfl, rfl, rfl⟩, (Hp.le_refl _), fun w hs => (Sep.dropAt 0 rfl (Sep.dropAt 0 rfl (Sep.dropAt 0 rfl hs)))⟩
 have h := cf hc84 h
 refine JQ.skip rfl rfl rfl rfl hc84 <| JQ.skip rfl rfl rfl rfl hc84 <| JQ.skip rfl rfl rfl rfl hc84 <| JQ.skip rfl rfl rfl rfl hc84 <| JQ.skip rfl rfl rfl rfl hc84 <| JQ.skip rfl rfl rfl rfl hc84 <| JQ.nil ?_
 refine JA.skip rfl rfl rfl rfl hc84 <| JM.nil <| JQ.skip rfl rfl rfl rfl hc84 <| qv (.bool false) (V.pickF rfl hc84 rfl) <| JQ.nil <| J.nil <| CJ.condK (b := false) rfl rfl ?_
 refine CJ.skip <| CJ.seq <| CJ.region <| jv (.agg #[ii i59, ii 3, ii 0, ii 0]) (V.ld rfl (Ld.agg (cs := [ii i59, ii 3, ii 0, ii 0]) Try.underlying39 sz39 rfl (Rd.cls 0 0 rfl rfl))) <| J.front 1 rfl <| js [ii i59, ii 3, ii 0, ii 0] sz39 rfl rfl rfl rfl rfl rfl <| J.nil ?_
 refine CJ.ret ?_
 obtain rfl := si h
 exact ⟨_, _, Res.one rfl ⟨_, _, rfl, Ld.agg (cs := [ii i59, ii 3, ii 0, ii 0]) Try.underlying39 sz39 rfl (Rd.cls 0 0 rfl rfl)⟩, ⟨i59, 3, 0, 0, rfl, rfl, rfl⟩, (Hp.le_refl _), fun w hs => (Sep.dropAt 0 rfl (Sep.dropAt 0 rfl (Sep.dropAt 0 rfl hs)))⟩
noncomputable def fn_valid_sigs_ap0_iiiiiii_l1 (xa : (Int × Int × (List (Int × Int)) × (List (List (Int × Bool))) × (List (Int × Bool)) × (List (Int × (List (Int × Int)) × (List (List (Int × Bool))) × (List (Int × Bool)))) × (List ((List (Int × Int × Int × Int × Bool)) × (Int × Int × Int × (List Int) × (List Int) × (List Int)))))) (qa0 : Int) (qa2 : Int) (qa3 : Int) (qa4 : Int) (qa5 : Int) (qa6 : Int) : (Int × Int) → Option ((Int × Int) ⊕ (Int ⊕ (Int × Int × Int × Int × Int))) := fun ((i413, i414) : (Int × Int)) => cond (decide (i413 < (((xa.2.2.2.2.2.1.length : Nat) : Int)))) ((getI xa.2.2.2.2.2.1 i413).bind fun x458 => (fn_tick_Counter_Add_p0c1i_iiiiiii 1 qa0 i414 qa2 qa3 qa4 qa5 qa6).bind fun i482 => (fn_sig_Check (x458.1, x458.2.1, x458.2.2.1, x458.2.2.2)).bind fun i488 => cond (!decide (i488 = 0)) (some (.inr ((.inr ((i488, 4, i413, 0, i482)))))) (some (.inl ((IntKind.wrap .i64 (i413 + 1), i482))))) (some (.inr (.inl i414)))
noncomputable def fn_valid_sigs_ap0_iiiiiii (xa : (Int × Int × (List (Int × Int)) × (List (List (Int × Bool))) × (List (Int × Bool)) × (List (Int × (List (Int × Int)) × (List (List (Int × Bool))) × (List (Int × Bool)))) × (List ((List (Int × Int × Int × Int × Bool)) × (Int × Int × Int × (List Int) × (List Int) × (List Int)))))) (qa0 : Int) (qa1 : Int) (qa2 : Int) (qa3 : Int) (qa4 : Int) (qa5 : Int) (qa6 : Int) : Option (Int × Int × Int × Int × Int) :=
  cond (decide (65536 < (((xa.2.2.2.2.2.1.length : Nat) : Int)))) (some ((6, 4, 0, 0, qa1))) ((loop (fn_valid_sigs_ap0_iiiiiii_l1 xa qa0 qa2 qa3 qa4 qa5 qa6) (0, qa1) : Option (Int ⊕ (Int × Int × Int × Int × Int))).bind fun o => match o with | .inr r => some r | .inl i372 => some ((0, 0, 0, 0, i372)))
set_option maxRecDepth 100000 in
set_option maxHeartbeats 4000000 in
theorem valid_sigs_ap0_iiiiiii_ok {K : Hp} {xa : (Int × Int × (List (Int × Int)) × (List (List (Int × Bool))) × (List (Int × Bool)) × (List (Int × (List (Int × Int)) × (List (List (Int × Bool))) × (List (Int × Bool)))) × (List ((List (Int × Int × Int × Int × Bool)) × (Int × Int × Int × (List Int) × (List Int) × (List Int)))))} {qa0 : Int} {qa1 : Int} {qa2 : Int} {qa3 : Int} {qa4 : Int} {qa5 : Int} {qa6 : Int} {pba : Nat} {adxa_2 : Option Addr} {cpxa_2 : Nat} {adxa_3 : Option Addr} {cpxa_3 : Nat} {adxa_4 : Option Addr} {cpxa_4 : Nat} {adxa_5 : Option Addr} {cpxa_5 : Nat} {adxa_6 : Option Addr} {cpxa_6 : Nat} (fxa_2 : Is K (.sl (.cons (.int .i64) (.one (.int .i64)))) [.slice adxa_2 xa.2.2.1.length cpxa_2] xa.2.2.1) (fxa_3 : Is K (.sl (.one (.sl (.cons (.int .i64) (.one .bool))))) [.slice adxa_3 xa.2.2.2.1.length cpxa_3] xa.2.2.2.1) (fxa_4 : Is K (.sl (.cons (.int .i64) (.one .bool))) [.slice adxa_4 xa.2.2.2.2.1.length cpxa_4] xa.2.2.2.2.1) (fxa_5 : Is K (.sl (.cons (.int .i64) (.cons (.sl (.cons (.int .i64) (.one (.int .i64)))) (.cons (.sl (.one (.sl (.cons (.int .i64) (.one .bool))))) (.one (.one (.sl (.cons (.int .i64) (.one .bool))))))))) [.slice adxa_5 xa.2.2.2.2.2.1.length cpxa_5] xa.2.2.2.2.2.1) (fxa_6 : Is K (.sl (.cons (.sl (.cons (.int .i64) (.cons (.int .i64) (.cons (.int .i64) (.cons (.int .i64) (.one .bool)))))) (.one (.cons (.int .i64) (.cons (.int .i64) (.cons (.int .i64) (.cons (.sl (.int .i64)) (.cons (.sl (.int .i64)) (.one (.sl (.int .i64))))))))))) [.slice adxa_6 xa.2.2.2.2.2.2.length cpxa_6] xa.2.2.2.2.2.2) {r : (Int × Int × Int × Int × Int)} (h : fn_valid_sigs_ap0_iiiiiii xa qa0 qa1 qa2 qa3 qa4 qa5 qa6 = some r) :
    Tr Try.prog 24 #[.agg #[ii xa.1, ii xa.2.1, .slice adxa_2 xa.2.2.1.length cpxa_2, .slice adxa_3 xa.2.2.2.1.length cpxa_3, .slice adxa_4 xa.2.2.2.2.1.length cpxa_4, .slice adxa_5 xa.2.2.2.2.2.1.length cpxa_5, .slice adxa_6 xa.2.2.2.2.2.2.length cpxa_6], .pointer (some ⟨pba, 0, none⟩)] K [Cl pba 38 [ii qa0, ii qa1, ii qa2, ii qa3, ii qa4, ii qa5, ii qa6]] (fun v K' L' => (∃ (i246 : Int) (i247 : Int) (i248 : Int) (i249 : Int) (i250 : Int), (i246, i247, i248, i249, i250) = r ∧ .agg #[ii i246, ii i247, ii i248, ii i249] = v ∧ L' = [Cl pba 38 [ii qa0, ii i250, ii qa2, ii qa3, ii qa4, ii qa5, ii qa6]]) ∧ K = K') := by
 refine Tr.k <| Tr.of Try.func24 rfl Try.ntmps24 rfl fun E F => ?_
 unfold fn_valid_sigs_ap0_iiiiiii at h
 refine CJ.seq <| CJ.region <| jbx [ii xa.1, ii xa.2.1, .slice adxa_2 xa.2.2.1.length cpxa_2, .slice adxa_3 xa.2.2.2.1.length cpxa_3, .slice adxa_4 xa.2.2.2.2.1.length cpxa_4, .slice adxa_5 xa.2.2.2.2.2.1.length cpxa_5, .slice adxa_6 xa.2.2.2.2.2.2.length cpxa_6] rfl rfl fun b251 => jal inf39 [ii 0, ii 0, ii 0, ii 0] rfl fun b252 => J.nil <| CJ.seq <| CJ.seq ?_
 refine CJ.region <| jv _ (V.fad Try.underlying30 rfl nz27 rfl) <| jv (.slice adxa_5 xa.2.2.2.2.2.1.length cpxa_5) (V.ld rfl (Ld.sc sc27 (Rd.cl 1 rfl rfl))) <| jv (ii (((xa.2.2.2.2.2.1.length : Nat) : Int))) (V.len Try.underlying27 rfl) <| jv (.bool (decide (65536 < (((xa.2.2.2.2.2.1.length : Nat) : Int))))) (V.gtr rfl rfl) <| J.nil <| cc rfl h (fun hc253 h => ?_) fun hc253 h => ?_
 · refine CJ.seq <| CJ.region <| jv (.agg #[ii 6, ii 4, ii 0, ii 0]) (V.build inf39 places39 rfl rfl) <| js [ii 6, ii 4, ii 0, ii 0] sz39 rfl rfl rfl rfl rfl rfl <| J.nil <| CJ.ret ?_
   obtain rfl := si h
   exact ⟨_, _, Res.one rfl ⟨_, _, rfl, Ld.agg (cs := [ii 6, ii 4, ii 0, ii 0]) Try.underlying39 sz39 rfl (Rd.cls 0 0 rfl rfl)⟩, ⟨6, 4, 0, 0, qa1, rfl, rfl, rfl⟩, (Hp.le_refl _), fun w hs => (Sep.dropAt 0 rfl (Sep.dropAt 0 rfl hs))⟩
 refine CJ.skip <| CJ.seq <| CJ.seq <| CJ.region <| jv _ (V.fad Try.underlying30 rfl nz27 rfl) <| jv (.slice adxa_5 xa.2.2.2.2.2.1.length cpxa_5) (V.ld rfl (Ld.sc sc27 (Rd.cl 1 rfl rfl))) <| jv (ii (((xa.2.2.2.2.2.1.length : Nat) : Int))) (V.len Try.underlying27 rfl) ?_
 refine jm (ii 0) rfl <| J.nil ?_
 obtain ⟨o373, ho374, h⟩ := ob h
 refine CJ.joinN (o := o373) (fun s ρ K' L' => ∃ (i372 : Int), i372 = s ∧ Fits [(4, .pointer (some ⟨b252, 0, none⟩))] ρ ∧ K = K' ∧ L' = Cl pba 38 [ii qa0, ii i372, ii qa2, ii qa3, ii qa4, ii qa5, ii qa6] :: Cl b252 39 [ii 0, ii 0, ii 0, ii 0] :: F) ?_ ?_
 · refine CJ.block <| CJ.dropAt 1 rfl <| CJ.front 1 rfl <| CJ.loop (fun s ρ K' L' => ∃ (i413 : Int) (i414 : Int), (i413, i414) = s ∧ Fits [(1, .pointer (some ⟨pba, 0, none⟩)), (4, .pointer (some ⟨b252, 0, none⟩)), (14, .slice adxa_5 xa.2.2.2.2.2.1.length cpxa_5), (15, ii (((xa.2.2.2.2.2.1.length : Nat) : Int))), (16, ii i413)] ρ ∧ K = K' ∧ L' = Cl pba 38 [ii qa0, ii i414, ii qa2, ii qa3, ii qa4, ii qa5, ii qa6] :: Cl b252 39 [ii 0, ii 0, ii 0, ii 0] :: F) ho374 ⟨0, qa1, rfl, ⟨rfl, rfl, rfl, rfl, rfl, trivial⟩, rfl, rfl⟩ ?_
   rintro s ρ _ _ r456 ⟨i413, i414, rfl, hf454, rfl, rfl⟩ h453
   obtain ⟨ρ, rfl⟩ := hf454.ex
   refine CJ.seq <| CJ.region <| jv (.bool (decide (i413 < (((xa.2.2.2.2.2.1.length : Nat) : Int))))) (V.lss rfl rfl) <| J.nil <| CJ.seq <| cc rfl h453 (fun hc457 h453 => ?_) fun hc457 h453 => ?_
   · refine CJ.skip <| CJ.seq <| CJ.block <| CJ.seq <| CJ.region <| jm (ii i413) rfl ?_
     obtain ⟨x458, hx459, h453⟩ := ob h453
     obtain ⟨p460, p461, p462⟩ := getI_some hx459
     obtain ⟨b463, o464, e465, a466⟩ := (fxa_5).at p461
     refine jv _ (V.iad Try.underlying27 sz62 rfl e465 rfl p460 p462) ?_
     obtain ⟨ad467, cp468, c469, f470⟩ := (((a466).snd).fst).sl
     obtain ⟨ad471, cp472, c473, f474⟩ := ((((a466).snd).snd).fst).sl
     obtain ⟨ad475, cp476, c477, f478⟩ := ((((((a466).snd).snd).snd).one).one).sl
     refine jv (.agg #[ii x458.1, .slice ad467 x458.2.1.length cp468, .slice ad471 x458.2.2.1.length cp472, .slice ad475 x458.2.2.2.length cp476]) (V.ld rfl (Ld.aggK (cs := [ii x458.1, .slice ad467 x458.2.1.length cp468, .slice ad471 x458.2.2.1.length cp472, .slice ad475 x458.2.2.2.length cp476]) Try.underlying62 sz62 rfl ⟨((a466).fst).int, c469, c473, c477, trivial⟩ (Hp.le_refl _))) <| jal inf62 [ii 0, .slice none 0 0, .slice none 0 0, .slice none 0 0] rfl fun b479 => ja (ii i413) rfl <| js [ii x458.1, .slice ad467 x458.2.1.length cp468, .slice ad471 x458.2.2.1.length cp472, .slice ad475 x458.2.2.2.length cp476] sz62 rfl rfl rfl rfl rfl rfl <| J.nil <| CJ.seq <| CJ.region ?_
     refine jm _ rfl ?_
     obtain ⟨r480, hr481, h453⟩ := ob h453
     refine J.front 1 rfl <| J.op rfl (A.call (L1 := [Cl pba 38 [ii qa0, ii i414, ii qa2, ii qa3, ii qa4, ii qa5, ii qa6]]) Try.call19 rfl (tick_Counter_Add_p0c1i_iiiiiii_ok hr481) rfl rfl) ?_
     rintro _ _ _ ⟨v483, _, rfl, ⟨⟨i482, rfl, rfl, rfl⟩, rfl⟩, _, rfl⟩
     refine J.nil <| CJ.seq <| CJ.region <| jv (.agg #[ii x458.1, .slice ad467 x458.2.1.length cp468, .slice ad471 x458.2.2.1.length cp472, .slice ad475 x458.2.2.2.length cp476]) (V.ld rfl (Ld.agg (cs := [ii x458.1, .slice ad467 x458.2.1.length cp468, .slice ad471 x458.2.2.1.length cp472, .slice ad475 x458.2.2.2.length cp476]) Try.underlying62 sz62 rfl (Rd.cls 1 0 rfl rfl))) ?_
     obtain ⟨r486, hr487, h453⟩ := ob h453
     refine J.op rfl (A.call (L1 := []) Try.call35 rfl (sig_Check_ok f470 f474 f478 hr487) rfl rfl) ?_
     rintro _ _ _ ⟨v489, _, rfl, ⟨⟨i488, rfl, rfl, rfl⟩, rfl⟩, _, rfl⟩
     refine ja (ii i488) rfl <| J.nil <| CJ.seq <| CJ.region <| jm (ii i488) rfl <| jv (.bool (!decide (i488 = 0))) (V.neq rfl rfl) <| J.nil ?_
     refine cc rfl h453 (fun hc492 h453 => ?_) fun hc492 h453 => ?_
     · refine CJ.seq <| CJ.region <| jm (ii i488) rfl <| jm (ii i413) rfl <| jv (.agg #[ii i488, ii 4, ii i413, ii 0]) (V.build inf39 places39 rfl rfl) <| J.front 2 rfl <| js [ii i488, ii 4, ii i413, ii 0] sz39 rfl rfl rfl rfl rfl rfl ?_
       refine J.nil <| CJ.ret ?_
       obtain rfl := si h453
       refine ⟨nofun, fun e => ?_⟩
       subst e
       refine .inr ⟨nofun, ?_⟩
       obtain rfl := si h
       exact ⟨_, _, Res.one rfl ⟨_, _, rfl, Ld.agg (cs := [ii i488, ii 4, ii i413, ii 0]) Try.underlying39 sz39 rfl (Rd.cls 0 0 rfl rfl)⟩, ⟨i488, 4, i413, 0, i482, rfl, rfl, rfl⟩, (Hp.le_refl _), fun w hs => (Sep.dropAt 1 rfl (Sep.dropAt 0 rfl hs))⟩
     refine CJ.skip <| CJ.region <| jv (ii (IntKind.wrap .i64 (i413 + 1))) (V.add rfl rfl) <| jm (ii (IntKind.wrap .i64 (i413 + 1))) rfl <| J.dropAt 1 rfl <| J.nil ?_
     obtain rfl := si h453
     exact ⟨rfl, ⟨IntKind.wrap .i64 (i413 + 1), i482, rfl, ⟨rfl, rfl, rfl, rfl, rfl, trivial⟩, rfl, rfl⟩⟩
   refine CJ.exit ?_
   obtain rfl := si h453
   refine ⟨nofun, fun e => ?_⟩
   subst e
   exact .inl ⟨rfl, _, rfl, ⟨i414, rfl, ⟨rfl, trivial⟩, rfl, rfl⟩⟩
 rintro s ρ _ _ ho493 ⟨i372, rfl, hf494, rfl, rfl⟩
 subst ho493
 obtain ⟨ρ, rfl⟩ := hf494.ex
 refine PJ.done <| CJ.seq <| CJ.region <| jv (.agg #[ii 0, ii 0, ii 0, ii 0]) (V.build inf39 places39 rfl rfl) <| J.front 1 rfl <| js [ii 0, ii 0, ii 0, ii 0] sz39 rfl rfl rfl rfl rfl rfl <| J.nil ?_
 refine CJ.ret ?_
 obtain rfl := si h
 exact ⟨_, _, Res.one rfl ⟨_, _, rfl, Ld.agg (cs := [ii 0, ii 0, ii 0, ii 0]) Try.underlying39 sz39 rfl (Rd.cls 0 0 rfl rfl)⟩, ⟨0, 0, 0, 0, i372, rfl, rfl, rfl⟩, (Hp.le_refl _), fun w hs => (Sep.dropAt 0 rfl hs)⟩
noncomputable def fn_valid_blocks_ap0_iiiiiii_l1 (xa : (Int × Int × (List (Int × Int)) × (List (List (Int × Bool))) × (List (Int × Bool)) × (List (Int × (List (Int × Int)) × (List (List (Int × Bool))) × (List (Int × Bool)))) × (List ((List (Int × Int × Int × Int × Bool)) × (Int × Int × Int × (List Int) × (List Int) × (List Int)))))) (qa0 : Int) (qa2 : Int) (qa3 : Int) (qa4 : Int) (qa5 : Int) (qa6 : Int) : (Int × Int × Int) → Option ((Int × Int × Int) ⊕ (Int ⊕ (Int × Int × Int × Int × Int))) := fun ((i405, i406, i407) : (Int × Int × Int)) => cond (decide (i406 < (((xa.2.2.2.2.2.2.length : Nat) : Int)))) ((getI xa.2.2.2.2.2.2 i406).bind fun x450 => (fn_tick_Counter_Add_p0c1i_iiiiiii 1 qa0 i407 qa2 qa3 qa4 qa5 qa6).bind fun i478 => cond (decide (65536 < (IntKind.wrap .i64 (i405 + (((x450.1.length : Nat) : Int)))))) (some (.inr ((.inr ((6, 5, i406, 0, i478)))))) (some (.inl ((IntKind.wrap .i64 (i405 + (((x450.1.length : Nat) : Int))), IntKind.wrap .i64 (i406 + 1), i478))))) (some (.inr (.inl i407)))
noncomputable def fn_valid_blocks_ap0_iiiiiii (xa : (Int × Int × (List (Int × Int)) × (List (List (Int × Bool))) × (List (Int × Bool)) × (List (Int × (List (Int × Int)) × (List (List (Int × Bool))) × (List (Int × Bool)))) × (List ((List (Int × Int × Int × Int × Bool)) × (Int × Int × Int × (List Int) × (List Int) × (List Int)))))) (qa0 : Int) (qa1 : Int) (qa2 : Int) (qa3 : Int) (qa4 : Int) (qa5 : Int) (qa6 : Int) : Option (Int × Int × Int × Int × Int) :=
  cond (decide ((((xa.2.2.2.2.2.2.length : Nat) : Int)) = 0)) (some ((14, 5, 0, 0, qa1))) (cond (decide (65536 < (((xa.2.2.2.2.2.2.length : Nat) : Int)))) (some ((6, 5, 0, 0, qa1))) ((loop (fn_valid_blocks_ap0_iiiiiii_l1 xa qa0 qa2 qa3 qa4 qa5 qa6) (0, 0, qa1) : Option (Int ⊕ (Int × Int × Int × Int × Int))).bind fun o => match o with | .inr r => some r | .inl i365 => some ((0, 0, 0, 0, i365))))
set_option maxRecDepth 100000 in
set_option maxHeartbeats 4000000 in
theorem valid_blocks_ap0_iiiiiii_ok {K : Hp} {xa : (Int × Int × (List (Int × Int)) × (List (List (Int × Bool))) × (List (Int × Bool)) × (List (Int × (List (Int × Int)) × (List (List (Int × Bool))) × (List (Int × Bool)))) × (List ((List (Int × Int × Int × Int × Bool)) × (Int × Int × Int × (List Int) × (List Int) × (List Int)))))} {qa0 : Int} {qa1 : Int} {qa2 : Int} {qa3 : Int} {qa4 : Int} {qa5 : Int} {qa6 : Int} {pba : Nat} {adxa_2 : Option Addr} {cpxa_2 : Nat} {adxa_3 : Option Addr} {cpxa_3 : Nat} {adxa_4 : Option Addr} {cpxa_4 : Nat} {adxa_5 : Option Addr} {cpxa_5 : Nat} {adxa_6 : Option Addr} {cpxa_6 : Nat} (fxa_2 : Is K (.sl (.cons (.int .i64) (.one (.int .i64)))) [.slice adxa_2 xa.2.2.1.length cpxa_2] xa.2.2.1) (fxa_3 : Is K (.sl (.one (.sl (.cons (.int .i64) (.one .bool))))) [.slice adxa_3 xa.2.2.2.1.length cpxa_3] xa.2.2.2.1) (fxa_4 : Is K (.sl (.cons (.int .i64) (.one .bool))) [.slice adxa_4 xa.2.2.2.2.1.length cpxa_4] xa.2.2.2.2.1) (fxa_5 : Is K (.sl (.cons (.int .i64) (.cons (.sl (.cons (.int .i64) (.one (.int .i64)))) (.cons (.sl (.one (.sl (.cons (.int .i64) (.one .bool))))) (.one (.one (.sl (.cons (.int .i64) (.one .bool))))))))) [.slice adxa_5 xa.2.2.2.2.2.1.length cpxa_5] xa.2.2.2.2.2.1) (fxa_6 : Is K (.sl (.cons (.sl (.cons (.int .i64) (.cons (.int .i64) (.cons (.int .i64) (.cons (.int .i64) (.one .bool)))))) (.one (.cons (.int .i64) (.cons (.int .i64) (.cons (.int .i64) (.cons (.sl (.int .i64)) (.cons (.sl (.int .i64)) (.one (.sl (.int .i64))))))))))) [.slice adxa_6 xa.2.2.2.2.2.2.length cpxa_6] xa.2.2.2.2.2.2) {r : (Int × Int × Int × Int × Int)} (h : fn_valid_blocks_ap0_iiiiiii xa qa0 qa1 qa2 qa3 qa4 qa5 qa6 = some r) :
    Tr Try.prog 25 #[.agg #[ii xa.1, ii xa.2.1, .slice adxa_2 xa.2.2.1.length cpxa_2, .slice adxa_3 xa.2.2.2.1.length cpxa_3, .slice adxa_4 xa.2.2.2.2.1.length cpxa_4, .slice adxa_5 xa.2.2.2.2.2.1.length cpxa_5, .slice adxa_6 xa.2.2.2.2.2.2.length cpxa_6], .pointer (some ⟨pba, 0, none⟩)] K [Cl pba 38 [ii qa0, ii qa1, ii qa2, ii qa3, ii qa4, ii qa5, ii qa6]] (fun v K' L' => (∃ (i241 : Int) (i242 : Int) (i243 : Int) (i244 : Int) (i245 : Int), (i241, i242, i243, i244, i245) = r ∧ .agg #[ii i241, ii i242, ii i243, ii i244] = v ∧ L' = [Cl pba 38 [ii qa0, ii i245, ii qa2, ii qa3, ii qa4, ii qa5, ii qa6]]) ∧ K = K') := by
 refine Tr.k <| Tr.of Try.func25 rfl Try.ntmps25 rfl fun E F => ?_
 unfold fn_valid_blocks_ap0_iiiiiii at h
 refine CJ.seq <| CJ.region <| jbx [ii xa.1, ii xa.2.1, .slice adxa_2 xa.2.2.1.length cpxa_2, .slice adxa_3 xa.2.2.2.1.length cpxa_3, .slice adxa_4 xa.2.2.2.2.1.length cpxa_4, .slice adxa_5 xa.2.2.2.2.2.1.length cpxa_5, .slice adxa_6 xa.2.2.2.2.2.2.length cpxa_6] rfl rfl fun b246 => jal inf39 [ii 0, ii 0, ii 0, ii 0] rfl fun b247 => J.nil <| CJ.seq <| CJ.seq ?_
 refine CJ.region <| jv _ (V.fad Try.underlying30 rfl nz28 rfl) <| jv (.slice adxa_6 xa.2.2.2.2.2.2.length cpxa_6) (V.ld rfl (Ld.sc sc28 (Rd.cl 1 rfl rfl))) <| jv (ii (((xa.2.2.2.2.2.2.length : Nat) : Int))) (V.len Try.underlying28 rfl) <| jv (.bool (decide ((((xa.2.2.2.2.2.2.length : Nat) : Int)) = 0))) (V.eql rfl rfl) <| J.nil <| cc rfl h (fun hc248 h => ?_) fun hc248 h => ?_
 · refine CJ.seq <| CJ.region <| jv (.agg #[ii 14, ii 5, ii 0, ii 0]) (V.build inf39 places39 rfl rfl) <| js [ii 14, ii 5, ii 0, ii 0] sz39 rfl rfl rfl rfl rfl rfl <| J.nil <| CJ.ret ?_
   obtain rfl := si h
   exact ⟨_, _, Res.one rfl ⟨_, _, rfl, Ld.agg (cs := [ii 14, ii 5, ii 0, ii 0]) Try.underlying39 sz39 rfl (Rd.cls 0 0 rfl rfl)⟩, ⟨14, 5, 0, 0, qa1, rfl, rfl, rfl⟩, (Hp.le_refl _), fun w hs => (Sep.dropAt 0 rfl (Sep.dropAt 0 rfl hs))⟩
 refine CJ.skip <| CJ.seq <| CJ.seq <| CJ.region <| jv _ (V.fad Try.underlying30 rfl nz28 rfl) <| jv (.slice adxa_6 xa.2.2.2.2.2.2.length cpxa_6) (V.ld rfl (Ld.sc sc28 (Rd.cl 1 rfl rfl))) <| jv (ii (((xa.2.2.2.2.2.2.length : Nat) : Int))) (V.len Try.underlying28 rfl) ?_
 refine jv (.bool (decide (65536 < (((xa.2.2.2.2.2.2.length : Nat) : Int))))) (V.gtr rfl rfl) <| J.nil <| cc rfl h (fun hc249 h => ?_) fun hc249 h => ?_
 · refine CJ.seq <| CJ.region <| jv (.agg #[ii 6, ii 5, ii 0, ii 0]) (V.build inf39 places39 rfl rfl) <| js [ii 6, ii 5, ii 0, ii 0] sz39 rfl rfl rfl rfl rfl rfl <| J.nil <| CJ.ret ?_
   obtain rfl := si h
   exact ⟨_, _, Res.one rfl ⟨_, _, rfl, Ld.agg (cs := [ii 6, ii 5, ii 0, ii 0]) Try.underlying39 sz39 rfl (Rd.cls 0 0 rfl rfl)⟩, ⟨6, 5, 0, 0, qa1, rfl, rfl, rfl⟩, (Hp.le_refl _), fun w hs => (Sep.dropAt 0 rfl (Sep.dropAt 0 rfl hs))⟩
 refine CJ.skip <| CJ.seq <| CJ.region <| ja (ii 0) rfl <| J.nil <| CJ.seq <| CJ.seq ?_
 refine CJ.region <| jv _ (V.fad Try.underlying30 rfl nz28 rfl) <| jv (.slice adxa_6 xa.2.2.2.2.2.2.length cpxa_6) (V.ld rfl (Ld.sc sc28 (Rd.cl 1 rfl rfl))) <| jv (ii (((xa.2.2.2.2.2.2.length : Nat) : Int))) (V.len Try.underlying28 rfl) <| jm (ii 0) rfl <| J.nil ?_
 obtain ⟨o366, ho367, h⟩ := ob h
 refine CJ.joinN (o := o366) (fun s ρ K' L' => ∃ (i365 : Int), i365 = s ∧ Fits [(4, .pointer (some ⟨b247, 0, none⟩))] ρ ∧ K = K' ∧ L' = Cl pba 38 [ii qa0, ii i365, ii qa2, ii qa3, ii qa4, ii qa5, ii qa6] :: Cl b247 39 [ii 0, ii 0, ii 0, ii 0] :: F) ?_ ?_
 · refine CJ.block <| CJ.dropAt 1 rfl <| CJ.front 1 rfl <| CJ.loop (fun s ρ K' L' => ∃ (i405 : Int) (i406 : Int) (i407 : Int), (i405, i406, i407) = s ∧ Fits [(1, .pointer (some ⟨pba, 0, none⟩)), (4, .pointer (some ⟨b247, 0, none⟩)), (5, ii i405), (19, .slice adxa_6 xa.2.2.2.2.2.2.length cpxa_6), (20, ii (((xa.2.2.2.2.2.2.length : Nat) : Int))), (21, ii i406)] ρ ∧ K = K' ∧ L' = Cl pba 38 [ii qa0, ii i407, ii qa2, ii qa3, ii qa4, ii qa5, ii qa6] :: Cl b247 39 [ii 0, ii 0, ii 0, ii 0] :: F) ho367 ⟨0, 0, qa1, rfl, ⟨rfl, rfl, rfl, rfl, rfl, rfl, trivial⟩, rfl, rfl⟩ ?_
   rintro s ρ _ _ r448 ⟨i405, i406, i407, rfl, hf446, rfl, rfl⟩ h445
   obtain ⟨ρ, rfl⟩ := hf446.ex
   refine CJ.seq <| CJ.region <| jv (.bool (decide (i406 < (((xa.2.2.2.2.2.2.length : Nat) : Int))))) (V.lss rfl rfl) <| J.nil <| CJ.seq <| cc rfl h445 (fun hc449 h445 => ?_) fun hc449 h445 => ?_
   · refine CJ.skip <| CJ.seq <| CJ.block <| CJ.seq <| CJ.region <| jm (ii i406) rfl ?_
     obtain ⟨x450, hx451, h445⟩ := ob h445
     obtain ⟨p452, p453, p454⟩ := getI_some hx451
     obtain ⟨b455, o456, e457, a458⟩ := (fxa_6).at p453
     refine jv _ (V.iad Try.underlying28 sz56 rfl e457 rfl p452 p454) ?_
     obtain ⟨ad459, cp460, c461, f462⟩ := ((a458).fst).sl
     obtain ⟨ad463, cp464, c465, f466⟩ := (((((((a458).snd).one).snd).snd).snd).fst).sl
     obtain ⟨ad467, cp468, c469, f470⟩ := ((((((((a458).snd).one).snd).snd).snd).snd).fst).sl
     obtain ⟨ad471, cp472, c473, f474⟩ := (((((((((a458).snd).one).snd).snd).snd).snd).snd).one).sl
     refine jv (.agg #[.slice ad459 x450.1.length cp460, ii x450.2.1, ii x450.2.2.1, ii x450.2.2.2.1, .slice ad463 x450.2.2.2.2.1.length cp464, .slice ad467 x450.2.2.2.2.2.1.length cp468, .slice ad471 x450.2.2.2.2.2.2.length cp472]) (V.ld rfl (Ld.aggK (cs := [.slice ad459 x450.1.length cp460, ii x450.2.1, ii x450.2.2.1, ii x450.2.2.2.1, .slice ad463 x450.2.2.2.2.1.length cp464, .slice ad467 x450.2.2.2.2.2.1.length cp468, .slice ad471 x450.2.2.2.2.2.2.length cp472]) Try.underlying56 sz56 rfl ⟨c461, ((((a458).snd).one).fst).int, (((((a458).snd).one).snd).fst).int, ((((((a458).snd).one).snd).snd).fst).int, c465, c469, c473, trivial⟩ (Hp.le_refl _))) <| jal inf56 [.slice none 0 0, ii 0, ii 0, ii 0, .slice none 0 0, .slice none 0 0, .slice none 0 0] rfl fun b475 => ja (ii i406) rfl <| js [.slice ad459 x450.1.length cp460, ii x450.2.1, ii x450.2.2.1, ii x450.2.2.2.1, .slice ad463 x450.2.2.2.2.1.length cp464, .slice ad467 x450.2.2.2.2.2.1.length cp468, .slice ad471 x450.2.2.2.2.2.2.length cp472] sz56 rfl rfl rfl rfl rfl rfl <| J.nil <| CJ.seq <| CJ.region ?_
     refine jm _ rfl ?_
     obtain ⟨r476, hr477, h445⟩ := ob h445
     refine J.front 1 rfl <| J.op rfl (A.call (L1 := [Cl pba 38 [ii qa0, ii i407, ii qa2, ii qa3, ii qa4, ii qa5, ii qa6]]) Try.call19 rfl (tick_Counter_Add_p0c1i_iiiiiii_ok hr477) rfl rfl) ?_
     rintro _ _ _ ⟨v479, _, rfl, ⟨⟨i478, rfl, rfl, rfl⟩, rfl⟩, _, rfl⟩
     refine J.nil <| CJ.seq <| CJ.region <| jm (ii i405) rfl <| jv _ (V.fad Try.underlying56 rfl nz51 rfl) <| jv (.slice ad459 x450.1.length cp460) (V.ld rfl (Ld.sc sc51 (Rd.cl 1 rfl rfl))) <| jv (ii (((x450.1.length : Nat) : Int))) (V.len Try.underlying51 rfl) ?_
     refine jv (ii (IntKind.wrap .i64 (i405 + (((x450.1.length : Nat) : Int))))) (V.add rfl rfl) <| ja (ii (IntKind.wrap .i64 (i405 + (((x450.1.length : Nat) : Int))))) rfl <| J.nil <| CJ.seq <| CJ.region <| jm (ii (IntKind.wrap .i64 (i405 + (((x450.1.length : Nat) : Int))))) rfl <| jv (.bool (decide (65536 < (IntKind.wrap .i64 (i405 + (((x450.1.length : Nat) : Int))))))) (V.gtr rfl rfl) ?_
     refine J.nil <| cc rfl h445 (fun hc482 h445 => ?_) fun hc482 h445 => ?_
     · refine CJ.seq <| CJ.region <| jm (ii i406) rfl <| jv (.agg #[ii 6, ii 5, ii i406, ii 0]) (V.build inf39 places39 rfl rfl) <| J.front 2 rfl <| js [ii 6, ii 5, ii i406, ii 0] sz39 rfl rfl rfl rfl rfl rfl <| J.nil ?_
       refine CJ.ret ?_
       obtain rfl := si h445
       refine ⟨nofun, fun e => ?_⟩
       subst e
       refine .inr ⟨nofun, ?_⟩
       obtain rfl := si h
       exact ⟨_, _, Res.one rfl ⟨_, _, rfl, Ld.agg (cs := [ii 6, ii 5, ii i406, ii 0]) Try.underlying39 sz39 rfl (Rd.cls 0 0 rfl rfl)⟩, ⟨6, 5, i406, 0, i478, rfl, rfl, rfl⟩, (Hp.le_refl _), fun w hs => (Sep.dropAt 1 rfl (Sep.dropAt 0 rfl hs))⟩
     refine CJ.skip <| CJ.region <| jv (ii (IntKind.wrap .i64 (i406 + 1))) (V.add rfl rfl) <| jm (ii (IntKind.wrap .i64 (i406 + 1))) rfl <| J.dropAt 1 rfl <| J.nil ?_
     obtain rfl := si h445
     exact ⟨rfl, ⟨IntKind.wrap .i64 (i405 + (((x450.1.length : Nat) : Int))), IntKind.wrap .i64 (i406 + 1), i478, rfl, ⟨rfl, rfl, rfl, rfl, rfl, rfl, trivial⟩, rfl, rfl⟩⟩
   refine CJ.exit ?_
   obtain rfl := si h445
   refine ⟨nofun, fun e => ?_⟩
   subst e
   exact .inl ⟨rfl, _, rfl, ⟨i407, rfl, ⟨rfl, trivial⟩, rfl, rfl⟩⟩
 rintro s ρ _ _ ho483 ⟨i365, rfl, hf484, rfl, rfl⟩
 subst ho483
 obtain ⟨ρ, rfl⟩ := hf484.ex
 refine PJ.done <| CJ.seq <| CJ.region <| jv (.agg #[ii 0, ii 0, ii 0, ii 0]) (V.build inf39 places39 rfl rfl) <| J.front 1 rfl <| js [ii 0, ii 0, ii 0, ii 0] sz39 rfl rfl rfl rfl rfl rfl <| J.nil ?_
 refine CJ.ret ?_
 obtain rfl := si h
 exact ⟨_, _, Res.one rfl ⟨_, _, rfl, Ld.agg (cs := [ii 0, ii 0, ii 0, ii 0]) Try.underlying39 sz39 rfl (Rd.cls 0 0 rfl rfl)⟩, ⟨0, 0, 0, 0, i365, rfl, rfl, rfl⟩, (Hp.le_refl _), fun w hs => (Sep.dropAt 0 rfl hs)⟩
noncomputable def fn_valid_code_ap0_iiiiiii_l1 (xa : (Int × Int × (List (Int × Int)) × (List (List (Int × Bool))) × (List (Int × Bool)) × (List (Int × (List (Int × Int)) × (List (List (Int × Bool))) × (List (Int × Bool)))) × (List ((List (Int × Int × Int × Int × Bool)) × (Int × Int × Int × (List Int) × (List Int) × (List Int)))))) (qa0 : Int) (qa2 : Int) (qa3 : Int) (qa4 : Int) (qa5 : Int) (qa6 : Int) (i2153 : Int) (x2372 : ((List (Int × Int × Int × Int × Bool)) × (Int × Int × Int × (List Int) × (List Int) × (List Int)))) : (Int × Int) → Option ((Int × Int) ⊕ (Int ⊕ ((Int × Int) ⊕ (Int ⊕ (Int × Int × Int × Int × Int))))) := fun ((i2509, i2510) : (Int × Int)) => cond (decide (i2509 < (((x2372.1.length : Nat) : Int)))) ((getI x2372.1 i2509).bind fun x2542 => (fn_tick_Counter_Add_p0c1i_iiiiiii 1 qa0 i2510 qa2 qa3 qa4 qa5 qa6).bind fun i2554 => (fn_stmt_Check (x2542.1, x2542.2.1, x2542.2.2.1, x2542.2.2.2.1, x2542.2.2.2.2) xa.2.2.2.1 xa.2.1).bind fun i2560 => cond (!decide (i2560 = 0)) (some (.inr ((.inr (.inr ((.inr ((i2560, 6, i2153, i2509, i2554))))))))) (some (.inl ((IntKind.wrap .i64 (i2509 + 1), i2554))))) (some (.inr (.inl i2510)))
noncomputable def fn_valid_code_ap0_iiiiiii_l2 (xa : (Int × Int × (List (Int × Int)) × (List (List (Int × Bool))) × (List (Int × Bool)) × (List (Int × (List (Int × Int)) × (List (List (Int × Bool))) × (List (Int × Bool)))) × (List ((List (Int × Int × Int × Int × Bool)) × (Int × Int × Int × (List Int) × (List Int) × (List Int)))))) (qa0 : Int) (qa2 : Int) (qa3 : Int) (qa4 : Int) (qa5 : Int) (qa6 : Int) : (Int × Int) → Option ((Int × Int) ⊕ (Int ⊕ (Int × Int × Int × Int × Int))) := fun ((i2153, i2154) : (Int × Int)) => cond (decide (i2153 < (((xa.2.2.2.2.2.2.length : Nat) : Int)))) ((getI xa.2.2.2.2.2.2 i2153).bind fun x2372 => (loop (fn_valid_code_ap0_iiiiiii_l1 xa qa0 qa2 qa3 qa4 qa5 qa6 i2153 x2372) (0, i2154) : Option (Int ⊕ ((Int × Int) ⊕ (Int ⊕ (Int × Int × Int × Int × Int))))).bind fun o => match o with | .inr r => some r | .inl i2480 => (fn_tick_Counter_Add_p0c1i_iiiiiii 1 qa0 i2480 qa2 qa3 qa4 qa5 qa6).bind fun i2570 => (fn_term_Check (x2372.2.1, x2372.2.2.1, x2372.2.2.2.1, x2372.2.2.2.2.1, x2372.2.2.2.2.2.1, x2372.2.2.2.2.2.2) ((((xa.2.2.2.2.2.2.length : Nat) : Int), xa.2.1, xa.2.2.2.1, xa.2.2.2.2.1, xa.2.2.2.2.2.1))).bind fun i2576 => cond (!decide (i2576 = 0)) (some (.inr ((.inr ((i2576, 7, i2153, 0, i2570)))))) (some (.inl ((IntKind.wrap .i64 (i2153 + 1), i2570))))) (some (.inr (.inl i2154)))
noncomputable def fn_valid_code_ap0_iiiiiii (xa : (Int × Int × (List (Int × Int)) × (List (List (Int × Bool))) × (List (Int × Bool)) × (List (Int × (List (Int × Int)) × (List (List (Int × Bool))) × (List (Int × Bool)))) × (List ((List (Int × Int × Int × Int × Bool)) × (Int × Int × Int × (List Int) × (List Int) × (List Int)))))) (qa0 : Int) (qa1 : Int) (qa2 : Int) (qa3 : Int) (qa4 : Int) (qa5 : Int) (qa6 : Int) : Option (Int × Int × Int × Int × Int) :=
  (loop (fn_valid_code_ap0_iiiiiii_l2 xa qa0 qa2 qa3 qa4 qa5 qa6) (0, qa1) : Option (Int ⊕ (Int × Int × Int × Int × Int))).bind fun o => match o with | .inr r => some r | .inl i1938 => some ((0, 0, 0, 0, i1938))
set_option maxRecDepth 100000 in
set_option maxHeartbeats 4000000 in
theorem valid_code_ap0_iiiiiii_ok {K : Hp} {xa : (Int × Int × (List (Int × Int)) × (List (List (Int × Bool))) × (List (Int × Bool)) × (List (Int × (List (Int × Int)) × (List (List (Int × Bool))) × (List (Int × Bool)))) × (List ((List (Int × Int × Int × Int × Bool)) × (Int × Int × Int × (List Int) × (List Int) × (List Int)))))} {qa0 : Int} {qa1 : Int} {qa2 : Int} {qa3 : Int} {qa4 : Int} {qa5 : Int} {qa6 : Int} {pba : Nat} {adxa_2 : Option Addr} {cpxa_2 : Nat} {adxa_3 : Option Addr} {cpxa_3 : Nat} {adxa_4 : Option Addr} {cpxa_4 : Nat} {adxa_5 : Option Addr} {cpxa_5 : Nat} {adxa_6 : Option Addr} {cpxa_6 : Nat} (fxa_2 : Is K (.sl (.cons (.int .i64) (.one (.int .i64)))) [.slice adxa_2 xa.2.2.1.length cpxa_2] xa.2.2.1) (fxa_3 : Is K (.sl (.one (.sl (.cons (.int .i64) (.one .bool))))) [.slice adxa_3 xa.2.2.2.1.length cpxa_3] xa.2.2.2.1) (fxa_4 : Is K (.sl (.cons (.int .i64) (.one .bool))) [.slice adxa_4 xa.2.2.2.2.1.length cpxa_4] xa.2.2.2.2.1) (fxa_5 : Is K (.sl (.cons (.int .i64) (.cons (.sl (.cons (.int .i64) (.one (.int .i64)))) (.cons (.sl (.one (.sl (.cons (.int .i64) (.one .bool))))) (.one (.one (.sl (.cons (.int .i64) (.one .bool))))))))) [.slice adxa_5 xa.2.2.2.2.2.1.length cpxa_5] xa.2.2.2.2.2.1) (fxa_6 : Is K (.sl (.cons (.sl (.cons (.int .i64) (.cons (.int .i64) (.cons (.int .i64) (.cons (.int .i64) (.one .bool)))))) (.one (.cons (.int .i64) (.cons (.int .i64) (.cons (.int .i64) (.cons (.sl (.int .i64)) (.cons (.sl (.int .i64)) (.one (.sl (.int .i64))))))))))) [.slice adxa_6 xa.2.2.2.2.2.2.length cpxa_6] xa.2.2.2.2.2.2) {r : (Int × Int × Int × Int × Int)} (h : fn_valid_code_ap0_iiiiiii xa qa0 qa1 qa2 qa3 qa4 qa5 qa6 = some r) :
    Tr Try.prog 26 #[.agg #[ii xa.1, ii xa.2.1, .slice adxa_2 xa.2.2.1.length cpxa_2, .slice adxa_3 xa.2.2.2.1.length cpxa_3, .slice adxa_4 xa.2.2.2.2.1.length cpxa_4, .slice adxa_5 xa.2.2.2.2.2.1.length cpxa_5, .slice adxa_6 xa.2.2.2.2.2.2.length cpxa_6], .pointer (some ⟨pba, 0, none⟩)] K [Cl pba 38 [ii qa0, ii qa1, ii qa2, ii qa3, ii qa4, ii qa5, ii qa6]] (fun v K' L' => (∃ (i1290 : Int) (i1291 : Int) (i1292 : Int) (i1293 : Int) (i1294 : Int), (i1290, i1291, i1292, i1293, i1294) = r ∧ .agg #[ii i1290, ii i1291, ii i1292, ii i1293] = v ∧ L' = [Cl pba 38 [ii qa0, ii i1294, ii qa2, ii qa3, ii qa4, ii qa5, ii qa6]]) ∧ K = K') := by
 refine Tr.k <| Tr.of Try.func26 rfl Try.ntmps26 rfl fun E F => ?_
 unfold fn_valid_code_ap0_iiiiiii at h
 refine CJ.seq <| CJ.region <| jbx [ii xa.1, ii xa.2.1, .slice adxa_2 xa.2.2.1.length cpxa_2, .slice adxa_3 xa.2.2.2.1.length cpxa_3, .slice adxa_4 xa.2.2.2.2.1.length cpxa_4, .slice adxa_5 xa.2.2.2.2.2.1.length cpxa_5, .slice adxa_6 xa.2.2.2.2.2.2.length cpxa_6] rfl rfl fun b1295 => jal inf39 [ii 0, ii 0, ii 0, ii 0] rfl fun b1296 => J.nil <| CJ.seq <| CJ.region ?_
 refine jv _ (V.fad Try.underlying30 rfl nz28 rfl) <| jv (.slice adxa_6 xa.2.2.2.2.2.2.length cpxa_6) (V.ld rfl (Ld.sc sc28 (Rd.cl 1 rfl rfl))) <| jv (ii (((xa.2.2.2.2.2.2.length : Nat) : Int))) (V.len Try.underlying28 rfl) <| jv _ (V.fad Try.underlying30 rfl nz3 rfl) <| jv (ii xa.2.1) (V.ld rfl (Ld.sc sc3 (Rd.cl 1 rfl rfl))) <| jv _ (V.fad Try.underlying30 rfl nz23 rfl) <| jv (.slice adxa_3 xa.2.2.2.1.length cpxa_3) (V.ld rfl (Ld.sc sc23 (Rd.cl 1 rfl rfl))) ?_
 refine jv _ (V.fad Try.underlying30 rfl nz26 rfl) <| jv (.agg #[.slice adxa_4 xa.2.2.2.2.1.length cpxa_4]) (V.ld rfl (Ld.agg (cs := [.slice adxa_4 xa.2.2.2.2.1.length cpxa_4]) Try.underlying26 sz26 rfl (Rd.cls 1 4 rfl rfl))) <| jv _ (V.fad Try.underlying30 rfl nz27 rfl) <| jv (.slice adxa_5 xa.2.2.2.2.2.1.length cpxa_5) (V.ld rfl (Ld.sc sc27 (Rd.cl 1 rfl rfl))) <| jv (.agg #[ii (((xa.2.2.2.2.2.2.length : Nat) : Int)), ii xa.2.1, .slice adxa_3 xa.2.2.2.1.length cpxa_3, .slice adxa_4 xa.2.2.2.2.1.length cpxa_4, .slice adxa_5 xa.2.2.2.2.2.1.length cpxa_5]) (V.build inf74 places74 rfl rfl) <| jal inf74 [ii 0, ii 0, .slice none 0 0, .slice none 0 0, .slice none 0 0] rfl fun b1297 => js [ii (((xa.2.2.2.2.2.2.length : Nat) : Int)), ii xa.2.1, .slice adxa_3 xa.2.2.2.1.length cpxa_3, .slice adxa_4 xa.2.2.2.2.1.length cpxa_4, .slice adxa_5 xa.2.2.2.2.2.1.length cpxa_5] sz74 rfl rfl rfl rfl rfl rfl ?_
 refine J.nil <| CJ.seq <| CJ.seq <| CJ.region <| jv _ (V.fad Try.underlying30 rfl nz28 rfl) <| jv (.slice adxa_6 xa.2.2.2.2.2.2.length cpxa_6) (V.ld rfl (Ld.sc sc28 (Rd.cl 2 rfl rfl))) <| jv (ii (((xa.2.2.2.2.2.2.length : Nat) : Int))) (V.len Try.underlying28 rfl) ?_
 refine jm (ii 0) rfl <| J.nil ?_
 obtain ⟨o1939, ho1940, h⟩ := ob h
 refine CJ.joinN (o := o1939) (fun s ρ K' L' => ∃ (i1938 : Int), i1938 = s ∧ Fits [(4, .pointer (some ⟨b1296, 0, none⟩))] ρ ∧ K = K' ∧ L' = Cl pba 38 [ii qa0, ii i1938, ii qa2, ii qa3, ii qa4, ii qa5, ii qa6] :: Cl b1296 39 [ii 0, ii 0, ii 0, ii 0] :: F) ?_ ?_
 · refine CJ.block <| CJ.front 1 rfl <| CJ.front 2 rfl <| CJ.front 3 rfl <| CJ.loop (fun s ρ K' L' => ∃ (i2153 : Int) (i2154 : Int), (i2153, i2154) = s ∧ Fits [(1, .pointer (some ⟨pba, 0, none⟩)), (2, .pointer (some ⟨b1295, 0, none⟩)), (4, .pointer (some ⟨b1296, 0, none⟩)), (5, .pointer (some ⟨b1297, 0, none⟩)), (25, .slice adxa_6 xa.2.2.2.2.2.2.length cpxa_6), (26, ii (((xa.2.2.2.2.2.2.length : Nat) : Int))), (27, ii i2153)] ρ ∧ K = K' ∧ L' = Cl pba 38 [ii qa0, ii i2154, ii qa2, ii qa3, ii qa4, ii qa5, ii qa6] :: Cl b1295 30 [ii xa.1, ii xa.2.1, .slice adxa_2 xa.2.2.1.length cpxa_2, .slice adxa_3 xa.2.2.2.1.length cpxa_3, .slice adxa_4 xa.2.2.2.2.1.length cpxa_4, .slice adxa_5 xa.2.2.2.2.2.1.length cpxa_5, .slice adxa_6 xa.2.2.2.2.2.2.length cpxa_6] :: Cl b1296 39 [ii 0, ii 0, ii 0, ii 0] :: Cl b1297 74 [ii (((xa.2.2.2.2.2.2.length : Nat) : Int)), ii xa.2.1, .slice adxa_3 xa.2.2.2.1.length cpxa_3, .slice adxa_4 xa.2.2.2.2.1.length cpxa_4, .slice adxa_5 xa.2.2.2.2.2.1.length cpxa_5] :: F) ho1940 ⟨0, qa1, rfl, ⟨rfl, rfl, rfl, rfl, rfl, rfl, rfl, trivial⟩, rfl, rfl⟩ ?_
   rintro s ρ _ _ r2370 ⟨i2153, i2154, rfl, hf2368, rfl, rfl⟩ h2367
   obtain ⟨ρ, rfl⟩ := hf2368.ex
   refine CJ.seq <| CJ.region <| jv (.bool (decide (i2153 < (((xa.2.2.2.2.2.2.length : Nat) : Int))))) (V.lss rfl rfl) <| J.nil <| CJ.seq <| cc rfl h2367 (fun hc2371 h2367 => ?_) fun hc2371 h2367 => ?_
   · refine CJ.skip <| CJ.seq <| CJ.block <| CJ.seq <| CJ.region <| jm (ii i2153) rfl ?_
     obtain ⟨x2372, hx2373, h2367⟩ := ob h2367
     obtain ⟨p2374, p2375, p2376⟩ := getI_some hx2373
     obtain ⟨b2377, o2378, e2379, a2380⟩ := (fxa_6).at p2375
     refine jv _ (V.iad Try.underlying28 sz56 rfl e2379 rfl p2374 p2376) ?_
     obtain ⟨ad2381, cp2382, c2383, f2384⟩ := ((a2380).fst).sl
     obtain ⟨ad2385, cp2386, c2387, f2388⟩ := (((((((a2380).snd).one).snd).snd).snd).fst).sl
     obtain ⟨ad2389, cp2390, c2391, f2392⟩ := ((((((((a2380).snd).one).snd).snd).snd).snd).fst).sl
     obtain ⟨ad2393, cp2394, c2395, f2396⟩ := (((((((((a2380).snd).one).snd).snd).snd).snd).snd).one).sl
     refine jv (.agg #[.slice ad2381 x2372.1.length cp2382, ii x2372.2.1, ii x2372.2.2.1, ii x2372.2.2.2.1, .slice ad2385 x2372.2.2.2.2.1.length cp2386, .slice ad2389 x2372.2.2.2.2.2.1.length cp2390, .slice ad2393 x2372.2.2.2.2.2.2.length cp2394]) (V.ld rfl (Ld.aggK (cs := [.slice ad2381 x2372.1.length cp2382, ii x2372.2.1, ii x2372.2.2.1, ii x2372.2.2.2.1, .slice ad2385 x2372.2.2.2.2.1.length cp2386, .slice ad2389 x2372.2.2.2.2.2.1.length cp2390, .slice ad2393 x2372.2.2.2.2.2.2.length cp2394]) Try.underlying56 sz56 rfl ⟨c2383, ((((a2380).snd).one).fst).int, (((((a2380).snd).one).snd).fst).int, ((((((a2380).snd).one).snd).snd).fst).int, c2387, c2391, c2395, trivial⟩ (Hp.le_refl _))) <| jal inf56 [.slice none 0 0, ii 0, ii 0, ii 0, .slice none 0 0, .slice none 0 0, .slice none 0 0] rfl fun b2397 => ja (ii i2153) rfl <| js [.slice ad2381 x2372.1.length cp2382, ii x2372.2.1, ii x2372.2.2.1, ii x2372.2.2.2.1, .slice ad2385 x2372.2.2.2.2.1.length cp2386, .slice ad2389 x2372.2.2.2.2.2.1.length cp2390, .slice ad2393 x2372.2.2.2.2.2.2.length cp2394] sz56 rfl rfl rfl rfl rfl rfl <| J.nil <| CJ.seq <| CJ.seq ?_
     refine CJ.region <| jv _ (V.fad Try.underlying56 rfl nz51 rfl) <| jv (.slice ad2381 x2372.1.length cp2382) (V.ld rfl (Ld.sc sc51 (Rd.cl 0 rfl rfl))) <| jv (ii (((x2372.1.length : Nat) : Int))) (V.len Try.underlying51 rfl) <| jm (ii 0) rfl <| J.nil ?_
     obtain ⟨o2481, ho2482, h2367⟩ := ob h2367
     refine CJ.joinN (o := o2481) (fun s ρ K' L' => ∃ (i2480 : Int), i2480 = s ∧ Fits [(1, .pointer (some ⟨pba, 0, none⟩)), (2, .pointer (some ⟨b1295, 0, none⟩)), (4, .pointer (some ⟨b1296, 0, none⟩)), (5, .pointer (some ⟨b1297, 0, none⟩)), (6, ii i2153), (7, .pointer (some ⟨b2397, 0, none⟩)), (25, .slice adxa_6 xa.2.2.2.2.2.2.length cpxa_6), (26, ii (((xa.2.2.2.2.2.2.length : Nat) : Int))), (27, ii i2153)] ρ ∧ K = K' ∧ L' = Cl pba 38 [ii qa0, ii i2480, ii qa2, ii qa3, ii qa4, ii qa5, ii qa6] :: Cl b1295 30 [ii xa.1, ii xa.2.1, .slice adxa_2 xa.2.2.1.length cpxa_2, .slice adxa_3 xa.2.2.2.1.length cpxa_3, .slice adxa_4 xa.2.2.2.2.1.length cpxa_4, .slice adxa_5 xa.2.2.2.2.2.1.length cpxa_5, .slice adxa_6 xa.2.2.2.2.2.2.length cpxa_6] :: Cl b1296 39 [ii 0, ii 0, ii 0, ii 0] :: Cl b1297 74 [ii (((xa.2.2.2.2.2.2.length : Nat) : Int)), ii xa.2.1, .slice adxa_3 xa.2.2.2.1.length cpxa_3, .slice adxa_4 xa.2.2.2.2.1.length cpxa_4, .slice adxa_5 xa.2.2.2.2.2.1.length cpxa_5] :: Cl b2397 56 [.slice ad2381 x2372.1.length cp2382, ii x2372.2.1, ii x2372.2.2.1, ii x2372.2.2.2.1, .slice ad2385 x2372.2.2.2.2.1.length cp2386, .slice ad2389 x2372.2.2.2.2.2.1.length cp2390, .slice ad2393 x2372.2.2.2.2.2.2.length cp2394] :: F) ?_ ?_
     · refine CJ.block <| CJ.front 4 rfl <| CJ.front 4 rfl <| CJ.front 4 rfl <| CJ.front 4 rfl <| CJ.loop (fun s ρ K' L' => ∃ (i2509 : Int) (i2510 : Int), (i2509, i2510) = s ∧ Fits [(1, .pointer (some ⟨pba, 0, none⟩)), (2, .pointer (some ⟨b1295, 0, none⟩)), (4, .pointer (some ⟨b1296, 0, none⟩)), (5, .pointer (some ⟨b1297, 0, none⟩)), (6, ii i2153), (7, .pointer (some ⟨b2397, 0, none⟩)), (25, .slice adxa_6 xa.2.2.2.2.2.2.length cpxa_6), (26, ii (((xa.2.2.2.2.2.2.length : Nat) : Int))), (27, ii i2153), (33, .slice ad2381 x2372.1.length cp2382), (34, ii (((x2372.1.length : Nat) : Int))), (35, ii i2509)] ρ ∧ K = K' ∧ L' = Cl pba 38 [ii qa0, ii i2510, ii qa2, ii qa3, ii qa4, ii qa5, ii qa6] :: Cl b1295 30 [ii xa.1, ii xa.2.1, .slice adxa_2 xa.2.2.1.length cpxa_2, .slice adxa_3 xa.2.2.2.1.length cpxa_3, .slice adxa_4 xa.2.2.2.2.1.length cpxa_4, .slice adxa_5 xa.2.2.2.2.2.1.length cpxa_5, .slice adxa_6 xa.2.2.2.2.2.2.length cpxa_6] :: Cl b1296 39 [ii 0, ii 0, ii 0, ii 0] :: Cl b1297 74 [ii (((xa.2.2.2.2.2.2.length : Nat) : Int)), ii xa.2.1, .slice adxa_3 xa.2.2.2.1.length cpxa_3, .slice adxa_4 xa.2.2.2.2.1.length cpxa_4, .slice adxa_5 xa.2.2.2.2.2.1.length cpxa_5] :: Cl b2397 56 [.slice ad2381 x2372.1.length cp2382, ii x2372.2.1, ii x2372.2.2.1, ii x2372.2.2.2.1, .slice ad2385 x2372.2.2.2.2.1.length cp2386, .slice ad2389 x2372.2.2.2.2.2.1.length cp2390, .slice ad2393 x2372.2.2.2.2.2.2.length cp2394] :: F) ho2482 ⟨0, i2154, rfl, ⟨rfl, rfl, rfl, rfl, rfl, rfl, rfl, rfl, rfl, rfl, rfl, rfl, trivial⟩, rfl, rfl⟩ ?_
       rintro s ρ _ _ r2540 ⟨i2509, i2510, rfl, hf2538, rfl, rfl⟩ h2537
       obtain ⟨ρ, rfl⟩ := hf2538.ex
       refine CJ.seq <| CJ.region <| jv (.bool (decide (i2509 < (((x2372.1.length : Nat) : Int))))) (V.lss rfl rfl) <| J.nil <| CJ.seq <| cc rfl h2537 (fun hc2541 h2537 => ?_) fun hc2541 h2537 => ?_
       · refine CJ.skip <| CJ.seq <| CJ.block <| CJ.seq <| CJ.region <| jm (ii i2509) rfl ?_
         obtain ⟨x2542, hx2543, h2537⟩ := ob h2537
         obtain ⟨p2544, p2545, p2546⟩ := getI_some hx2543
         obtain ⟨b2547, o2548, e2549, a2550⟩ := (f2384).at p2545
         refine jv _ (V.iad Try.underlying51 sz76 rfl e2549 rfl p2544 p2546) <| jv (.agg #[ii x2542.1, ii x2542.2.1, ii x2542.2.2.1, ii x2542.2.2.2.1, .bool x2542.2.2.2.2]) (V.ld rfl (Ld.aggK (cs := [ii x2542.1, ii x2542.2.1, ii x2542.2.2.1, ii x2542.2.2.2.1, .bool x2542.2.2.2.2]) Try.underlying76 sz76 rfl ⟨((a2550).fst).int, (((a2550).snd).fst).int, ((((a2550).snd).snd).fst).int, (((((a2550).snd).snd).snd).fst).int, ((((((a2550).snd).snd).snd).snd).one).bool, trivial⟩ (Hp.le_refl _))) <| jal inf76 [ii 0, ii 0, ii 0, ii 0, .bool false] rfl fun b2551 => ja (ii i2509) rfl <| js [ii x2542.1, ii x2542.2.1, ii x2542.2.2.1, ii x2542.2.2.2.1, .bool x2542.2.2.2.2] sz76 rfl rfl rfl rfl rfl rfl <| J.nil <| CJ.seq ?_
         refine CJ.region <| jm _ rfl ?_
         obtain ⟨r2552, hr2553, h2537⟩ := ob h2537
         refine J.front 1 rfl <| J.op rfl (A.call (L1 := [Cl pba 38 [ii qa0, ii i2510, ii qa2, ii qa3, ii qa4, ii qa5, ii qa6]]) Try.call19 rfl (tick_Counter_Add_p0c1i_iiiiiii_ok hr2553) rfl rfl) ?_
         rintro _ _ _ ⟨v2555, _, rfl, ⟨⟨i2554, rfl, rfl, rfl⟩, rfl⟩, _, rfl⟩
         refine J.nil <| CJ.seq <| CJ.region <| jv (.agg #[ii x2542.1, ii x2542.2.1, ii x2542.2.2.1, ii x2542.2.2.2.1, .bool x2542.2.2.2.2]) (V.ld rfl (Ld.agg (cs := [ii x2542.1, ii x2542.2.1, ii x2542.2.2.1, ii x2542.2.2.2.1, .bool x2542.2.2.2.2]) Try.underlying76 sz76 rfl (Rd.cls 1 0 rfl rfl))) <| jv _ (V.fad Try.underlying30 rfl nz23 rfl) <| jv (.slice adxa_3 xa.2.2.2.1.length cpxa_3) (V.ld rfl (Ld.sc sc23 (Rd.cl 2 rfl rfl))) <| jv _ (V.fad Try.underlying30 rfl nz3 rfl) ?_
         refine jv (ii xa.2.1) (V.ld rfl (Ld.sc sc3 (Rd.cl 2 rfl rfl))) ?_
         obtain ⟨r2558, hr2559, h2537⟩ := ob h2537
         refine J.op rfl (A.call (L1 := []) Try.call36 rfl (stmt_Check_ok fxa_3 hr2559) rfl rfl) ?_
         rintro _ _ _ ⟨v2561, _, rfl, ⟨⟨i2560, rfl, rfl, rfl⟩, rfl⟩, _, rfl⟩
         refine ja (ii i2560) rfl <| J.nil <| CJ.seq <| CJ.region <| jm (ii i2560) rfl <| jv (.bool (!decide (i2560 = 0))) (V.neq rfl rfl) <| J.nil ?_
         refine cc rfl h2537 (fun hc2564 h2537 => ?_) fun hc2564 h2537 => ?_
         · refine CJ.seq <| CJ.region <| jm (ii i2560) rfl <| jm (ii i2153) rfl <| jm (ii i2509) rfl <| jv (.agg #[ii i2560, ii 6, ii i2153, ii i2509]) (V.build inf39 places39 rfl rfl) <| J.front 3 rfl ?_
           refine js [ii i2560, ii 6, ii i2153, ii i2509] sz39 rfl rfl rfl rfl rfl rfl <| J.nil <| CJ.ret ?_
           obtain rfl := si h2537
           refine ⟨nofun, fun e => ?_⟩
           subst e
           refine .inr ⟨nofun, ?_⟩
           obtain rfl := si h2367
           refine ⟨nofun, fun e => ?_⟩
           subst e
           refine .inr ⟨nofun, ?_⟩
           obtain rfl := si h
           exact ⟨_, _, Res.one rfl ⟨_, _, rfl, Ld.agg (cs := [ii i2560, ii 6, ii i2153, ii i2509]) Try.underlying39 sz39 rfl (Rd.cls 0 0 rfl rfl)⟩, ⟨i2560, 6, i2153, i2509, i2554, rfl, rfl, rfl⟩, (Hp.le_refl _), fun w hs => (Sep.dropAt 1 rfl (Sep.dropAt 1 rfl (Sep.dropAt 1 rfl (Sep.dropAt 1 rfl (Sep.dropAt 0 rfl hs)))))⟩
         refine CJ.skip <| CJ.region <| jv (ii (IntKind.wrap .i64 (i2509 + 1))) (V.add rfl rfl) <| jm (ii (IntKind.wrap .i64 (i2509 + 1))) rfl <| J.dropAt 1 rfl <| J.nil ?_
         obtain rfl := si h2537
         exact ⟨rfl, ⟨IntKind.wrap .i64 (i2509 + 1), i2554, rfl, ⟨rfl, rfl, rfl, rfl, rfl, rfl, rfl, rfl, rfl, rfl, rfl, rfl, trivial⟩, rfl, rfl⟩⟩
       refine CJ.exit ?_
       obtain rfl := si h2537
       refine ⟨nofun, fun e => ?_⟩
       subst e
       exact .inl ⟨rfl, _, rfl, ⟨i2510, rfl, ⟨rfl, rfl, rfl, rfl, rfl, rfl, rfl, rfl, rfl, trivial⟩, rfl, rfl⟩⟩
     rintro s ρ _ _ ho2565 ⟨i2480, rfl, hf2566, rfl, rfl⟩
     subst ho2565
     obtain ⟨ρ, rfl⟩ := hf2566.ex
     refine PJ.done <| CJ.seq <| CJ.region <| jm _ rfl ?_
     obtain ⟨r2568, hr2569, h2367⟩ := ob h2367
     refine J.op rfl (A.call (L1 := [Cl pba 38 [ii qa0, ii i2480, ii qa2, ii qa3, ii qa4, ii qa5, ii qa6]]) Try.call19 rfl (tick_Counter_Add_p0c1i_iiiiiii_ok hr2569) rfl rfl) ?_
     rintro _ _ _ ⟨v2571, _, rfl, ⟨⟨i2570, rfl, rfl, rfl⟩, rfl⟩, _, rfl⟩
     refine J.nil <| CJ.seq <| CJ.region <| jv _ (V.fad Try.underlying56 rfl nz54 rfl) <| jv (.agg #[ii x2372.2.1, ii x2372.2.2.1, ii x2372.2.2.2.1, .slice ad2385 x2372.2.2.2.2.1.length cp2386, .slice ad2389 x2372.2.2.2.2.2.1.length cp2390, .slice ad2393 x2372.2.2.2.2.2.2.length cp2394]) (V.ld rfl (Ld.agg (cs := [ii x2372.2.1, ii x2372.2.2.1, ii x2372.2.2.2.1, .slice ad2385 x2372.2.2.2.2.1.length cp2386, .slice ad2389 x2372.2.2.2.2.2.1.length cp2390, .slice ad2393 x2372.2.2.2.2.2.2.length cp2394]) Try.underlying54 sz54 rfl (Rd.cls 4 1 rfl rfl))) <| jv (.agg #[ii (((xa.2.2.2.2.2.2.length : Nat) : Int)), ii xa.2.1, .slice adxa_3 xa.2.2.2.1.length cpxa_3, .slice adxa_4 xa.2.2.2.2.1.length cpxa_4, .slice adxa_5 xa.2.2.2.2.2.1.length cpxa_5]) (V.ld rfl (Ld.agg (cs := [ii (((xa.2.2.2.2.2.2.length : Nat) : Int)), ii xa.2.1, .slice adxa_3 xa.2.2.2.1.length cpxa_3, .slice adxa_4 xa.2.2.2.2.1.length cpxa_4, .slice adxa_5 xa.2.2.2.2.2.1.length cpxa_5]) Try.underlying74 sz74 rfl (Rd.cls 3 0 rfl rfl))) ?_
     obtain ⟨r2574, hr2575, h2367⟩ := ob h2367
     refine J.op rfl (A.call (L1 := []) Try.call37 rfl (term_Check_ok f2388 f2392 f2396 fxa_3 fxa_4 fxa_5 hr2575) rfl rfl) ?_
     rintro _ _ _ ⟨v2577, _, rfl, ⟨⟨i2576, rfl, rfl, rfl⟩, rfl⟩, _, rfl⟩
     refine ja (ii i2576) rfl <| J.nil <| CJ.seq <| CJ.region <| jm (ii i2576) rfl <| jv (.bool (!decide (i2576 = 0))) (V.neq rfl rfl) <| J.nil ?_
     refine cc rfl h2367 (fun hc2580 h2367 => ?_) fun hc2580 h2367 => ?_
     · refine CJ.seq <| CJ.region <| jm (ii i2576) rfl <| jm (ii i2153) rfl <| jv (.agg #[ii i2576, ii 7, ii i2153, ii 0]) (V.build inf39 places39 rfl rfl) <| J.front 2 rfl <| js [ii i2576, ii 7, ii i2153, ii 0] sz39 rfl rfl rfl rfl rfl rfl ?_
       refine J.nil <| CJ.ret ?_
       obtain rfl := si h2367
       refine ⟨nofun, fun e => ?_⟩
       subst e
       refine .inr ⟨nofun, ?_⟩
       obtain rfl := si h
       exact ⟨_, _, Res.one rfl ⟨_, _, rfl, Ld.agg (cs := [ii i2576, ii 7, ii i2153, ii 0]) Try.underlying39 sz39 rfl (Rd.cls 0 0 rfl rfl)⟩, ⟨i2576, 7, i2153, 0, i2570, rfl, rfl, rfl⟩, (Hp.le_refl _), fun w hs => (Sep.dropAt 1 rfl (Sep.dropAt 1 rfl (Sep.dropAt 1 rfl (Sep.dropAt 0 rfl hs))))⟩
     refine CJ.skip <| CJ.region <| jv (ii (IntKind.wrap .i64 (i2153 + 1))) (V.add rfl rfl) <| jm (ii (IntKind.wrap .i64 (i2153 + 1))) rfl <| J.dropAt 4 rfl <| J.nil ?_
     obtain rfl := si h2367
     exact ⟨rfl, ⟨IntKind.wrap .i64 (i2153 + 1), i2570, rfl, ⟨rfl, rfl, rfl, rfl, rfl, rfl, rfl, trivial⟩, rfl, rfl⟩⟩
   refine CJ.dropAt 1 rfl <| CJ.dropAt 2 rfl <| CJ.exit ?_
   obtain rfl := si h2367
   refine ⟨nofun, fun e => ?_⟩
   subst e
   exact .inl ⟨rfl, _, rfl, ⟨i2154, rfl, ⟨rfl, trivial⟩, rfl, rfl⟩⟩
 rintro s ρ _ _ ho2581 ⟨i1938, rfl, hf2582, rfl, rfl⟩
 subst ho2581
 obtain ⟨ρ, rfl⟩ := hf2582.ex
 refine PJ.done <| CJ.seq <| CJ.region <| jv (.agg #[ii 0, ii 0, ii 0, ii 0]) (V.build inf39 places39 rfl rfl) <| J.front 1 rfl <| js [ii 0, ii 0, ii 0, ii 0] sz39 rfl rfl rfl rfl rfl rfl <| J.nil ?_
 refine CJ.ret ?_
 obtain rfl := si h
 exact ⟨_, _, Res.one rfl ⟨_, _, rfl, Ld.agg (cs := [ii 0, ii 0, ii 0, ii 0]) Try.underlying39 sz39 rfl (Rd.cls 0 0 rfl rfl)⟩, ⟨0, 0, 0, 0, i1938, rfl, rfl, rfl⟩, (Hp.le_refl _), fun w hs => (Sep.dropAt 0 rfl hs)⟩

noncomputable def fn_valid_Check_ap0_iiiiiii (xa : (Int × Int × (List (Int × Int)) × (List (List (Int × Bool))) × (List (Int × Bool)) × (List (Int × (List (Int × Int)) × (List (List (Int × Bool))) × (List (Int × Bool)))) × (List ((List (Int × Int × Int × Int × Bool)) × (Int × Int × Int × (List Int) × (List Int) × (List Int)))))) (qa0 : Int) (qa1 : Int) (qa2 : Int) (qa3 : Int) (qa4 : Int) (qa5 : Int) (qa6 : Int) : Option (Int × Int × Int × Int × Int) :=
  (fn_tick_Counter_Add_p0c1i_iiiiiii 1 qa0 qa1 qa2 qa3 qa4 qa5 qa6).bind fun i101 => (fn_valid_head_ap0_iiiiiii (xa.1, xa.2.1, xa.2.2.1, xa.2.2.2.1, xa.2.2.2.2.1, xa.2.2.2.2.2.1, xa.2.2.2.2.2.2) qa0 i101 qa2 qa3 qa4 qa5 qa6).bind fun (i108, i109, i110, i111) => cond (!decide (i108 = 0)) (some ((i108, i109, i110, i111, i101))) ((fn_valid_bounds_ap0_iiiiiii (xa.1, xa.2.1, xa.2.2.1, xa.2.2.2.1, xa.2.2.2.2.1, xa.2.2.2.2.2.1, xa.2.2.2.2.2.2) qa0 i101 qa2 qa3 qa4 qa5 qa6).bind fun (i119, i120, i121, i122, i123) => cond (!decide (i119 = 0)) (some ((i119, i120, i121, i122, i123))) ((fn_valid_locals_ap0_iiiiiii (xa.1, xa.2.1, xa.2.2.1, xa.2.2.2.1, xa.2.2.2.2.1, xa.2.2.2.2.2.1, xa.2.2.2.2.2.2) qa0 i123 qa2 qa3 qa4 qa5 qa6).bind fun (i131, i132, i133, i134, i135) => cond (!decide (i131 = 0)) (some ((i131, i132, i133, i134, i135))) ((fn_valid_ret_ap0_iiiiiii (xa.1, xa.2.1, xa.2.2.1, xa.2.2.2.1, xa.2.2.2.2.1, xa.2.2.2.2.2.1, xa.2.2.2.2.2.2) qa0 i135 qa2 qa3 qa4 qa5 qa6).bind fun (i143, i144, i145, i146) => cond (!decide (i143 = 0)) (some ((i143, i144, i145, i146, i135))) ((fn_valid_sigs_ap0_iiiiiii (xa.1, xa.2.1, xa.2.2.1, xa.2.2.2.1, xa.2.2.2.2.1, xa.2.2.2.2.2.1, xa.2.2.2.2.2.2) qa0 i135 qa2 qa3 qa4 qa5 qa6).bind fun (i154, i155, i156, i157, i158) => cond (!decide (i154 = 0)) (some ((i154, i155, i156, i157, i158))) ((fn_valid_blocks_ap0_iiiiiii (xa.1, xa.2.1, xa.2.2.1, xa.2.2.2.1, xa.2.2.2.2.1, xa.2.2.2.2.2.1, xa.2.2.2.2.2.2) qa0 i158 qa2 qa3 qa4 qa5 qa6).bind fun (i166, i167, i168, i169, i170) => cond (!decide (i166 = 0)) (some ((i166, i167, i168, i169, i170))) ((fn_valid_code_ap0_iiiiiii (xa.1, xa.2.1, xa.2.2.1, xa.2.2.2.1, xa.2.2.2.2.1, xa.2.2.2.2.2.1, xa.2.2.2.2.2.2) qa0 i170 qa2 qa3 qa4 qa5 qa6).bind fun (i178, i179, i180, i181, i182) => cond (!decide (i178 = 0)) (some ((i178, i179, i180, i181, i182))) (some ((0, 0, 0, 0, i182)))))))))
set_option maxRecDepth 100000 in
set_option maxHeartbeats 4000000 in
theorem valid_Check_ap0_iiiiiii_ok {K : Hp} {xa : (Int × Int × (List (Int × Int)) × (List (List (Int × Bool))) × (List (Int × Bool)) × (List (Int × (List (Int × Int)) × (List (List (Int × Bool))) × (List (Int × Bool)))) × (List ((List (Int × Int × Int × Int × Bool)) × (Int × Int × Int × (List Int) × (List Int) × (List Int)))))} {qa0 : Int} {qa1 : Int} {qa2 : Int} {qa3 : Int} {qa4 : Int} {qa5 : Int} {qa6 : Int} {pba : Nat} {adxa_2 : Option Addr} {cpxa_2 : Nat} {adxa_3 : Option Addr} {cpxa_3 : Nat} {adxa_4 : Option Addr} {cpxa_4 : Nat} {adxa_5 : Option Addr} {cpxa_5 : Nat} {adxa_6 : Option Addr} {cpxa_6 : Nat} (fxa_2 : Is K (.sl (.cons (.int .i64) (.one (.int .i64)))) [.slice adxa_2 xa.2.2.1.length cpxa_2] xa.2.2.1) (fxa_3 : Is K (.sl (.one (.sl (.cons (.int .i64) (.one .bool))))) [.slice adxa_3 xa.2.2.2.1.length cpxa_3] xa.2.2.2.1) (fxa_4 : Is K (.sl (.cons (.int .i64) (.one .bool))) [.slice adxa_4 xa.2.2.2.2.1.length cpxa_4] xa.2.2.2.2.1) (fxa_5 : Is K (.sl (.cons (.int .i64) (.cons (.sl (.cons (.int .i64) (.one (.int .i64)))) (.cons (.sl (.one (.sl (.cons (.int .i64) (.one .bool))))) (.one (.one (.sl (.cons (.int .i64) (.one .bool))))))))) [.slice adxa_5 xa.2.2.2.2.2.1.length cpxa_5] xa.2.2.2.2.2.1) (fxa_6 : Is K (.sl (.cons (.sl (.cons (.int .i64) (.cons (.int .i64) (.cons (.int .i64) (.cons (.int .i64) (.one .bool)))))) (.one (.cons (.int .i64) (.cons (.int .i64) (.cons (.int .i64) (.cons (.sl (.int .i64)) (.cons (.sl (.int .i64)) (.one (.sl (.int .i64))))))))))) [.slice adxa_6 xa.2.2.2.2.2.2.length cpxa_6] xa.2.2.2.2.2.2) {r : (Int × Int × Int × Int × Int)} (h : fn_valid_Check_ap0_iiiiiii xa qa0 qa1 qa2 qa3 qa4 qa5 qa6 = some r) :
    Tr Try.prog 8 #[.agg #[ii xa.1, ii xa.2.1, .slice adxa_2 xa.2.2.1.length cpxa_2, .slice adxa_3 xa.2.2.2.1.length cpxa_3, .slice adxa_4 xa.2.2.2.2.1.length cpxa_4, .slice adxa_5 xa.2.2.2.2.2.1.length cpxa_5, .slice adxa_6 xa.2.2.2.2.2.2.length cpxa_6], .pointer (some ⟨pba, 0, none⟩)] K [Cl pba 38 [ii qa0, ii qa1, ii qa2, ii qa3, ii qa4, ii qa5, ii qa6]] (fun v K' L' => (∃ (i92 : Int) (i93 : Int) (i94 : Int) (i95 : Int) (i96 : Int), (i92, i93, i94, i95, i96) = r ∧ .agg #[ii i92, ii i93, ii i94, ii i95] = v ∧ L' = [Cl pba 38 [ii qa0, ii i96, ii qa2, ii qa3, ii qa4, ii qa5, ii qa6]]) ∧ K = K') := by
 refine Tr.k <| Tr.of Try.func8 rfl Try.ntmps8 rfl fun E F => ?_
 unfold fn_valid_Check_ap0_iiiiiii at h
 refine CJ.seq <| CJ.region <| jbx [ii xa.1, ii xa.2.1, .slice adxa_2 xa.2.2.1.length cpxa_2, .slice adxa_3 xa.2.2.2.1.length cpxa_3, .slice adxa_4 xa.2.2.2.2.1.length cpxa_4, .slice adxa_5 xa.2.2.2.2.2.1.length cpxa_5, .slice adxa_6 xa.2.2.2.2.2.2.length cpxa_6] rfl rfl fun b97 => jal inf39 [ii 0, ii 0, ii 0, ii 0] rfl fun b98 => J.nil <| CJ.seq <| CJ.region ?_
 refine jm _ rfl ?_
 obtain ⟨r99, hr100, h⟩ := ob h
 refine J.front 2 rfl <| J.op rfl (A.call (L1 := [Cl pba 38 [ii qa0, ii qa1, ii qa2, ii qa3, ii qa4, ii qa5, ii qa6]]) Try.call19 rfl (tick_Counter_Add_p0c1i_iiiiiii_ok hr100) rfl rfl) ?_
 rintro _ _ _ ⟨v102, _, rfl, ⟨⟨i101, rfl, rfl, rfl⟩, rfl⟩, _, rfl⟩
 refine J.nil <| CJ.seq <| CJ.region ?_
 refine J.op rfl (A.litC (cs := [.func (.func 20) #[] #[], .func (.func 21) #[] #[], .func (.func 22) #[] #[], .func (.func 23) #[] #[], .func (.func 24) #[] #[], .func (.func 25) #[] #[], .func (.func 26) #[] #[]]) Try.underlying64 inf40 (by decide) rfl rfl (by decide)) ?_
 rintro _ _ _ ⟨b105, rfl, rfl, rfl⟩
 refine ja (.slice (some ⟨b105, 0, none⟩) 7 7) rfl <| J.nil <| CJ.seq <| CJ.seq <| CJ.region <| jm (.slice (some ⟨b105, 0, none⟩) 7 7) rfl <| jv (ii 7) (Val.eq (V.len Try.underlying64 rfl) rfl) ?_
 refine jm (ii 0) rfl <| J.nil <| CJ.block <| CJ.unroll 64 <| RJ.next <| CJ.seq <| CJ.region ?_
 refine jv (.bool true) (Val.eq (V.lss rfl rfl) rfl) <| J.nil <| CJ.seq <| CJ.condK (b := true) rfl rfl <| CJ.skip <| CJ.seq <| CJ.block ?_
 refine CJ.seq <| CJ.region <| jv _ (Val.eq (V.iad Try.underlying64 sz40 rfl rfl rfl (by decide) (by decide)) rfl) <| jv (.func (.func 20) #[] #[]) (V.ld rfl (Ld.sc sc40 (Rd.cl 0 rfl rfl))) <| ja (.func (.func 20) #[] #[]) rfl <| J.nil <| CJ.seq ?_
 refine CJ.region <| jm (.func (.func 20) #[] #[]) rfl <| jv (.agg #[ii xa.1, ii xa.2.1, .slice adxa_2 xa.2.2.1.length cpxa_2, .slice adxa_3 xa.2.2.2.1.length cpxa_3, .slice adxa_4 xa.2.2.2.2.1.length cpxa_4, .slice adxa_5 xa.2.2.2.2.2.1.length cpxa_5, .slice adxa_6 xa.2.2.2.2.2.2.length cpxa_6]) (V.ld rfl (Ld.agg (cs := [ii xa.1, ii xa.2.1, .slice adxa_2 xa.2.2.1.length cpxa_2, .slice adxa_3 xa.2.2.2.1.length cpxa_3, .slice adxa_4 xa.2.2.2.2.1.length cpxa_4, .slice adxa_5 xa.2.2.2.2.2.1.length cpxa_5, .slice adxa_6 xa.2.2.2.2.2.2.length cpxa_6]) Try.underlying30 sz30 rfl (Rd.cls 3 0 rfl rfl))) <| jm _ rfl ?_
 obtain ⟨r106, hr107, h⟩ := ob h
 refine J.front 1 rfl <| J.op rfl (A.call (L1 := [Cl pba 38 [ii qa0, ii i101, ii qa2, ii qa3, ii qa4, ii qa5, ii qa6]]) Try.call20 rfl (valid_head_ap0_iiiiiii_ok fxa_2 fxa_3 fxa_4 fxa_5 fxa_6 hr107) rfl rfl) ?_
 rintro _ _ _ ⟨v112, _, rfl, ⟨⟨i108, i109, i110, i111, rfl, rfl, rfl⟩, rfl⟩, _, rfl⟩
 refine jal inf39 [ii 0, ii 0, ii 0, ii 0] rfl fun b115 => js [ii i108, ii i109, ii i110, ii i111] sz39 rfl rfl rfl rfl rfl rfl <| J.nil <| CJ.seq <| CJ.region <| jv _ (V.fad Try.underlying39 rfl nz31 rfl) <| jv (ii i108) (V.ld rfl (Ld.sc sc31 (Rd.cl 0 rfl rfl))) ?_
 refine jv (.bool (!decide (i108 = 0))) (V.neq rfl rfl) <| J.nil <| cc rfl h (fun hc116 h => ?_) fun hc116 h => ?_
 · refine CJ.seq <| CJ.region <| jv (.agg #[ii i108, ii i109, ii i110, ii i111]) (V.ld rfl (Ld.agg (cs := [ii i108, ii i109, ii i110, ii i111]) Try.underlying39 sz39 rfl (Rd.cls 0 0 rfl rfl))) <| J.front 3 rfl <| js [ii i108, ii i109, ii i110, ii i111] sz39 rfl rfl rfl rfl rfl rfl <| J.nil <| CJ.ret ?_
   obtain rfl := si h
   exact ⟨_, _, Res.one rfl ⟨_, _, rfl, Ld.agg (cs := [ii i108, ii i109, ii i110, ii i111]) Try.underlying39 sz39 rfl (Rd.cls 0 0 rfl rfl)⟩, ⟨i108, i109, i110, i111, i101, rfl, rfl, rfl⟩, (Hp.le_refl _), fun w hs => (Sep.dropAt 1 rfl (Sep.dropAt 1 rfl (Sep.dropAt 0 rfl (Sep.dropAt 0 rfl hs))))⟩
 refine CJ.skip <| CJ.region <| jv (ii 1) (Val.eq (V.add rfl rfl) rfl) <| jm (ii 1) rfl <| J.nil <| RJ.next <| CJ.seq ?_
 refine CJ.region <| jv (.bool true) (Val.eq (V.lss rfl rfl) rfl) <| J.nil <| CJ.seq <| CJ.condK (b := true) rfl rfl <| CJ.skip <| CJ.seq ?_
 refine CJ.block <| CJ.seq <| CJ.region <| jv _ (Val.eq (V.iad Try.underlying64 sz40 rfl rfl rfl (by decide) (by decide)) rfl) <| jv (.func (.func 21) #[] #[]) (V.ld rfl (Ld.sc sc40 (Rd.cl 2 rfl rfl))) <| ja (.func (.func 21) #[] #[]) rfl <| J.nil ?_
 refine CJ.seq <| CJ.region <| jm (.func (.func 21) #[] #[]) rfl <| jv (.agg #[ii xa.1, ii xa.2.1, .slice adxa_2 xa.2.2.1.length cpxa_2, .slice adxa_3 xa.2.2.2.1.length cpxa_3, .slice adxa_4 xa.2.2.2.2.1.length cpxa_4, .slice adxa_5 xa.2.2.2.2.2.1.length cpxa_5, .slice adxa_6 xa.2.2.2.2.2.2.length cpxa_6]) (V.ld rfl (Ld.agg (cs := [ii xa.1, ii xa.2.1, .slice adxa_2 xa.2.2.1.length cpxa_2, .slice adxa_3 xa.2.2.2.1.length cpxa_3, .slice adxa_4 xa.2.2.2.2.1.length cpxa_4, .slice adxa_5 xa.2.2.2.2.2.1.length cpxa_5, .slice adxa_6 xa.2.2.2.2.2.2.length cpxa_6]) Try.underlying30 sz30 rfl (Rd.cls 4 0 rfl rfl))) <| jm _ rfl ?_
 obtain ⟨r117, hr118, h⟩ := ob h
 refine J.front 1 rfl <| J.op rfl (A.call (L1 := [Cl pba 38 [ii qa0, ii i101, ii qa2, ii qa3, ii qa4, ii qa5, ii qa6]]) Try.call21 rfl (valid_bounds_ap0_iiiiiii_ok fxa_2 fxa_3 fxa_4 fxa_5 fxa_6 hr118) rfl rfl) ?_
 rintro _ _ _ ⟨v124, _, rfl, ⟨⟨i119, i120, i121, i122, i123, rfl, rfl, rfl⟩, rfl⟩, _, rfl⟩
 refine jal inf39 [ii 0, ii 0, ii 0, ii 0] rfl fun b127 => js [ii i119, ii i120, ii i121, ii i122] sz39 rfl rfl rfl rfl rfl rfl <| J.nil <| CJ.seq <| CJ.region <| jv _ (V.fad Try.underlying39 rfl nz31 rfl) <| jv (ii i119) (V.ld rfl (Ld.sc sc31 (Rd.cl 0 rfl rfl))) ?_
 refine jv (.bool (!decide (i119 = 0))) (V.neq rfl rfl) <| J.nil <| cc rfl h (fun hc128 h => ?_) fun hc128 h => ?_
 · refine CJ.seq <| CJ.region <| jv (.agg #[ii i119, ii i120, ii i121, ii i122]) (V.ld rfl (Ld.agg (cs := [ii i119, ii i120, ii i121, ii i122]) Try.underlying39 sz39 rfl (Rd.cls 0 0 rfl rfl))) <| J.front 4 rfl <| js [ii i119, ii i120, ii i121, ii i122] sz39 rfl rfl rfl rfl rfl rfl <| J.nil <| CJ.ret ?_
   obtain rfl := si h
   exact ⟨_, _, Res.one rfl ⟨_, _, rfl, Ld.agg (cs := [ii i119, ii i120, ii i121, ii i122]) Try.underlying39 sz39 rfl (Rd.cls 0 0 rfl rfl)⟩, ⟨i119, i120, i121, i122, i123, rfl, rfl, rfl⟩, (Hp.le_refl _), fun w hs => (Sep.dropAt 1 rfl (Sep.dropAt 1 rfl (Sep.dropAt 1 rfl (Sep.dropAt 0 rfl (Sep.dropAt 0 rfl hs)))))⟩
 refine CJ.skip <| CJ.region <| jv (ii 2) (Val.eq (V.add rfl rfl) rfl) <| jm (ii 2) rfl <| J.nil <| RJ.next <| CJ.seq ?_
 refine CJ.region <| jv (.bool true) (Val.eq (V.lss rfl rfl) rfl) <| J.nil <| CJ.seq <| CJ.condK (b := true) rfl rfl <| CJ.skip <| CJ.seq ?_
 refine CJ.block <| CJ.seq <| CJ.region <| jv _ (Val.eq (V.iad Try.underlying64 sz40 rfl rfl rfl (by decide) (by decide)) rfl) <| jv (.func (.func 22) #[] #[]) (V.ld rfl (Ld.sc sc40 (Rd.cl 3 rfl rfl))) <| ja (.func (.func 22) #[] #[]) rfl <| J.nil ?_
 refine CJ.seq <| CJ.region <| jm (.func (.func 22) #[] #[]) rfl <| jv (.agg #[ii xa.1, ii xa.2.1, .slice adxa_2 xa.2.2.1.length cpxa_2, .slice adxa_3 xa.2.2.2.1.length cpxa_3, .slice adxa_4 xa.2.2.2.2.1.length cpxa_4, .slice adxa_5 xa.2.2.2.2.2.1.length cpxa_5, .slice adxa_6 xa.2.2.2.2.2.2.length cpxa_6]) (V.ld rfl (Ld.agg (cs := [ii xa.1, ii xa.2.1, .slice adxa_2 xa.2.2.1.length cpxa_2, .slice adxa_3 xa.2.2.2.1.length cpxa_3, .slice adxa_4 xa.2.2.2.2.1.length cpxa_4, .slice adxa_5 xa.2.2.2.2.2.1.length cpxa_5, .slice adxa_6 xa.2.2.2.2.2.2.length cpxa_6]) Try.underlying30 sz30 rfl (Rd.cls 5 0 rfl rfl))) <| jm _ rfl ?_
 obtain ⟨r129, hr130, h⟩ := ob h
 refine J.front 1 rfl <| J.op rfl (A.call (L1 := [Cl pba 38 [ii qa0, ii i123, ii qa2, ii qa3, ii qa4, ii qa5, ii qa6]]) Try.call22 rfl (valid_locals_ap0_iiiiiii_ok fxa_2 fxa_3 fxa_4 fxa_5 fxa_6 hr130) rfl rfl) ?_
 rintro _ _ _ ⟨v136, _, rfl, ⟨⟨i131, i132, i133, i134, i135, rfl, rfl, rfl⟩, rfl⟩, _, rfl⟩
 refine jal inf39 [ii 0, ii 0, ii 0, ii 0] rfl fun b139 => js [ii i131, ii i132, ii i133, ii i134] sz39 rfl rfl rfl rfl rfl rfl <| J.nil <| CJ.seq <| CJ.region <| jv _ (V.fad Try.underlying39 rfl nz31 rfl) <| jv (ii i131) (V.ld rfl (Ld.sc sc31 (Rd.cl 0 rfl rfl))) ?_
 refine jv (.bool (!decide (i131 = 0))) (V.neq rfl rfl) <| J.nil <| cc rfl h (fun hc140 h => ?_) fun hc140 h => ?_
 · refine CJ.seq <| CJ.region <| jv (.agg #[ii i131, ii i132, ii i133, ii i134]) (V.ld rfl (Ld.agg (cs := [ii i131, ii i132, ii i133, ii i134]) Try.underlying39 sz39 rfl (Rd.cls 0 0 rfl rfl))) <| J.front 5 rfl <| js [ii i131, ii i132, ii i133, ii i134] sz39 rfl rfl rfl rfl rfl rfl <| J.nil <| CJ.ret ?_
   obtain rfl := si h
   exact ⟨_, _, Res.one rfl ⟨_, _, rfl, Ld.agg (cs := [ii i131, ii i132, ii i133, ii i134]) Try.underlying39 sz39 rfl (Rd.cls 0 0 rfl rfl)⟩, ⟨i131, i132, i133, i134, i135, rfl, rfl, rfl⟩, (Hp.le_refl _), fun w hs => (Sep.dropAt 1 rfl (Sep.dropAt 1 rfl (Sep.dropAt 1 rfl (Sep.dropAt 1 rfl (Sep.dropAt 0 rfl (Sep.dropAt 0 rfl hs))))))⟩
 refine CJ.skip <| CJ.region <| jv (ii 3) (Val.eq (V.add rfl rfl) rfl) <| jm (ii 3) rfl <| J.nil <| RJ.next <| CJ.seq ?_
 refine CJ.region <| jv (.bool true) (Val.eq (V.lss rfl rfl) rfl) <| J.nil <| CJ.seq <| CJ.condK (b := true) rfl rfl <| CJ.skip <| CJ.seq ?_
 refine CJ.block <| CJ.seq <| CJ.region <| jv _ (Val.eq (V.iad Try.underlying64 sz40 rfl rfl rfl (by decide) (by decide)) rfl) <| jv (.func (.func 23) #[] #[]) (V.ld rfl (Ld.sc sc40 (Rd.cl 4 rfl rfl))) <| ja (.func (.func 23) #[] #[]) rfl <| J.nil ?_
 refine CJ.seq <| CJ.region <| jm (.func (.func 23) #[] #[]) rfl <| jv (.agg #[ii xa.1, ii xa.2.1, .slice adxa_2 xa.2.2.1.length cpxa_2, .slice adxa_3 xa.2.2.2.1.length cpxa_3, .slice adxa_4 xa.2.2.2.2.1.length cpxa_4, .slice adxa_5 xa.2.2.2.2.2.1.length cpxa_5, .slice adxa_6 xa.2.2.2.2.2.2.length cpxa_6]) (V.ld rfl (Ld.agg (cs := [ii xa.1, ii xa.2.1, .slice adxa_2 xa.2.2.1.length cpxa_2, .slice adxa_3 xa.2.2.2.1.length cpxa_3, .slice adxa_4 xa.2.2.2.2.1.length cpxa_4, .slice adxa_5 xa.2.2.2.2.2.1.length cpxa_5, .slice adxa_6 xa.2.2.2.2.2.2.length cpxa_6]) Try.underlying30 sz30 rfl (Rd.cls 6 0 rfl rfl))) <| jm _ rfl ?_
 obtain ⟨r141, hr142, h⟩ := ob h
 refine J.front 1 rfl <| J.op rfl (A.call (L1 := [Cl pba 38 [ii qa0, ii i135, ii qa2, ii qa3, ii qa4, ii qa5, ii qa6]]) Try.call23 rfl (valid_ret_ap0_iiiiiii_ok fxa_2 fxa_3 fxa_4 fxa_5 fxa_6 hr142) rfl rfl) ?_
 rintro _ _ _ ⟨v147, _, rfl, ⟨⟨i143, i144, i145, i146, rfl, rfl, rfl⟩, rfl⟩, _, rfl⟩
 refine jal inf39 [ii 0, ii 0, ii 0, ii 0] rfl fun b150 => js [ii i143, ii i144, ii i145, ii i146] sz39 rfl rfl rfl rfl rfl rfl <| J.nil <| CJ.seq <| CJ.region <| jv _ (V.fad Try.underlying39 rfl nz31 rfl) <| jv (ii i143) (V.ld rfl (Ld.sc sc31 (Rd.cl 0 rfl rfl))) ?_
 refine jv (.bool (!decide (i143 = 0))) (V.neq rfl rfl) <| J.nil <| cc rfl h (fun hc151 h => ?_) fun hc151 h => ?_
 · refine CJ.seq <| CJ.region <| jv (.agg #[ii i143, ii i144, ii i145, ii i146]) (V.ld rfl (Ld.agg (cs := [ii i143, ii i144, ii i145, ii i146]) Try.underlying39 sz39 rfl (Rd.cls 0 0 rfl rfl))) <| J.front 6 rfl <| js [ii i143, ii i144, ii i145, ii i146] sz39 rfl rfl rfl rfl rfl rfl <| J.nil <| CJ.ret ?_
   obtain rfl := si h
   exact ⟨_, _, Res.one rfl ⟨_, _, rfl, Ld.agg (cs := [ii i143, ii i144, ii i145, ii i146]) Try.underlying39 sz39 rfl (Rd.cls 0 0 rfl rfl)⟩, ⟨i143, i144, i145, i146, i135, rfl, rfl, rfl⟩, (Hp.le_refl _), fun w hs => (Sep.dropAt 1 rfl (Sep.dropAt 1 rfl (Sep.dropAt 1 rfl (Sep.dropAt 1 rfl (Sep.dropAt 1 rfl (Sep.dropAt 0 rfl (Sep.dropAt 0 rfl hs)))))))⟩
 refine CJ.skip <| CJ.region <| jv (ii 4) (Val.eq (V.add rfl rfl) rfl) <| jm (ii 4) rfl <| J.nil <| RJ.next <| CJ.seq ?_
 refine CJ.region <| jv (.bool true) (Val.eq (V.lss rfl rfl) rfl) <| J.nil <| CJ.seq <| CJ.condK (b := true) rfl rfl <| CJ.skip <| CJ.seq ?_
 refine CJ.block <| CJ.seq <| CJ.region <| jv _ (Val.eq (V.iad Try.underlying64 sz40 rfl rfl rfl (by decide) (by decide)) rfl) <| jv (.func (.func 24) #[] #[]) (V.ld rfl (Ld.sc sc40 (Rd.cl 5 rfl rfl))) <| ja (.func (.func 24) #[] #[]) rfl <| J.nil ?_
 refine CJ.seq <| CJ.region <| jm (.func (.func 24) #[] #[]) rfl <| jv (.agg #[ii xa.1, ii xa.2.1, .slice adxa_2 xa.2.2.1.length cpxa_2, .slice adxa_3 xa.2.2.2.1.length cpxa_3, .slice adxa_4 xa.2.2.2.2.1.length cpxa_4, .slice adxa_5 xa.2.2.2.2.2.1.length cpxa_5, .slice adxa_6 xa.2.2.2.2.2.2.length cpxa_6]) (V.ld rfl (Ld.agg (cs := [ii xa.1, ii xa.2.1, .slice adxa_2 xa.2.2.1.length cpxa_2, .slice adxa_3 xa.2.2.2.1.length cpxa_3, .slice adxa_4 xa.2.2.2.2.1.length cpxa_4, .slice adxa_5 xa.2.2.2.2.2.1.length cpxa_5, .slice adxa_6 xa.2.2.2.2.2.2.length cpxa_6]) Try.underlying30 sz30 rfl (Rd.cls 7 0 rfl rfl))) <| jm _ rfl ?_
 obtain ⟨r152, hr153, h⟩ := ob h
 refine J.front 1 rfl <| J.op rfl (A.call (L1 := [Cl pba 38 [ii qa0, ii i135, ii qa2, ii qa3, ii qa4, ii qa5, ii qa6]]) Try.call24 rfl (valid_sigs_ap0_iiiiiii_ok fxa_2 fxa_3 fxa_4 fxa_5 fxa_6 hr153) rfl rfl) ?_
 rintro _ _ _ ⟨v159, _, rfl, ⟨⟨i154, i155, i156, i157, i158, rfl, rfl, rfl⟩, rfl⟩, _, rfl⟩
 refine jal inf39 [ii 0, ii 0, ii 0, ii 0] rfl fun b162 => js [ii i154, ii i155, ii i156, ii i157] sz39 rfl rfl rfl rfl rfl rfl <| J.nil <| CJ.seq <| CJ.region <| jv _ (V.fad Try.underlying39 rfl nz31 rfl) <| jv (ii i154) (V.ld rfl (Ld.sc sc31 (Rd.cl 0 rfl rfl))) ?_
 refine jv (.bool (!decide (i154 = 0))) (V.neq rfl rfl) <| J.nil <| cc rfl h (fun hc163 h => ?_) fun hc163 h => ?_
 · refine CJ.seq <| CJ.region <| jv (.agg #[ii i154, ii i155, ii i156, ii i157]) (V.ld rfl (Ld.agg (cs := [ii i154, ii i155, ii i156, ii i157]) Try.underlying39 sz39 rfl (Rd.cls 0 0 rfl rfl))) <| J.front 7 rfl <| js [ii i154, ii i155, ii i156, ii i157] sz39 rfl rfl rfl rfl rfl rfl <| J.nil <| CJ.ret ?_
   obtain rfl := si h
   exact ⟨_, _, Res.one rfl ⟨_, _, rfl, Ld.agg (cs := [ii i154, ii i155, ii i156, ii i157]) Try.underlying39 sz39 rfl (Rd.cls 0 0 rfl rfl)⟩, ⟨i154, i155, i156, i157, i158, rfl, rfl, rfl⟩, (Hp.le_refl _), fun w hs => (Sep.dropAt 1 rfl (Sep.dropAt 1 rfl (Sep.dropAt 1 rfl (Sep.dropAt 1 rfl (Sep.dropAt 1 rfl (Sep.dropAt 1 rfl (Sep.dropAt 0 rfl (Sep.dropAt 0 rfl hs))))))))⟩
 refine CJ.skip <| CJ.region <| jv (ii 5) (Val.eq (V.add rfl rfl) rfl) <| jm (ii 5) rfl <| J.nil <| RJ.next <| CJ.seq ?_
 refine CJ.region <| jv (.bool true) (Val.eq (V.lss rfl rfl) rfl) <| J.nil <| CJ.seq <| CJ.condK (b := true) rfl rfl <| CJ.skip <| CJ.seq ?_
 refine CJ.block <| CJ.seq <| CJ.region <| jv _ (Val.eq (V.iad Try.underlying64 sz40 rfl rfl rfl (by decide) (by decide)) rfl) <| jv (.func (.func 25) #[] #[]) (V.ld rfl (Ld.sc sc40 (Rd.cl 6 rfl rfl))) <| ja (.func (.func 25) #[] #[]) rfl <| J.nil ?_
 refine CJ.seq <| CJ.region <| jm (.func (.func 25) #[] #[]) rfl <| jv (.agg #[ii xa.1, ii xa.2.1, .slice adxa_2 xa.2.2.1.length cpxa_2, .slice adxa_3 xa.2.2.2.1.length cpxa_3, .slice adxa_4 xa.2.2.2.2.1.length cpxa_4, .slice adxa_5 xa.2.2.2.2.2.1.length cpxa_5, .slice adxa_6 xa.2.2.2.2.2.2.length cpxa_6]) (V.ld rfl (Ld.agg (cs := [ii xa.1, ii xa.2.1, .slice adxa_2 xa.2.2.1.length cpxa_2, .slice adxa_3 xa.2.2.2.1.length cpxa_3, .slice adxa_4 xa.2.2.2.2.1.length cpxa_4, .slice adxa_5 xa.2.2.2.2.2.1.length cpxa_5, .slice adxa_6 xa.2.2.2.2.2.2.length cpxa_6]) Try.underlying30 sz30 rfl (Rd.cls 8 0 rfl rfl))) <| jm _ rfl ?_
 obtain ⟨r164, hr165, h⟩ := ob h
 refine J.front 1 rfl <| J.op rfl (A.call (L1 := [Cl pba 38 [ii qa0, ii i158, ii qa2, ii qa3, ii qa4, ii qa5, ii qa6]]) Try.call25 rfl (valid_blocks_ap0_iiiiiii_ok fxa_2 fxa_3 fxa_4 fxa_5 fxa_6 hr165) rfl rfl) ?_
 rintro _ _ _ ⟨v171, _, rfl, ⟨⟨i166, i167, i168, i169, i170, rfl, rfl, rfl⟩, rfl⟩, _, rfl⟩
 refine jal inf39 [ii 0, ii 0, ii 0, ii 0] rfl fun b174 => js [ii i166, ii i167, ii i168, ii i169] sz39 rfl rfl rfl rfl rfl rfl <| J.nil <| CJ.seq <| CJ.region <| jv _ (V.fad Try.underlying39 rfl nz31 rfl) <| jv (ii i166) (V.ld rfl (Ld.sc sc31 (Rd.cl 0 rfl rfl))) ?_
 refine jv (.bool (!decide (i166 = 0))) (V.neq rfl rfl) <| J.nil <| cc rfl h (fun hc175 h => ?_) fun hc175 h => ?_
 · refine CJ.seq <| CJ.region <| jv (.agg #[ii i166, ii i167, ii i168, ii i169]) (V.ld rfl (Ld.agg (cs := [ii i166, ii i167, ii i168, ii i169]) Try.underlying39 sz39 rfl (Rd.cls 0 0 rfl rfl))) <| J.front 8 rfl <| js [ii i166, ii i167, ii i168, ii i169] sz39 rfl rfl rfl rfl rfl rfl <| J.nil <| CJ.ret ?_
   obtain rfl := si h
   exact ⟨_, _, Res.one rfl ⟨_, _, rfl, Ld.agg (cs := [ii i166, ii i167, ii i168, ii i169]) Try.underlying39 sz39 rfl (Rd.cls 0 0 rfl rfl)⟩, ⟨i166, i167, i168, i169, i170, rfl, rfl, rfl⟩, (Hp.le_refl _), fun w hs => (Sep.dropAt 1 rfl (Sep.dropAt 1 rfl (Sep.dropAt 1 rfl (Sep.dropAt 1 rfl (Sep.dropAt 1 rfl (Sep.dropAt 1 rfl (Sep.dropAt 1 rfl (Sep.dropAt 0 rfl (Sep.dropAt 0 rfl hs)))))))))⟩
 refine CJ.skip <| CJ.region <| jv (ii 6) (Val.eq (V.add rfl rfl) rfl) <| jm (ii 6) rfl <| J.nil <| RJ.next <| CJ.seq ?_
 refine CJ.region <| jv (.bool true) (Val.eq (V.lss rfl rfl) rfl) <| J.nil <| CJ.seq <| CJ.condK (b := true) rfl rfl <| CJ.skip <| CJ.seq ?_
 refine CJ.block <| CJ.seq <| CJ.region <| jv _ (Val.eq (V.iad Try.underlying64 sz40 rfl rfl rfl (by decide) (by decide)) rfl) <| jv (.func (.func 26) #[] #[]) (V.ld rfl (Ld.sc sc40 (Rd.cl 7 rfl rfl))) <| ja (.func (.func 26) #[] #[]) rfl <| J.nil ?_
 refine CJ.seq <| CJ.region <| jm (.func (.func 26) #[] #[]) rfl <| jv (.agg #[ii xa.1, ii xa.2.1, .slice adxa_2 xa.2.2.1.length cpxa_2, .slice adxa_3 xa.2.2.2.1.length cpxa_3, .slice adxa_4 xa.2.2.2.2.1.length cpxa_4, .slice adxa_5 xa.2.2.2.2.2.1.length cpxa_5, .slice adxa_6 xa.2.2.2.2.2.2.length cpxa_6]) (V.ld rfl (Ld.agg (cs := [ii xa.1, ii xa.2.1, .slice adxa_2 xa.2.2.1.length cpxa_2, .slice adxa_3 xa.2.2.2.1.length cpxa_3, .slice adxa_4 xa.2.2.2.2.1.length cpxa_4, .slice adxa_5 xa.2.2.2.2.2.1.length cpxa_5, .slice adxa_6 xa.2.2.2.2.2.2.length cpxa_6]) Try.underlying30 sz30 rfl (Rd.cls 9 0 rfl rfl))) <| jm _ rfl ?_
 obtain ⟨r176, hr177, h⟩ := ob h
 refine J.front 1 rfl <| J.op rfl (A.call (L1 := [Cl pba 38 [ii qa0, ii i170, ii qa2, ii qa3, ii qa4, ii qa5, ii qa6]]) Try.call26 rfl (valid_code_ap0_iiiiiii_ok fxa_2 fxa_3 fxa_4 fxa_5 fxa_6 hr177) rfl rfl) ?_
 rintro _ _ _ ⟨v183, _, rfl, ⟨⟨i178, i179, i180, i181, i182, rfl, rfl, rfl⟩, rfl⟩, _, rfl⟩
 refine jal inf39 [ii 0, ii 0, ii 0, ii 0] rfl fun b186 => js [ii i178, ii i179, ii i180, ii i181] sz39 rfl rfl rfl rfl rfl rfl <| J.nil <| CJ.seq <| CJ.region <| jv _ (V.fad Try.underlying39 rfl nz31 rfl) <| jv (ii i178) (V.ld rfl (Ld.sc sc31 (Rd.cl 0 rfl rfl))) ?_
 refine jv (.bool (!decide (i178 = 0))) (V.neq rfl rfl) <| J.nil <| cc rfl h (fun hc187 h => ?_) fun hc187 h => ?_
 · refine CJ.seq <| CJ.region <| jv (.agg #[ii i178, ii i179, ii i180, ii i181]) (V.ld rfl (Ld.agg (cs := [ii i178, ii i179, ii i180, ii i181]) Try.underlying39 sz39 rfl (Rd.cls 0 0 rfl rfl))) <| J.front 9 rfl <| js [ii i178, ii i179, ii i180, ii i181] sz39 rfl rfl rfl rfl rfl rfl <| J.nil <| CJ.ret ?_
   obtain rfl := si h
   exact ⟨_, _, Res.one rfl ⟨_, _, rfl, Ld.agg (cs := [ii i178, ii i179, ii i180, ii i181]) Try.underlying39 sz39 rfl (Rd.cls 0 0 rfl rfl)⟩, ⟨i178, i179, i180, i181, i182, rfl, rfl, rfl⟩, (Hp.le_refl _), fun w hs => (Sep.dropAt 1 rfl (Sep.dropAt 1 rfl (Sep.dropAt 1 rfl (Sep.dropAt 1 rfl (Sep.dropAt 1 rfl (Sep.dropAt 1 rfl (Sep.dropAt 1 rfl (Sep.dropAt 1 rfl (Sep.dropAt 0 rfl (Sep.dropAt 0 rfl hs))))))))))⟩
 refine CJ.skip <| CJ.region <| jv (ii 7) (Val.eq (V.add rfl rfl) rfl) <| jm (ii 7) rfl <| J.nil <| RJ.next <| CJ.seq ?_
 refine CJ.region <| jv (.bool false) (Val.eq (V.lss rfl rfl) rfl) <| J.nil <| CJ.seq <| CJ.condK (b := false) rfl rfl <| CJ.exit <| CJ.seq ?_
 refine CJ.region <| jv (.agg #[ii 0, ii 0, ii 0, ii 0]) (V.build inf39 places39 rfl rfl) <| J.front 9 rfl <| js [ii 0, ii 0, ii 0, ii 0] sz39 rfl rfl rfl rfl rfl rfl <| J.nil <| CJ.ret ?_
 obtain rfl := si h
 exact ⟨_, _, Res.one rfl ⟨_, _, rfl, Ld.agg (cs := [ii 0, ii 0, ii 0, ii 0]) Try.underlying39 sz39 rfl (Rd.cls 0 0 rfl rfl)⟩, ⟨0, 0, 0, 0, i182, rfl, rfl, rfl⟩, (Hp.le_refl _), fun w hs => (Sep.dropAt 1 rfl (Sep.dropAt 1 rfl (Sep.dropAt 1 rfl (Sep.dropAt 1 rfl (Sep.dropAt 1 rfl (Sep.dropAt 1 rfl (Sep.dropAt 1 rfl (Sep.dropAt 1 rfl (Sep.dropAt 0 rfl (Sep.dropAt 0 rfl hs))))))))))⟩
noncomputable def fn_ref21_head_l1 (xa : (Int × Int × (List (Int × Int)) × (List (List (Int × Bool))) × (List (Int × Bool)) × (List (Int × (List (Int × Int)) × (List (List (Int × Bool))) × (List (Int × Bool)))) × (List ((List (Int × Int × Int × Int × Bool)) × (Int × Int × Int × (List Int) × (List Int) × (List Int)))))) : Int → Option (Int ⊕ (Unit ⊕ (Int × Int × Int × Int))) := fun (i260 : Int) => cond (decide (i260 < (((xa.2.2.1.length : Nat) : Int)))) ((getI xa.2.2.1 i260).bind fun x288 => cond ((((decide (x288.1 < 0)) || (decide (xa.1 ≤ x288.1))) || (decide (x288.2 < 0))) || (decide (xa.1 ≤ x288.2))) (some (.inr ((.inr ((7, 1, i260, 0)))))) (some (.inl (IntKind.wrap .i64 (i260 + 1))))) (some (.inr ((.inl ()))))
noncomputable def fn_ref21_head (xa : (Int × Int × (List (Int × Int)) × (List (List (Int × Bool))) × (List (Int × Bool)) × (List (Int × (List (Int × Int)) × (List (List (Int × Bool))) × (List (Int × Bool)))) × (List ((List (Int × Int × Int × Int × Bool)) × (Int × Int × Int × (List Int) × (List Int) × (List Int)))))) : Option (Int × Int × Int × Int) :=
  cond ((decide (xa.1 < 1)) || (decide (xa.2.1 < xa.1))) (some ((7, 0, 0, 0))) (cond (decide (65536 < xa.2.1)) (some ((6, 0, 0, 0))) (cond (decide (65536 < (((xa.2.2.1.length : Nat) : Int)))) (some ((6, 1, 0, 0))) ((loop (fn_ref21_head_l1 xa) 0 : Option (Unit ⊕ (Int × Int × Int × Int))).bind fun o => match o with | .inr r => some r | .inl () => some ((0, 0, 0, 0)))))
set_option maxRecDepth 100000 in
set_option maxHeartbeats 4000000 in
theorem ref21_head_ok {K : Hp} {xa : (Int × Int × (List (Int × Int)) × (List (List (Int × Bool))) × (List (Int × Bool)) × (List (Int × (List (Int × Int)) × (List (List (Int × Bool))) × (List (Int × Bool)))) × (List ((List (Int × Int × Int × Int × Bool)) × (Int × Int × Int × (List Int) × (List Int) × (List Int)))))} {adxa_2 : Option Addr} {cpxa_2 : Nat} {adxa_3 : Option Addr} {cpxa_3 : Nat} {adxa_4 : Option Addr} {cpxa_4 : Nat} {adxa_5 : Option Addr} {cpxa_5 : Nat} {adxa_6 : Option Addr} {cpxa_6 : Nat} (fxa_2 : Is K (.sl (.cons (.int .i64) (.one (.int .i64)))) [.slice adxa_2 xa.2.2.1.length cpxa_2] xa.2.2.1) (fxa_3 : Is K (.sl (.one (.sl (.cons (.int .i64) (.one .bool))))) [.slice adxa_3 xa.2.2.2.1.length cpxa_3] xa.2.2.2.1) (fxa_4 : Is K (.sl (.cons (.int .i64) (.one .bool))) [.slice adxa_4 xa.2.2.2.2.1.length cpxa_4] xa.2.2.2.2.1) (fxa_5 : Is K (.sl (.cons (.int .i64) (.cons (.sl (.cons (.int .i64) (.one (.int .i64)))) (.cons (.sl (.one (.sl (.cons (.int .i64) (.one .bool))))) (.one (.one (.sl (.cons (.int .i64) (.one .bool))))))))) [.slice adxa_5 xa.2.2.2.2.2.1.length cpxa_5] xa.2.2.2.2.2.1) (fxa_6 : Is K (.sl (.cons (.sl (.cons (.int .i64) (.cons (.int .i64) (.cons (.int .i64) (.cons (.int .i64) (.one .bool)))))) (.one (.cons (.int .i64) (.cons (.int .i64) (.cons (.int .i64) (.cons (.sl (.int .i64)) (.cons (.sl (.int .i64)) (.one (.sl (.int .i64))))))))))) [.slice adxa_6 xa.2.2.2.2.2.2.length cpxa_6] xa.2.2.2.2.2.2) {r : (Int × Int × Int × Int)} (h : fn_ref21_head xa = some r) :
    Tr Try.prog 27 #[.agg #[ii xa.1, ii xa.2.1, .slice adxa_2 xa.2.2.1.length cpxa_2, .slice adxa_3 xa.2.2.2.1.length cpxa_3, .slice adxa_4 xa.2.2.2.2.1.length cpxa_4, .slice adxa_5 xa.2.2.2.2.2.1.length cpxa_5, .slice adxa_6 xa.2.2.2.2.2.2.length cpxa_6]] K [] (fun v K' L' => (∃ (i154 : Int) (i155 : Int) (i156 : Int) (i157 : Int), (i154, i155, i156, i157) = r ∧ .agg #[ii i154, ii i155, ii i156, ii i157] = v ∧ L' = []) ∧ K = K') := by
 refine Tr.k <| Tr.of Try.func27 rfl Try.ntmps27 rfl fun E F => ?_
 unfold fn_ref21_head at h
 refine CJ.seq <| CJ.region <| jbx [ii xa.1, ii xa.2.1, .slice adxa_2 xa.2.2.1.length cpxa_2, .slice adxa_3 xa.2.2.2.1.length cpxa_3, .slice adxa_4 xa.2.2.2.2.1.length cpxa_4, .slice adxa_5 xa.2.2.2.2.2.1.length cpxa_5, .slice adxa_6 xa.2.2.2.2.2.2.length cpxa_6] rfl rfl fun b158 => jal inf33 [ii 0, ii 0, ii 0, ii 0] rfl fun b159 => J.nil <| CJ.seq <| CJ.seq ?_
 refine CJ.region <| jv _ (V.fad Try.underlying30 rfl nz3 rfl) <| jv (ii xa.1) (V.ld rfl (Ld.sc sc3 (Rd.cl 1 rfl rfl))) <| jv (.bool (decide (xa.1 < 1))) (V.lss rfl rfl) <| jm (.bool (decide (xa.1 < 1))) rfl <| J.cut 6 <| jmeet [(14, .bool ((decide (xa.1 < 1)) || (decide (xa.2.1 < xa.1)))), (1, .pointer (some ⟨b158, 0, none⟩)), (2, .pointer (some ⟨b159, 0, none⟩))] ?_ ?_
 · rcases bt (decide (xa.1 < 1)) with hc162 | hc162
   · refine J.skip rfl rfl rfl rfl hc162 <| J.skip rfl rfl rfl rfl hc162 <| J.skip rfl rfl rfl rfl hc162 <| J.skip rfl rfl rfl rfl hc162 <| J.skip rfl rfl rfl rfl hc162 <| jv (.bool true) (V.pickT rfl hc162 rfl) <| J.nil ?_
     exact ⟨rfl, ⟨(by simp only [hc162]; rfl), rfl, rfl, trivial⟩, rfl, rfl⟩
   refine J.run rfl rfl rfl hc162 <| jv _ (V.fad Try.underlying30 rfl nz3 rfl) <| J.run rfl rfl rfl hc162 <| jv (ii xa.2.1) (V.ld rfl (Ld.sc sc3 (Rd.cl 1 rfl rfl))) <| J.run rfl rfl rfl hc162 <| jv _ (V.fad Try.underlying30 rfl nz3 rfl) <| J.run rfl rfl rfl hc162 ?_
   refine jv (ii xa.1) (V.ld rfl (Ld.sc sc3 (Rd.cl 1 rfl rfl))) <| J.run rfl rfl rfl hc162 <| jv (.bool (decide (xa.2.1 < xa.1))) (V.lss rfl rfl) <| jv (.bool (decide (xa.2.1 < xa.1))) (V.pickF rfl hc162 rfl) <| J.nil ?_
   exact ⟨rfl, ⟨(by simp only [hc162]; rfl), rfl, rfl, trivial⟩, rfl, rfl⟩
 intro ρ
 refine J.nil <| cc rfl h (fun hc163 h => ?_) fun hc163 h => ?_
 · refine CJ.seq <| CJ.region <| jv (.agg #[ii 7, ii 0, ii 0, ii 0]) (V.build inf33 places33 rfl rfl) <| js [ii 7, ii 0, ii 0, ii 0] sz33 rfl rfl rfl rfl rfl rfl <| J.nil <| CJ.ret ?_
   obtain rfl := si h
   exact ⟨_, _, Res.one rfl ⟨_, _, rfl, Ld.agg (cs := [ii 7, ii 0, ii 0, ii 0]) Try.underlying33 sz33 rfl (Rd.cls 0 0 rfl rfl)⟩, ⟨7, 0, 0, 0, rfl, rfl, rfl⟩, (Hp.le_refl _), fun w hs => (Sep.dropAt 0 rfl (Sep.dropAt 0 rfl hs))⟩
 refine CJ.skip <| CJ.seq <| CJ.seq <| CJ.region <| jv _ (V.fad Try.underlying30 rfl nz3 rfl) <| jv (ii xa.2.1) (V.ld rfl (Ld.sc sc3 (Rd.cl 1 rfl rfl))) <| jv (.bool (decide (65536 < xa.2.1))) (V.gtr rfl rfl) ?_
 refine J.nil <| cc rfl h (fun hc164 h => ?_) fun hc164 h => ?_
 · refine CJ.seq <| CJ.region <| jv (.agg #[ii 6, ii 0, ii 0, ii 0]) (V.build inf33 places33 rfl rfl) <| js [ii 6, ii 0, ii 0, ii 0] sz33 rfl rfl rfl rfl rfl rfl <| J.nil <| CJ.ret ?_
   obtain rfl := si h
   exact ⟨_, _, Res.one rfl ⟨_, _, rfl, Ld.agg (cs := [ii 6, ii 0, ii 0, ii 0]) Try.underlying33 sz33 rfl (Rd.cls 0 0 rfl rfl)⟩, ⟨6, 0, 0, 0, rfl, rfl, rfl⟩, (Hp.le_refl _), fun w hs => (Sep.dropAt 0 rfl (Sep.dropAt 0 rfl hs))⟩
 refine CJ.skip <| CJ.seq <| CJ.seq <| CJ.region <| jv _ (V.fad Try.underlying30 rfl nz22 rfl) <| jv (.slice adxa_2 xa.2.2.1.length cpxa_2) (V.ld rfl (Ld.sc sc22 (Rd.cl 1 rfl rfl))) <| jv (ii (((xa.2.2.1.length : Nat) : Int))) (V.len Try.underlying22 rfl) ?_
 refine jv (.bool (decide (65536 < (((xa.2.2.1.length : Nat) : Int))))) (V.gtr rfl rfl) <| J.nil <| cc rfl h (fun hc165 h => ?_) fun hc165 h => ?_
 · refine CJ.seq <| CJ.region <| jv (.agg #[ii 6, ii 1, ii 0, ii 0]) (V.build inf33 places33 rfl rfl) <| js [ii 6, ii 1, ii 0, ii 0] sz33 rfl rfl rfl rfl rfl rfl <| J.nil <| CJ.ret ?_
   obtain rfl := si h
   exact ⟨_, _, Res.one rfl ⟨_, _, rfl, Ld.agg (cs := [ii 6, ii 1, ii 0, ii 0]) Try.underlying33 sz33 rfl (Rd.cls 0 0 rfl rfl)⟩, ⟨6, 1, 0, 0, rfl, rfl, rfl⟩, (Hp.le_refl _), fun w hs => (Sep.dropAt 0 rfl (Sep.dropAt 0 rfl hs))⟩
 refine CJ.skip <| CJ.seq <| CJ.seq <| CJ.region <| ja (ii 0) rfl <| J.nil ?_
 obtain ⟨o236, ho237, h⟩ := ob h
 refine CJ.joinN (o := o236) (fun s ρ K' L' => () = s ∧ Fits [(2, .pointer (some ⟨b159, 0, none⟩))] ρ ∧ K = K' ∧ L' = Cl b159 33 [ii 0, ii 0, ii 0, ii 0] :: F) ?_ ?_
 · refine CJ.block <| CJ.front 1 rfl <| CJ.loop (fun s ρ K' L' => ∃ (i260 : Int), i260 = s ∧ Fits [(1, .pointer (some ⟨b158, 0, none⟩)), (2, .pointer (some ⟨b159, 0, none⟩)), (3, ii i260)] ρ ∧ K = K' ∧ L' = Cl b158 30 [ii xa.1, ii xa.2.1, .slice adxa_2 xa.2.2.1.length cpxa_2, .slice adxa_3 xa.2.2.2.1.length cpxa_3, .slice adxa_4 xa.2.2.2.2.1.length cpxa_4, .slice adxa_5 xa.2.2.2.2.2.1.length cpxa_5, .slice adxa_6 xa.2.2.2.2.2.2.length cpxa_6] :: Cl b159 33 [ii 0, ii 0, ii 0, ii 0] :: F) ho237 ⟨0, rfl, ⟨rfl, rfl, rfl, trivial⟩, rfl, rfl⟩ ?_
   rintro s ρ _ _ r286 ⟨i260, rfl, hf284, rfl, rfl⟩ h283
   obtain ⟨ρ, rfl⟩ := hf284.ex
   refine CJ.seq <| CJ.seq <| CJ.region <| jm (ii i260) rfl <| jv _ (V.fad Try.underlying30 rfl nz22 rfl) <| jv (.slice adxa_2 xa.2.2.1.length cpxa_2) (V.ld rfl (Ld.sc sc22 (Rd.cl 0 rfl rfl))) <| jv (ii (((xa.2.2.1.length : Nat) : Int))) (V.len Try.underlying22 rfl) ?_
   refine jv (.bool (decide (i260 < (((xa.2.2.1.length : Nat) : Int))))) (V.lss rfl rfl) <| J.nil <| cc rfl h283 (fun hc287 h283 => ?_) fun hc287 h283 => ?_
   · refine CJ.skip <| CJ.seq <| CJ.block <| CJ.seq <| CJ.region <| jv _ (V.fad Try.underlying30 rfl nz22 rfl) <| jv (.slice adxa_2 xa.2.2.1.length cpxa_2) (V.ld rfl (Ld.sc sc22 (Rd.cl 0 rfl rfl))) ?_
     refine jm (ii i260) rfl ?_
     obtain ⟨x288, hx289, h283⟩ := ob h283
     obtain ⟨p290, p291, p292⟩ := getI_some hx289
     obtain ⟨b293, o294, e295, a296⟩ := (fxa_2).at p291
     refine jv _ (V.iad Try.underlying22 sz50 rfl e295 rfl p290 p292) <| jv (.agg #[ii x288.1, ii x288.2]) (V.ld rfl (Ld.aggK (cs := [ii x288.1, ii x288.2]) Try.underlying50 sz50 rfl ⟨((a296).fst).int, (((a296).snd).one).int, trivial⟩ (Hp.le_refl _))) <| jal inf50 [ii 0, ii 0] rfl fun b297 => js [ii x288.1, ii x288.2] sz50 rfl rfl rfl rfl rfl rfl <| J.nil <| CJ.seq <| CJ.region ?_
     refine jv _ (V.fad Try.underlying50 rfl nz3 rfl) <| jv (ii x288.1) (V.ld rfl (Ld.sc sc3 (Rd.cl 0 rfl rfl))) <| jv (.bool (decide (x288.1 < 0))) (V.lss rfl rfl) <| jm (.bool (decide (x288.1 < 0))) rfl <| J.cut 6 <| jmeet [(46, .bool ((decide (x288.1 < 0)) || (decide (xa.1 ≤ x288.1)))), (1, .pointer (some ⟨b158, 0, none⟩)), (2, .pointer (some ⟨b159, 0, none⟩)), (3, ii i260), (4, .pointer (some ⟨b297, 0, none⟩))] ?_ ?_
     · rcases bt (decide (x288.1 < 0)) with hc300 | hc300
       · refine J.skip rfl rfl rfl rfl hc300 <| J.skip rfl rfl rfl rfl hc300 <| J.skip rfl rfl rfl rfl hc300 <| J.skip rfl rfl rfl rfl hc300 <| J.skip rfl rfl rfl rfl hc300 <| jv (.bool true) (V.pickT rfl hc300 rfl) <| J.nil ?_
         exact ⟨rfl, ⟨(by simp only [hc300]; rfl), rfl, rfl, rfl, rfl, trivial⟩, rfl, rfl⟩
       refine J.run rfl rfl rfl hc300 <| jv _ (V.fad Try.underlying50 rfl nz3 rfl) <| J.run rfl rfl rfl hc300 <| jv (ii x288.1) (V.ld rfl (Ld.sc sc3 (Rd.cl 0 rfl rfl))) <| J.run rfl rfl rfl hc300 <| jv _ (V.fad Try.underlying30 rfl nz3 rfl) <| J.run rfl rfl rfl hc300 ?_
       refine jv (ii xa.1) (V.ld rfl (Ld.sc sc3 (Rd.cl 1 rfl rfl))) <| J.run rfl rfl rfl hc300 <| jv (.bool (decide (xa.1 ≤ x288.1))) (V.geq rfl rfl) <| jv (.bool (decide (xa.1 ≤ x288.1))) (V.pickF rfl hc300 rfl) <| J.nil ?_
       exact ⟨rfl, ⟨(by simp only [hc300]; rfl), rfl, rfl, rfl, rfl, trivial⟩, rfl, rfl⟩
     intro ρ
     refine jm (.bool ((decide (x288.1 < 0)) || (decide (xa.1 ≤ x288.1)))) rfl <| J.cut 4 <| jmeet [(51, .bool (((decide (x288.1 < 0)) || (decide (xa.1 ≤ x288.1))) || (decide (x288.2 < 0)))), (1, .pointer (some ⟨b158, 0, none⟩)), (2, .pointer (some ⟨b159, 0, none⟩)), (3, ii i260), (4, .pointer (some ⟨b297, 0, none⟩))] ?_ ?_
     · rcases bt ((decide (x288.1 < 0)) || (decide (xa.1 ≤ x288.1))) with hc303 | hc303
       · refine J.skip rfl rfl rfl rfl hc303 <| J.skip rfl rfl rfl rfl hc303 <| J.skip rfl rfl rfl rfl hc303 <| jv (.bool true) (V.pickT rfl hc303 rfl) <| J.nil ?_
         exact ⟨rfl, ⟨(by simp only [hc303]; rfl), rfl, rfl, rfl, rfl, trivial⟩, rfl, rfl⟩
       refine J.run rfl rfl rfl hc303 <| jv _ (V.fad Try.underlying50 rfl nz3 rfl) <| J.run rfl rfl rfl hc303 <| jv (ii x288.2) (V.ld rfl (Ld.sc sc3 (Rd.cl 0 rfl rfl))) <| J.run rfl rfl rfl hc303 <| jv (.bool (decide (x288.2 < 0))) (V.lss rfl rfl) <| jv (.bool (decide (x288.2 < 0))) (V.pickF rfl hc303 rfl) ?_
       refine J.nil ?_
       exact ⟨rfl, ⟨(by simp only [hc303]; rfl), rfl, rfl, rfl, rfl, trivial⟩, rfl, rfl⟩
     intro ρ
     refine jm (.bool (((decide (x288.1 < 0)) || (decide (xa.1 ≤ x288.1))) || (decide (x288.2 < 0)))) rfl <| J.cut 6 <| jmeet [(58, .bool ((((decide (x288.1 < 0)) || (decide (xa.1 ≤ x288.1))) || (decide (x288.2 < 0))) || (decide (xa.1 ≤ x288.2)))), (1, .pointer (some ⟨b158, 0, none⟩)), (2, .pointer (some ⟨b159, 0, none⟩)), (3, ii i260)] ?_ ?_
     · rcases bt (((decide (x288.1 < 0)) || (decide (xa.1 ≤ x288.1))) || (decide (x288.2 < 0))) with hc306 | hc306
       · refine J.skip rfl rfl rfl rfl hc306 <| J.skip rfl rfl rfl rfl hc306 <| J.skip rfl rfl rfl rfl hc306 <| J.skip rfl rfl rfl rfl hc306 <| J.skip rfl rfl rfl rfl hc306 <| jv (.bool true) (V.pickT rfl hc306 rfl) <| J.nil ?_
         exact ⟨rfl, ⟨(by simp only [hc306]; rfl), rfl, rfl, rfl, trivial⟩, rfl, rfl⟩
       refine J.run rfl rfl rfl hc306 <| jv _ (V.fad Try.underlying50 rfl nz3 rfl) <| J.run rfl rfl rfl hc306 <| jv (ii x288.2) (V.ld rfl (Ld.sc sc3 (Rd.cl 0 rfl rfl))) <| J.run rfl rfl rfl hc306 <| jv _ (V.fad Try.underlying30 rfl nz3 rfl) <| J.run rfl rfl rfl hc306 ?_
       refine jv (ii xa.1) (V.ld rfl (Ld.sc sc3 (Rd.cl 1 rfl rfl))) <| J.run rfl rfl rfl hc306 <| jv (.bool (decide (xa.1 ≤ x288.2))) (V.geq rfl rfl) <| jv (.bool (decide (xa.1 ≤ x288.2))) (V.pickF rfl hc306 rfl) <| J.nil ?_
       exact ⟨rfl, ⟨(by simp only [hc306]; rfl), rfl, rfl, rfl, trivial⟩, rfl, rfl⟩
     intro ρ
     refine J.nil <| cc rfl h283 (fun hc307 h283 => ?_) fun hc307 h283 => ?_
     · refine CJ.seq <| CJ.region <| jm (ii i260) rfl <| jv (.agg #[ii 7, ii 1, ii i260, ii 0]) (V.build inf33 places33 rfl rfl) <| J.front 2 rfl <| js [ii 7, ii 1, ii i260, ii 0] sz33 rfl rfl rfl rfl rfl rfl <| J.nil ?_
       refine CJ.ret ?_
       obtain rfl := si h283
       refine ⟨nofun, fun e => ?_⟩
       subst e
       refine .inr ⟨nofun, ?_⟩
       obtain rfl := si h
       exact ⟨_, _, Res.one rfl ⟨_, _, rfl, Ld.agg (cs := [ii 7, ii 1, ii i260, ii 0]) Try.underlying33 sz33 rfl (Rd.cls 0 0 rfl rfl)⟩, ⟨7, 1, i260, 0, rfl, rfl, rfl⟩, (Hp.le_refl _), fun w hs => (Sep.dropAt 0 rfl (Sep.dropAt 0 rfl (Sep.dropAt 0 rfl hs)))⟩
     refine CJ.skip <| CJ.region <| jm (ii i260) rfl <| jv (ii (IntKind.wrap .i64 (i260 + 1))) (V.add rfl rfl) <| ja (ii (IntKind.wrap .i64 (i260 + 1))) rfl <| J.dropAt 0 rfl <| J.nil ?_
     obtain rfl := si h283
     exact ⟨rfl, ⟨IntKind.wrap .i64 (i260 + 1), rfl, ⟨rfl, rfl, rfl, trivial⟩, rfl, rfl⟩⟩
   refine CJ.dropAt 0 rfl <| CJ.exit ?_
   obtain rfl := si h283
   refine ⟨nofun, fun e => ?_⟩
   subst e
   exact .inl ⟨rfl, _, rfl, ⟨rfl, ⟨rfl, trivial⟩, rfl, rfl⟩⟩
 rintro s ρ _ _ ho308 ⟨rfl, hf309, rfl, rfl⟩
 subst ho308
 obtain ⟨ρ, rfl⟩ := hf309.ex
 refine PJ.done <| CJ.seq <| CJ.region <| jv (.agg #[ii 0, ii 0, ii 0, ii 0]) (V.build inf33 places33 rfl rfl) <| js [ii 0, ii 0, ii 0, ii 0] sz33 rfl rfl rfl rfl rfl rfl <| J.nil <| CJ.ret ?_
 obtain rfl := si h
 exact ⟨_, _, Res.one rfl ⟨_, _, rfl, Ld.agg (cs := [ii 0, ii 0, ii 0, ii 0]) Try.underlying33 sz33 rfl (Rd.cls 0 0 rfl rfl)⟩, ⟨0, 0, 0, 0, rfl, rfl, rfl⟩, (Hp.le_refl _), fun w hs => (Sep.dropAt 0 rfl hs)⟩
noncomputable def fn_ref15_Check_l1 (xa : (List (Int × Bool))) (xb : Int) : Int → Option (Int ⊕ (Unit ⊕ Int)) := fun (i365 : Int) => cond (decide (i365 < (((xa.length : Nat) : Int)))) ((getI xa i365).bind fun x405 => (cond (decide (x405.1 < 0)) (some (true)) ((getI xa i365).bind fun x427 => some (decide (xb ≤ x427.1)))).bind fun t424 => cond (t424) (some (.inr ((.inr (7))))) (some (.inl (IntKind.wrap .i64 (i365 + 1))))) (some (.inr ((.inl ()))))
noncomputable def fn_ref15_Check (xa : (List (Int × Bool))) (xb : Int) : Option Int :=
  cond (decide (16 < (((xa.length : Nat) : Int)))) (some (6)) ((loop (fn_ref15_Check_l1 xa xb) 0 : Option (Unit ⊕ Int)).bind fun o => match o with | .inr r => some r | .inl () => some (0))
set_option maxRecDepth 100000 in
set_option maxHeartbeats 4000000 in
theorem ref15_Check_ok {K : Hp} {xa : (List (Int × Bool))} {xb : Int} {adxa_0 : Option Addr} {cpxa_0 : Nat} (fxa_0 : Is K (.sl (.cons (.int .i64) (.one .bool))) [.slice adxa_0 xa.length cpxa_0] xa) {r : Int} (h : fn_ref15_Check xa xb = some r) :
    Tr Try.prog 38 #[.agg #[.slice adxa_0 xa.length cpxa_0], ii xb] K [] (fun v K' L' => (∃ (i220 : Int), i220 = r ∧ ii i220 = v ∧ L' = []) ∧ K = K') := by
 refine Tr.k <| Tr.of Try.func38 rfl Try.ntmps38 rfl fun E F => ?_
 unfold fn_ref15_Check at h
 refine CJ.seq <| CJ.region <| jbx [.slice adxa_0 xa.length cpxa_0] rfl rfl fun b221 => ja (ii 0) rfl <| J.nil <| CJ.seq <| CJ.seq ?_
 refine CJ.region <| jv _ (V.fad Try.underlying26 rfl nz24 rfl) <| jv (.slice adxa_0 xa.length cpxa_0) (V.ld rfl (Ld.sc sc24 (Rd.cl 0 rfl rfl))) <| jv (ii (((xa.length : Nat) : Int))) (V.len Try.underlying24 rfl) <| jv (.bool (decide (16 < (((xa.length : Nat) : Int))))) (V.gtr rfl rfl) <| J.nil <| cc rfl h (fun hc222 h => ?_) fun hc222 h => ?_
 · refine CJ.seq <| CJ.region <| ja (ii 6) rfl <| J.nil <| CJ.ret ?_
   obtain rfl := si h
   exact ⟨_, _, Res.one rfl rfl, ⟨6, rfl, rfl, rfl⟩, (Hp.le_refl _), fun w hs => (Sep.dropAt 0 rfl hs)⟩
 refine CJ.skip <| CJ.seq <| CJ.seq <| CJ.region <| ja (ii 0) rfl <| J.nil ?_
 obtain ⟨o329, ho330, h⟩ := ob h
 refine CJ.joinN (o := o329) (fun s ρ K' L' => () = s ∧ Fits [] ρ ∧ K = K' ∧ F = L') ?_ ?_
 · refine CJ.block <| CJ.loop (fun s ρ K' L' => ∃ (i365 : Int), i365 = s ∧ Fits [(1, ii xb), (2, .pointer (some ⟨b221, 0, none⟩)), (5, ii i365)] ρ ∧ K = K' ∧ L' = Cl b221 26 [.slice adxa_0 xa.length cpxa_0] :: F) ho330 ⟨0, rfl, ⟨rfl, rfl, rfl, trivial⟩, rfl, rfl⟩ ?_
   rintro s ρ _ _ r403 ⟨i365, rfl, hf401, rfl, rfl⟩ h400
   obtain ⟨ρ, rfl⟩ := hf401.ex
   refine CJ.seq <| CJ.seq <| CJ.region <| jm (ii i365) rfl <| jv _ (V.fad Try.underlying26 rfl nz24 rfl) <| jv (.slice adxa_0 xa.length cpxa_0) (V.ld rfl (Ld.sc sc24 (Rd.cl 0 rfl rfl))) <| jv (ii (((xa.length : Nat) : Int))) (V.len Try.underlying24 rfl) ?_
   refine jv (.bool (decide (i365 < (((xa.length : Nat) : Int))))) (V.lss rfl rfl) <| J.nil <| cc rfl h400 (fun hc404 h400 => ?_) fun hc404 h400 => ?_
   · refine CJ.skip <| CJ.seq <| CJ.block <| CJ.seq <| CJ.region <| jv _ (V.fad Try.underlying26 rfl nz24 rfl) <| jv (.slice adxa_0 xa.length cpxa_0) (V.ld rfl (Ld.sc sc24 (Rd.cl 0 rfl rfl))) ?_
     refine jm (ii i365) rfl ?_
     obtain ⟨x405, hx406, h400⟩ := ob h400
     obtain ⟨p407, p408, p409⟩ := getI_some hx406
     obtain ⟨b410, o411, e412, a413⟩ := (fxa_0).at p408
     refine jv _ (V.iad Try.underlying24 sz86 rfl e412 rfl p407 p409) <| jv _ (V.fad Try.underlying86 rfl nz3 rfl) <| jv (ii x405.1) (V.ld rfl (Ld.sc sc3 (Rd.k ((a413).fst).int (Hp.le_refl _)))) <| jv (.bool (decide (x405.1 < 0))) (V.lss rfl rfl) <| jm (.bool (decide (x405.1 < 0))) rfl <| J.cut 9 ?_
     obtain ⟨t424, ht425, h400⟩ := ob h400
     refine jmeet [(33, .bool t424), (1, ii xb), (2, .pointer (some ⟨b221, 0, none⟩)), (5, ii i365)] ?_ ?_
     · rcases bt (decide (x405.1 < 0)) with hc426 | hc426
       · have ht425 := ct hc426 ht425
         refine J.skip rfl rfl rfl rfl hc426 <| J.skip rfl rfl rfl rfl hc426 <| J.skip rfl rfl rfl rfl hc426 <| J.skip rfl rfl rfl rfl hc426 <| J.skip rfl rfl rfl rfl hc426 <| J.skip rfl rfl rfl rfl hc426 <| J.skip rfl rfl rfl rfl hc426 ?_
         refine J.skip rfl rfl rfl rfl hc426 <| jv (.bool true) (V.pickT rfl hc426 rfl) <| J.nil ?_
         obtain rfl := si ht425
         exact ⟨rfl, ⟨rfl, rfl, rfl, rfl, trivial⟩, rfl, rfl⟩
       have ht425 := cf hc426 ht425
       refine J.run rfl rfl rfl hc426 <| jv _ (V.fad Try.underlying26 rfl nz24 rfl) <| J.run rfl rfl rfl hc426 <| jv (.slice adxa_0 xa.length cpxa_0) (V.ld rfl (Ld.sc sc24 (Rd.cl 0 rfl rfl))) <| J.run rfl rfl rfl hc426 <| jm (ii i365) rfl <| J.run rfl rfl rfl hc426 ?_
       obtain ⟨x427, hx428, ht425⟩ := ob ht425
       obtain ⟨p429, p430, p431⟩ := getI_some hx428
       obtain ⟨b432, o433, e434, a435⟩ := (fxa_0).at p430
       refine jv _ (V.iad Try.underlying24 sz86 rfl e434 rfl p429 p431) <| J.run rfl rfl rfl hc426 <| jv _ (V.fad Try.underlying86 rfl nz3 rfl) <| J.run rfl rfl rfl hc426 <| jv (ii x427.1) (V.ld rfl (Ld.sc sc3 (Rd.k ((a435).fst).int (Hp.le_refl _)))) <| J.run rfl rfl rfl hc426 <| jm (ii xb) rfl ?_
       refine J.run rfl rfl rfl hc426 <| jv (.bool (decide (xb ≤ x427.1))) (V.geq rfl rfl) <| jv (.bool (decide (xb ≤ x427.1))) (V.pickF rfl hc426 rfl) <| J.nil ?_
       obtain rfl := si ht425
       exact ⟨rfl, ⟨rfl, rfl, rfl, rfl, trivial⟩, rfl, rfl⟩
     intro ρ
     refine J.nil <| cc rfl h400 (fun hc436 h400 => ?_) fun hc436 h400 => ?_
     · refine CJ.seq <| CJ.region <| ja (ii 7) rfl <| J.nil <| CJ.ret ?_
       obtain rfl := si h400
       refine ⟨nofun, fun e => ?_⟩
       subst e
       refine .inr ⟨nofun, ?_⟩
       obtain rfl := si h
       exact ⟨_, _, Res.one rfl rfl, ⟨7, rfl, rfl, rfl⟩, (Hp.le_refl _), fun w hs => (Sep.dropAt 0 rfl hs)⟩
     refine CJ.skip <| CJ.region <| jm (ii i365) rfl <| jv (ii (IntKind.wrap .i64 (i365 + 1))) (V.add rfl rfl) <| ja (ii (IntKind.wrap .i64 (i365 + 1))) rfl <| J.nil ?_
     obtain rfl := si h400
     exact ⟨rfl, ⟨IntKind.wrap .i64 (i365 + 1), rfl, ⟨rfl, rfl, rfl, trivial⟩, rfl, rfl⟩⟩
   refine CJ.dropAt 0 rfl <| CJ.exit ?_
   obtain rfl := si h400
   refine ⟨nofun, fun e => ?_⟩
   subst e
   exact .inl ⟨rfl, _, rfl, ⟨rfl, trivial, rfl, rfl⟩⟩
 rintro s ρ _ _ ho437 ⟨rfl, hf438, rfl, rfl⟩
 subst ho437
 obtain ⟨ρ, rfl⟩ := hf438.ex
 refine PJ.done <| CJ.seq <| CJ.region <| ja (ii 0) rfl <| J.nil <| CJ.ret ?_
 obtain rfl := si h
 exact ⟨_, _, Res.one rfl rfl, ⟨0, rfl, rfl, rfl⟩, (Hp.le_refl _), fun w hs => hs⟩
end Go.Proofs.Ytbaaamdljojknaa
