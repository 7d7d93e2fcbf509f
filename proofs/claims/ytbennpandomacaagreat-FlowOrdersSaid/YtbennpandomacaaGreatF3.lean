/- What Go functions answer: generated. -/
import Derived.Test.YtbennpandomacaaGreatF2
namespace Go.Proofs.YtbennpandomacaaGreat
open Go.RowKit _root_.Go.Proofs.Tryz
set_option linter.unusedVariables false
set_option linter.unnecessarySimpa false
set_option linter.unusedSimpArgs false
set_option maxRecDepth 100000
set_option maxHeartbeats 4000000

noncomputable def fn_valid_Check_az (xa : Tq1) : Option Tq7 :=
  (fn_tick_Counter_Add_zii 1 1).bind fun _ => (fn_valid_head_az (xa.1, xa.2.1, xa.2.2.1, xa.2.2.2.1, xa.2.2.2.2.1, xa.2.2.2.2.2.1, xa.2.2.2.2.2.2)).bind fun (i1, i2, i3, i4) => cond (!decide (i1 = 0)) (some ((i1, i2, i3, i4))) ((fn_valid_bounds_az (xa.1, xa.2.1, xa.2.2.1, xa.2.2.2.1, xa.2.2.2.2.1, xa.2.2.2.2.2.1, xa.2.2.2.2.2.2)).bind fun (i5, i6, i7, i9) => cond (!decide (i5 = 0)) (some ((i5, i6, i7, i9))) ((fn_valid_locals_az (xa.1, xa.2.1, xa.2.2.1, xa.2.2.2.1, xa.2.2.2.2.1, xa.2.2.2.2.2.1, xa.2.2.2.2.2.2)).bind fun (i10, i11, i12, i13) => cond (!decide (i10 = 0)) (some ((i10, i11, i12, i13))) ((fn_valid_ret_az (xa.1, xa.2.1, xa.2.2.1, xa.2.2.2.1, xa.2.2.2.2.1, xa.2.2.2.2.2.1, xa.2.2.2.2.2.2)).bind fun (i14, i15, i17, i18) => cond (!decide (i14 = 0)) (some ((i14, i15, i17, i18))) ((fn_valid_sigs_az (xa.1, xa.2.1, xa.2.2.1, xa.2.2.2.1, xa.2.2.2.2.1, xa.2.2.2.2.2.1, xa.2.2.2.2.2.2)).bind fun (i19, i20, i21, i22) => cond (!decide (i19 = 0)) (some ((i19, i20, i21, i22))) ((fn_valid_blocks_az (xa.1, xa.2.1, xa.2.2.1, xa.2.2.2.1, xa.2.2.2.2.1, xa.2.2.2.2.2.1, xa.2.2.2.2.2.2)).bind fun (i23, i24, i25, i26) => cond (!decide (i23 = 0)) (some ((i23, i24, i25, i26))) ((fn_valid_code_az (xa.1, xa.2.1, xa.2.2.1, xa.2.2.2.1, xa.2.2.2.2.1, xa.2.2.2.2.2.1, xa.2.2.2.2.2.2)).bind fun (i27, i28, i29, i30) => cond (!decide (i27 = 0)) (some ((i27, i28, i29, i30))) (some ((0, 0, 0, 0)))))))))
theorem valid_Check_az_ok {K : Hp} {xa : Tq1} {Aa2 : Option Addr} {Ca2 : Nat} {Aa3 : Option Addr} {Ca3 : Nat} {Aa4 : Option Addr} {Ca4 : Nat} {Aa5 : Option Addr} {Ca5 : Nat} {Aa6 : Option Addr} {Ca6 : Nat} (Ga2 : Is K (.sl Yq5) [sl Aa2 xa.2.2.1 Ca2] xa.2.2.1) (Ga3 : Is K Yq8 [sl Aa3 xa.2.2.2.1 Ca3] xa.2.2.2.1) (Ga4 : Is K (.sl Yq1) [sl Aa4 xa.2.2.2.2.1 Ca4] xa.2.2.2.2.1) (Ga5 : Is K Yq4 [sl Aa5 xa.2.2.2.2.2.1 Ca5] xa.2.2.2.2.2.1) (Ga6 : Is K (.sl Yq3) [sl Aa6 xa.2.2.2.2.2.2 Ca6] xa.2.2.2.2.2.2) {r : Tq7} (h : fn_valid_Check_az xa = some r) :
    Tr Tryz.prog 58 #[.agg #[ii xa.1, ii xa.2.1, sl Aa2 xa.2.2.1 Ca2, sl Aa3 xa.2.2.2.1 Ca3, sl Aa4 xa.2.2.2.2.1 Ca4, sl Aa5 xa.2.2.2.2.2.1 Ca5, sl Aa6 xa.2.2.2.2.2.2 Ca6], .pointer none] K [] (fun v K' L' => (∃ (i86 : Int) (i87 : Int) (i88 : Int) (i89 : Int), (i86, i87, i88, i89) = r ∧ .agg #[ii i86, ii i87, ii i88, ii i89] = v ∧ L' = []) ∧ K = K') := by
 refine Tr.k <| Tr.of func58 rfl ntmps58 rfl fun E F => ?_
 unfold fn_valid_Check_az at h
 refine cr <| jbx [ii xa.1, ii xa.2.1, sl Aa2 xa.2.2.1 Ca2, sl Aa3 xa.2.2.2.1 Ca3, sl Aa4 xa.2.2.2.2.1 Ca4, sl Aa5 xa.2.2.2.2.2.1 Ca5, sl Aa6 xa.2.2.2.2.2.2 Ca6] rfl rfl fun b90 => jal inf105 [ii 0, ii 0, ii 0, ii 0] rfl fun b91 => J.nil <| CJ.seq <| CJ.region ?_
 refine jm (.pointer none) rfl ?_
 obtain ⟨r92, hr93, h⟩ := ob h
 refine J.op rfl (A.call (L1 := []) call64 rfl (tick_Counter_Add_zii_ok hr93) rfl rfl) ?_
 rintro _ _ _ ⟨v94, _, rfl, ⟨⟨rfl, rfl, rfl⟩, rfl⟩, _, rfl⟩
 refine J.nil <| CJ.seq <| CJ.region ?_
 refine J.op rfl (A.litC (cs := [.func (.func 65) #[] #[], .func (.func 66) #[] #[], .func (.func 67) #[] #[], .func (.func 68) #[] #[], .func (.func 69) #[] #[], .func (.func 70) #[] #[], .func (.func 71) #[] #[]]) underlying112 inf106 (by decide) rfl rfl (by decide)) ?_
 rintro _ _ _ ⟨b97, rfl, rfl, rfl⟩
 refine ja (.slice (some ⟨b97, 0, none⟩) 7 7) rfl <| J.nil <| CJ.seq <| cr <| jm (.slice (some ⟨b97, 0, none⟩) 7 7) rfl <| jv (ii 7) (Val.eq (V.len underlying112 rfl) rfl) ?_
 refine jm (ii 0) rfl <| J.nil <| CJ.block <| CJ.unroll 64 <| RJ.next <| CJ.seq <| CJ.region ?_
 refine jv (.bool true) (Val.eq (V.lss rfl rfl) rfl) <| J.nil <| CJ.seq <| CJ.condK (b := true) rfl rfl <| CJ.skip <| CJ.seq <| CJ.block ?_
 refine cr <| jv _ (Val.eq (V.iad underlying112 sz106 rfl rfl rfl (by decide) (by decide)) rfl) <| jv (.func (.func 65) #[] #[]) (V.ld rfl (Ld.sc sc106 (Rd.cl 0 rfl rfl))) <| ja (.func (.func 65) #[] #[]) rfl <| J.nil <| CJ.seq ?_
 refine CJ.region <| jm (.func (.func 65) #[] #[]) rfl <| jv (.agg #[ii xa.1, ii xa.2.1, sl Aa2 xa.2.2.1 Ca2, sl Aa3 xa.2.2.2.1 Ca3, sl Aa4 xa.2.2.2.2.1 Ca4, sl Aa5 xa.2.2.2.2.2.1 Ca5, sl Aa6 xa.2.2.2.2.2.2 Ca6]) (V.ld rfl (Ld.agg (cs := [ii xa.1, ii xa.2.1, sl Aa2 xa.2.2.1 Ca2, sl Aa3 xa.2.2.2.1 Ca3, sl Aa4 xa.2.2.2.2.1 Ca4, sl Aa5 xa.2.2.2.2.2.1 Ca5, sl Aa6 xa.2.2.2.2.2.2 Ca6]) underlying30 sz30 rfl (Rd.cls 2 0 rfl rfl))) <| jm (.pointer none) rfl ?_
 obtain ⟨r98, hr99, h⟩ := ob h
 refine J.op rfl (A.call (L1 := []) call65 rfl (valid_head_az_ok Ga2 Ga3 Ga4 Ga5 Ga6 hr99) rfl rfl) ?_
 rintro _ _ _ ⟨v7, _, rfl, ⟨⟨i9, i10, i11, i12, rfl, rfl, rfl⟩, rfl⟩, _, rfl⟩
 refine jal inf105 [ii 0, ii 0, ii 0, ii 0] rfl fun b13 => js [ii i9, ii i10, ii i11, ii i12] sz105 rfl rfl rfl rfl rfl rfl <| J.nil <| cr <| jv _ (V.fad underlying105 rfl nz72 rfl) <| jv (ii i9) (V.ld rfl (Ld.sc sc72 (Rd.cl 0 rfl rfl))) ?_
 refine jv (.bool (!decide (i9 = 0))) (V.neq rfl rfl) <| J.nil <| cc rfl h (fun hc14 h => ?_) fun hc14 h => ?_
 · refine cr <| jv (.agg #[ii i9, ii i10, ii i11, ii i12]) (V.ld rfl (Ld.agg (cs := [ii i9, ii i10, ii i11, ii i12]) underlying105 sz105 rfl (Rd.cls 0 0 rfl rfl))) <| J.front 2 rfl <| js [ii i9, ii i10, ii i11, ii i12] sz105 rfl rfl rfl rfl rfl rfl <| J.nil <| CJ.ret ?_
   obtain rfl := si h
   exact ⟨_, _, Res.one rfl ⟨_, _, rfl, Ld.agg (cs := [ii i9, ii i10, ii i11, ii i12]) underlying105 sz105 rfl (Rd.cls 0 0 rfl rfl)⟩, ⟨i9, i10, i11, i12, rfl, rfl, rfl⟩, hpr, fun w hs => (Sep.dropAt 0 rfl (Sep.dropAt 0 rfl (Sep.dropAt 0 rfl (Sep.dropAt 0 rfl hs))))⟩
 refine CJ.skip <| CJ.region <| jv (ii 1) (Val.eq (V.add rfl rfl) rfl) <| jm (ii 1) rfl <| J.nil <| RJ.next <| CJ.seq ?_
 refine CJ.region <| jv (.bool true) (Val.eq (V.lss rfl rfl) rfl) <| J.nil <| CJ.seq <| CJ.condK (b := true) rfl rfl <| CJ.skip <| CJ.seq ?_
 refine CJ.block <| cr <| jv _ (Val.eq (V.iad underlying112 sz106 rfl rfl rfl (by decide) (by decide)) rfl) <| jv (.func (.func 66) #[] #[]) (V.ld rfl (Ld.sc sc106 (Rd.cl 1 rfl rfl))) <| ja (.func (.func 66) #[] #[]) rfl <| J.nil ?_
 refine cr <| jm (.func (.func 66) #[] #[]) rfl <| jv (.agg #[ii xa.1, ii xa.2.1, sl Aa2 xa.2.2.1 Ca2, sl Aa3 xa.2.2.2.1 Ca3, sl Aa4 xa.2.2.2.2.1 Ca4, sl Aa5 xa.2.2.2.2.2.1 Ca5, sl Aa6 xa.2.2.2.2.2.2 Ca6]) (V.ld rfl (Ld.agg (cs := [ii xa.1, ii xa.2.1, sl Aa2 xa.2.2.1 Ca2, sl Aa3 xa.2.2.2.1 Ca3, sl Aa4 xa.2.2.2.2.1 Ca4, sl Aa5 xa.2.2.2.2.2.1 Ca5, sl Aa6 xa.2.2.2.2.2.2 Ca6]) underlying30 sz30 rfl (Rd.cls 3 0 rfl rfl))) <| jm (.pointer none) rfl ?_
 obtain ⟨r15, hr17, h⟩ := ob h
 refine J.op rfl (A.call (L1 := []) call66 rfl (valid_bounds_az_ok Ga2 Ga3 Ga4 Ga5 Ga6 hr17) rfl rfl) ?_
 rintro _ _ _ ⟨v18, _, rfl, ⟨⟨i19, i20, i21, i22, rfl, rfl, rfl⟩, rfl⟩, _, rfl⟩
 refine jal inf105 [ii 0, ii 0, ii 0, ii 0] rfl fun b23 => js [ii i19, ii i20, ii i21, ii i22] sz105 rfl rfl rfl rfl rfl rfl <| J.nil <| cr <| jv _ (V.fad underlying105 rfl nz72 rfl) <| jv (ii i19) (V.ld rfl (Ld.sc sc72 (Rd.cl 0 rfl rfl))) ?_
 refine jv (.bool (!decide (i19 = 0))) (V.neq rfl rfl) <| J.nil <| cc rfl h (fun hc24 h => ?_) fun hc24 h => ?_
 · refine cr <| jv (.agg #[ii i19, ii i20, ii i21, ii i22]) (V.ld rfl (Ld.agg (cs := [ii i19, ii i20, ii i21, ii i22]) underlying105 sz105 rfl (Rd.cls 0 0 rfl rfl))) <| J.front 3 rfl <| js [ii i19, ii i20, ii i21, ii i22] sz105 rfl rfl rfl rfl rfl rfl <| J.nil <| CJ.ret ?_
   obtain rfl := si h
   exact ⟨_, _, Res.one rfl ⟨_, _, rfl, Ld.agg (cs := [ii i19, ii i20, ii i21, ii i22]) underlying105 sz105 rfl (Rd.cls 0 0 rfl rfl)⟩, ⟨i19, i20, i21, i22, rfl, rfl, rfl⟩, hpr, fun w hs => (Sep.dropAt 0 rfl (Sep.dropAt 0 rfl (Sep.dropAt 0 rfl (Sep.dropAt 0 rfl (Sep.dropAt 0 rfl hs)))))⟩
 refine CJ.skip <| CJ.region <| jv (ii 2) (Val.eq (V.add rfl rfl) rfl) <| jm (ii 2) rfl <| J.nil <| RJ.next <| CJ.seq ?_
 refine CJ.region <| jv (.bool true) (Val.eq (V.lss rfl rfl) rfl) <| J.nil <| CJ.seq <| CJ.condK (b := true) rfl rfl <| CJ.skip <| CJ.seq ?_
 refine CJ.block <| cr <| jv _ (Val.eq (V.iad underlying112 sz106 rfl rfl rfl (by decide) (by decide)) rfl) <| jv (.func (.func 67) #[] #[]) (V.ld rfl (Ld.sc sc106 (Rd.cl 2 rfl rfl))) <| ja (.func (.func 67) #[] #[]) rfl <| J.nil ?_
 refine cr <| jm (.func (.func 67) #[] #[]) rfl <| jv (.agg #[ii xa.1, ii xa.2.1, sl Aa2 xa.2.2.1 Ca2, sl Aa3 xa.2.2.2.1 Ca3, sl Aa4 xa.2.2.2.2.1 Ca4, sl Aa5 xa.2.2.2.2.2.1 Ca5, sl Aa6 xa.2.2.2.2.2.2 Ca6]) (V.ld rfl (Ld.agg (cs := [ii xa.1, ii xa.2.1, sl Aa2 xa.2.2.1 Ca2, sl Aa3 xa.2.2.2.1 Ca3, sl Aa4 xa.2.2.2.2.1 Ca4, sl Aa5 xa.2.2.2.2.2.1 Ca5, sl Aa6 xa.2.2.2.2.2.2 Ca6]) underlying30 sz30 rfl (Rd.cls 4 0 rfl rfl))) <| jm (.pointer none) rfl ?_
 obtain ⟨r25, hr26, h⟩ := ob h
 refine J.op rfl (A.call (L1 := []) call67 rfl (valid_locals_az_ok Ga2 Ga3 Ga4 Ga5 Ga6 hr26) rfl rfl) ?_
 rintro _ _ _ ⟨v27, _, rfl, ⟨⟨i28, i29, i31, i33, rfl, rfl, rfl⟩, rfl⟩, _, rfl⟩
 refine jal inf105 [ii 0, ii 0, ii 0, ii 0] rfl fun b34 => js [ii i28, ii i29, ii i31, ii i33] sz105 rfl rfl rfl rfl rfl rfl <| J.nil <| cr <| jv _ (V.fad underlying105 rfl nz72 rfl) <| jv (ii i28) (V.ld rfl (Ld.sc sc72 (Rd.cl 0 rfl rfl))) ?_
 refine jv (.bool (!decide (i28 = 0))) (V.neq rfl rfl) <| J.nil <| cc rfl h (fun hc35 h => ?_) fun hc35 h => ?_
 · refine cr <| jv (.agg #[ii i28, ii i29, ii i31, ii i33]) (V.ld rfl (Ld.agg (cs := [ii i28, ii i29, ii i31, ii i33]) underlying105 sz105 rfl (Rd.cls 0 0 rfl rfl))) <| J.front 4 rfl <| js [ii i28, ii i29, ii i31, ii i33] sz105 rfl rfl rfl rfl rfl rfl <| J.nil <| CJ.ret ?_
   obtain rfl := si h
   exact ⟨_, _, Res.one rfl ⟨_, _, rfl, Ld.agg (cs := [ii i28, ii i29, ii i31, ii i33]) underlying105 sz105 rfl (Rd.cls 0 0 rfl rfl)⟩, ⟨i28, i29, i31, i33, rfl, rfl, rfl⟩, hpr, fun w hs => (Sep.dropAt 0 rfl (Sep.dropAt 0 rfl (Sep.dropAt 0 rfl (Sep.dropAt 0 rfl (Sep.dropAt 0 rfl (Sep.dropAt 0 rfl hs))))))⟩
 refine CJ.skip <| CJ.region <| jv (ii 3) (Val.eq (V.add rfl rfl) rfl) <| jm (ii 3) rfl <| J.nil <| RJ.next <| CJ.seq ?_
 refine CJ.region <| jv (.bool true) (Val.eq (V.lss rfl rfl) rfl) <| J.nil <| CJ.seq <| CJ.condK (b := true) rfl rfl <| CJ.skip <| CJ.seq ?_
 refine CJ.block <| cr <| jv _ (Val.eq (V.iad underlying112 sz106 rfl rfl rfl (by decide) (by decide)) rfl) <| jv (.func (.func 68) #[] #[]) (V.ld rfl (Ld.sc sc106 (Rd.cl 3 rfl rfl))) <| ja (.func (.func 68) #[] #[]) rfl <| J.nil ?_
 refine cr <| jm (.func (.func 68) #[] #[]) rfl <| jv (.agg #[ii xa.1, ii xa.2.1, sl Aa2 xa.2.2.1 Ca2, sl Aa3 xa.2.2.2.1 Ca3, sl Aa4 xa.2.2.2.2.1 Ca4, sl Aa5 xa.2.2.2.2.2.1 Ca5, sl Aa6 xa.2.2.2.2.2.2 Ca6]) (V.ld rfl (Ld.agg (cs := [ii xa.1, ii xa.2.1, sl Aa2 xa.2.2.1 Ca2, sl Aa3 xa.2.2.2.1 Ca3, sl Aa4 xa.2.2.2.2.1 Ca4, sl Aa5 xa.2.2.2.2.2.1 Ca5, sl Aa6 xa.2.2.2.2.2.2 Ca6]) underlying30 sz30 rfl (Rd.cls 5 0 rfl rfl))) <| jm (.pointer none) rfl ?_
 obtain ⟨r36, hr37, h⟩ := ob h
 refine J.op rfl (A.call (L1 := []) call68 rfl (valid_ret_az_ok Ga2 Ga3 Ga4 Ga5 Ga6 hr37) rfl rfl) ?_
 rintro _ _ _ ⟨v38, _, rfl, ⟨⟨i39, i40, i41, i42, rfl, rfl, rfl⟩, rfl⟩, _, rfl⟩
 refine jal inf105 [ii 0, ii 0, ii 0, ii 0] rfl fun b43 => js [ii i39, ii i40, ii i41, ii i42] sz105 rfl rfl rfl rfl rfl rfl <| J.nil <| cr <| jv _ (V.fad underlying105 rfl nz72 rfl) <| jv (ii i39) (V.ld rfl (Ld.sc sc72 (Rd.cl 0 rfl rfl))) ?_
 refine jv (.bool (!decide (i39 = 0))) (V.neq rfl rfl) <| J.nil <| cc rfl h (fun hc44 h => ?_) fun hc44 h => ?_
 · refine cr <| jv (.agg #[ii i39, ii i40, ii i41, ii i42]) (V.ld rfl (Ld.agg (cs := [ii i39, ii i40, ii i41, ii i42]) underlying105 sz105 rfl (Rd.cls 0 0 rfl rfl))) <| J.front 5 rfl <| js [ii i39, ii i40, ii i41, ii i42] sz105 rfl rfl rfl rfl rfl rfl <| J.nil <| CJ.ret ?_
   obtain rfl := si h
   exact ⟨_, _, Res.one rfl ⟨_, _, rfl, Ld.agg (cs := [ii i39, ii i40, ii i41, ii i42]) underlying105 sz105 rfl (Rd.cls 0 0 rfl rfl)⟩, ⟨i39, i40, i41, i42, rfl, rfl, rfl⟩, hpr, fun w hs => (Sep.dropAt 0 rfl (Sep.dropAt 0 rfl (Sep.dropAt 0 rfl (Sep.dropAt 0 rfl (Sep.dropAt 0 rfl (Sep.dropAt 0 rfl (Sep.dropAt 0 rfl hs)))))))⟩
 refine CJ.skip <| CJ.region <| jv (ii 4) (Val.eq (V.add rfl rfl) rfl) <| jm (ii 4) rfl <| J.nil <| RJ.next <| CJ.seq ?_
 refine CJ.region <| jv (.bool true) (Val.eq (V.lss rfl rfl) rfl) <| J.nil <| CJ.seq <| CJ.condK (b := true) rfl rfl <| CJ.skip <| CJ.seq ?_
 refine CJ.block <| cr <| jv _ (Val.eq (V.iad underlying112 sz106 rfl rfl rfl (by decide) (by decide)) rfl) <| jv (.func (.func 69) #[] #[]) (V.ld rfl (Ld.sc sc106 (Rd.cl 4 rfl rfl))) <| ja (.func (.func 69) #[] #[]) rfl <| J.nil ?_
 refine cr <| jm (.func (.func 69) #[] #[]) rfl <| jv (.agg #[ii xa.1, ii xa.2.1, sl Aa2 xa.2.2.1 Ca2, sl Aa3 xa.2.2.2.1 Ca3, sl Aa4 xa.2.2.2.2.1 Ca4, sl Aa5 xa.2.2.2.2.2.1 Ca5, sl Aa6 xa.2.2.2.2.2.2 Ca6]) (V.ld rfl (Ld.agg (cs := [ii xa.1, ii xa.2.1, sl Aa2 xa.2.2.1 Ca2, sl Aa3 xa.2.2.2.1 Ca3, sl Aa4 xa.2.2.2.2.1 Ca4, sl Aa5 xa.2.2.2.2.2.1 Ca5, sl Aa6 xa.2.2.2.2.2.2 Ca6]) underlying30 sz30 rfl (Rd.cls 6 0 rfl rfl))) <| jm (.pointer none) rfl ?_
 obtain ⟨r45, hr46, h⟩ := ob h
 refine J.op rfl (A.call (L1 := []) call69 rfl (valid_sigs_az_ok Ga2 Ga3 Ga4 Ga5 Ga6 hr46) rfl rfl) ?_
 rintro _ _ _ ⟨v47, _, rfl, ⟨⟨i48, i49, i50, i51, rfl, rfl, rfl⟩, rfl⟩, _, rfl⟩
 refine jal inf105 [ii 0, ii 0, ii 0, ii 0] rfl fun b52 => js [ii i48, ii i49, ii i50, ii i51] sz105 rfl rfl rfl rfl rfl rfl <| J.nil <| cr <| jv _ (V.fad underlying105 rfl nz72 rfl) <| jv (ii i48) (V.ld rfl (Ld.sc sc72 (Rd.cl 0 rfl rfl))) ?_
 refine jv (.bool (!decide (i48 = 0))) (V.neq rfl rfl) <| J.nil <| cc rfl h (fun hc53 h => ?_) fun hc53 h => ?_
 · refine cr <| jv (.agg #[ii i48, ii i49, ii i50, ii i51]) (V.ld rfl (Ld.agg (cs := [ii i48, ii i49, ii i50, ii i51]) underlying105 sz105 rfl (Rd.cls 0 0 rfl rfl))) <| J.front 6 rfl <| js [ii i48, ii i49, ii i50, ii i51] sz105 rfl rfl rfl rfl rfl rfl <| J.nil <| CJ.ret ?_
   obtain rfl := si h
   exact ⟨_, _, Res.one rfl ⟨_, _, rfl, Ld.agg (cs := [ii i48, ii i49, ii i50, ii i51]) underlying105 sz105 rfl (Rd.cls 0 0 rfl rfl)⟩, ⟨i48, i49, i50, i51, rfl, rfl, rfl⟩, hpr, fun w hs => (Sep.dropAt 0 rfl (Sep.dropAt 0 rfl (Sep.dropAt 0 rfl (Sep.dropAt 0 rfl (Sep.dropAt 0 rfl (Sep.dropAt 0 rfl (Sep.dropAt 0 rfl (Sep.dropAt 0 rfl hs))))))))⟩
 refine CJ.skip <| CJ.region <| jv (ii 5) (Val.eq (V.add rfl rfl) rfl) <| jm (ii 5) rfl <| J.nil <| RJ.next <| CJ.seq ?_
 refine CJ.region <| jv (.bool true) (Val.eq (V.lss rfl rfl) rfl) <| J.nil <| CJ.seq <| CJ.condK (b := true) rfl rfl <| CJ.skip <| CJ.seq ?_
 refine CJ.block <| cr <| jv _ (Val.eq (V.iad underlying112 sz106 rfl rfl rfl (by decide) (by decide)) rfl) <| jv (.func (.func 70) #[] #[]) (V.ld rfl (Ld.sc sc106 (Rd.cl 5 rfl rfl))) <| ja (.func (.func 70) #[] #[]) rfl <| J.nil ?_
 refine cr <| jm (.func (.func 70) #[] #[]) rfl <| jv (.agg #[ii xa.1, ii xa.2.1, sl Aa2 xa.2.2.1 Ca2, sl Aa3 xa.2.2.2.1 Ca3, sl Aa4 xa.2.2.2.2.1 Ca4, sl Aa5 xa.2.2.2.2.2.1 Ca5, sl Aa6 xa.2.2.2.2.2.2 Ca6]) (V.ld rfl (Ld.agg (cs := [ii xa.1, ii xa.2.1, sl Aa2 xa.2.2.1 Ca2, sl Aa3 xa.2.2.2.1 Ca3, sl Aa4 xa.2.2.2.2.1 Ca4, sl Aa5 xa.2.2.2.2.2.1 Ca5, sl Aa6 xa.2.2.2.2.2.2 Ca6]) underlying30 sz30 rfl (Rd.cls 7 0 rfl rfl))) <| jm (.pointer none) rfl ?_
 obtain ⟨r54, hr55, h⟩ := ob h
 refine J.op rfl (A.call (L1 := []) call70 rfl (valid_blocks_az_ok Ga2 Ga3 Ga4 Ga5 Ga6 hr55) rfl rfl) ?_
 rintro _ _ _ ⟨v56, _, rfl, ⟨⟨i57, i59, i60, i61, rfl, rfl, rfl⟩, rfl⟩, _, rfl⟩
 refine jal inf105 [ii 0, ii 0, ii 0, ii 0] rfl fun b62 => js [ii i57, ii i59, ii i60, ii i61] sz105 rfl rfl rfl rfl rfl rfl <| J.nil <| cr <| jv _ (V.fad underlying105 rfl nz72 rfl) <| jv (ii i57) (V.ld rfl (Ld.sc sc72 (Rd.cl 0 rfl rfl))) ?_
 refine jv (.bool (!decide (i57 = 0))) (V.neq rfl rfl) <| J.nil <| cc rfl h (fun hc63 h => ?_) fun hc63 h => ?_
 · refine cr <| jv (.agg #[ii i57, ii i59, ii i60, ii i61]) (V.ld rfl (Ld.agg (cs := [ii i57, ii i59, ii i60, ii i61]) underlying105 sz105 rfl (Rd.cls 0 0 rfl rfl))) <| J.front 7 rfl <| js [ii i57, ii i59, ii i60, ii i61] sz105 rfl rfl rfl rfl rfl rfl <| J.nil <| CJ.ret ?_
   obtain rfl := si h
   exact ⟨_, _, Res.one rfl ⟨_, _, rfl, Ld.agg (cs := [ii i57, ii i59, ii i60, ii i61]) underlying105 sz105 rfl (Rd.cls 0 0 rfl rfl)⟩, ⟨i57, i59, i60, i61, rfl, rfl, rfl⟩, hpr, fun w hs => (Sep.dropAt 0 rfl (Sep.dropAt 0 rfl (Sep.dropAt 0 rfl (Sep.dropAt 0 rfl (Sep.dropAt 0 rfl (Sep.dropAt 0 rfl (Sep.dropAt 0 rfl (Sep.dropAt 0 rfl (Sep.dropAt 0 rfl hs)))))))))⟩
 refine CJ.skip <| CJ.region <| jv (ii 6) (Val.eq (V.add rfl rfl) rfl) <| jm (ii 6) rfl <| J.nil <| RJ.next <| CJ.seq ?_
 refine CJ.region <| jv (.bool true) (Val.eq (V.lss rfl rfl) rfl) <| J.nil <| CJ.seq <| CJ.condK (b := true) rfl rfl <| CJ.skip <| CJ.seq ?_
 refine CJ.block <| cr <| jv _ (Val.eq (V.iad underlying112 sz106 rfl rfl rfl (by decide) (by decide)) rfl) <| jv (.func (.func 71) #[] #[]) (V.ld rfl (Ld.sc sc106 (Rd.cl 6 rfl rfl))) <| ja (.func (.func 71) #[] #[]) rfl <| J.nil ?_
 refine cr <| jm (.func (.func 71) #[] #[]) rfl <| jv (.agg #[ii xa.1, ii xa.2.1, sl Aa2 xa.2.2.1 Ca2, sl Aa3 xa.2.2.2.1 Ca3, sl Aa4 xa.2.2.2.2.1 Ca4, sl Aa5 xa.2.2.2.2.2.1 Ca5, sl Aa6 xa.2.2.2.2.2.2 Ca6]) (V.ld rfl (Ld.agg (cs := [ii xa.1, ii xa.2.1, sl Aa2 xa.2.2.1 Ca2, sl Aa3 xa.2.2.2.1 Ca3, sl Aa4 xa.2.2.2.2.1 Ca4, sl Aa5 xa.2.2.2.2.2.1 Ca5, sl Aa6 xa.2.2.2.2.2.2 Ca6]) underlying30 sz30 rfl (Rd.cls 8 0 rfl rfl))) <| jm (.pointer none) rfl ?_
 obtain ⟨r73, hr74, h⟩ := ob h
 refine J.op rfl (A.call (L1 := []) call71 rfl (valid_code_az_ok Ga2 Ga3 Ga4 Ga5 Ga6 hr74) rfl rfl) ?_
 rintro _ _ _ ⟨v75, _, rfl, ⟨⟨i76, i77, i78, i79, rfl, rfl, rfl⟩, rfl⟩, _, rfl⟩
 refine jal inf105 [ii 0, ii 0, ii 0, ii 0] rfl fun b80 => js [ii i76, ii i77, ii i78, ii i79] sz105 rfl rfl rfl rfl rfl rfl <| J.nil <| cr <| jv _ (V.fad underlying105 rfl nz72 rfl) <| jv (ii i76) (V.ld rfl (Ld.sc sc72 (Rd.cl 0 rfl rfl))) ?_
 refine jv (.bool (!decide (i76 = 0))) (V.neq rfl rfl) <| J.nil <| cc rfl h (fun hc81 h => ?_) fun hc81 h => ?_
 · refine cr <| jv (.agg #[ii i76, ii i77, ii i78, ii i79]) (V.ld rfl (Ld.agg (cs := [ii i76, ii i77, ii i78, ii i79]) underlying105 sz105 rfl (Rd.cls 0 0 rfl rfl))) <| J.front 8 rfl <| js [ii i76, ii i77, ii i78, ii i79] sz105 rfl rfl rfl rfl rfl rfl <| J.nil <| CJ.ret ?_
   obtain rfl := si h
   exact ⟨_, _, Res.one rfl ⟨_, _, rfl, Ld.agg (cs := [ii i76, ii i77, ii i78, ii i79]) underlying105 sz105 rfl (Rd.cls 0 0 rfl rfl)⟩, ⟨i76, i77, i78, i79, rfl, rfl, rfl⟩, hpr, fun w hs => (Sep.dropAt 0 rfl (Sep.dropAt 0 rfl (Sep.dropAt 0 rfl (Sep.dropAt 0 rfl (Sep.dropAt 0 rfl (Sep.dropAt 0 rfl (Sep.dropAt 0 rfl (Sep.dropAt 0 rfl (Sep.dropAt 0 rfl (Sep.dropAt 0 rfl hs))))))))))⟩
 refine CJ.skip <| CJ.region <| jv (ii 7) (Val.eq (V.add rfl rfl) rfl) <| jm (ii 7) rfl <| J.nil <| RJ.next <| CJ.seq ?_
 refine CJ.region <| jv (.bool false) (Val.eq (V.lss rfl rfl) rfl) <| J.nil <| CJ.seq <| CJ.condK (b := false) rfl rfl <| CJ.exit <| CJ.seq ?_
 refine CJ.region <| jv (.agg #[ii 0, ii 0, ii 0, ii 0]) (V.build inf105 places105 rfl rfl) <| J.front 8 rfl <| js [ii 0, ii 0, ii 0, ii 0] sz105 rfl rfl rfl rfl rfl rfl <| J.nil <| CJ.ret ?_
 obtain rfl := si h
 exact ⟨_, _, Res.one rfl ⟨_, _, rfl, Ld.agg (cs := [ii 0, ii 0, ii 0, ii 0]) underlying105 sz105 rfl (Rd.cls 0 0 rfl rfl)⟩, ⟨0, 0, 0, 0, rfl, rfl, rfl⟩, hpr, fun w hs => (Sep.dropAt 0 rfl (Sep.dropAt 0 rfl (Sep.dropAt 0 rfl (Sep.dropAt 0 rfl (Sep.dropAt 0 rfl (Sep.dropAt 0 rfl (Sep.dropAt 0 rfl (Sep.dropAt 0 rfl (Sep.dropAt 0 rfl (Sep.dropAt 0 rfl hs))))))))))⟩

noncomputable def fn_valid_OK (xa : Tq1) : Option Bool :=
  (fn_valid_Check_az (xa.1, xa.2.1, xa.2.2.1, xa.2.2.2.1, xa.2.2.2.2.1, xa.2.2.2.2.2.1, xa.2.2.2.2.2.2)).bind fun (i15, i17, i18, i19) => some (decide (i15 = 0))
theorem valid_OK_ok {K : Hp} {xa : Tq1} {Aa2 : Option Addr} {Ca2 : Nat} {Aa3 : Option Addr} {Ca3 : Nat} {Aa4 : Option Addr} {Ca4 : Nat} {Aa5 : Option Addr} {Ca5 : Nat} {Aa6 : Option Addr} {Ca6 : Nat} (Ga2 : Is K (.sl Yq5) [sl Aa2 xa.2.2.1 Ca2] xa.2.2.1) (Ga3 : Is K Yq8 [sl Aa3 xa.2.2.2.1 Ca3] xa.2.2.2.1) (Ga4 : Is K (.sl Yq1) [sl Aa4 xa.2.2.2.2.1 Ca4] xa.2.2.2.2.1) (Ga5 : Is K Yq4 [sl Aa5 xa.2.2.2.2.2.1 Ca5] xa.2.2.2.2.2.1) (Ga6 : Is K (.sl Yq3) [sl Aa6 xa.2.2.2.2.2.2 Ca6] xa.2.2.2.2.2.2) {r : Bool} (h : fn_valid_OK xa = some r) :
    Tr Tryz.prog 41 #[.agg #[ii xa.1, ii xa.2.1, sl Aa2 xa.2.2.1 Ca2, sl Aa3 xa.2.2.2.1 Ca3, sl Aa4 xa.2.2.2.2.1 Ca4, sl Aa5 xa.2.2.2.2.2.1 Ca5, sl Aa6 xa.2.2.2.2.2.2 Ca6]] K [] (fun v K' L' => (∃ (t11 : Bool), t11 = r ∧ .bool t11 = v ∧ L' = []) ∧ K = K') := by
 refine Tr.k <| Tr.of func41 rfl ntmps41 rfl fun E F => ?_
 unfold fn_valid_OK at h
 refine cr <| jbx [ii xa.1, ii xa.2.1, sl Aa2 xa.2.2.1 Ca2, sl Aa3 xa.2.2.2.1 Ca3, sl Aa4 xa.2.2.2.2.1 Ca4, sl Aa5 xa.2.2.2.2.2.1 Ca5, sl Aa6 xa.2.2.2.2.2.2 Ca6] rfl rfl fun b12 => ja (.bool false) rfl <| J.nil <| CJ.seq <| CJ.region ?_
 refine jv (.agg #[ii xa.1, ii xa.2.1, sl Aa2 xa.2.2.1 Ca2, sl Aa3 xa.2.2.2.1 Ca3, sl Aa4 xa.2.2.2.2.1 Ca4, sl Aa5 xa.2.2.2.2.2.1 Ca5, sl Aa6 xa.2.2.2.2.2.2 Ca6]) (V.ld rfl (Ld.agg (cs := [ii xa.1, ii xa.2.1, sl Aa2 xa.2.2.1 Ca2, sl Aa3 xa.2.2.2.1 Ca3, sl Aa4 xa.2.2.2.2.1 Ca4, sl Aa5 xa.2.2.2.2.2.1 Ca5, sl Aa6 xa.2.2.2.2.2.2 Ca6]) underlying30 sz30 rfl (Rd.cls 0 0 rfl rfl))) ?_
 obtain ⟨r13, hr14, h⟩ := ob h
 refine J.op rfl (A.call (L1 := []) call58 rfl (valid_Check_az_ok Ga2 Ga3 Ga4 Ga5 Ga6 hr14) rfl rfl) ?_
 rintro _ _ _ ⟨v20, _, rfl, ⟨⟨i15, i17, i18, i19, rfl, rfl, rfl⟩, rfl⟩, _, rfl⟩
 refine jv (ii i15) (V.fld (ft := 0) underlying105 rfl (Ld0.sc sc72 rfl) rfl) <| jv (.bool (decide (i15 = 0))) (V.eql rfl rfl) <| ja (.bool (decide (i15 = 0))) rfl <| J.nil <| CJ.ret ?_
 obtain rfl := si h
 exact ⟨_, _, Res.one rfl rfl, ⟨decide (i15 = 0), rfl, rfl, rfl⟩, hpr, fun w hs => (Sep.dropAt 0 rfl hs)⟩
noncomputable def fn_point_New_l1 (xa : Tq1) : (Int × (List Int) × Int) → Option ((Int × (List Int) × Int) ⊕ ((List Int) × Int)) := fun ((i1, l2, i3) : (Int × (List Int) × Int)) => cond (decide (i1 < (((xa.2.2.2.2.2.2.length : Nat) : Int)))) ((getI xa.2.2.2.2.2.2 i1).bind fun x4 => (app l2 ([i3] : List Int)).bind fun z5 => some (.inl ((IntKind.wrap .i64 (i1 + 1), z5, IntKind.wrap .i64 (i3 + (IntKind.wrap .i64 ((((x4.1.length : Nat) : Int)) + 1))))))) (some (.inr (((l2, i3)))))
noncomputable def fn_point_New (xa : Tq1) : Option (Tq9) :=
  (fn_valid_OK (xa.1, xa.2.1, xa.2.2.1, xa.2.2.2.1, xa.2.2.2.2.1, xa.2.2.2.2.2.1, xa.2.2.2.2.2.2)).bind fun t1 => cond (!t1) (some ((some ([], 0)))) ((loop (fn_point_New_l1 xa) (0, [], 0) : Option (((List Int) × Int))).bind fun (l2, i3) => some ((some (l2, i3))))
theorem point_New_ok {K : Hp} {xa : Tq1} {Aa2 : Option Addr} {Ca2 : Nat} {Aa3 : Option Addr} {Ca3 : Nat} {Aa4 : Option Addr} {Ca4 : Nat} {Aa5 : Option Addr} {Ca5 : Nat} {Aa6 : Option Addr} {Ca6 : Nat} (Ga2 : Is K (.sl Yq5) [sl Aa2 xa.2.2.1 Ca2] xa.2.2.1) (Ga3 : Is K Yq8 [sl Aa3 xa.2.2.2.1 Ca3] xa.2.2.2.1) (Ga4 : Is K (.sl Yq1) [sl Aa4 xa.2.2.2.2.1 Ca4] xa.2.2.2.2.1) (Ga5 : Is K Yq4 [sl Aa5 xa.2.2.2.2.2.1 Ca5] xa.2.2.2.2.2.1) (Ga6 : Is K (.sl Yq3) [sl Aa6 xa.2.2.2.2.2.2 Ca6] xa.2.2.2.2.2.2) {r : Tq9} (h : fn_point_New xa = some r) :
    Tr Tryz.prog 26 #[.agg #[ii xa.1, ii xa.2.1, sl Aa2 xa.2.2.1 Ca2, sl Aa3 xa.2.2.2.1 Ca3, sl Aa4 xa.2.2.2.2.1 Ca4, sl Aa5 xa.2.2.2.2.2.1 Ca5, sl Aa6 xa.2.2.2.2.2.2 Ca6]] K [] (fun v K' L' => (∃ (p7 : Tq9) (v9 : Value), p7 = r ∧ v9 = v ∧ Is K' Yq9 [v9] p7 ∧ L' = [])) := by
 refine Tr.of func26 rfl ntmps26 rfl fun E F => ?_
 unfold fn_point_New at h
 refine cr <| jbx [ii xa.1, ii xa.2.1, sl Aa2 xa.2.2.1 Ca2, sl Aa3 xa.2.2.2.1 Ca3, sl Aa4 xa.2.2.2.2.1 Ca4, sl Aa5 xa.2.2.2.2.2.1 Ca5, sl Aa6 xa.2.2.2.2.2.2 Ca6] rfl rfl fun b10 => ja (.pointer none) rfl <| J.nil <| CJ.seq <| CJ.region ?_
 refine jv (.agg #[nos, ii 0]) (V.build inf82 places82 rfl rfl) <| jbx [nos, ii 0] rfl rfl fun b11 => ja _ rfl <| J.nil <| CJ.seq <| CJ.seq <| CJ.region ?_
 refine jv (.agg #[ii xa.1, ii xa.2.1, sl Aa2 xa.2.2.1 Ca2, sl Aa3 xa.2.2.2.1 Ca3, sl Aa4 xa.2.2.2.2.1 Ca4, sl Aa5 xa.2.2.2.2.2.1 Ca5, sl Aa6 xa.2.2.2.2.2.2 Ca6]) (V.ld rfl (Ld.agg (cs := [ii xa.1, ii xa.2.1, sl Aa2 xa.2.2.1 Ca2, sl Aa3 xa.2.2.2.1 Ca3, sl Aa4 xa.2.2.2.2.1 Ca4, sl Aa5 xa.2.2.2.2.2.1 Ca5, sl Aa6 xa.2.2.2.2.2.2 Ca6]) underlying30 sz30 rfl (Rd.cls 1 0 rfl rfl))) ?_
 obtain ⟨r12, hr13, h⟩ := ob h
 refine J.op rfl (A.call (L1 := []) call41 rfl (valid_OK_ok Ga2 Ga3 Ga4 Ga5 Ga6 hr13) rfl rfl) ?_
 rintro _ _ _ ⟨v14, _, rfl, ⟨⟨t15, rfl, rfl, rfl⟩, rfl⟩, _, rfl⟩
 refine jv (.bool (!t15)) (V.not rfl) <| J.nil <| cc rfl h (fun hc17 h => ?_) fun hc17 h => ?_
 · refine cr <| jm _ rfl <| ja _ rfl <| J.nil <| CJ.persistAt (t := (.cons Yq7 (.one (.int .i64)))) (x := ([], 0)) ⟨_, _, rfl, rfl, (isNil (K := K) (t := (.int .i64))), rfl⟩ fun K18 hK19 a20 => CJ.ret ?_
   obtain rfl := si h
   exact ⟨_, _, Res.one rfl rfl, ⟨(some ([], 0)), pt b11, rfl, rfl, (At.is_ptr a20), rfl⟩, hK19, fun w hs => (Sep.dropAt 0 rfl hs)⟩
 refine CJ.skip <| CJ.seq <| cr <| jv _ (V.fad underlying30 rfl nz28 rfl) <| jv (sl Aa6 xa.2.2.2.2.2.2 Ca6) (V.ld rfl (Ld.sc sc28 (Rd.cl 1 rfl rfl))) <| jv (ii (((xa.2.2.2.2.2.2.length : Nat) : Int))) (V.len underlying28 rfl) ?_
 refine jm (ii 0) rfl <| J.nil ?_
 obtain ⟨o21, ho22, h⟩ := ob h
 refine CJ.meetN (fun ρ K' L' => ∃ (l23 : (List Int)) (i24 : Int) (ad25 : Option Addr) (cp27 : Nat), (l23, i24) = o21 ∧ Fits [(3, pt b11)] ρ ∧ K = K' ∧ L' = Cl b11 82 [sl ad25 l23 cp27, ii i24] :: Row Hp.nil 3 (.int .i64) (sl ad25 l23 cp27) l23 :: F) ?_ ?_
 · refine CJ.block <| CJ.by (fun w hs => Sep.rowNil (e := 3) (t := (.int .i64)) hs) <| CJ.dropAt 2 rfl <| CJ.front 1 rfl <| CJ.loop (fun s ρ K' L' => ∃ (i29 : Int) (l31 : (List Int)) (i33 : Int) (ad34 : Option Addr) (cp35 : Nat), (i29, l31, i33) = s ∧ Fits [(3, pt b11), (13, sl Aa6 xa.2.2.2.2.2.2 Ca6), (14, ii (((xa.2.2.2.2.2.2.length : Nat) : Int))), (15, ii i29)] ρ ∧ K = K' ∧ L' = Cl b11 82 [sl ad34 l31 cp35, ii i33] :: Row Hp.nil 3 (.int .i64) (sl ad34 l31 cp35) l31 :: F) ho22 ⟨0, [], 0, none, 0, rfl, rt4, rfl, rfl⟩ ?_
   rintro s ρ _ _ r36 ⟨i29, l31, i33, ad34, cp35, rfl, hf37, rfl, rfl⟩ h38
   obtain ⟨ρ, rfl⟩ := hf37.ex
   refine CJ.front 1 rfl <| CJ.wit Row.hn fun hn39 => cr <| jv (.bool (decide (i29 < (((xa.2.2.2.2.2.2.length : Nat) : Int))))) (V.lss rfl rfl) <| J.nil <| CJ.seq ?_
   refine cc rfl h38 (fun hc40 h38 => ?_) fun hc40 h38 => ?_
   · refine CJ.skip <| CJ.seq <| CJ.block <| CJ.seq <| CJ.region ?_
     obtain ⟨x43, hx44, h38⟩ := ob h38
     obtain ⟨p45, p46, p47⟩ := getI_some hx44
     obtain ⟨b48, o49, e50, a51⟩ := (Ga6).at p46
     refine jv _ (V.iad underlying28 sz60 rfl e50 rfl p45 p47) ?_
     obtain ⟨ad52, cp53, c54, f55⟩ := ((a51).fst).sl
     obtain ⟨ad57, cp58, c59, f61⟩ := (((((((a51).snd).one).snd).snd).snd).fst).sl
     obtain ⟨ad62, cp63, c65, f66⟩ := ((((((((a51).snd).one).snd).snd).snd).snd).fst).sl
     obtain ⟨ad67, cp68, c69, f70⟩ := (((((((((a51).snd).one).snd).snd).snd).snd).snd).one).sl
     refine jv (.agg #[sl ad52 x43.1 cp53, ii x43.2.1, ii x43.2.2.1, ii x43.2.2.2.1, sl ad57 x43.2.2.2.2.1 cp58, sl ad62 x43.2.2.2.2.2.1 cp63, sl ad67 x43.2.2.2.2.2.2 cp68]) (V.ld rfl (Ld.aggK (cs := [sl ad52 x43.1 cp53, ii x43.2.1, ii x43.2.2.1, ii x43.2.2.2.1, sl ad57 x43.2.2.2.2.1 cp58, sl ad62 x43.2.2.2.2.2.1 cp63, sl ad67 x43.2.2.2.2.2.2 cp68]) underlying60 sz60 rfl ⟨c54, ((((a51).snd).one).fst).int, (((((a51).snd).one).snd).fst).int, ((((((a51).snd).one).snd).snd).fst).int, c59, c65, c69, trivial⟩ hpr)) <| jal inf60 [nos, ii 0, ii 0, ii 0, nos, nos, nos] rfl fun b71 => js [sl ad52 x43.1 cp53, ii x43.2.1, ii x43.2.2.1, ii x43.2.2.2.1, sl ad57 x43.2.2.2.2.1 cp58, sl ad62 x43.2.2.2.2.2.1 cp63, sl ad67 x43.2.2.2.2.2.2 cp68] sz60 rfl rfl rfl rfl rfl rfl <| J.nil <| CJ.seq <| CJ.mix [Cl b71 60 [sl ad52 x43.1 cp53, ii x43.2.1, ii x43.2.2.1, ii x43.2.2.2.1, sl ad57 x43.2.2.2.2.1 cp58, sl ad62 x43.2.2.2.2.2.1 cp63, sl ad67 x43.2.2.2.2.2.2 cp68], Cl b11 82 [sl ad34 l31 cp35, ii i33]] [([0, 1, 2, 3, 4, 5, 6, 7, 8], 9), ([], 10)] [11, 12] [13] mixO (by decide +kernel) ⟨0, rfl, 1, rfl, trivial⟩ rfl rfl rfl <| JM.cons ?_
     refine qm _ rfl <| qm _ rfl <| qv _ (V.nck rfl) <| qv _ (V.fad underlying82 rfl nz42 rfl) <| qv (sl ad34 l31 cp35) (V.ld rfl (Ld.sc sc42 (Rd.cl 1 rfl rfl))) <| qm _ rfl <| qv _ (V.nck rfl) ?_
     refine qv _ (V.fad underlying82 rfl nz3 rfl) <| qv (ii i33) (V.ld rfl (Ld.sc sc3 (Rd.cl 1 rfl rfl))) <| JQ.nil ?_
     refine JA.op rfl (A.lit (K0 := Hp.nil) (ty := (.int .i64)) (xs := ([i33] : List Int)) underlying42 inf3 rfl (by decide) rfl rfl rfl ⟨_, _, rfl, rfl, rfl⟩ rfl (by decide)) ?_
     rintro _ _ _ ⟨b72, rfl, rfl, rfl⟩
     have hn73 : ([i33] : List Int) ≠ [] → ∃ g, (some ⟨b72, 0, none⟩ : Option Addr) = some ⟨g, 0, none⟩ := fun _ => ⟨b72, rfl⟩
     refine ⟨fun w hs => Hold.sub hpr ⟨1, rfl, 2, rfl, trivial⟩ hs, ?_⟩
     refine JM.cons <| JQ.nil ?_
     obtain ⟨z74, hz75, h38⟩ := ob h38
     refine JA.front 2 rfl <| JA.op rfl (A.appR (Kr := Hp.nil) underlying42 inf3 rfl rfl (by decide) (by decide) rfl rfl (Els.flat rfl) (Els.flat rfl) hz75) ?_
     rintro _ _ _ ⟨v76, rfl, rfl, rfl⟩
     refine ⟨fun w hs => Hold.sub hpr ⟨1, rfl, 1, rfl, trivial⟩ hs, ?_⟩
     refine JM.wit Row.form ?_
     rintro ⟨ad77, cp78, rfl, _, _, hn79⟩
     refine JM.nil <| qv _ (V.nck rfl) <| qv _ (V.fad underlying82 rfl nz42 rfl) <| JQ.nil <| J.front 2 rfl <| js1 [sl ad77 z74 cp78, ii i33] sz42 rfl rfl rfl rfl rfl rfl <| J.nil ?_
     refine CJ.mix [Cl b11 82 [sl ad77 z74 cp78, ii i33], Row Hp.nil 3 (.int .i64) (sl ad77 z74 cp78) z74, Cl b71 60 [sl ad52 x43.1 cp53, ii x43.2.1, ii x43.2.2.1, ii x43.2.2.2.1, sl ad57 x43.2.2.2.2.1 cp58, sl ad62 x43.2.2.2.2.2.1 cp63, sl ad67 x43.2.2.2.2.2.2 cp68]] [] [0, 1, 2, 3, 4, 5, 6, 7, 8, 9, 10] [11] mixO (by decide +kernel) ⟨0, rfl, 0, rfl, 0, rfl, trivial⟩ rfl rfl rfl <| JM.nil <| qm _ rfl <| qv _ (V.nck rfl) <| qv _ (V.fad underlying82 rfl nz3 rfl) <| qv (ii i33) (V.ld rfl (Ld.sc sc3 (Rd.cl 0 rfl rfl))) <| qv _ (V.fad underlying60 rfl nz56 rfl) ?_
     refine qv (sl ad52 x43.1 cp53) (V.ld rfl (Ld.sc sc56 (Rd.cl 2 rfl rfl))) <| qv (ii (((x43.1.length : Nat) : Int))) (V.len underlying56 rfl) <| qv (ii (IntKind.wrap .i64 ((((x43.1.length : Nat) : Int)) + 1))) (V.add rfl rfl) <| qv (ii (IntKind.wrap .i64 (i33 + (IntKind.wrap .i64 ((((x43.1.length : Nat) : Int)) + 1))))) (V.add rfl rfl) <| qv _ (V.nck rfl) <| qv _ (V.fad underlying82 rfl nz3 rfl) <| JQ.nil ?_
     refine js1 [sl ad77 z74 cp78, ii (IntKind.wrap .i64 (i33 + (IntKind.wrap .i64 ((((x43.1.length : Nat) : Int)) + 1))))] sz3 rfl rfl rfl rfl rfl rfl <| J.nil <| CJ.region <| jv (ii (IntKind.wrap .i64 (i29 + 1))) (V.add rfl rfl) <| jm (ii (IntKind.wrap .i64 (i29 + 1))) rfl <| J.dropAt 2 rfl <| J.nil ?_
     obtain rfl := si h38
     exact ⟨rfl, ⟨IntKind.wrap .i64 (i29 + 1), z74, IntKind.wrap .i64 (i33 + (IntKind.wrap .i64 ((((x43.1.length : Nat) : Int)) + 1))), ad77, cp78, rfl, rt4, rfl, rfl⟩⟩
   refine CJ.front 1 rfl <| CJ.exit ?_
   obtain rfl := si h38
   refine ⟨nofun, fun e => ?_⟩
   subst e
   exact ⟨rfl, ⟨l31, i33, ad34, cp35, rfl, rt1, rfl, rfl⟩⟩
 rintro ρ _ _ ⟨l23, i24, ad25, cp27, rfl, hf80, rfl, rfl⟩
 obtain ⟨ρ, rfl⟩ := hf80.ex
 refine PJ.front 1 rfl <| PJ.wit Row.hn fun hn81 => PJ.done <| cr <| jm _ rfl <| ja _ rfl ?_
 refine J.nil <| CJ.persist (Hp.nil_le _) (by decide) fun K83 hK84 f85 => CJ.persistAt (t := (.cons Yq7 (.one (.int .i64)))) (x := (l23, i24)) ⟨_, _, rfl, rfl, f85, rfl⟩ fun K86 hK87 a88 => CJ.ret ?_
 obtain rfl := si h
 exact ⟨_, _, Res.one rfl rfl, ⟨(some (l23, i24)), pt b11, rfl, rfl, (At.is_ptr a88), rfl⟩, (hK84.trans hK87), fun w hs => hs⟩

noncomputable def fn_slices_Clone_int_int (xa : (List Int)) : Option (List Int) :=
  nilb xa (some ([])) ((app ([] : List Int) xa).bind fun z21 => some (z21))
theorem slices_Clone_int_int_ok {K : Hp} {xa : (List Int)} {Aa0 : Option Addr} {Ca0 : Nat} (Ga0 : Is K Yq7 [sl Aa0 xa Ca0] xa) {r : (List Int)} (h : fn_slices_Clone_int_int xa = some r) :
    Tr Tryz.prog 42 #[sl Aa0 xa Ca0] K [] (fun v K' L' => (∃ (l11 : (List Int)) (ad12 : Option Addr) (cp13 : Nat), l11 = r ∧ sl ad12 l11 cp13 = v ∧ L' = [Row Hp.nil 3 (.int .i64) (sl ad12 l11 cp13) l11]) ∧ K = K') := by
 refine Tr.k <| Tr.of func42 rfl ntmps42 rfl fun E F => ?_
 unfold fn_slices_Clone_int_int at h
 refine cr <| ja (nos) rfl <| J.nil <| CJ.seq <| CJ.seq <| CJ.region ?_
 refine jm (sl Aa0 xa Ca0) rfl <| jv (.bool Aa0.isNone) (V.sn_eql underlying42 rfl rfl) <| J.nil ?_
 rcases Aa0 with _ | ad16
 · have h := nilb_nil ((Ga0).nil_of) h
   refine CJ.condK (b := true) rfl rfl <| cr <| ja (nos) rfl <| J.nil <| CJ.by (fun w hs => Sep.rowNil (e := 3) (t := (.int .i64)) hs) <| CJ.ret ?_
   obtain rfl := si h
   exact ⟨_, _, Res.one rfl rfl, ⟨[], none, 0, rfl, rfl, rfl⟩, hpr, fun w hs => hs⟩
 have h := nilb_cons h
 refine CJ.condK (b := false) rfl rfl <| CJ.skip <| CJ.seq <| CJ.region ?_
 refine J.op rfl (A.lit (K0 := Hp.nil) (ty := (.int .i64)) (xs := ([] : List Int)) underlying42 inf3 rfl (by decide) rfl rfl rfl rfl rfl (by decide)) ?_
 rintro _ _ _ ⟨b18, rfl, rfl, rfl⟩
 have hn19 : ([] : List Int) ≠ [] → ∃ g, (some ⟨b18, 0, none⟩ : Option Addr) = some ⟨g, 0, none⟩ := fun _ => ⟨b18, rfl⟩
 refine jm (.slice (some ad16) xa.length Ca0) rfl ?_
 obtain ⟨z21, hz22, h⟩ := ob h
 refine J.op rfl (A.appP (Kr := Hp.nil) (K1 := K) underlying42 inf3 rfl rfl (by decide) (by decide) rfl rfl Ga0 hpr (Els.flat rfl) (Els.flat rfl) hz22) ?_
 rintro _ _ _ ⟨v23, rfl, rfl, rfl⟩
 refine J.wit Row.form ?_
 rintro ⟨ad24, cp25, rfl, _, _, hn26⟩
 refine ja (sl ad24 z21 cp25) rfl <| J.nil <| CJ.ret ?_
 obtain rfl := si h
 exact ⟨_, _, Res.one rfl rfl, ⟨z21, ad24, cp25, rfl, rfl, rfl⟩, hpr, fun w hs => hs⟩

noncomputable def fn_point_Points_Begins (xa : Tq9) : Option (List Int) :=
  cond (xa.isNone) (some ([])) ((xa : Option ((List Int) × Int)).bind fun y29 => (fn_slices_Clone_int_int y29.1).bind fun l41 => some (l41))
theorem point_Points_Begins_ok {K : Hp} {xa : Tq9} {Wa0 : Value} (Ga0 : Is K Yq9 [Wa0] xa) {r : (List Int)} (h : fn_point_Points_Begins xa = some r) :
    Tr Tryz.prog 27 #[Wa0] K [] (fun v K' L' => (∃ (l22 : (List Int)) (ad23 : Option Addr) (cp24 : Nat), l22 = r ∧ sl ad23 l22 cp24 = v ∧ L' = [Row Hp.nil 3 (.int .i64) (sl ad23 l22 cp24) l22]) ∧ K = K') := by
 refine Tr.k <| Tr.of func27 rfl ntmps27 rfl fun E F => ?_
 unfold fn_point_Points_Begins at h
 refine cr <| ja (nos) rfl <| J.nil <| CJ.seq <| CJ.seq <| CJ.region ?_
 refine jm Wa0 rfl <| jv (.bool xa.isNone) (V.kp_eql underlying39 Ga0 rfl rfl) <| J.nil <| cc rfl h (fun hc27 h => ?_) fun hc27 h => ?_
 · refine cr <| ja (nos) rfl <| J.nil <| CJ.by (fun w hs => Sep.rowNil (e := 3) (t := (.int .i64)) hs) <| CJ.ret ?_
   obtain rfl := si h
   exact ⟨_, _, Res.one rfl rfl, ⟨[], none, 0, rfl, rfl, rfl⟩, hpr, fun w hs => hs⟩
 refine CJ.skip <| cr <| jm Wa0 rfl ?_
 obtain ⟨y29, hy30, h⟩ := ob h
 obtain ⟨b31, o32, hv33, a34⟩ := Is.psome Ga0 hy30
 refine jv _ (V.nck hv33) <| jv _ (V.fad underlying82 rfl nz42 rfl) ?_
 obtain ⟨ad35, cp36, c37, f38⟩ := ((a34).fst).sl
 refine jv (sl ad35 y29.1 cp36) (V.ld rfl (Ld.sc sc42 (Rd.k c37 hpr))) ?_
 obtain ⟨r39, hr40, h⟩ := ob h
 refine J.op rfl (A.call (L1 := []) call42 rfl (slices_Clone_int_int_ok f38 hr40) rfl rfl) ?_
 rintro _ _ _ ⟨v45, _, rfl, ⟨⟨l41, ad42, cp43, rfl, rfl, rfl⟩, rfl⟩, _, rfl⟩
 refine J.wit Row.hn fun hn44 => ja (sl ad42 l41 cp43) rfl <| J.nil <| CJ.ret ?_
 obtain rfl := si h
 exact ⟨_, _, Res.one rfl rfl, ⟨l41, ad42, cp43, rfl, rfl, rfl⟩, hpr, fun w hs => hs⟩

noncomputable def fn_point_Points_Len (xa : Tq9) : Option Int :=
  cond (xa.isNone) (some (0)) ((xa : Option ((List Int) × Int)).bind fun y11 => some (y11.2))
theorem point_Points_Len_ok {K : Hp} {xa : Tq9} {Wa0 : Value} (Ga0 : Is K Yq9 [Wa0] xa) {r : Int} (h : fn_point_Points_Len xa = some r) :
    Tr Tryz.prog 12 #[Wa0] K [] (fun v K' L' => (∃ (i9 : Int), i9 = r ∧ ii i9 = v ∧ L' = []) ∧ K = K') := by
 refine Tr.k <| Tr.of func12 rfl ntmps12 rfl fun E F => ?_
 unfold fn_point_Points_Len at h
 refine cr <| ja (ii 0) rfl <| J.nil <| CJ.seq <| CJ.seq <| CJ.region ?_
 refine jm Wa0 rfl <| jv (.bool xa.isNone) (V.kp_eql underlying39 Ga0 rfl rfl) <| J.nil <| cc rfl h (fun hc10 h => ?_) fun hc10 h => ?_
 · refine cr <| ja (ii 0) rfl <| J.nil <| CJ.ret ?_
   obtain rfl := si h
   exact ⟨_, _, Res.one rfl rfl, ⟨0, rfl, rfl, rfl⟩, hpr, fun w hs => hs⟩
 refine CJ.skip <| cr <| jm Wa0 rfl ?_
 obtain ⟨y11, hy12, h⟩ := ob h
 obtain ⟨b13, o14, hv15, a16⟩ := Is.psome Ga0 hy12
 refine jv _ (V.nck hv15) <| jv _ (V.fad underlying82 rfl nz3 rfl) <| jv (ii y11.2) (V.ld rfl (Ld.sc sc3 (Rd.k (((a16).snd).one).int hpr))) <| ja (ii y11.2) rfl <| J.nil <| CJ.ret ?_
 obtain rfl := si h
 exact ⟨_, _, Res.one rfl rfl, ⟨y11.2, rfl, rfl, rfl⟩, hpr, fun w hs => hs⟩

noncomputable def fn_point_Points_At_1_ip0p1_kp_i (xa : Int) (qa0 : Tq9) (qb0 : Int) : Option Bool :=
  (qa0 : Option ((List Int) × Int)).bind fun y59 => (getI y59.1 xa).bind fun x69 => some (decide (qb0 < x69))
theorem point_Points_At_1_ip0p1_kp_i_ok {K : Hp} {xa : Int} {qa0 : Tq9} {qb0 : Int} {pba : Nat} {pbb : Nat} {vqa0 : Value} (fqa0 : Is K Yq9 [vqa0] qa0) {r : Bool} (h : fn_point_Points_At_1_ip0p1_kp_i xa qa0 qb0 = some r) :
    Tr Tryz.prog 44 #[ii xa, pt pba, pt pbb] K [Cl pba 39 [vqa0], Cl pbb 3 [ii qb0]] (fun v K' L' => (∃ (t39 : Bool), t39 = r ∧ .bool t39 = v ∧ L' = [Cl pba 39 [vqa0], Cl pbb 3 [ii qb0]]) ∧ K = K') := by
 refine Tr.k <| Tr.of func44 rfl ntmps44 rfl fun E F => ?_
 unfold fn_point_Points_At_1_ip0p1_kp_i at h
 refine cr <| ja (.bool false) rfl <| J.nil <| CJ.seq <| CJ.mix [Cl pba 39 [vqa0], Cl pbb 3 [ii qb0]] [] [0, 1, 2, 3, 4, 5, 6, 7, 8, 9] [] mixO (by decide +kernel) ⟨0, rfl, 0, rfl, trivial⟩ rfl rfl rfl <| JM.nil ?_
 refine qv vqa0 (V.ld rfl (Ld.sc sc39 (Rd.cl 0 rfl rfl))) ?_
 obtain ⟨y59, hy60, h⟩ := ob h
 obtain ⟨b61, o62, hv63, a64⟩ := Is.psome fqa0 hy60
 refine qv _ (V.nck hv63) <| qv _ (V.fad underlying82 rfl nz42 rfl) ?_
 obtain ⟨ad65, cp66, c67, f68⟩ := ((a64).fst).sl
 refine qv (sl ad65 y59.1 cp66) (V.ld rfl (Ld.sc sc42 (Rd.k c67 hpr))) <| qm (ii xa) rfl ?_
 obtain ⟨x69, hx70, h⟩ := ob h
 obtain ⟨p71, p72, p73⟩ := getI_some hx70
 obtain ⟨b74, o75, e76, a77⟩ := (f68).at p72
 refine qv _ (V.iad underlying42 sz3 rfl e76 rfl p71 p73) <| qv (ii x69) (V.ld rfl (Ld.sc sc3 (Rd.k (a77).int hpr))) <| qv (ii qb0) (V.ld rfl (Ld.sc sc3 (Rd.cl 1 rfl rfl))) <| qv (.bool (decide (qb0 < x69))) (V.gtr rfl rfl) <| qa (.bool (decide (qb0 < x69))) rfl <| JQ.nil <| J.nil ?_
 refine CJ.ret ?_
 obtain rfl := si h
 exact ⟨_, _, Res.one rfl rfl, ⟨decide (qb0 < x69), rfl, rfl, rfl⟩, hpr, fun w hs => hs⟩
noncomputable def fn_sort_Search_i_point_Points_At_1_p0p1_kp_i_l1 (qa0 : Tq9) (qb0 : Int) : (Int × Int) → Option ((Int × Int) ⊕ Int) := fun ((i1, i2) : (Int × Int)) => cond (decide (i1 < i2)) ((fn_point_Points_At_1_ip0p1_kp_i (IntKind.wrap .i64 (Int.fdiv (IntKind.wrap .u64 (IntKind.wrap .i64 (i1 + i2))) (2 ^ (min (Int.toNat 1) (IntKind.bits .u64))))) qa0 qb0).bind fun t3 => cond (!t3) (some (.inl ((IntKind.wrap .i64 ((IntKind.wrap .i64 (Int.fdiv (IntKind.wrap .u64 (IntKind.wrap .i64 (i1 + i2))) (2 ^ (min (Int.toNat 1) (IntKind.bits .u64))))) + 1), i2)))) (some (.inl ((i1, IntKind.wrap .i64 (Int.fdiv (IntKind.wrap .u64 (IntKind.wrap .i64 (i1 + i2))) (2 ^ (min (Int.toNat 1) (IntKind.bits .u64))))))))) (some (.inr (i1)))
noncomputable def fn_sort_Search_i_point_Points_At_1_p0p1_kp_i (xa : Int) (qa0 : Tq9) (qb0 : Int) : Option Int :=
  (loop (fn_sort_Search_i_point_Points_At_1_p0p1_kp_i_l1 qa0 qb0) (0, xa) : Option Int).bind fun i1 => some (i1)
theorem sort_Search_i_point_Points_At_1_p0p1_kp_i_ok {K : Hp} {xa : Int} {qa0 : Tq9} {qb0 : Int} {pba : Nat} {pbb : Nat} {vqa0 : Value} (fqa0 : Is K Yq9 [vqa0] qa0) {r : Int} (h : fn_sort_Search_i_point_Points_At_1_p0p1_kp_i xa qa0 qb0 = some r) :
    Tr Tryz.prog 43 #[ii xa, .func (.func 44) #[] #[pt pba, pt pbb]] K [Cl pba 39 [vqa0], Cl pbb 3 [ii qb0]] (fun v K' L' => (∃ (i74 : Int), i74 = r ∧ ii i74 = v ∧ L' = [Cl pba 39 [vqa0], Cl pbb 3 [ii qb0]]) ∧ K = K') := by
 refine Tr.k <| Tr.of func43 rfl ntmps43 rfl fun E F => ?_
 unfold fn_sort_Search_i_point_Points_At_1_p0p1_kp_i at h
 refine cr <| ja (ii 0) rfl <| J.nil <| cr <| jm (ii xa) rfl ?_
 refine ja (ii 0) rfl <| ja (ii xa) rfl <| J.nil <| CJ.seq ?_
 obtain ⟨o2, ho4, h⟩ := ob h
 refine CJ.meetN (fun ρ K' L' => ∃ (i5 : Int), i5 = o2 ∧ Fits [(5, ii i5)] ρ ∧ K = K' ∧ L' = Cl pba 39 [vqa0] :: Cl pbb 3 [ii qb0] :: F) ?_ ?_
 · refine CJ.block <| CJ.loop (fun s ρ K' L' => ∃ (i6 : Int) (i7 : Int), (i6, i7) = s ∧ Fits [(1, .func (.func 44) #[] #[pt pba, pt pbb]), (5, ii i6), (6, ii i7)] ρ ∧ K = K' ∧ L' = Cl pba 39 [vqa0] :: Cl pbb 3 [ii qb0] :: F) ho4 ⟨0, xa, rfl, rt3, rfl, rfl⟩ ?_
   rintro s ρ _ _ r9 ⟨i6, i7, rfl, hf10, rfl, rfl⟩ h11
   obtain ⟨ρ, rfl⟩ := hf10.ex
   refine CJ.seq <| cr <| jm (ii i6) rfl <| jm (ii i7) rfl <| jv (.bool (decide (i6 < i7))) (V.lss rfl rfl) <| J.nil ?_
   refine cc rfl h11 (fun hc12 h11 => ?_) fun hc12 h11 => ?_
   · refine CJ.skip <| CJ.block <| cr <| jm (ii i6) rfl <| jm (ii i7) rfl <| jv (ii (IntKind.wrap .i64 (i6 + i7))) (V.add rfl rfl) ?_
     refine jv (.int .u64 (IntKind.wrap .u64 (IntKind.wrap .i64 (i6 + i7)))) (V.conv underlying3 underlying107 rfl) <| jv (.int .u64 (Int.fdiv (IntKind.wrap .u64 (IntKind.wrap .i64 (i6 + i7))) (2 ^ (min (Int.toNat 1) (IntKind.bits .u64))))) (V.shr rfl rfl (by decide)) <| jv (ii (IntKind.wrap .i64 (Int.fdiv (IntKind.wrap .u64 (IntKind.wrap .i64 (i6 + i7))) (2 ^ (min (Int.toNat 1) (IntKind.bits .u64)))))) (V.conv underlying107 underlying3 rfl) <| ja (ii (IntKind.wrap .i64 (Int.fdiv (IntKind.wrap .u64 (IntKind.wrap .i64 (i6 + i7))) (2 ^ (min (Int.toNat 1) (IntKind.bits .u64)))))) rfl <| J.nil <| CJ.seq <| CJ.region ?_
     refine jm (.func (.func 44) #[] #[pt pba, pt pbb]) rfl <| jm (ii (IntKind.wrap .i64 (Int.fdiv (IntKind.wrap .u64 (IntKind.wrap .i64 (i6 + i7))) (2 ^ (min (Int.toNat 1) (IntKind.bits .u64)))))) rfl ?_
     obtain ⟨r13, hr14, h11⟩ := ob h11
     refine J.op rfl (A.call (L1 := [Cl pba 39 [vqa0], Cl pbb 3 [ii qb0]]) call44 rfl (point_Points_At_1_ip0p1_kp_i_ok fqa0 hr14) rfl rfl) ?_
     rintro _ _ _ ⟨v15, _, rfl, ⟨⟨t17, rfl, rfl, rfl⟩, rfl⟩, _, rfl⟩
     refine jv (.bool (!t17)) (V.not rfl) <| J.nil <| cc rfl h11 (fun hc18 h11 => ?_) fun hc18 h11 => ?_
     · refine CJ.region <| jm (ii (IntKind.wrap .i64 (Int.fdiv (IntKind.wrap .u64 (IntKind.wrap .i64 (i6 + i7))) (2 ^ (min (Int.toNat 1) (IntKind.bits .u64)))))) rfl <| jv (ii (IntKind.wrap .i64 ((IntKind.wrap .i64 (Int.fdiv (IntKind.wrap .u64 (IntKind.wrap .i64 (i6 + i7))) (2 ^ (min (Int.toNat 1) (IntKind.bits .u64))))) + 1))) (V.add rfl rfl) <| ja (ii (IntKind.wrap .i64 ((IntKind.wrap .i64 (Int.fdiv (IntKind.wrap .u64 (IntKind.wrap .i64 (i6 + i7))) (2 ^ (min (Int.toNat 1) (IntKind.bits .u64))))) + 1))) rfl <| J.nil ?_
       obtain rfl := si h11
       exact ⟨rfl, ⟨IntKind.wrap .i64 ((IntKind.wrap .i64 (Int.fdiv (IntKind.wrap .u64 (IntKind.wrap .i64 (i6 + i7))) (2 ^ (min (Int.toNat 1) (IntKind.bits .u64))))) + 1), i7, rfl, rt3, rfl, rfl⟩⟩
     refine CJ.region <| jm (ii (IntKind.wrap .i64 (Int.fdiv (IntKind.wrap .u64 (IntKind.wrap .i64 (i6 + i7))) (2 ^ (min (Int.toNat 1) (IntKind.bits .u64)))))) rfl <| ja (ii (IntKind.wrap .i64 (Int.fdiv (IntKind.wrap .u64 (IntKind.wrap .i64 (i6 + i7))) (2 ^ (min (Int.toNat 1) (IntKind.bits .u64)))))) rfl <| J.nil ?_
     obtain rfl := si h11
     exact ⟨rfl, ⟨i6, IntKind.wrap .i64 (Int.fdiv (IntKind.wrap .u64 (IntKind.wrap .i64 (i6 + i7))) (2 ^ (min (Int.toNat 1) (IntKind.bits .u64)))), rfl, rt3, rfl, rfl⟩⟩
   refine CJ.exit ?_
   obtain rfl := si h11
   refine ⟨nofun, fun e => ?_⟩
   subst e
   exact ⟨rfl, ⟨i6, rfl, rt1, rfl, rfl⟩⟩
 rintro ρ _ _ ⟨i5, rfl, hf19, rfl, rfl⟩
 obtain ⟨ρ, rfl⟩ := hf19.ex
 refine PJ.done <| cr <| jm (ii i5) rfl <| ja (ii i5) rfl <| J.nil <| CJ.ret ?_
 obtain rfl := si h
 exact ⟨_, _, Res.one rfl rfl, ⟨i5, rfl, rfl, rfl⟩, hpr, fun w hs => hs⟩

noncomputable def fn_point_Points_At (xa : Tq9) (xb : Int) : Option Tq11 :=
  cond (decide (xb < 0)) (some ((0, 0, false))) ((fn_point_Points_Len xa).bind fun i75 => cond (decide (i75 ≤ xb)) (some ((0, 0, false))) ((xa : Option ((List Int) × Int)).bind fun y80 => (fn_sort_Search_i_point_Points_At_1_p0p1_kp_i (((y80.1.length : Nat) : Int)) xa xb).bind fun i92 => (getI y80.1 (IntKind.wrap .i64 (i92 - 1))).bind fun x1 => some ((IntKind.wrap .i64 (i92 - 1), IntKind.wrap .i64 (xb - x1), true))))
theorem point_Points_At_ok {K : Hp} {xa : Tq9} {xb : Int} {Wa0 : Value} (Ga0 : Is K Yq9 [Wa0] xa) {r : Tq11} (h : fn_point_Points_At xa xb = some r) :
    Tr Tryz.prog 28 #[Wa0, ii xb] K [] (fun v K' L' => (∃ (i60 : Int) (i61 : Int) (t62 : Bool), (i60, i61, t62) = r ∧ .tuple #[ii i60, ii i61, .bool t62] = v ∧ L' = []) ∧ K = K') := by
 refine Tr.k <| Tr.of func28 rfl ntmps28 rfl fun E F => ?_
 unfold fn_point_Points_At at h
 refine cr <| jbx [Wa0] rfl (Is.pcells Ga0) fun b63 => jbx [ii xb] rfl rfl fun b64 => ja (ii 0) rfl <| ja (ii 0) rfl <| ja (.bool false) rfl ?_
 refine J.nil <| CJ.seq <| CJ.seq <| CJ.mix [Cl b64 3 [ii xb], Cl b63 39 [Wa0]] [([0, 1, 2, 3, 4], 5)] [6, 7] [] mixO (by decide +kernel) ⟨0, rfl, 0, rfl, trivial⟩ rfl rfl rfl <| JM.cons <| qv (ii xb) (V.ld rfl (Ld.sc sc3 (Rd.cl 0 rfl rfl))) <| qv (.bool (decide (xb < 0))) (V.lss rfl rfl) ?_
 refine qm (.bool (decide (xb < 0))) rfl ?_
 rcases bt (decide (xb < 0)) with hc72 | hc72
 · have h := ct hc72 h
   refine JQ.skip rfl rfl rfl rfl hc72 <| JQ.skip rfl rfl rfl rfl hc72 <| JQ.nil <| JA.skip rfl rfl rfl rfl hc72 <| JM.nil <| JQ.skip rfl rfl rfl rfl hc72 <| qv (.bool true) (V.pickT rfl hc72 rfl) ?_
   refine JQ.nil <| J.nil <| CJ.condK (b := true) rfl rfl <| cr <| ja (ii 0) rfl <| ja (ii 0) rfl ?_
   refine ja (.bool false) rfl <| J.nil <| CJ.ret ?_
   obtain rfl := si h
   exact ⟨_, _, Res.three rfl rfl rfl rfl, ⟨0, 0, false, rfl, rfl, rfl⟩, hpr, fun w hs => (Sep.dropAt 0 rfl (Sep.dropAt 0 rfl hs))⟩
 have h := cf hc72 h
 refine JQ.run rfl rfl rfl hc72 <| qv (ii xb) (V.ld rfl (Ld.sc sc3 (Rd.cl 0 rfl rfl))) <| JQ.run rfl rfl rfl hc72 <| qv Wa0 (V.ld rfl (Ld.sc sc39 (Rd.cl 1 rfl rfl))) <| JQ.nil <| JA.run rfl rfl rfl hc72 ?_
 obtain ⟨r73, hr74, h⟩ := ob h
 refine JA.op rfl (A.call (L1 := []) call12 rfl (point_Points_Len_ok Ga0 hr74) rfl rfl) ?_
 rintro _ _ _ ⟨v76, _, rfl, ⟨⟨i75, rfl, rfl, rfl⟩, rfl⟩, _, rfl⟩
 refine ⟨fun w hs => Hold.sub hpr ⟨0, rfl, 0, rfl, trivial⟩ hs, ?_⟩
 refine JM.nil <| JQ.run rfl rfl rfl hc72 <| qv (.bool (decide (i75 ≤ xb))) (V.geq rfl rfl) <| qv (.bool (decide (i75 ≤ xb))) (V.pickF rfl hc72 rfl) <| JQ.nil <| J.nil <| cc rfl h (fun hc79 h => ?_) fun hc79 h => ?_
 · refine cr <| ja (ii 0) rfl <| ja (ii 0) rfl <| ja (.bool false) rfl <| J.nil <| CJ.ret ?_
   obtain rfl := si h
   exact ⟨_, _, Res.three rfl rfl rfl rfl, ⟨0, 0, false, rfl, rfl, rfl⟩, hpr, fun w hs => (Sep.dropAt 0 rfl (Sep.dropAt 0 rfl hs))⟩
 refine CJ.skip <| cr <| jv Wa0 (V.ld rfl (Ld.sc sc39 (Rd.cl 1 rfl rfl))) ?_
 obtain ⟨y80, hy81, h⟩ := ob h
 obtain ⟨b82, o83, hv84, a85⟩ := Is.psome Ga0 hy81
 refine jv _ (V.nck hv84) <| jv _ (V.fad underlying82 rfl nz42 rfl) ?_
 obtain ⟨ad86, cp87, c88, f89⟩ := ((a85).fst).sl
 refine jv (sl ad86 y80.1 cp87) (V.ld rfl (Ld.sc sc42 (Rd.k c88 hpr))) <| jv (ii (((y80.1.length : Nat) : Int))) (V.len underlying42 rfl) <| jv (.func (.func 44) #[] #[pt b63, pt b64]) (V.mkf rfl) ?_
 obtain ⟨r90, hr91, h⟩ := ob h
 refine J.front 1 rfl <| J.op rfl (A.call (L1 := [Cl b63 39 [Wa0], Cl b64 3 [ii xb]]) call43 rfl (sort_Search_i_point_Points_At_1_p0p1_kp_i_ok Ga0 hr91) rfl rfl) ?_
 rintro _ _ _ ⟨v93, _, rfl, ⟨⟨i92, rfl, rfl, rfl⟩, rfl⟩, _, rfl⟩
 refine jv (ii (IntKind.wrap .i64 (i92 - 1))) (V.sub rfl rfl) <| ja (ii (IntKind.wrap .i64 (i92 - 1))) rfl <| J.nil <| CJ.seq <| CJ.mix [Cl b63 39 [Wa0], Cl b64 3 [ii xb]] [] [0, 1, 2, 3, 4, 5, 6, 7, 8, 9, 10, 11, 12] [] mixO (by decide +kernel) ⟨0, rfl, 0, rfl, trivial⟩ rfl rfl rfl <| JM.nil <| qm (ii (IntKind.wrap .i64 (i92 - 1))) rfl ?_
 refine qv (ii xb) (V.ld rfl (Ld.sc sc3 (Rd.cl 1 rfl rfl))) <| qv Wa0 (V.ld rfl (Ld.sc sc39 (Rd.cl 0 rfl rfl))) <| qv _ (V.nck hv84) <| qv _ (V.fad underlying82 rfl nz42 rfl) ?_
 obtain ⟨ad2, cp4, c5, f6⟩ := ((a85).fst).sl
 refine qv (sl ad2 y80.1 cp4) (V.ld rfl (Ld.sc sc42 (Rd.k c5 hpr))) <| qm (ii (IntKind.wrap .i64 (i92 - 1))) rfl ?_
 obtain ⟨x7, hx9, h⟩ := ob h
 obtain ⟨p10, p11, p13⟩ := getI_some hx9
 obtain ⟨b14, o15, e17, a18⟩ := (f6).at p11
 refine qv _ (V.iad underlying42 sz3 rfl e17 rfl p10 p13) <| qv (ii x7) (V.ld rfl (Ld.sc sc3 (Rd.k (a18).int hpr))) <| qv (ii (IntKind.wrap .i64 (xb - x7))) (V.sub rfl rfl) <| qa (ii (IntKind.wrap .i64 (i92 - 1))) rfl <| qa (ii (IntKind.wrap .i64 (xb - x7))) rfl <| qa (.bool true) rfl <| JQ.nil ?_
 refine J.nil <| CJ.ret ?_
 obtain rfl := si h
 exact ⟨_, _, Res.three rfl rfl rfl rfl, ⟨IntKind.wrap .i64 (i92 - 1), IntKind.wrap .i64 (xb - x7), true, rfl, rfl, rfl⟩, hpr, fun w hs => (Sep.dropAt 0 rfl (Sep.dropAt 0 rfl hs))⟩

noncomputable def fn_point_Points_end (xa : Tq9) (xb : Int) : Option Int :=
  (xa : Option ((List Int) × Int)).bind fun y26 => cond (decide ((IntKind.wrap .i64 (xb + 1)) < (((y26.1.length : Nat) : Int)))) ((getI y26.1 (IntKind.wrap .i64 (xb + 1))).bind fun x41 => some (x41)) (some (y26.2))
theorem point_Points_end_ok {K : Hp} {xa : Tq9} {xb : Int} {Wa0 : Value} (Ga0 : Is K Yq9 [Wa0] xa) {r : Int} (h : fn_point_Points_end xa xb = some r) :
    Tr Tryz.prog 45 #[Wa0, ii xb] K [] (fun v K' L' => (∃ (i25 : Int), i25 = r ∧ ii i25 = v ∧ L' = []) ∧ K = K') := by
 refine Tr.k <| Tr.of func45 rfl ntmps45 rfl fun E F => ?_
 unfold fn_point_Points_end at h
 refine cr <| ja (ii 0) rfl <| J.nil <| CJ.seq <| CJ.seq <| CJ.region ?_
 refine jm (ii xb) rfl <| jv (ii (IntKind.wrap .i64 (xb + 1))) (V.add rfl rfl) <| jm Wa0 rfl ?_
 obtain ⟨y26, hy27, h⟩ := ob h
 obtain ⟨b28, o29, hv30, a31⟩ := Is.psome Ga0 hy27
 refine jv _ (V.nck hv30) <| jv _ (V.fad underlying82 rfl nz42 rfl) ?_
 obtain ⟨ad32, cp33, c34, f35⟩ := ((a31).fst).sl
 refine jv (sl ad32 y26.1 cp33) (V.ld rfl (Ld.sc sc42 (Rd.k c34 hpr))) <| jv (ii (((y26.1.length : Nat) : Int))) (V.len underlying42 rfl) <| jv (.bool (decide ((IntKind.wrap .i64 (xb + 1)) < (((y26.1.length : Nat) : Int))))) (V.lss rfl rfl) <| J.nil <| cc rfl h (fun hc36 h => ?_) fun hc36 h => ?_
 · refine cr <| jm Wa0 rfl <| jv _ (V.nck hv30) <| jv _ (V.fad underlying82 rfl nz42 rfl) ?_
   obtain ⟨ad37, cp38, c39, f40⟩ := ((a31).fst).sl
   refine jv (sl ad37 y26.1 cp38) (V.ld rfl (Ld.sc sc42 (Rd.k c39 hpr))) <| jm (ii xb) rfl <| jv (ii (IntKind.wrap .i64 (xb + 1))) (V.add rfl rfl) ?_
   obtain ⟨x41, hx42, h⟩ := ob h
   obtain ⟨p43, p44, p45⟩ := getI_some hx42
   obtain ⟨b46, o47, e48, a49⟩ := (f40).at p44
   refine jv _ (V.iad underlying42 sz3 rfl e48 rfl p43 p45) <| jv (ii x41) (V.ld rfl (Ld.sc sc3 (Rd.k (a49).int hpr))) <| ja (ii x41) rfl <| J.nil <| CJ.ret ?_
   obtain rfl := si h
   exact ⟨_, _, Res.one rfl rfl, ⟨x41, rfl, rfl, rfl⟩, hpr, fun w hs => hs⟩
 refine CJ.skip <| cr <| jm Wa0 rfl <| jv _ (V.nck hv30) <| jv _ (V.fad underlying82 rfl nz3 rfl) <| jv (ii y26.2) (V.ld rfl (Ld.sc sc3 (Rd.k (((a31).snd).one).int hpr))) ?_
 refine ja (ii y26.2) rfl <| J.nil <| CJ.ret ?_
 obtain rfl := si h
 exact ⟨_, _, Res.one rfl rfl, ⟨y26.2, rfl, rfl, rfl⟩, hpr, fun w hs => hs⟩

noncomputable def fn_point_Points_Ends (xa : Tq9) (xb : Int) : Option Bool :=
  (fn_point_Points_At xa xb).bind fun (i28, i29, t30) => (cond (t30) ((fn_point_Points_end xa i28).bind fun i46 => some (decide ((IntKind.wrap .i64 (xb + 1)) = i46))) (some (false))).bind fun t41 => some (t41)
theorem point_Points_Ends_ok {K : Hp} {xa : Tq9} {xb : Int} {Wa0 : Value} (Ga0 : Is K Yq9 [Wa0] xa) {r : Bool} (h : fn_point_Points_Ends xa xb = some r) :
    Tr Tryz.prog 29 #[Wa0, ii xb] K [] (fun v K' L' => (∃ (t25 : Bool), t25 = r ∧ .bool t25 = v ∧ L' = []) ∧ K = K') := by
 refine Tr.k <| Tr.of func29 rfl ntmps29 rfl fun E F => ?_
 unfold fn_point_Points_Ends at h
 refine cr <| ja (.bool false) rfl <| J.nil <| cr <| jm Wa0 rfl ?_
 refine jm (ii xb) rfl ?_
 obtain ⟨r26, hr27, h⟩ := ob h
 refine J.op rfl (A.call (L1 := []) call28 rfl (point_Points_At_ok Ga0 hr27) rfl rfl) ?_
 rintro _ _ _ ⟨v31, _, rfl, ⟨⟨i28, i29, t30, rfl, rfl, rfl⟩, rfl⟩, _, rfl⟩
 refine jm (.tuple #[ii i28, ii i29, .bool t30]) rfl <| jx (ii i28) rfl rfl <| jx (ii i29) rfl rfl <| jx (.bool t30) rfl rfl <| ja (ii i28) rfl <| ja (ii i29) rfl <| ja (.bool t30) rfl ?_
 refine J.nil <| cr <| jm (.bool t30) rfl <| jm (.bool t30) rfl <| J.cut 7 ?_
 obtain ⟨t41, ht42, h⟩ := ob h
 refine jmeet [(23, .bool t41)] ?_ ?_
 · rcases bt (t30) with hc43 | hc43
   · have ht42 := ct hc43 ht42
     refine J.run rfl rfl rfl hc43 <| jm (ii xb) rfl <| J.run rfl rfl rfl hc43 <| jv (ii (IntKind.wrap .i64 (xb + 1))) (V.add rfl rfl) <| J.run rfl rfl rfl hc43 <| jm Wa0 rfl <| J.run rfl rfl rfl hc43 ?_
     refine jm (ii i28) rfl <| J.run rfl rfl rfl hc43 ?_
     obtain ⟨r44, hr45, ht42⟩ := ob ht42
     refine J.op rfl (A.call (L1 := []) call45 rfl (point_Points_end_ok Ga0 hr45) rfl rfl) ?_
     rintro _ _ _ ⟨v47, _, rfl, ⟨⟨i46, rfl, rfl, rfl⟩, rfl⟩, _, rfl⟩
     refine J.run rfl rfl rfl hc43 <| jv (.bool (decide ((IntKind.wrap .i64 (xb + 1)) = i46))) (V.eql rfl rfl) <| jv (.bool (decide ((IntKind.wrap .i64 (xb + 1)) = i46))) (V.pickT rfl hc43 rfl) <| J.nil ?_
     obtain rfl := si ht42
     exact ⟨rfl, rt1, rfl, rfl⟩
   have ht42 := cf hc43 ht42
   refine J.skip rfl rfl rfl rfl hc43 <| J.skip rfl rfl rfl rfl hc43 <| J.skip rfl rfl rfl rfl hc43 <| J.skip rfl rfl rfl rfl hc43 <| J.skip rfl rfl rfl rfl hc43 <| J.skip rfl rfl rfl rfl hc43 <| jv (.bool false) (V.pickF rfl hc43 rfl) ?_
   refine J.nil ?_
   obtain rfl := si ht42
   exact ⟨rfl, rt1, rfl, rfl⟩
 intro ρ
 refine ja (.bool t41) rfl <| J.nil <| CJ.ret ?_
 obtain rfl := si h
 exact ⟨_, _, Res.one rfl rfl, ⟨t41, rfl, rfl, rfl⟩, hpr, fun w hs => hs⟩
noncomputable def fn_flow_heads_l1 (xa : Tq5) (xb : (List Int)) : ((List Int) × Int) → Option (((List Int) × Int) ⊕ (List Int)) := fun ((l1, i2) : ((List Int) × Int)) => cond (decide (i2 < (((xa.2.2.2.1.length : Nat) : Int)))) ((getI xa.2.2.2.1 i2).bind fun x3 => (getI xb x3).bind fun x4 => (app l1 ([x4] : List Int)).bind fun z5 => some (.inl ((z5, IntKind.wrap .i64 (i2 + 1))))) (some (.inr (l1)))
noncomputable def fn_flow_heads (xa : Tq5) (xb : (List Int)) : Option (List Int) :=
  (loop (fn_flow_heads_l1 xa xb) ([], 0) : Option (List Int)).bind fun l1 => (srt l1).bind fun l2 => (cmpt l2).bind fun l3 => some (l3)
theorem flow_heads_ok {K : Hp} {xa : Tq5} {xb : (List Int)} {Aa3 : Option Addr} {Ca3 : Nat} {Aa4 : Option Addr} {Ca4 : Nat} {Aa5 : Option Addr} {Ca5 : Nat} {Ab0 : Option Addr} {Cb0 : Nat} (Ga3 : Is K Yq7 [.slice Aa3 xa.2.2.2.1.length Ca3] xa.2.2.2.1) (Ga4 : Is K Yq7 [.slice Aa4 xa.2.2.2.2.1.length Ca4] xa.2.2.2.2.1) (Ga5 : Is K Yq7 [.slice Aa5 xa.2.2.2.2.2.length Ca5] xa.2.2.2.2.2) (Gb0 : Is K Yq7 [.slice Ab0 xb.length Cb0] xb) {r : (List Int)} (h : fn_flow_heads xa xb = some r) :
    Tr Tryz.prog 30 #[.agg #[ii xa.1, ii xa.2.1, ii xa.2.2.1, .slice Aa3 xa.2.2.2.1.length Ca3, .slice Aa4 xa.2.2.2.2.1.length Ca4, .slice Aa5 xa.2.2.2.2.2.length Ca5], .slice Ab0 xb.length Cb0] K [] (fun v K' L' => (∃ (l2 : (List Int)) (ad6 : Option Addr) (cp7 : Nat), l2 = r ∧ .slice ad6 l2.length cp7 = v ∧ L' = [Row Hp.nil 3 (.int .i64) (.slice ad6 l2.length cp7) l2]) ∧ K = K') := by
 refine Tr.k <| Tr.of func30 rfl ntmps30 rfl fun E F => ?_
 unfold fn_flow_heads at h
 refine cr <| jbx [ii xa.1, ii xa.2.1, ii xa.2.2.1, .slice Aa3 xa.2.2.2.1.length Ca3, .slice Aa4 xa.2.2.2.2.1.length Ca4, .slice Aa5 xa.2.2.2.2.2.length Ca5] rfl rfl fun b9 => ja (nos) rfl <| J.nil <| CJ.seq <| CJ.region ?_
 refine ja (nos) rfl <| J.nil <| CJ.seq <| cr <| jv _ (V.fad underlying58 rfl nz42 rfl) <| jv (.slice Aa3 xa.2.2.2.1.length Ca3) (V.ld rfl (Ld.sc sc42 (Rd.cl 0 rfl rfl))) ?_
 refine jv (ii (((xa.2.2.2.1.length : Nat) : Int))) (V.len underlying42 rfl) <| jm (ii 0) rfl <| J.nil ?_
 obtain ⟨o10, ho11, h⟩ := ob h
 refine CJ.meetN (fun ρ K' L' => ∃ (l12 : (List Int)) (ad13 : Option Addr) (cp14 : Nat), l12 = o10 ∧ Fits [(5, .slice ad13 l12.length cp14)] ρ ∧ K = K' ∧ L' = Row Hp.nil 3 (.int .i64) (.slice ad13 l12.length cp14) l12 :: F) ?_ ?_
 · refine CJ.block <| CJ.by (fun w hs => Sep.rowNil (e := 3) (t := (.int .i64)) hs) <| CJ.dropAt 1 rfl <| CJ.loop (fun s ρ K' L' => ∃ (l15 : (List Int)) (i17 : Int) (ad18 : Option Addr) (cp19 : Nat), (l15, i17) = s ∧ Fits [(1, .slice Ab0 xb.length Cb0), (5, .slice ad18 l15.length cp19), (9, .slice Aa3 xa.2.2.2.1.length Ca3), (10, ii (((xa.2.2.2.1.length : Nat) : Int))), (11, ii i17)] ρ ∧ K = K' ∧ L' = Row Hp.nil 3 (.int .i64) (.slice ad18 l15.length cp19) l15 :: F) ho11 ⟨[], 0, none, 0, rfl, rt5, rfl, rfl⟩ ?_
   rintro s ρ _ _ r20 ⟨l15, i17, ad18, cp19, rfl, hf21, rfl, rfl⟩ h22
   obtain ⟨ρ, rfl⟩ := hf21.ex
   refine CJ.wit Row.hn fun hn23 => cr <| jv (.bool (decide (i17 < (((xa.2.2.2.1.length : Nat) : Int))))) (V.lss rfl rfl) <| J.nil <| CJ.seq <| cc rfl h22 (fun hc24 h22 => ?_) fun hc24 h22 => ?_
   · refine CJ.skip <| CJ.seq <| CJ.block <| CJ.seq <| CJ.region ?_
     obtain ⟨x25, hx26, h22⟩ := ob h22
     obtain ⟨p27, p28, p29⟩ := getI_some hx26
     obtain ⟨b31, o33, e34, a35⟩ := (Ga3).at p28
     refine jv _ (V.iad underlying42 sz3 rfl e34 rfl p27 p29) <| jv (ii x25) (V.ld rfl (Ld.sc sc3 (Rd.k (a35).int hpr))) <| ja (ii x25) rfl <| J.nil <| CJ.region <| jm (.slice ad18 l15.length cp19) rfl <| jm (.slice Ab0 xb.length Cb0) rfl ?_
     refine jm (ii x25) rfl ?_
     obtain ⟨x36, hx37, h22⟩ := ob h22
     obtain ⟨p38, p39, p40⟩ := getI_some hx37
     obtain ⟨b41, o43, e44, a45⟩ := (Gb0).at p39
     refine jv _ (V.iad underlying42 sz3 rfl e44 rfl p38 p40) <| jv (ii x36) (V.ld rfl (Ld.sc sc3 (Rd.k (a45).int hpr))) ?_
     refine J.op rfl (A.lit (K0 := Hp.nil) (ty := (.int .i64)) (xs := ([x36] : List Int)) underlying42 inf3 rfl (by decide) rfl rfl rfl ⟨_, _, rfl, rfl, rfl⟩ rfl (by decide)) ?_
     rintro _ _ _ ⟨b48, rfl, rfl, rfl⟩
     have hn49 : ([x36] : List Int) ≠ [] → ∃ g, (some ⟨b48, 0, none⟩ : Option Addr) = some ⟨g, 0, none⟩ := fun _ => ⟨b48, rfl⟩
     obtain ⟨z50, hz51, h22⟩ := ob h22
     refine J.front 1 rfl <| J.op rfl (A.appR (Kr := Hp.nil) underlying42 inf3 rfl rfl (by decide) (by decide) rfl rfl (Els.flat rfl) (Els.flat rfl) hz51) ?_
     rintro _ _ _ ⟨v52, rfl, rfl, rfl⟩
     refine J.wit Row.form ?_
     rintro ⟨ad53, cp54, rfl, _, _, hn55⟩
     refine ja (.slice ad53 z50.length cp54) rfl <| J.nil <| CJ.region <| jv (ii (IntKind.wrap .i64 (i17 + 1))) (V.add rfl rfl) <| jm (ii (IntKind.wrap .i64 (i17 + 1))) rfl <| J.nil ?_
     obtain rfl := si h22
     exact ⟨rfl, ⟨z50, IntKind.wrap .i64 (i17 + 1), ad53, cp54, rfl, rt5, rfl, rfl⟩⟩
   refine CJ.exit ?_
   obtain rfl := si h22
   refine ⟨nofun, fun e => ?_⟩
   subst e
   exact ⟨rfl, ⟨l15, ad18, cp19, rfl, rt1, rfl, rfl⟩⟩
 rintro ρ _ _ ⟨l12, ad13, cp14, rfl, hf56, rfl, rfl⟩
 obtain ⟨ρ, rfl⟩ := hf56.ex
 refine PJ.wit Row.hn fun hn57 => PJ.done <| cr <| jm (.slice ad13 l12.length cp14) rfl ?_
 obtain ⟨r59, hr60, h⟩ := ob h
 refine J.op rfl (A.call (L1 := [Row Hp.nil 3 (.int .i64) (.slice ad13 l12.length cp14) l12]) call46 rfl (slices_Sort_ok hr60) rfl rfl) ?_
 rintro _ _ _ ⟨v61, _, rfl, ⟨⟨l62, rfl, rfl, rfl⟩, rfl⟩, _, rfl⟩
 refine J.wit Row.hn fun hn63 => J.wit Row.len fun hl65 => J.nil <| cr <| jm (.slice ad13 l12.length cp14) rfl ?_
 obtain ⟨r66, hr67, h⟩ := ob h
 refine J.by (fun w hs => Sep.nrow hl65.symm hs) <| J.op rfl (A.call (L1 := [Row Hp.nil 3 (.int .i64) (.slice ad13 l62.length cp14) l62]) call47 rfl (slices_Compact_ok hr67) (by rw [hl65]; first | done | rfl) rfl) ?_
 rintro _ _ _ ⟨v68, _, rfl, ⟨⟨l69, ad70, cp71, rfl, rfl, rfl⟩, rfl⟩, _, rfl⟩
 refine J.wit Row.hn fun hn72 => ja (.slice ad70 l69.length cp71) rfl <| J.nil <| CJ.ret ?_
 obtain rfl := si h
 exact ⟨_, _, Res.one rfl rfl, ⟨l69, ad70, cp71, rfl, rfl, rfl⟩, hpr, fun w hs => hs⟩

noncomputable def fn_slices_Clone_graph_Arc_graph_Arc (xa : Tq8) : Option (Tq8) :=
  nilb xa (some ([])) ((app (([] : List (Int × Int))) xa).bind fun z21 => some (z21))
theorem slices_Clone_graph_Arc_graph_Arc_ok {K : Hp} {xa : Tq8} {Aa0 : Option Addr} {Ca0 : Nat} (Ga0 : Is K (.sl Yq5) [sl Aa0 xa Ca0] xa) {r : Tq8} (h : fn_slices_Clone_graph_Arc_graph_Arc xa = some r) :
    Tr Tryz.prog 48 #[sl Aa0 xa Ca0] K [] (fun v K' L' => (∃ (l11 : Tq8) (ad12 : Option Addr) (cp13 : Nat), l11 = r ∧ sl ad12 l11 cp13 = v ∧ L' = [Row Hp.nil 70 Yq5 (sl ad12 l11 cp13) l11]) ∧ K = K') := by
 refine Tr.k <| Tr.of func48 rfl ntmps48 rfl fun E F => ?_
 unfold fn_slices_Clone_graph_Arc_graph_Arc at h
 refine cr <| ja (nos) rfl <| J.nil <| CJ.seq <| CJ.seq <| CJ.region ?_
 refine jm (sl Aa0 xa Ca0) rfl <| jv (.bool Aa0.isNone) (V.sn_eql underlying64 rfl rfl) <| J.nil ?_
 rcases Aa0 with _ | ad16
 · have h := nilb_nil ((Ga0).nil_of) h
   refine CJ.condK (b := true) rfl rfl <| cr <| ja (nos) rfl <| J.nil <| CJ.by (fun w hs => Sep.rowNil (e := 70) (t := Yq5) hs) <| CJ.ret ?_
   obtain rfl := si h
   exact ⟨_, _, Res.one rfl rfl, ⟨[], none, 0, rfl, rfl, rfl⟩, hpr, fun w hs => hs⟩
 have h := nilb_cons h
 refine CJ.condK (b := false) rfl rfl <| CJ.skip <| CJ.seq <| CJ.region ?_
 refine J.op rfl (A.lit (K0 := Hp.nil) (ty := Yq5) (xs := ([] : List (Int × Int))) underlying64 inf70 rfl (by decide) rfl rfl rfl rfl rfl (by decide)) ?_
 rintro _ _ _ ⟨b18, rfl, rfl, rfl⟩
 have hn19 : ([] : List (Int × Int)) ≠ [] → ∃ g, (some ⟨b18, 0, none⟩ : Option Addr) = some ⟨g, 0, none⟩ := fun _ => ⟨b18, rfl⟩
 refine jm (.slice (some ad16) xa.length Ca0) rfl ?_
 obtain ⟨z21, hz22, h⟩ := ob h
 refine J.op rfl (A.appP (Kr := Hp.nil) (K1 := K) underlying64 inf70 rfl rfl (by decide) (by decide) rfl rfl Ga0 hpr (Els.flat rfl) (Els.flat rfl) hz22) ?_
 rintro _ _ _ ⟨v23, rfl, rfl, rfl⟩
 refine J.wit Row.form ?_
 rintro ⟨ad24, cp25, rfl, _, _, hn26⟩
 refine ja (sl ad24 z21 cp25) rfl <| J.nil <| CJ.ret ?_
 obtain rfl := si h
 exact ⟨_, _, Res.one rfl rfl, ⟨z21, ad24, cp25, rfl, rfl, rfl⟩, hpr, fun w hs => hs⟩

noncomputable def fn_graph_New_1 (xa : (Int × Int)) : Option Int :=
  some (xa.1)
theorem graph_New_1_ok {K : Hp} {xa : (Int × Int)}   {r : Int} (h : fn_graph_New_1 xa = some r) :
    Tr Tryz.prog 50 #[.agg #[ii xa.1, ii xa.2]] K [] (fun v K' L' => (∃ (i2 : Int), i2 = r ∧ ii i2 = v ∧ L' = []) ∧ K = K') := by
 refine Tr.k <| Tr.of func50 rfl ntmps50 rfl fun E F => ?_
 unfold fn_graph_New_1 at h
 refine cr <| jbx [ii xa.1, ii xa.2] rfl rfl fun b3 => ja (ii 0) rfl <| J.nil <| CJ.seq <| CJ.region ?_
 refine jv _ (V.fad underlying70 rfl nz3 rfl) <| jv (ii xa.1) (V.ld rfl (Ld.sc sc3 (Rd.cl 0 rfl rfl))) <| ja (ii xa.1) rfl <| J.nil <| CJ.ret ?_
 obtain rfl := si h
 exact ⟨_, _, Res.one rfl rfl, ⟨xa.1, rfl, rfl, rfl⟩, hpr, fun w hs => (Sep.dropAt 0 rfl hs)⟩
noncomputable def fn_graph_indexed_ik_graph_New_1_l1 (xb : Tq8) : (Int × (List Int)) → Option ((Int × (List Int)) ⊕ (List Int)) := fun ((i1, l2) : (Int × (List Int))) => cond (decide (i1 < (((xb.length : Nat) : Int)))) ((getI xb i1).bind fun x3 => (fn_graph_New_1 (x3.1, x3.2)).bind fun i4 => (getI l2 (IntKind.wrap .i64 (i4 + 1))).bind fun x5 => (getI l2 (IntKind.wrap .i64 (i4 + 1))).bind fun x6 => (some (l2.set (IntKind.wrap .i64 (i4 + 1)).toNat (IntKind.wrap .i64 (x5 + 1)))).bind fun z7 => some (.inl ((IntKind.wrap .i64 (i1 + 1), z7)))) (some (.inr (l2)))
noncomputable def fn_graph_indexed_ik_graph_New_1_l2 (xa : Int) : (Int × (List Int)) → Option ((Int × (List Int)) ⊕ (List Int)) := fun ((i1, l2) : (Int × (List Int))) => cond (decide (i1 < xa)) ((getI l2 (IntKind.wrap .i64 (i1 + 1))).bind fun x3 => (getI l2 i1).bind fun x4 => (getI l2 (IntKind.wrap .i64 (i1 + 1))).bind fun x5 => (some (l2.set (IntKind.wrap .i64 (i1 + 1)).toNat (IntKind.wrap .i64 (x3 + x4)))).bind fun z6 => some (.inl ((IntKind.wrap .i64 (i1 + 1), z6)))) (some (.inr (l2)))
noncomputable def fn_graph_indexed_ik_graph_New_1_l3 (xb : Tq8) : ((List Int) × Int × (List Int)) → Option (((List Int) × Int × (List Int)) ⊕ (List Int)) := fun ((l1, i2, l3) : ((List Int) × Int × (List Int))) => cond (decide (i2 < (((xb.length : Nat) : Int)))) ((getI xb i2).bind fun x4 => (fn_graph_New_1 (x4.1, x4.2)).bind fun i5 => (getI l1 i5).bind fun x6 => (getI l3 x6).bind fun x7 => (some (l3.set x6.toNat i2)).bind fun z9 => (getI l1 i5).bind fun x10 => (getI l1 i5).bind fun x11 => (some (l1.set i5.toNat (IntKind.wrap .i64 (x10 + 1)))).bind fun z12 => some (.inl ((z12, IntKind.wrap .i64 (i2 + 1), z9)))) (some (.inr (l3)))
noncomputable def fn_graph_indexed_ik_graph_New_1 (xa : Int) (xb : Tq8) : Option (((List Int) × (List Int))) :=
  ((mk (IntKind.wrap .i64 (xa + 1)) (IntKind.wrap .i64 (xa + 1)) 0 : Option (List Int)).bind fun z1 => (mk (((xb.length : Nat) : Int)) (((xb.length : Nat) : Int)) 0 : Option (List Int)).bind fun z2 => some ((z1, z2)) : Option (((List Int) × (List Int)))).bind fun (l3, l4) => (loop (fn_graph_indexed_ik_graph_New_1_l1 xb) (0, l3) : Option (List Int)).bind fun l5 => (loop (fn_graph_indexed_ik_graph_New_1_l2 xa) (0, l5) : Option (List Int)).bind fun l6 => (fn_slices_Clone_int_int l6).bind fun l7 => (loop (fn_graph_indexed_ik_graph_New_1_l3 xb) (l7, 0, l4) : Option (List Int)).bind fun l9 => some ((l6, l9))
theorem graph_indexed_ik_graph_New_1_ok {K : Hp} {xa : Int} {xb : Tq8} {Ab0 : Option Addr} {Cb0 : Nat} (Gb0 : Is K (.sl Yq5) [.slice Ab0 xb.length Cb0] xb) {r : ((List Int) × (List Int))} (h : fn_graph_indexed_ik_graph_New_1 xa xb = some r) :
    Tr Tryz.prog 49 #[ii xa, .slice Ab0 xb.length Cb0, .func (.func 50) #[] #[]] K [] (fun v K' L' => (∃ (l9 : (List Int)) (l10 : (List Int)) (ad11 : Option Addr) (cp12 : Nat) (ad13 : Option Addr) (cp14 : Nat), (l9, l10) = r ∧ .agg #[.slice ad11 l9.length cp12, .slice ad13 l10.length cp14] = v ∧ Is K' Yq7 [.slice ad11 l9.length cp12] l9 ∧ L' = [Row Hp.nil 3 (.int .i64) (.slice ad13 l10.length cp14) l10])) := by
 refine Tr.of func49 rfl ntmps49 rfl fun E F => ?_
 unfold fn_graph_indexed_ik_graph_New_1 at h
 refine cr <| jal inf95 [nos, nos] rfl fun b15 => J.nil <| CJ.seq ?_
 obtain ⟨o17, ho18, h⟩ := ob h
 refine CJ.meetN (fun ρ K' L' => ∃ (l19 : (List Int)) (l20 : (List Int)) (nb21 : Nat) (ad22 : Option Addr) (cp23 : Nat) (ad24 : Option Addr) (cp25 : Nat), (l19, l20) = o17 ∧ Fits [(0, ii xa), (1, .slice Ab0 xb.length Cb0), (2, .func (.func 50) #[] #[]), (6, pt b15), (7, pt nb21)] ρ ∧ K = K' ∧ L' = Cl b15 95 [nos, nos] :: Cl nb21 95 [.slice ad22 l19.length cp23, .slice ad24 l20.length cp25] :: Row Hp.nil 3 (.int .i64) (.slice ad22 l19.length cp23) l19 :: Row Hp.nil 3 (.int .i64) (.slice ad24 l20.length cp25) l20 :: F) ?_ ?_
 · refine CJ.tree [Cl b15 95 [nos, nos]] (.still [0, 1, 3, 4] (.alt 2 (.alt 5 (.still [6] (.alt 7 (.alt 8 (.leaf []) .done) .done)) (.alt 7 (.alt 5 (.still [6] (.alt 8 (.leaf []) .done)) .done) .done)) (.alt 5 (.alt 2 (.still [6] (.alt 7 (.alt 8 (.leaf []) .done) .done)) (.alt 7 (.alt 2 (.still [6] (.alt 8 (.leaf []) .done)) .done) .done)) (.alt 7 (.alt 2 (.alt 5 (.still [6] (.alt 8 (.leaf []) .done)) .done) (.alt 5 (.alt 2 (.still [6] (.alt 8 (.leaf []) .done)) .done) .done)) .done)))) [] mixO (by decide +kernel) ⟨0, rfl, trivial⟩ rfl <| JT.still rfl <| qm (ii xa) rfl <| qv (ii (IntKind.wrap .i64 (xa + 1))) (V.add rfl rfl) <| qm (.slice Ab0 xb.length Cb0) rfl <| qv (ii (((xb.length : Nat) : Int))) (V.len underlying64 rfl) <| JQ.nil ?_
   obtain ⟨z26, hz27, ho18⟩ := ob ho18
   obtain ⟨z28, hz29, ho18⟩ := ob ho18
   refine JT.alt rfl ?_ ?_
   · refine JB.op rfl (A.make (K0 := Hp.nil) (ty := (.int .i64)) (x0 := 0) underlying42 inf3 rfl rfl (by decide) (by decide) rfl rfl hz27) ?_
     rintro _ _ _ ⟨b30, rfl, rfl, rfl⟩
     have hn31 : z26 ≠ [] → ∃ g, (some ⟨b30, 0, none⟩ : Option Addr) = some ⟨g, 0, none⟩ := fun _ => ⟨b30, rfl⟩
     refine ⟨fun w hs => Hold.sub hpr ⟨1, rfl, trivial⟩ hs, ?_⟩
     refine JT.alt rfl ?_ ?_
     · refine JB.op rfl (A.make (K0 := Hp.nil) (ty := (.int .i64)) (x0 := 0) underlying42 inf3 rfl rfl (by decide) (by decide) rfl rfl hz29) ?_
       rintro _ _ _ ⟨b33, rfl, rfl, rfl⟩
       have hn34 : z28 ≠ [] → ∃ g, (some ⟨b33, 0, none⟩ : Option Addr) = some ⟨g, 0, none⟩ := fun _ => ⟨b33, rfl⟩
       refine ⟨fun w hs => Hold.sub hpr ⟨2, rfl, trivial⟩ hs, ?_⟩
       refine JT.still rfl <| qv (.agg #[.slice (some ⟨b30, 0, none⟩) z26.length (IntKind.wrap .i64 (xa + 1)).toNat, .slice (some ⟨b33, 0, none⟩) z28.length (((xb.length : Nat) : Int)).toNat]) (V.build inf95 places95 rfl rfl) <| JQ.nil <| JT.alt rfl ?_ JT.done
       refine JB.op rfl (A.alloc (cs := [nos, nos]) inf95 rfl) ?_
       rintro _ _ _ ⟨b35, rfl, rfl, rfl⟩
       refine ⟨fun w hs => Hold.sub hpr ⟨3, rfl, trivial⟩ hs, ?_⟩
       refine JT.alt rfl ?_ JT.done
       refine JB.op rfl (A.store (v := .agg #[.slice (some ⟨b30, 0, none⟩) z26.length (IntKind.wrap .i64 (xa + 1)).toNat, .slice (some ⟨b33, 0, none⟩) z28.length (((xb.length : Nat) : Int)).toNat]) (cs' := [.slice (some ⟨b30, 0, none⟩) z26.length (IntKind.wrap .i64 (xa + 1)).toNat, .slice (some ⟨b33, 0, none⟩) z28.length (((xb.length : Nat) : Int)).toNat]) sz95 rfl rfl rfl rfl rfl rfl) ?_
       rintro _ _ _ ⟨rfl, rfl, rfl⟩
       refine ⟨fun w hs => Hold.sub hpr ⟨3, rfl, trivial⟩ hs, ?_⟩
       refine JT.leaf rfl <| JQ.nil <| J.front 1 rfl <| J.front 2 rfl <| J.front 2 rfl <| J.front 3 rfl <| J.nil ?_
       obtain rfl := si ho18
       exact ⟨rfl, ⟨z26, z28, b35, (some ⟨b30, 0, none⟩), (IntKind.wrap .i64 (xa + 1)).toNat, (some ⟨b33, 0, none⟩), (((xb.length : Nat) : Int)).toNat, rfl, rt5, rfl, rfl⟩⟩
     refine JT.alt rfl ?_ JT.done
     refine JB.op rfl (A.alloc (cs := [nos, nos]) inf95 rfl) ?_
     rintro _ _ _ ⟨b36, rfl, rfl, rfl⟩
     refine ⟨fun w hs => Hold.sub hpr ⟨2, rfl, trivial⟩ hs, ?_⟩
     refine JT.alt rfl ?_ JT.done
     refine JB.op rfl (A.make (K0 := Hp.nil) (ty := (.int .i64)) (x0 := 0) underlying42 inf3 rfl rfl (by decide) (by decide) rfl rfl hz29) ?_
     rintro _ _ _ ⟨b37, rfl, rfl, rfl⟩
     have hn38 : z28 ≠ [] → ∃ g, (some ⟨b37, 0, none⟩ : Option Addr) = some ⟨g, 0, none⟩ := fun _ => ⟨b37, rfl⟩
     refine ⟨fun w hs => Hold.sub hpr ⟨3, rfl, trivial⟩ hs, ?_⟩
     refine JT.still rfl <| qv (.agg #[.slice (some ⟨b30, 0, none⟩) z26.length (IntKind.wrap .i64 (xa + 1)).toNat, .slice (some ⟨b37, 0, none⟩) z28.length (((xb.length : Nat) : Int)).toNat]) (V.build inf95 places95 rfl rfl) <| JQ.nil <| JT.alt rfl ?_ JT.done
     refine JB.front 1 rfl <| JB.op rfl (A.store (v := .agg #[.slice (some ⟨b30, 0, none⟩) z26.length (IntKind.wrap .i64 (xa + 1)).toNat, .slice (some ⟨b37, 0, none⟩) z28.length (((xb.length : Nat) : Int)).toNat]) (cs' := [.slice (some ⟨b30, 0, none⟩) z26.length (IntKind.wrap .i64 (xa + 1)).toNat, .slice (some ⟨b37, 0, none⟩) z28.length (((xb.length : Nat) : Int)).toNat]) sz95 rfl rfl rfl rfl rfl rfl) ?_
     rintro _ _ _ ⟨rfl, rfl, rfl⟩
     refine ⟨fun w hs => Hold.sub hpr ⟨3, rfl, trivial⟩ hs, ?_⟩
     refine JT.leaf rfl <| JQ.nil <| J.front 1 rfl <| J.front 2 rfl <| J.front 2 rfl <| J.front 3 rfl <| J.nil ?_
     obtain rfl := si ho18
     exact ⟨rfl, ⟨z26, z28, b36, (some ⟨b30, 0, none⟩), (IntKind.wrap .i64 (xa + 1)).toNat, (some ⟨b37, 0, none⟩), (((xb.length : Nat) : Int)).toNat, rfl, rt5, rfl, rfl⟩⟩
   refine JT.alt rfl ?_ ?_
   · refine JB.op rfl (A.make (K0 := Hp.nil) (ty := (.int .i64)) (x0 := 0) underlying42 inf3 rfl rfl (by decide) (by decide) rfl rfl hz29) ?_
     rintro _ _ _ ⟨b39, rfl, rfl, rfl⟩
     have hn40 : z28 ≠ [] → ∃ g, (some ⟨b39, 0, none⟩ : Option Addr) = some ⟨g, 0, none⟩ := fun _ => ⟨b39, rfl⟩
     refine ⟨fun w hs => Hold.sub hpr ⟨1, rfl, trivial⟩ hs, ?_⟩
     refine JT.alt rfl ?_ ?_
     · refine JB.op rfl (A.make (K0 := Hp.nil) (ty := (.int .i64)) (x0 := 0) underlying42 inf3 rfl rfl (by decide) (by decide) rfl rfl hz27) ?_
       rintro _ _ _ ⟨b41, rfl, rfl, rfl⟩
       have hn43 : z26 ≠ [] → ∃ g, (some ⟨b41, 0, none⟩ : Option Addr) = some ⟨g, 0, none⟩ := fun _ => ⟨b41, rfl⟩
       refine ⟨fun w hs => Hold.sub hpr ⟨2, rfl, trivial⟩ hs, ?_⟩
       refine JT.still rfl <| qv (.agg #[.slice (some ⟨b41, 0, none⟩) z26.length (IntKind.wrap .i64 (xa + 1)).toNat, .slice (some ⟨b39, 0, none⟩) z28.length (((xb.length : Nat) : Int)).toNat]) (V.build inf95 places95 rfl rfl) <| JQ.nil <| JT.alt rfl ?_ JT.done
       refine JB.op rfl (A.alloc (cs := [nos, nos]) inf95 rfl) ?_
       rintro _ _ _ ⟨b44, rfl, rfl, rfl⟩
       refine ⟨fun w hs => Hold.sub hpr ⟨3, rfl, trivial⟩ hs, ?_⟩
       refine JT.alt rfl ?_ JT.done
       refine JB.op rfl (A.store (v := .agg #[.slice (some ⟨b41, 0, none⟩) z26.length (IntKind.wrap .i64 (xa + 1)).toNat, .slice (some ⟨b39, 0, none⟩) z28.length (((xb.length : Nat) : Int)).toNat]) (cs' := [.slice (some ⟨b41, 0, none⟩) z26.length (IntKind.wrap .i64 (xa + 1)).toNat, .slice (some ⟨b39, 0, none⟩) z28.length (((xb.length : Nat) : Int)).toNat]) sz95 rfl rfl rfl rfl rfl rfl) ?_
       rintro _ _ _ ⟨rfl, rfl, rfl⟩
       refine ⟨fun w hs => Hold.sub hpr ⟨3, rfl, trivial⟩ hs, ?_⟩
       refine JT.leaf rfl <| JQ.nil <| J.front 2 rfl <| J.front 2 rfl <| J.front 2 rfl <| J.front 3 rfl <| J.nil ?_
       obtain rfl := si ho18
       exact ⟨rfl, ⟨z26, z28, b44, (some ⟨b41, 0, none⟩), (IntKind.wrap .i64 (xa + 1)).toNat, (some ⟨b39, 0, none⟩), (((xb.length : Nat) : Int)).toNat, rfl, rt5, rfl, rfl⟩⟩
     refine JT.alt rfl ?_ JT.done
     refine JB.op rfl (A.alloc (cs := [nos, nos]) inf95 rfl) ?_
     rintro _ _ _ ⟨b45, rfl, rfl, rfl⟩
     refine ⟨fun w hs => Hold.sub hpr ⟨2, rfl, trivial⟩ hs, ?_⟩
     refine JT.alt rfl ?_ JT.done
     refine JB.op rfl (A.make (K0 := Hp.nil) (ty := (.int .i64)) (x0 := 0) underlying42 inf3 rfl rfl (by decide) (by decide) rfl rfl hz27) ?_
     rintro _ _ _ ⟨b46, rfl, rfl, rfl⟩
     have hn47 : z26 ≠ [] → ∃ g, (some ⟨b46, 0, none⟩ : Option Addr) = some ⟨g, 0, none⟩ := fun _ => ⟨b46, rfl⟩
     refine ⟨fun w hs => Hold.sub hpr ⟨3, rfl, trivial⟩ hs, ?_⟩
     refine JT.still rfl <| qv (.agg #[.slice (some ⟨b46, 0, none⟩) z26.length (IntKind.wrap .i64 (xa + 1)).toNat, .slice (some ⟨b39, 0, none⟩) z28.length (((xb.length : Nat) : Int)).toNat]) (V.build inf95 places95 rfl rfl) <| JQ.nil <| JT.alt rfl ?_ JT.done
     refine JB.front 1 rfl <| JB.op rfl (A.store (v := .agg #[.slice (some ⟨b46, 0, none⟩) z26.length (IntKind.wrap .i64 (xa + 1)).toNat, .slice (some ⟨b39, 0, none⟩) z28.length (((xb.length : Nat) : Int)).toNat]) (cs' := [.slice (some ⟨b46, 0, none⟩) z26.length (IntKind.wrap .i64 (xa + 1)).toNat, .slice (some ⟨b39, 0, none⟩) z28.length (((xb.length : Nat) : Int)).toNat]) sz95 rfl rfl rfl rfl rfl rfl) ?_
     rintro _ _ _ ⟨rfl, rfl, rfl⟩
     refine ⟨fun w hs => Hold.sub hpr ⟨3, rfl, trivial⟩ hs, ?_⟩
     refine JT.leaf rfl <| JQ.nil <| J.front 2 rfl <| J.front 2 rfl <| J.front 2 rfl <| J.front 3 rfl <| J.nil ?_
     obtain rfl := si ho18
     exact ⟨rfl, ⟨z26, z28, b45, (some ⟨b46, 0, none⟩), (IntKind.wrap .i64 (xa + 1)).toNat, (some ⟨b39, 0, none⟩), (((xb.length : Nat) : Int)).toNat, rfl, rt5, rfl, rfl⟩⟩
   refine JT.alt rfl ?_ JT.done
   refine JB.op rfl (A.alloc (cs := [nos, nos]) inf95 rfl) ?_
   rintro _ _ _ ⟨b48, rfl, rfl, rfl⟩
   refine ⟨fun w hs => Hold.sub hpr ⟨1, rfl, trivial⟩ hs, ?_⟩
   refine JT.alt rfl ?_ ?_
   · refine JB.op rfl (A.make (K0 := Hp.nil) (ty := (.int .i64)) (x0 := 0) underlying42 inf3 rfl rfl (by decide) (by decide) rfl rfl hz27) ?_
     rintro _ _ _ ⟨b51, rfl, rfl, rfl⟩
     have hn52 : z26 ≠ [] → ∃ g, (some ⟨b51, 0, none⟩ : Option Addr) = some ⟨g, 0, none⟩ := fun _ => ⟨b51, rfl⟩
     refine ⟨fun w hs => Hold.sub hpr ⟨2, rfl, trivial⟩ hs, ?_⟩
     refine JT.alt rfl ?_ JT.done
     refine JB.op rfl (A.make (K0 := Hp.nil) (ty := (.int .i64)) (x0 := 0) underlying42 inf3 rfl rfl (by decide) (by decide) rfl rfl hz29) ?_
     rintro _ _ _ ⟨b53, rfl, rfl, rfl⟩
     have hn54 : z28 ≠ [] → ∃ g, (some ⟨b53, 0, none⟩ : Option Addr) = some ⟨g, 0, none⟩ := fun _ => ⟨b53, rfl⟩
     refine ⟨fun w hs => Hold.sub hpr ⟨3, rfl, trivial⟩ hs, ?_⟩
     refine JT.still rfl <| qv (.agg #[.slice (some ⟨b51, 0, none⟩) z26.length (IntKind.wrap .i64 (xa + 1)).toNat, .slice (some ⟨b53, 0, none⟩) z28.length (((xb.length : Nat) : Int)).toNat]) (V.build inf95 places95 rfl rfl) <| JQ.nil <| JT.alt rfl ?_ JT.done
     refine JB.front 2 rfl <| JB.op rfl (A.store (v := .agg #[.slice (some ⟨b51, 0, none⟩) z26.length (IntKind.wrap .i64 (xa + 1)).toNat, .slice (some ⟨b53, 0, none⟩) z28.length (((xb.length : Nat) : Int)).toNat]) (cs' := [.slice (some ⟨b51, 0, none⟩) z26.length (IntKind.wrap .i64 (xa + 1)).toNat, .slice (some ⟨b53, 0, none⟩) z28.length (((xb.length : Nat) : Int)).toNat]) sz95 rfl rfl rfl rfl rfl rfl) ?_
     rintro _ _ _ ⟨rfl, rfl, rfl⟩
     refine ⟨fun w hs => Hold.sub hpr ⟨3, rfl, trivial⟩ hs, ?_⟩
     refine JT.leaf rfl <| JQ.nil <| J.front 1 rfl <| J.front 2 rfl <| J.front 2 rfl <| J.front 3 rfl <| J.nil ?_
     obtain rfl := si ho18
     exact ⟨rfl, ⟨z26, z28, b48, (some ⟨b51, 0, none⟩), (IntKind.wrap .i64 (xa + 1)).toNat, (some ⟨b53, 0, none⟩), (((xb.length : Nat) : Int)).toNat, rfl, rt5, rfl, rfl⟩⟩
   refine JT.alt rfl ?_ JT.done
   refine JB.op rfl (A.make (K0 := Hp.nil) (ty := (.int .i64)) (x0 := 0) underlying42 inf3 rfl rfl (by decide) (by decide) rfl rfl hz29) ?_
   rintro _ _ _ ⟨b55, rfl, rfl, rfl⟩
   have hn56 : z28 ≠ [] → ∃ g, (some ⟨b55, 0, none⟩ : Option Addr) = some ⟨g, 0, none⟩ := fun _ => ⟨b55, rfl⟩
   refine ⟨fun w hs => Hold.sub hpr ⟨2, rfl, trivial⟩ hs, ?_⟩
   refine JT.alt rfl ?_ JT.done
   refine JB.op rfl (A.make (K0 := Hp.nil) (ty := (.int .i64)) (x0 := 0) underlying42 inf3 rfl rfl (by decide) (by decide) rfl rfl hz27) ?_
   rintro _ _ _ ⟨b57, rfl, rfl, rfl⟩
   have hn58 : z26 ≠ [] → ∃ g, (some ⟨b57, 0, none⟩ : Option Addr) = some ⟨g, 0, none⟩ := fun _ => ⟨b57, rfl⟩
   refine ⟨fun w hs => Hold.sub hpr ⟨3, rfl, trivial⟩ hs, ?_⟩
   refine JT.still rfl <| qv (.agg #[.slice (some ⟨b57, 0, none⟩) z26.length (IntKind.wrap .i64 (xa + 1)).toNat, .slice (some ⟨b55, 0, none⟩) z28.length (((xb.length : Nat) : Int)).toNat]) (V.build inf95 places95 rfl rfl) <| JQ.nil <| JT.alt rfl ?_ JT.done
   refine JB.front 2 rfl <| JB.op rfl (A.store (v := .agg #[.slice (some ⟨b57, 0, none⟩) z26.length (IntKind.wrap .i64 (xa + 1)).toNat, .slice (some ⟨b55, 0, none⟩) z28.length (((xb.length : Nat) : Int)).toNat]) (cs' := [.slice (some ⟨b57, 0, none⟩) z26.length (IntKind.wrap .i64 (xa + 1)).toNat, .slice (some ⟨b55, 0, none⟩) z28.length (((xb.length : Nat) : Int)).toNat]) sz95 rfl rfl rfl rfl rfl rfl) ?_
   rintro _ _ _ ⟨rfl, rfl, rfl⟩
   refine ⟨fun w hs => Hold.sub hpr ⟨3, rfl, trivial⟩ hs, ?_⟩
   refine JT.leaf rfl <| JQ.nil <| J.front 2 rfl <| J.front 2 rfl <| J.front 2 rfl <| J.front 3 rfl <| J.nil ?_
   obtain rfl := si ho18
   exact ⟨rfl, ⟨z26, z28, b48, (some ⟨b57, 0, none⟩), (IntKind.wrap .i64 (xa + 1)).toNat, (some ⟨b55, 0, none⟩), (((xb.length : Nat) : Int)).toNat, rfl, rt5, rfl, rfl⟩⟩
 rintro ρ _ _ ⟨l19, l20, nb21, ad22, cp23, ad24, cp25, rfl, hf59, rfl, rfl⟩
 obtain ⟨ρ, rfl⟩ := hf59.ex
 refine PJ.front 2 rfl <| PJ.wit Row.hn fun hn60 => PJ.front 3 rfl <| PJ.wit Row.hn fun hn61 => PJ.done <| CJ.seq <| CJ.seq ?_
 refine CJ.region <| jm (.slice Ab0 xb.length Cb0) rfl <| jv (ii (((xb.length : Nat) : Int))) (V.len underlying64 rfl) <| jm (ii 0) rfl <| J.nil ?_
 obtain ⟨o62, ho63, h⟩ := ob h
 refine CJ.meetN (fun ρ K' L' => ∃ (l65 : (List Int)) (ad66 : Option Addr) (cp67 : Nat), l65 = o62 ∧ Fits [(0, ii xa), (1, .slice Ab0 xb.length Cb0), (2, .func (.func 50) #[] #[]), (6, pt b15), (7, pt nb21)] ρ ∧ K = K' ∧ L' = Cl b15 95 [nos, nos] :: Cl nb21 95 [.slice ad66 l65.length cp67, .slice ad24 l20.length cp25] :: Row Hp.nil 3 (.int .i64) (.slice ad24 l20.length cp25) l20 :: Row Hp.nil 3 (.int .i64) (.slice ad66 l65.length cp67) l65 :: F) ?_ ?_
 · refine CJ.block <| CJ.front 1 rfl <| CJ.front 1 rfl <| CJ.front 3 rfl <| CJ.front 3 rfl <| CJ.loop (fun s ρ K' L' => ∃ (i68 : Int) (l69 : (List Int)) (ad71 : Option Addr) (cp72 : Nat), (i68, l69) = s ∧ Fits [(0, ii xa), (1, .slice Ab0 xb.length Cb0), (2, .func (.func 50) #[] #[]), (6, pt b15), (7, pt nb21), (22, .slice Ab0 xb.length Cb0), (23, ii (((xb.length : Nat) : Int))), (24, ii i68)] ρ ∧ K = K' ∧ L' = Cl b15 95 [nos, nos] :: Cl nb21 95 [.slice ad71 l69.length cp72, .slice ad24 l20.length cp25] :: Row Hp.nil 3 (.int .i64) (.slice ad24 l20.length cp25) l20 :: Row Hp.nil 3 (.int .i64) (.slice ad71 l69.length cp72) l69 :: F) ho63 ⟨0, l19, ad22, cp23, rfl, rt8, rfl, rfl⟩ ?_
   rintro s ρ _ _ r73 ⟨i68, l69, ad71, cp72, rfl, hf74, rfl, rfl⟩ h75
   obtain ⟨ρ, rfl⟩ := hf74.ex
   refine CJ.front 3 rfl <| CJ.wit Row.hn fun hn76 => cr <| jv (.bool (decide (i68 < (((xb.length : Nat) : Int))))) (V.lss rfl rfl) <| J.nil <| CJ.seq ?_
   refine cc rfl h75 (fun hc77 h75 => ?_) fun hc77 h75 => ?_
   · refine CJ.skip <| CJ.seq <| CJ.block <| CJ.seq <| CJ.region ?_
     obtain ⟨x78, hx79, h75⟩ := ob h75
     obtain ⟨p80, p81, p82⟩ := getI_some hx79
     obtain ⟨b83, o84, e85, a86⟩ := (Gb0).at p81
     refine jv _ (V.iad underlying64 sz70 rfl e85 rfl p80 p82) <| jv (.agg #[ii x78.1, ii x78.2]) (V.ld rfl (Ld.aggK (cs := [ii x78.1, ii x78.2]) underlying70 sz70 rfl ⟨((a86).fst).int, (((a86).snd).one).int, trivial⟩ hpr)) <| jal inf70 [ii 0, ii 0] rfl fun b87 => js [ii x78.1, ii x78.2] sz70 rfl rfl rfl rfl rfl rfl <| J.nil <| CJ.mix [Cl b87 70 [ii x78.1, ii x78.2], Row Hp.nil 3 (.int .i64) (.slice ad71 l69.length cp72) l69, Cl b15 95 [nos, nos], Cl nb21 95 [.slice ad71 l69.length cp72, .slice ad24 l20.length cp25], Row Hp.nil 3 (.int .i64) (.slice ad24 l20.length cp25) l20] [([0, 1, 2, 3], 4)] [5, 6, 7, 8, 9] [10] mixO (by decide +kernel) ⟨0, rfl, 0, rfl, 0, rfl, 0, rfl, 0, rfl, trivial⟩ rfl rfl rfl <| JM.cons ?_
     refine qv _ (V.fad underlying95 rfl nz42 rfl) <| qv (.slice ad71 l69.length cp72) (V.ld rfl (Ld.sc sc42 (Rd.cl 3 rfl rfl))) <| qm (.func (.func 50) #[] #[]) rfl <| qv (.agg #[ii x78.1, ii x78.2]) (V.ld rfl (Ld.agg (cs := [ii x78.1, ii x78.2]) underlying70 sz70 rfl (Rd.cls 0 0 rfl rfl))) <| JQ.nil ?_
     obtain ⟨r88, hr89, h75⟩ := ob h75
     refine JA.op rfl (A.call (L1 := []) call50 rfl (graph_New_1_ok hr89) rfl rfl) ?_
     rintro _ _ _ ⟨v90, _, rfl, ⟨⟨i91, rfl, rfl, rfl⟩, rfl⟩, _, rfl⟩
     refine ⟨fun w hs => Hold.sub hpr ⟨0, rfl, 0, rfl, 0, rfl, 0, rfl, 0, rfl, trivial⟩ hs, ?_⟩
     refine JM.nil <| qv (ii (IntKind.wrap .i64 (i91 + 1))) (V.add rfl rfl) ?_
     obtain ⟨x92, hx93, h75⟩ := ob h75
     obtain ⟨p94, p96, p97⟩ := getI_some hx93
     obtain ⟨g98, e99⟩ := hn76 (fun e => by rw [e] at p96; simp at p96)
     refine qv _ (V.iad underlying42 sz3 rfl e99 rfl p94 p97) <| qv (ii x92) (V.ld rfl (Ld.sc sc3 (Rd.row 1 rfl e99 p96 (q := 0) (by simp [Tp.size]) (by decide) (by rintro _ rfl; rfl)))) <| qv (ii (IntKind.wrap .i64 (x92 + 1))) (V.add rfl rfl) ?_
     obtain ⟨x100, hx101, h75⟩ := ob h75
     obtain ⟨p102, p103, p104⟩ := getI_some hx101
     obtain ⟨g105, e106⟩ := hn76 (fun e => by rw [e] at p103; simp at p103)
     refine qv _ (V.iad underlying42 sz3 rfl e106 rfl p102 p104) <| JQ.nil <| J.front 1 rfl ?_
     obtain ⟨z107, hz108, h75⟩ := ob h75
     have e109 := Option.some.inj hz108
     have hl110 : z107.length = l69.length := by rw [← e109, List.length_set]
     refine J.op rfl (A.storeR (ty := (.int .i64)) (q := 0) (y0 := IntKind.wrap .i64 (x92 + 1)) (zs := z107) sz3 rfl rfl rfl rfl e106 p103 (by simp [Tp.size]) (by decide) (by rintro _ rfl; exact rfl) e109) ?_
     rintro _ _ _ ⟨rfl, rfl, rfl⟩
     have hn111 : z107 ≠ [] → _ := fun h => hn76 (fun e => h (List.length_eq_zero_iff.1 (by rw [hl110]; exact List.length_eq_zero_iff.2 e)))
     refine J.nil <| CJ.region <| jv (ii (IntKind.wrap .i64 (i68 + 1))) (V.add rfl rfl) <| jm (ii (IntKind.wrap .i64 (i68 + 1))) rfl <| J.dropAt 1 rfl <| J.front 3 rfl <| J.front 3 rfl ?_
     refine J.front 3 rfl <| J.nil ?_
     obtain rfl := si h75
     exact ⟨rfl, ⟨IntKind.wrap .i64 (i68 + 1), z107, ad71, cp72, rfl, rt8, rfl, (by rw [hl110]; first | done | rfl)⟩⟩
   refine CJ.front 3 rfl <| CJ.front 3 rfl <| CJ.front 3 rfl <| CJ.exit ?_
   obtain rfl := si h75
   refine ⟨nofun, fun e => ?_⟩
   subst e
   exact ⟨rfl, ⟨l69, ad71, cp72, rfl, rt5, rfl, rfl⟩⟩
 rintro ρ _ _ ⟨l65, ad66, cp67, rfl, hf112, rfl, rfl⟩
 obtain ⟨ρ, rfl⟩ := hf112.ex
 refine PJ.front 3 rfl <| PJ.wit Row.hn fun hn113 => PJ.done <| CJ.seq <| cr <| jm (ii xa) rfl ?_
 refine jm (ii 0) rfl <| J.nil ?_
 obtain ⟨o114, ho115, h⟩ := ob h
 refine CJ.meetN (fun ρ K' L' => ∃ (l116 : (List Int)) (ad117 : Option Addr) (cp118 : Nat), l116 = o114 ∧ Fits [(1, .slice Ab0 xb.length Cb0), (2, .func (.func 50) #[] #[]), (6, pt b15), (7, pt nb21)] ρ ∧ K = K' ∧ L' = Cl b15 95 [nos, nos] :: Cl nb21 95 [.slice ad117 l116.length cp118, .slice ad24 l20.length cp25] :: Row Hp.nil 3 (.int .i64) (.slice ad24 l20.length cp25) l20 :: Row Hp.nil 3 (.int .i64) (.slice ad117 l116.length cp118) l116 :: F) ?_ ?_
 · refine CJ.block <| CJ.front 3 rfl <| CJ.front 3 rfl <| CJ.front 3 rfl <| CJ.loop (fun s ρ K' L' => ∃ (i119 : Int) (l120 : (List Int)) (ad121 : Option Addr) (cp122 : Nat), (i119, l120) = s ∧ Fits [(1, .slice Ab0 xb.length Cb0), (2, .func (.func 50) #[] #[]), (6, pt b15), (7, pt nb21), (39, ii xa), (40, ii i119)] ρ ∧ K = K' ∧ L' = Cl b15 95 [nos, nos] :: Cl nb21 95 [.slice ad121 l120.length cp122, .slice ad24 l20.length cp25] :: Row Hp.nil 3 (.int .i64) (.slice ad24 l20.length cp25) l20 :: Row Hp.nil 3 (.int .i64) (.slice ad121 l120.length cp122) l120 :: F) ho115 ⟨0, l65, ad66, cp67, rfl, rt6, rfl, rfl⟩ ?_
   rintro s ρ _ _ r123 ⟨i119, l120, ad121, cp122, rfl, hf124, rfl, rfl⟩ h125
   obtain ⟨ρ, rfl⟩ := hf124.ex
   refine CJ.front 3 rfl <| CJ.wit Row.hn fun hn126 => cr <| jv (.bool (decide (i119 < xa))) (V.lss rfl rfl) <| J.nil <| CJ.seq ?_
   refine cc rfl h125 (fun hc127 h125 => ?_) fun hc127 h125 => ?_
   · refine CJ.skip <| CJ.seq <| CJ.block <| cr <| jm (ii i119) rfl <| ja (ii i119) rfl ?_
     refine J.nil <| CJ.mix [Row Hp.nil 3 (.int .i64) (.slice ad121 l120.length cp122) l120, Cl b15 95 [nos, nos], Cl nb21 95 [.slice ad121 l120.length cp122, .slice ad24 l20.length cp25], Row Hp.nil 3 (.int .i64) (.slice ad24 l20.length cp25) l20] [] [0, 1, 2, 3, 4, 5, 6, 7, 8, 9, 10, 11, 12] [13] mixO (by decide +kernel) ⟨0, rfl, 0, rfl, 0, rfl, 0, rfl, trivial⟩ rfl rfl rfl <| JM.nil <| qv _ (V.fad underlying95 rfl nz42 rfl) <| qv (.slice ad121 l120.length cp122) (V.ld rfl (Ld.sc sc42 (Rd.cl 2 rfl rfl))) <| qm (ii i119) rfl <| qv (ii (IntKind.wrap .i64 (i119 + 1))) (V.add rfl rfl) ?_
     obtain ⟨x128, hx129, h125⟩ := ob h125
     obtain ⟨p130, p131, p132⟩ := getI_some hx129
     obtain ⟨g133, e134⟩ := hn126 (fun e => by rw [e] at p131; simp at p131)
     refine qv _ (V.iad underlying42 sz3 rfl e134 rfl p130 p132) <| qv (ii x128) (V.ld rfl (Ld.sc sc3 (Rd.row 0 rfl e134 p131 (q := 0) (by simp [Tp.size]) (by decide) (by rintro _ rfl; rfl)))) <| qv _ (V.fad underlying95 rfl nz42 rfl) <| qv (.slice ad121 l120.length cp122) (V.ld rfl (Ld.sc sc42 (Rd.cl 2 rfl rfl))) <| qm (ii i119) rfl ?_
     obtain ⟨x135, hx136, h125⟩ := ob h125
     obtain ⟨p137, p138, p139⟩ := getI_some hx136
     obtain ⟨g140, e141⟩ := hn126 (fun e => by rw [e] at p138; simp at p138)
     refine qv _ (V.iad underlying42 sz3 rfl e141 rfl p137 p139) <| qv (ii x135) (V.ld rfl (Ld.sc sc3 (Rd.row 0 rfl e141 p138 (q := 0) (by simp [Tp.size]) (by decide) (by rintro _ rfl; rfl)))) <| qv (ii (IntKind.wrap .i64 (x128 + x135))) (V.add rfl rfl) ?_
     obtain ⟨x142, hx143, h125⟩ := ob h125
     obtain ⟨p144, p145, p146⟩ := getI_some hx143
     obtain ⟨g147, e148⟩ := hn126 (fun e => by rw [e] at p145; simp at p145)
     refine qv _ (V.iad underlying42 sz3 rfl e148 rfl p144 p146) <| JQ.nil ?_
     obtain ⟨z149, hz150, h125⟩ := ob h125
     have e151 := Option.some.inj hz150
     have hl152 : z149.length = l120.length := by rw [← e151, List.length_set]
     refine J.op rfl (A.storeR (ty := (.int .i64)) (q := 0) (y0 := IntKind.wrap .i64 (x128 + x135)) (zs := z149) sz3 rfl rfl rfl rfl e148 p145 (by simp [Tp.size]) (by decide) (by rintro _ rfl; exact rfl) e151) ?_
     rintro _ _ _ ⟨rfl, rfl, rfl⟩
     have hn153 : z149 ≠ [] → _ := fun h => hn126 (fun e => h (List.length_eq_zero_iff.1 (by rw [hl152]; exact List.length_eq_zero_iff.2 e)))
     refine J.nil <| CJ.region <| jv (ii (IntKind.wrap .i64 (i119 + 1))) (V.add rfl rfl) <| jm (ii (IntKind.wrap .i64 (i119 + 1))) rfl <| J.front 3 rfl <| J.front 3 rfl <| J.front 3 rfl ?_
     refine J.nil ?_
     obtain rfl := si h125
     exact ⟨rfl, ⟨IntKind.wrap .i64 (i119 + 1), z149, ad121, cp122, rfl, rt6, rfl, (by rw [hl152]; first | done | rfl)⟩⟩
   refine CJ.front 3 rfl <| CJ.front 3 rfl <| CJ.front 3 rfl <| CJ.exit ?_
   obtain rfl := si h125
   refine ⟨nofun, fun e => ?_⟩
   subst e
   exact ⟨rfl, ⟨l120, ad121, cp122, rfl, rt4, rfl, rfl⟩⟩
 rintro ρ _ _ ⟨l116, ad117, cp118, rfl, hf154, rfl, rfl⟩
 obtain ⟨ρ, rfl⟩ := hf154.ex
 refine PJ.front 3 rfl <| PJ.wit Row.hn fun hn155 => PJ.done <| cr <| jv _ (V.fad underlying95 rfl nz42 rfl) <| jv (.slice ad117 l116.length cp118) (V.ld rfl (Ld.sc sc42 (Rd.cl 2 rfl rfl))) ?_
 refine J.persist (Hp.nil_le _) (by decide) fun K156 hK157 f158 => ?_
 obtain ⟨r159, hr160, h⟩ := ob h
 refine J.op rfl (A.call (L1 := []) call42 rfl (slices_Clone_int_int_ok f158 hr160) rfl rfl) ?_
 rintro _ _ _ ⟨v161, _, rfl, ⟨⟨l162, ad163, cp164, rfl, rfl, rfl⟩, rfl⟩, _, rfl⟩
 refine J.wit Row.hn fun hn165 => ja (.slice ad163 l162.length cp164) rfl <| J.nil <| CJ.seq <| cr <| jm (.slice Ab0 xb.length Cb0) rfl ?_
 refine jv (ii (((xb.length : Nat) : Int))) (V.len underlying64 rfl) <| jm (ii 0) rfl <| J.nil ?_
 obtain ⟨o166, ho167, h⟩ := ob h
 refine CJ.meetN (fun ρ K' L' => ∃ (l168 : (List Int)) (ad169 : Option Addr) (cp170 : Nat), l168 = o166 ∧ Fits [(6, pt b15), (7, pt nb21)] ρ ∧ K156 = K' ∧ L' = Cl b15 95 [nos, nos] :: Cl nb21 95 [.slice ad117 l116.length cp118, .slice ad169 l168.length cp170] :: Row Hp.nil 3 (.int .i64) (.slice ad169 l168.length cp170) l168 :: F) ?_ ?_
 · refine CJ.block <| CJ.front 3 rfl <| CJ.front 1 rfl <| CJ.front 3 rfl <| CJ.front 3 rfl <| CJ.loop (fun s ρ K' L' => ∃ (l171 : (List Int)) (i172 : Int) (l173 : (List Int)) (ad174 : Option Addr) (cp175 : Nat) (ad176 : Option Addr) (cp177 : Nat), (l171, i172, l173) = s ∧ Fits [(2, .func (.func 50) #[] #[]), (6, pt b15), (7, pt nb21), (11, .slice ad174 l171.length cp175), (60, .slice Ab0 xb.length Cb0), (61, ii (((xb.length : Nat) : Int))), (62, ii i172)] ρ ∧ K156 = K' ∧ L' = Cl b15 95 [nos, nos] :: Cl nb21 95 [.slice ad117 l116.length cp118, .slice ad176 l173.length cp177] :: Row Hp.nil 3 (.int .i64) (.slice ad174 l171.length cp175) l171 :: Row Hp.nil 3 (.int .i64) (.slice ad176 l173.length cp177) l173 :: F) ho167 ⟨l162, 0, l20, ad163, cp164, ad24, cp25, rfl, rt7, rfl, rfl⟩ ?_
   rintro s ρ _ _ r178 ⟨l171, i172, l173, ad174, cp175, ad176, cp177, rfl, hf179, rfl, rfl⟩ h180
   obtain ⟨ρ, rfl⟩ := hf179.ex
   refine CJ.front 2 rfl <| CJ.wit Row.hn fun hn181 => CJ.front 3 rfl <| CJ.wit Row.hn fun hn182 => cr <| jv (.bool (decide (i172 < (((xb.length : Nat) : Int))))) (V.lss rfl rfl) ?_
   refine J.nil <| CJ.seq <| cc rfl h180 (fun hc183 h180 => ?_) fun hc183 h180 => ?_
   · refine CJ.skip <| CJ.seq <| CJ.block <| cr <| jm (ii i172) rfl ?_
     obtain ⟨x184, hx185, h180⟩ := ob h180
     obtain ⟨p186, p187, p188⟩ := getI_some hx185
     obtain ⟨b189, o190, e191, a192⟩ := ((Gb0.mono hK157)).at p187
     refine jv _ (V.iad underlying64 sz70 rfl e191 rfl p186 p188) <| jv (.agg #[ii x184.1, ii x184.2]) (V.ld rfl (Ld.aggK (cs := [ii x184.1, ii x184.2]) underlying70 sz70 rfl ⟨((a192).fst).int, (((a192).snd).one).int, trivial⟩ hpr)) <| jal inf70 [ii 0, ii 0] rfl fun b193 => ja (ii i172) rfl <| js [ii x184.1, ii x184.2] sz70 rfl rfl rfl rfl rfl rfl <| J.nil <| CJ.seq ?_
     refine CJ.region <| jm (.func (.func 50) #[] #[]) rfl <| jv (.agg #[ii x184.1, ii x184.2]) (V.ld rfl (Ld.agg (cs := [ii x184.1, ii x184.2]) underlying70 sz70 rfl (Rd.cls 0 0 rfl rfl))) ?_
     obtain ⟨r194, hr195, h180⟩ := ob h180
     refine J.op rfl (A.call (L1 := []) call50 rfl (graph_New_1_ok hr195) rfl rfl) ?_
     rintro _ _ _ ⟨v196, _, rfl, ⟨⟨i197, rfl, rfl, rfl⟩, rfl⟩, _, rfl⟩
     refine ja (ii i197) rfl <| J.nil <| CJ.seq <| CJ.mix [Cl b193 70 [ii x184.1, ii x184.2], Row Hp.nil 3 (.int .i64) (.slice ad176 l173.length cp177) l173, Row Hp.nil 3 (.int .i64) (.slice ad174 l171.length cp175) l171, Cl b15 95 [nos, nos], Cl nb21 95 [.slice ad117 l116.length cp118, .slice ad176 l173.length cp177]] [] [0, 1, 2, 3, 4, 5, 6, 7] [8] mixO (by decide +kernel) ⟨0, rfl, 0, rfl, 0, rfl, 0, rfl, 0, rfl, trivial⟩ rfl rfl rfl <| JM.nil <| qv _ (V.fad underlying95 rfl nz42 rfl) <| qv (.slice ad176 l173.length cp177) (V.ld rfl (Ld.sc sc42 (Rd.cl 4 rfl rfl))) ?_
     refine qm (.slice ad174 l171.length cp175) rfl <| qm (ii i197) rfl ?_
     obtain ⟨x198, hx199, h180⟩ := ob h180
     obtain ⟨p200, p201, p202⟩ := getI_some hx199
     obtain ⟨g203, e204⟩ := hn181 (fun e => by rw [e] at p201; simp at p201)
     refine qv _ (V.iad underlying42 sz3 rfl e204 rfl p200 p202) <| qv (ii x198) (V.ld rfl (Ld.sc sc3 (Rd.row 2 rfl e204 p201 (q := 0) (by simp [Tp.size]) (by decide) (by rintro _ rfl; rfl)))) <| qm (ii i172) rfl ?_
     obtain ⟨x205, hx206, h180⟩ := ob h180
     obtain ⟨p207, p208, p209⟩ := getI_some hx206
     obtain ⟨g210, e211⟩ := hn182 (fun e => by rw [e] at p208; simp at p208)
     refine qv _ (V.iad underlying42 sz3 rfl e211 rfl p207 p209) <| JQ.nil <| J.front 1 rfl ?_
     obtain ⟨z212, hz213, h180⟩ := ob h180
     have e214 := Option.some.inj hz213
     have hl215 : z212.length = l173.length := by rw [← e214, List.length_set]
     refine J.op rfl (A.storeR (ty := (.int .i64)) (q := 0) (y0 := i172) (zs := z212) sz3 rfl rfl rfl rfl e211 p208 (by simp [Tp.size]) (by decide) (by rintro _ rfl; exact rfl) e214) ?_
     rintro _ _ _ ⟨rfl, rfl, rfl⟩
     have hn216 : z212 ≠ [] → _ := fun h => hn182 (fun e => h (List.length_eq_zero_iff.1 (by rw [hl215]; exact List.length_eq_zero_iff.2 e)))
     refine J.nil <| CJ.region <| jm (.slice ad174 l171.length cp175) rfl <| jm (ii i197) rfl ?_
     obtain ⟨x217, hx218, h180⟩ := ob h180
     obtain ⟨p219, p220, p221⟩ := getI_some hx218
     obtain ⟨g222, e223⟩ := hn181 (fun e => by rw [e] at p220; simp at p220)
     refine jv _ (V.iad underlying42 sz3 rfl e223 rfl p219 p221) <| jv (ii x217) (V.ld rfl (Ld.sc sc3 (Rd.row 2 rfl e223 p220 (q := 0) (by simp [Tp.size]) (by decide) (by rintro _ rfl; rfl)))) <| jv (ii (IntKind.wrap .i64 (x217 + 1))) (V.add rfl rfl) ?_
     obtain ⟨x224, hx225, h180⟩ := ob h180
     obtain ⟨p226, p227, p228⟩ := getI_some hx225
     obtain ⟨g229, e230⟩ := hn181 (fun e => by rw [e] at p227; simp at p227)
     refine jv _ (V.iad underlying42 sz3 rfl e230 rfl p226 p228) <| J.front 2 rfl ?_
     obtain ⟨z231, hz232, h180⟩ := ob h180
     have e233 := Option.some.inj hz232
     have hl234 : z231.length = l171.length := by rw [← e233, List.length_set]
     refine J.op rfl (A.storeR (ty := (.int .i64)) (q := 0) (y0 := IntKind.wrap .i64 (x217 + 1)) (zs := z231) sz3 rfl rfl rfl rfl e230 p227 (by simp [Tp.size]) (by decide) (by rintro _ rfl; exact rfl) e233) ?_
     rintro _ _ _ ⟨rfl, rfl, rfl⟩
     have hn235 : z231 ≠ [] → _ := fun h => hn181 (fun e => h (List.length_eq_zero_iff.1 (by rw [hl234]; exact List.length_eq_zero_iff.2 e)))
     refine J.nil <| CJ.region <| jv (ii (IntKind.wrap .i64 (i172 + 1))) (V.add rfl rfl) <| jm (ii (IntKind.wrap .i64 (i172 + 1))) rfl <| J.dropAt 2 rfl <| J.front 1 rfl <| J.front 1 rfl ?_
     refine J.front 3 rfl <| J.front 3 rfl <| J.nil ?_
     obtain rfl := si h180
     exact ⟨rfl, ⟨z231, IntKind.wrap .i64 (i172 + 1), z212, ad174, cp175, ad176, cp177, rfl, ⟨rfl, rfl, rfl, (by rw [hl234]; rfl), rfl, rfl, rfl, trivial⟩, rfl, (by rw [hl215, hl234]; first | done | rfl)⟩⟩
   refine CJ.dropAt 1 rfl <| CJ.front 2 rfl <| CJ.front 2 rfl <| CJ.exit ?_
   obtain rfl := si h180
   refine ⟨nofun, fun e => ?_⟩
   subst e
   exact ⟨rfl, ⟨l173, ad176, cp177, rfl, rt2, rfl, rfl⟩⟩
 rintro ρ _ _ ⟨l168, ad169, cp170, rfl, hf236, rfl, rfl⟩
 obtain ⟨ρ, rfl⟩ := hf236.ex
 refine PJ.front 2 rfl <| PJ.wit Row.hn fun hn237 => PJ.done <| cr <| jv (.agg #[.slice ad117 l116.length cp118, .slice ad169 l168.length cp170]) (V.ld rfl (Ld.agg (cs := [.slice ad117 l116.length cp118, .slice ad169 l168.length cp170]) underlying95 sz95 rfl (Rd.cls 2 0 rfl rfl))) <| J.front 1 rfl ?_
 refine js [.slice ad117 l116.length cp118, .slice ad169 l168.length cp170] sz95 rfl rfl rfl rfl rfl rfl <| J.nil <| CJ.ret ?_
 obtain rfl := si h
 exact ⟨_, _, Res.one rfl ⟨_, _, rfl, Ld.agg (cs := [.slice ad117 l116.length cp118, .slice ad169 l168.length cp170]) underlying95 sz95 rfl (Rd.cls 0 0 rfl rfl)⟩, ⟨l116, l168, ad117, cp118, ad169, cp170, rfl, rfl, f158, rfl⟩, hK157, fun w hs => (Sep.dropAt 1 rfl (Sep.dropAt 0 rfl hs))⟩

noncomputable def fn_graph_New_2 (xa : (Int × Int)) : Option Int :=
  some (xa.2)
theorem graph_New_2_ok {K : Hp} {xa : (Int × Int)}   {r : Int} (h : fn_graph_New_2 xa = some r) :
    Tr Tryz.prog 51 #[.agg #[ii xa.1, ii xa.2]] K [] (fun v K' L' => (∃ (i2 : Int), i2 = r ∧ ii i2 = v ∧ L' = []) ∧ K = K') := by
 refine Tr.k <| Tr.of func51 rfl ntmps51 rfl fun E F => ?_
 unfold fn_graph_New_2 at h
 refine cr <| jbx [ii xa.1, ii xa.2] rfl rfl fun b3 => ja (ii 0) rfl <| J.nil <| CJ.seq <| CJ.region ?_
 refine jv _ (V.fad underlying70 rfl nz3 rfl) <| jv (ii xa.2) (V.ld rfl (Ld.sc sc3 (Rd.cl 0 rfl rfl))) <| ja (ii xa.2) rfl <| J.nil <| CJ.ret ?_
 obtain rfl := si h
 exact ⟨_, _, Res.one rfl rfl, ⟨xa.2, rfl, rfl, rfl⟩, hpr, fun w hs => (Sep.dropAt 0 rfl hs)⟩
noncomputable def fn_graph_indexed_ik_graph_New_2_l1 (xb : Tq8) : (Int × (List Int)) → Option ((Int × (List Int)) ⊕ (List Int)) := fun ((i1, l2) : (Int × (List Int))) => cond (decide (i1 < (((xb.length : Nat) : Int)))) ((getI xb i1).bind fun x3 => (fn_graph_New_2 (x3.1, x3.2)).bind fun i4 => (getI l2 (IntKind.wrap .i64 (i4 + 1))).bind fun x5 => (getI l2 (IntKind.wrap .i64 (i4 + 1))).bind fun x6 => (some (l2.set (IntKind.wrap .i64 (i4 + 1)).toNat (IntKind.wrap .i64 (x5 + 1)))).bind fun z7 => some (.inl ((IntKind.wrap .i64 (i1 + 1), z7)))) (some (.inr (l2)))
noncomputable def fn_graph_indexed_ik_graph_New_2_l2 (xa : Int) : (Int × (List Int)) → Option ((Int × (List Int)) ⊕ (List Int)) := fun ((i1, l2) : (Int × (List Int))) => cond (decide (i1 < xa)) ((getI l2 (IntKind.wrap .i64 (i1 + 1))).bind fun x3 => (getI l2 i1).bind fun x4 => (getI l2 (IntKind.wrap .i64 (i1 + 1))).bind fun x5 => (some (l2.set (IntKind.wrap .i64 (i1 + 1)).toNat (IntKind.wrap .i64 (x3 + x4)))).bind fun z6 => some (.inl ((IntKind.wrap .i64 (i1 + 1), z6)))) (some (.inr (l2)))
noncomputable def fn_graph_indexed_ik_graph_New_2_l3 (xb : Tq8) : ((List Int) × Int × (List Int)) → Option (((List Int) × Int × (List Int)) ⊕ (List Int)) := fun ((l1, i2, l3) : ((List Int) × Int × (List Int))) => cond (decide (i2 < (((xb.length : Nat) : Int)))) ((getI xb i2).bind fun x4 => (fn_graph_New_2 (x4.1, x4.2)).bind fun i5 => (getI l1 i5).bind fun x6 => (getI l3 x6).bind fun x7 => (some (l3.set x6.toNat i2)).bind fun z9 => (getI l1 i5).bind fun x10 => (getI l1 i5).bind fun x11 => (some (l1.set i5.toNat (IntKind.wrap .i64 (x10 + 1)))).bind fun z12 => some (.inl ((z12, IntKind.wrap .i64 (i2 + 1), z9)))) (some (.inr (l3)))
noncomputable def fn_graph_indexed_ik_graph_New_2 (xa : Int) (xb : Tq8) : Option (((List Int) × (List Int))) :=
  ((mk (IntKind.wrap .i64 (xa + 1)) (IntKind.wrap .i64 (xa + 1)) 0 : Option (List Int)).bind fun z1 => (mk (((xb.length : Nat) : Int)) (((xb.length : Nat) : Int)) 0 : Option (List Int)).bind fun z2 => some ((z1, z2)) : Option (((List Int) × (List Int)))).bind fun (l3, l4) => (loop (fn_graph_indexed_ik_graph_New_2_l1 xb) (0, l3) : Option (List Int)).bind fun l5 => (loop (fn_graph_indexed_ik_graph_New_2_l2 xa) (0, l5) : Option (List Int)).bind fun l6 => (fn_slices_Clone_int_int l6).bind fun l7 => (loop (fn_graph_indexed_ik_graph_New_2_l3 xb) (l7, 0, l4) : Option (List Int)).bind fun l9 => some ((l6, l9))
theorem graph_indexed_ik_graph_New_2_ok {K : Hp} {xa : Int} {xb : Tq8} {Ab0 : Option Addr} {Cb0 : Nat} (Gb0 : Is K (.sl Yq5) [.slice Ab0 xb.length Cb0] xb) {r : ((List Int) × (List Int))} (h : fn_graph_indexed_ik_graph_New_2 xa xb = some r) :
    Tr Tryz.prog 49 #[ii xa, .slice Ab0 xb.length Cb0, .func (.func 51) #[] #[]] K [] (fun v K' L' => (∃ (l9 : (List Int)) (l10 : (List Int)) (ad11 : Option Addr) (cp12 : Nat) (ad13 : Option Addr) (cp14 : Nat), (l9, l10) = r ∧ .agg #[.slice ad11 l9.length cp12, .slice ad13 l10.length cp14] = v ∧ Is K' Yq7 [.slice ad11 l9.length cp12] l9 ∧ L' = [Row Hp.nil 3 (.int .i64) (.slice ad13 l10.length cp14) l10])) := by
 refine Tr.of func49 rfl ntmps49 rfl fun E F => ?_
 unfold fn_graph_indexed_ik_graph_New_2 at h
 refine cr <| jal inf95 [nos, nos] rfl fun b15 => J.nil <| CJ.seq ?_
 obtain ⟨o17, ho18, h⟩ := ob h
 refine CJ.meetN (fun ρ K' L' => ∃ (l19 : (List Int)) (l20 : (List Int)) (nb21 : Nat) (ad22 : Option Addr) (cp23 : Nat) (ad24 : Option Addr) (cp25 : Nat), (l19, l20) = o17 ∧ Fits [(0, ii xa), (1, .slice Ab0 xb.length Cb0), (2, .func (.func 51) #[] #[]), (6, pt b15), (7, pt nb21)] ρ ∧ K = K' ∧ L' = Cl b15 95 [nos, nos] :: Cl nb21 95 [.slice ad22 l19.length cp23, .slice ad24 l20.length cp25] :: Row Hp.nil 3 (.int .i64) (.slice ad22 l19.length cp23) l19 :: Row Hp.nil 3 (.int .i64) (.slice ad24 l20.length cp25) l20 :: F) ?_ ?_
 · refine CJ.tree [Cl b15 95 [nos, nos]] (.still [0, 1, 3, 4] (.alt 2 (.alt 5 (.still [6] (.alt 7 (.alt 8 (.leaf []) .done) .done)) (.alt 7 (.alt 5 (.still [6] (.alt 8 (.leaf []) .done)) .done) .done)) (.alt 5 (.alt 2 (.still [6] (.alt 7 (.alt 8 (.leaf []) .done) .done)) (.alt 7 (.alt 2 (.still [6] (.alt 8 (.leaf []) .done)) .done) .done)) (.alt 7 (.alt 2 (.alt 5 (.still [6] (.alt 8 (.leaf []) .done)) .done) (.alt 5 (.alt 2 (.still [6] (.alt 8 (.leaf []) .done)) .done) .done)) .done)))) [] mixO (by decide +kernel) ⟨0, rfl, trivial⟩ rfl <| JT.still rfl <| qm (ii xa) rfl <| qv (ii (IntKind.wrap .i64 (xa + 1))) (V.add rfl rfl) <| qm (.slice Ab0 xb.length Cb0) rfl <| qv (ii (((xb.length : Nat) : Int))) (V.len underlying64 rfl) <| JQ.nil ?_
   obtain ⟨z26, hz27, ho18⟩ := ob ho18
   obtain ⟨z28, hz29, ho18⟩ := ob ho18
   refine JT.alt rfl ?_ ?_
   · refine JB.op rfl (A.make (K0 := Hp.nil) (ty := (.int .i64)) (x0 := 0) underlying42 inf3 rfl rfl (by decide) (by decide) rfl rfl hz27) ?_
     rintro _ _ _ ⟨b30, rfl, rfl, rfl⟩
     have hn31 : z26 ≠ [] → ∃ g, (some ⟨b30, 0, none⟩ : Option Addr) = some ⟨g, 0, none⟩ := fun _ => ⟨b30, rfl⟩
     refine ⟨fun w hs => Hold.sub hpr ⟨1, rfl, trivial⟩ hs, ?_⟩
     refine JT.alt rfl ?_ ?_
     · refine JB.op rfl (A.make (K0 := Hp.nil) (ty := (.int .i64)) (x0 := 0) underlying42 inf3 rfl rfl (by decide) (by decide) rfl rfl hz29) ?_
       rintro _ _ _ ⟨b33, rfl, rfl, rfl⟩
       have hn34 : z28 ≠ [] → ∃ g, (some ⟨b33, 0, none⟩ : Option Addr) = some ⟨g, 0, none⟩ := fun _ => ⟨b33, rfl⟩
       refine ⟨fun w hs => Hold.sub hpr ⟨2, rfl, trivial⟩ hs, ?_⟩
       refine JT.still rfl <| qv (.agg #[.slice (some ⟨b30, 0, none⟩) z26.length (IntKind.wrap .i64 (xa + 1)).toNat, .slice (some ⟨b33, 0, none⟩) z28.length (((xb.length : Nat) : Int)).toNat]) (V.build inf95 places95 rfl rfl) <| JQ.nil <| JT.alt rfl ?_ JT.done
       refine JB.op rfl (A.alloc (cs := [nos, nos]) inf95 rfl) ?_
       rintro _ _ _ ⟨b35, rfl, rfl, rfl⟩
       refine ⟨fun w hs => Hold.sub hpr ⟨3, rfl, trivial⟩ hs, ?_⟩
       refine JT.alt rfl ?_ JT.done
       refine JB.op rfl (A.store (v := .agg #[.slice (some ⟨b30, 0, none⟩) z26.length (IntKind.wrap .i64 (xa + 1)).toNat, .slice (some ⟨b33, 0, none⟩) z28.length (((xb.length : Nat) : Int)).toNat]) (cs' := [.slice (some ⟨b30, 0, none⟩) z26.length (IntKind.wrap .i64 (xa + 1)).toNat, .slice (some ⟨b33, 0, none⟩) z28.length (((xb.length : Nat) : Int)).toNat]) sz95 rfl rfl rfl rfl rfl rfl) ?_
       rintro _ _ _ ⟨rfl, rfl, rfl⟩
       refine ⟨fun w hs => Hold.sub hpr ⟨3, rfl, trivial⟩ hs, ?_⟩
       refine JT.leaf rfl <| JQ.nil <| J.front 1 rfl <| J.front 2 rfl <| J.front 2 rfl <| J.front 3 rfl <| J.nil ?_
       obtain rfl := si ho18
       exact ⟨rfl, ⟨z26, z28, b35, (some ⟨b30, 0, none⟩), (IntKind.wrap .i64 (xa + 1)).toNat, (some ⟨b33, 0, none⟩), (((xb.length : Nat) : Int)).toNat, rfl, rt5, rfl, rfl⟩⟩
     refine JT.alt rfl ?_ JT.done
     refine JB.op rfl (A.alloc (cs := [nos, nos]) inf95 rfl) ?_
     rintro _ _ _ ⟨b36, rfl, rfl, rfl⟩
     refine ⟨fun w hs => Hold.sub hpr ⟨2, rfl, trivial⟩ hs, ?_⟩
     refine JT.alt rfl ?_ JT.done
     refine JB.op rfl (A.make (K0 := Hp.nil) (ty := (.int .i64)) (x0 := 0) underlying42 inf3 rfl rfl (by decide) (by decide) rfl rfl hz29) ?_
     rintro _ _ _ ⟨b37, rfl, rfl, rfl⟩
     have hn38 : z28 ≠ [] → ∃ g, (some ⟨b37, 0, none⟩ : Option Addr) = some ⟨g, 0, none⟩ := fun _ => ⟨b37, rfl⟩
     refine ⟨fun w hs => Hold.sub hpr ⟨3, rfl, trivial⟩ hs, ?_⟩
     refine JT.still rfl <| qv (.agg #[.slice (some ⟨b30, 0, none⟩) z26.length (IntKind.wrap .i64 (xa + 1)).toNat, .slice (some ⟨b37, 0, none⟩) z28.length (((xb.length : Nat) : Int)).toNat]) (V.build inf95 places95 rfl rfl) <| JQ.nil <| JT.alt rfl ?_ JT.done
     refine JB.front 1 rfl <| JB.op rfl (A.store (v := .agg #[.slice (some ⟨b30, 0, none⟩) z26.length (IntKind.wrap .i64 (xa + 1)).toNat, .slice (some ⟨b37, 0, none⟩) z28.length (((xb.length : Nat) : Int)).toNat]) (cs' := [.slice (some ⟨b30, 0, none⟩) z26.length (IntKind.wrap .i64 (xa + 1)).toNat, .slice (some ⟨b37, 0, none⟩) z28.length (((xb.length : Nat) : Int)).toNat]) sz95 rfl rfl rfl rfl rfl rfl) ?_
     rintro _ _ _ ⟨rfl, rfl, rfl⟩
     refine ⟨fun w hs => Hold.sub hpr ⟨3, rfl, trivial⟩ hs, ?_⟩
     refine JT.leaf rfl <| JQ.nil <| J.front 1 rfl <| J.front 2 rfl <| J.front 2 rfl <| J.front 3 rfl <| J.nil ?_
     obtain rfl := si ho18
     exact ⟨rfl, ⟨z26, z28, b36, (some ⟨b30, 0, none⟩), (IntKind.wrap .i64 (xa + 1)).toNat, (some ⟨b37, 0, none⟩), (((xb.length : Nat) : Int)).toNat, rfl, rt5, rfl, rfl⟩⟩
   refine JT.alt rfl ?_ ?_
   · refine JB.op rfl (A.make (K0 := Hp.nil) (ty := (.int .i64)) (x0 := 0) underlying42 inf3 rfl rfl (by decide) (by decide) rfl rfl hz29) ?_
     rintro _ _ _ ⟨b39, rfl, rfl, rfl⟩
     have hn40 : z28 ≠ [] → ∃ g, (some ⟨b39, 0, none⟩ : Option Addr) = some ⟨g, 0, none⟩ := fun _ => ⟨b39, rfl⟩
     refine ⟨fun w hs => Hold.sub hpr ⟨1, rfl, trivial⟩ hs, ?_⟩
     refine JT.alt rfl ?_ ?_
     · refine JB.op rfl (A.make (K0 := Hp.nil) (ty := (.int .i64)) (x0 := 0) underlying42 inf3 rfl rfl (by decide) (by decide) rfl rfl hz27) ?_
       rintro _ _ _ ⟨b41, rfl, rfl, rfl⟩
       have hn43 : z26 ≠ [] → ∃ g, (some ⟨b41, 0, none⟩ : Option Addr) = some ⟨g, 0, none⟩ := fun _ => ⟨b41, rfl⟩
       refine ⟨fun w hs => Hold.sub hpr ⟨2, rfl, trivial⟩ hs, ?_⟩
       refine JT.still rfl <| qv (.agg #[.slice (some ⟨b41, 0, none⟩) z26.length (IntKind.wrap .i64 (xa + 1)).toNat, .slice (some ⟨b39, 0, none⟩) z28.length (((xb.length : Nat) : Int)).toNat]) (V.build inf95 places95 rfl rfl) <| JQ.nil <| JT.alt rfl ?_ JT.done
       refine JB.op rfl (A.alloc (cs := [nos, nos]) inf95 rfl) ?_
       rintro _ _ _ ⟨b44, rfl, rfl, rfl⟩
       refine ⟨fun w hs => Hold.sub hpr ⟨3, rfl, trivial⟩ hs, ?_⟩
       refine JT.alt rfl ?_ JT.done
       refine JB.op rfl (A.store (v := .agg #[.slice (some ⟨b41, 0, none⟩) z26.length (IntKind.wrap .i64 (xa + 1)).toNat, .slice (some ⟨b39, 0, none⟩) z28.length (((xb.length : Nat) : Int)).toNat]) (cs' := [.slice (some ⟨b41, 0, none⟩) z26.length (IntKind.wrap .i64 (xa + 1)).toNat, .slice (some ⟨b39, 0, none⟩) z28.length (((xb.length : Nat) : Int)).toNat]) sz95 rfl rfl rfl rfl rfl rfl) ?_
       rintro _ _ _ ⟨rfl, rfl, rfl⟩
       refine ⟨fun w hs => Hold.sub hpr ⟨3, rfl, trivial⟩ hs, ?_⟩
       refine JT.leaf rfl <| JQ.nil <| J.front 2 rfl <| J.front 2 rfl <| J.front 2 rfl <| J.front 3 rfl <| J.nil ?_
       obtain rfl := si ho18
       exact ⟨rfl, ⟨z26, z28, b44, (some ⟨b41, 0, none⟩), (IntKind.wrap .i64 (xa + 1)).toNat, (some ⟨b39, 0, none⟩), (((xb.length : Nat) : Int)).toNat, rfl, rt5, rfl, rfl⟩⟩
     refine JT.alt rfl ?_ JT.done
     refine JB.op rfl (A.alloc (cs := [nos, nos]) inf95 rfl) ?_
     rintro _ _ _ ⟨b45, rfl, rfl, rfl⟩
     refine ⟨fun w hs => Hold.sub hpr ⟨2, rfl, trivial⟩ hs, ?_⟩
     refine JT.alt rfl ?_ JT.done
     refine JB.op rfl (A.make (K0 := Hp.nil) (ty := (.int .i64)) (x0 := 0) underlying42 inf3 rfl rfl (by decide) (by decide) rfl rfl hz27) ?_
     rintro _ _ _ ⟨b46, rfl, rfl, rfl⟩
     have hn47 : z26 ≠ [] → ∃ g, (some ⟨b46, 0, none⟩ : Option Addr) = some ⟨g, 0, none⟩ := fun _ => ⟨b46, rfl⟩
     refine ⟨fun w hs => Hold.sub hpr ⟨3, rfl, trivial⟩ hs, ?_⟩
     refine JT.still rfl <| qv (.agg #[.slice (some ⟨b46, 0, none⟩) z26.length (IntKind.wrap .i64 (xa + 1)).toNat, .slice (some ⟨b39, 0, none⟩) z28.length (((xb.length : Nat) : Int)).toNat]) (V.build inf95 places95 rfl rfl) <| JQ.nil <| JT.alt rfl ?_ JT.done
     refine JB.front 1 rfl <| JB.op rfl (A.store (v := .agg #[.slice (some ⟨b46, 0, none⟩) z26.length (IntKind.wrap .i64 (xa + 1)).toNat, .slice (some ⟨b39, 0, none⟩) z28.length (((xb.length : Nat) : Int)).toNat]) (cs' := [.slice (some ⟨b46, 0, none⟩) z26.length (IntKind.wrap .i64 (xa + 1)).toNat, .slice (some ⟨b39, 0, none⟩) z28.length (((xb.length : Nat) : Int)).toNat]) sz95 rfl rfl rfl rfl rfl rfl) ?_
     rintro _ _ _ ⟨rfl, rfl, rfl⟩
     refine ⟨fun w hs => Hold.sub hpr ⟨3, rfl, trivial⟩ hs, ?_⟩
     refine JT.leaf rfl <| JQ.nil <| J.front 2 rfl <| J.front 2 rfl <| J.front 2 rfl <| J.front 3 rfl <| J.nil ?_
     obtain rfl := si ho18
     exact ⟨rfl, ⟨z26, z28, b45, (some ⟨b46, 0, none⟩), (IntKind.wrap .i64 (xa + 1)).toNat, (some ⟨b39, 0, none⟩), (((xb.length : Nat) : Int)).toNat, rfl, rt5, rfl, rfl⟩⟩
   refine JT.alt rfl ?_ JT.done
   refine JB.op rfl (A.alloc (cs := [nos, nos]) inf95 rfl) ?_
   rintro _ _ _ ⟨b48, rfl, rfl, rfl⟩
   refine ⟨fun w hs => Hold.sub hpr ⟨1, rfl, trivial⟩ hs, ?_⟩
   refine JT.alt rfl ?_ ?_
   · refine JB.op rfl (A.make (K0 := Hp.nil) (ty := (.int .i64)) (x0 := 0) underlying42 inf3 rfl rfl (by decide) (by decide) rfl rfl hz27) ?_
     rintro _ _ _ ⟨b50, rfl, rfl, rfl⟩
     have hn52 : z26 ≠ [] → ∃ g, (some ⟨b50, 0, none⟩ : Option Addr) = some ⟨g, 0, none⟩ := fun _ => ⟨b50, rfl⟩
     refine ⟨fun w hs => Hold.sub hpr ⟨2, rfl, trivial⟩ hs, ?_⟩
     refine JT.alt rfl ?_ JT.done
     refine JB.op rfl (A.make (K0 := Hp.nil) (ty := (.int .i64)) (x0 := 0) underlying42 inf3 rfl rfl (by decide) (by decide) rfl rfl hz29) ?_
     rintro _ _ _ ⟨b53, rfl, rfl, rfl⟩
     have hn54 : z28 ≠ [] → ∃ g, (some ⟨b53, 0, none⟩ : Option Addr) = some ⟨g, 0, none⟩ := fun _ => ⟨b53, rfl⟩
     refine ⟨fun w hs => Hold.sub hpr ⟨3, rfl, trivial⟩ hs, ?_⟩
     refine JT.still rfl <| qv (.agg #[.slice (some ⟨b50, 0, none⟩) z26.length (IntKind.wrap .i64 (xa + 1)).toNat, .slice (some ⟨b53, 0, none⟩) z28.length (((xb.length : Nat) : Int)).toNat]) (V.build inf95 places95 rfl rfl) <| JQ.nil <| JT.alt rfl ?_ JT.done
     refine JB.front 2 rfl <| JB.op rfl (A.store (v := .agg #[.slice (some ⟨b50, 0, none⟩) z26.length (IntKind.wrap .i64 (xa + 1)).toNat, .slice (some ⟨b53, 0, none⟩) z28.length (((xb.length : Nat) : Int)).toNat]) (cs' := [.slice (some ⟨b50, 0, none⟩) z26.length (IntKind.wrap .i64 (xa + 1)).toNat, .slice (some ⟨b53, 0, none⟩) z28.length (((xb.length : Nat) : Int)).toNat]) sz95 rfl rfl rfl rfl rfl rfl) ?_
     rintro _ _ _ ⟨rfl, rfl, rfl⟩
     refine ⟨fun w hs => Hold.sub hpr ⟨3, rfl, trivial⟩ hs, ?_⟩
     refine JT.leaf rfl <| JQ.nil <| J.front 1 rfl <| J.front 2 rfl <| J.front 2 rfl <| J.front 3 rfl <| J.nil ?_
     obtain rfl := si ho18
     exact ⟨rfl, ⟨z26, z28, b48, (some ⟨b50, 0, none⟩), (IntKind.wrap .i64 (xa + 1)).toNat, (some ⟨b53, 0, none⟩), (((xb.length : Nat) : Int)).toNat, rfl, rt5, rfl, rfl⟩⟩
   refine JT.alt rfl ?_ JT.done
   refine JB.op rfl (A.make (K0 := Hp.nil) (ty := (.int .i64)) (x0 := 0) underlying42 inf3 rfl rfl (by decide) (by decide) rfl rfl hz29) ?_
   rintro _ _ _ ⟨b55, rfl, rfl, rfl⟩
   have hn56 : z28 ≠ [] → ∃ g, (some ⟨b55, 0, none⟩ : Option Addr) = some ⟨g, 0, none⟩ := fun _ => ⟨b55, rfl⟩
   refine ⟨fun w hs => Hold.sub hpr ⟨2, rfl, trivial⟩ hs, ?_⟩
   refine JT.alt rfl ?_ JT.done
   refine JB.op rfl (A.make (K0 := Hp.nil) (ty := (.int .i64)) (x0 := 0) underlying42 inf3 rfl rfl (by decide) (by decide) rfl rfl hz27) ?_
   rintro _ _ _ ⟨b57, rfl, rfl, rfl⟩
   have hn58 : z26 ≠ [] → ∃ g, (some ⟨b57, 0, none⟩ : Option Addr) = some ⟨g, 0, none⟩ := fun _ => ⟨b57, rfl⟩
   refine ⟨fun w hs => Hold.sub hpr ⟨3, rfl, trivial⟩ hs, ?_⟩
   refine JT.still rfl <| qv (.agg #[.slice (some ⟨b57, 0, none⟩) z26.length (IntKind.wrap .i64 (xa + 1)).toNat, .slice (some ⟨b55, 0, none⟩) z28.length (((xb.length : Nat) : Int)).toNat]) (V.build inf95 places95 rfl rfl) <| JQ.nil <| JT.alt rfl ?_ JT.done
   refine JB.front 2 rfl <| JB.op rfl (A.store (v := .agg #[.slice (some ⟨b57, 0, none⟩) z26.length (IntKind.wrap .i64 (xa + 1)).toNat, .slice (some ⟨b55, 0, none⟩) z28.length (((xb.length : Nat) : Int)).toNat]) (cs' := [.slice (some ⟨b57, 0, none⟩) z26.length (IntKind.wrap .i64 (xa + 1)).toNat, .slice (some ⟨b55, 0, none⟩) z28.length (((xb.length : Nat) : Int)).toNat]) sz95 rfl rfl rfl rfl rfl rfl) ?_
   rintro _ _ _ ⟨rfl, rfl, rfl⟩
   refine ⟨fun w hs => Hold.sub hpr ⟨3, rfl, trivial⟩ hs, ?_⟩
   refine JT.leaf rfl <| JQ.nil <| J.front 2 rfl <| J.front 2 rfl <| J.front 2 rfl <| J.front 3 rfl <| J.nil ?_
   obtain rfl := si ho18
   exact ⟨rfl, ⟨z26, z28, b48, (some ⟨b57, 0, none⟩), (IntKind.wrap .i64 (xa + 1)).toNat, (some ⟨b55, 0, none⟩), (((xb.length : Nat) : Int)).toNat, rfl, rt5, rfl, rfl⟩⟩
 rintro ρ _ _ ⟨l19, l20, nb21, ad22, cp23, ad24, cp25, rfl, hf59, rfl, rfl⟩
 obtain ⟨ρ, rfl⟩ := hf59.ex
 refine PJ.front 2 rfl <| PJ.wit Row.hn fun hn60 => PJ.front 3 rfl <| PJ.wit Row.hn fun hn61 => PJ.done <| CJ.seq <| CJ.seq ?_
 refine CJ.region <| jm (.slice Ab0 xb.length Cb0) rfl <| jv (ii (((xb.length : Nat) : Int))) (V.len underlying64 rfl) <| jm (ii 0) rfl <| J.nil ?_
 obtain ⟨o62, ho63, h⟩ := ob h
 refine CJ.meetN (fun ρ K' L' => ∃ (l65 : (List Int)) (ad66 : Option Addr) (cp67 : Nat), l65 = o62 ∧ Fits [(0, ii xa), (1, .slice Ab0 xb.length Cb0), (2, .func (.func 51) #[] #[]), (6, pt b15), (7, pt nb21)] ρ ∧ K = K' ∧ L' = Cl b15 95 [nos, nos] :: Cl nb21 95 [.slice ad66 l65.length cp67, .slice ad24 l20.length cp25] :: Row Hp.nil 3 (.int .i64) (.slice ad24 l20.length cp25) l20 :: Row Hp.nil 3 (.int .i64) (.slice ad66 l65.length cp67) l65 :: F) ?_ ?_
 · refine CJ.block <| CJ.front 1 rfl <| CJ.front 1 rfl <| CJ.front 3 rfl <| CJ.front 3 rfl <| CJ.loop (fun s ρ K' L' => ∃ (i68 : Int) (l69 : (List Int)) (ad71 : Option Addr) (cp72 : Nat), (i68, l69) = s ∧ Fits [(0, ii xa), (1, .slice Ab0 xb.length Cb0), (2, .func (.func 51) #[] #[]), (6, pt b15), (7, pt nb21), (22, .slice Ab0 xb.length Cb0), (23, ii (((xb.length : Nat) : Int))), (24, ii i68)] ρ ∧ K = K' ∧ L' = Cl b15 95 [nos, nos] :: Cl nb21 95 [.slice ad71 l69.length cp72, .slice ad24 l20.length cp25] :: Row Hp.nil 3 (.int .i64) (.slice ad24 l20.length cp25) l20 :: Row Hp.nil 3 (.int .i64) (.slice ad71 l69.length cp72) l69 :: F) ho63 ⟨0, l19, ad22, cp23, rfl, rt8, rfl, rfl⟩ ?_
   rintro s ρ _ _ r73 ⟨i68, l69, ad71, cp72, rfl, hf74, rfl, rfl⟩ h75
   obtain ⟨ρ, rfl⟩ := hf74.ex
   refine CJ.front 3 rfl <| CJ.wit Row.hn fun hn76 => cr <| jv (.bool (decide (i68 < (((xb.length : Nat) : Int))))) (V.lss rfl rfl) <| J.nil <| CJ.seq ?_
   refine cc rfl h75 (fun hc77 h75 => ?_) fun hc77 h75 => ?_
   · refine CJ.skip <| CJ.seq <| CJ.block <| CJ.seq <| CJ.region ?_
     obtain ⟨x78, hx79, h75⟩ := ob h75
     obtain ⟨p80, p81, p82⟩ := getI_some hx79
     obtain ⟨b83, o84, e85, a86⟩ := (Gb0).at p81
     refine jv _ (V.iad underlying64 sz70 rfl e85 rfl p80 p82) <| jv (.agg #[ii x78.1, ii x78.2]) (V.ld rfl (Ld.aggK (cs := [ii x78.1, ii x78.2]) underlying70 sz70 rfl ⟨((a86).fst).int, (((a86).snd).one).int, trivial⟩ hpr)) <| jal inf70 [ii 0, ii 0] rfl fun b87 => js [ii x78.1, ii x78.2] sz70 rfl rfl rfl rfl rfl rfl <| J.nil <| CJ.mix [Cl b87 70 [ii x78.1, ii x78.2], Row Hp.nil 3 (.int .i64) (.slice ad71 l69.length cp72) l69, Cl b15 95 [nos, nos], Cl nb21 95 [.slice ad71 l69.length cp72, .slice ad24 l20.length cp25], Row Hp.nil 3 (.int .i64) (.slice ad24 l20.length cp25) l20] [([0, 1, 2, 3], 4)] [5, 6, 7, 8, 9] [10] mixO (by decide +kernel) ⟨0, rfl, 0, rfl, 0, rfl, 0, rfl, 0, rfl, trivial⟩ rfl rfl rfl <| JM.cons ?_
     refine qv _ (V.fad underlying95 rfl nz42 rfl) <| qv (.slice ad71 l69.length cp72) (V.ld rfl (Ld.sc sc42 (Rd.cl 3 rfl rfl))) <| qm (.func (.func 51) #[] #[]) rfl <| qv (.agg #[ii x78.1, ii x78.2]) (V.ld rfl (Ld.agg (cs := [ii x78.1, ii x78.2]) underlying70 sz70 rfl (Rd.cls 0 0 rfl rfl))) <| JQ.nil ?_
     obtain ⟨r88, hr89, h75⟩ := ob h75
     refine JA.op rfl (A.call (L1 := []) call51 rfl (graph_New_2_ok hr89) rfl rfl) ?_
     rintro _ _ _ ⟨v90, _, rfl, ⟨⟨i91, rfl, rfl, rfl⟩, rfl⟩, _, rfl⟩
     refine ⟨fun w hs => Hold.sub hpr ⟨0, rfl, 0, rfl, 0, rfl, 0, rfl, 0, rfl, trivial⟩ hs, ?_⟩
     refine JM.nil <| qv (ii (IntKind.wrap .i64 (i91 + 1))) (V.add rfl rfl) ?_
     obtain ⟨x92, hx93, h75⟩ := ob h75
     obtain ⟨p94, p96, p97⟩ := getI_some hx93
     obtain ⟨g98, e99⟩ := hn76 (fun e => by rw [e] at p96; simp at p96)
     refine qv _ (V.iad underlying42 sz3 rfl e99 rfl p94 p97) <| qv (ii x92) (V.ld rfl (Ld.sc sc3 (Rd.row 1 rfl e99 p96 (q := 0) (by simp [Tp.size]) (by decide) (by rintro _ rfl; rfl)))) <| qv (ii (IntKind.wrap .i64 (x92 + 1))) (V.add rfl rfl) ?_
     obtain ⟨x100, hx101, h75⟩ := ob h75
     obtain ⟨p102, p103, p104⟩ := getI_some hx101
     obtain ⟨g105, e106⟩ := hn76 (fun e => by rw [e] at p103; simp at p103)
     refine qv _ (V.iad underlying42 sz3 rfl e106 rfl p102 p104) <| JQ.nil <| J.front 1 rfl ?_
     obtain ⟨z107, hz108, h75⟩ := ob h75
     have e109 := Option.some.inj hz108
     have hl110 : z107.length = l69.length := by rw [← e109, List.length_set]
     refine J.op rfl (A.storeR (ty := (.int .i64)) (q := 0) (y0 := IntKind.wrap .i64 (x92 + 1)) (zs := z107) sz3 rfl rfl rfl rfl e106 p103 (by simp [Tp.size]) (by decide) (by rintro _ rfl; exact rfl) e109) ?_
     rintro _ _ _ ⟨rfl, rfl, rfl⟩
     have hn111 : z107 ≠ [] → _ := fun h => hn76 (fun e => h (List.length_eq_zero_iff.1 (by rw [hl110]; exact List.length_eq_zero_iff.2 e)))
     refine J.nil <| CJ.region <| jv (ii (IntKind.wrap .i64 (i68 + 1))) (V.add rfl rfl) <| jm (ii (IntKind.wrap .i64 (i68 + 1))) rfl <| J.dropAt 1 rfl <| J.front 3 rfl <| J.front 3 rfl ?_
     refine J.front 3 rfl <| J.nil ?_
     obtain rfl := si h75
     exact ⟨rfl, ⟨IntKind.wrap .i64 (i68 + 1), z107, ad71, cp72, rfl, rt8, rfl, (by rw [hl110]; first | done | rfl)⟩⟩
   refine CJ.front 3 rfl <| CJ.front 3 rfl <| CJ.front 3 rfl <| CJ.exit ?_
   obtain rfl := si h75
   refine ⟨nofun, fun e => ?_⟩
   subst e
   exact ⟨rfl, ⟨l69, ad71, cp72, rfl, rt5, rfl, rfl⟩⟩
 rintro ρ _ _ ⟨l65, ad66, cp67, rfl, hf112, rfl, rfl⟩
 obtain ⟨ρ, rfl⟩ := hf112.ex
 refine PJ.front 3 rfl <| PJ.wit Row.hn fun hn113 => PJ.done <| CJ.seq <| cr <| jm (ii xa) rfl ?_
 refine jm (ii 0) rfl <| J.nil ?_
 obtain ⟨o114, ho115, h⟩ := ob h
 refine CJ.meetN (fun ρ K' L' => ∃ (l116 : (List Int)) (ad117 : Option Addr) (cp118 : Nat), l116 = o114 ∧ Fits [(1, .slice Ab0 xb.length Cb0), (2, .func (.func 51) #[] #[]), (6, pt b15), (7, pt nb21)] ρ ∧ K = K' ∧ L' = Cl b15 95 [nos, nos] :: Cl nb21 95 [.slice ad117 l116.length cp118, .slice ad24 l20.length cp25] :: Row Hp.nil 3 (.int .i64) (.slice ad24 l20.length cp25) l20 :: Row Hp.nil 3 (.int .i64) (.slice ad117 l116.length cp118) l116 :: F) ?_ ?_
 · refine CJ.block <| CJ.front 3 rfl <| CJ.front 3 rfl <| CJ.front 3 rfl <| CJ.loop (fun s ρ K' L' => ∃ (i119 : Int) (l120 : (List Int)) (ad121 : Option Addr) (cp122 : Nat), (i119, l120) = s ∧ Fits [(1, .slice Ab0 xb.length Cb0), (2, .func (.func 51) #[] #[]), (6, pt b15), (7, pt nb21), (39, ii xa), (40, ii i119)] ρ ∧ K = K' ∧ L' = Cl b15 95 [nos, nos] :: Cl nb21 95 [.slice ad121 l120.length cp122, .slice ad24 l20.length cp25] :: Row Hp.nil 3 (.int .i64) (.slice ad24 l20.length cp25) l20 :: Row Hp.nil 3 (.int .i64) (.slice ad121 l120.length cp122) l120 :: F) ho115 ⟨0, l65, ad66, cp67, rfl, rt6, rfl, rfl⟩ ?_
   rintro s ρ _ _ r123 ⟨i119, l120, ad121, cp122, rfl, hf124, rfl, rfl⟩ h125
   obtain ⟨ρ, rfl⟩ := hf124.ex
   refine CJ.front 3 rfl <| CJ.wit Row.hn fun hn126 => cr <| jv (.bool (decide (i119 < xa))) (V.lss rfl rfl) <| J.nil <| CJ.seq ?_
   refine cc rfl h125 (fun hc127 h125 => ?_) fun hc127 h125 => ?_
   · refine CJ.skip <| CJ.seq <| CJ.block <| cr <| jm (ii i119) rfl <| ja (ii i119) rfl ?_
     refine J.nil <| CJ.mix [Row Hp.nil 3 (.int .i64) (.slice ad121 l120.length cp122) l120, Cl b15 95 [nos, nos], Cl nb21 95 [.slice ad121 l120.length cp122, .slice ad24 l20.length cp25], Row Hp.nil 3 (.int .i64) (.slice ad24 l20.length cp25) l20] [] [0, 1, 2, 3, 4, 5, 6, 7, 8, 9, 10, 11, 12] [13] mixO (by decide +kernel) ⟨0, rfl, 0, rfl, 0, rfl, 0, rfl, trivial⟩ rfl rfl rfl <| JM.nil <| qv _ (V.fad underlying95 rfl nz42 rfl) <| qv (.slice ad121 l120.length cp122) (V.ld rfl (Ld.sc sc42 (Rd.cl 2 rfl rfl))) <| qm (ii i119) rfl <| qv (ii (IntKind.wrap .i64 (i119 + 1))) (V.add rfl rfl) ?_
     obtain ⟨x128, hx129, h125⟩ := ob h125
     obtain ⟨p130, p131, p132⟩ := getI_some hx129
     obtain ⟨g133, e134⟩ := hn126 (fun e => by rw [e] at p131; simp at p131)
     refine qv _ (V.iad underlying42 sz3 rfl e134 rfl p130 p132) <| qv (ii x128) (V.ld rfl (Ld.sc sc3 (Rd.row 0 rfl e134 p131 (q := 0) (by simp [Tp.size]) (by decide) (by rintro _ rfl; rfl)))) <| qv _ (V.fad underlying95 rfl nz42 rfl) <| qv (.slice ad121 l120.length cp122) (V.ld rfl (Ld.sc sc42 (Rd.cl 2 rfl rfl))) <| qm (ii i119) rfl ?_
     obtain ⟨x135, hx136, h125⟩ := ob h125
     obtain ⟨p137, p138, p139⟩ := getI_some hx136
     obtain ⟨g140, e141⟩ := hn126 (fun e => by rw [e] at p138; simp at p138)
     refine qv _ (V.iad underlying42 sz3 rfl e141 rfl p137 p139) <| qv (ii x135) (V.ld rfl (Ld.sc sc3 (Rd.row 0 rfl e141 p138 (q := 0) (by simp [Tp.size]) (by decide) (by rintro _ rfl; rfl)))) <| qv (ii (IntKind.wrap .i64 (x128 + x135))) (V.add rfl rfl) ?_
     obtain ⟨x142, hx143, h125⟩ := ob h125
     obtain ⟨p144, p145, p146⟩ := getI_some hx143
     obtain ⟨g147, e148⟩ := hn126 (fun e => by rw [e] at p145; simp at p145)
     refine qv _ (V.iad underlying42 sz3 rfl e148 rfl p144 p146) <| JQ.nil ?_
     obtain ⟨z149, hz150, h125⟩ := ob h125
     have e151 := Option.some.inj hz150
     have hl152 : z149.length = l120.length := by rw [← e151, List.length_set]
     refine J.op rfl (A.storeR (ty := (.int .i64)) (q := 0) (y0 := IntKind.wrap .i64 (x128 + x135)) (zs := z149) sz3 rfl rfl rfl rfl e148 p145 (by simp [Tp.size]) (by decide) (by rintro _ rfl; exact rfl) e151) ?_
     rintro _ _ _ ⟨rfl, rfl, rfl⟩
     have hn153 : z149 ≠ [] → _ := fun h => hn126 (fun e => h (List.length_eq_zero_iff.1 (by rw [hl152]; exact List.length_eq_zero_iff.2 e)))
     refine J.nil <| CJ.region <| jv (ii (IntKind.wrap .i64 (i119 + 1))) (V.add rfl rfl) <| jm (ii (IntKind.wrap .i64 (i119 + 1))) rfl <| J.front 3 rfl <| J.front 3 rfl <| J.front 3 rfl ?_
     refine J.nil ?_
     obtain rfl := si h125
     exact ⟨rfl, ⟨IntKind.wrap .i64 (i119 + 1), z149, ad121, cp122, rfl, rt6, rfl, (by rw [hl152]; first | done | rfl)⟩⟩
   refine CJ.front 3 rfl <| CJ.front 3 rfl <| CJ.front 3 rfl <| CJ.exit ?_
   obtain rfl := si h125
   refine ⟨nofun, fun e => ?_⟩
   subst e
   exact ⟨rfl, ⟨l120, ad121, cp122, rfl, rt4, rfl, rfl⟩⟩
 rintro ρ _ _ ⟨l116, ad117, cp118, rfl, hf154, rfl, rfl⟩
 obtain ⟨ρ, rfl⟩ := hf154.ex
 refine PJ.front 3 rfl <| PJ.wit Row.hn fun hn155 => PJ.done <| cr <| jv _ (V.fad underlying95 rfl nz42 rfl) <| jv (.slice ad117 l116.length cp118) (V.ld rfl (Ld.sc sc42 (Rd.cl 2 rfl rfl))) ?_
 refine J.persist (Hp.nil_le _) (by decide) fun K156 hK157 f158 => ?_
 obtain ⟨r159, hr160, h⟩ := ob h
 refine J.op rfl (A.call (L1 := []) call42 rfl (slices_Clone_int_int_ok f158 hr160) rfl rfl) ?_
 rintro _ _ _ ⟨v161, _, rfl, ⟨⟨l162, ad163, cp164, rfl, rfl, rfl⟩, rfl⟩, _, rfl⟩
 refine J.wit Row.hn fun hn165 => ja (.slice ad163 l162.length cp164) rfl <| J.nil <| CJ.seq <| cr <| jm (.slice Ab0 xb.length Cb0) rfl ?_
 refine jv (ii (((xb.length : Nat) : Int))) (V.len underlying64 rfl) <| jm (ii 0) rfl <| J.nil ?_
 obtain ⟨o166, ho167, h⟩ := ob h
 refine CJ.meetN (fun ρ K' L' => ∃ (l168 : (List Int)) (ad169 : Option Addr) (cp170 : Nat), l168 = o166 ∧ Fits [(6, pt b15), (7, pt nb21)] ρ ∧ K156 = K' ∧ L' = Cl b15 95 [nos, nos] :: Cl nb21 95 [.slice ad117 l116.length cp118, .slice ad169 l168.length cp170] :: Row Hp.nil 3 (.int .i64) (.slice ad169 l168.length cp170) l168 :: F) ?_ ?_
 · refine CJ.block <| CJ.front 3 rfl <| CJ.front 1 rfl <| CJ.front 3 rfl <| CJ.front 3 rfl <| CJ.loop (fun s ρ K' L' => ∃ (l171 : (List Int)) (i172 : Int) (l173 : (List Int)) (ad174 : Option Addr) (cp175 : Nat) (ad176 : Option Addr) (cp177 : Nat), (l171, i172, l173) = s ∧ Fits [(2, .func (.func 51) #[] #[]), (6, pt b15), (7, pt nb21), (11, .slice ad174 l171.length cp175), (60, .slice Ab0 xb.length Cb0), (61, ii (((xb.length : Nat) : Int))), (62, ii i172)] ρ ∧ K156 = K' ∧ L' = Cl b15 95 [nos, nos] :: Cl nb21 95 [.slice ad117 l116.length cp118, .slice ad176 l173.length cp177] :: Row Hp.nil 3 (.int .i64) (.slice ad174 l171.length cp175) l171 :: Row Hp.nil 3 (.int .i64) (.slice ad176 l173.length cp177) l173 :: F) ho167 ⟨l162, 0, l20, ad163, cp164, ad24, cp25, rfl, rt7, rfl, rfl⟩ ?_
   rintro s ρ _ _ r178 ⟨l171, i172, l173, ad174, cp175, ad176, cp177, rfl, hf179, rfl, rfl⟩ h180
   obtain ⟨ρ, rfl⟩ := hf179.ex
   refine CJ.front 2 rfl <| CJ.wit Row.hn fun hn181 => CJ.front 3 rfl <| CJ.wit Row.hn fun hn182 => cr <| jv (.bool (decide (i172 < (((xb.length : Nat) : Int))))) (V.lss rfl rfl) ?_
   refine J.nil <| CJ.seq <| cc rfl h180 (fun hc183 h180 => ?_) fun hc183 h180 => ?_
   · refine CJ.skip <| CJ.seq <| CJ.block <| cr <| jm (ii i172) rfl ?_
     obtain ⟨x184, hx185, h180⟩ := ob h180
     obtain ⟨p186, p187, p188⟩ := getI_some hx185
     obtain ⟨b189, o190, e191, a192⟩ := ((Gb0.mono hK157)).at p187
     refine jv _ (V.iad underlying64 sz70 rfl e191 rfl p186 p188) <| jv (.agg #[ii x184.1, ii x184.2]) (V.ld rfl (Ld.aggK (cs := [ii x184.1, ii x184.2]) underlying70 sz70 rfl ⟨((a192).fst).int, (((a192).snd).one).int, trivial⟩ hpr)) <| jal inf70 [ii 0, ii 0] rfl fun b193 => ja (ii i172) rfl <| js [ii x184.1, ii x184.2] sz70 rfl rfl rfl rfl rfl rfl <| J.nil <| CJ.seq ?_
     refine CJ.region <| jm (.func (.func 51) #[] #[]) rfl <| jv (.agg #[ii x184.1, ii x184.2]) (V.ld rfl (Ld.agg (cs := [ii x184.1, ii x184.2]) underlying70 sz70 rfl (Rd.cls 0 0 rfl rfl))) ?_
     obtain ⟨r194, hr195, h180⟩ := ob h180
     refine J.op rfl (A.call (L1 := []) call51 rfl (graph_New_2_ok hr195) rfl rfl) ?_
     rintro _ _ _ ⟨v196, _, rfl, ⟨⟨i197, rfl, rfl, rfl⟩, rfl⟩, _, rfl⟩
     refine ja (ii i197) rfl <| J.nil <| CJ.seq <| CJ.mix [Cl b193 70 [ii x184.1, ii x184.2], Row Hp.nil 3 (.int .i64) (.slice ad176 l173.length cp177) l173, Row Hp.nil 3 (.int .i64) (.slice ad174 l171.length cp175) l171, Cl b15 95 [nos, nos], Cl nb21 95 [.slice ad117 l116.length cp118, .slice ad176 l173.length cp177]] [] [0, 1, 2, 3, 4, 5, 6, 7] [8] mixO (by decide +kernel) ⟨0, rfl, 0, rfl, 0, rfl, 0, rfl, 0, rfl, trivial⟩ rfl rfl rfl <| JM.nil <| qv _ (V.fad underlying95 rfl nz42 rfl) <| qv (.slice ad176 l173.length cp177) (V.ld rfl (Ld.sc sc42 (Rd.cl 4 rfl rfl))) ?_
     refine qm (.slice ad174 l171.length cp175) rfl <| qm (ii i197) rfl ?_
     obtain ⟨x198, hx199, h180⟩ := ob h180
     obtain ⟨p200, p201, p202⟩ := getI_some hx199
     obtain ⟨g203, e204⟩ := hn181 (fun e => by rw [e] at p201; simp at p201)
     refine qv _ (V.iad underlying42 sz3 rfl e204 rfl p200 p202) <| qv (ii x198) (V.ld rfl (Ld.sc sc3 (Rd.row 2 rfl e204 p201 (q := 0) (by simp [Tp.size]) (by decide) (by rintro _ rfl; rfl)))) <| qm (ii i172) rfl ?_
     obtain ⟨x205, hx206, h180⟩ := ob h180
     obtain ⟨p207, p208, p209⟩ := getI_some hx206
     obtain ⟨g210, e211⟩ := hn182 (fun e => by rw [e] at p208; simp at p208)
     refine qv _ (V.iad underlying42 sz3 rfl e211 rfl p207 p209) <| JQ.nil <| J.front 1 rfl ?_
     obtain ⟨z212, hz213, h180⟩ := ob h180
     have e214 := Option.some.inj hz213
     have hl215 : z212.length = l173.length := by rw [← e214, List.length_set]
     refine J.op rfl (A.storeR (ty := (.int .i64)) (q := 0) (y0 := i172) (zs := z212) sz3 rfl rfl rfl rfl e211 p208 (by simp [Tp.size]) (by decide) (by rintro _ rfl; exact rfl) e214) ?_
     rintro _ _ _ ⟨rfl, rfl, rfl⟩
     have hn216 : z212 ≠ [] → _ := fun h => hn182 (fun e => h (List.length_eq_zero_iff.1 (by rw [hl215]; exact List.length_eq_zero_iff.2 e)))
     refine J.nil <| CJ.region <| jm (.slice ad174 l171.length cp175) rfl <| jm (ii i197) rfl ?_
     obtain ⟨x217, hx218, h180⟩ := ob h180
     obtain ⟨p219, p220, p221⟩ := getI_some hx218
     obtain ⟨g222, e223⟩ := hn181 (fun e => by rw [e] at p220; simp at p220)
     refine jv _ (V.iad underlying42 sz3 rfl e223 rfl p219 p221) <| jv (ii x217) (V.ld rfl (Ld.sc sc3 (Rd.row 2 rfl e223 p220 (q := 0) (by simp [Tp.size]) (by decide) (by rintro _ rfl; rfl)))) <| jv (ii (IntKind.wrap .i64 (x217 + 1))) (V.add rfl rfl) ?_
     obtain ⟨x224, hx225, h180⟩ := ob h180
     obtain ⟨p226, p227, p228⟩ := getI_some hx225
     obtain ⟨g229, e230⟩ := hn181 (fun e => by rw [e] at p227; simp at p227)
     refine jv _ (V.iad underlying42 sz3 rfl e230 rfl p226 p228) <| J.front 2 rfl ?_
     obtain ⟨z231, hz232, h180⟩ := ob h180
     have e233 := Option.some.inj hz232
     have hl234 : z231.length = l171.length := by rw [← e233, List.length_set]
     refine J.op rfl (A.storeR (ty := (.int .i64)) (q := 0) (y0 := IntKind.wrap .i64 (x217 + 1)) (zs := z231) sz3 rfl rfl rfl rfl e230 p227 (by simp [Tp.size]) (by decide) (by rintro _ rfl; exact rfl) e233) ?_
     rintro _ _ _ ⟨rfl, rfl, rfl⟩
     have hn235 : z231 ≠ [] → _ := fun h => hn181 (fun e => h (List.length_eq_zero_iff.1 (by rw [hl234]; exact List.length_eq_zero_iff.2 e)))
     refine J.nil <| CJ.region <| jv (ii (IntKind.wrap .i64 (i172 + 1))) (V.add rfl rfl) <| jm (ii (IntKind.wrap .i64 (i172 + 1))) rfl <| J.dropAt 2 rfl <| J.front 1 rfl <| J.front 1 rfl ?_
     refine J.front 3 rfl <| J.front 3 rfl <| J.nil ?_
     obtain rfl := si h180
     exact ⟨rfl, ⟨z231, IntKind.wrap .i64 (i172 + 1), z212, ad174, cp175, ad176, cp177, rfl, ⟨rfl, rfl, rfl, (by rw [hl234]; rfl), rfl, rfl, rfl, trivial⟩, rfl, (by rw [hl215, hl234]; first | done | rfl)⟩⟩
   refine CJ.dropAt 1 rfl <| CJ.front 2 rfl <| CJ.front 2 rfl <| CJ.exit ?_
   obtain rfl := si h180
   refine ⟨nofun, fun e => ?_⟩
   subst e
   exact ⟨rfl, ⟨l173, ad176, cp177, rfl, rt2, rfl, rfl⟩⟩
 rintro ρ _ _ ⟨l168, ad169, cp170, rfl, hf236, rfl, rfl⟩
 obtain ⟨ρ, rfl⟩ := hf236.ex
 refine PJ.front 2 rfl <| PJ.wit Row.hn fun hn237 => PJ.done <| cr <| jv (.agg #[.slice ad117 l116.length cp118, .slice ad169 l168.length cp170]) (V.ld rfl (Ld.agg (cs := [.slice ad117 l116.length cp118, .slice ad169 l168.length cp170]) underlying95 sz95 rfl (Rd.cls 2 0 rfl rfl))) <| J.front 1 rfl ?_
 refine js [.slice ad117 l116.length cp118, .slice ad169 l168.length cp170] sz95 rfl rfl rfl rfl rfl rfl <| J.nil <| CJ.ret ?_
 obtain rfl := si h
 exact ⟨_, _, Res.one rfl ⟨_, _, rfl, Ld.agg (cs := [.slice ad117 l116.length cp118, .slice ad169 l168.length cp170]) underlying95 sz95 rfl (Rd.cls 0 0 rfl rfl)⟩, ⟨l116, l168, ad117, cp118, ad169, cp170, rfl, rfl, f158, rfl⟩, hK157, fun w hs => (Sep.dropAt 1 rfl (Sep.dropAt 0 rfl hs))⟩
noncomputable def fn_graph_New_l1 (xa : Int) (xb : Tq8) : Int → Option (Int ⊕ (Unit ⊕ (Tq4 × Int))) := fun (i1 : Int) => cond (decide (i1 < (((xb.length : Nat) : Int)))) ((getI xb i1).bind fun x2 => cond ((((decide (x2.1 < 0)) || (decide (xa ≤ x2.1))) || (decide (x2.2 < 0))) || (decide (xa ≤ x2.2))) (some (.inr ((.inr ((none, 7)))))) (some (.inl (IntKind.wrap .i64 (i1 + 1))))) (some (.inr ((.inl ()))))
noncomputable def fn_graph_New (xa : Int) (xb : Tq8) : Option ((Tq4 × Int)) :=
  cond (decide (xa < 0)) (some ((none, 2))) (cond ((decide (1048576 < xa)) || (decide (67108864 < (((xb.length : Nat) : Int))))) (some ((none, 5))) ((loop (fn_graph_New_l1 xa xb) 0 : Option (Unit ⊕ (Tq4 × Int))).bind fun o => match o with | .inr r => some r | .inl () => (fn_slices_Clone_graph_Arc_graph_Arc xb).bind fun l1 => (fn_graph_indexed_ik_graph_New_1 xa l1).bind fun (l2, l3) => (fn_graph_indexed_ik_graph_New_2 xa l1).bind fun (l4, l5) => some (((some ((xa, l1, (l2, l3), (l4, l5)))), 0))))
theorem graph_New_ok {K : Hp} {xa : Int} {xb : Tq8} {Ab0 : Option Addr} {Cb0 : Nat} (Gb0 : Is K (.sl Yq5) [sl Ab0 xb Cb0] xb) {r : (Tq4 × Int)} (h : fn_graph_New xa xb = some r) :
    Tr Tryz.prog 31 #[ii xa, sl Ab0 xb Cb0] K [] (fun v K' L' => (∃ (p4 : Tq4) (i6 : Int) (v7 : Value), (p4, i6) = r ∧ .tuple #[v7, ii i6] = v ∧ Is K' (.ptr Yq6) [v7] p4 ∧ L' = [])) := by
 refine Tr.of func31 rfl ntmps31 rfl fun E F => ?_
 unfold fn_graph_New at h
 refine cr <| ja (.pointer none) rfl <| ja (ii 0) rfl <| J.nil <| CJ.seq <| CJ.seq ?_
 refine CJ.region <| jm (ii xa) rfl <| jv (.bool (decide (xa < 0))) (V.lss rfl rfl) <| J.nil <| cc rfl h (fun hc9 h => ?_) fun hc9 h => ?_
 · refine cr <| ja (.pointer none) rfl <| ja (ii 2) rfl <| J.nil <| CJ.ret ?_
   obtain rfl := si h
   exact ⟨_, _, Res.two rfl rfl rfl, ⟨none, 2, .pointer none, rfl, rfl, Is.ptr_nil, rfl⟩, hpr, fun w hs => hs⟩
 refine CJ.skip <| CJ.seq <| cr <| jm (ii xa) rfl <| jv (.bool (decide (1048576 < xa))) (V.gtr rfl rfl) <| jm (.bool (decide (1048576 < xa))) rfl ?_
 refine J.cut 4 <| jmeet [(17, .bool ((decide (1048576 < xa)) || (decide (67108864 < (((xb.length : Nat) : Int)))))), (0, ii xa), (1, sl Ab0 xb Cb0)] ?_ ?_
 · rcases bt (decide (1048576 < xa)) with hc10 | hc10
   · refine J.skip rfl rfl rfl rfl hc10 <| J.skip rfl rfl rfl rfl hc10 <| J.skip rfl rfl rfl rfl hc10 <| jv (.bool true) (V.pickT rfl hc10 rfl) <| J.nil ?_
     exact ⟨rfl, ⟨(by simp only [hc10]; rfl), rfl, rfl, trivial⟩, rfl, rfl⟩
   refine J.run rfl rfl rfl hc10 <| jm (sl Ab0 xb Cb0) rfl <| J.run rfl rfl rfl hc10 <| jv (ii (((xb.length : Nat) : Int))) (V.len underlying64 rfl) <| J.run rfl rfl rfl hc10 <| jv (.bool (decide (67108864 < (((xb.length : Nat) : Int))))) (V.gtr rfl rfl) <| jv (.bool (decide (67108864 < (((xb.length : Nat) : Int))))) (V.pickF rfl hc10 rfl) ?_
   refine J.nil ?_
   exact ⟨rfl, ⟨(by simp only [hc10]; rfl), rfl, rfl, trivial⟩, rfl, rfl⟩
 intro ρ
 refine J.nil <| cc rfl h (fun hc11 h => ?_) fun hc11 h => ?_
 · refine cr <| ja (.pointer none) rfl <| ja (ii 5) rfl <| J.nil <| CJ.ret ?_
   obtain rfl := si h
   exact ⟨_, _, Res.two rfl rfl rfl, ⟨none, 5, .pointer none, rfl, rfl, Is.ptr_nil, rfl⟩, hpr, fun w hs => hs⟩
 refine CJ.skip <| CJ.seq <| cr <| jm (sl Ab0 xb Cb0) rfl <| jv (ii (((xb.length : Nat) : Int))) (V.len underlying64 rfl) <| jm (ii 0) rfl ?_
 refine J.nil ?_
 obtain ⟨o12, ho13, h⟩ := ob h
 refine CJ.joinN (o := o12) (fun s ρ K' L' => () = s ∧ Fits [(0, ii xa), (1, sl Ab0 xb Cb0)] ρ ∧ K = K' ∧ F = L') ?_ ?_
 · refine CJ.block <| CJ.loop (fun s ρ K' L' => ∃ (i14 : Int), i14 = s ∧ Fits [(0, ii xa), (1, sl Ab0 xb Cb0), (18, sl Ab0 xb Cb0), (19, ii (((xb.length : Nat) : Int))), (20, ii i14)] ρ ∧ K = K' ∧ F = L') ho13 ⟨0, rfl, rt5, rfl, rfl⟩ ?_
   rintro s ρ _ _ r15 ⟨i14, rfl, hf17, rfl, rfl⟩ h18
   obtain ⟨ρ, rfl⟩ := hf17.ex
   refine cr <| jv (.bool (decide (i14 < (((xb.length : Nat) : Int))))) (V.lss rfl rfl) <| J.nil <| CJ.seq <| cc rfl h18 (fun hc19 h18 => ?_) fun hc19 h18 => ?_
   · refine CJ.skip <| CJ.seq <| CJ.block <| CJ.seq <| CJ.region ?_
     obtain ⟨x20, hx21, h18⟩ := ob h18
     obtain ⟨p22, p23, p24⟩ := getI_some hx21
     obtain ⟨b25, o26, e27, a28⟩ := (Gb0).at p23
     refine jv _ (V.iad underlying64 sz70 rfl e27 rfl p22 p24) <| jv (.agg #[ii x20.1, ii x20.2]) (V.ld rfl (Ld.aggK (cs := [ii x20.1, ii x20.2]) underlying70 sz70 rfl ⟨((a28).fst).int, (((a28).snd).one).int, trivial⟩ hpr)) <| jal inf70 [ii 0, ii 0] rfl fun b29 => js [ii x20.1, ii x20.2] sz70 rfl rfl rfl rfl rfl rfl <| J.nil <| CJ.seq <| CJ.region ?_
     refine jv _ (V.fad underlying70 rfl nz3 rfl) <| jv (ii x20.1) (V.ld rfl (Ld.sc sc3 (Rd.cl 0 rfl rfl))) <| jv (.bool (decide (x20.1 < 0))) (V.lss rfl rfl) <| jm (.bool (decide (x20.1 < 0))) rfl <| J.cut 5 <| jmeet [(32, .bool ((decide (x20.1 < 0)) || (decide (xa ≤ x20.1)))), (0, ii xa), (1, sl Ab0 xb Cb0), (7, pt b29), (18, sl Ab0 xb Cb0), (19, ii (((xb.length : Nat) : Int))), (20, ii i14)] ?_ ?_
     · rcases bt (decide (x20.1 < 0)) with hc30 | hc30
       · refine J.skip rfl rfl rfl rfl hc30 <| J.skip rfl rfl rfl rfl hc30 <| J.skip rfl rfl rfl rfl hc30 <| J.skip rfl rfl rfl rfl hc30 <| jv (.bool true) (V.pickT rfl hc30 rfl) <| J.nil ?_
         exact ⟨rfl, ⟨(by simp only [hc30]; rfl), rfl, rfl, rfl, rfl, rfl, rfl, trivial⟩, rfl, rfl⟩
       refine J.run rfl rfl rfl hc30 <| jv _ (V.fad underlying70 rfl nz3 rfl) <| J.run rfl rfl rfl hc30 <| jv (ii x20.1) (V.ld rfl (Ld.sc sc3 (Rd.cl 0 rfl rfl))) <| J.run rfl rfl rfl hc30 <| jm (ii xa) rfl <| J.run rfl rfl rfl hc30 ?_
       refine jv (.bool (decide (xa ≤ x20.1))) (V.geq rfl rfl) <| jv (.bool (decide (xa ≤ x20.1))) (V.pickF rfl hc30 rfl) <| J.nil ?_
       exact ⟨rfl, ⟨(by simp only [hc30]; rfl), rfl, rfl, rfl, rfl, rfl, rfl, trivial⟩, rfl, rfl⟩
     intro ρ
     refine jm (.bool ((decide (x20.1 < 0)) || (decide (xa ≤ x20.1)))) rfl <| J.cut 4 <| jmeet [(37, .bool (((decide (x20.1 < 0)) || (decide (xa ≤ x20.1))) || (decide (x20.2 < 0)))), (0, ii xa), (1, sl Ab0 xb Cb0), (7, pt b29), (18, sl Ab0 xb Cb0), (19, ii (((xb.length : Nat) : Int))), (20, ii i14)] ?_ ?_
     · rcases bt ((decide (x20.1 < 0)) || (decide (xa ≤ x20.1))) with hc33 | hc33
       · refine J.skip rfl rfl rfl rfl hc33 <| J.skip rfl rfl rfl rfl hc33 <| J.skip rfl rfl rfl rfl hc33 <| jv (.bool true) (V.pickT rfl hc33 rfl) <| J.nil ?_
         exact ⟨rfl, ⟨(by simp only [hc33]; rfl), rfl, rfl, rfl, rfl, rfl, rfl, trivial⟩, rfl, rfl⟩
       refine J.run rfl rfl rfl hc33 <| jv _ (V.fad underlying70 rfl nz3 rfl) <| J.run rfl rfl rfl hc33 <| jv (ii x20.2) (V.ld rfl (Ld.sc sc3 (Rd.cl 0 rfl rfl))) <| J.run rfl rfl rfl hc33 <| jv (.bool (decide (x20.2 < 0))) (V.lss rfl rfl) <| jv (.bool (decide (x20.2 < 0))) (V.pickF rfl hc33 rfl) ?_
       refine J.nil ?_
       exact ⟨rfl, ⟨(by simp only [hc33]; rfl), rfl, rfl, rfl, rfl, rfl, rfl, trivial⟩, rfl, rfl⟩
     intro ρ
     refine jm (.bool (((decide (x20.1 < 0)) || (decide (xa ≤ x20.1))) || (decide (x20.2 < 0)))) rfl <| J.cut 5 <| jmeet [(43, .bool ((((decide (x20.1 < 0)) || (decide (xa ≤ x20.1))) || (decide (x20.2 < 0))) || (decide (xa ≤ x20.2)))), (0, ii xa), (1, sl Ab0 xb Cb0), (18, sl Ab0 xb Cb0), (19, ii (((xb.length : Nat) : Int))), (20, ii i14)] ?_ ?_
     · rcases bt (((decide (x20.1 < 0)) || (decide (xa ≤ x20.1))) || (decide (x20.2 < 0))) with hc34 | hc34
       · refine J.skip rfl rfl rfl rfl hc34 <| J.skip rfl rfl rfl rfl hc34 <| J.skip rfl rfl rfl rfl hc34 <| J.skip rfl rfl rfl rfl hc34 <| jv (.bool true) (V.pickT rfl hc34 rfl) <| J.nil ?_
         exact ⟨rfl, ⟨(by simp only [hc34]; rfl), rfl, rfl, rfl, rfl, rfl, trivial⟩, rfl, rfl⟩
       refine J.run rfl rfl rfl hc34 <| jv _ (V.fad underlying70 rfl nz3 rfl) <| J.run rfl rfl rfl hc34 <| jv (ii x20.2) (V.ld rfl (Ld.sc sc3 (Rd.cl 0 rfl rfl))) <| J.run rfl rfl rfl hc34 <| jm (ii xa) rfl <| J.run rfl rfl rfl hc34 ?_
       refine jv (.bool (decide (xa ≤ x20.2))) (V.geq rfl rfl) <| jv (.bool (decide (xa ≤ x20.2))) (V.pickF rfl hc34 rfl) <| J.nil ?_
       exact ⟨rfl, ⟨(by simp only [hc34]; rfl), rfl, rfl, rfl, rfl, rfl, trivial⟩, rfl, rfl⟩
     intro ρ
     refine J.nil <| cc rfl h18 (fun hc35 h18 => ?_) fun hc35 h18 => ?_
     · refine cr <| ja (.pointer none) rfl <| ja (ii 7) rfl <| J.nil <| CJ.ret ?_
       obtain rfl := si h18
       refine ⟨nofun, fun e => ?_⟩
       subst e
       refine .inr ⟨nofun, ?_⟩
       obtain rfl := si h
       exact ⟨_, _, Res.two rfl rfl rfl, ⟨none, 7, .pointer none, rfl, rfl, Is.ptr_nil, rfl⟩, hpr, fun w hs => (Sep.dropAt 0 rfl hs)⟩
     refine CJ.skip <| CJ.region <| jv (ii (IntKind.wrap .i64 (i14 + 1))) (V.add rfl rfl) <| jm (ii (IntKind.wrap .i64 (i14 + 1))) rfl <| J.dropAt 0 rfl <| J.nil ?_
     obtain rfl := si h18
     exact ⟨rfl, ⟨IntKind.wrap .i64 (i14 + 1), rfl, rt5, rfl, rfl⟩⟩
   refine CJ.exit ?_
   obtain rfl := si h18
   refine ⟨nofun, fun e => ?_⟩
   subst e
   exact .inl ⟨rfl, _, rfl, ⟨rfl, rt2, rfl, rfl⟩⟩
 rintro s ρ _ _ ho36 ⟨rfl, hf37, rfl, rfl⟩
 subst ho36
 obtain ⟨ρ, rfl⟩ := hf37.ex
 refine PJ.done <| cr <| jm (ii xa) rfl <| jm (sl Ab0 xb Cb0) rfl ?_
 obtain ⟨r38, hr39, h⟩ := ob h
 refine J.op rfl (A.call (L1 := []) call48 rfl (slices_Clone_graph_Arc_graph_Arc_ok Gb0 hr39) rfl rfl) ?_
 rintro _ _ _ ⟨v40, _, rfl, ⟨⟨l41, ad42, cp43, rfl, rfl, rfl⟩, rfl⟩, _, rfl⟩
 refine J.wit Row.hn fun hn44 => jv (.agg #[ii xa, sl ad42 l41 cp43, nos, nos, nos, nos]) (V.build inf97 places97 rfl rfl) <| jbx [ii xa, sl ad42 l41 cp43, nos, nos, nos, nos] rfl rfl fun b45 => ja _ rfl <| J.nil <| CJ.seq <| CJ.region ?_
 refine jm _ rfl <| jm (ii xa) rfl <| jm _ rfl <| jv _ (V.nck rfl) <| jv _ (V.fad underlying97 rfl nz64 rfl) <| jv (sl ad42 l41 cp43) (V.ld rfl (Ld.sc sc64 (Rd.cl 0 rfl rfl))) <| J.front 1 rfl ?_
 refine J.persist (Hp.nil_le _) (by decide) fun K46 hK47 f50 => ?_
 obtain ⟨r51, hr52, h⟩ := ob h
 refine J.op rfl (A.call (L1 := []) call49 rfl (graph_indexed_ik_graph_New_1_ok f50 hr52) rfl rfl) ?_
 rintro _ K53 _ ⟨v54, _, rfl, ⟨l55, l56, ad57, cp58, ad59, cp60, rfl, rfl, f61, rfl⟩, hK62, rfl⟩
 refine J.wit Row.hn fun hn63 => jv _ (V.nck rfl) <| jv _ (V.fad underlying97 rfl nz95 rfl) <| J.front 1 rfl <| js [ii xa, sl ad42 l41 cp43, sl ad57 l55 cp58, sl ad59 l56 cp60, nos, nos] sz95 rfl rfl rfl rfl rfl rfl <| J.nil <| CJ.seq ?_
 refine CJ.region <| jm _ rfl <| jm (ii xa) rfl <| jm _ rfl <| jv _ (V.nck rfl) <| jv _ (V.fad underlying97 rfl nz64 rfl) <| jv (sl ad42 l41 cp43) (V.ld rfl (Ld.sc sc64 (Rd.cl 0 rfl rfl))) ?_
 obtain ⟨r65, hr66, h⟩ := ob h
 refine J.op rfl (A.call (L1 := []) call49 rfl (graph_indexed_ik_graph_New_2_ok (f50.mono hK62) hr66) rfl rfl) ?_
 rintro _ K67 _ ⟨v68, _, rfl, ⟨l69, l71, ad72, cp73, ad74, cp75, rfl, rfl, f76, rfl⟩, hK77, rfl⟩
 refine J.wit Row.hn fun hn78 => jv _ (V.nck rfl) <| jv _ (V.fad underlying97 rfl nz95 rfl) <| J.front 1 rfl <| js [ii xa, sl ad42 l41 cp43, sl ad57 l55 cp58, sl ad59 l56 cp60, sl ad72 l69 cp73, sl ad74 l71 cp75] sz95 rfl rfl rfl rfl rfl rfl <| J.nil <| CJ.seq ?_
 refine CJ.region <| jm _ rfl <| ja _ rfl <| ja (ii 0) rfl <| J.nil <| CJ.front 2 rfl <| CJ.persist (Hp.nil_le _) (by decide) fun K79 hK80 f81 => ?_
 refine CJ.front 1 rfl <| CJ.persist (Hp.nil_le _) (by decide) fun K82 hK83 f84 => CJ.persistAt (t := Yq6) (x := (xa, l41, (l55, l56), (l69, l71))) ⟨_, _, rfl, rfl, rfl, ⟨_, _, rfl, rfl, (f50.mono (((hK62.trans hK77).trans hK80).trans hK83)), ⟨_, _, rfl, rfl, ⟨_, _, rfl, rfl, (f61.mono ((hK77.trans hK80).trans hK83)), (f81.mono hK83)⟩, ⟨_, _, rfl, rfl, (f76.mono (hK80.trans hK83)), f84⟩⟩⟩⟩ fun K85 hK86 a87 => CJ.ret ?_
 obtain rfl := si h
 exact ⟨_, _, Res.two rfl rfl rfl, ⟨(some ((xa, l41, (l55, l56), (l69, l71)))), 0, pt b45, rfl, rfl, (At.is_ptr a87), rfl⟩, (((((hK47.trans hK62).trans hK77).trans hK80).trans hK83).trans hK86), fun w hs => hs⟩
noncomputable def fn_flow_New_l1 (i1 : Int) (l2 : (List Int)) : (Tq8 × Int) → Option ((Tq8 × Int) ⊕ Tq8) := fun ((l3, i4) : (Tq8 × Int)) => cond (decide (i4 < (((l2.length : Nat) : Int)))) ((getI l2 i4).bind fun x5 => (app l3 (([(i1, x5)] : List (Int × Int)))).bind fun z6 => some (.inl ((z6, IntKind.wrap .i64 (i4 + 1))))) (some (.inr (l3)))
noncomputable def fn_flow_New_l2 (xa : Tq1) (p1 : Tq9) (i2 : Int) : ((List Int) × Tq8 × Int) → Option (((List Int) × Tq8 × Int) ⊕ Tq8) := fun ((l3, l4, i5) : ((List Int) × Tq8 × Int)) => cond (decide (i5 < i2)) ((fn_point_Points_At p1 i5).bind fun (i6, i7, t9) => ((fn_point_Points_Ends p1 i5).bind fun t10 => cond (t10) ((getI xa.2.2.2.2.2.2 i6).bind fun x11 => (fn_flow_heads (x11.2.1, x11.2.2.1, x11.2.2.2.1, x11.2.2.2.2.1, x11.2.2.2.2.2.1, x11.2.2.2.2.2.2) l3).bind fun l12 => some (l12)) (some (([IntKind.wrap .i64 (i5 + 1)] : List Int))) : Option (List Int)).bind fun l13 => (loop (fn_flow_New_l1 i5 l13) (l4, 0) : Option (Tq8)).bind fun l14 => some (.inl ((l3, l14, IntKind.wrap .i64 (i5 + 1))))) (some (.inr (l4)))
noncomputable def fn_flow_New (xa : Tq1) : Option ((Option (Tq9 × Tq4))) :=
  (fn_point_New (xa.1, xa.2.1, xa.2.2.1, xa.2.2.2.1, xa.2.2.2.2.1, xa.2.2.2.2.2.1, xa.2.2.2.2.2.2)).bind fun p1 => (fn_point_Points_Begins p1).bind fun l2 => (fn_point_Points_Len p1).bind fun i3 => (loop (fn_flow_New_l2 xa p1 i3) (l2, [], 0) : Option (Tq8)).bind fun l4 => (fn_point_Points_Len p1).bind fun i5 => (fn_graph_New i5 l4).bind fun (p6, i7) => some ((some (p1, p6)))
theorem flow_New_ok {K : Hp} {xa : Tq1} {Aa2 : Option Addr} {Ca2 : Nat} {Aa3 : Option Addr} {Ca3 : Nat} {Aa4 : Option Addr} {Ca4 : Nat} {Aa5 : Option Addr} {Ca5 : Nat} {Aa6 : Option Addr} {Ca6 : Nat} (Ga2 : Is K (.sl Yq5) [sl Aa2 xa.2.2.1 Ca2] xa.2.2.1) (Ga3 : Is K Yq8 [sl Aa3 xa.2.2.2.1 Ca3] xa.2.2.2.1) (Ga4 : Is K (.sl Yq1) [sl Aa4 xa.2.2.2.2.1 Ca4] xa.2.2.2.2.1) (Ga5 : Is K Yq4 [sl Aa5 xa.2.2.2.2.2.1 Ca5] xa.2.2.2.2.2.1) (Ga6 : Is K (.sl Yq3) [sl Aa6 xa.2.2.2.2.2.2 Ca6] xa.2.2.2.2.2.2) {r : (Option (Tq9 × Tq4))} (h : fn_flow_New xa = some r) :
    Tr Tryz.prog 8 #[.agg #[ii xa.1, ii xa.2.1, sl Aa2 xa.2.2.1 Ca2, sl Aa3 xa.2.2.2.1 Ca3, sl Aa4 xa.2.2.2.2.1 Ca4, sl Aa5 xa.2.2.2.2.2.1 Ca5, sl Aa6 xa.2.2.2.2.2.2 Ca6]] K [] (fun v K' L' => (∃ (p7 : (Option (Tq9 × Tq4))) (v9 : Value), p7 = r ∧ v9 = v ∧ Is K' (.ptr (.cons Yq9 (.one (.ptr Yq6)))) [v9] p7 ∧ L' = [])) := by
 refine Tr.of func8 rfl ntmps8 rfl fun E F => ?_
 unfold fn_flow_New at h
 refine cr <| jbx [ii xa.1, ii xa.2.1, sl Aa2 xa.2.2.1 Ca2, sl Aa3 xa.2.2.2.1 Ca3, sl Aa4 xa.2.2.2.2.1 Ca4, sl Aa5 xa.2.2.2.2.2.1 Ca5, sl Aa6 xa.2.2.2.2.2.2 Ca6] rfl rfl fun b11 => ja (.pointer none) rfl <| J.nil <| CJ.seq <| CJ.region ?_
 refine jv (.agg #[ii xa.1, ii xa.2.1, sl Aa2 xa.2.2.1 Ca2, sl Aa3 xa.2.2.2.1 Ca3, sl Aa4 xa.2.2.2.2.1 Ca4, sl Aa5 xa.2.2.2.2.2.1 Ca5, sl Aa6 xa.2.2.2.2.2.2 Ca6]) (V.ld rfl (Ld.agg (cs := [ii xa.1, ii xa.2.1, sl Aa2 xa.2.2.1 Ca2, sl Aa3 xa.2.2.2.1 Ca3, sl Aa4 xa.2.2.2.2.1 Ca4, sl Aa5 xa.2.2.2.2.2.1 Ca5, sl Aa6 xa.2.2.2.2.2.2 Ca6]) underlying30 sz30 rfl (Rd.cls 0 0 rfl rfl))) ?_
 obtain ⟨r13, hr14, h⟩ := ob h
 refine J.op rfl (A.call (L1 := []) call26 rfl (point_New_ok Ga2 Ga3 Ga4 Ga5 Ga6 hr14) rfl rfl) ?_
 rintro _ K15 _ ⟨v17, _, rfl, ⟨p18, v19, rfl, rfl, f20, rfl⟩, hK21, rfl⟩
 refine ja v19 rfl <| J.nil <| cr <| jm v19 rfl ?_
 obtain ⟨r22, hr23, h⟩ := ob h
 refine J.op rfl (A.call (L1 := []) call27 rfl (point_Points_Begins_ok f20 hr23) rfl rfl) ?_
 rintro _ _ _ ⟨v24, _, rfl, ⟨⟨l25, ad33, cp34, rfl, rfl, rfl⟩, rfl⟩, _, rfl⟩
 refine J.wit Row.hn fun hn35 => ja (sl ad33 l25 cp34) rfl <| J.nil <| cr <| ja (nos) rfl <| J.nil ?_
 refine CJ.seq <| cr <| jm v19 rfl ?_
 obtain ⟨r36, hr37, h⟩ := ob h
 refine J.op rfl (A.call (L1 := []) call12 rfl (point_Points_Len_ok f20 hr37) rfl rfl) ?_
 rintro _ _ _ ⟨v38, _, rfl, ⟨⟨i39, rfl, rfl, rfl⟩, rfl⟩, _, rfl⟩
 refine jm (ii 0) rfl <| J.nil ?_
 obtain ⟨o40, ho41, h⟩ := ob h
 refine CJ.meetN (fun ρ K' L' => ∃ (l43 : Tq8) (ad44 : Option Addr) (cp45 : Nat), l43 = o40 ∧ Fits [(3, v19), (5, sl ad44 l43 cp45)] ρ ∧ Hp.le K15 K' ∧ L' = Row Hp.nil 70 Yq5 (sl ad44 l43 cp45) l43 :: F) ?_ ?_
 · refine CJ.block <| CJ.persist (Hp.nil_le _) (by decide) fun K46 hK47 f48 => CJ.by (fun w hs => Sep.rowNil (e := 70) (t := Yq5) hs) <| CJ.front 1 rfl <| CJ.loop (fun s ρ K' L' => ∃ (l49 : (List Int)) (l50 : Tq8) (i51 : Int) (ad52 : Option Addr) (cp53 : Nat) (ad54 : Option Addr) (cp55 : Nat), (l49, l50, i51) = s ∧ Fits [(1, pt b11), (3, v19), (4, sl ad52 l49 cp53), (5, sl ad54 l50 cp55), (20, ii i39), (21, ii i51)] ρ ∧ Hp.le K46 K' ∧ Is K' Yq7 [sl ad52 l49 cp53] l49 ∧ L' = Cl b11 30 [ii xa.1, ii xa.2.1, sl Aa2 xa.2.2.1 Ca2, sl Aa3 xa.2.2.2.1 Ca3, sl Aa4 xa.2.2.2.2.1 Ca4, sl Aa5 xa.2.2.2.2.2.1 Ca5, sl Aa6 xa.2.2.2.2.2.2 Ca6] :: Row Hp.nil 70 Yq5 (sl ad54 l50 cp55) l50 :: F) ho41 ⟨l25, [], 0, ad33, cp34, none, 0, rfl, rt6, hpr, f48, rfl⟩ ?_
   rintro s ρ K56 _ r57 ⟨l49, l50, i51, ad52, cp53, ad54, cp55, rfl, hf59, hk61, f62, rfl⟩ h63
   obtain ⟨ρ, rfl⟩ := hf59.ex
   refine CJ.front 1 rfl <| CJ.wit Row.hn fun hn65 => cr <| jv (.bool (decide (i51 < i39))) (V.lss rfl rfl) <| J.nil <| CJ.seq ?_
   refine cc rfl h63 (fun hc66 h63 => ?_) fun hc66 h63 => ?_
   · refine CJ.skip <| CJ.seq <| CJ.block <| cr <| jm (ii i51) rfl <| ja (ii i51) rfl ?_
     refine J.nil <| cr <| jm v19 rfl <| jm (ii i51) rfl ?_
     obtain ⟨r67, hr68, h63⟩ := ob h63
     refine J.op rfl (A.call (L1 := []) call28 rfl (point_Points_At_ok (f20.mono (hK47.trans hk61)) hr68) rfl rfl) ?_
     rintro _ _ _ ⟨v69, _, rfl, ⟨⟨i71, i72, t73, rfl, rfl, rfl⟩, rfl⟩, _, rfl⟩
     refine jm (.tuple #[ii i71, ii i72, .bool t73]) rfl <| jx (ii i71) rfl rfl <| jx (ii i72) rfl rfl <| jx (.bool t73) rfl rfl <| ja (ii i71) rfl <| ja (ii i72) rfl <| ja (.bool t73) rfl ?_
     refine J.nil <| cr <| jm (ii i51) rfl <| jv (ii (IntKind.wrap .i64 (i51 + 1))) (V.add rfl rfl) ?_
     refine J.op rfl (A.lit (K0 := Hp.nil) (ty := (.int .i64)) (xs := ([IntKind.wrap .i64 (i51 + 1)] : List Int)) underlying42 inf3 rfl (by decide) rfl rfl rfl ⟨_, _, rfl, rfl, rfl⟩ rfl (by decide)) ?_
     rintro _ _ _ ⟨b74, rfl, rfl, rfl⟩
     have hn75 : ([IntKind.wrap .i64 (i51 + 1)] : List Int) ≠ [] → ∃ g, (some ⟨b74, 0, none⟩ : Option Addr) = some ⟨g, 0, none⟩ := fun _ => ⟨b74, rfl⟩
     refine ja (.slice (some ⟨b74, 0, none⟩) ((([IntKind.wrap .i64 (i51 + 1)] : List Int)).length) 1) rfl <| J.nil <| CJ.seq ?_
     obtain ⟨o77, ho78, h63⟩ := ob h63
     refine CJ.meetN (fun ρ K' L' => ∃ (l79 : (List Int)) (ad80 : Option Addr) (cp81 : Nat), l79 = o77 ∧ Fits [(1, pt b11), (3, v19), (4, sl ad52 l49 cp53), (5, sl ad54 l50 cp55), (6, ii i51), (10, sl ad80 l79 cp81), (20, ii i39), (21, ii i51)] ρ ∧ K56 = K' ∧ L' = Cl b11 30 [ii xa.1, ii xa.2.1, sl Aa2 xa.2.2.1 Ca2, sl Aa3 xa.2.2.2.1 Ca3, sl Aa4 xa.2.2.2.2.1 Ca4, sl Aa5 xa.2.2.2.2.2.1 Ca5, sl Aa6 xa.2.2.2.2.2.2 Ca6] :: Row Hp.nil 70 Yq5 (sl ad54 l50 cp55) l50 :: Row Hp.nil 3 (.int .i64) (sl ad80 l79 cp81) l79 :: F) ?_ ?_
     · refine cr <| jm v19 rfl <| jm (ii i51) rfl ?_
       obtain ⟨r82, hr83, ho78⟩ := ob ho78
       refine J.op rfl (A.call (L1 := []) call29 rfl (point_Points_Ends_ok (f20.mono (hK47.trans hk61)) hr83) rfl rfl) ?_
       rintro _ _ _ ⟨v84, _, rfl, ⟨⟨t85, rfl, rfl, rfl⟩, rfl⟩, _, rfl⟩
       refine J.nil <| cc rfl ho78 (fun hc86 ho78 => ?_) fun hc86 ho78 => ?_
       · refine CJ.region <| jv _ (V.fad underlying30 rfl nz28 rfl) <| jv (sl Aa6 xa.2.2.2.2.2.2 Ca6) (V.ld rfl (Ld.sc sc28 (Rd.cl 2 rfl rfl))) <| jm (ii i71) rfl ?_
         obtain ⟨x87, hx88, ho78⟩ := ob ho78
         obtain ⟨p89, p90, p91⟩ := getI_some hx88
         obtain ⟨b92, o93, e94, a95⟩ := ((Ga6.mono ((hK21.trans hK47).trans hk61))).at p90
         refine jv _ (V.iad underlying28 sz60 rfl e94 rfl p89 p91) <| jv _ (V.fad underlying60 rfl nz58 rfl) ?_
         obtain ⟨ad96, cp97, c98, f99⟩ := (((((((a95).snd).one).snd).snd).snd).fst).sl
         obtain ⟨ad100, cp101, c102, f103⟩ := ((((((((a95).snd).one).snd).snd).snd).snd).fst).sl
         obtain ⟨ad104, cp105, c106, f107⟩ := (((((((((a95).snd).one).snd).snd).snd).snd).snd).one).sl
         refine jv (.agg #[ii x87.2.1, ii x87.2.2.1, ii x87.2.2.2.1, sl ad96 x87.2.2.2.2.1 cp97, sl ad100 x87.2.2.2.2.2.1 cp101, sl ad104 x87.2.2.2.2.2.2 cp105]) (V.ld rfl (Ld.aggK (cs := [ii x87.2.1, ii x87.2.2.1, ii x87.2.2.2.1, sl ad96 x87.2.2.2.2.1 cp97, sl ad100 x87.2.2.2.2.2.1 cp101, sl ad104 x87.2.2.2.2.2.2 cp105]) underlying58 sz58 rfl ⟨((((a95).snd).one).fst).int, (((((a95).snd).one).snd).fst).int, ((((((a95).snd).one).snd).snd).fst).int, c98, c102, c106, trivial⟩ hpr)) <| jm (sl ad52 l49 cp53) rfl ?_
         obtain ⟨r108, hr109, ho78⟩ := ob ho78
         refine J.op rfl (A.call (L1 := []) call30 rfl (flow_heads_ok f99 f103 f107 f62 hr109) rfl rfl) ?_
         rintro _ _ _ ⟨v110, _, rfl, ⟨⟨l111, ad112, cp113, rfl, rfl, rfl⟩, rfl⟩, _, rfl⟩
         refine J.wit Row.hn fun hn114 => ja (sl ad112 l111 cp113) rfl <| J.dropAt 1 rfl <| J.front 1 rfl <| J.front 2 rfl <| J.nil ?_
         obtain rfl := si ho78
         exact ⟨rfl, ⟨l111, ad112, cp113, rfl, rt8, rfl, rfl⟩⟩
       refine CJ.front 1 rfl <| CJ.front 2 rfl <| CJ.skip ?_
       obtain rfl := si ho78
       exact ⟨rfl, ⟨([IntKind.wrap .i64 (i51 + 1)] : List Int), (some ⟨b74, 0, none⟩), 1, rfl, rt8, rfl, rfl⟩⟩
     rintro ρ _ _ ⟨l79, ad80, cp81, rfl, hf115, rfl, rfl⟩
     obtain ⟨ρ, rfl⟩ := hf115.ex
     refine PJ.front 2 rfl <| PJ.wit Row.hn fun hn116 => PJ.done <| cr <| jm (sl ad80 l79 cp81) rfl <| jv (ii (((l79.length : Nat) : Int))) (V.len underlying42 rfl) ?_
     refine jm (ii 0) rfl <| J.nil ?_
     obtain ⟨o117, ho118, h63⟩ := ob h63
     refine CJ.meetN (fun ρ K' L' => ∃ (l119 : Tq8) (ad120 : Option Addr) (cp121 : Nat), l119 = o117 ∧ Fits [(1, pt b11), (3, v19), (4, sl ad52 l49 cp53), (5, sl ad120 l119 cp121), (20, ii i39), (21, ii i51)] ρ ∧ K56 = K' ∧ L' = Cl b11 30 [ii xa.1, ii xa.2.1, sl Aa2 xa.2.2.1 Ca2, sl Aa3 xa.2.2.2.1 Ca3, sl Aa4 xa.2.2.2.2.1 Ca4, sl Aa5 xa.2.2.2.2.2.1 Ca5, sl Aa6 xa.2.2.2.2.2.2 Ca6] :: Row Hp.nil 70 Yq5 (sl ad120 l119 cp121) l119 :: F) ?_ ?_
     · refine CJ.block <| CJ.front 2 rfl <| CJ.front 1 rfl <| CJ.front 2 rfl <| CJ.loop (fun s ρ K' L' => ∃ (l122 : Tq8) (i123 : Int) (ad124 : Option Addr) (cp125 : Nat), (l122, i123) = s ∧ Fits [(1, pt b11), (3, v19), (4, sl ad52 l49 cp53), (5, sl ad124 l122 cp125), (6, ii i51), (20, ii i39), (21, ii i51), (45, sl ad80 l79 cp81), (46, ii (((l79.length : Nat) : Int))), (47, ii i123)] ρ ∧ K56 = K' ∧ L' = Cl b11 30 [ii xa.1, ii xa.2.1, sl Aa2 xa.2.2.1 Ca2, sl Aa3 xa.2.2.2.1 Ca3, sl Aa4 xa.2.2.2.2.1 Ca4, sl Aa5 xa.2.2.2.2.2.1 Ca5, sl Aa6 xa.2.2.2.2.2.2 Ca6] :: Row Hp.nil 3 (.int .i64) (sl ad80 l79 cp81) l79 :: Row Hp.nil 70 Yq5 (sl ad124 l122 cp125) l122 :: F) ho118 ⟨l50, 0, ad54, cp55, rfl, rt10, rfl, rfl⟩ ?_
       rintro s ρ _ _ r126 ⟨l122, i123, ad124, cp125, rfl, hf127, rfl, rfl⟩ h128
       obtain ⟨ρ, rfl⟩ := hf127.ex
       refine CJ.front 2 rfl <| CJ.wit Row.hn fun hn129 => cr <| jv (.bool (decide (i123 < (((l79.length : Nat) : Int))))) (V.lss rfl rfl) <| J.nil <| CJ.seq ?_
       refine cc rfl h128 (fun hc130 h128 => ?_) fun hc130 h128 => ?_
       · refine CJ.skip <| CJ.seq <| CJ.block <| CJ.seq <| CJ.region ?_
         obtain ⟨x131, hx132, h128⟩ := ob h128
         obtain ⟨p133, p134, p135⟩ := getI_some hx132
         obtain ⟨g136, e137⟩ := hn116 (fun e => by rw [e] at p134; simp at p134)
         refine jv _ (V.iad underlying42 sz3 rfl e137 rfl p133 p135) <| jv (ii x131) (V.ld rfl (Ld.sc sc3 (Rd.row 2 rfl e137 p134 (q := 0) (by simp [Tp.size]) (by decide) (by rintro _ rfl; rfl)))) <| ja (ii x131) rfl <| J.nil <| CJ.region <| jm (sl ad124 l122 cp125) rfl <| jm (ii i51) rfl ?_
         refine jm (ii x131) rfl <| jv (.agg #[ii i51, ii x131]) (V.build inf70 places70 rfl rfl) ?_
         refine J.op rfl (A.lit (K0 := Hp.nil) (ty := Yq5) (xs := ([(i51, x131)] : List (Int × Int))) underlying64 inf70 rfl (by decide) rfl rfl rfl ⟨_, _, rfl, ⟨_, _, rfl, rfl, rfl, rfl⟩, rfl⟩ rfl (by decide)) ?_
         rintro _ _ _ ⟨b138, rfl, rfl, rfl⟩
         have hn139 : ([(i51, x131)] : List (Int × Int)) ≠ [] → ∃ g, (some ⟨b138, 0, none⟩ : Option Addr) = some ⟨g, 0, none⟩ := fun _ => ⟨b138, rfl⟩
         obtain ⟨z140, hz141, h128⟩ := ob h128
         refine J.front 1 rfl <| J.op rfl (A.appR (Kr := Hp.nil) underlying64 inf70 rfl rfl (by decide) (by decide) rfl rfl (Els.flat rfl) (Els.flat rfl) hz141) ?_
         rintro _ _ _ ⟨v142, rfl, rfl, rfl⟩
         refine J.wit Row.form ?_
         rintro ⟨ad143, cp144, rfl, _, _, hn145⟩
         refine ja (sl ad143 z140 cp144) rfl <| J.nil <| CJ.region <| jv (ii (IntKind.wrap .i64 (i123 + 1))) (V.add rfl rfl) <| jm (ii (IntKind.wrap .i64 (i123 + 1))) rfl <| J.front 2 rfl <| J.front 2 rfl ?_
         refine J.nil ?_
         obtain rfl := si h128
         exact ⟨rfl, ⟨z140, IntKind.wrap .i64 (i123 + 1), ad143, cp144, rfl, rt10, rfl, rfl⟩⟩
       refine CJ.dropAt 2 rfl <| CJ.front 1 rfl <| CJ.exit ?_
       obtain rfl := si h128
       refine ⟨nofun, fun e => ?_⟩
       subst e
       exact ⟨rfl, ⟨l122, ad124, cp125, rfl, rt6, rfl, rfl⟩⟩
     rintro ρ _ _ ⟨l119, ad120, cp121, rfl, hf146, rfl, rfl⟩
     obtain ⟨ρ, rfl⟩ := hf146.ex
     refine PJ.front 1 rfl <| PJ.wit Row.hn fun hn147 => PJ.done <| CJ.region <| jv (ii (IntKind.wrap .i64 (i51 + 1))) (V.add rfl rfl) <| jm (ii (IntKind.wrap .i64 (i51 + 1))) rfl <| J.front 1 rfl ?_
     refine J.nil ?_
     obtain rfl := si h63
     exact ⟨rfl, ⟨l49, l119, IntKind.wrap .i64 (i51 + 1), ad52, cp53, ad120, cp121, rfl, rt6, hk61, f62, rfl⟩⟩
   refine CJ.dropAt 1 rfl <| CJ.exit ?_
   obtain rfl := si h63
   refine ⟨nofun, fun e => ?_⟩
   subst e
   exact ⟨rfl, ⟨l50, ad54, cp55, rfl, rt2, (hK47.trans hk61), rfl⟩⟩
 rintro ρ K148 _ ⟨l43, ad44, cp45, rfl, hf149, hk150, rfl⟩
 obtain ⟨ρ, rfl⟩ := hf149.ex
 refine PJ.wit Row.hn fun hn151 => PJ.done <| cr <| jm v19 rfl ?_
 obtain ⟨r152, hr153, h⟩ := ob h
 refine J.op rfl (A.call (L1 := []) call12 rfl (point_Points_Len_ok (f20.mono hk150) hr153) rfl rfl) ?_
 rintro _ _ _ ⟨v154, _, rfl, ⟨⟨i155, rfl, rfl, rfl⟩, rfl⟩, _, rfl⟩
 refine jm (sl ad44 l43 cp45) rfl <| J.persist (Hp.nil_le _) (by decide) fun K156 hK157 f158 => ?_
 obtain ⟨r159, hr160, h⟩ := ob h
 refine J.op rfl (A.call (L1 := []) call31 rfl (graph_New_ok f158 hr160) rfl rfl) ?_
 rintro _ K161 _ ⟨v162, _, rfl, ⟨p163, i164, v165, rfl, rfl, f166, rfl⟩, hK167, rfl⟩
 refine jm (.tuple #[v165, ii i164]) rfl <| jx v165 rfl rfl <| jx (ii i164) rfl rfl <| ja v165 rfl <| ja (ii i164) rfl <| J.nil <| CJ.seq ?_
 refine CJ.region <| jm v19 rfl <| jm v165 rfl ?_
 obtain ⟨q168, rfl⟩ := Is.ptrv (f20.mono ((hk150.trans hK157).trans hK167))
 obtain ⟨q169, rfl⟩ := Is.ptrv f166
 refine jv (.agg #[.pointer q168, .pointer q169]) (V.build inf76 places76 rfl rfl) <| jbx [.pointer q168, .pointer q169] rfl rfl fun b170 => ja _ rfl <| J.nil <| CJ.persistAt (t := (.cons Yq9 (.one (.ptr Yq6)))) (x := (p18, p163)) ⟨_, _, rfl, rfl, (f20.mono ((hk150.trans hK157).trans hK167)), f166⟩ fun K171 hK172 a173 => CJ.ret ?_
 obtain rfl := si h
 exact ⟨_, _, Res.one rfl rfl, ⟨(some (p18, p163)), pt b170, rfl, rfl, (At.is_ptr a173), rfl⟩, ((((hK21.trans hk150).trans hK157).trans hK167).trans hK172), fun w hs => hs⟩

noncomputable def fn_flow_Flow_ways (xa : (Option (Tq9 × Tq4))) : Option (Tq4) :=
  cond (xa.isNone) (some (none)) ((xa : Option (Tq9 × Tq4)).bind fun y15 => some (y15.2))
theorem flow_Flow_ways_ok {K : Hp} {xa : (Option (Tq9 × Tq4))} {Wa0 : Value} (Ga0 : Is K (.ptr (.cons Yq9 (.one (.ptr Yq6)))) [Wa0] xa) {r : Tq4} (h : fn_flow_Flow_ways xa = some r) :
    Tr Tryz.prog 34 #[Wa0] K [] (fun v K' L' => (∃ (p11 : Tq4) (v12 : Value), p11 = r ∧ v12 = v ∧ Is K' (.ptr Yq6) [v12] p11 ∧ L' = [])) := by
 refine Tr.of func34 rfl ntmps34 rfl fun E F => ?_
 unfold fn_flow_Flow_ways at h
 refine cr <| ja (.pointer none) rfl <| J.nil <| CJ.seq <| CJ.seq <| CJ.region ?_
 refine jm Wa0 rfl <| jv (.bool xa.isNone) (V.kp_eql underlying33 Ga0 rfl rfl) <| J.nil <| cc rfl h (fun hc14 h => ?_) fun hc14 h => ?_
 · refine cr <| ja (.pointer none) rfl <| J.nil <| CJ.ret ?_
   obtain rfl := si h
   exact ⟨_, _, Res.one rfl rfl, ⟨none, .pointer none, rfl, rfl, Is.ptr_nil, rfl⟩, hpr, fun w hs => hs⟩
 refine CJ.skip <| cr <| jm Wa0 rfl ?_
 obtain ⟨y15, hy16, h⟩ := ob h
 obtain ⟨b17, o18, hv19, a20⟩ := Is.psome Ga0 hy16
 refine jv _ (V.nck hv19) <| jv _ (V.fad underlying76 rfl nz71 rfl) ?_
 obtain ⟨v21, c22, f23⟩ := (((a20).snd).one).ptr
 refine jv v21 (V.ld rfl (Ld.sc sc71 (Rd.k c22 hpr))) <| ja v21 rfl <| J.nil <| CJ.ret ?_
 obtain rfl := si h
 exact ⟨_, _, Res.one rfl rfl, ⟨y15.2, v21, rfl, rfl, f23, rfl⟩, hpr, fun w hs => hs⟩

noncomputable def fn_graph_Graph_Nodes (xa : Tq4) : Option Int :=
  cond (xa.isNone) (some (0)) ((xa : Option (Int × Tq8 × ((List Int) × (List Int)) × ((List Int) × (List Int)))).bind fun y11 => some (y11.1))
theorem graph_Graph_Nodes_ok {K : Hp} {xa : Tq4} {Wa0 : Value} (Ga0 : Is K (.ptr Yq6) [Wa0] xa) {r : Int} (h : fn_graph_Graph_Nodes xa = some r) :
    Tr Tryz.prog 39 #[Wa0] K [] (fun v K' L' => (∃ (i9 : Int), i9 = r ∧ ii i9 = v ∧ L' = []) ∧ K = K') := by
 refine Tr.k <| Tr.of func39 rfl ntmps39 rfl fun E F => ?_
 unfold fn_graph_Graph_Nodes at h
 refine cr <| ja (ii 0) rfl <| J.nil <| CJ.seq <| CJ.seq <| CJ.region ?_
 refine jm Wa0 rfl <| jv (.bool xa.isNone) (V.kp_eql underlying71 Ga0 rfl rfl) <| J.nil <| cc rfl h (fun hc10 h => ?_) fun hc10 h => ?_
 · refine cr <| ja (ii 0) rfl <| J.nil <| CJ.ret ?_
   obtain rfl := si h
   exact ⟨_, _, Res.one rfl rfl, ⟨0, rfl, rfl, rfl⟩, hpr, fun w hs => hs⟩
 refine CJ.skip <| cr <| jm Wa0 rfl ?_
 obtain ⟨y11, hy12, h⟩ := ob h
 obtain ⟨b13, o14, hv15, a16⟩ := Is.psome Ga0 hy12
 refine jv _ (V.nck hv15) <| jv _ (V.fad underlying97 rfl nz3 rfl) <| jv (ii y11.1) (V.ld rfl (Ld.sc sc3 (Rd.k ((a16).fst).int hpr))) <| ja (ii y11.1) rfl <| J.nil <| CJ.ret ?_
 obtain rfl := si h
 exact ⟨_, _, Res.one rfl rfl, ⟨y11.1, rfl, rfl, rfl⟩, hpr, fun w hs => hs⟩

noncomputable def fn_graph_Graph_isNode (xa : Tq4) (xb : Int) : Option Bool :=
  (cond (decide (0 ≤ xb)) ((fn_graph_Graph_Nodes xa).bind fun i30 => some (decide (xb < i30))) (some (false))).bind fun t25 => some (t25)
theorem graph_Graph_isNode_ok {K : Hp} {xa : Tq4} {xb : Int} {Wa0 : Value} (Ga0 : Is K (.ptr Yq6) [Wa0] xa) {r : Bool} (h : fn_graph_Graph_isNode xa xb = some r) :
    Tr Tryz.prog 55 #[Wa0, ii xb] K [] (fun v K' L' => (∃ (t17 : Bool), t17 = r ∧ .bool t17 = v ∧ L' = []) ∧ K = K') := by
 refine Tr.k <| Tr.of func55 rfl ntmps55 rfl fun E F => ?_
 unfold fn_graph_Graph_isNode at h
 refine cr <| ja (.bool false) rfl <| J.nil <| cr <| jm (ii xb) rfl ?_
 refine jv (.bool (decide (0 ≤ xb))) (V.geq rfl rfl) <| jm (.bool (decide (0 ≤ xb))) rfl <| J.cut 5 ?_
 obtain ⟨t25, ht26, h⟩ := ob h
 refine jmeet [(12, .bool t25)] ?_ ?_
 · rcases bt (decide (0 ≤ xb)) with hc27 | hc27
   · have ht26 := ct hc27 ht26
     refine J.run rfl rfl rfl hc27 <| jm (ii xb) rfl <| J.run rfl rfl rfl hc27 <| jm Wa0 rfl <| J.run rfl rfl rfl hc27 ?_
     obtain ⟨r28, hr29, ht26⟩ := ob ht26
     refine J.op rfl (A.call (L1 := []) call39 rfl (graph_Graph_Nodes_ok Ga0 hr29) rfl rfl) ?_
     rintro _ _ _ ⟨v31, _, rfl, ⟨⟨i30, rfl, rfl, rfl⟩, rfl⟩, _, rfl⟩
     refine J.run rfl rfl rfl hc27 <| jv (.bool (decide (xb < i30))) (V.lss rfl rfl) <| jv (.bool (decide (xb < i30))) (V.pickT rfl hc27 rfl) <| J.nil ?_
     obtain rfl := si ht26
     exact ⟨rfl, rt1, rfl, rfl⟩
   have ht26 := cf hc27 ht26
   refine J.skip rfl rfl rfl rfl hc27 <| J.skip rfl rfl rfl rfl hc27 <| J.skip rfl rfl rfl rfl hc27 <| J.skip rfl rfl rfl rfl hc27 <| jv (.bool false) (V.pickF rfl hc27 rfl) <| J.nil ?_
   obtain rfl := si ht26
   exact ⟨rfl, rt1, rfl, rfl⟩
 intro ρ
 refine ja (.bool t25) rfl <| J.nil <| CJ.ret ?_
 obtain rfl := si h
 exact ⟨_, _, Res.one rfl rfl, ⟨t25, rfl, rfl, rfl⟩, hpr, fun w hs => hs⟩

noncomputable def fn_graph_index_of (xa : ((List Int) × (List Int))) (xb : Int) : Option (List Int) :=
  (getI xa.1 xb).bind fun x79 => (getI xa.1 (IntKind.wrap .i64 (xb + 1))).bind fun x88 => (subL xa.2 x79 x88).bind fun y97 => some (y97)
theorem graph_index_of_ok {K : Hp} {xa : ((List Int) × (List Int))} {xb : Int} {Aa0 : Option Addr} {Ca0 : Nat} {Aa1 : Option Addr} {Ca1 : Nat} (Ga0 : Is K Yq7 [sl Aa0 xa.1 Ca0] xa.1) (Ga1 : Is K Yq7 [sl Aa1 xa.2 Ca1] xa.2) {r : (List Int)} (h : fn_graph_index_of xa xb = some r) :
    Tr Tryz.prog 56 #[.agg #[sl Aa0 xa.1 Ca0, sl Aa1 xa.2 Ca1], ii xb] K [] (fun v K' L' => (∃ (l50 : (List Int)) (ad51 : Option Addr) (cp52 : Nat), l50 = r ∧ sl ad51 l50 cp52 = v ∧ Is K' Yq7 [sl ad51 l50 cp52] l50 ∧ L' = [])) := by
 refine Tr.of func56 rfl ntmps56 rfl fun E F => ?_
 unfold fn_graph_index_of at h
 refine cr <| jbx [sl Aa0 xa.1 Ca0, sl Aa1 xa.2 Ca1] rfl rfl fun b54 => ja (nos) rfl <| J.nil <| CJ.seq <| CJ.mix [Cl b54 95 [sl Aa0 xa.1 Ca0, sl Aa1 xa.2 Ca1]] [] [0, 1, 2, 3, 4, 5, 6, 7, 8, 9, 10, 11, 12, 13, 14] [] mixO (by decide +kernel) ⟨0, rfl, trivial⟩ rfl rfl rfl ?_
 refine JM.nil <| qv _ (V.fad underlying95 rfl nz42 rfl) <| qv (sl Aa1 xa.2 Ca1) (V.ld rfl (Ld.sc sc42 (Rd.cl 0 rfl rfl))) <| qv _ (V.fad underlying95 rfl nz42 rfl) <| qv (sl Aa0 xa.1 Ca0) (V.ld rfl (Ld.sc sc42 (Rd.cl 0 rfl rfl))) <| qm (ii xb) rfl ?_
 obtain ⟨x79, hx80, h⟩ := ob h
 obtain ⟨p81, p82, p83⟩ := getI_some hx80
 obtain ⟨b84, o85, e86, a87⟩ := (Ga0).at p82
 refine qv _ (V.iad underlying42 sz3 rfl e86 rfl p81 p83) <| qv (ii x79) (V.ld rfl (Ld.sc sc3 (Rd.k (a87).int hpr))) <| qv _ (V.fad underlying95 rfl nz42 rfl) <| qv (sl Aa0 xa.1 Ca0) (V.ld rfl (Ld.sc sc42 (Rd.cl 0 rfl rfl))) <| qm (ii xb) rfl <| qv (ii (IntKind.wrap .i64 (xb + 1))) (V.add rfl rfl) ?_
 obtain ⟨x88, hx89, h⟩ := ob h
 obtain ⟨p90, p91, p92⟩ := getI_some hx89
 obtain ⟨b93, o94, e95, a96⟩ := (Ga0).at p91
 refine qv _ (V.iad underlying42 sz3 rfl e95 rfl p90 p92) <| qv (ii x88) (V.ld rfl (Ld.sc sc3 (Rd.k (a96).int hpr))) ?_
 obtain ⟨y97, hy98, h⟩ := ob h
 obtain ⟨ad99, cp2, hv4, f5⟩ := V.subI (tp := (.int .i64)) underlying42 sz3 Ga1 hy98
 refine qv (sl ad99 y97 cp2) (hv4 rfl (fun _ h => by cases h; exact ⟨_, rfl⟩) nofun (fun _ h => by cases h; exact ⟨_, rfl⟩) nofun) <| qa (sl ad99 y97 cp2) rfl <| JQ.nil <| J.nil <| CJ.ret ?_
 obtain rfl := si h
 exact ⟨_, _, Res.one rfl rfl, ⟨y97, ad99, cp2, rfl, rfl, f5, rfl⟩, hpr, fun w hs => (Sep.dropAt 0 rfl hs)⟩
end Go.Proofs.YtbennpandomacaaGreat
