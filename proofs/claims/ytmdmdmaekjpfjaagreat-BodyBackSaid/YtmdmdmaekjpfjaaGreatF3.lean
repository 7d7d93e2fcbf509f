import Derived.Test.YtmdmdmaekjpfjaaGreatF2
namespace Go.Proofs.YtmdmdmaekjpfjaaGreat
open Go.RowKit
set_option linter.unusedVariables false
set_option linter.unnecessarySimpa false
set_option linter.unusedSimpArgs false
set_option maxRecDepth 20000

noncomputable def fn_body_one_api_Term_p0_term_Take__sii (qa0 : List UInt8) (qa1 : Int) (qa2 : Int) : Option ((Int × Int × Int × (List Int) × (List Int) × (List Int) × List UInt8 × Int × Int)) :=
  cond (!decide (qa2 = 0)) (some ((0, 0, 0, [], [], [], qa0, qa1, qa2))) ((fn_term_Take qa0).bind fun (i63, i65, i66, l67, l68, l69, i70, i71) => cond (!decide (i71 = 0)) (some ((0, 0, 0, [], [], [], qa0, qa1, i71))) ((subL qa0 i70 (((qa0.length : Nat) : Int))).bind fun y92 => some ((i63, i65, i66, l67, l68, l69, y92, IntKind.wrap .i64 (qa1 + 1), qa2))))
set_option maxRecDepth 100000 in
set_option maxHeartbeats 4000000 in
theorem body_one_api_Term_p0_term_Take__sii_ok {K : Hp} {qa0 : List UInt8} {qa1 : Int} {qa2 : Int} {pba : Nat}  {r : (Int × Int × Int × (List Int) × (List Int) × (List Int) × List UInt8 × Int × Int)} (h : fn_body_one_api_Term_p0_term_Take__sii qa0 qa1 qa2 = some r) :
    Tr Tryz.prog 27 #[.pointer (some ⟨pba, 0, none⟩), .func (.func 28) #[] #[]] K [Cl pba 54 [.string ⟨qa0.toArray⟩, ii qa1, ii qa2]] (fun v K' L' => (∃ (i34 : Int) (i35 : Int) (i36 : Int) (l37 : (List Int)) (l42 : (List Int)) (l47 : (List Int)) (s52 : List UInt8) (i53 : Int) (i54 : Int) (ad38 : Option Addr) (cp39 : Nat) (ad43 : Option Addr) (cp44 : Nat) (ad48 : Option Addr) (cp49 : Nat), (i34, i35, i36, l37, l42, l47, s52, i53, i54) = r ∧ .agg #[ii i34, ii i35, ii i36, .slice ad38 l37.length cp39, .slice ad43 l42.length cp44, .slice ad48 l47.length cp49] = v ∧ L' = [Cl pba 54 [.string ⟨s52.toArray⟩, ii i53, ii i54], Row Hp.nil 3 (.int .i64) (.slice ad38 l37.length cp39) l37, Row Hp.nil 3 (.int .i64) (.slice ad43 l42.length cp44) l42, Row Hp.nil 3 (.int .i64) (.slice ad48 l47.length cp49) l47]) ∧ K = K') := by
 refine Tr.k <| Tr.of Tryz.func27 rfl Tryz.ntmps27 rfl fun E F => ?_
 unfold fn_body_one_api_Term_p0_term_Take__sii at h
 refine cr <| jal inf68 [ii 0, ii 0, ii 0, nos, nos, nos] rfl fun b55 => J.nil <| cr <| jal inf68 [ii 0, ii 0, ii 0, nos, nos, nos] rfl fun b56 => ?_
 refine J.nil <| CJ.seq <| cr <| jm _ rfl <| jv _ (V.nck rfl) <| jv _ (V.fad Tryz.underlying54 rfl nz35 rfl) ?_
 refine jv (ii qa2) (V.ld rfl (Ld.sc sc35 (Rd.cl 2 rfl rfl))) <| jv (.bool (!decide (qa2 = 0))) (V.neq rfl rfl) <| J.nil <| cc rfl h (fun hc57 h => ?_) fun hc57 h => ?_
 · refine cr <| jv (.agg #[ii 0, ii 0, ii 0, nos, nos, nos]) (V.ld rfl (Ld.agg (cs := [ii 0, ii 0, ii 0, nos, nos, nos]) Tryz.underlying68 sz68 rfl (Rd.cls 0 0 rfl rfl))) <| J.front 1 rfl <| js [ii 0, ii 0, ii 0, nos, nos, nos] sz68 rfl rfl rfl rfl rfl rfl <| J.nil <| CJ.by (fun w hs => Sep.rowNil (e := 3) (t := (.int .i64)) hs) ?_
   refine CJ.by (fun w hs => Sep.rowNil (e := 3) (t := (.int .i64)) hs) <| CJ.by (fun w hs => Sep.rowNil (e := 3) (t := (.int .i64)) hs) <| CJ.ret ?_
   obtain rfl := si h
   exact ⟨_, _, Res.one rfl ⟨_, _, rfl, Ld.agg (cs := [ii 0, ii 0, ii 0, nos, nos, nos]) Tryz.underlying68 sz68 rfl (Rd.cls 3 0 rfl rfl)⟩, ⟨0, 0, 0, [], [], [], qa0, qa1, qa2, none, 0, none, 0, none, 0, rfl, rfl, rfl⟩, (Hp.le_refl _), fun w hs => (Sep.front 3 rfl (Sep.front 2 rfl (Sep.front 1 rfl (Sep.dropAt 3 rfl (Sep.dropAt 3 rfl hs)))))⟩
 refine CJ.skip <| cr <| jm (.func (.func 28) #[] #[]) rfl <| jm _ rfl <| jv _ (V.nck rfl) <| jv _ (V.fad Tryz.underlying54 rfl nz9 rfl) ?_
 refine jv (.string ⟨qa0.toArray⟩) (V.ld rfl (Ld.sc sc9 (Rd.cl 2 rfl rfl))) ?_
 obtain ⟨r61, hr62, h⟩ := ob h
 refine J.op rfl (A.call (L1 := []) Tryz.call28 rfl (term_Take_ok hr62) rfl rfl) ?_
 rintro _ _ _ ⟨v81, _, rfl, ⟨⟨i63, i65, i66, l67, l68, l69, i70, i71, ad72, cp73, ad74, cp75, ad76, cp77, rfl, rfl, rfl⟩, rfl⟩, _, rfl⟩
 refine J.wit Row.hn fun hn78 => J.front 1 rfl <| J.wit Row.hn fun hn79 => J.front 2 rfl <| J.wit Row.hn fun hn80 => jm (.tuple #[.agg #[ii i63, ii i65, ii i66, .slice ad72 l67.length cp73, .slice ad74 l68.length cp75, .slice ad76 l69.length cp77], ii i70, ii i71]) rfl <| jx (.agg #[ii i63, ii i65, ii i66, .slice ad72 l67.length cp73, .slice ad74 l68.length cp75, .slice ad76 l69.length cp77]) rfl rfl ?_
 refine jx (ii i70) rfl rfl <| jx (ii i71) rfl rfl <| jal inf68 [ii 0, ii 0, ii 0, nos, nos, nos] rfl fun b87 => js [ii i63, ii i65, ii i66, .slice ad72 l67.length cp73, .slice ad74 l68.length cp75, .slice ad76 l69.length cp77] sz68 rfl rfl rfl rfl rfl rfl <| ja (ii i70) rfl <| ja (ii i71) rfl <| J.nil ?_
 refine CJ.seq <| cr <| jm (ii i71) rfl <| jv (.bool (!decide (i71 = 0))) (V.neq rfl rfl) <| J.nil <| cc rfl h (fun hc88 h => ?_) fun hc88 h => ?_
 · refine cr <| jm _ rfl <| jm (ii i71) rfl <| jv _ (V.nck rfl) <| jv _ (V.fad Tryz.underlying54 rfl nz35 rfl) <| J.front 6 rfl ?_
   refine js1 [.string ⟨qa0.toArray⟩, ii qa1, ii i71] sz35 rfl rfl rfl rfl rfl rfl <| J.nil <| cr <| jv (.agg #[ii 0, ii 0, ii 0, nos, nos, nos]) (V.ld rfl (Ld.agg (cs := [ii 0, ii 0, ii 0, nos, nos, nos]) Tryz.underlying68 sz68 rfl (Rd.cls 5 0 rfl rfl))) <| J.front 6 rfl <| js [ii 0, ii 0, ii 0, nos, nos, nos] sz68 rfl rfl rfl rfl rfl rfl ?_
   refine J.nil <| CJ.by (fun w hs => Sep.rowNil (e := 3) (t := (.int .i64)) hs) <| CJ.by (fun w hs => Sep.rowNil (e := 3) (t := (.int .i64)) hs) <| CJ.by (fun w hs => Sep.rowNil (e := 3) (t := (.int .i64)) hs) <| CJ.ret ?_
   obtain rfl := si h
   exact ⟨_, _, Res.one rfl ⟨_, _, rfl, Ld.agg (cs := [ii 0, ii 0, ii 0, nos, nos, nos]) Tryz.underlying68 sz68 rfl (Rd.cls 3 0 rfl rfl)⟩, ⟨0, 0, 0, [], [], [], qa0, qa1, i71, none, 0, none, 0, none, 0, rfl, rfl, rfl⟩, (Hp.le_refl _), fun w hs => (Sep.front 3 rfl (Sep.front 2 rfl (Sep.front 1 rfl (Sep.dropAt 4 rfl (Sep.dropAt 4 rfl (Sep.dropAt 4 rfl (Sep.dropAt 4 rfl (Sep.dropAt 4 rfl (Sep.dropAt 3 rfl hs)))))))))⟩
 refine CJ.skip <| cr <| jm _ rfl <| jm _ rfl <| jv _ (V.nck rfl) <| jv _ (V.fad Tryz.underlying54 rfl nz9 rfl) ?_
 refine jv (.string ⟨qa0.toArray⟩) (V.ld rfl (Ld.sc sc9 (Rd.cl 6 rfl rfl))) <| jm (ii i70) rfl ?_
 obtain ⟨y92, hy93, h⟩ := ob h
 refine jv (.string ⟨y92.toArray⟩) (V.subs Tryz.underlying9 rfl (fun _ h => by cases h; exact ⟨_, rfl⟩) nofun nofun (fun _ => rfl) hy93) <| jv _ (V.nck rfl) <| jv _ (V.fad Tryz.underlying54 rfl nz9 rfl) <| J.front 6 rfl <| js1 [.string ⟨y92.toArray⟩, ii qa1, ii qa2] sz9 rfl rfl rfl rfl rfl rfl <| J.nil <| CJ.seq ?_
 refine CJ.region <| jm _ rfl <| jv _ (V.nck rfl) <| jv _ (V.fad Tryz.underlying54 rfl nz3 rfl) <| jv (ii qa1) (V.ld rfl (Ld.sc sc3 (Rd.cl 0 rfl rfl))) <| jv (ii (IntKind.wrap .i64 (qa1 + 1))) (V.add rfl rfl) <| jv _ (V.nck rfl) ?_
 refine jv _ (V.fad Tryz.underlying54 rfl nz3 rfl) <| js1 [.string ⟨y92.toArray⟩, ii (IntKind.wrap .i64 (qa1 + 1)), ii qa2] sz3 rfl rfl rfl rfl rfl rfl <| J.nil <| cr <| jv (.agg #[ii i63, ii i65, ii i66, .slice ad72 l67.length cp73, .slice ad74 l68.length cp75, .slice ad76 l69.length cp77]) (V.ld rfl (Ld.agg (cs := [ii i63, ii i65, ii i66, .slice ad72 l67.length cp73, .slice ad74 l68.length cp75, .slice ad76 l69.length cp77]) Tryz.underlying68 sz68 rfl (Rd.cls 1 0 rfl rfl))) <| J.front 6 rfl ?_
 refine js [ii i63, ii i65, ii i66, .slice ad72 l67.length cp73, .slice ad74 l68.length cp75, .slice ad76 l69.length cp77] sz68 rfl rfl rfl rfl rfl rfl <| J.nil <| CJ.ret ?_
 obtain rfl := si h
 exact ⟨_, _, Res.one rfl ⟨_, _, rfl, Ld.agg (cs := [ii i63, ii i65, ii i66, .slice ad72 l67.length cp73, .slice ad74 l68.length cp75, .slice ad76 l69.length cp77]) Tryz.underlying68 sz68 rfl (Rd.cls 0 0 rfl rfl)⟩, ⟨i63, i65, i66, l67, l68, l69, y92, IntKind.wrap .i64 (qa1 + 1), qa2, ad72, cp73, ad74, cp75, ad76, cp77, rfl, rfl, rfl⟩, (Hp.le_refl _), fun w hs => (Sep.front 3 rfl (Sep.front 3 rfl (Sep.front 2 rfl (Sep.front 1 rfl (Sep.dropAt 4 rfl (Sep.dropAt 1 rfl (Sep.dropAt 0 rfl hs)))))))⟩

noncomputable def fn_tick_Counter_Add_zii (xb : Int) (xc : Int) : Option Unit :=
  some (())
set_option maxRecDepth 100000 in
set_option maxHeartbeats 4000000 in
theorem tick_Counter_Add_zii_ok {K : Hp} {xb : Int} {xc : Int}   {r : Unit} (h : fn_tick_Counter_Add_zii xb xc = some r) :
    Tr Tryz.prog 29 #[.pointer none, ii xb, ii xc] K [] (fun v K' L' => (() = r ∧ .tuple #[] = v ∧ L' = []) ∧ K = K') := by
 refine Tr.k <| Tr.of Tryz.func29 rfl Tryz.ntmps29 rfl fun E F => ?_
 unfold fn_tick_Counter_Add_zii at h
 refine cr <| jm (.pointer none) rfl <| jv (.bool false) (Val.eq (V.pn_neq Tryz.underlying38 rfl rfl) rfl) <| jm (.bool false) rfl <| J.skip rfl rfl rfl rfl rfl <| J.skip rfl rfl rfl rfl rfl ?_
 refine jv (.bool false) (V.pickF rfl rfl rfl) <| jm (.bool false) rfl <| J.skip rfl rfl rfl rfl rfl <| J.skip rfl rfl rfl rfl rfl <| jv (.bool false) (V.pickF rfl rfl rfl) <| J.nil <| CJ.condK (b := false) rfl rfl ?_
 refine CJ.skip ?_
 obtain rfl := si h
 exact ⟨_, _, Res.zero rfl, ⟨rfl, rfl, rfl⟩, (Hp.le_refl _), fun w hs => hs⟩
noncomputable def fn_body_Take_sz_l1 (i702 : Int) : (Int × List UInt8 × Int × Int × (List ((List (Int × Int × Int × Int × Bool)) × (Int × Int × Int × (List Int) × (List Int) × (List Int))))) → Option ((Int × List UInt8 × Int × Int × (List ((List (Int × Int × Int × Int × Bool)) × (Int × Int × Int × (List Int) × (List Int) × (List Int))))) ⊕ (List UInt8 × Int × Int × (List ((List (Int × Int × Int × Int × Bool)) × (Int × Int × Int × (List Int) × (List Int) × (List Int)))))) := fun ((i1028, s1029, i1030, i1031, l1032) : (Int × List UInt8 × Int × Int × (List ((List (Int × Int × Int × Int × Bool)) × (Int × Int × Int × (List Int) × (List Int) × (List Int)))))) => cond ((decide (i1028 < i702)) && (decide (i1031 = 0))) ((fn_body_list_api_Stmt_p0_stmt_Take__sii s1029 i1030 i1031).bind fun (l1124, s1125, i1126, i1127) => (fn_body_one_api_Term_p0_term_Take__sii s1125 i1126 i1127).bind fun (i1137, i1138, i1139, l1140, l1141, l1142, s1143, i1144, i1145) => (app l1032 (([(l1124, (i1137, i1138, i1139, l1140, l1141, l1142))] : List ((List (Int × Int × Int × Int × Bool)) × (Int × Int × Int × (List Int) × (List Int) × (List Int)))))).bind fun z1176 => some (.inl ((IntKind.wrap .i64 (i1028 + 1), s1143, i1144, i1145, z1176)))) (some (.inr (((s1029, i1030, i1031, l1032)))))
noncomputable def fn_body_Take_sz (xa : (List UInt8)) : Option ((Int × Int × (List (Int × Int)) × (List (List (Int × Bool))) × (List (Int × Bool)) × (List (Int × (List (Int × Int)) × (List (List (Int × Bool))) × (List (Int × Bool)))) × (List ((List (Int × Int × Int × Int × Bool)) × (Int × Int × Int × (List Int) × (List Int) × (List Int)))) × Int)) :=
  (fn_strings_CutPrefix xa ([109, 105, 114, 1] : List UInt8)).bind fun (s617, t618) => cond (!t618) (some ((0, 0, [], [], [], [], [], 12))) ((fn_body_count_p0_sii s617 0 0).bind fun (i632, s633, i634, i635) => (fn_body_count_p0_sii s633 i634 i635).bind fun (i641, s642, i643, i644) => (fn_body_one_api_Bound_p0_body_takeBounds__sii s642 i643 i644).bind fun (l650, s651, i652, i653) => (fn_body_list_api_Type_p0_sig_TakeType__sii s651 i652 i653).bind fun (l663, s664, i665, i666) => (fn_body_one_api_Type_p0_sig_TakeType__sii s664 i665 i666).bind fun (l676, s677, i678, i679) => (fn_body_list_api_Sig_p0_sig_Take__sii s677 i678 i679).bind fun (l689, s690, i691, i692) => (fn_body_count_p0_sii s690 i691 i692).bind fun (i702, s703, i704, i705) => (loop (fn_body_Take_sz_l1 i702) (0, s703, i704, i705, []) : Option ((List UInt8 × Int × Int × (List ((List (Int × Int × Int × Int × Bool)) × (Int × Int × Int × (List Int) × (List Int) × (List Int))))))).bind fun (s941, i942, i943, l944) => (cond ((decide (i943 = 0)) && (!decide (s941 = ([] : List UInt8)))) (some (13)) (some (i943)) : Option Int).bind fun i1188 => cond (!decide (i1188 = 0)) (some ((0, 0, [], [], [], [], [], i1188))) ((fn_tick_Counter_Add_zii 0 i942).bind fun _ => some ((i632, i641, l650, l663, l676, l689, l944, 0))))
set_option maxRecDepth 100000 in
set_option maxHeartbeats 4000000 in
theorem body_Take_sz_ok {K : Hp} {xa : (List UInt8)}   {r : (Int × Int × (List (Int × Int)) × (List (List (Int × Bool))) × (List (Int × Bool)) × (List (Int × (List (Int × Int)) × (List (List (Int × Bool))) × (List (Int × Bool)))) × (List ((List (Int × Int × Int × Int × Bool)) × (Int × Int × Int × (List Int) × (List Int) × (List Int)))) × Int)} (h : fn_body_Take_sz xa = some r) :
    Tr Tryz.prog 6 #[.string ⟨xa.toArray⟩, .pointer none] K [] (fun v K' L' => (∃ (i586 : Int) (i587 : Int) (l588 : (List (Int × Int))) (l593 : (List (List (Int × Bool)))) (l598 : (List (Int × Bool))) (l603 : (List (Int × (List (Int × Int)) × (List (List (Int × Bool))) × (List (Int × Bool))))) (l608 : (List ((List (Int × Int × Int × Int × Bool)) × (Int × Int × Int × (List Int) × (List Int) × (List Int))))) (i613 : Int) (ad589 : Option Addr) (cp590 : Nat) (ad594 : Option Addr) (cp595 : Nat) (ad599 : Option Addr) (cp600 : Nat) (ad604 : Option Addr) (cp605 : Nat) (ad609 : Option Addr) (cp610 : Nat), (i586, i587, l588, l593, l598, l603, l608, i613) = r ∧ .tuple #[.agg #[ii i586, ii i587, .slice ad589 l588.length cp590, .slice ad594 l593.length cp595, .slice ad599 l598.length cp600, .slice ad604 l603.length cp605, .slice ad609 l608.length cp610], ii i613] = v ∧ L' = [Row Hp.nil 95 (.cons (.int .i64) (.one (.int .i64))) (.slice ad589 l588.length cp590) l588, Row K' 30 (.one (.sl (.cons (.int .i64) (.one .bool)))) (.slice ad594 l593.length cp595) l593, Row Hp.nil 146 (.cons (.int .i64) (.one .bool)) (.slice ad599 l598.length cp600) l598, Row K' 63 (.cons (.int .i64) (.cons (.sl (.cons (.int .i64) (.one (.int .i64)))) (.cons (.sl (.one (.sl (.cons (.int .i64) (.one .bool))))) (.one (.one (.sl (.cons (.int .i64) (.one .bool)))))))) (.slice ad604 l603.length cp605) l603, Row K' 70 (.cons (.sl (.cons (.int .i64) (.cons (.int .i64) (.cons (.int .i64) (.cons (.int .i64) (.one .bool)))))) (.one (.cons (.int .i64) (.cons (.int .i64) (.cons (.int .i64) (.cons (.sl (.int .i64)) (.cons (.sl (.int .i64)) (.one (.sl (.int .i64)))))))))) (.slice ad609 l608.length cp610) l608])) := by
 refine Tr.of Tryz.func6 rfl Tryz.ntmps6 rfl fun E F => ?_
 unfold fn_body_Take_sz at h
 refine cr <| jal inf34 [ii 0, ii 0, nos, nos, nos, nos, nos] rfl fun b614 => ja (ii 0) rfl <| J.nil <| CJ.seq <| CJ.region ?_
 refine jm (.string ⟨xa.toArray⟩) rfl ?_
 obtain ⟨r615, hr616, h⟩ := ob h
 refine J.op rfl (A.call (L1 := []) Tryz.call16 rfl (strings_CutPrefix_ok hr616) rfl rfl) ?_
 rintro _ _ _ ⟨v619, _, rfl, ⟨⟨s617, t618, rfl, rfl, rfl⟩, rfl⟩, _, rfl⟩
 refine jm (.tuple #[.string ⟨s617.toArray⟩, .bool t618]) rfl <| jx (.string ⟨s617.toArray⟩) rfl rfl <| jx (.bool t618) rfl rfl <| ja (.string ⟨s617.toArray⟩) rfl <| ja (.bool t618) rfl <| J.nil <| CJ.seq ?_
 refine cr <| jm (.bool t618) rfl <| jv (.bool (!t618)) (V.not rfl) <| J.nil <| cc rfl h (fun hc622 h => ?_) fun hc622 h => ?_
 · refine cr <| jv (.agg #[ii 0, ii 0, nos, nos, nos, nos, nos]) (V.build inf34 places34 rfl rfl) <| js [ii 0, ii 0, nos, nos, nos, nos, nos] sz34 rfl rfl rfl rfl rfl rfl <| ja (ii 12) rfl <| J.nil <| CJ.by (fun w hs => Sep.rowNil (e := 95) (t := (.cons (.int .i64) (.one (.int .i64)))) hs) ?_
   refine CJ.by (fun w hs => Sep.rowNil (e := 30) (t := (.one (.sl (.cons (.int .i64) (.one .bool))))) hs) <| CJ.by (fun w hs => Sep.rowNil (e := 146) (t := (.cons (.int .i64) (.one .bool))) hs) <| CJ.by (fun w hs => Sep.rowNil (e := 63) (t := (.cons (.int .i64) (.cons (.sl (.cons (.int .i64) (.one (.int .i64)))) (.cons (.sl (.one (.sl (.cons (.int .i64) (.one .bool))))) (.one (.one (.sl (.cons (.int .i64) (.one .bool))))))))) hs) <| CJ.by (fun w hs => Sep.rowNil (e := 70) (t := (.cons (.sl (.cons (.int .i64) (.cons (.int .i64) (.cons (.int .i64) (.cons (.int .i64) (.one .bool)))))) (.one (.cons (.int .i64) (.cons (.int .i64) (.cons (.int .i64) (.cons (.sl (.int .i64)) (.cons (.sl (.int .i64)) (.one (.sl (.int .i64))))))))))) hs) <| CJ.ret ?_
   obtain rfl := si h
   exact ⟨_, _, Res.two rfl ⟨_, _, rfl, Ld.agg (cs := [ii 0, ii 0, nos, nos, nos, nos, nos]) Tryz.underlying34 sz34 rfl (Rd.cls 5 0 rfl rfl)⟩ rfl, ⟨0, 0, [], [], [], [], [], 12, none, 0, none, 0, none, 0, none, 0, none, 0, rfl, rfl, rfl⟩, (Hp.le_refl _), fun w hs => (Sep.front 4 rfl (Sep.front 3 rfl (Sep.front 2 rfl (Sep.front 1 rfl (Sep.dropAt 5 rfl hs)))))⟩
 refine CJ.skip <| cr <| jm (.string ⟨s617.toArray⟩) rfl <| jv (.agg #[.string ⟨s617.toArray⟩, ii 0, ii 0]) (V.build inf54 places54 rfl rfl) <| jbx [.string ⟨s617.toArray⟩, ii 0, ii 0] rfl rfl fun b628 => ja _ rfl ?_
 refine J.nil <| cr <| jal inf34 [ii 0, ii 0, nos, nos, nos, nos, nos] rfl fun b629 => J.nil <| CJ.seq <| CJ.region ?_
 refine jm _ rfl ?_
 obtain ⟨r630, hr631, h⟩ := ob h
 refine J.front 1 rfl <| J.op rfl (A.call (L1 := [Cl b628 54 [.string ⟨s617.toArray⟩, ii 0, ii 0]]) Tryz.call17 rfl (body_count_p0_sii_ok hr631) rfl rfl) ?_
 rintro _ _ _ ⟨v636, _, rfl, ⟨⟨i632, s633, i634, i635, rfl, rfl, rfl⟩, rfl⟩, _, rfl⟩
 refine jv _ (V.fad Tryz.underlying34 rfl nz3 rfl) <| J.front 1 rfl <| js1 [ii i632, ii 0, nos, nos, nos, nos, nos] sz3 rfl rfl rfl rfl rfl rfl <| J.nil <| cr <| jm _ rfl ?_
 obtain ⟨r639, hr640, h⟩ := ob h
 refine J.front 1 rfl <| J.op rfl (A.call (L1 := [Cl b628 54 [.string ⟨s633.toArray⟩, ii i634, ii i635]]) Tryz.call17 rfl (body_count_p0_sii_ok hr640) rfl rfl) ?_
 rintro _ _ _ ⟨v645, _, rfl, ⟨⟨i641, s642, i643, i644, rfl, rfl, rfl⟩, rfl⟩, _, rfl⟩
 refine jv _ (V.fad Tryz.underlying34 rfl nz3 rfl) <| J.front 1 rfl <| js1 [ii i632, ii i641, nos, nos, nos, nos, nos] sz3 rfl rfl rfl rfl rfl rfl <| J.nil <| cr <| jm _ rfl ?_
 obtain ⟨r648, hr649, h⟩ := ob h
 refine J.front 1 rfl <| J.op rfl (A.call (L1 := [Cl b628 54 [.string ⟨s642.toArray⟩, ii i643, ii i644]]) Tryz.call18 rfl (body_one_api_Bound_p0_body_takeBounds__sii_ok hr649) rfl rfl) ?_
 rintro _ _ _ ⟨v657, _, rfl, ⟨⟨l650, s651, i652, i653, ad654, cp655, rfl, rfl, rfl⟩, rfl⟩, _, rfl⟩
 refine J.front 1 rfl <| J.wit Row.hn fun hn656 => jv _ (V.fad Tryz.underlying34 rfl nz26 rfl) <| J.front 2 rfl <| js1 [ii i632, ii i641, .slice ad654 l650.length cp655, nos, nos, nos, nos] sz26 rfl rfl rfl rfl rfl rfl <| J.nil <| CJ.seq ?_
 refine CJ.region <| jm _ rfl ?_
 obtain ⟨r661, hr662, h⟩ := ob h
 refine J.front 2 rfl <| J.op rfl (A.call (L1 := [Cl b628 54 [.string ⟨s651.toArray⟩, ii i652, ii i653]]) Tryz.call20 rfl (body_list_api_Type_p0_sig_TakeType__sii_ok hr662) rfl rfl) ?_
 rintro _ K671 _ ⟨v670, _, rfl, ⟨l663, s664, i665, i666, ad667, cp668, rfl, rfl, rfl⟩, hK672, rfl⟩
 refine J.front 1 rfl <| J.wit Row.hn fun hn669 => jv _ (V.fad Tryz.underlying34 rfl nz27 rfl) <| J.front 2 rfl <| js1 [ii i632, ii i641, .slice ad654 l650.length cp655, .slice ad667 l663.length cp668, nos, nos, nos] sz27 rfl rfl rfl rfl rfl rfl <| J.nil <| CJ.seq ?_
 refine CJ.region <| jm _ rfl ?_
 obtain ⟨r674, hr675, h⟩ := ob h
 refine J.front 2 rfl <| J.op rfl (A.call (L1 := [Cl b628 54 [.string ⟨s664.toArray⟩, ii i665, ii i666]]) Tryz.call22 rfl (body_one_api_Type_p0_sig_TakeType__sii_ok hr675) rfl rfl) ?_
 rintro _ _ _ ⟨v683, _, rfl, ⟨⟨l676, s677, i678, i679, ad680, cp681, rfl, rfl, rfl⟩, rfl⟩, _, rfl⟩
 refine J.front 1 rfl <| J.wit Row.hn fun hn682 => jv _ (V.fad Tryz.underlying34 rfl nz30 rfl) <| J.front 2 rfl <| js [ii i632, ii i641, .slice ad654 l650.length cp655, .slice ad667 l663.length cp668, .slice ad680 l676.length cp681, nos, nos] sz30 rfl rfl rfl rfl rfl rfl <| J.nil <| CJ.seq ?_
 refine CJ.region <| jm _ rfl ?_
 obtain ⟨r687, hr688, h⟩ := ob h
 refine J.front 2 rfl <| J.op rfl (A.call (L1 := [Cl b628 54 [.string ⟨s677.toArray⟩, ii i678, ii i679]]) Tryz.call23 rfl (body_list_api_Sig_p0_sig_Take__sii_ok hr688) rfl rfl) ?_
 rintro _ K697 _ ⟨v696, _, rfl, ⟨l689, s690, i691, i692, ad693, cp694, rfl, rfl, rfl⟩, hK698, rfl⟩
 refine J.front 1 rfl <| J.wit Row.hn fun hn695 => jv _ (V.fad Tryz.underlying34 rfl nz31 rfl) <| J.front 2 rfl <| js1 [ii i632, ii i641, .slice ad654 l650.length cp655, .slice ad667 l663.length cp668, .slice ad680 l676.length cp681, .slice ad693 l689.length cp694, nos] sz31 rfl rfl rfl rfl rfl rfl <| J.nil <| CJ.seq ?_
 refine CJ.region <| jm _ rfl ?_
 obtain ⟨r700, hr701, h⟩ := ob h
 refine J.front 2 rfl <| J.op rfl (A.call (L1 := [Cl b628 54 [.string ⟨s690.toArray⟩, ii i691, ii i692]]) Tryz.call17 rfl (body_count_p0_sii_ok hr701) rfl rfl) ?_
 rintro _ _ _ ⟨v706, _, rfl, ⟨⟨i702, s703, i704, i705, rfl, rfl, rfl⟩, rfl⟩, _, rfl⟩
 refine ja (ii i702) rfl <| J.nil <| CJ.seq <| cr <| ja (ii 0) rfl <| J.nil ?_
 obtain ⟨o949, ho950, h⟩ := ob h
 refine CJ.meetN (fun ρ K' L' => ∃ (s941 : List UInt8) (i942 : Int) (i943 : Int) (l944 : (List ((List (Int × Int × Int × Int × Bool)) × (Int × Int × Int × (List Int) × (List Int) × (List Int))))) (ad945 : Option Addr) (cp946 : Nat), (s941, i942, i943, l944) = o949 ∧ Fits [(1, .pointer none), (4, .pointer (some ⟨b614, 0, none⟩)), (8, .pointer (some ⟨b628, 0, none⟩)), (9, .pointer (some ⟨b629, 0, none⟩))] ρ ∧ Hp.le K697 K' ∧ L' = Cl b614 34 [ii 0, ii 0, nos, nos, nos, nos, nos] :: Cl b628 54 [.string ⟨s941.toArray⟩, ii i942, ii i943] :: Cl b629 34 [ii i632, ii i641, .slice ad654 l650.length cp655, .slice ad667 l663.length cp668, .slice ad680 l676.length cp681, .slice ad693 l689.length cp694, .slice ad945 l944.length cp946] :: Row Hp.nil 95 (.cons (.int .i64) (.one (.int .i64))) (.slice ad654 l650.length cp655) l650 :: Row K671 30 (.one (.sl (.cons (.int .i64) (.one .bool)))) (.slice ad667 l663.length cp668) l663 :: Row Hp.nil 146 (.cons (.int .i64) (.one .bool)) (.slice ad680 l676.length cp681) l676 :: Row K697 63 (.cons (.int .i64) (.cons (.sl (.cons (.int .i64) (.one (.int .i64)))) (.cons (.sl (.one (.sl (.cons (.int .i64) (.one .bool))))) (.one (.one (.sl (.cons (.int .i64) (.one .bool)))))))) (.slice ad693 l689.length cp694) l689 :: Row K' 70 (.cons (.sl (.cons (.int .i64) (.cons (.int .i64) (.cons (.int .i64) (.cons (.int .i64) (.one .bool)))))) (.one (.cons (.int .i64) (.cons (.int .i64) (.cons (.int .i64) (.cons (.sl (.int .i64)) (.cons (.sl (.int .i64)) (.one (.sl (.int .i64)))))))))) (.slice ad945 l944.length cp946) l944 :: F) ?_ ?_
 · refine CJ.block <| CJ.by (fun w hs => Sep.rowNil (e := 70) (t := (.cons (.sl (.cons (.int .i64) (.cons (.int .i64) (.cons (.int .i64) (.cons (.int .i64) (.one .bool)))))) (.one (.cons (.int .i64) (.cons (.int .i64) (.cons (.int .i64) (.cons (.sl (.int .i64)) (.cons (.sl (.int .i64)) (.one (.sl (.int .i64))))))))))) hs) <| CJ.by (fun w hs => hs.mono (Row.mono (Hp.nil_le K697))) <| CJ.front 3 rfl <| CJ.front 4 rfl <| CJ.front 5 rfl <| CJ.front 6 rfl ?_
   refine CJ.front 6 rfl <| CJ.front 6 rfl <| CJ.front 7 rfl <| CJ.loop (fun s ρ K' L' => ∃ (i1028 : Int) (s1029 : List UInt8) (i1030 : Int) (i1031 : Int) (l1032 : (List ((List (Int × Int × Int × Int × Bool)) × (Int × Int × Int × (List Int) × (List Int) × (List Int))))) (ad1033 : Option Addr) (cp1034 : Nat), (i1028, s1029, i1030, i1031, l1032) = s ∧ Fits [(1, .pointer none), (4, .pointer (some ⟨b614, 0, none⟩)), (8, .pointer (some ⟨b628, 0, none⟩)), (9, .pointer (some ⟨b629, 0, none⟩)), (10, ii i702), (11, ii i1028)] ρ ∧ Hp.le K697 K' ∧ L' = Cl b614 34 [ii 0, ii 0, nos, nos, nos, nos, nos] :: Cl b628 54 [.string ⟨s1029.toArray⟩, ii i1030, ii i1031] :: Cl b629 34 [ii i632, ii i641, .slice ad654 l650.length cp655, .slice ad667 l663.length cp668, .slice ad680 l676.length cp681, .slice ad693 l689.length cp694, .slice ad1033 l1032.length cp1034] :: Row Hp.nil 95 (.cons (.int .i64) (.one (.int .i64))) (.slice ad654 l650.length cp655) l650 :: Row K671 30 (.one (.sl (.cons (.int .i64) (.one .bool)))) (.slice ad667 l663.length cp668) l663 :: Row Hp.nil 146 (.cons (.int .i64) (.one .bool)) (.slice ad680 l676.length cp681) l676 :: Row K697 63 (.cons (.int .i64) (.cons (.sl (.cons (.int .i64) (.one (.int .i64)))) (.cons (.sl (.one (.sl (.cons (.int .i64) (.one .bool))))) (.one (.one (.sl (.cons (.int .i64) (.one .bool)))))))) (.slice ad693 l689.length cp694) l689 :: Row K' 70 (.cons (.sl (.cons (.int .i64) (.cons (.int .i64) (.cons (.int .i64) (.cons (.int .i64) (.one .bool)))))) (.one (.cons (.int .i64) (.cons (.int .i64) (.cons (.int .i64) (.cons (.sl (.int .i64)) (.cons (.sl (.int .i64)) (.one (.sl (.int .i64)))))))))) (.slice ad1033 l1032.length cp1034) l1032 :: F) ho950 ⟨0, s703, i704, i705, [], none, 0, rfl, ⟨rfl, rfl, rfl, rfl, rfl, rfl, trivial⟩, (Hp.le_refl _), rfl⟩ ?_
   rintro s ρ K1027 _ r1116 ⟨i1028, s1029, i1030, i1031, l1032, ad1033, cp1034, rfl, hf1114, hk1115, rfl⟩ h1112
   obtain ⟨ρ, rfl⟩ := hf1114.ex
   refine CJ.front 7 rfl <| CJ.wit Row.hn fun hn1036 => CJ.seq <| cr <| jm (ii i1028) rfl <| jm (ii i702) rfl ?_
   refine jv (.bool (decide (i1028 < i702))) (V.lss rfl rfl) <| jm (.bool (decide (i1028 < i702))) rfl <| J.cut 6 <| jmeet [(53, .bool ((decide (i1028 < i702)) && (decide (i1031 = 0)))), (1, .pointer none), (4, .pointer (some ⟨b614, 0, none⟩)), (8, .pointer (some ⟨b628, 0, none⟩)), (9, .pointer (some ⟨b629, 0, none⟩)), (10, ii i702), (11, ii i1028)] ?_ ?_
   · rcases bt (decide (i1028 < i702)) with hc1119 | hc1119
     · refine J.run rfl rfl rfl hc1119 <| jm _ rfl <| J.run rfl rfl rfl hc1119 <| jv _ (V.nck rfl) <| J.run rfl rfl rfl hc1119 <| jv _ (V.fad Tryz.underlying54 rfl nz35 rfl) <| J.run rfl rfl rfl hc1119 ?_
       refine jv (ii i1031) (V.ld rfl (Ld.sc sc35 (Rd.cl 2 rfl rfl))) <| J.run rfl rfl rfl hc1119 <| jv (.bool (decide (i1031 = 0))) (V.eql rfl rfl) <| jv (.bool (decide (i1031 = 0))) (V.pickT rfl hc1119 rfl) <| J.nil ?_
       exact ⟨rfl, ⟨(by simp only [hc1119]; rfl), rfl, rfl, rfl, rfl, rfl, rfl, trivial⟩, rfl, rfl⟩
     refine J.skip rfl rfl rfl rfl hc1119 <| J.skip rfl rfl rfl rfl hc1119 <| J.skip rfl rfl rfl rfl hc1119 <| J.skip rfl rfl rfl rfl hc1119 <| J.skip rfl rfl rfl rfl hc1119 <| jv (.bool false) (V.pickF rfl hc1119 rfl) <| J.nil ?_
     exact ⟨rfl, ⟨(by simp only [hc1119]; rfl), rfl, rfl, rfl, rfl, rfl, rfl, trivial⟩, rfl, rfl⟩
   intro ρ
   refine J.nil <| cc rfl h1112 (fun hc1120 h1112 => ?_) fun hc1120 h1112 => ?_
   · refine CJ.skip <| CJ.seq <| CJ.block <| cr <| jal inf70 [nos, ii 0, ii 0, ii 0, nos, nos, nos] rfl fun b1121 => J.nil ?_
     refine cr <| jm _ rfl ?_
     obtain ⟨r1122, hr1123, h1112⟩ := ob h1112
     refine J.front 3 rfl <| J.op rfl (A.call (L1 := [Cl b628 54 [.string ⟨s1029.toArray⟩, ii i1030, ii i1031]]) Tryz.call25 rfl (body_list_api_Stmt_p0_stmt_Take__sii_ok hr1123) rfl rfl) ?_
     rintro _ _ _ ⟨v1131, _, rfl, ⟨⟨l1124, s1125, i1126, i1127, ad1128, cp1129, rfl, rfl, rfl⟩, rfl⟩, _, rfl⟩
     refine J.front 1 rfl <| J.wit Row.hn fun hn1130 => jv _ (V.fad Tryz.underlying70 rfl nz65 rfl) <| J.front 2 rfl <| js1 [.slice ad1128 l1124.length cp1129, ii 0, ii 0, ii 0, nos, nos, nos] sz65 rfl rfl rfl rfl rfl rfl <| J.nil <| CJ.seq ?_
     refine CJ.region <| jm _ rfl ?_
     obtain ⟨r1135, hr1136, h1112⟩ := ob h1112
     refine J.front 2 rfl <| J.op rfl (A.call (L1 := [Cl b628 54 [.string ⟨s1125.toArray⟩, ii i1126, ii i1127]]) Tryz.call27 rfl (body_one_api_Term_p0_term_Take__sii_ok hr1136) rfl rfl) ?_
     rintro _ _ _ ⟨v1155, _, rfl, ⟨⟨i1137, i1138, i1139, l1140, l1141, l1142, s1143, i1144, i1145, ad1146, cp1147, ad1148, cp1149, ad1150, cp1151, rfl, rfl, rfl⟩, rfl⟩, _, rfl⟩
     refine J.front 1 rfl <| J.wit Row.hn fun hn1152 => J.front 2 rfl <| J.wit Row.hn fun hn1153 => J.front 3 rfl <| J.wit Row.hn fun hn1154 => jv _ (V.fad Tryz.underlying70 rfl nz68 rfl) ?_
     refine J.front 4 rfl <| js [.slice ad1128 l1124.length cp1129, ii i1137, ii i1138, ii i1139, .slice ad1146 l1140.length cp1147, .slice ad1148 l1141.length cp1149, .slice ad1150 l1142.length cp1151] sz68 rfl rfl rfl rfl rfl rfl <| J.nil <| CJ.region <| jv _ (V.fad Tryz.underlying34 rfl nz32 rfl) <| jv (.slice ad1033 l1032.length cp1034) (V.ld rfl (Ld.sc sc32 (Rd.cl 8 rfl rfl))) <| jv (.agg #[.slice ad1128 l1124.length cp1129, ii i1137, ii i1138, ii i1139, .slice ad1146 l1140.length cp1147, .slice ad1148 l1141.length cp1149, .slice ad1150 l1142.length cp1151]) (V.ld rfl (Ld.agg (cs := [.slice ad1128 l1124.length cp1129, ii i1137, ii i1138, ii i1139, .slice ad1146 l1140.length cp1147, .slice ad1148 l1141.length cp1149, .slice ad1150 l1142.length cp1151]) Tryz.underlying70 sz70 rfl (Rd.cls 0 0 rfl rfl))) ?_
     refine J.front 5 rfl <| J.persist (Hp.nil_le _) (by decide) fun K1161 hK1162 f1163 => J.front 3 rfl <| J.persist (Hp.nil_le _) (by decide) fun K1164 hK1165 f1166 => J.front 2 rfl <| J.persist (Hp.nil_le _) (by decide) fun K1167 hK1168 f1169 => J.front 1 rfl ?_
     refine J.persist (Hp.nil_le _) (by decide) fun K1170 hK1171 f1172 => ?_
     refine J.op rfl (A.lit (K0 := K1170) (ty := (.cons (.sl (.cons (.int .i64) (.cons (.int .i64) (.cons (.int .i64) (.cons (.int .i64) (.one .bool)))))) (.one (.cons (.int .i64) (.cons (.int .i64) (.cons (.int .i64) (.cons (.sl (.int .i64)) (.cons (.sl (.int .i64)) (.one (.sl (.int .i64))))))))))) (xs := ([(l1124, (i1137, i1138, i1139, l1140, l1141, l1142))] : List ((List (Int × Int × Int × Int × Bool)) × (Int × Int × Int × (List Int) × (List Int) × (List Int))))) Tryz.underlying32 inf70 rfl (by decide) rfl rfl rfl ⟨_, _, rfl, ⟨_, _, rfl, rfl, (f1163.mono ((hK1165.trans hK1168).trans hK1171)), ⟨_, _, rfl, rfl, rfl, ⟨_, _, rfl, rfl, rfl, ⟨_, _, rfl, rfl, rfl, ⟨_, _, rfl, rfl, (f1166.mono (hK1168.trans hK1171)), ⟨_, _, rfl, rfl, (f1169.mono hK1171), f1172⟩⟩⟩⟩⟩⟩, rfl⟩ rfl (by decide)) ?_
     rintro _ _ _ ⟨b1173, rfl, rfl, rfl⟩
     have hn1174 : ([(l1124, (i1137, i1138, i1139, l1140, l1141, l1142))] : List ((List (Int × Int × Int × Int × Bool)) × (Int × Int × Int × (List Int) × (List Int) × (List Int)))) ≠ [] → ∃ g, (some ⟨b1173, 0, none⟩ : Option Addr) = some ⟨g, 0, none⟩ := fun _ => ⟨b1173, rfl⟩
     obtain ⟨z1176, hz1177, h1112⟩ := ob h1112
     refine J.front 3 rfl <| J.op rfl (A.appR (Kr := K1170) Tryz.underlying32 inf70 rfl rfl (by decide) (by decide) rfl rfl (Els.mono (((hK1162.trans hK1165).trans hK1168).trans hK1171)) (Els.mono (Hp.le_refl _)) hz1177) ?_
     rintro _ _ _ ⟨v1178, rfl, rfl, rfl⟩
     refine J.wit Row.form ?_
     rintro ⟨ad1179, cp1180, rfl, _, _, hn1181⟩
     refine jv _ (V.fad Tryz.underlying34 rfl nz32 rfl) <| J.front 4 rfl <| js1 [ii i632, ii i641, .slice ad654 l650.length cp655, .slice ad667 l663.length cp668, .slice ad680 l676.length cp681, .slice ad693 l689.length cp694, .slice ad1179 z1176.length cp1180] sz32 rfl rfl rfl rfl rfl rfl <| J.nil <| CJ.region <| jm (ii i1028) rfl <| jv (ii (IntKind.wrap .i64 (i1028 + 1))) (V.add rfl rfl) ?_
     refine ja (ii (IntKind.wrap .i64 (i1028 + 1))) rfl <| J.dropAt 2 rfl <| J.front 1 rfl <| J.front 7 rfl <| J.front 7 rfl <| J.front 7 rfl <| J.front 7 rfl ?_
     refine J.front 5 rfl <| J.front 6 rfl <| J.front 7 rfl <| J.nil ?_
     obtain rfl := si h1112
     exact ⟨rfl, ⟨IntKind.wrap .i64 (i1028 + 1), s1143, i1144, i1145, z1176, ad1179, cp1180, rfl, ⟨rfl, rfl, rfl, rfl, rfl, rfl, trivial⟩, ((((hk1115.trans hK1162).trans hK1165).trans hK1168).trans hK1171), rfl⟩⟩
   refine CJ.front 7 rfl <| CJ.front 7 rfl <| CJ.front 7 rfl <| CJ.front 7 rfl <| CJ.front 7 rfl <| CJ.front 7 rfl <| CJ.front 7 rfl ?_
   refine CJ.exit ?_
   obtain rfl := si h1112
   refine ⟨nofun, fun e => ?_⟩
   subst e
   exact ⟨rfl, ⟨s1029, i1030, i1031, l1032, ad1033, cp1034, rfl, ⟨rfl, rfl, rfl, rfl, trivial⟩, hk1115, rfl⟩⟩
 rintro ρ K940 _ ⟨s941, i942, i943, l944, ad945, cp946, rfl, hf1182, hk1183, rfl⟩
 obtain ⟨ρ, rfl⟩ := hf1182.ex
 refine PJ.front 7 rfl <| PJ.wit Row.hn fun hn948 => PJ.done <| CJ.seq ?_
 obtain ⟨o1189, ho1190, h⟩ := ob h
 refine CJ.meetN (fun ρ K' L' => ∃ (i1188 : Int), i1188 = o1189 ∧ Fits [(1, .pointer none), (4, .pointer (some ⟨b614, 0, none⟩)), (8, .pointer (some ⟨b628, 0, none⟩)), (9, .pointer (some ⟨b629, 0, none⟩))] ρ ∧ K940 = K' ∧ L' = Cl b614 34 [ii 0, ii 0, nos, nos, nos, nos, nos] :: Cl b628 54 [.string ⟨s941.toArray⟩, ii i942, ii i1188] :: Cl b629 34 [ii i632, ii i641, .slice ad654 l650.length cp655, .slice ad667 l663.length cp668, .slice ad680 l676.length cp681, .slice ad693 l689.length cp694, .slice ad945 l944.length cp946] :: Row Hp.nil 95 (.cons (.int .i64) (.one (.int .i64))) (.slice ad654 l650.length cp655) l650 :: Row K671 30 (.one (.sl (.cons (.int .i64) (.one .bool)))) (.slice ad667 l663.length cp668) l663 :: Row Hp.nil 146 (.cons (.int .i64) (.one .bool)) (.slice ad680 l676.length cp681) l676 :: Row K697 63 (.cons (.int .i64) (.cons (.sl (.cons (.int .i64) (.one (.int .i64)))) (.cons (.sl (.one (.sl (.cons (.int .i64) (.one .bool))))) (.one (.one (.sl (.cons (.int .i64) (.one .bool)))))))) (.slice ad693 l689.length cp694) l689 :: Row K940 70 (.cons (.sl (.cons (.int .i64) (.cons (.int .i64) (.cons (.int .i64) (.cons (.int .i64) (.one .bool)))))) (.one (.cons (.int .i64) (.cons (.int .i64) (.cons (.int .i64) (.cons (.sl (.int .i64)) (.cons (.sl (.int .i64)) (.one (.sl (.int .i64)))))))))) (.slice ad945 l944.length cp946) l944 :: F) ?_ ?_
 · refine cr <| jm _ rfl <| jv _ (V.nck rfl) <| jv _ (V.fad Tryz.underlying54 rfl nz35 rfl) <| jv (ii i943) (V.ld rfl (Ld.sc sc35 (Rd.cl 2 rfl rfl))) <| jv (.bool (decide (i943 = 0))) (V.eql rfl rfl) ?_
   refine jm (.bool (decide (i943 = 0))) rfl <| J.cut 6 <| jmeet [(79, .bool ((decide (i943 = 0)) && (!decide (s941 = ([] : List UInt8))))), (1, .pointer none), (4, .pointer (some ⟨b614, 0, none⟩)), (8, .pointer (some ⟨b628, 0, none⟩)), (9, .pointer (some ⟨b629, 0, none⟩))] ?_ ?_
   · rcases bt (decide (i943 = 0)) with hc1193 | hc1193
     · refine J.run rfl rfl rfl hc1193 <| jm _ rfl <| J.run rfl rfl rfl hc1193 <| jv _ (V.nck rfl) <| J.run rfl rfl rfl hc1193 <| jv _ (V.fad Tryz.underlying54 rfl nz9 rfl) <| J.run rfl rfl rfl hc1193 ?_
       refine jv (.string ⟨s941.toArray⟩) (V.ld rfl (Ld.sc sc9 (Rd.cl 2 rfl rfl))) <| J.run rfl rfl rfl hc1193 <| jv (.bool (!decide (s941 = ([] : List UInt8)))) (V.nes rfl rfl) <| jv (.bool (!decide (s941 = ([] : List UInt8)))) (V.pickT rfl hc1193 rfl) <| J.nil ?_
       exact ⟨rfl, ⟨(by simp only [hc1193]; rfl), rfl, rfl, rfl, rfl, trivial⟩, rfl, rfl⟩
     refine J.skip rfl rfl rfl rfl hc1193 <| J.skip rfl rfl rfl rfl hc1193 <| J.skip rfl rfl rfl rfl hc1193 <| J.skip rfl rfl rfl rfl hc1193 <| J.skip rfl rfl rfl rfl hc1193 <| jv (.bool false) (V.pickF rfl hc1193 rfl) <| J.nil ?_
     exact ⟨rfl, ⟨(by simp only [hc1193]; rfl), rfl, rfl, rfl, rfl, trivial⟩, rfl, rfl⟩
   intro ρ
   refine J.nil <| cc rfl ho1190 (fun hc1194 ho1190 => ?_) fun hc1194 ho1190 => ?_
   · refine CJ.region <| jm _ rfl <| jv _ (V.nck rfl) <| jv _ (V.fad Tryz.underlying54 rfl nz35 rfl) <| J.front 2 rfl <| js1 [.string ⟨s941.toArray⟩, ii i942, ii 13] sz35 rfl rfl rfl rfl rfl rfl <| J.front 1 rfl ?_
     refine J.front 7 rfl <| J.front 7 rfl <| J.front 7 rfl <| J.front 7 rfl <| J.front 7 rfl <| J.front 6 rfl <| J.front 7 rfl ?_
     refine J.nil ?_
     obtain rfl := si ho1190
     exact ⟨rfl, ⟨13, rfl, ⟨rfl, rfl, rfl, rfl, trivial⟩, rfl, rfl⟩⟩
   refine CJ.front 7 rfl <| CJ.front 7 rfl <| CJ.front 7 rfl <| CJ.front 7 rfl <| CJ.front 7 rfl <| CJ.front 7 rfl <| CJ.front 7 rfl ?_
   refine CJ.skip ?_
   obtain rfl := si ho1190
   exact ⟨rfl, ⟨i943, rfl, ⟨rfl, rfl, rfl, rfl, trivial⟩, rfl, rfl⟩⟩
 rintro ρ _ _ ⟨i1188, rfl, hf1195, rfl, rfl⟩
 obtain ⟨ρ, rfl⟩ := hf1195.ex
 refine PJ.done <| CJ.seq <| cr <| jm _ rfl <| jv _ (V.nck rfl) <| jv _ (V.fad Tryz.underlying54 rfl nz35 rfl) ?_
 refine jv (ii i1188) (V.ld rfl (Ld.sc sc35 (Rd.cl 1 rfl rfl))) <| jv (.bool (!decide (i1188 = 0))) (V.neq rfl rfl) <| J.nil <| cc rfl h (fun hc1197 h => ?_) fun hc1197 h => ?_
 · refine CJ.seq <| CJ.mix [Cl b614 34 [ii 0, ii 0, nos, nos, nos, nos, nos], Cl b628 54 [.string ⟨s941.toArray⟩, ii i942, ii i1188], Cl b629 34 [ii i632, ii i641, .slice ad654 l650.length cp655, .slice ad667 l663.length cp668, .slice ad680 l676.length cp681, .slice ad693 l689.length cp694, .slice ad945 l944.length cp946], Row Hp.nil 95 (.cons (.int .i64) (.one (.int .i64))) (.slice ad654 l650.length cp655) l650, Row K671 30 (.one (.sl (.cons (.int .i64) (.one .bool)))) (.slice ad667 l663.length cp668) l663, Row Hp.nil 146 (.cons (.int .i64) (.one .bool)) (.slice ad680 l676.length cp681) l676, Row K697 63 (.cons (.int .i64) (.cons (.sl (.cons (.int .i64) (.one (.int .i64)))) (.cons (.sl (.one (.sl (.cons (.int .i64) (.one .bool))))) (.one (.one (.sl (.cons (.int .i64) (.one .bool)))))))) (.slice ad693 l689.length cp694) l689, Row K940 70 (.cons (.sl (.cons (.int .i64) (.cons (.int .i64) (.cons (.int .i64) (.cons (.int .i64) (.one .bool)))))) (.one (.cons (.int .i64) (.cons (.int .i64) (.cons (.int .i64) (.cons (.sl (.int .i64)) (.cons (.sl (.int .i64)) (.one (.sl (.int .i64)))))))))) (.slice ad945 l944.length cp946) l944] [([0, 1, 2, 3, 4], 5)] [6] [] mixO (by decide +kernel) ⟨0, rfl, 0, rfl, 0, rfl, 0, rfl, 0, rfl, 0, rfl, 0, rfl, 0, rfl, trivial⟩ rfl rfl rfl <| JM.cons <| qv (.agg #[ii 0, ii 0, nos, nos, nos, nos, nos]) (V.build inf34 places34 rfl rfl) <| qm _ rfl <| qv _ (V.nck rfl) <| qv _ (V.fad Tryz.underlying54 rfl nz35 rfl) ?_
   refine qv (ii i1188) (V.ld rfl (Ld.sc sc35 (Rd.cl 1 rfl rfl))) <| JQ.nil <| JA.op rfl (A.store (v := .agg #[ii 0, ii 0, nos, nos, nos, nos, nos]) (cs' := [ii 0, ii 0, nos, nos, nos, nos, nos]) sz34 rfl rfl rfl rfl rfl rfl) ?_
   rintro _ _ _ ⟨rfl, rfl, rfl⟩
   refine ⟨fun w hs => Hold.sub (Hp.le_refl _) ⟨0, rfl, 0, rfl, 0, rfl, 0, rfl, 0, rfl, 0, rfl, 0, rfl, 0, rfl, trivial⟩ hs, ?_⟩
   refine JM.nil <| qa (ii i1188) rfl <| JQ.nil <| J.nil <| CJ.by (fun w hs => Sep.rowNil (e := 95) (t := (.cons (.int .i64) (.one (.int .i64)))) hs) <| CJ.by (fun w hs => Sep.rowNil (e := 30) (t := (.one (.sl (.cons (.int .i64) (.one .bool))))) hs) <| CJ.by (fun w hs => Sep.rowNil (e := 146) (t := (.cons (.int .i64) (.one .bool))) hs) ?_
   refine CJ.by (fun w hs => Sep.rowNil (e := 63) (t := (.cons (.int .i64) (.cons (.sl (.cons (.int .i64) (.one (.int .i64)))) (.cons (.sl (.one (.sl (.cons (.int .i64) (.one .bool))))) (.one (.one (.sl (.cons (.int .i64) (.one .bool))))))))) hs) <| CJ.by (fun w hs => Sep.rowNil (e := 70) (t := (.cons (.sl (.cons (.int .i64) (.cons (.int .i64) (.cons (.int .i64) (.cons (.int .i64) (.one .bool)))))) (.one (.cons (.int .i64) (.cons (.int .i64) (.cons (.int .i64) (.cons (.sl (.int .i64)) (.cons (.sl (.int .i64)) (.one (.sl (.int .i64))))))))))) hs) <| CJ.ret ?_
   obtain rfl := si h
   exact ⟨_, _, Res.two rfl ⟨_, _, rfl, Ld.agg (cs := [ii 0, ii 0, nos, nos, nos, nos, nos]) Tryz.underlying34 sz34 rfl (Rd.cls 5 0 rfl rfl)⟩ rfl, ⟨0, 0, [], [], [], [], [], i1188, none, 0, none, 0, none, 0, none, 0, none, 0, rfl, rfl, rfl⟩, ((hK672.trans hK698).trans hk1183), fun w hs => (Sep.front 4 rfl (Sep.front 3 rfl (Sep.front 2 rfl (Sep.front 1 rfl (Sep.dropAt 5 rfl (Sep.dropAt 5 rfl (Sep.dropAt 5 rfl (Sep.dropAt 5 rfl (Sep.dropAt 5 rfl (Sep.dropAt 5 rfl (Sep.dropAt 5 rfl (Sep.dropAt 5 rfl hs))))))))))))⟩
 refine CJ.skip <| cr <| jm (.pointer none) rfl <| jm _ rfl <| jv _ (V.nck rfl) <| jv _ (V.fad Tryz.underlying54 rfl nz3 rfl) ?_
 refine jv (ii i942) (V.ld rfl (Ld.sc sc3 (Rd.cl 1 rfl rfl))) ?_
 obtain ⟨r1203, hr1204, h⟩ := ob h
 refine J.op rfl (A.call (L1 := []) Tryz.call29 rfl (tick_Counter_Add_zii_ok hr1204) rfl rfl) ?_
 rintro _ _ _ ⟨v1205, _, rfl, ⟨⟨rfl, rfl, rfl⟩, rfl⟩, _, rfl⟩
 refine J.nil <| cr <| jv (.agg #[ii i632, ii i641, .slice ad654 l650.length cp655, .slice ad667 l663.length cp668, .slice ad680 l676.length cp681, .slice ad693 l689.length cp694, .slice ad945 l944.length cp946]) (V.ld rfl (Ld.agg (cs := [ii i632, ii i641, .slice ad654 l650.length cp655, .slice ad667 l663.length cp668, .slice ad680 l676.length cp681, .slice ad693 l689.length cp694, .slice ad945 l944.length cp946]) Tryz.underlying34 sz34 rfl (Rd.cls 2 0 rfl rfl))) <| js [ii i632, ii i641, .slice ad654 l650.length cp655, .slice ad667 l663.length cp668, .slice ad680 l676.length cp681, .slice ad693 l689.length cp694, .slice ad945 l944.length cp946] sz34 rfl rfl rfl rfl rfl rfl <| ja (ii 0) rfl <| J.nil ?_
 refine CJ.front 4 rfl <| CJ.by (fun w hs => hs.mono (Row.mono (hK698.trans hk1183))) <| CJ.front 6 rfl <| CJ.by (fun w hs => hs.mono (Row.mono hk1183)) <| CJ.ret ?_
 obtain rfl := si h
 exact ⟨_, _, Res.two rfl ⟨_, _, rfl, Ld.agg (cs := [ii i632, ii i641, .slice ad654 l650.length cp655, .slice ad667 l663.length cp668, .slice ad680 l676.length cp681, .slice ad693 l689.length cp694, .slice ad945 l944.length cp946]) Tryz.underlying34 sz34 rfl (Rd.cls 2 0 rfl rfl)⟩ rfl, ⟨i632, i641, l650, l663, l676, l689, l944, 0, ad654, cp655, ad667, cp668, ad680, cp681, ad693, cp694, ad945, cp946, rfl, rfl, rfl⟩, ((hK672.trans hK698).trans hk1183), fun w hs => (Sep.front 4 rfl (Sep.front 3 rfl (Sep.front 4 rfl (Sep.front 1 rfl (Sep.front 4 rfl (Sep.dropAt 2 rfl (Sep.dropAt 2 rfl (Sep.dropAt 2 rfl hs))))))))⟩
noncomputable def fn_ref17_Bounds_l1 (xa : (List (Int × Int))) (xb : (List (Int × Int))) : Int → Option (Int ⊕ (Unit ⊕ Bool)) := fun (i413 : Int) => cond (decide (i413 < (((xa.length : Nat) : Int)))) ((getI xa i413).bind fun x476 => (getI xb i413).bind fun x485 => cond (!((decide (x476.1 = x485.1)) && ((decide (x476.2 = x485.2))))) (some (.inr ((.inr (false))))) (some (.inl (IntKind.wrap .i64 (i413 + 1))))) (some (.inr ((.inl ()))))
noncomputable def fn_ref17_Bounds (xa : (List (Int × Int))) (xb : (List (Int × Int))) : Option Bool :=
  cond (!decide ((((xa.length : Nat) : Int)) = (((xb.length : Nat) : Int)))) (some (false)) ((loop (fn_ref17_Bounds_l1 xa xb) 0 : Option (Unit ⊕ Bool)).bind fun o => match o with | .inr r => some r | .inl () => some (true))
set_option maxRecDepth 100000 in
set_option maxHeartbeats 4000000 in
theorem ref17_Bounds_ok {K : Hp} {xa : (List (Int × Int))} {xb : (List (Int × Int))} {adxa_0 : Option Addr} {cpxa_0 : Nat} {adxb_0 : Option Addr} {cpxb_0 : Nat} (fxa_0 : Is K (.sl (.cons (.int .i64) (.one (.int .i64)))) [.slice adxa_0 xa.length cpxa_0] xa) (fxb_0 : Is K (.sl (.cons (.int .i64) (.one (.int .i64)))) [.slice adxb_0 xb.length cpxb_0] xb) {r : Bool} (h : fn_ref17_Bounds xa xb = some r) :
    Tr Tryz.prog 36 #[.slice adxa_0 xa.length cpxa_0, .slice adxb_0 xb.length cpxb_0] K [] (fun v K' L' => (∃ (t249 : Bool), t249 = r ∧ .bool t249 = v ∧ L' = []) ∧ K = K') := by
 refine Tr.k <| Tr.of Tryz.func36 rfl Tryz.ntmps36 rfl fun E F => ?_
 unfold fn_ref17_Bounds at h
 refine cr <| ja (.bool false) rfl <| J.nil <| CJ.seq <| CJ.seq <| CJ.region ?_
 refine jm (.slice adxa_0 xa.length cpxa_0) rfl <| jv (ii (((xa.length : Nat) : Int))) (V.len Tryz.underlying26 rfl) <| jm (.slice adxb_0 xb.length cpxb_0) rfl <| jv (ii (((xb.length : Nat) : Int))) (V.len Tryz.underlying26 rfl) <| jv (.bool (!decide ((((xa.length : Nat) : Int)) = (((xb.length : Nat) : Int))))) (V.neq rfl rfl) <| J.nil <| cc rfl h (fun hc250 h => ?_) fun hc250 h => ?_
 · refine cr <| ja (.bool false) rfl <| J.nil <| CJ.ret ?_
   obtain rfl := si h
   exact ⟨_, _, Res.one rfl rfl, ⟨false, rfl, rfl, rfl⟩, (Hp.le_refl _), fun w hs => hs⟩
 refine CJ.skip <| CJ.seq <| cr <| ja (ii 0) rfl <| J.nil ?_
 obtain ⟨o372, ho373, h⟩ := ob h
 refine CJ.joinN (o := o372) (fun s ρ K' L' => () = s ∧ Fits [] ρ ∧ K = K' ∧ F = L') ?_ ?_
 · refine CJ.block <| CJ.loop (fun s ρ K' L' => ∃ (i413 : Int), i413 = s ∧ Fits [(0, .slice adxa_0 xa.length cpxa_0), (1, .slice adxb_0 xb.length cpxb_0), (5, ii i413)] ρ ∧ K = K' ∧ F = L') ho373 ⟨0, rfl, ⟨rfl, rfl, rfl, trivial⟩, rfl, rfl⟩ ?_
   rintro s ρ _ _ r456 ⟨i413, rfl, hf454, rfl, rfl⟩ h453
   obtain ⟨ρ, rfl⟩ := hf454.ex
   refine CJ.seq <| cr <| jm (ii i413) rfl <| jm (.slice adxa_0 xa.length cpxa_0) rfl <| jv (ii (((xa.length : Nat) : Int))) (V.len Tryz.underlying26 rfl) <| jv (.bool (decide (i413 < (((xa.length : Nat) : Int))))) (V.lss rfl rfl) ?_
   refine J.nil <| cc rfl h453 (fun hc457 h453 => ?_) fun hc457 h453 => ?_
   · refine CJ.skip <| CJ.seq <| CJ.block <| CJ.seq <| CJ.mix [] [] [0, 1, 2, 3, 4, 5, 6, 7, 8] [] mixO (by decide +kernel) trivial rfl rfl rfl <| JM.nil <| qm (.slice adxa_0 xa.length cpxa_0) rfl ?_
     refine qm (ii i413) rfl ?_
     obtain ⟨x476, hx477, h453⟩ := ob h453
     obtain ⟨p478, p479, p480⟩ := getI_some hx477
     obtain ⟨b481, o482, e483, a484⟩ := (fxa_0).at p479
     refine qv _ (V.iad Tryz.underlying26 sz95 rfl e483 rfl p478 p480) <| qv (.agg #[ii x476.1, ii x476.2]) (V.ld rfl (Ld.aggK (cs := [ii x476.1, ii x476.2]) Tryz.underlying95 sz95 rfl ⟨((a484).fst).int, (((a484).snd).one).int, trivial⟩ (Hp.le_refl _))) <| qm (.slice adxb_0 xb.length cpxb_0) rfl <| qm (ii i413) rfl ?_
     obtain ⟨x485, hx486, h453⟩ := ob h453
     obtain ⟨p487, p488, p489⟩ := getI_some hx486
     obtain ⟨b490, o491, e492, a493⟩ := (fxb_0).at p488
     refine qv _ (V.iad Tryz.underlying26 sz95 rfl e492 rfl p487 p489) <| qv (.agg #[ii x485.1, ii x485.2]) (V.ld rfl (Ld.aggK (cs := [ii x485.1, ii x485.2]) Tryz.underlying95 sz95 rfl ⟨((a493).fst).int, (((a493).snd).one).int, trivial⟩ (Hp.le_refl _))) <| qv (.bool (!((decide (x476.1 = x485.1)) && ((decide (x476.2 = x485.2)))))) (V.nest eqg95 (EqIn.st (d := 9999) rfl Tryz.underlying95 sih95 (EqFs.cons (by decide) (Ld0.sc sc3 rfl) (Ld0.sc sc3 rfl) (EqIn.int (d := 9998) rfl Tryz.underlying3) (EqFs.last (by decide) (Ld0.sc sc3 rfl) (Ld0.sc sc3 rfl) (EqIn.int (d := 9998) rfl Tryz.underlying3)))) rfl rfl) <| JQ.nil <| J.nil <| cc rfl h453 (fun hc494 h453 => ?_) fun hc494 h453 => ?_
     · refine cr <| ja (.bool false) rfl <| J.nil <| CJ.ret ?_
       obtain rfl := si h453
       refine ⟨nofun, fun e => ?_⟩
       subst e
       refine .inr ⟨nofun, ?_⟩
       obtain rfl := si h
       exact ⟨_, _, Res.one rfl rfl, ⟨false, rfl, rfl, rfl⟩, (Hp.le_refl _), fun w hs => hs⟩
     refine CJ.skip <| CJ.region <| jm (ii i413) rfl <| jv (ii (IntKind.wrap .i64 (i413 + 1))) (V.add rfl rfl) <| ja (ii (IntKind.wrap .i64 (i413 + 1))) rfl <| J.nil ?_
     obtain rfl := si h453
     exact ⟨rfl, ⟨IntKind.wrap .i64 (i413 + 1), rfl, ⟨rfl, rfl, rfl, trivial⟩, rfl, rfl⟩⟩
   refine CJ.exit ?_
   obtain rfl := si h453
   refine ⟨nofun, fun e => ?_⟩
   subst e
   exact .inl ⟨rfl, _, rfl, ⟨rfl, trivial, rfl, rfl⟩⟩
 rintro s ρ _ _ ho495 ⟨rfl, hf496, rfl, rfl⟩
 subst ho495
 obtain ⟨ρ, rfl⟩ := hf496.ex
 refine PJ.done <| cr <| ja (.bool true) rfl <| J.nil <| CJ.ret ?_
 obtain rfl := si h
 exact ⟨_, _, Res.one rfl rfl, ⟨true, rfl, rfl, rfl⟩, (Hp.le_refl _), fun w hs => hs⟩
noncomputable def fn_ref15_Shape_l1 (xa : (List (Int × Bool))) (xb : (List (Int × Bool))) : Int → Option (Int ⊕ (Unit ⊕ Bool)) := fun (i417 : Int) => cond (decide (i417 < (((xa.length : Nat) : Int)))) ((getI xa i417).bind fun x480 => (getI xb i417).bind fun x489 => cond (!(x480.2 == x489.2)) (some (.inr ((.inr (false))))) (some (.inl (IntKind.wrap .i64 (i417 + 1))))) (some (.inr ((.inl ()))))
noncomputable def fn_ref15_Shape (xa : (List (Int × Bool))) (xb : (List (Int × Bool))) : Option Bool :=
  cond (!decide ((((xa.length : Nat) : Int)) = (((xb.length : Nat) : Int)))) (some (false)) ((loop (fn_ref15_Shape_l1 xa xb) 0 : Option (Unit ⊕ Bool)).bind fun o => match o with | .inr r => some r | .inl () => some (true))
set_option maxRecDepth 100000 in
set_option maxHeartbeats 4000000 in
theorem ref15_Shape_ok {K : Hp} {xa : (List (Int × Bool))} {xb : (List (Int × Bool))} {adxa_0 : Option Addr} {cpxa_0 : Nat} {adxb_0 : Option Addr} {cpxb_0 : Nat} (fxa_0 : Is K (.sl (.cons (.int .i64) (.one .bool))) [.slice adxa_0 xa.length cpxa_0] xa) (fxb_0 : Is K (.sl (.cons (.int .i64) (.one .bool))) [.slice adxb_0 xb.length cpxb_0] xb) {r : Bool} (h : fn_ref15_Shape xa xb = some r) :
    Tr Tryz.prog 82 #[.agg #[.slice adxa_0 xa.length cpxa_0], .agg #[.slice adxb_0 xb.length cpxb_0]] K [] (fun v K' L' => (∃ (t251 : Bool), t251 = r ∧ .bool t251 = v ∧ L' = []) ∧ K = K') := by
 refine Tr.k <| Tr.of Tryz.func82 rfl Tryz.ntmps82 rfl fun E F => ?_
 unfold fn_ref15_Shape at h
 refine cr <| jbx [.slice adxa_0 xa.length cpxa_0] rfl rfl fun b252 => jbx [.slice adxb_0 xb.length cpxb_0] rfl rfl fun b253 => ja (.bool false) rfl <| J.nil <| CJ.seq ?_
 refine cr <| jv _ (V.fad Tryz.underlying30 rfl nz28 rfl) <| jv (.slice adxa_0 xa.length cpxa_0) (V.ld rfl (Ld.sc sc28 (Rd.cl 1 rfl rfl))) <| jv (ii (((xa.length : Nat) : Int))) (V.len Tryz.underlying28 rfl) <| jv _ (V.fad Tryz.underlying30 rfl nz28 rfl) <| jv (.slice adxb_0 xb.length cpxb_0) (V.ld rfl (Ld.sc sc28 (Rd.cl 0 rfl rfl))) ?_
 refine jv (ii (((xb.length : Nat) : Int))) (V.len Tryz.underlying28 rfl) <| jv (.bool (!decide ((((xa.length : Nat) : Int)) = (((xb.length : Nat) : Int))))) (V.neq rfl rfl) <| J.nil <| cc rfl h (fun hc254 h => ?_) fun hc254 h => ?_
 · refine cr <| ja (.bool false) rfl <| J.nil <| CJ.ret ?_
   obtain rfl := si h
   exact ⟨_, _, Res.one rfl rfl, ⟨false, rfl, rfl, rfl⟩, (Hp.le_refl _), fun w hs => (Sep.dropAt 0 rfl (Sep.dropAt 0 rfl hs))⟩
 refine CJ.skip <| CJ.seq <| cr <| ja (ii 0) rfl <| J.nil ?_
 obtain ⟨o376, ho377, h⟩ := ob h
 refine CJ.joinN (o := o376) (fun s ρ K' L' => () = s ∧ Fits [] ρ ∧ K = K' ∧ F = L') ?_ ?_
 · refine CJ.block <| CJ.front 1 rfl <| CJ.loop (fun s ρ K' L' => ∃ (i417 : Int), i417 = s ∧ Fits [(2, .pointer (some ⟨b252, 0, none⟩)), (3, .pointer (some ⟨b253, 0, none⟩)), (5, ii i417)] ρ ∧ K = K' ∧ L' = Cl b252 30 [.slice adxa_0 xa.length cpxa_0] :: Cl b253 30 [.slice adxb_0 xb.length cpxb_0] :: F) ho377 ⟨0, rfl, ⟨rfl, rfl, rfl, trivial⟩, rfl, rfl⟩ ?_
   rintro s ρ _ _ r460 ⟨i417, rfl, hf458, rfl, rfl⟩ h457
   obtain ⟨ρ, rfl⟩ := hf458.ex
   refine CJ.seq <| cr <| jm (ii i417) rfl <| jv _ (V.fad Tryz.underlying30 rfl nz28 rfl) <| jv (.slice adxa_0 xa.length cpxa_0) (V.ld rfl (Ld.sc sc28 (Rd.cl 0 rfl rfl))) <| jv (ii (((xa.length : Nat) : Int))) (V.len Tryz.underlying28 rfl) ?_
   refine jv (.bool (decide (i417 < (((xa.length : Nat) : Int))))) (V.lss rfl rfl) <| J.nil <| cc rfl h457 (fun hc461 h457 => ?_) fun hc461 h457 => ?_
   · refine CJ.skip <| CJ.seq <| CJ.block <| CJ.seq <| CJ.mix [Cl b252 30 [.slice adxa_0 xa.length cpxa_0], Cl b253 30 [.slice adxb_0 xb.length cpxb_0]] [] [0, 1, 2, 3, 4, 5, 6, 7, 8, 9, 10, 11, 12] [] mixO (by decide +kernel) ⟨0, rfl, 0, rfl, trivial⟩ rfl rfl rfl <| JM.nil <| qv _ (V.fad Tryz.underlying30 rfl nz28 rfl) ?_
     refine qv (.slice adxa_0 xa.length cpxa_0) (V.ld rfl (Ld.sc sc28 (Rd.cl 0 rfl rfl))) <| qm (ii i417) rfl ?_
     obtain ⟨x480, hx481, h457⟩ := ob h457
     obtain ⟨p482, p483, p484⟩ := getI_some hx481
     obtain ⟨b485, o486, e487, a488⟩ := (fxa_0).at p483
     refine qv _ (V.iad Tryz.underlying28 sz146 rfl e487 rfl p482 p484) <| qv _ (V.fad Tryz.underlying146 rfl nz4 rfl) <| qv (.bool x480.2) (V.ld rfl (Ld.sc sc4 (Rd.k (((a488).snd).one).bool (Hp.le_refl _)))) <| qv _ (V.fad Tryz.underlying30 rfl nz28 rfl) <| qv (.slice adxb_0 xb.length cpxb_0) (V.ld rfl (Ld.sc sc28 (Rd.cl 1 rfl rfl))) <| qm (ii i417) rfl ?_
     obtain ⟨x489, hx490, h457⟩ := ob h457
     obtain ⟨p491, p492, p493⟩ := getI_some hx490
     obtain ⟨b494, o495, e496, a497⟩ := (fxb_0).at p492
     refine qv _ (V.iad Tryz.underlying28 sz146 rfl e496 rfl p491 p493) <| qv _ (V.fad Tryz.underlying146 rfl nz4 rfl) <| qv (.bool x489.2) (V.ld rfl (Ld.sc sc4 (Rd.k (((a497).snd).one).bool (Hp.le_refl _)))) <| qv (.bool (!(x480.2 == x489.2))) (V.neb Tryz.underlying4 rfl rfl) <| JQ.nil <| J.nil <| cc rfl h457 (fun hc498 h457 => ?_) fun hc498 h457 => ?_
     · refine cr <| ja (.bool false) rfl <| J.nil <| CJ.ret ?_
       obtain rfl := si h457
       refine ⟨nofun, fun e => ?_⟩
       subst e
       refine .inr ⟨nofun, ?_⟩
       obtain rfl := si h
       exact ⟨_, _, Res.one rfl rfl, ⟨false, rfl, rfl, rfl⟩, (Hp.le_refl _), fun w hs => (Sep.dropAt 0 rfl (Sep.dropAt 0 rfl hs))⟩
     refine CJ.skip <| CJ.region <| jm (ii i417) rfl <| jv (ii (IntKind.wrap .i64 (i417 + 1))) (V.add rfl rfl) <| ja (ii (IntKind.wrap .i64 (i417 + 1))) rfl <| J.nil ?_
     obtain rfl := si h457
     exact ⟨rfl, ⟨IntKind.wrap .i64 (i417 + 1), rfl, ⟨rfl, rfl, rfl, trivial⟩, rfl, rfl⟩⟩
   refine CJ.dropAt 0 rfl <| CJ.dropAt 0 rfl <| CJ.exit ?_
   obtain rfl := si h457
   refine ⟨nofun, fun e => ?_⟩
   subst e
   exact .inl ⟨rfl, _, rfl, ⟨rfl, trivial, rfl, rfl⟩⟩
 rintro s ρ _ _ ho499 ⟨rfl, hf500, rfl, rfl⟩
 subst ho499
 obtain ⟨ρ, rfl⟩ := hf500.ex
 refine PJ.done <| cr <| ja (.bool true) rfl <| J.nil <| CJ.ret ?_
 obtain rfl := si h
 exact ⟨_, _, Res.one rfl rfl, ⟨true, rfl, rfl, rfl⟩, (Hp.le_refl _), fun w hs => hs⟩
noncomputable def fn_ref15_Same_l1 (xa : (List (Int × Bool))) (xb : (List (Int × Bool))) : Int → Option (Int ⊕ (Unit ⊕ Bool)) := fun (i429 : Int) => cond (decide (i429 < (((xa.length : Nat) : Int)))) ((getI xa i429).bind fun x492 => (getI xb i429).bind fun x501 => cond (!decide (x492.1 = x501.1)) (some (.inr ((.inr (false))))) (some (.inl (IntKind.wrap .i64 (i429 + 1))))) (some (.inr ((.inl ()))))
noncomputable def fn_ref15_Same (xa : (List (Int × Bool))) (xb : (List (Int × Bool))) : Option Bool :=
  (fn_ref15_Shape xa xb).bind fun t262 => cond (!t262) (some (false)) ((loop (fn_ref15_Same_l1 xa xb) 0 : Option (Unit ⊕ Bool)).bind fun o => match o with | .inr r => some r | .inl () => some (true))
set_option maxRecDepth 100000 in
set_option maxHeartbeats 4000000 in
theorem ref15_Same_ok {K : Hp} {xa : (List (Int × Bool))} {xb : (List (Int × Bool))} {adxa_0 : Option Addr} {cpxa_0 : Nat} {adxb_0 : Option Addr} {cpxb_0 : Nat} (fxa_0 : Is K (.sl (.cons (.int .i64) (.one .bool))) [.slice adxa_0 xa.length cpxa_0] xa) (fxb_0 : Is K (.sl (.cons (.int .i64) (.one .bool))) [.slice adxb_0 xb.length cpxb_0] xb) {r : Bool} (h : fn_ref15_Same xa xb = some r) :
    Tr Tryz.prog 38 #[.agg #[.slice adxa_0 xa.length cpxa_0], .agg #[.slice adxb_0 xb.length cpxb_0]] K [] (fun v K' L' => (∃ (t257 : Bool), t257 = r ∧ .bool t257 = v ∧ L' = []) ∧ K = K') := by
 refine Tr.k <| Tr.of Tryz.func38 rfl Tryz.ntmps38 rfl fun E F => ?_
 unfold fn_ref15_Same at h
 refine cr <| jbx [.slice adxa_0 xa.length cpxa_0] rfl rfl fun b258 => jbx [.slice adxb_0 xb.length cpxb_0] rfl rfl fun b259 => ja (.bool false) rfl <| J.nil <| CJ.seq ?_
 refine cr <| jv (.agg #[.slice adxa_0 xa.length cpxa_0]) (V.ld rfl (Ld.agg (cs := [.slice adxa_0 xa.length cpxa_0]) Tryz.underlying30 sz30 rfl (Rd.cls 1 0 rfl rfl))) <| jv (.agg #[.slice adxb_0 xb.length cpxb_0]) (V.ld rfl (Ld.agg (cs := [.slice adxb_0 xb.length cpxb_0]) Tryz.underlying30 sz30 rfl (Rd.cls 0 0 rfl rfl))) ?_
 obtain ⟨r260, hr261, h⟩ := ob h
 refine J.op rfl (A.call (L1 := []) Tryz.call82 rfl (ref15_Shape_ok fxa_0 fxb_0 hr261) rfl rfl) ?_
 rintro _ _ _ ⟨v263, _, rfl, ⟨⟨t262, rfl, rfl, rfl⟩, rfl⟩, _, rfl⟩
 refine jv (.bool (!t262)) (V.not rfl) <| J.nil <| cc rfl h (fun hc266 h => ?_) fun hc266 h => ?_
 · refine cr <| ja (.bool false) rfl <| J.nil <| CJ.ret ?_
   obtain rfl := si h
   exact ⟨_, _, Res.one rfl rfl, ⟨false, rfl, rfl, rfl⟩, (Hp.le_refl _), fun w hs => (Sep.dropAt 0 rfl (Sep.dropAt 0 rfl hs))⟩
 refine CJ.skip <| CJ.seq <| cr <| ja (ii 0) rfl <| J.nil ?_
 obtain ⟨o388, ho389, h⟩ := ob h
 refine CJ.joinN (o := o388) (fun s ρ K' L' => () = s ∧ Fits [] ρ ∧ K = K' ∧ F = L') ?_ ?_
 · refine CJ.block <| CJ.front 1 rfl <| CJ.loop (fun s ρ K' L' => ∃ (i429 : Int), i429 = s ∧ Fits [(2, .pointer (some ⟨b258, 0, none⟩)), (3, .pointer (some ⟨b259, 0, none⟩)), (5, ii i429)] ρ ∧ K = K' ∧ L' = Cl b258 30 [.slice adxa_0 xa.length cpxa_0] :: Cl b259 30 [.slice adxb_0 xb.length cpxb_0] :: F) ho389 ⟨0, rfl, ⟨rfl, rfl, rfl, trivial⟩, rfl, rfl⟩ ?_
   rintro s ρ _ _ r472 ⟨i429, rfl, hf470, rfl, rfl⟩ h469
   obtain ⟨ρ, rfl⟩ := hf470.ex
   refine CJ.seq <| cr <| jm (ii i429) rfl <| jv _ (V.fad Tryz.underlying30 rfl nz28 rfl) <| jv (.slice adxa_0 xa.length cpxa_0) (V.ld rfl (Ld.sc sc28 (Rd.cl 0 rfl rfl))) <| jv (ii (((xa.length : Nat) : Int))) (V.len Tryz.underlying28 rfl) ?_
   refine jv (.bool (decide (i429 < (((xa.length : Nat) : Int))))) (V.lss rfl rfl) <| J.nil <| cc rfl h469 (fun hc473 h469 => ?_) fun hc473 h469 => ?_
   · refine CJ.skip <| CJ.seq <| CJ.block <| CJ.seq <| CJ.mix [Cl b258 30 [.slice adxa_0 xa.length cpxa_0], Cl b259 30 [.slice adxb_0 xb.length cpxb_0]] [] [0, 1, 2, 3, 4, 5, 6, 7, 8, 9, 10, 11, 12] [] mixO (by decide +kernel) ⟨0, rfl, 0, rfl, trivial⟩ rfl rfl rfl <| JM.nil <| qv _ (V.fad Tryz.underlying30 rfl nz28 rfl) ?_
     refine qv (.slice adxa_0 xa.length cpxa_0) (V.ld rfl (Ld.sc sc28 (Rd.cl 0 rfl rfl))) <| qm (ii i429) rfl ?_
     obtain ⟨x492, hx493, h469⟩ := ob h469
     obtain ⟨p494, p495, p496⟩ := getI_some hx493
     obtain ⟨b497, o498, e499, a500⟩ := (fxa_0).at p495
     refine qv _ (V.iad Tryz.underlying28 sz146 rfl e499 rfl p494 p496) <| qv _ (V.fad Tryz.underlying146 rfl nz3 rfl) <| qv (ii x492.1) (V.ld rfl (Ld.sc sc3 (Rd.k ((a500).fst).int (Hp.le_refl _)))) <| qv _ (V.fad Tryz.underlying30 rfl nz28 rfl) <| qv (.slice adxb_0 xb.length cpxb_0) (V.ld rfl (Ld.sc sc28 (Rd.cl 1 rfl rfl))) <| qm (ii i429) rfl ?_
     obtain ⟨x501, hx502, h469⟩ := ob h469
     obtain ⟨p503, p504, p505⟩ := getI_some hx502
     obtain ⟨b506, o507, e508, a509⟩ := (fxb_0).at p504
     refine qv _ (V.iad Tryz.underlying28 sz146 rfl e508 rfl p503 p505) <| qv _ (V.fad Tryz.underlying146 rfl nz3 rfl) <| qv (ii x501.1) (V.ld rfl (Ld.sc sc3 (Rd.k ((a509).fst).int (Hp.le_refl _)))) <| qv (.bool (!decide (x492.1 = x501.1))) (V.neq rfl rfl) <| JQ.nil <| J.nil <| cc rfl h469 (fun hc510 h469 => ?_) fun hc510 h469 => ?_
     · refine cr <| ja (.bool false) rfl <| J.nil <| CJ.ret ?_
       obtain rfl := si h469
       refine ⟨nofun, fun e => ?_⟩
       subst e
       refine .inr ⟨nofun, ?_⟩
       obtain rfl := si h
       exact ⟨_, _, Res.one rfl rfl, ⟨false, rfl, rfl, rfl⟩, (Hp.le_refl _), fun w hs => (Sep.dropAt 0 rfl (Sep.dropAt 0 rfl hs))⟩
     refine CJ.skip <| CJ.region <| jm (ii i429) rfl <| jv (ii (IntKind.wrap .i64 (i429 + 1))) (V.add rfl rfl) <| ja (ii (IntKind.wrap .i64 (i429 + 1))) rfl <| J.nil ?_
     obtain rfl := si h469
     exact ⟨rfl, ⟨IntKind.wrap .i64 (i429 + 1), rfl, ⟨rfl, rfl, rfl, trivial⟩, rfl, rfl⟩⟩
   refine CJ.dropAt 0 rfl <| CJ.dropAt 0 rfl <| CJ.exit ?_
   obtain rfl := si h469
   refine ⟨nofun, fun e => ?_⟩
   subst e
   exact .inl ⟨rfl, _, rfl, ⟨rfl, trivial, rfl, rfl⟩⟩
 rintro s ρ _ _ ho511 ⟨rfl, hf512, rfl, rfl⟩
 subst ho511
 obtain ⟨ρ, rfl⟩ := hf512.ex
 refine PJ.done <| cr <| ja (.bool true) rfl <| J.nil <| CJ.ret ?_
 obtain rfl := si h
 exact ⟨_, _, Res.one rfl rfl, ⟨true, rfl, rfl, rfl⟩, (Hp.le_refl _), fun w hs => hs⟩
noncomputable def fn_ref17_Types_l1 (xa : (List (List (Int × Bool)))) (xb : (List (List (Int × Bool)))) : Int → Option (Int ⊕ (Unit ⊕ Bool)) := fun (i693 : Int) => cond (decide (i693 < (((xa.length : Nat) : Int)))) ((getI xa i693).bind fun x798 => (getI xb i693).bind fun x811 => (fn_ref15_Same x798 x811).bind fun t826 => cond (!t826) (some (.inr ((.inr (false))))) (some (.inl (IntKind.wrap .i64 (i693 + 1))))) (some (.inr ((.inl ()))))
noncomputable def fn_ref17_Types (xa : (List (List (Int × Bool)))) (xb : (List (List (Int × Bool)))) : Option Bool :=
  cond (!decide ((((xa.length : Nat) : Int)) = (((xb.length : Nat) : Int)))) (some (false)) ((loop (fn_ref17_Types_l1 xa xb) 0 : Option (Unit ⊕ Bool)).bind fun o => match o with | .inr r => some r | .inl () => some (true))
set_option maxRecDepth 100000 in
set_option maxHeartbeats 4000000 in
theorem ref17_Types_ok {K : Hp} {xa : (List (List (Int × Bool)))} {xb : (List (List (Int × Bool)))} {adxa_0 : Option Addr} {cpxa_0 : Nat} {adxb_0 : Option Addr} {cpxb_0 : Nat} (fxa_0 : Is K (.sl (.one (.sl (.cons (.int .i64) (.one .bool))))) [.slice adxa_0 xa.length cpxa_0] xa) (fxb_0 : Is K (.sl (.one (.sl (.cons (.int .i64) (.one .bool))))) [.slice adxb_0 xb.length cpxb_0] xb) {r : Bool} (h : fn_ref17_Types xa xb = some r) :
    Tr Tryz.prog 37 #[.slice adxa_0 xa.length cpxa_0, .slice adxb_0 xb.length cpxb_0] K [] (fun v K' L' => (∃ (t417 : Bool), t417 = r ∧ .bool t417 = v ∧ L' = []) ∧ K = K') := by
 refine Tr.k <| Tr.of Tryz.func37 rfl Tryz.ntmps37 rfl fun E F => ?_
 unfold fn_ref17_Types at h
 refine cr <| ja (.bool false) rfl <| J.nil <| CJ.seq <| CJ.seq <| CJ.region ?_
 refine jm (.slice adxa_0 xa.length cpxa_0) rfl <| jv (ii (((xa.length : Nat) : Int))) (V.len Tryz.underlying27 rfl) <| jm (.slice adxb_0 xb.length cpxb_0) rfl <| jv (ii (((xb.length : Nat) : Int))) (V.len Tryz.underlying27 rfl) <| jv (.bool (!decide ((((xa.length : Nat) : Int)) = (((xb.length : Nat) : Int))))) (V.neq rfl rfl) <| J.nil <| cc rfl h (fun hc418 h => ?_) fun hc418 h => ?_
 · refine cr <| ja (.bool false) rfl <| J.nil <| CJ.ret ?_
   obtain rfl := si h
   exact ⟨_, _, Res.one rfl rfl, ⟨false, rfl, rfl, rfl⟩, (Hp.le_refl _), fun w hs => hs⟩
 refine CJ.skip <| CJ.seq <| cr <| ja (ii 0) rfl <| J.nil ?_
 obtain ⟨o624, ho625, h⟩ := ob h
 refine CJ.joinN (o := o624) (fun s ρ K' L' => () = s ∧ Fits [] ρ ∧ K = K' ∧ F = L') ?_ ?_
 · refine CJ.block <| CJ.loop (fun s ρ K' L' => ∃ (i693 : Int), i693 = s ∧ Fits [(0, .slice adxa_0 xa.length cpxa_0), (1, .slice adxb_0 xb.length cpxb_0), (5, ii i693)] ρ ∧ K = K' ∧ F = L') ho625 ⟨0, rfl, ⟨rfl, rfl, rfl, trivial⟩, rfl, rfl⟩ ?_
   rintro s ρ _ _ r764 ⟨i693, rfl, hf762, rfl, rfl⟩ h761
   obtain ⟨ρ, rfl⟩ := hf762.ex
   refine CJ.seq <| cr <| jm (ii i693) rfl <| jm (.slice adxa_0 xa.length cpxa_0) rfl <| jv (ii (((xa.length : Nat) : Int))) (V.len Tryz.underlying27 rfl) <| jv (.bool (decide (i693 < (((xa.length : Nat) : Int))))) (V.lss rfl rfl) ?_
   refine J.nil <| cc rfl h761 (fun hc765 h761 => ?_) fun hc765 h761 => ?_
   · refine CJ.skip <| CJ.seq <| CJ.block <| CJ.seq <| CJ.mix [] [([0, 1, 2, 3, 4, 5, 6, 7], 8)] [9] [] mixO (by decide +kernel) trivial rfl rfl rfl <| JM.cons <| qm (.slice adxa_0 xa.length cpxa_0) rfl ?_
     refine qm (ii i693) rfl ?_
     obtain ⟨x798, hx799, h761⟩ := ob h761
     obtain ⟨p800, p801, p802⟩ := getI_some hx799
     obtain ⟨b803, o804, e805, a806⟩ := (fxa_0).at p801
     refine qv _ (V.iad Tryz.underlying27 sz30 rfl e805 rfl p800 p802) ?_
     obtain ⟨ad807, cp808, c809, f810⟩ := ((a806).one).sl
     refine qv (.agg #[.slice ad807 x798.length cp808]) (V.ld rfl (Ld.aggK (cs := [.slice ad807 x798.length cp808]) Tryz.underlying30 sz30 rfl ⟨c809, trivial⟩ (Hp.le_refl _))) <| qm (.slice adxb_0 xb.length cpxb_0) rfl <| qm (ii i693) rfl ?_
     obtain ⟨x811, hx812, h761⟩ := ob h761
     obtain ⟨p813, p814, p815⟩ := getI_some hx812
     obtain ⟨b816, o817, e818, a819⟩ := (fxb_0).at p814
     refine qv _ (V.iad Tryz.underlying27 sz30 rfl e818 rfl p813 p815) ?_
     obtain ⟨ad820, cp821, c822, f823⟩ := ((a819).one).sl
     refine qv (.agg #[.slice ad820 x811.length cp821]) (V.ld rfl (Ld.aggK (cs := [.slice ad820 x811.length cp821]) Tryz.underlying30 sz30 rfl ⟨c822, trivial⟩ (Hp.le_refl _))) <| JQ.nil ?_
     obtain ⟨r824, hr825, h761⟩ := ob h761
     refine JA.op rfl (A.call (L1 := []) Tryz.call38 rfl (ref15_Same_ok f810 f823 hr825) rfl rfl) ?_
     rintro _ _ _ ⟨v827, _, rfl, ⟨⟨t826, rfl, rfl, rfl⟩, rfl⟩, _, rfl⟩
     refine ⟨fun w hs => Hold.sub (Hp.le_refl _) trivial hs, ?_⟩
     refine JM.nil <| qv (.bool (!t826)) (V.not rfl) <| JQ.nil <| J.nil <| cc rfl h761 (fun hc830 h761 => ?_) fun hc830 h761 => ?_
     · refine cr <| ja (.bool false) rfl <| J.nil <| CJ.ret ?_
       obtain rfl := si h761
       refine ⟨nofun, fun e => ?_⟩
       subst e
       refine .inr ⟨nofun, ?_⟩
       obtain rfl := si h
       exact ⟨_, _, Res.one rfl rfl, ⟨false, rfl, rfl, rfl⟩, (Hp.le_refl _), fun w hs => hs⟩
     refine CJ.skip <| CJ.region <| jm (ii i693) rfl <| jv (ii (IntKind.wrap .i64 (i693 + 1))) (V.add rfl rfl) <| ja (ii (IntKind.wrap .i64 (i693 + 1))) rfl <| J.nil ?_
     obtain rfl := si h761
     exact ⟨rfl, ⟨IntKind.wrap .i64 (i693 + 1), rfl, ⟨rfl, rfl, rfl, trivial⟩, rfl, rfl⟩⟩
   refine CJ.exit ?_
   obtain rfl := si h761
   refine ⟨nofun, fun e => ?_⟩
   subst e
   exact .inl ⟨rfl, _, rfl, ⟨rfl, trivial, rfl, rfl⟩⟩
 rintro s ρ _ _ ho831 ⟨rfl, hf832, rfl, rfl⟩
 subst ho831
 obtain ⟨ρ, rfl⟩ := hf832.ex
 refine PJ.done <| cr <| ja (.bool true) rfl <| J.nil <| CJ.ret ?_
 obtain rfl := si h
 exact ⟨_, _, Res.one rfl rfl, ⟨true, rfl, rfl, rfl⟩, (Hp.le_refl _), fun w hs => hs⟩

noncomputable def fn_ref17_Same (xa : (Int × (List (Int × Int)) × (List (List (Int × Bool))) × (List (Int × Bool)))) (xb : (Int × (List (Int × Int)) × (List (List (Int × Bool))) × (List (Int × Bool)))) : Option Bool :=
  (cond (decide (xa.1 = xb.1)) ((fn_ref17_Bounds xa.2.1 xb.2.1).bind fun t66 => some (t66)) (some (false))).bind fun t61 => (cond (t61) ((fn_ref17_Types xa.2.2.1 xb.2.2.1).bind fun t82 => some (t82)) (some (false))).bind fun t77 => (cond (t77) ((fn_ref15_Same xa.2.2.2 xb.2.2.2).bind fun t98 => some (t98)) (some (false))).bind fun t93 => some (t93)
set_option maxRecDepth 100000 in
set_option maxHeartbeats 4000000 in
theorem ref17_Same_ok {K : Hp} {xa : (Int × (List (Int × Int)) × (List (List (Int × Bool))) × (List (Int × Bool)))} {xb : (Int × (List (Int × Int)) × (List (List (Int × Bool))) × (List (Int × Bool)))} {adxa_1 : Option Addr} {cpxa_1 : Nat} {adxa_2 : Option Addr} {cpxa_2 : Nat} {adxa_3 : Option Addr} {cpxa_3 : Nat} {adxb_1 : Option Addr} {cpxb_1 : Nat} {adxb_2 : Option Addr} {cpxb_2 : Nat} {adxb_3 : Option Addr} {cpxb_3 : Nat} (fxa_1 : Is K (.sl (.cons (.int .i64) (.one (.int .i64)))) [.slice adxa_1 xa.2.1.length cpxa_1] xa.2.1) (fxa_2 : Is K (.sl (.one (.sl (.cons (.int .i64) (.one .bool))))) [.slice adxa_2 xa.2.2.1.length cpxa_2] xa.2.2.1) (fxa_3 : Is K (.sl (.cons (.int .i64) (.one .bool))) [.slice adxa_3 xa.2.2.2.length cpxa_3] xa.2.2.2) (fxb_1 : Is K (.sl (.cons (.int .i64) (.one (.int .i64)))) [.slice adxb_1 xb.2.1.length cpxb_1] xb.2.1) (fxb_2 : Is K (.sl (.one (.sl (.cons (.int .i64) (.one .bool))))) [.slice adxb_2 xb.2.2.1.length cpxb_2] xb.2.2.1) (fxb_3 : Is K (.sl (.cons (.int .i64) (.one .bool))) [.slice adxb_3 xb.2.2.2.length cpxb_3] xb.2.2.2) {r : Bool} (h : fn_ref17_Same xa xb = some r) :
    Tr Tryz.prog 39 #[.agg #[ii xa.1, .slice adxa_1 xa.2.1.length cpxa_1, .slice adxa_2 xa.2.2.1.length cpxa_2, .slice adxa_3 xa.2.2.2.length cpxa_3], .agg #[ii xb.1, .slice adxb_1 xb.2.1.length cpxb_1, .slice adxb_2 xb.2.2.1.length cpxb_2, .slice adxb_3 xb.2.2.2.length cpxb_3]] K [] (fun v K' L' => (∃ (t51 : Bool), t51 = r ∧ .bool t51 = v ∧ L' = []) ∧ K = K') := by
 refine Tr.k <| Tr.of Tryz.func39 rfl Tryz.ntmps39 rfl fun E F => ?_
 unfold fn_ref17_Same at h
 refine cr <| jbx [ii xa.1, .slice adxa_1 xa.2.1.length cpxa_1, .slice adxa_2 xa.2.2.1.length cpxa_2, .slice adxa_3 xa.2.2.2.length cpxa_3] rfl rfl fun b52 => jbx [ii xb.1, .slice adxb_1 xb.2.1.length cpxb_1, .slice adxb_2 xb.2.2.1.length cpxb_2, .slice adxb_3 xb.2.2.2.length cpxb_3] rfl rfl fun b53 => ja (.bool false) rfl <| J.nil <| CJ.seq ?_
 refine CJ.region <| jv _ (V.fad Tryz.underlying63 rfl nz3 rfl) <| jv (ii xa.1) (V.ld rfl (Ld.sc sc3 (Rd.cl 1 rfl rfl))) <| jv _ (V.fad Tryz.underlying63 rfl nz3 rfl) <| jv (ii xb.1) (V.ld rfl (Ld.sc sc3 (Rd.cl 0 rfl rfl))) <| jv (.bool (decide (xa.1 = xb.1))) (V.eql rfl rfl) <| jm (.bool (decide (xa.1 = xb.1))) rfl ?_
 refine J.cut 6 ?_
 obtain ⟨t61, ht62, h⟩ := ob h
 refine jmeet [(16, .bool t61), (2, .pointer (some ⟨b52, 0, none⟩)), (3, .pointer (some ⟨b53, 0, none⟩))] ?_ ?_
 · rcases bt (decide (xa.1 = xb.1)) with hc63 | hc63
   · have ht62 := ct hc63 ht62
     refine J.run rfl rfl rfl hc63 <| jv _ (V.fad Tryz.underlying63 rfl nz26 rfl) <| J.run rfl rfl rfl hc63 <| jv (.slice adxa_1 xa.2.1.length cpxa_1) (V.ld rfl (Ld.sc sc26 (Rd.cl 1 rfl rfl))) <| J.run rfl rfl rfl hc63 <| jv _ (V.fad Tryz.underlying63 rfl nz26 rfl) <| J.run rfl rfl rfl hc63 ?_
     refine jv (.slice adxb_1 xb.2.1.length cpxb_1) (V.ld rfl (Ld.sc sc26 (Rd.cl 0 rfl rfl))) <| J.run rfl rfl rfl hc63 ?_
     obtain ⟨r64, hr65, ht62⟩ := ob ht62
     refine J.op rfl (A.call (L1 := []) Tryz.call36 rfl (ref17_Bounds_ok fxa_1 fxb_1 hr65) rfl rfl) ?_
     rintro _ _ _ ⟨v67, _, rfl, ⟨⟨t66, rfl, rfl, rfl⟩, rfl⟩, _, rfl⟩
     refine jv (.bool t66) (V.pickT rfl hc63 rfl) <| J.nil ?_
     obtain rfl := si ht62
     exact ⟨rfl, ⟨rfl, rfl, rfl, trivial⟩, rfl, rfl⟩
   have ht62 := cf hc63 ht62
   refine J.skip rfl rfl rfl rfl hc63 <| J.skip rfl rfl rfl rfl hc63 <| J.skip rfl rfl rfl rfl hc63 <| J.skip rfl rfl rfl rfl hc63 <| J.skip rfl rfl rfl rfl hc63 <| jv (.bool false) (V.pickF rfl hc63 rfl) <| J.nil ?_
   obtain rfl := si ht62
   exact ⟨rfl, ⟨rfl, rfl, rfl, trivial⟩, rfl, rfl⟩
 intro ρ
 refine jm (.bool t61) rfl <| J.cut 6 ?_
 obtain ⟨t77, ht78, h⟩ := ob h
 refine jmeet [(23, .bool t77), (2, .pointer (some ⟨b52, 0, none⟩)), (3, .pointer (some ⟨b53, 0, none⟩))] ?_ ?_
 · rcases bt (t61) with hc79 | hc79
   · have ht78 := ct hc79 ht78
     refine J.run rfl rfl rfl hc79 <| jv _ (V.fad Tryz.underlying63 rfl nz27 rfl) <| J.run rfl rfl rfl hc79 <| jv (.slice adxa_2 xa.2.2.1.length cpxa_2) (V.ld rfl (Ld.sc sc27 (Rd.cl 1 rfl rfl))) <| J.run rfl rfl rfl hc79 <| jv _ (V.fad Tryz.underlying63 rfl nz27 rfl) <| J.run rfl rfl rfl hc79 ?_
     refine jv (.slice adxb_2 xb.2.2.1.length cpxb_2) (V.ld rfl (Ld.sc sc27 (Rd.cl 0 rfl rfl))) <| J.run rfl rfl rfl hc79 ?_
     obtain ⟨r80, hr81, ht78⟩ := ob ht78
     refine J.op rfl (A.call (L1 := []) Tryz.call37 rfl (ref17_Types_ok fxa_2 fxb_2 hr81) rfl rfl) ?_
     rintro _ _ _ ⟨v83, _, rfl, ⟨⟨t82, rfl, rfl, rfl⟩, rfl⟩, _, rfl⟩
     refine jv (.bool t82) (V.pickT rfl hc79 rfl) <| J.nil ?_
     obtain rfl := si ht78
     exact ⟨rfl, ⟨rfl, rfl, rfl, trivial⟩, rfl, rfl⟩
   have ht78 := cf hc79 ht78
   refine J.skip rfl rfl rfl rfl hc79 <| J.skip rfl rfl rfl rfl hc79 <| J.skip rfl rfl rfl rfl hc79 <| J.skip rfl rfl rfl rfl hc79 <| J.skip rfl rfl rfl rfl hc79 <| jv (.bool false) (V.pickF rfl hc79 rfl) <| J.nil ?_
   obtain rfl := si ht78
   exact ⟨rfl, ⟨rfl, rfl, rfl, trivial⟩, rfl, rfl⟩
 intro ρ
 refine jm (.bool t77) rfl <| J.cut 6 ?_
 obtain ⟨t93, ht94, h⟩ := ob h
 refine jmeet [(30, .bool t93)] ?_ ?_
 · rcases bt (t77) with hc95 | hc95
   · have ht94 := ct hc95 ht94
     refine J.run rfl rfl rfl hc95 <| jv _ (V.fad Tryz.underlying63 rfl nz30 rfl) <| J.run rfl rfl rfl hc95 <| jv (.agg #[.slice adxa_3 xa.2.2.2.length cpxa_3]) (V.ld rfl (Ld.agg (cs := [.slice adxa_3 xa.2.2.2.length cpxa_3]) Tryz.underlying30 sz30 rfl (Rd.cls 1 3 rfl rfl))) <| J.run rfl rfl rfl hc95 <| jv _ (V.fad Tryz.underlying63 rfl nz30 rfl) <| J.run rfl rfl rfl hc95 ?_
     refine jv (.agg #[.slice adxb_3 xb.2.2.2.length cpxb_3]) (V.ld rfl (Ld.agg (cs := [.slice adxb_3 xb.2.2.2.length cpxb_3]) Tryz.underlying30 sz30 rfl (Rd.cls 0 3 rfl rfl))) <| J.run rfl rfl rfl hc95 ?_
     obtain ⟨r96, hr97, ht94⟩ := ob ht94
     refine J.op rfl (A.call (L1 := []) Tryz.call38 rfl (ref15_Same_ok fxa_3 fxb_3 hr97) rfl rfl) ?_
     rintro _ _ _ ⟨v99, _, rfl, ⟨⟨t98, rfl, rfl, rfl⟩, rfl⟩, _, rfl⟩
     refine jv (.bool t98) (V.pickT rfl hc95 rfl) <| J.nil ?_
     obtain rfl := si ht94
     exact ⟨rfl, ⟨rfl, trivial⟩, rfl, rfl⟩
   have ht94 := cf hc95 ht94
   refine J.skip rfl rfl rfl rfl hc95 <| J.skip rfl rfl rfl rfl hc95 <| J.skip rfl rfl rfl rfl hc95 <| J.skip rfl rfl rfl rfl hc95 <| J.skip rfl rfl rfl rfl hc95 <| jv (.bool false) (V.pickF rfl hc95 rfl) <| J.nil ?_
   obtain rfl := si ht94
   exact ⟨rfl, ⟨rfl, trivial⟩, rfl, rfl⟩
 intro ρ
 refine ja (.bool t93) rfl <| J.nil <| CJ.ret ?_
 obtain rfl := si h
 exact ⟨_, _, Res.one rfl rfl, ⟨t93, rfl, rfl, rfl⟩, (Hp.le_refl _), fun w hs => (Sep.dropAt 0 rfl (Sep.dropAt 0 rfl hs))⟩
noncomputable def fn_ref01_Same_l1 (xa : (List Int)) (xb : (List Int)) : Int → Option (Int ⊕ (Unit ⊕ Bool)) := fun (i413 : Int) => cond (decide (i413 < (((xa.length : Nat) : Int)))) ((getI xa i413).bind fun x476 => (getI xb i413).bind fun x485 => cond (!decide (x476 = x485)) (some (.inr ((.inr (false))))) (some (.inl (IntKind.wrap .i64 (i413 + 1))))) (some (.inr ((.inl ()))))
noncomputable def fn_ref01_Same (xa : (List Int)) (xb : (List Int)) : Option Bool :=
  cond (!decide ((((xa.length : Nat) : Int)) = (((xb.length : Nat) : Int)))) (some (false)) ((loop (fn_ref01_Same_l1 xa xb) 0 : Option (Unit ⊕ Bool)).bind fun o => match o with | .inr r => some r | .inl () => some (true))
set_option maxRecDepth 100000 in
set_option maxHeartbeats 4000000 in
theorem ref01_Same_ok {K : Hp} {xa : (List Int)} {xb : (List Int)} {adxa_0 : Option Addr} {cpxa_0 : Nat} {adxb_0 : Option Addr} {cpxb_0 : Nat} (fxa_0 : Is K (.sl (.int .i64)) [.slice adxa_0 xa.length cpxa_0] xa) (fxb_0 : Is K (.sl (.int .i64)) [.slice adxb_0 xb.length cpxb_0] xb) {r : Bool} (h : fn_ref01_Same xa xb = some r) :
    Tr Tryz.prog 83 #[.slice adxa_0 xa.length cpxa_0, .slice adxb_0 xb.length cpxb_0] K [] (fun v K' L' => (∃ (t249 : Bool), t249 = r ∧ .bool t249 = v ∧ L' = []) ∧ K = K') := by
 refine Tr.k <| Tr.of Tryz.func83 rfl Tryz.ntmps83 rfl fun E F => ?_
 unfold fn_ref01_Same at h
 refine cr <| ja (.bool false) rfl <| J.nil <| CJ.seq <| CJ.seq <| CJ.region ?_
 refine jm (.slice adxa_0 xa.length cpxa_0) rfl <| jv (ii (((xa.length : Nat) : Int))) (V.len Tryz.underlying66 rfl) <| jm (.slice adxb_0 xb.length cpxb_0) rfl <| jv (ii (((xb.length : Nat) : Int))) (V.len Tryz.underlying66 rfl) <| jv (.bool (!decide ((((xa.length : Nat) : Int)) = (((xb.length : Nat) : Int))))) (V.neq rfl rfl) <| J.nil <| cc rfl h (fun hc250 h => ?_) fun hc250 h => ?_
 · refine cr <| ja (.bool false) rfl <| J.nil <| CJ.ret ?_
   obtain rfl := si h
   exact ⟨_, _, Res.one rfl rfl, ⟨false, rfl, rfl, rfl⟩, (Hp.le_refl _), fun w hs => hs⟩
 refine CJ.skip <| CJ.seq <| cr <| ja (ii 0) rfl <| J.nil ?_
 obtain ⟨o372, ho373, h⟩ := ob h
 refine CJ.joinN (o := o372) (fun s ρ K' L' => () = s ∧ Fits [] ρ ∧ K = K' ∧ F = L') ?_ ?_
 · refine CJ.block <| CJ.loop (fun s ρ K' L' => ∃ (i413 : Int), i413 = s ∧ Fits [(0, .slice adxa_0 xa.length cpxa_0), (1, .slice adxb_0 xb.length cpxb_0), (5, ii i413)] ρ ∧ K = K' ∧ F = L') ho373 ⟨0, rfl, ⟨rfl, rfl, rfl, trivial⟩, rfl, rfl⟩ ?_
   rintro s ρ _ _ r456 ⟨i413, rfl, hf454, rfl, rfl⟩ h453
   obtain ⟨ρ, rfl⟩ := hf454.ex
   refine CJ.seq <| cr <| jm (ii i413) rfl <| jm (.slice adxa_0 xa.length cpxa_0) rfl <| jv (ii (((xa.length : Nat) : Int))) (V.len Tryz.underlying66 rfl) <| jv (.bool (decide (i413 < (((xa.length : Nat) : Int))))) (V.lss rfl rfl) ?_
   refine J.nil <| cc rfl h453 (fun hc457 h453 => ?_) fun hc457 h453 => ?_
   · refine CJ.skip <| CJ.seq <| CJ.block <| CJ.seq <| CJ.mix [] [] [0, 1, 2, 3, 4, 5, 6, 7, 8] [] mixO (by decide +kernel) trivial rfl rfl rfl <| JM.nil <| qm (.slice adxa_0 xa.length cpxa_0) rfl ?_
     refine qm (ii i413) rfl ?_
     obtain ⟨x476, hx477, h453⟩ := ob h453
     obtain ⟨p478, p479, p480⟩ := getI_some hx477
     obtain ⟨b481, o482, e483, a484⟩ := (fxa_0).at p479
     refine qv _ (V.iad Tryz.underlying66 sz3 rfl e483 rfl p478 p480) <| qv (ii x476) (V.ld rfl (Ld.sc sc3 (Rd.k (a484).int (Hp.le_refl _)))) <| qm (.slice adxb_0 xb.length cpxb_0) rfl <| qm (ii i413) rfl ?_
     obtain ⟨x485, hx486, h453⟩ := ob h453
     obtain ⟨p487, p488, p489⟩ := getI_some hx486
     obtain ⟨b490, o491, e492, a493⟩ := (fxb_0).at p488
     refine qv _ (V.iad Tryz.underlying66 sz3 rfl e492 rfl p487 p489) <| qv (ii x485) (V.ld rfl (Ld.sc sc3 (Rd.k (a493).int (Hp.le_refl _)))) <| qv (.bool (!decide (x476 = x485))) (V.neq rfl rfl) <| JQ.nil <| J.nil <| cc rfl h453 (fun hc494 h453 => ?_) fun hc494 h453 => ?_
     · refine cr <| ja (.bool false) rfl <| J.nil <| CJ.ret ?_
       obtain rfl := si h453
       refine ⟨nofun, fun e => ?_⟩
       subst e
       refine .inr ⟨nofun, ?_⟩
       obtain rfl := si h
       exact ⟨_, _, Res.one rfl rfl, ⟨false, rfl, rfl, rfl⟩, (Hp.le_refl _), fun w hs => hs⟩
     refine CJ.skip <| CJ.region <| jm (ii i413) rfl <| jv (ii (IntKind.wrap .i64 (i413 + 1))) (V.add rfl rfl) <| ja (ii (IntKind.wrap .i64 (i413 + 1))) rfl <| J.nil ?_
     obtain rfl := si h453
     exact ⟨rfl, ⟨IntKind.wrap .i64 (i413 + 1), rfl, ⟨rfl, rfl, rfl, trivial⟩, rfl, rfl⟩⟩
   refine CJ.exit ?_
   obtain rfl := si h453
   refine ⟨nofun, fun e => ?_⟩
   subst e
   exact .inl ⟨rfl, _, rfl, ⟨rfl, trivial, rfl, rfl⟩⟩
 rintro s ρ _ _ ho495 ⟨rfl, hf496, rfl, rfl⟩
 subst ho495
 obtain ⟨ρ, rfl⟩ := hf496.ex
 refine PJ.done <| cr <| ja (.bool true) rfl <| J.nil <| CJ.ret ?_
 obtain rfl := si h
 exact ⟨_, _, Res.one rfl rfl, ⟨true, rfl, rfl, rfl⟩, (Hp.le_refl _), fun w hs => hs⟩

noncomputable def fn_ref19_Same (xa : (Int × Int × Int × (List Int) × (List Int) × (List Int))) (xb : (Int × Int × Int × (List Int) × (List Int) × (List Int))) : Option Bool :=
  (cond (((decide (xa.1 = xb.1)) && (decide (xa.2.1 = xb.2.1))) && (decide (xa.2.2.1 = xb.2.2.1))) ((fn_ref01_Same xa.2.2.2.1 xb.2.2.2.1).bind fun t78 => some (t78)) (some (false))).bind fun t73 => (cond (t73) ((fn_ref01_Same xa.2.2.2.2.1 xb.2.2.2.2.1).bind fun t94 => some (t94)) (some (false))).bind fun t89 => (cond (t89) ((fn_ref01_Same xa.2.2.2.2.2 xb.2.2.2.2.2).bind fun t110 => some (t110)) (some (false))).bind fun t105 => some (t105)
set_option maxRecDepth 100000 in
set_option maxHeartbeats 4000000 in
theorem ref19_Same_ok {K : Hp} {xa : (Int × Int × Int × (List Int) × (List Int) × (List Int))} {xb : (Int × Int × Int × (List Int) × (List Int) × (List Int))} {adxa_3 : Option Addr} {cpxa_3 : Nat} {adxa_4 : Option Addr} {cpxa_4 : Nat} {adxa_5 : Option Addr} {cpxa_5 : Nat} {adxb_3 : Option Addr} {cpxb_3 : Nat} {adxb_4 : Option Addr} {cpxb_4 : Nat} {adxb_5 : Option Addr} {cpxb_5 : Nat} (fxa_3 : Is K (.sl (.int .i64)) [.slice adxa_3 xa.2.2.2.1.length cpxa_3] xa.2.2.2.1) (fxa_4 : Is K (.sl (.int .i64)) [.slice adxa_4 xa.2.2.2.2.1.length cpxa_4] xa.2.2.2.2.1) (fxa_5 : Is K (.sl (.int .i64)) [.slice adxa_5 xa.2.2.2.2.2.length cpxa_5] xa.2.2.2.2.2) (fxb_3 : Is K (.sl (.int .i64)) [.slice adxb_3 xb.2.2.2.1.length cpxb_3] xb.2.2.2.1) (fxb_4 : Is K (.sl (.int .i64)) [.slice adxb_4 xb.2.2.2.2.1.length cpxb_4] xb.2.2.2.2.1) (fxb_5 : Is K (.sl (.int .i64)) [.slice adxb_5 xb.2.2.2.2.2.length cpxb_5] xb.2.2.2.2.2) {r : Bool} (h : fn_ref19_Same xa xb = some r) :
    Tr Tryz.prog 40 #[.agg #[ii xa.1, ii xa.2.1, ii xa.2.2.1, .slice adxa_3 xa.2.2.2.1.length cpxa_3, .slice adxa_4 xa.2.2.2.2.1.length cpxa_4, .slice adxa_5 xa.2.2.2.2.2.length cpxa_5], .agg #[ii xb.1, ii xb.2.1, ii xb.2.2.1, .slice adxb_3 xb.2.2.2.1.length cpxb_3, .slice adxb_4 xb.2.2.2.2.1.length cpxb_4, .slice adxb_5 xb.2.2.2.2.2.length cpxb_5]] K [] (fun v K' L' => (∃ (t57 : Bool), t57 = r ∧ .bool t57 = v ∧ L' = []) ∧ K = K') := by
 refine Tr.k <| Tr.of Tryz.func40 rfl Tryz.ntmps40 rfl fun E F => ?_
 unfold fn_ref19_Same at h
 refine cr <| jbx [ii xa.1, ii xa.2.1, ii xa.2.2.1, .slice adxa_3 xa.2.2.2.1.length cpxa_3, .slice adxa_4 xa.2.2.2.2.1.length cpxa_4, .slice adxa_5 xa.2.2.2.2.2.length cpxa_5] rfl rfl fun b58 => jbx [ii xb.1, ii xb.2.1, ii xb.2.2.1, .slice adxb_3 xb.2.2.2.1.length cpxb_3, .slice adxb_4 xb.2.2.2.2.1.length cpxb_4, .slice adxb_5 xb.2.2.2.2.2.length cpxb_5] rfl rfl fun b59 => ja (.bool false) rfl <| J.nil <| CJ.seq ?_
 refine CJ.region <| jv _ (V.fad Tryz.underlying68 rfl nz3 rfl) <| jv (ii xa.1) (V.ld rfl (Ld.sc sc3 (Rd.cl 1 rfl rfl))) <| jv _ (V.fad Tryz.underlying68 rfl nz3 rfl) <| jv (ii xb.1) (V.ld rfl (Ld.sc sc3 (Rd.cl 0 rfl rfl))) <| jv (.bool (decide (xa.1 = xb.1))) (V.eql rfl rfl) <| jm (.bool (decide (xa.1 = xb.1))) rfl ?_
 refine J.cut 6 <| jmeet [(16, .bool ((decide (xa.1 = xb.1)) && (decide (xa.2.1 = xb.2.1)))), (2, .pointer (some ⟨b58, 0, none⟩)), (3, .pointer (some ⟨b59, 0, none⟩))] ?_ ?_
 · rcases bt (decide (xa.1 = xb.1)) with hc62 | hc62
   · refine J.run rfl rfl rfl hc62 <| jv _ (V.fad Tryz.underlying68 rfl nz3 rfl) <| J.run rfl rfl rfl hc62 <| jv (ii xa.2.1) (V.ld rfl (Ld.sc sc3 (Rd.cl 1 rfl rfl))) <| J.run rfl rfl rfl hc62 <| jv _ (V.fad Tryz.underlying68 rfl nz3 rfl) <| J.run rfl rfl rfl hc62 ?_
     refine jv (ii xb.2.1) (V.ld rfl (Ld.sc sc3 (Rd.cl 0 rfl rfl))) <| J.run rfl rfl rfl hc62 <| jv (.bool (decide (xa.2.1 = xb.2.1))) (V.eql rfl rfl) <| jv (.bool (decide (xa.2.1 = xb.2.1))) (V.pickT rfl hc62 rfl) <| J.nil ?_
     exact ⟨rfl, ⟨(by simp only [hc62]; rfl), rfl, rfl, trivial⟩, rfl, rfl⟩
   refine J.skip rfl rfl rfl rfl hc62 <| J.skip rfl rfl rfl rfl hc62 <| J.skip rfl rfl rfl rfl hc62 <| J.skip rfl rfl rfl rfl hc62 <| J.skip rfl rfl rfl rfl hc62 <| jv (.bool false) (V.pickF rfl hc62 rfl) <| J.nil ?_
   exact ⟨rfl, ⟨(by simp only [hc62]; rfl), rfl, rfl, trivial⟩, rfl, rfl⟩
 intro ρ
 refine jm (.bool ((decide (xa.1 = xb.1)) && (decide (xa.2.1 = xb.2.1)))) rfl <| J.cut 6 <| jmeet [(23, .bool (((decide (xa.1 = xb.1)) && (decide (xa.2.1 = xb.2.1))) && (decide (xa.2.2.1 = xb.2.2.1)))), (2, .pointer (some ⟨b58, 0, none⟩)), (3, .pointer (some ⟨b59, 0, none⟩))] ?_ ?_
 · rcases bt ((decide (xa.1 = xb.1)) && (decide (xa.2.1 = xb.2.1))) with hc65 | hc65
   · refine J.run rfl rfl rfl hc65 <| jv _ (V.fad Tryz.underlying68 rfl nz3 rfl) <| J.run rfl rfl rfl hc65 <| jv (ii xa.2.2.1) (V.ld rfl (Ld.sc sc3 (Rd.cl 1 rfl rfl))) <| J.run rfl rfl rfl hc65 <| jv _ (V.fad Tryz.underlying68 rfl nz3 rfl) <| J.run rfl rfl rfl hc65 ?_
     refine jv (ii xb.2.2.1) (V.ld rfl (Ld.sc sc3 (Rd.cl 0 rfl rfl))) <| J.run rfl rfl rfl hc65 <| jv (.bool (decide (xa.2.2.1 = xb.2.2.1))) (V.eql rfl rfl) <| jv (.bool (decide (xa.2.2.1 = xb.2.2.1))) (V.pickT rfl hc65 rfl) <| J.nil ?_
     exact ⟨rfl, ⟨(by simp only [hc65]; rfl), rfl, rfl, trivial⟩, rfl, rfl⟩
   refine J.skip rfl rfl rfl rfl hc65 <| J.skip rfl rfl rfl rfl hc65 <| J.skip rfl rfl rfl rfl hc65 <| J.skip rfl rfl rfl rfl hc65 <| J.skip rfl rfl rfl rfl hc65 <| jv (.bool false) (V.pickF rfl hc65 rfl) <| J.nil ?_
   exact ⟨rfl, ⟨(by simp only [hc65]; rfl), rfl, rfl, trivial⟩, rfl, rfl⟩
 intro ρ
 refine jm (.bool (((decide (xa.1 = xb.1)) && (decide (xa.2.1 = xb.2.1))) && (decide (xa.2.2.1 = xb.2.2.1)))) rfl <| J.cut 6 ?_
 obtain ⟨t73, ht74, h⟩ := ob h
 refine jmeet [(30, .bool t73), (2, .pointer (some ⟨b58, 0, none⟩)), (3, .pointer (some ⟨b59, 0, none⟩))] ?_ ?_
 · rcases bt (((decide (xa.1 = xb.1)) && (decide (xa.2.1 = xb.2.1))) && (decide (xa.2.2.1 = xb.2.2.1))) with hc75 | hc75
   · have ht74 := ct hc75 ht74
     refine J.run rfl rfl rfl hc75 <| jv _ (V.fad Tryz.underlying68 rfl nz66 rfl) <| J.run rfl rfl rfl hc75 <| jv (.slice adxa_3 xa.2.2.2.1.length cpxa_3) (V.ld rfl (Ld.sc sc66 (Rd.cl 1 rfl rfl))) <| J.run rfl rfl rfl hc75 <| jv _ (V.fad Tryz.underlying68 rfl nz66 rfl) <| J.run rfl rfl rfl hc75 ?_
     refine jv (.slice adxb_3 xb.2.2.2.1.length cpxb_3) (V.ld rfl (Ld.sc sc66 (Rd.cl 0 rfl rfl))) <| J.run rfl rfl rfl hc75 ?_
     obtain ⟨r76, hr77, ht74⟩ := ob ht74
     refine J.op rfl (A.call (L1 := []) Tryz.call83 rfl (ref01_Same_ok fxa_3 fxb_3 hr77) rfl rfl) ?_
     rintro _ _ _ ⟨v79, _, rfl, ⟨⟨t78, rfl, rfl, rfl⟩, rfl⟩, _, rfl⟩
     refine jv (.bool t78) (V.pickT rfl hc75 rfl) <| J.nil ?_
     obtain rfl := si ht74
     exact ⟨rfl, ⟨rfl, rfl, rfl, trivial⟩, rfl, rfl⟩
   have ht74 := cf hc75 ht74
   refine J.skip rfl rfl rfl rfl hc75 <| J.skip rfl rfl rfl rfl hc75 <| J.skip rfl rfl rfl rfl hc75 <| J.skip rfl rfl rfl rfl hc75 <| J.skip rfl rfl rfl rfl hc75 <| jv (.bool false) (V.pickF rfl hc75 rfl) <| J.nil ?_
   obtain rfl := si ht74
   exact ⟨rfl, ⟨rfl, rfl, rfl, trivial⟩, rfl, rfl⟩
 intro ρ
 refine jm (.bool t73) rfl <| J.cut 6 ?_
 obtain ⟨t89, ht90, h⟩ := ob h
 refine jmeet [(37, .bool t89), (2, .pointer (some ⟨b58, 0, none⟩)), (3, .pointer (some ⟨b59, 0, none⟩))] ?_ ?_
 · rcases bt (t73) with hc91 | hc91
   · have ht90 := ct hc91 ht90
     refine J.run rfl rfl rfl hc91 <| jv _ (V.fad Tryz.underlying68 rfl nz66 rfl) <| J.run rfl rfl rfl hc91 <| jv (.slice adxa_4 xa.2.2.2.2.1.length cpxa_4) (V.ld rfl (Ld.sc sc66 (Rd.cl 1 rfl rfl))) <| J.run rfl rfl rfl hc91 <| jv _ (V.fad Tryz.underlying68 rfl nz66 rfl) <| J.run rfl rfl rfl hc91 ?_
     refine jv (.slice adxb_4 xb.2.2.2.2.1.length cpxb_4) (V.ld rfl (Ld.sc sc66 (Rd.cl 0 rfl rfl))) <| J.run rfl rfl rfl hc91 ?_
     obtain ⟨r92, hr93, ht90⟩ := ob ht90
     refine J.op rfl (A.call (L1 := []) Tryz.call83 rfl (ref01_Same_ok fxa_4 fxb_4 hr93) rfl rfl) ?_
     rintro _ _ _ ⟨v95, _, rfl, ⟨⟨t94, rfl, rfl, rfl⟩, rfl⟩, _, rfl⟩
     refine jv (.bool t94) (V.pickT rfl hc91 rfl) <| J.nil ?_
     obtain rfl := si ht90
     exact ⟨rfl, ⟨rfl, rfl, rfl, trivial⟩, rfl, rfl⟩
   have ht90 := cf hc91 ht90
   refine J.skip rfl rfl rfl rfl hc91 <| J.skip rfl rfl rfl rfl hc91 <| J.skip rfl rfl rfl rfl hc91 <| J.skip rfl rfl rfl rfl hc91 <| J.skip rfl rfl rfl rfl hc91 <| jv (.bool false) (V.pickF rfl hc91 rfl) <| J.nil ?_
   obtain rfl := si ht90
   exact ⟨rfl, ⟨rfl, rfl, rfl, trivial⟩, rfl, rfl⟩
 intro ρ
 refine jm (.bool t89) rfl <| J.cut 6 ?_
 obtain ⟨t105, ht106, h⟩ := ob h
 refine jmeet [(44, .bool t105)] ?_ ?_
 · rcases bt (t89) with hc107 | hc107
   · have ht106 := ct hc107 ht106
     refine J.run rfl rfl rfl hc107 <| jv _ (V.fad Tryz.underlying68 rfl nz66 rfl) <| J.run rfl rfl rfl hc107 <| jv (.slice adxa_5 xa.2.2.2.2.2.length cpxa_5) (V.ld rfl (Ld.sc sc66 (Rd.cl 1 rfl rfl))) <| J.run rfl rfl rfl hc107 <| jv _ (V.fad Tryz.underlying68 rfl nz66 rfl) <| J.run rfl rfl rfl hc107 ?_
     refine jv (.slice adxb_5 xb.2.2.2.2.2.length cpxb_5) (V.ld rfl (Ld.sc sc66 (Rd.cl 0 rfl rfl))) <| J.run rfl rfl rfl hc107 ?_
     obtain ⟨r108, hr109, ht106⟩ := ob ht106
     refine J.op rfl (A.call (L1 := []) Tryz.call83 rfl (ref01_Same_ok fxa_5 fxb_5 hr109) rfl rfl) ?_
     rintro _ _ _ ⟨v111, _, rfl, ⟨⟨t110, rfl, rfl, rfl⟩, rfl⟩, _, rfl⟩
     refine jv (.bool t110) (V.pickT rfl hc107 rfl) <| J.nil ?_
     obtain rfl := si ht106
     exact ⟨rfl, ⟨rfl, trivial⟩, rfl, rfl⟩
   have ht106 := cf hc107 ht106
   refine J.skip rfl rfl rfl rfl hc107 <| J.skip rfl rfl rfl rfl hc107 <| J.skip rfl rfl rfl rfl hc107 <| J.skip rfl rfl rfl rfl hc107 <| J.skip rfl rfl rfl rfl hc107 <| jv (.bool false) (V.pickF rfl hc107 rfl) <| J.nil ?_
   obtain rfl := si ht106
   exact ⟨rfl, ⟨rfl, trivial⟩, rfl, rfl⟩
 intro ρ
 refine ja (.bool t105) rfl <| J.nil <| CJ.ret ?_
 obtain rfl := si h
 exact ⟨_, _, Res.one rfl rfl, ⟨t105, rfl, rfl, rfl⟩, (Hp.le_refl _), fun w hs => (Sep.dropAt 0 rfl (Sep.dropAt 0 rfl hs))⟩
noncomputable def fn_ref20_Same_l1 (xa : (Int × Int × (List (Int × Int)) × (List (List (Int × Bool))) × (List (Int × Bool)) × (List (Int × (List (Int × Int)) × (List (List (Int × Bool))) × (List (Int × Bool)))) × (List ((List (Int × Int × Int × Int × Bool)) × (Int × Int × Int × (List Int) × (List Int) × (List Int)))))) (xb : (Int × Int × (List (Int × Int)) × (List (List (Int × Bool))) × (List (Int × Bool)) × (List (Int × (List (Int × Int)) × (List (List (Int × Bool))) × (List (Int × Bool)))) × (List ((List (Int × Int × Int × Int × Bool)) × (Int × Int × Int × (List Int) × (List Int) × (List Int)))))) : Int → Option (Int ⊕ (Unit ⊕ Bool)) := fun (i3544 : Int) => cond (decide (i3544 < (((xa.2.2.2.2.2.1.length : Nat) : Int)))) ((getI xa.2.2.2.2.2.1 i3544).bind fun x3697 => (getI xb.2.2.2.2.2.1 i3544).bind fun x3718 => (fn_ref17_Same (x3697.1, x3697.2.1, x3697.2.2.1, x3697.2.2.2) (x3718.1, x3718.2.1, x3718.2.2.1, x3718.2.2.2)).bind fun t3741 => cond (!t3741) (some (.inr ((.inr (false))))) (some (.inl (IntKind.wrap .i64 (i3544 + 1))))) (some (.inr ((.inl ()))))
noncomputable def fn_ref20_Same_l2 (x5787 : ((List (Int × Int × Int × Int × Bool)) × (Int × Int × Int × (List Int) × (List Int) × (List Int)))) (x5800 : ((List (Int × Int × Int × Int × Bool)) × (Int × Int × Int × (List Int) × (List Int) × (List Int)))) : Int → Option (Int ⊕ (Unit ⊕ (Int ⊕ (Unit ⊕ Bool)))) := fun (i6074 : Int) => cond (decide (i6074 < (((x5787.1.length : Nat) : Int)))) ((getI x5787.1 i6074).bind fun x6137 => (getI x5800.1 i6074).bind fun x6146 => cond (!((decide (x6137.1 = x6146.1)) && ((decide (x6137.2.1 = x6146.2.1)) && ((decide (x6137.2.2.1 = x6146.2.2.1)) && ((decide (x6137.2.2.2.1 = x6146.2.2.2.1)) && (x6137.2.2.2.2 == x6146.2.2.2.2)))))) (some (.inr ((.inr (.inr ((.inr (false)))))))) (some (.inl (IntKind.wrap .i64 (i6074 + 1))))) (some (.inr ((.inl ()))))
noncomputable def fn_ref20_Same_l3 (xa : (Int × Int × (List (Int × Int)) × (List (List (Int × Bool))) × (List (Int × Bool)) × (List (Int × (List (Int × Int)) × (List (List (Int × Bool))) × (List (Int × Bool)))) × (List ((List (Int × Int × Int × Int × Bool)) × (Int × Int × Int × (List Int) × (List Int) × (List Int)))))) (xb : (Int × Int × (List (Int × Int)) × (List (List (Int × Bool))) × (List (Int × Bool)) × (List (Int × (List (Int × Int)) × (List (List (Int × Bool))) × (List (Int × Bool)))) × (List ((List (Int × Int × Int × Int × Bool)) × (Int × Int × Int × (List Int) × (List Int) × (List Int)))))) : Int → Option (Int ⊕ (Unit ⊕ Bool)) := fun (i5355 : Int) => cond (decide (i5355 < (((xa.2.2.2.2.2.2.length : Nat) : Int)))) ((getI xa.2.2.2.2.2.2 i5355).bind fun x5787 => (getI xb.2.2.2.2.2.2 i5355).bind fun x5800 => cond (!decide ((((x5787.1.length : Nat) : Int)) = (((x5800.1.length : Nat) : Int)))) (some (.inr ((.inr (false))))) ((getI xa.2.2.2.2.2.2 i5355).bind fun x5863 => (getI xb.2.2.2.2.2.2 i5355).bind fun x5884 => (fn_ref19_Same (x5863.2.1, x5863.2.2.1, x5863.2.2.2.1, x5863.2.2.2.2.1, x5863.2.2.2.2.2.1, x5863.2.2.2.2.2.2) (x5884.2.1, x5884.2.2.1, x5884.2.2.2.1, x5884.2.2.2.2.1, x5884.2.2.2.2.2.1, x5884.2.2.2.2.2.2)).bind fun t5907 => cond (!t5907) (some (.inr ((.inr (false))))) ((loop (fn_ref20_Same_l2 x5787 x5800) 0 : Option (Unit ⊕ (Int ⊕ (Unit ⊕ Bool)))).bind fun o => match o with | .inr r => some r | .inl () => some (.inl (IntKind.wrap .i64 (i5355 + 1)))))) (some (.inr ((.inl ()))))
noncomputable def fn_ref20_Same (xa : (Int × Int × (List (Int × Int)) × (List (List (Int × Bool))) × (List (Int × Bool)) × (List (Int × (List (Int × Int)) × (List (List (Int × Bool))) × (List (Int × Bool)))) × (List ((List (Int × Int × Int × Int × Bool)) × (Int × Int × Int × (List Int) × (List Int) × (List Int)))))) (xb : (Int × Int × (List (Int × Int)) × (List (List (Int × Bool))) × (List (Int × Bool)) × (List (Int × (List (Int × Int)) × (List (List (Int × Bool))) × (List (Int × Bool)))) × (List ((List (Int × Int × Int × Int × Bool)) × (Int × Int × Int × (List Int) × (List Int) × (List Int)))))) : Option Bool :=
  (cond ((!decide (xa.1 = xb.1)) || (!decide (xa.2.1 = xb.2.1))) (some (true)) ((fn_ref17_Bounds xa.2.2.1 xb.2.2.1).bind fun t3099 => some (!t3099))).bind fun t3094 => (cond (t3094) (some (true)) ((fn_ref17_Types xa.2.2.2.1 xb.2.2.2.1).bind fun t3115 => some (!t3115))).bind fun t3110 => (cond (t3110) (some (true)) ((fn_ref15_Same xa.2.2.2.2.1 xb.2.2.2.2.1).bind fun t3131 => some (!t3131))).bind fun t3126 => cond ((t3126 || (!decide ((((xa.2.2.2.2.2.1.length : Nat) : Int)) = (((xb.2.2.2.2.2.1.length : Nat) : Int))))) || (!decide ((((xa.2.2.2.2.2.2.length : Nat) : Int)) = (((xb.2.2.2.2.2.2.length : Nat) : Int))))) (some (false)) ((loop (fn_ref20_Same_l1 xa xb) 0 : Option (Unit ⊕ Bool)).bind fun o => match o with | .inr r => some r | .inl () => (loop (fn_ref20_Same_l3 xa xb) 0 : Option (Unit ⊕ Bool)).bind fun o => match o with | .inr r => some r | .inl () => some (true))
set_option maxRecDepth 100000 in
set_option maxHeartbeats 4000000 in
theorem ref20_Same_ok {K : Hp} {xa : (Int × Int × (List (Int × Int)) × (List (List (Int × Bool))) × (List (Int × Bool)) × (List (Int × (List (Int × Int)) × (List (List (Int × Bool))) × (List (Int × Bool)))) × (List ((List (Int × Int × Int × Int × Bool)) × (Int × Int × Int × (List Int) × (List Int) × (List Int)))))} {xb : (Int × Int × (List (Int × Int)) × (List (List (Int × Bool))) × (List (Int × Bool)) × (List (Int × (List (Int × Int)) × (List (List (Int × Bool))) × (List (Int × Bool)))) × (List ((List (Int × Int × Int × Int × Bool)) × (Int × Int × Int × (List Int) × (List Int) × (List Int)))))} {adxa_2 : Option Addr} {cpxa_2 : Nat} {adxa_3 : Option Addr} {cpxa_3 : Nat} {adxa_4 : Option Addr} {cpxa_4 : Nat} {adxa_5 : Option Addr} {cpxa_5 : Nat} {adxa_6 : Option Addr} {cpxa_6 : Nat} {adxb_2 : Option Addr} {cpxb_2 : Nat} {adxb_3 : Option Addr} {cpxb_3 : Nat} {adxb_4 : Option Addr} {cpxb_4 : Nat} {adxb_5 : Option Addr} {cpxb_5 : Nat} {adxb_6 : Option Addr} {cpxb_6 : Nat} (fxa_2 : Is K (.sl (.cons (.int .i64) (.one (.int .i64)))) [.slice adxa_2 xa.2.2.1.length cpxa_2] xa.2.2.1) (fxa_3 : Is K (.sl (.one (.sl (.cons (.int .i64) (.one .bool))))) [.slice adxa_3 xa.2.2.2.1.length cpxa_3] xa.2.2.2.1) (fxa_4 : Is K (.sl (.cons (.int .i64) (.one .bool))) [.slice adxa_4 xa.2.2.2.2.1.length cpxa_4] xa.2.2.2.2.1) (fxa_5 : Is K (.sl (.cons (.int .i64) (.cons (.sl (.cons (.int .i64) (.one (.int .i64)))) (.cons (.sl (.one (.sl (.cons (.int .i64) (.one .bool))))) (.one (.one (.sl (.cons (.int .i64) (.one .bool))))))))) [.slice adxa_5 xa.2.2.2.2.2.1.length cpxa_5] xa.2.2.2.2.2.1) (fxa_6 : Is K (.sl (.cons (.sl (.cons (.int .i64) (.cons (.int .i64) (.cons (.int .i64) (.cons (.int .i64) (.one .bool)))))) (.one (.cons (.int .i64) (.cons (.int .i64) (.cons (.int .i64) (.cons (.sl (.int .i64)) (.cons (.sl (.int .i64)) (.one (.sl (.int .i64))))))))))) [.slice adxa_6 xa.2.2.2.2.2.2.length cpxa_6] xa.2.2.2.2.2.2) (fxb_2 : Is K (.sl (.cons (.int .i64) (.one (.int .i64)))) [.slice adxb_2 xb.2.2.1.length cpxb_2] xb.2.2.1) (fxb_3 : Is K (.sl (.one (.sl (.cons (.int .i64) (.one .bool))))) [.slice adxb_3 xb.2.2.2.1.length cpxb_3] xb.2.2.2.1) (fxb_4 : Is K (.sl (.cons (.int .i64) (.one .bool))) [.slice adxb_4 xb.2.2.2.2.1.length cpxb_4] xb.2.2.2.2.1) (fxb_5 : Is K (.sl (.cons (.int .i64) (.cons (.sl (.cons (.int .i64) (.one (.int .i64)))) (.cons (.sl (.one (.sl (.cons (.int .i64) (.one .bool))))) (.one (.one (.sl (.cons (.int .i64) (.one .bool))))))))) [.slice adxb_5 xb.2.2.2.2.2.1.length cpxb_5] xb.2.2.2.2.2.1) (fxb_6 : Is K (.sl (.cons (.sl (.cons (.int .i64) (.cons (.int .i64) (.cons (.int .i64) (.cons (.int .i64) (.one .bool)))))) (.one (.cons (.int .i64) (.cons (.int .i64) (.cons (.int .i64) (.cons (.sl (.int .i64)) (.cons (.sl (.int .i64)) (.one (.sl (.int .i64))))))))))) [.slice adxb_6 xb.2.2.2.2.2.2.length cpxb_6] xb.2.2.2.2.2.2) {r : Bool} (h : fn_ref20_Same xa xb = some r) :
    Tr Tryz.prog 8 #[.agg #[ii xa.1, ii xa.2.1, .slice adxa_2 xa.2.2.1.length cpxa_2, .slice adxa_3 xa.2.2.2.1.length cpxa_3, .slice adxa_4 xa.2.2.2.2.1.length cpxa_4, .slice adxa_5 xa.2.2.2.2.2.1.length cpxa_5, .slice adxa_6 xa.2.2.2.2.2.2.length cpxa_6], .agg #[ii xb.1, ii xb.2.1, .slice adxb_2 xb.2.2.1.length cpxb_2, .slice adxb_3 xb.2.2.2.1.length cpxb_3, .slice adxb_4 xb.2.2.2.2.1.length cpxb_4, .slice adxb_5 xb.2.2.2.2.2.1.length cpxb_5, .slice adxb_6 xb.2.2.2.2.2.2.length cpxb_6]] K [] (fun v K' L' => (∃ (t3081 : Bool), t3081 = r ∧ .bool t3081 = v ∧ L' = []) ∧ K = K') := by
 refine Tr.k <| Tr.of Tryz.func8 rfl Tryz.ntmps8 rfl fun E F => ?_
 unfold fn_ref20_Same at h
 refine cr <| jbx [ii xa.1, ii xa.2.1, .slice adxa_2 xa.2.2.1.length cpxa_2, .slice adxa_3 xa.2.2.2.1.length cpxa_3, .slice adxa_4 xa.2.2.2.2.1.length cpxa_4, .slice adxa_5 xa.2.2.2.2.2.1.length cpxa_5, .slice adxa_6 xa.2.2.2.2.2.2.length cpxa_6] rfl rfl fun b3082 => jbx [ii xb.1, ii xb.2.1, .slice adxb_2 xb.2.2.1.length cpxb_2, .slice adxb_3 xb.2.2.2.1.length cpxb_3, .slice adxb_4 xb.2.2.2.2.1.length cpxb_4, .slice adxb_5 xb.2.2.2.2.2.1.length cpxb_5, .slice adxb_6 xb.2.2.2.2.2.2.length cpxb_6] rfl rfl fun b3083 => ja (.bool false) rfl <| J.nil <| CJ.seq ?_
 refine cr <| jv _ (V.fad Tryz.underlying34 rfl nz3 rfl) <| jv (ii xa.1) (V.ld rfl (Ld.sc sc3 (Rd.cl 1 rfl rfl))) <| jv _ (V.fad Tryz.underlying34 rfl nz3 rfl) <| jv (ii xb.1) (V.ld rfl (Ld.sc sc3 (Rd.cl 0 rfl rfl))) <| jv (.bool (!decide (xa.1 = xb.1))) (V.neq rfl rfl) ?_
 refine jm (.bool (!decide (xa.1 = xb.1))) rfl <| J.cut 6 <| jmeet [(21, .bool ((!decide (xa.1 = xb.1)) || (!decide (xa.2.1 = xb.2.1)))), (2, .pointer (some ⟨b3082, 0, none⟩)), (3, .pointer (some ⟨b3083, 0, none⟩))] ?_ ?_
 · rcases bt (!decide (xa.1 = xb.1)) with hc3086 | hc3086
   · refine J.skip rfl rfl rfl rfl hc3086 <| J.skip rfl rfl rfl rfl hc3086 <| J.skip rfl rfl rfl rfl hc3086 <| J.skip rfl rfl rfl rfl hc3086 <| J.skip rfl rfl rfl rfl hc3086 <| jv (.bool true) (V.pickT rfl hc3086 rfl) <| J.nil ?_
     exact ⟨rfl, ⟨(by simp only [hc3086]; rfl), rfl, rfl, trivial⟩, rfl, rfl⟩
   refine J.run rfl rfl rfl hc3086 <| jv _ (V.fad Tryz.underlying34 rfl nz3 rfl) <| J.run rfl rfl rfl hc3086 <| jv (ii xa.2.1) (V.ld rfl (Ld.sc sc3 (Rd.cl 1 rfl rfl))) <| J.run rfl rfl rfl hc3086 <| jv _ (V.fad Tryz.underlying34 rfl nz3 rfl) <| J.run rfl rfl rfl hc3086 ?_
   refine jv (ii xb.2.1) (V.ld rfl (Ld.sc sc3 (Rd.cl 0 rfl rfl))) <| J.run rfl rfl rfl hc3086 <| jv (.bool (!decide (xa.2.1 = xb.2.1))) (V.neq rfl rfl) <| jv (.bool (!decide (xa.2.1 = xb.2.1))) (V.pickF rfl hc3086 rfl) <| J.nil ?_
   exact ⟨rfl, ⟨(by simp only [hc3086]; rfl), rfl, rfl, trivial⟩, rfl, rfl⟩
 intro ρ
 refine jm (.bool ((!decide (xa.1 = xb.1)) || (!decide (xa.2.1 = xb.2.1)))) rfl <| J.cut 7 ?_
 obtain ⟨t3094, ht3095, h⟩ := ob h
 refine jmeet [(29, .bool t3094), (2, .pointer (some ⟨b3082, 0, none⟩)), (3, .pointer (some ⟨b3083, 0, none⟩))] ?_ ?_
 · rcases bt ((!decide (xa.1 = xb.1)) || (!decide (xa.2.1 = xb.2.1))) with hc3096 | hc3096
   · have ht3095 := ct hc3096 ht3095
     refine J.skip rfl rfl rfl rfl hc3096 <| J.skip rfl rfl rfl rfl hc3096 <| J.skip rfl rfl rfl rfl hc3096 <| J.skip rfl rfl rfl rfl hc3096 <| J.skip rfl rfl rfl rfl hc3096 <| J.skip rfl rfl rfl rfl hc3096 <| jv (.bool true) (V.pickT rfl hc3096 rfl) ?_
     refine J.nil ?_
     obtain rfl := si ht3095
     exact ⟨rfl, ⟨rfl, rfl, rfl, trivial⟩, rfl, rfl⟩
   have ht3095 := cf hc3096 ht3095
   refine J.run rfl rfl rfl hc3096 <| jv _ (V.fad Tryz.underlying34 rfl nz26 rfl) <| J.run rfl rfl rfl hc3096 <| jv (.slice adxa_2 xa.2.2.1.length cpxa_2) (V.ld rfl (Ld.sc sc26 (Rd.cl 1 rfl rfl))) <| J.run rfl rfl rfl hc3096 <| jv _ (V.fad Tryz.underlying34 rfl nz26 rfl) <| J.run rfl rfl rfl hc3096 ?_
   refine jv (.slice adxb_2 xb.2.2.1.length cpxb_2) (V.ld rfl (Ld.sc sc26 (Rd.cl 0 rfl rfl))) <| J.run rfl rfl rfl hc3096 ?_
   obtain ⟨r3097, hr3098, ht3095⟩ := ob ht3095
   refine J.op rfl (A.call (L1 := []) Tryz.call36 rfl (ref17_Bounds_ok fxa_2 fxb_2 hr3098) rfl rfl) ?_
   rintro _ _ _ ⟨v3100, _, rfl, ⟨⟨t3099, rfl, rfl, rfl⟩, rfl⟩, _, rfl⟩
   refine J.run rfl rfl rfl hc3096 <| jv (.bool (!t3099)) (V.not rfl) <| jv (.bool (!t3099)) (V.pickF rfl hc3096 rfl) <| J.nil ?_
   obtain rfl := si ht3095
   exact ⟨rfl, ⟨rfl, rfl, rfl, trivial⟩, rfl, rfl⟩
 intro ρ
 refine jm (.bool t3094) rfl <| J.cut 7 ?_
 obtain ⟨t3110, ht3111, h⟩ := ob h
 refine jmeet [(37, .bool t3110), (2, .pointer (some ⟨b3082, 0, none⟩)), (3, .pointer (some ⟨b3083, 0, none⟩))] ?_ ?_
 · rcases bt (t3094) with hc3112 | hc3112
   · have ht3111 := ct hc3112 ht3111
     refine J.skip rfl rfl rfl rfl hc3112 <| J.skip rfl rfl rfl rfl hc3112 <| J.skip rfl rfl rfl rfl hc3112 <| J.skip rfl rfl rfl rfl hc3112 <| J.skip rfl rfl rfl rfl hc3112 <| J.skip rfl rfl rfl rfl hc3112 <| jv (.bool true) (V.pickT rfl hc3112 rfl) ?_
     refine J.nil ?_
     obtain rfl := si ht3111
     exact ⟨rfl, ⟨rfl, rfl, rfl, trivial⟩, rfl, rfl⟩
   have ht3111 := cf hc3112 ht3111
   refine J.run rfl rfl rfl hc3112 <| jv _ (V.fad Tryz.underlying34 rfl nz27 rfl) <| J.run rfl rfl rfl hc3112 <| jv (.slice adxa_3 xa.2.2.2.1.length cpxa_3) (V.ld rfl (Ld.sc sc27 (Rd.cl 1 rfl rfl))) <| J.run rfl rfl rfl hc3112 <| jv _ (V.fad Tryz.underlying34 rfl nz27 rfl) <| J.run rfl rfl rfl hc3112 ?_
   refine jv (.slice adxb_3 xb.2.2.2.1.length cpxb_3) (V.ld rfl (Ld.sc sc27 (Rd.cl 0 rfl rfl))) <| J.run rfl rfl rfl hc3112 ?_
   obtain ⟨r3113, hr3114, ht3111⟩ := ob ht3111
   refine J.op rfl (A.call (L1 := []) Tryz.call37 rfl (ref17_Types_ok fxa_3 fxb_3 hr3114) rfl rfl) ?_
   rintro _ _ _ ⟨v3116, _, rfl, ⟨⟨t3115, rfl, rfl, rfl⟩, rfl⟩, _, rfl⟩
   refine J.run rfl rfl rfl hc3112 <| jv (.bool (!t3115)) (V.not rfl) <| jv (.bool (!t3115)) (V.pickF rfl hc3112 rfl) <| J.nil ?_
   obtain rfl := si ht3111
   exact ⟨rfl, ⟨rfl, rfl, rfl, trivial⟩, rfl, rfl⟩
 intro ρ
 refine jm (.bool t3110) rfl <| J.cut 7 ?_
 obtain ⟨t3126, ht3127, h⟩ := ob h
 refine jmeet [(45, .bool t3126), (2, .pointer (some ⟨b3082, 0, none⟩)), (3, .pointer (some ⟨b3083, 0, none⟩))] ?_ ?_
 · rcases bt (t3110) with hc3128 | hc3128
   · have ht3127 := ct hc3128 ht3127
     refine J.skip rfl rfl rfl rfl hc3128 <| J.skip rfl rfl rfl rfl hc3128 <| J.skip rfl rfl rfl rfl hc3128 <| J.skip rfl rfl rfl rfl hc3128 <| J.skip rfl rfl rfl rfl hc3128 <| J.skip rfl rfl rfl rfl hc3128 <| jv (.bool true) (V.pickT rfl hc3128 rfl) ?_
     refine J.nil ?_
     obtain rfl := si ht3127
     exact ⟨rfl, ⟨rfl, rfl, rfl, trivial⟩, rfl, rfl⟩
   have ht3127 := cf hc3128 ht3127
   refine J.run rfl rfl rfl hc3128 <| jv _ (V.fad Tryz.underlying34 rfl nz30 rfl) <| J.run rfl rfl rfl hc3128 <| jv (.agg #[.slice adxa_4 xa.2.2.2.2.1.length cpxa_4]) (V.ld rfl (Ld.agg (cs := [.slice adxa_4 xa.2.2.2.2.1.length cpxa_4]) Tryz.underlying30 sz30 rfl (Rd.cls 1 4 rfl rfl))) <| J.run rfl rfl rfl hc3128 <| jv _ (V.fad Tryz.underlying34 rfl nz30 rfl) <| J.run rfl rfl rfl hc3128 ?_
   refine jv (.agg #[.slice adxb_4 xb.2.2.2.2.1.length cpxb_4]) (V.ld rfl (Ld.agg (cs := [.slice adxb_4 xb.2.2.2.2.1.length cpxb_4]) Tryz.underlying30 sz30 rfl (Rd.cls 0 4 rfl rfl))) <| J.run rfl rfl rfl hc3128 ?_
   obtain ⟨r3129, hr3130, ht3127⟩ := ob ht3127
   refine J.op rfl (A.call (L1 := []) Tryz.call38 rfl (ref15_Same_ok fxa_4 fxb_4 hr3130) rfl rfl) ?_
   rintro _ _ _ ⟨v3132, _, rfl, ⟨⟨t3131, rfl, rfl, rfl⟩, rfl⟩, _, rfl⟩
   refine J.run rfl rfl rfl hc3128 <| jv (.bool (!t3131)) (V.not rfl) <| jv (.bool (!t3131)) (V.pickF rfl hc3128 rfl) <| J.nil ?_
   obtain rfl := si ht3127
   exact ⟨rfl, ⟨rfl, rfl, rfl, trivial⟩, rfl, rfl⟩
 intro ρ
 refine jm (.bool t3126) rfl <| J.cut 8 <| jmeet [(54, .bool (t3126 || (!decide ((((xa.2.2.2.2.2.1.length : Nat) : Int)) = (((xb.2.2.2.2.2.1.length : Nat) : Int)))))), (2, .pointer (some ⟨b3082, 0, none⟩)), (3, .pointer (some ⟨b3083, 0, none⟩))] ?_ ?_
 · rcases bt (t3126) with hc3137 | hc3137
   · refine J.skip rfl rfl rfl rfl hc3137 <| J.skip rfl rfl rfl rfl hc3137 <| J.skip rfl rfl rfl rfl hc3137 <| J.skip rfl rfl rfl rfl hc3137 <| J.skip rfl rfl rfl rfl hc3137 <| J.skip rfl rfl rfl rfl hc3137 <| J.skip rfl rfl rfl rfl hc3137 ?_
     refine jv (.bool true) (V.pickT rfl hc3137 rfl) <| J.nil ?_
     exact ⟨rfl, ⟨(by simp only [hc3137]; rfl), rfl, rfl, trivial⟩, rfl, rfl⟩
   refine J.run rfl rfl rfl hc3137 <| jv _ (V.fad Tryz.underlying34 rfl nz31 rfl) <| J.run rfl rfl rfl hc3137 <| jv (.slice adxa_5 xa.2.2.2.2.2.1.length cpxa_5) (V.ld rfl (Ld.sc sc31 (Rd.cl 1 rfl rfl))) <| J.run rfl rfl rfl hc3137 <| jv (ii (((xa.2.2.2.2.2.1.length : Nat) : Int))) (V.len Tryz.underlying31 rfl) <| J.run rfl rfl rfl hc3137 ?_
   refine jv _ (V.fad Tryz.underlying34 rfl nz31 rfl) <| J.run rfl rfl rfl hc3137 <| jv (.slice adxb_5 xb.2.2.2.2.2.1.length cpxb_5) (V.ld rfl (Ld.sc sc31 (Rd.cl 0 rfl rfl))) <| J.run rfl rfl rfl hc3137 <| jv (ii (((xb.2.2.2.2.2.1.length : Nat) : Int))) (V.len Tryz.underlying31 rfl) <| J.run rfl rfl rfl hc3137 <| jv (.bool (!decide ((((xa.2.2.2.2.2.1.length : Nat) : Int)) = (((xb.2.2.2.2.2.1.length : Nat) : Int))))) (V.neq rfl rfl) ?_
   refine jv (.bool (!decide ((((xa.2.2.2.2.2.1.length : Nat) : Int)) = (((xb.2.2.2.2.2.1.length : Nat) : Int))))) (V.pickF rfl hc3137 rfl) <| J.nil ?_
   exact ⟨rfl, ⟨(by simp only [hc3137]; rfl), rfl, rfl, trivial⟩, rfl, rfl⟩
 intro ρ
 refine jm (.bool (t3126 || (!decide ((((xa.2.2.2.2.2.1.length : Nat) : Int)) = (((xb.2.2.2.2.2.1.length : Nat) : Int)))))) rfl <| J.cut 8 <| jmeet [(63, .bool ((t3126 || (!decide ((((xa.2.2.2.2.2.1.length : Nat) : Int)) = (((xb.2.2.2.2.2.1.length : Nat) : Int))))) || (!decide ((((xa.2.2.2.2.2.2.length : Nat) : Int)) = (((xb.2.2.2.2.2.2.length : Nat) : Int)))))), (2, .pointer (some ⟨b3082, 0, none⟩)), (3, .pointer (some ⟨b3083, 0, none⟩))] ?_ ?_
 · rcases bt (t3126 || (!decide ((((xa.2.2.2.2.2.1.length : Nat) : Int)) = (((xb.2.2.2.2.2.1.length : Nat) : Int))))) with hc3140 | hc3140
   · refine J.skip rfl rfl rfl rfl hc3140 <| J.skip rfl rfl rfl rfl hc3140 <| J.skip rfl rfl rfl rfl hc3140 <| J.skip rfl rfl rfl rfl hc3140 <| J.skip rfl rfl rfl rfl hc3140 <| J.skip rfl rfl rfl rfl hc3140 <| J.skip rfl rfl rfl rfl hc3140 ?_
     refine jv (.bool true) (V.pickT rfl hc3140 rfl) <| J.nil ?_
     exact ⟨rfl, ⟨(by simp only [hc3140]; rfl), rfl, rfl, trivial⟩, rfl, rfl⟩
   refine J.run rfl rfl rfl hc3140 <| jv _ (V.fad Tryz.underlying34 rfl nz32 rfl) <| J.run rfl rfl rfl hc3140 <| jv (.slice adxa_6 xa.2.2.2.2.2.2.length cpxa_6) (V.ld rfl (Ld.sc sc32 (Rd.cl 1 rfl rfl))) <| J.run rfl rfl rfl hc3140 <| jv (ii (((xa.2.2.2.2.2.2.length : Nat) : Int))) (V.len Tryz.underlying32 rfl) <| J.run rfl rfl rfl hc3140 ?_
   refine jv _ (V.fad Tryz.underlying34 rfl nz32 rfl) <| J.run rfl rfl rfl hc3140 <| jv (.slice adxb_6 xb.2.2.2.2.2.2.length cpxb_6) (V.ld rfl (Ld.sc sc32 (Rd.cl 0 rfl rfl))) <| J.run rfl rfl rfl hc3140 <| jv (ii (((xb.2.2.2.2.2.2.length : Nat) : Int))) (V.len Tryz.underlying32 rfl) <| J.run rfl rfl rfl hc3140 <| jv (.bool (!decide ((((xa.2.2.2.2.2.2.length : Nat) : Int)) = (((xb.2.2.2.2.2.2.length : Nat) : Int))))) (V.neq rfl rfl) ?_
   refine jv (.bool (!decide ((((xa.2.2.2.2.2.2.length : Nat) : Int)) = (((xb.2.2.2.2.2.2.length : Nat) : Int))))) (V.pickF rfl hc3140 rfl) <| J.nil ?_
   exact ⟨rfl, ⟨(by simp only [hc3140]; rfl), rfl, rfl, trivial⟩, rfl, rfl⟩
 intro ρ
 refine J.nil <| cc rfl h (fun hc3141 h => ?_) fun hc3141 h => ?_
 · refine cr <| ja (.bool false) rfl <| J.nil <| CJ.ret ?_
   obtain rfl := si h
   exact ⟨_, _, Res.one rfl rfl, ⟨false, rfl, rfl, rfl⟩, (Hp.le_refl _), fun w hs => (Sep.dropAt 0 rfl (Sep.dropAt 0 rfl hs))⟩
 refine CJ.skip <| CJ.seq <| cr <| ja (ii 0) rfl <| J.nil ?_
 obtain ⟨o3443, ho3444, h⟩ := ob h
 refine CJ.joinN (o := o3443) (fun s ρ K' L' => () = s ∧ Fits [(2, .pointer (some ⟨b3082, 0, none⟩)), (3, .pointer (some ⟨b3083, 0, none⟩))] ρ ∧ K = K' ∧ L' = Cl b3082 34 [ii xa.1, ii xa.2.1, .slice adxa_2 xa.2.2.1.length cpxa_2, .slice adxa_3 xa.2.2.2.1.length cpxa_3, .slice adxa_4 xa.2.2.2.2.1.length cpxa_4, .slice adxa_5 xa.2.2.2.2.2.1.length cpxa_5, .slice adxa_6 xa.2.2.2.2.2.2.length cpxa_6] :: Cl b3083 34 [ii xb.1, ii xb.2.1, .slice adxb_2 xb.2.2.1.length cpxb_2, .slice adxb_3 xb.2.2.2.1.length cpxb_3, .slice adxb_4 xb.2.2.2.2.1.length cpxb_4, .slice adxb_5 xb.2.2.2.2.2.1.length cpxb_5, .slice adxb_6 xb.2.2.2.2.2.2.length cpxb_6] :: F) ?_ ?_
 · refine CJ.block <| CJ.front 1 rfl <| CJ.loop (fun s ρ K' L' => ∃ (i3544 : Int), i3544 = s ∧ Fits [(2, .pointer (some ⟨b3082, 0, none⟩)), (3, .pointer (some ⟨b3083, 0, none⟩)), (5, ii i3544)] ρ ∧ K = K' ∧ L' = Cl b3082 34 [ii xa.1, ii xa.2.1, .slice adxa_2 xa.2.2.1.length cpxa_2, .slice adxa_3 xa.2.2.2.1.length cpxa_3, .slice adxa_4 xa.2.2.2.2.1.length cpxa_4, .slice adxa_5 xa.2.2.2.2.2.1.length cpxa_5, .slice adxa_6 xa.2.2.2.2.2.2.length cpxa_6] :: Cl b3083 34 [ii xb.1, ii xb.2.1, .slice adxb_2 xb.2.2.1.length cpxb_2, .slice adxb_3 xb.2.2.2.1.length cpxb_3, .slice adxb_4 xb.2.2.2.2.1.length cpxb_4, .slice adxb_5 xb.2.2.2.2.2.1.length cpxb_5, .slice adxb_6 xb.2.2.2.2.2.2.length cpxb_6] :: F) ho3444 ⟨0, rfl, ⟨rfl, rfl, rfl, trivial⟩, rfl, rfl⟩ ?_
   rintro s ρ _ _ r3647 ⟨i3544, rfl, hf3645, rfl, rfl⟩ h3644
   obtain ⟨ρ, rfl⟩ := hf3645.ex
   refine CJ.seq <| cr <| jm (ii i3544) rfl <| jv _ (V.fad Tryz.underlying34 rfl nz31 rfl) <| jv (.slice adxa_5 xa.2.2.2.2.2.1.length cpxa_5) (V.ld rfl (Ld.sc sc31 (Rd.cl 0 rfl rfl))) <| jv (ii (((xa.2.2.2.2.2.1.length : Nat) : Int))) (V.len Tryz.underlying31 rfl) ?_
   refine jv (.bool (decide (i3544 < (((xa.2.2.2.2.2.1.length : Nat) : Int))))) (V.lss rfl rfl) <| J.nil <| cc rfl h3644 (fun hc3648 h3644 => ?_) fun hc3648 h3644 => ?_
   · refine CJ.skip <| CJ.seq <| CJ.block <| CJ.seq <| CJ.mix [Cl b3082 34 [ii xa.1, ii xa.2.1, .slice adxa_2 xa.2.2.1.length cpxa_2, .slice adxa_3 xa.2.2.2.1.length cpxa_3, .slice adxa_4 xa.2.2.2.2.1.length cpxa_4, .slice adxa_5 xa.2.2.2.2.2.1.length cpxa_5, .slice adxa_6 xa.2.2.2.2.2.2.length cpxa_6], Cl b3083 34 [ii xb.1, ii xb.2.1, .slice adxb_2 xb.2.2.1.length cpxb_2, .slice adxb_3 xb.2.2.2.1.length cpxb_3, .slice adxb_4 xb.2.2.2.2.1.length cpxb_4, .slice adxb_5 xb.2.2.2.2.2.1.length cpxb_5, .slice adxb_6 xb.2.2.2.2.2.2.length cpxb_6]] [([0, 1, 2, 3, 4, 5, 6, 7, 8, 9], 10)] [11] [] mixO (by decide +kernel) ⟨0, rfl, 0, rfl, trivial⟩ rfl rfl rfl <| JM.cons <| qv _ (V.fad Tryz.underlying34 rfl nz31 rfl) ?_
     refine qv (.slice adxa_5 xa.2.2.2.2.2.1.length cpxa_5) (V.ld rfl (Ld.sc sc31 (Rd.cl 0 rfl rfl))) <| qm (ii i3544) rfl ?_
     obtain ⟨x3697, hx3698, h3644⟩ := ob h3644
     obtain ⟨p3699, p3700, p3701⟩ := getI_some hx3698
     obtain ⟨b3702, o3703, e3704, a3705⟩ := (fxa_5).at p3700
     refine qv _ (V.iad Tryz.underlying31 sz63 rfl e3704 rfl p3699 p3701) ?_
     obtain ⟨ad3706, cp3707, c3708, f3709⟩ := (((a3705).snd).fst).sl
     obtain ⟨ad3710, cp3711, c3712, f3713⟩ := ((((a3705).snd).snd).fst).sl
     obtain ⟨ad3714, cp3715, c3716, f3717⟩ := ((((((a3705).snd).snd).snd).one).one).sl
     refine qv (.agg #[ii x3697.1, .slice ad3706 x3697.2.1.length cp3707, .slice ad3710 x3697.2.2.1.length cp3711, .slice ad3714 x3697.2.2.2.length cp3715]) (V.ld rfl (Ld.aggK (cs := [ii x3697.1, .slice ad3706 x3697.2.1.length cp3707, .slice ad3710 x3697.2.2.1.length cp3711, .slice ad3714 x3697.2.2.2.length cp3715]) Tryz.underlying63 sz63 rfl ⟨((a3705).fst).int, c3708, c3712, c3716, trivial⟩ (Hp.le_refl _))) <| qv _ (V.fad Tryz.underlying34 rfl nz31 rfl) <| qv (.slice adxb_5 xb.2.2.2.2.2.1.length cpxb_5) (V.ld rfl (Ld.sc sc31 (Rd.cl 1 rfl rfl))) <| qm (ii i3544) rfl ?_
     obtain ⟨x3718, hx3719, h3644⟩ := ob h3644
     obtain ⟨p3720, p3721, p3722⟩ := getI_some hx3719
     obtain ⟨b3723, o3724, e3725, a3726⟩ := (fxb_5).at p3721
     refine qv _ (V.iad Tryz.underlying31 sz63 rfl e3725 rfl p3720 p3722) ?_
     obtain ⟨ad3727, cp3728, c3729, f3730⟩ := (((a3726).snd).fst).sl
     obtain ⟨ad3731, cp3732, c3733, f3734⟩ := ((((a3726).snd).snd).fst).sl
     obtain ⟨ad3735, cp3736, c3737, f3738⟩ := ((((((a3726).snd).snd).snd).one).one).sl
     refine qv (.agg #[ii x3718.1, .slice ad3727 x3718.2.1.length cp3728, .slice ad3731 x3718.2.2.1.length cp3732, .slice ad3735 x3718.2.2.2.length cp3736]) (V.ld rfl (Ld.aggK (cs := [ii x3718.1, .slice ad3727 x3718.2.1.length cp3728, .slice ad3731 x3718.2.2.1.length cp3732, .slice ad3735 x3718.2.2.2.length cp3736]) Tryz.underlying63 sz63 rfl ⟨((a3726).fst).int, c3729, c3733, c3737, trivial⟩ (Hp.le_refl _))) <| JQ.nil ?_
     obtain ⟨r3739, hr3740, h3644⟩ := ob h3644
     refine JA.op rfl (A.call (L1 := []) Tryz.call39 rfl (ref17_Same_ok f3709 f3713 f3717 f3730 f3734 f3738 hr3740) rfl rfl) ?_
     rintro _ _ _ ⟨v3742, _, rfl, ⟨⟨t3741, rfl, rfl, rfl⟩, rfl⟩, _, rfl⟩
     refine ⟨fun w hs => Hold.sub (Hp.le_refl _) ⟨0, rfl, 0, rfl, trivial⟩ hs, ?_⟩
     refine JM.nil <| qv (.bool (!t3741)) (V.not rfl) <| JQ.nil <| J.nil <| cc rfl h3644 (fun hc3745 h3644 => ?_) fun hc3745 h3644 => ?_
     · refine cr <| ja (.bool false) rfl <| J.nil <| CJ.ret ?_
       obtain rfl := si h3644
       refine ⟨nofun, fun e => ?_⟩
       subst e
       refine .inr ⟨nofun, ?_⟩
       obtain rfl := si h
       exact ⟨_, _, Res.one rfl rfl, ⟨false, rfl, rfl, rfl⟩, (Hp.le_refl _), fun w hs => (Sep.dropAt 0 rfl (Sep.dropAt 0 rfl hs))⟩
     refine CJ.skip <| CJ.region <| jm (ii i3544) rfl <| jv (ii (IntKind.wrap .i64 (i3544 + 1))) (V.add rfl rfl) <| ja (ii (IntKind.wrap .i64 (i3544 + 1))) rfl <| J.nil ?_
     obtain rfl := si h3644
     exact ⟨rfl, ⟨IntKind.wrap .i64 (i3544 + 1), rfl, ⟨rfl, rfl, rfl, trivial⟩, rfl, rfl⟩⟩
   refine CJ.exit ?_
   obtain rfl := si h3644
   refine ⟨nofun, fun e => ?_⟩
   subst e
   exact .inl ⟨rfl, _, rfl, ⟨rfl, ⟨rfl, rfl, trivial⟩, rfl, rfl⟩⟩
 rintro s ρ _ _ ho3746 ⟨rfl, hf3747, rfl, rfl⟩
 subst ho3746
 obtain ⟨ρ, rfl⟩ := hf3747.ex
 refine PJ.done <| CJ.seq <| cr <| ja (ii 0) rfl <| J.nil ?_
 obtain ⟨o4953, ho4954, h⟩ := ob h
 refine CJ.joinN (o := o4953) (fun s ρ K' L' => () = s ∧ Fits [] ρ ∧ K = K' ∧ F = L') ?_ ?_
 · refine CJ.block <| CJ.loop (fun s ρ K' L' => ∃ (i5355 : Int), i5355 = s ∧ Fits [(2, .pointer (some ⟨b3082, 0, none⟩)), (3, .pointer (some ⟨b3083, 0, none⟩)), (6, ii i5355)] ρ ∧ K = K' ∧ L' = Cl b3082 34 [ii xa.1, ii xa.2.1, .slice adxa_2 xa.2.2.1.length cpxa_2, .slice adxa_3 xa.2.2.2.1.length cpxa_3, .slice adxa_4 xa.2.2.2.2.1.length cpxa_4, .slice adxa_5 xa.2.2.2.2.2.1.length cpxa_5, .slice adxa_6 xa.2.2.2.2.2.2.length cpxa_6] :: Cl b3083 34 [ii xb.1, ii xb.2.1, .slice adxb_2 xb.2.2.1.length cpxb_2, .slice adxb_3 xb.2.2.2.1.length cpxb_3, .slice adxb_4 xb.2.2.2.2.1.length cpxb_4, .slice adxb_5 xb.2.2.2.2.2.1.length cpxb_5, .slice adxb_6 xb.2.2.2.2.2.2.length cpxb_6] :: F) ho4954 ⟨0, rfl, ⟨rfl, rfl, rfl, trivial⟩, rfl, rfl⟩ ?_
   rintro s ρ _ _ r5759 ⟨i5355, rfl, hf5757, rfl, rfl⟩ h5756
   obtain ⟨ρ, rfl⟩ := hf5757.ex
   refine CJ.seq <| cr <| jm (ii i5355) rfl <| jv _ (V.fad Tryz.underlying34 rfl nz32 rfl) <| jv (.slice adxa_6 xa.2.2.2.2.2.2.length cpxa_6) (V.ld rfl (Ld.sc sc32 (Rd.cl 0 rfl rfl))) <| jv (ii (((xa.2.2.2.2.2.2.length : Nat) : Int))) (V.len Tryz.underlying32 rfl) ?_
   refine jv (.bool (decide (i5355 < (((xa.2.2.2.2.2.2.length : Nat) : Int))))) (V.lss rfl rfl) <| J.nil <| cc rfl h5756 (fun hc5760 h5756 => ?_) fun hc5760 h5756 => ?_
   · refine CJ.skip <| CJ.seq <| CJ.block <| CJ.seq <| CJ.mix [Cl b3082 34 [ii xa.1, ii xa.2.1, .slice adxa_2 xa.2.2.1.length cpxa_2, .slice adxa_3 xa.2.2.2.1.length cpxa_3, .slice adxa_4 xa.2.2.2.2.1.length cpxa_4, .slice adxa_5 xa.2.2.2.2.2.1.length cpxa_5, .slice adxa_6 xa.2.2.2.2.2.2.length cpxa_6], Cl b3083 34 [ii xb.1, ii xb.2.1, .slice adxb_2 xb.2.2.1.length cpxb_2, .slice adxb_3 xb.2.2.2.1.length cpxb_3, .slice adxb_4 xb.2.2.2.2.1.length cpxb_4, .slice adxb_5 xb.2.2.2.2.2.1.length cpxb_5, .slice adxb_6 xb.2.2.2.2.2.2.length cpxb_6]] [] [0, 1, 2, 3, 4, 5, 6, 7, 8, 9, 10, 11, 12, 13] [] mixO (by decide +kernel) ⟨0, rfl, 0, rfl, trivial⟩ rfl rfl rfl <| JM.nil <| qv _ (V.fad Tryz.underlying34 rfl nz32 rfl) ?_
     refine qv (.slice adxa_6 xa.2.2.2.2.2.2.length cpxa_6) (V.ld rfl (Ld.sc sc32 (Rd.cl 0 rfl rfl))) <| qm (ii i5355) rfl ?_
     obtain ⟨x5787, hx5788, h5756⟩ := ob h5756
     obtain ⟨p5789, p5790, p5791⟩ := getI_some hx5788
     obtain ⟨b5792, o5793, e5794, a5795⟩ := (fxa_6).at p5790
     refine qv _ (V.iad Tryz.underlying32 sz70 rfl e5794 rfl p5789 p5791) <| qv _ (V.fad Tryz.underlying70 rfl nz65 rfl) ?_
     obtain ⟨ad5796, cp5797, c5798, f5799⟩ := ((a5795).fst).sl
     refine qv (.slice ad5796 x5787.1.length cp5797) (V.ld rfl (Ld.sc sc65 (Rd.k c5798 (Hp.le_refl _)))) <| qv _ (V.fad Tryz.underlying34 rfl nz32 rfl) <| qv (.slice adxb_6 xb.2.2.2.2.2.2.length cpxb_6) (V.ld rfl (Ld.sc sc32 (Rd.cl 1 rfl rfl))) <| qm (ii i5355) rfl ?_
     obtain ⟨x5800, hx5801, h5756⟩ := ob h5756
     obtain ⟨p5802, p5803, p5804⟩ := getI_some hx5801
     obtain ⟨b5805, o5806, e5807, a5808⟩ := (fxb_6).at p5803
     refine qv _ (V.iad Tryz.underlying32 sz70 rfl e5807 rfl p5802 p5804) <| qv _ (V.fad Tryz.underlying70 rfl nz65 rfl) ?_
     obtain ⟨ad5809, cp5810, c5811, f5812⟩ := ((a5808).fst).sl
     refine qv (.slice ad5809 x5800.1.length cp5810) (V.ld rfl (Ld.sc sc65 (Rd.k c5811 (Hp.le_refl _)))) <| qa (.slice ad5796 x5787.1.length cp5797) rfl <| qa (.slice ad5809 x5800.1.length cp5810) rfl <| JQ.nil <| J.nil <| CJ.seq <| CJ.seq ?_
     refine CJ.mix [Cl b3082 34 [ii xa.1, ii xa.2.1, .slice adxa_2 xa.2.2.1.length cpxa_2, .slice adxa_3 xa.2.2.2.1.length cpxa_3, .slice adxa_4 xa.2.2.2.2.1.length cpxa_4, .slice adxa_5 xa.2.2.2.2.2.1.length cpxa_5, .slice adxa_6 xa.2.2.2.2.2.2.length cpxa_6], Cl b3083 34 [ii xb.1, ii xb.2.1, .slice adxb_2 xb.2.2.1.length cpxb_2, .slice adxb_3 xb.2.2.2.1.length cpxb_3, .slice adxb_4 xb.2.2.2.2.1.length cpxb_4, .slice adxb_5 xb.2.2.2.2.2.1.length cpxb_5, .slice adxb_6 xb.2.2.2.2.2.2.length cpxb_6]] [([0, 1, 2, 3, 4, 5, 6, 7, 8, 9, 10, 11, 12, 13, 14, 15, 16, 17], 18)] [19, 20] [] mixO (by decide +kernel) ⟨0, rfl, 0, rfl, trivial⟩ rfl rfl rfl <| JM.cons <| qm (.slice ad5796 x5787.1.length cp5797) rfl <| qv (ii (((x5787.1.length : Nat) : Int))) (V.len Tryz.underlying65 rfl) <| qm (.slice ad5809 x5800.1.length cp5810) rfl <| qv (ii (((x5800.1.length : Nat) : Int))) (V.len Tryz.underlying65 rfl) <| qv (.bool (!decide ((((x5787.1.length : Nat) : Int)) = (((x5800.1.length : Nat) : Int))))) (V.neq rfl rfl) ?_
     refine qm (.bool (!decide ((((x5787.1.length : Nat) : Int)) = (((x5800.1.length : Nat) : Int))))) rfl ?_
     rcases bt (!decide ((((x5787.1.length : Nat) : Int)) = (((x5800.1.length : Nat) : Int)))) with hc5862 | hc5862
     · have h5756 := ct hc5862 h5756
       refine JQ.skip rfl rfl rfl rfl hc5862 <| JQ.skip rfl rfl rfl rfl hc5862 <| JQ.skip rfl rfl rfl rfl hc5862 <| JQ.skip rfl rfl rfl rfl hc5862 <| JQ.skip rfl rfl rfl rfl hc5862 <| JQ.skip rfl rfl rfl rfl hc5862 <| JQ.skip rfl rfl rfl rfl hc5862 ?_
       refine JQ.skip rfl rfl rfl rfl hc5862 <| JQ.skip rfl rfl rfl rfl hc5862 <| JQ.skip rfl rfl rfl rfl hc5862 <| JQ.skip rfl rfl rfl rfl hc5862 <| JQ.skip rfl rfl rfl rfl hc5862 <| JQ.nil <| JA.skip rfl rfl rfl rfl hc5862 ?_
       refine JM.nil <| JQ.skip rfl rfl rfl rfl hc5862 <| qv (.bool true) (V.pickT rfl hc5862 rfl) <| JQ.nil <| J.nil <| CJ.condK (b := true) rfl rfl <| CJ.seq ?_
       refine CJ.region <| ja (.bool false) rfl <| J.nil <| CJ.ret ?_
       obtain rfl := si h5756
       refine ⟨nofun, fun e => ?_⟩
       subst e
       refine .inr ⟨nofun, ?_⟩
       obtain rfl := si h
       exact ⟨_, _, Res.one rfl rfl, ⟨false, rfl, rfl, rfl⟩, (Hp.le_refl _), fun w hs => (Sep.dropAt 0 rfl (Sep.dropAt 0 rfl hs))⟩
     have h5756 := cf hc5862 h5756
     refine JQ.run rfl rfl rfl hc5862 <| qv _ (V.fad Tryz.underlying34 rfl nz32 rfl) <| JQ.run rfl rfl rfl hc5862 <| qv (.slice adxa_6 xa.2.2.2.2.2.2.length cpxa_6) (V.ld rfl (Ld.sc sc32 (Rd.cl 0 rfl rfl))) <| JQ.run rfl rfl rfl hc5862 <| qm (ii i5355) rfl <| JQ.run rfl rfl rfl hc5862 ?_
     obtain ⟨x5863, hx5864, h5756⟩ := ob h5756
     obtain ⟨p5865, p5866, p5867⟩ := getI_some hx5864
     obtain ⟨b5868, o5869, e5870, a5871⟩ := (fxa_6).at p5866
     refine qv _ (V.iad Tryz.underlying32 sz70 rfl e5870 rfl p5865 p5867) <| JQ.run rfl rfl rfl hc5862 <| qv _ (V.fad Tryz.underlying70 rfl nz68 rfl) <| JQ.run rfl rfl rfl hc5862 ?_
     obtain ⟨ad5872, cp5873, c5874, f5875⟩ := (((((((a5871).snd).one).snd).snd).snd).fst).sl
     obtain ⟨ad5876, cp5877, c5878, f5879⟩ := ((((((((a5871).snd).one).snd).snd).snd).snd).fst).sl
     obtain ⟨ad5880, cp5881, c5882, f5883⟩ := (((((((((a5871).snd).one).snd).snd).snd).snd).snd).one).sl
     refine qv (.agg #[ii x5863.2.1, ii x5863.2.2.1, ii x5863.2.2.2.1, .slice ad5872 x5863.2.2.2.2.1.length cp5873, .slice ad5876 x5863.2.2.2.2.2.1.length cp5877, .slice ad5880 x5863.2.2.2.2.2.2.length cp5881]) (V.ld rfl (Ld.aggK (cs := [ii x5863.2.1, ii x5863.2.2.1, ii x5863.2.2.2.1, .slice ad5872 x5863.2.2.2.2.1.length cp5873, .slice ad5876 x5863.2.2.2.2.2.1.length cp5877, .slice ad5880 x5863.2.2.2.2.2.2.length cp5881]) Tryz.underlying68 sz68 rfl ⟨((((a5871).snd).one).fst).int, (((((a5871).snd).one).snd).fst).int, ((((((a5871).snd).one).snd).snd).fst).int, c5874, c5878, c5882, trivial⟩ (Hp.le_refl _))) <| JQ.run rfl rfl rfl hc5862 <| qv _ (V.fad Tryz.underlying34 rfl nz32 rfl) <| JQ.run rfl rfl rfl hc5862 <| qv (.slice adxb_6 xb.2.2.2.2.2.2.length cpxb_6) (V.ld rfl (Ld.sc sc32 (Rd.cl 1 rfl rfl))) <| JQ.run rfl rfl rfl hc5862 <| qm (ii i5355) rfl ?_
     refine JQ.run rfl rfl rfl hc5862 ?_
     obtain ⟨x5884, hx5885, h5756⟩ := ob h5756
     obtain ⟨p5886, p5887, p5888⟩ := getI_some hx5885
     obtain ⟨b5889, o5890, e5891, a5892⟩ := (fxb_6).at p5887
     refine qv _ (V.iad Tryz.underlying32 sz70 rfl e5891 rfl p5886 p5888) <| JQ.run rfl rfl rfl hc5862 <| qv _ (V.fad Tryz.underlying70 rfl nz68 rfl) <| JQ.run rfl rfl rfl hc5862 ?_
     obtain ⟨ad5893, cp5894, c5895, f5896⟩ := (((((((a5892).snd).one).snd).snd).snd).fst).sl
     obtain ⟨ad5897, cp5898, c5899, f5900⟩ := ((((((((a5892).snd).one).snd).snd).snd).snd).fst).sl
     obtain ⟨ad5901, cp5902, c5903, f5904⟩ := (((((((((a5892).snd).one).snd).snd).snd).snd).snd).one).sl
     refine qv (.agg #[ii x5884.2.1, ii x5884.2.2.1, ii x5884.2.2.2.1, .slice ad5893 x5884.2.2.2.2.1.length cp5894, .slice ad5897 x5884.2.2.2.2.2.1.length cp5898, .slice ad5901 x5884.2.2.2.2.2.2.length cp5902]) (V.ld rfl (Ld.aggK (cs := [ii x5884.2.1, ii x5884.2.2.1, ii x5884.2.2.2.1, .slice ad5893 x5884.2.2.2.2.1.length cp5894, .slice ad5897 x5884.2.2.2.2.2.1.length cp5898, .slice ad5901 x5884.2.2.2.2.2.2.length cp5902]) Tryz.underlying68 sz68 rfl ⟨((((a5892).snd).one).fst).int, (((((a5892).snd).one).snd).fst).int, ((((((a5892).snd).one).snd).snd).fst).int, c5895, c5899, c5903, trivial⟩ (Hp.le_refl _))) <| JQ.nil <| JA.run rfl rfl rfl hc5862 ?_
     obtain ⟨r5905, hr5906, h5756⟩ := ob h5756
     refine JA.op rfl (A.call (L1 := []) Tryz.call40 rfl (ref19_Same_ok f5875 f5879 f5883 f5896 f5900 f5904 hr5906) rfl rfl) ?_
     rintro _ _ _ ⟨v5908, _, rfl, ⟨⟨t5907, rfl, rfl, rfl⟩, rfl⟩, _, rfl⟩
     refine ⟨fun w hs => Hold.sub (Hp.le_refl _) ⟨0, rfl, 0, rfl, trivial⟩ hs, ?_⟩
     refine JM.nil <| JQ.run rfl rfl rfl hc5862 <| qv (.bool (!t5907)) (V.not rfl) <| qv (.bool (!t5907)) (V.pickF rfl hc5862 rfl) <| JQ.nil <| J.nil <| cc rfl h5756 (fun hc5911 h5756 => ?_) fun hc5911 h5756 => ?_
     · refine cr <| ja (.bool false) rfl <| J.nil <| CJ.ret ?_
       obtain rfl := si h5756
       refine ⟨nofun, fun e => ?_⟩
       subst e
       refine .inr ⟨nofun, ?_⟩
       obtain rfl := si h
       exact ⟨_, _, Res.one rfl rfl, ⟨false, rfl, rfl, rfl⟩, (Hp.le_refl _), fun w hs => (Sep.dropAt 0 rfl (Sep.dropAt 0 rfl hs))⟩
     refine CJ.skip <| cr <| ja (ii 0) rfl <| J.nil ?_
     obtain ⟨o6033, ho6034, h5756⟩ := ob h5756
     refine CJ.joinN (o := o6033) (fun s ρ K' L' => () = s ∧ Fits [(2, .pointer (some ⟨b3082, 0, none⟩)), (3, .pointer (some ⟨b3083, 0, none⟩)), (6, ii i5355)] ρ ∧ K = K' ∧ L' = Cl b3082 34 [ii xa.1, ii xa.2.1, .slice adxa_2 xa.2.2.1.length cpxa_2, .slice adxa_3 xa.2.2.2.1.length cpxa_3, .slice adxa_4 xa.2.2.2.2.1.length cpxa_4, .slice adxa_5 xa.2.2.2.2.2.1.length cpxa_5, .slice adxa_6 xa.2.2.2.2.2.2.length cpxa_6] :: Cl b3083 34 [ii xb.1, ii xb.2.1, .slice adxb_2 xb.2.2.1.length cpxb_2, .slice adxb_3 xb.2.2.2.1.length cpxb_3, .slice adxb_4 xb.2.2.2.2.1.length cpxb_4, .slice adxb_5 xb.2.2.2.2.2.1.length cpxb_5, .slice adxb_6 xb.2.2.2.2.2.2.length cpxb_6] :: F) ?_ ?_
     · refine CJ.block <| CJ.loop (fun s ρ K' L' => ∃ (i6074 : Int), i6074 = s ∧ Fits [(2, .pointer (some ⟨b3082, 0, none⟩)), (3, .pointer (some ⟨b3083, 0, none⟩)), (6, ii i5355), (7, .slice ad5796 x5787.1.length cp5797), (8, .slice ad5809 x5800.1.length cp5810), (9, ii i6074)] ρ ∧ K = K' ∧ L' = Cl b3082 34 [ii xa.1, ii xa.2.1, .slice adxa_2 xa.2.2.1.length cpxa_2, .slice adxa_3 xa.2.2.2.1.length cpxa_3, .slice adxa_4 xa.2.2.2.2.1.length cpxa_4, .slice adxa_5 xa.2.2.2.2.2.1.length cpxa_5, .slice adxa_6 xa.2.2.2.2.2.2.length cpxa_6] :: Cl b3083 34 [ii xb.1, ii xb.2.1, .slice adxb_2 xb.2.2.1.length cpxb_2, .slice adxb_3 xb.2.2.2.1.length cpxb_3, .slice adxb_4 xb.2.2.2.2.1.length cpxb_4, .slice adxb_5 xb.2.2.2.2.2.1.length cpxb_5, .slice adxb_6 xb.2.2.2.2.2.2.length cpxb_6] :: F) ho6034 ⟨0, rfl, ⟨rfl, rfl, rfl, rfl, rfl, rfl, trivial⟩, rfl, rfl⟩ ?_
       rintro s ρ _ _ r6117 ⟨i6074, rfl, hf6115, rfl, rfl⟩ h6114
       obtain ⟨ρ, rfl⟩ := hf6115.ex
       refine CJ.seq <| cr <| jm (ii i6074) rfl <| jm (.slice ad5796 x5787.1.length cp5797) rfl <| jv (ii (((x5787.1.length : Nat) : Int))) (V.len Tryz.underlying65 rfl) <| jv (.bool (decide (i6074 < (((x5787.1.length : Nat) : Int))))) (V.lss rfl rfl) ?_
       refine J.nil <| cc rfl h6114 (fun hc6118 h6114 => ?_) fun hc6118 h6114 => ?_
       · refine CJ.skip <| CJ.seq <| CJ.block <| CJ.seq <| CJ.mix [Cl b3082 34 [ii xa.1, ii xa.2.1, .slice adxa_2 xa.2.2.1.length cpxa_2, .slice adxa_3 xa.2.2.2.1.length cpxa_3, .slice adxa_4 xa.2.2.2.2.1.length cpxa_4, .slice adxa_5 xa.2.2.2.2.2.1.length cpxa_5, .slice adxa_6 xa.2.2.2.2.2.2.length cpxa_6], Cl b3083 34 [ii xb.1, ii xb.2.1, .slice adxb_2 xb.2.2.1.length cpxb_2, .slice adxb_3 xb.2.2.2.1.length cpxb_3, .slice adxb_4 xb.2.2.2.2.1.length cpxb_4, .slice adxb_5 xb.2.2.2.2.2.1.length cpxb_5, .slice adxb_6 xb.2.2.2.2.2.2.length cpxb_6]] [] [0, 1, 2, 3, 4, 5, 6, 7, 8] [] mixO (by decide +kernel) ⟨0, rfl, 0, rfl, trivial⟩ rfl rfl rfl <| JM.nil <| qm (.slice ad5796 x5787.1.length cp5797) rfl ?_
         refine qm (ii i6074) rfl ?_
         obtain ⟨x6137, hx6138, h6114⟩ := ob h6114
         obtain ⟨p6139, p6140, p6141⟩ := getI_some hx6138
         obtain ⟨b6142, o6143, e6144, a6145⟩ := (f5799).at p6140
         refine qv _ (V.iad Tryz.underlying65 sz73 rfl e6144 rfl p6139 p6141) <| qv (.agg #[ii x6137.1, ii x6137.2.1, ii x6137.2.2.1, ii x6137.2.2.2.1, .bool x6137.2.2.2.2]) (V.ld rfl (Ld.aggK (cs := [ii x6137.1, ii x6137.2.1, ii x6137.2.2.1, ii x6137.2.2.2.1, .bool x6137.2.2.2.2]) Tryz.underlying73 sz73 rfl ⟨((a6145).fst).int, (((a6145).snd).fst).int, ((((a6145).snd).snd).fst).int, (((((a6145).snd).snd).snd).fst).int, ((((((a6145).snd).snd).snd).snd).one).bool, trivial⟩ (Hp.le_refl _))) <| qm (.slice ad5809 x5800.1.length cp5810) rfl <| qm (ii i6074) rfl ?_
         obtain ⟨x6146, hx6147, h6114⟩ := ob h6114
         obtain ⟨p6148, p6149, p6150⟩ := getI_some hx6147
         obtain ⟨b6151, o6152, e6153, a6154⟩ := (f5812).at p6149
         refine qv _ (V.iad Tryz.underlying65 sz73 rfl e6153 rfl p6148 p6150) <| qv (.agg #[ii x6146.1, ii x6146.2.1, ii x6146.2.2.1, ii x6146.2.2.2.1, .bool x6146.2.2.2.2]) (V.ld rfl (Ld.aggK (cs := [ii x6146.1, ii x6146.2.1, ii x6146.2.2.1, ii x6146.2.2.2.1, .bool x6146.2.2.2.2]) Tryz.underlying73 sz73 rfl ⟨((a6154).fst).int, (((a6154).snd).fst).int, ((((a6154).snd).snd).fst).int, (((((a6154).snd).snd).snd).fst).int, ((((((a6154).snd).snd).snd).snd).one).bool, trivial⟩ (Hp.le_refl _))) <| qv (.bool (!((decide (x6137.1 = x6146.1)) && ((decide (x6137.2.1 = x6146.2.1)) && ((decide (x6137.2.2.1 = x6146.2.2.1)) && ((decide (x6137.2.2.2.1 = x6146.2.2.2.1)) && (x6137.2.2.2.2 == x6146.2.2.2.2))))))) (V.nest eqg73 (EqIn.st (d := 9999) rfl Tryz.underlying73 sih73 (EqFs.cons (by decide) (Ld0.sc sc3 rfl) (Ld0.sc sc3 rfl) (EqIn.int (d := 9998) rfl Tryz.underlying3) (EqFs.cons (by decide) (Ld0.sc sc3 rfl) (Ld0.sc sc3 rfl) (EqIn.int (d := 9998) rfl Tryz.underlying3) (EqFs.cons (by decide) (Ld0.sc sc3 rfl) (Ld0.sc sc3 rfl) (EqIn.int (d := 9998) rfl Tryz.underlying3) (EqFs.cons (by decide) (Ld0.sc sc3 rfl) (Ld0.sc sc3 rfl) (EqIn.int (d := 9998) rfl Tryz.underlying3) (EqFs.last (by decide) (Ld0.sc sc4 rfl) (Ld0.sc sc4 rfl) (EqIn.bool (d := 9998) rfl Tryz.underlying4))))))) rfl rfl) <| JQ.nil <| J.nil <| cc rfl h6114 (fun hc6155 h6114 => ?_) fun hc6155 h6114 => ?_
         · refine cr <| ja (.bool false) rfl <| J.nil <| CJ.ret ?_
           obtain rfl := si h6114
           refine ⟨nofun, fun e => ?_⟩
           subst e
           refine .inr ⟨nofun, ?_⟩
           obtain rfl := si h5756
           refine ⟨nofun, fun e => ?_⟩
           subst e
           refine .inr ⟨nofun, ?_⟩
           obtain rfl := si h
           exact ⟨_, _, Res.one rfl rfl, ⟨false, rfl, rfl, rfl⟩, (Hp.le_refl _), fun w hs => (Sep.dropAt 0 rfl (Sep.dropAt 0 rfl hs))⟩
         refine CJ.skip <| CJ.region <| jm (ii i6074) rfl <| jv (ii (IntKind.wrap .i64 (i6074 + 1))) (V.add rfl rfl) <| ja (ii (IntKind.wrap .i64 (i6074 + 1))) rfl <| J.nil ?_
         obtain rfl := si h6114
         exact ⟨rfl, ⟨IntKind.wrap .i64 (i6074 + 1), rfl, ⟨rfl, rfl, rfl, rfl, rfl, rfl, trivial⟩, rfl, rfl⟩⟩
       refine CJ.exit ?_
       obtain rfl := si h6114
       refine ⟨nofun, fun e => ?_⟩
       subst e
       exact .inl ⟨rfl, _, rfl, ⟨rfl, ⟨rfl, rfl, rfl, trivial⟩, rfl, rfl⟩⟩
     rintro s ρ _ _ ho6156 ⟨rfl, hf6157, rfl, rfl⟩
     subst ho6156
     obtain ⟨ρ, rfl⟩ := hf6157.ex
     refine PJ.done <| CJ.region <| jm (ii i5355) rfl <| jv (ii (IntKind.wrap .i64 (i5355 + 1))) (V.add rfl rfl) <| ja (ii (IntKind.wrap .i64 (i5355 + 1))) rfl <| J.nil ?_
     obtain rfl := si h5756
     exact ⟨rfl, ⟨IntKind.wrap .i64 (i5355 + 1), rfl, ⟨rfl, rfl, rfl, trivial⟩, rfl, rfl⟩⟩
   refine CJ.dropAt 0 rfl <| CJ.dropAt 0 rfl <| CJ.exit ?_
   obtain rfl := si h5756
   refine ⟨nofun, fun e => ?_⟩
   subst e
   exact .inl ⟨rfl, _, rfl, ⟨rfl, trivial, rfl, rfl⟩⟩
 rintro s ρ _ _ ho6159 ⟨rfl, hf6160, rfl, rfl⟩
 subst ho6159
 obtain ⟨ρ, rfl⟩ := hf6160.ex
 refine PJ.done <| cr <| ja (.bool true) rfl <| J.nil <| CJ.ret ?_
 obtain rfl := si h
 exact ⟨_, _, Res.one rfl rfl, ⟨true, rfl, rfl, rfl⟩, (Hp.le_refl _), fun w hs => hs⟩

noncomputable def fn_law20_awake  : Option Bool :=
  (fn_law20_one).bind fun (i185, i186, l187, l188, l189, l190, l191, s192) => (fn_body_Put (i185, i186, l187, l188, l189, l190, l191)).bind fun (s222, i223) => (fn_body_Take_sz s192).bind fun (i229, i230, l231, l232, l233, l234, l235, i236) => (app s192 ([120] : List UInt8)).bind fun z261 => (fn_body_Take_sz z261).bind fun (i265, i266, l267, l268, l269, l270, l271, i272) => (cond ((decide (s222 = s192)) && (decide (i223 = 0))) ((fn_ref20_Same (i185, i186, l187, l188, l189, l190, l191) (i229, i230, l231, l232, l233, l234, l235)).bind fun t354 => some (t354)) (some (false))).bind fun t328 => some ((t328 && (decide (i236 = 0))) && (decide (i272 = 13)))
set_option maxRecDepth 100000 in
set_option maxHeartbeats 4000000 in
theorem law20_awake_ok {K : Hp}    {r : Bool} (h : fn_law20_awake = some r) :
    Tr Tryz.prog 5 #[] K [] (fun v K' L' => (∃ (t182 : Bool), t182 = r ∧ .bool t182 = v ∧ L' = []) ∧ K = K') := by
 refine Tr.k <| Tr.of Tryz.func5 rfl Tryz.ntmps5 rfl fun E F => ?_
 unfold fn_law20_awake at h
 refine cr <| ja (.bool false) rfl <| J.nil <| CJ.seq <| CJ.region ?_
 obtain ⟨r183, hr184, h⟩ := ob h
 refine J.op rfl (A.call (L1 := []) Tryz.call15 rfl (law20_one_ok hr184) rfl rfl) ?_
 rintro _ K209 _ ⟨v208, _, rfl, ⟨i185, i186, l187, l188, l189, l190, l191, s192, ad193, cp194, ad195, cp196, ad197, cp198, ad199, cp200, ad201, cp202, rfl, rfl, f203, f204, f205, rfl⟩, hK210, rfl⟩
 refine J.wit Row.hn fun hn206 => J.front 1 rfl <| J.wit Row.hn fun hn207 => jm (.tuple #[.agg #[ii i185, ii i186, .slice ad193 l187.length cp194, .slice ad195 l188.length cp196, .slice ad197 l189.length cp198, .slice ad199 l190.length cp200, .slice ad201 l191.length cp202], .string ⟨s192.toArray⟩]) rfl <| jx (.agg #[ii i185, ii i186, .slice ad193 l187.length cp194, .slice ad195 l188.length cp196, .slice ad197 l189.length cp198, .slice ad199 l190.length cp200, .slice ad201 l191.length cp202]) rfl rfl <| jx (.string ⟨s192.toArray⟩) rfl rfl <| jal inf34 [ii 0, ii 0, nos, nos, nos, nos, nos] rfl fun b213 => ?_
 refine js [ii i185, ii i186, .slice ad193 l187.length cp194, .slice ad195 l188.length cp196, .slice ad197 l189.length cp198, .slice ad199 l190.length cp200, .slice ad201 l191.length cp202] sz34 rfl rfl rfl rfl rfl rfl <| ja (.string ⟨s192.toArray⟩) rfl <| J.nil <| cr <| jv (.agg #[ii i185, ii i186, .slice ad193 l187.length cp194, .slice ad195 l188.length cp196, .slice ad197 l189.length cp198, .slice ad199 l190.length cp200, .slice ad201 l191.length cp202]) (V.ld rfl (Ld.agg (cs := [ii i185, ii i186, .slice ad193 l187.length cp194, .slice ad195 l188.length cp196, .slice ad197 l189.length cp198, .slice ad199 l190.length cp200, .slice ad201 l191.length cp202]) Tryz.underlying34 sz34 rfl (Rd.cls 0 0 rfl rfl))) ?_
 obtain ⟨r214, hr215, h⟩ := ob h
 refine J.front 1 rfl <| J.front 2 rfl <| J.op rfl (A.call (L1 := [Row K209 30 (.one (.sl (.cons (.int .i64) (.one .bool)))) (.slice ad195 l188.length cp196) l188, Row K209 70 (.cons (.sl (.cons (.int .i64) (.cons (.int .i64) (.cons (.int .i64) (.cons (.int .i64) (.one .bool)))))) (.one (.cons (.int .i64) (.cons (.int .i64) (.cons (.int .i64) (.cons (.sl (.int .i64)) (.cons (.sl (.int .i64)) (.one (.sl (.int .i64)))))))))) (.slice ad201 l191.length cp202) l191]) Tryz.call13 rfl (Tr.lend (Hp.le_refl _) (by decide) (fun K216 hK217 f218 => Tr.lend (Hp.le.trans (Hp.le_refl _) hK217) (by decide) (fun K219 hK220 f221 => body_Put_ok ((f203.mono hK217).mono hK220) (f218.mono hK220) ((f204.mono hK217).mono hK220) ((f205.mono hK217).mono hK220) f221 hr215))) rfl rfl) ?_
 rintro _ _ _ ⟨v224, _, rfl, ⟨⟨_, ⟨_, ⟨s222, i223, rfl, rfl, rfl⟩, rfl⟩, rfl⟩, rfl⟩, _, rfl⟩
 refine jm (.tuple #[.string ⟨s222.toArray⟩, ii i223]) rfl <| jx (.string ⟨s222.toArray⟩) rfl rfl <| jx (ii i223) rfl rfl <| ja (.string ⟨s222.toArray⟩) rfl <| ja (ii i223) rfl <| J.nil <| CJ.seq ?_
 refine CJ.region <| jm (.string ⟨s192.toArray⟩) rfl ?_
 obtain ⟨r227, hr228, h⟩ := ob h
 refine J.op rfl (A.call (L1 := []) Tryz.call6 rfl (body_Take_sz_ok hr228) rfl rfl) ?_
 rintro _ K253 _ ⟨v252, _, rfl, ⟨i229, i230, l231, l232, l233, l234, l235, i236, ad237, cp238, ad239, cp240, ad241, cp242, ad243, cp244, ad245, cp246, rfl, rfl, rfl⟩, hK254, rfl⟩
 refine J.wit Row.hn fun hn247 => J.front 1 rfl <| J.wit Row.hn fun hn248 => J.front 2 rfl <| J.wit Row.hn fun hn249 => J.front 3 rfl <| J.wit Row.hn fun hn250 => ?_
 refine J.front 4 rfl <| J.wit Row.hn fun hn251 => jm (.tuple #[.agg #[ii i229, ii i230, .slice ad237 l231.length cp238, .slice ad239 l232.length cp240, .slice ad241 l233.length cp242, .slice ad243 l234.length cp244, .slice ad245 l235.length cp246], ii i236]) rfl <| jx (.agg #[ii i229, ii i230, .slice ad237 l231.length cp238, .slice ad239 l232.length cp240, .slice ad241 l233.length cp242, .slice ad243 l234.length cp244, .slice ad245 l235.length cp246]) rfl rfl <| jx (ii i236) rfl rfl <| jal inf34 [ii 0, ii 0, nos, nos, nos, nos, nos] rfl fun b260 => js [ii i229, ii i230, .slice ad237 l231.length cp238, .slice ad239 l232.length cp240, .slice ad241 l233.length cp242, .slice ad243 l234.length cp244, .slice ad245 l235.length cp246] sz34 rfl rfl rfl rfl rfl rfl ?_
 refine ja (ii i236) rfl <| J.nil <| cr <| jm (.string ⟨s192.toArray⟩) rfl ?_
 obtain ⟨z261, hz262, h⟩ := ob h
 refine jv (.string ⟨z261.toArray⟩) (V.cat rfl rfl hz262) ?_
 obtain ⟨r263, hr264, h⟩ := ob h
 refine J.op rfl (A.call (L1 := []) Tryz.call6 rfl (body_Take_sz_ok hr264) rfl rfl) ?_
 rintro _ K289 _ ⟨v288, _, rfl, ⟨i265, i266, l267, l268, l269, l270, l271, i272, ad273, cp274, ad275, cp276, ad277, cp278, ad279, cp280, ad281, cp282, rfl, rfl, rfl⟩, hK290, rfl⟩
 refine J.wit Row.hn fun hn283 => J.front 1 rfl <| J.wit Row.hn fun hn284 => J.front 2 rfl <| J.wit Row.hn fun hn285 => J.front 3 rfl <| J.wit Row.hn fun hn286 => ?_
 refine J.front 4 rfl <| J.wit Row.hn fun hn287 => jm (.tuple #[.agg #[ii i265, ii i266, .slice ad273 l267.length cp274, .slice ad275 l268.length cp276, .slice ad277 l269.length cp278, .slice ad279 l270.length cp280, .slice ad281 l271.length cp282], ii i272]) rfl <| jx (.agg #[ii i265, ii i266, .slice ad273 l267.length cp274, .slice ad275 l268.length cp276, .slice ad277 l269.length cp278, .slice ad279 l270.length cp280, .slice ad281 l271.length cp282]) rfl rfl <| jx (ii i272) rfl rfl <| jal inf34 [ii 0, ii 0, nos, nos, nos, nos, nos] rfl fun b296 => js [ii i265, ii i266, .slice ad273 l267.length cp274, .slice ad275 l268.length cp276, .slice ad277 l269.length cp278, .slice ad279 l270.length cp280, .slice ad281 l271.length cp282] sz34 rfl rfl rfl rfl rfl rfl ?_
 refine ja (ii i272) rfl <| J.nil <| cr <| jm (.string ⟨s222.toArray⟩) rfl <| jm (.string ⟨s192.toArray⟩) rfl <| jv (.bool (decide (s222 = s192))) (V.eqs rfl rfl) ?_
 refine jm (.bool (decide (s222 = s192))) rfl <| J.cut 3 <| jmeet [(35, .bool ((decide (s222 = s192)) && (decide (i223 = 0)))), (1, .pointer (some ⟨b213, 0, none⟩)), (5, .pointer (some ⟨b260, 0, none⟩)), (6, ii i236), (8, ii i272)] ?_ ?_
 · rcases bt (decide (s222 = s192)) with hc299 | hc299
   · refine J.run rfl rfl rfl hc299 <| jm (ii i223) rfl <| J.run rfl rfl rfl hc299 <| jv (.bool (decide (i223 = 0))) (V.eql rfl rfl) <| jv (.bool (decide (i223 = 0))) (V.pickT rfl hc299 rfl) <| J.nil ?_
     exact ⟨rfl, ⟨(by simp only [hc299]; rfl), rfl, rfl, rfl, rfl, trivial⟩, rfl, rfl⟩
   refine J.skip rfl rfl rfl rfl hc299 <| J.skip rfl rfl rfl rfl hc299 <| jv (.bool false) (V.pickF rfl hc299 rfl) <| J.nil ?_
   exact ⟨rfl, ⟨(by simp only [hc299]; rfl), rfl, rfl, rfl, rfl, trivial⟩, rfl, rfl⟩
 intro ρ
 refine jm (.bool ((decide (s222 = s192)) && (decide (i223 = 0)))) rfl <| J.cut 4 ?_
 obtain ⟨t328, ht329, h⟩ := ob h
 refine jmeet [(40, .bool t328), (6, ii i236), (8, ii i272)] ?_ ?_
 · rcases bt ((decide (s222 = s192)) && (decide (i223 = 0))) with hc330 | hc330
   · have ht329 := ct hc330 ht329
     refine J.run rfl rfl rfl hc330 <| jv (.agg #[ii i185, ii i186, .slice ad193 l187.length cp194, .slice ad195 l188.length cp196, .slice ad197 l189.length cp198, .slice ad199 l190.length cp200, .slice ad201 l191.length cp202]) (V.ld rfl (Ld.agg (cs := [ii i185, ii i186, .slice ad193 l187.length cp194, .slice ad195 l188.length cp196, .slice ad197 l189.length cp198, .slice ad199 l190.length cp200, .slice ad201 l191.length cp202]) Tryz.underlying34 sz34 rfl (Rd.cls 14 0 rfl rfl))) <| J.run rfl rfl rfl hc330 <| jv (.agg #[ii i229, ii i230, .slice ad237 l231.length cp238, .slice ad239 l232.length cp240, .slice ad241 l233.length cp242, .slice ad243 l234.length cp244, .slice ad245 l235.length cp246]) (V.ld rfl (Ld.agg (cs := [ii i229, ii i230, .slice ad237 l231.length cp238, .slice ad239 l232.length cp240, .slice ad241 l233.length cp242, .slice ad243 l234.length cp244, .slice ad245 l235.length cp246]) Tryz.underlying34 sz34 rfl (Rd.cls 6 0 rfl rfl))) <| J.run rfl rfl rfl hc330 ?_
     obtain ⟨r331, hr332, ht329⟩ := ob ht329
     refine J.front 7 rfl <| J.front 8 rfl <| J.front 9 rfl <| J.front 10 rfl <| J.front 11 rfl <| J.front 13 rfl <| J.front 13 rfl ?_
     refine J.op rfl (A.call (L1 := [Row K209 30 (.one (.sl (.cons (.int .i64) (.one .bool)))) (.slice ad195 l188.length cp196) l188, Row K209 70 (.cons (.sl (.cons (.int .i64) (.cons (.int .i64) (.cons (.int .i64) (.cons (.int .i64) (.one .bool)))))) (.one (.cons (.int .i64) (.cons (.int .i64) (.cons (.int .i64) (.cons (.sl (.int .i64)) (.cons (.sl (.int .i64)) (.one (.sl (.int .i64)))))))))) (.slice ad201 l191.length cp202) l191, Row Hp.nil 95 (.cons (.int .i64) (.one (.int .i64))) (.slice ad237 l231.length cp238) l231, Row K253 30 (.one (.sl (.cons (.int .i64) (.one .bool)))) (.slice ad239 l232.length cp240) l232, Row Hp.nil 146 (.cons (.int .i64) (.one .bool)) (.slice ad241 l233.length cp242) l233, Row K253 63 (.cons (.int .i64) (.cons (.sl (.cons (.int .i64) (.one (.int .i64)))) (.cons (.sl (.one (.sl (.cons (.int .i64) (.one .bool))))) (.one (.one (.sl (.cons (.int .i64) (.one .bool)))))))) (.slice ad243 l234.length cp244) l234, Row K253 70 (.cons (.sl (.cons (.int .i64) (.cons (.int .i64) (.cons (.int .i64) (.cons (.int .i64) (.one .bool)))))) (.one (.cons (.int .i64) (.cons (.int .i64) (.cons (.int .i64) (.cons (.sl (.int .i64)) (.cons (.sl (.int .i64)) (.one (.sl (.int .i64)))))))))) (.slice ad245 l235.length cp246) l235]) Tryz.call8 rfl (Tr.lend (hK254.trans hK290) (by decide) (fun K333 hK334 f335 => Tr.lend (Hp.le.trans (hK254.trans hK290) hK334) (by decide) (fun K336 hK337 f338 => Tr.lend (Hp.nil_le _) (by decide) (fun K339 hK340 f341 => Tr.lend (Hp.le.trans (Hp.le.trans (Hp.le.trans hK290 hK334) hK337) hK340) (by decide) (fun K342 hK343 f344 => Tr.lend (Hp.nil_le _) (by decide) (fun K345 hK346 f347 => Tr.lend (Hp.le.trans (Hp.le.trans (Hp.le.trans (Hp.le.trans (Hp.le.trans hK290 hK334) hK337) hK340) hK343) hK346) (by decide) (fun K348 hK349 f350 => Tr.lend (Hp.le.trans (Hp.le.trans (Hp.le.trans (Hp.le.trans (Hp.le.trans (Hp.le.trans hK290 hK334) hK337) hK340) hK343) hK346) hK349) (by decide) (fun K351 hK352 f353 => ref20_Same_ok ((((((((f203.mono (hK254.trans hK290)).mono hK334).mono hK337).mono hK340).mono hK343).mono hK346).mono hK349).mono hK352) ((((((f335.mono hK337).mono hK340).mono hK343).mono hK346).mono hK349).mono hK352) ((((((((f204.mono (hK254.trans hK290)).mono hK334).mono hK337).mono hK340).mono hK343).mono hK346).mono hK349).mono hK352) ((((((((f205.mono (hK254.trans hK290)).mono hK334).mono hK337).mono hK340).mono hK343).mono hK346).mono hK349).mono hK352) (((((f338.mono hK340).mono hK343).mono hK346).mono hK349).mono hK352) ((((f341.mono hK343).mono hK346).mono hK349).mono hK352) (((f344.mono hK346).mono hK349).mono hK352) ((f347.mono hK349).mono hK352) (f350.mono hK352) f353 hr332)))))))) rfl rfl) ?_
     rintro _ _ _ ⟨v355, _, rfl, ⟨⟨_, ⟨_, ⟨_, ⟨_, ⟨_, ⟨_, ⟨_, ⟨t354, rfl, rfl, rfl⟩, rfl⟩, rfl⟩, rfl⟩, rfl⟩, rfl⟩, rfl⟩, rfl⟩, rfl⟩, _, rfl⟩
     refine jv (.bool t354) (V.pickT rfl hc330 rfl) <| J.front 14 rfl <| J.front 2 rfl <| J.front 2 rfl <| J.front 3 rfl <| J.front 4 rfl <| J.front 5 rfl ?_
     refine J.front 6 rfl <| J.front 7 rfl <| J.front 14 rfl <| J.front 14 rfl <| J.front 14 rfl <| J.front 14 rfl <| J.front 14 rfl ?_
     refine J.front 14 rfl <| J.front 14 rfl <| J.nil ?_
     obtain rfl := si ht329
     exact ⟨rfl, ⟨rfl, rfl, rfl, trivial⟩, rfl, rfl⟩
   have ht329 := cf hc330 ht329
   refine J.skip rfl rfl rfl rfl hc330 <| J.skip rfl rfl rfl rfl hc330 <| J.skip rfl rfl rfl rfl hc330 <| jv (.bool false) (V.pickF rfl hc330 rfl) <| J.nil ?_
   obtain rfl := si ht329
   exact ⟨rfl, ⟨rfl, rfl, rfl, trivial⟩, rfl, rfl⟩
 intro ρ
 refine jm (.bool t328) rfl <| J.cut 3 <| jmeet [(44, .bool (t328 && (decide (i236 = 0)))), (8, ii i272)] ?_ ?_
 · rcases bt (t328) with hc360 | hc360
   · refine J.run rfl rfl rfl hc360 <| jm (ii i236) rfl <| J.run rfl rfl rfl hc360 <| jv (.bool (decide (i236 = 0))) (V.eql rfl rfl) <| jv (.bool (decide (i236 = 0))) (V.pickT rfl hc360 rfl) <| J.nil ?_
     exact ⟨rfl, ⟨(by simp only [hc360]; rfl), rfl, trivial⟩, rfl, rfl⟩
   refine J.skip rfl rfl rfl rfl hc360 <| J.skip rfl rfl rfl rfl hc360 <| jv (.bool false) (V.pickF rfl hc360 rfl) <| J.nil ?_
   exact ⟨rfl, ⟨(by simp only [hc360]; rfl), rfl, trivial⟩, rfl, rfl⟩
 intro ρ
 refine jm (.bool (t328 && (decide (i236 = 0)))) rfl <| J.cut 3 <| jmeet [(48, .bool ((t328 && (decide (i236 = 0))) && (decide (i272 = 13))))] ?_ ?_
 · rcases bt (t328 && (decide (i236 = 0))) with hc363 | hc363
   · refine J.run rfl rfl rfl hc363 <| jm (ii i272) rfl <| J.run rfl rfl rfl hc363 <| jv (.bool (decide (i272 = 13))) (V.eql rfl rfl) <| jv (.bool (decide (i272 = 13))) (V.pickT rfl hc363 rfl) <| J.nil ?_
     exact ⟨rfl, ⟨(by simp only [hc363]; rfl), trivial⟩, rfl, rfl⟩
   refine J.skip rfl rfl rfl rfl hc363 <| J.skip rfl rfl rfl rfl hc363 <| jv (.bool false) (V.pickF rfl hc363 rfl) <| J.nil ?_
   exact ⟨rfl, ⟨(by simp only [hc363]; rfl), trivial⟩, rfl, rfl⟩
 intro ρ
 refine ja (.bool ((t328 && (decide (i236 = 0))) && (decide (i272 = 13)))) rfl <| J.nil <| CJ.ret ?_
 obtain rfl := si h
 exact ⟨_, _, Res.one rfl rfl, ⟨(t328 && (decide (i236 = 0))) && (decide (i272 = 13)), rfl, rfl, rfl⟩, ((hK210.trans hK254).trans hK290), fun w hs => (Sep.dropAt 0 rfl (Sep.dropAt 0 rfl (Sep.dropAt 0 rfl (Sep.dropAt 0 rfl (Sep.dropAt 0 rfl (Sep.dropAt 0 rfl (Sep.dropAt 0 rfl (Sep.dropAt 0 rfl (Sep.dropAt 0 rfl (Sep.dropAt 0 rfl (Sep.dropAt 0 rfl (Sep.dropAt 0 rfl (Sep.dropAt 0 rfl (Sep.dropAt 0 rfl (Sep.dropAt 0 rfl hs)))))))))))))))⟩

noncomputable def fnr_ref02_digits : Nat → Int → Option (List UInt8)
  | 0, _ => none
  | fuel + 1, xa => cond (decide (xa < 256)) (some (toU8 ([IntKind.wrap .u8 xa] : List Int))) (((fnr_ref02_digits fuel (IntKind.wrap .i64 (Int.tdiv xa 256))).bind fun s212 => (app s212 (toU8 (([IntKind.wrap .u8 (Int.tmod xa 256)] : List Int)))).bind fun z222 => some (z222) : Option (List UInt8)).bind fun s182 => some (s182))
noncomputable def fn_ref02_digits (xa : Int) : Option (List UInt8) := lev (fun n => fnr_ref02_digits n xa)
set_option maxRecDepth 100000 in
set_option maxHeartbeats 4000000 in
theorem ref02_digits_okr : ∀ (fuel : Nat) {K : Hp} {xa : Int}   {r : List UInt8} (h : fnr_ref02_digits fuel xa = some r),
    Tr Tryz.prog 109 #[ii xa] K [] (fun v K' L' => (∃ (s123 : List UInt8), s123 = r ∧ .string ⟨s123.toArray⟩ = v ∧ L' = []) ∧ K = K') := by
  intro fuel
  induction fuel with
  | zero => intro K xa r h; rw [fnr_ref02_digits] at h; cases h
  | succ fuel ih =>
    intro K xa r h
    refine Tr.k <| Tr.of Tryz.func109 rfl Tryz.ntmps109 rfl fun E F => ?_
    rw [fnr_ref02_digits] at h
    refine cr <| ja (.string ⟨([] : List UInt8).toArray⟩) rfl <| J.nil <| CJ.seq <| CJ.seq <| CJ.region ?_
    refine jm (ii xa) rfl <| jv (.bool (decide (xa < 256))) (V.lss rfl rfl) <| J.nil <| cc rfl h (fun hc124 h => ?_) fun hc124 h => ?_
    · refine cr <| jm (ii xa) rfl <| jv (.int .u8 (IntKind.wrap .u8 xa)) (V.conv Tryz.underlying3 Tryz.underlying5 rfl) ?_
      refine J.op rfl (A.lit (K0 := Hp.nil) (ty := (.int .u8)) (xs := ([IntKind.wrap .u8 xa] : List Int)) Tryz.underlying105 inf5 rfl (by decide) rfl rfl rfl ⟨_, _, rfl, rfl, rfl⟩ rfl (by decide)) ?_
      rintro _ _ _ ⟨b125, rfl, rfl, rfl⟩
      have hn126 : ([IntKind.wrap .u8 xa] : List Int) ≠ [] → ∃ g, (some ⟨b125, 0, none⟩ : Option Addr) = some ⟨g, 0, none⟩ := fun _ => ⟨b125, rfl⟩
      refine jv (.string ⟨(toU8 ([IntKind.wrap .u8 xa] : List Int)).toArray⟩) (V.b2sR 0 rfl Tryz.underlying105 Tryz.underlying5 Tryz.underlying9 rfl) <| ja (.string ⟨(toU8 ([IntKind.wrap .u8 xa] : List Int)).toArray⟩) rfl <| J.nil <| CJ.ret ?_
      obtain rfl := si h
      exact ⟨_, _, Res.one rfl rfl, ⟨toU8 ([IntKind.wrap .u8 xa] : List Int), rfl, rfl, rfl⟩, (Hp.le_refl _), fun w hs => (Sep.dropAt 0 rfl hs)⟩
    refine CJ.skip <| CJ.seq ?_
    obtain ⟨o183, ho184, h⟩ := ob h
    refine CJ.meetN (fun ρ K' L' => ∃ (s182 : List UInt8), s182 = o183 ∧ Fits [(2, .string ⟨s182.toArray⟩)] ρ ∧ K = K' ∧ F = L') ?_ ?_
    · refine CJ.tree [] (.still [0, 1, 3, 4, 5] (.alt 2 (.alt 6 (.alt 7 (.leaf [8, 9]) .done) .done) (.alt 6 (.alt 2 (.alt 7 (.leaf [8, 9]) .done) (.alt 7 (.alt 2 (.leaf [8, 9]) .done) .done)) .done))) [] mixO (by decide +kernel) trivial rfl <| JT.still rfl <| qm (ii xa) rfl <| qv (ii (IntKind.wrap .i64 (Int.tdiv xa 256))) (V.quo rfl rfl (by decide)) <| qm (ii xa) rfl <| qv (ii (Int.tmod xa 256)) (V.rem rfl rfl (by decide)) <| qv (.int .u8 (IntKind.wrap .u8 (Int.tmod xa 256))) (V.conv Tryz.underlying3 Tryz.underlying5 rfl) ?_
      refine JQ.nil ?_
      obtain ⟨r213, hr214, ho184⟩ := ob ho184
      refine JT.alt rfl ?_ ?_
      · refine JB.op rfl (A.call (L1 := []) Tryz.call109 rfl (ih hr214) rfl rfl) ?_
        rintro _ _ _ ⟨v216, _, rfl, ⟨⟨s212, rfl, rfl, rfl⟩, rfl⟩, _, rfl⟩
        refine ⟨fun w hs => Hold.sub (Hp.le_refl _) trivial hs, ?_⟩
        refine JT.alt rfl ?_ JT.done
        refine JB.op rfl (A.lit (K0 := Hp.nil) (ty := (.int .u8)) (xs := ([IntKind.wrap .u8 (Int.tmod xa 256)] : List Int)) Tryz.underlying105 inf5 rfl (by decide) rfl rfl rfl ⟨_, _, rfl, rfl, rfl⟩ rfl (by decide)) ?_
        rintro _ _ _ ⟨b219, rfl, rfl, rfl⟩
        have hn220 : ([IntKind.wrap .u8 (Int.tmod xa 256)] : List Int) ≠ [] → ∃ g, (some ⟨b219, 0, none⟩ : Option Addr) = some ⟨g, 0, none⟩ := fun _ => ⟨b219, rfl⟩
        refine ⟨fun w hs => Hold.sub (Hp.le_refl _) trivial hs, ?_⟩
        refine JT.alt rfl ?_ JT.done
        refine JB.op rfl (A.val (v := .string ⟨(toU8 (([IntKind.wrap .u8 (Int.tmod xa 256)] : List Int))).toArray⟩) rfl (V.b2sR 0 rfl Tryz.underlying105 Tryz.underlying5 Tryz.underlying9 rfl)) ?_
        rintro _ _ _ ⟨rfl, rfl, rfl⟩
        refine ⟨fun w hs => Hold.sub (Hp.le_refl _) trivial hs, ?_⟩
        refine JT.leaf rfl ?_
        obtain ⟨z222, hz223, ho184⟩ := ob ho184
        refine qv (.string ⟨z222.toArray⟩) (V.cat rfl rfl hz223) <| qa (.string ⟨z222.toArray⟩) rfl <| JQ.nil <| J.dropAt 0 rfl <| J.nil ?_
        obtain rfl := si ho184
        exact ⟨rfl, ⟨z222, rfl, ⟨rfl, trivial⟩, rfl, rfl⟩⟩
      refine JT.alt rfl ?_ JT.done
      refine JB.op rfl (A.lit (K0 := Hp.nil) (ty := (.int .u8)) (xs := ([IntKind.wrap .u8 (Int.tmod xa 256)] : List Int)) Tryz.underlying105 inf5 rfl (by decide) rfl rfl rfl ⟨_, _, rfl, rfl, rfl⟩ rfl (by decide)) ?_
      rintro _ _ _ ⟨b224, rfl, rfl, rfl⟩
      have hn225 : ([IntKind.wrap .u8 (Int.tmod xa 256)] : List Int) ≠ [] → ∃ g, (some ⟨b224, 0, none⟩ : Option Addr) = some ⟨g, 0, none⟩ := fun _ => ⟨b224, rfl⟩
      refine ⟨fun w hs => Hold.sub (Hp.le_refl _) trivial hs, ?_⟩
      refine JT.alt rfl ?_ ?_
      · refine JB.op rfl (A.call (L1 := []) Tryz.call109 rfl (ih hr214) rfl rfl) ?_
        rintro _ _ _ ⟨v228, _, rfl, ⟨⟨s212, rfl, rfl, rfl⟩, rfl⟩, _, rfl⟩
        refine ⟨fun w hs => Hold.sub (Hp.le_refl _) trivial hs, ?_⟩
        refine JT.alt rfl ?_ JT.done
        refine JB.op rfl (A.val (v := .string ⟨(toU8 (([IntKind.wrap .u8 (Int.tmod xa 256)] : List Int))).toArray⟩) rfl (V.b2sR 0 rfl Tryz.underlying105 Tryz.underlying5 Tryz.underlying9 rfl)) ?_
        rintro _ _ _ ⟨rfl, rfl, rfl⟩
        refine ⟨fun w hs => Hold.sub (Hp.le_refl _) trivial hs, ?_⟩
        refine JT.leaf rfl ?_
        obtain ⟨z231, hz232, ho184⟩ := ob ho184
        refine qv (.string ⟨z231.toArray⟩) (V.cat rfl rfl hz232) <| qa (.string ⟨z231.toArray⟩) rfl <| JQ.nil <| J.dropAt 0 rfl <| J.nil ?_
        obtain rfl := si ho184
        exact ⟨rfl, ⟨z231, rfl, ⟨rfl, trivial⟩, rfl, rfl⟩⟩
      refine JT.alt rfl ?_ JT.done
      refine JB.op rfl (A.val (v := .string ⟨(toU8 (([IntKind.wrap .u8 (Int.tmod xa 256)] : List Int))).toArray⟩) rfl (V.b2sR 0 rfl Tryz.underlying105 Tryz.underlying5 Tryz.underlying9 rfl)) ?_
      rintro _ _ _ ⟨rfl, rfl, rfl⟩
      refine ⟨fun w hs => Hold.sub (Hp.le_refl _) trivial hs, ?_⟩
      refine JT.alt rfl ?_ JT.done
      refine JB.op rfl (A.call (L1 := []) Tryz.call109 rfl (ih hr214) rfl rfl) ?_
      rintro _ _ _ ⟨v234, _, rfl, ⟨⟨s212, rfl, rfl, rfl⟩, rfl⟩, _, rfl⟩
      refine ⟨fun w hs => Hold.sub (Hp.le_refl _) trivial hs, ?_⟩
      refine JT.leaf rfl ?_
      obtain ⟨z237, hz238, ho184⟩ := ob ho184
      refine qv (.string ⟨z237.toArray⟩) (V.cat rfl rfl hz238) <| qa (.string ⟨z237.toArray⟩) rfl <| JQ.nil <| J.dropAt 0 rfl <| J.nil ?_
      obtain rfl := si ho184
      exact ⟨rfl, ⟨z237, rfl, ⟨rfl, trivial⟩, rfl, rfl⟩⟩
    rintro ρ _ _ ⟨s182, rfl, hf239, rfl, rfl⟩
    obtain ⟨ρ, rfl⟩ := hf239.ex
    refine PJ.done <| CJ.ret ?_
    obtain rfl := si h
    exact ⟨_, _, Res.one rfl rfl, ⟨s182, rfl, rfl, rfl⟩, (Hp.le_refl _), fun w hs => hs⟩
set_option maxRecDepth 100000 in
set_option maxHeartbeats 4000000 in
theorem ref02_digits_ok {K : Hp} {xa : Int}   {r : List UInt8} (h : fn_ref02_digits xa = some r) :
    Tr Tryz.prog 109 #[ii xa] K [] (fun v K' L' => (∃ (s123 : List UInt8), s123 = r ∧ .string ⟨s123.toArray⟩ = v ∧ L' = []) ∧ K = K') := by
  obtain ⟨n, hn⟩ := lev_some h
  exact ref02_digits_okr n  hn

noncomputable def fn_ref02_Put (xa : Int) : Option (List UInt8) :=
  cond ((decide (xa < 0)) || (decide (4294967295 < xa))) (some (([] : List UInt8))) (cond (decide (xa < 248)) (some (toU8 ([IntKind.wrap .u8 xa] : List Int))) ((fn_ref02_digits xa).bind fun s31 => (app (toU8 (([IntKind.wrap .u8 (IntKind.wrap .i64 (247 + (((s31.length : Nat) : Int))))] : List Int))) s31).bind fun z38 => some (z38)))
set_option maxRecDepth 100000 in
set_option maxHeartbeats 4000000 in
theorem ref02_Put_ok {K : Hp} {xa : Int}   {r : List UInt8} (h : fn_ref02_Put xa = some r) :
    Tr Tryz.prog 92 #[ii xa] K [] (fun v K' L' => (∃ (s20 : List UInt8), s20 = r ∧ .string ⟨s20.toArray⟩ = v ∧ L' = []) ∧ K = K') := by
 refine Tr.k <| Tr.of Tryz.func92 rfl Tryz.ntmps92 rfl fun E F => ?_
 unfold fn_ref02_Put at h
 refine cr <| ja (.string ⟨([] : List UInt8).toArray⟩) rfl <| J.nil <| CJ.seq <| CJ.seq <| CJ.region ?_
 refine jm (ii xa) rfl <| jv (.bool (decide (xa < 0))) (V.lss rfl rfl) <| jm (.bool (decide (xa < 0))) rfl <| J.cut 3 <| jmeet [(9, .bool ((decide (xa < 0)) || (decide (4294967295 < xa)))), (0, ii xa)] ?_ ?_
 · rcases bt (decide (xa < 0)) with hc23 | hc23
   · refine J.skip rfl rfl rfl rfl hc23 <| J.skip rfl rfl rfl rfl hc23 <| jv (.bool true) (V.pickT rfl hc23 rfl) <| J.nil ?_
     exact ⟨rfl, ⟨(by simp only [hc23]; rfl), rfl, trivial⟩, rfl, rfl⟩
   refine J.run rfl rfl rfl hc23 <| jm (ii xa) rfl <| J.run rfl rfl rfl hc23 <| jv (.bool (decide (4294967295 < xa))) (V.gtr rfl rfl) <| jv (.bool (decide (4294967295 < xa))) (V.pickF rfl hc23 rfl) <| J.nil ?_
   exact ⟨rfl, ⟨(by simp only [hc23]; rfl), rfl, trivial⟩, rfl, rfl⟩
 intro ρ
 refine J.nil <| cc rfl h (fun hc24 h => ?_) fun hc24 h => ?_
 · refine cr <| ja (.string ⟨([] : List UInt8).toArray⟩) rfl <| J.nil <| CJ.ret ?_
   obtain rfl := si h
   exact ⟨_, _, Res.one rfl rfl, ⟨([] : List UInt8), rfl, rfl, rfl⟩, (Hp.le_refl _), fun w hs => hs⟩
 refine CJ.skip <| CJ.seq <| cr <| jm (ii xa) rfl <| jv (.bool (decide (xa < 248))) (V.lss rfl rfl) <| J.nil ?_
 refine cc rfl h (fun hc25 h => ?_) fun hc25 h => ?_
 · refine cr <| jm (ii xa) rfl <| jv (.int .u8 (IntKind.wrap .u8 xa)) (V.conv Tryz.underlying3 Tryz.underlying5 rfl) ?_
   refine J.op rfl (A.lit (K0 := Hp.nil) (ty := (.int .u8)) (xs := ([IntKind.wrap .u8 xa] : List Int)) Tryz.underlying105 inf5 rfl (by decide) rfl rfl rfl ⟨_, _, rfl, rfl, rfl⟩ rfl (by decide)) ?_
   rintro _ _ _ ⟨b26, rfl, rfl, rfl⟩
   have hn27 : ([IntKind.wrap .u8 xa] : List Int) ≠ [] → ∃ g, (some ⟨b26, 0, none⟩ : Option Addr) = some ⟨g, 0, none⟩ := fun _ => ⟨b26, rfl⟩
   refine jv (.string ⟨(toU8 ([IntKind.wrap .u8 xa] : List Int)).toArray⟩) (V.b2sR 0 rfl Tryz.underlying105 Tryz.underlying5 Tryz.underlying9 rfl) <| ja (.string ⟨(toU8 ([IntKind.wrap .u8 xa] : List Int)).toArray⟩) rfl <| J.nil <| CJ.ret ?_
   obtain rfl := si h
   exact ⟨_, _, Res.one rfl rfl, ⟨toU8 ([IntKind.wrap .u8 xa] : List Int), rfl, rfl, rfl⟩, (Hp.le_refl _), fun w hs => (Sep.dropAt 0 rfl hs)⟩
 refine CJ.skip <| cr <| jm (ii xa) rfl ?_
 obtain ⟨r29, hr30, h⟩ := ob h
 refine J.op rfl (A.call (L1 := []) Tryz.call109 rfl (ref02_digits_ok hr30) rfl rfl) ?_
 rintro _ _ _ ⟨v32, _, rfl, ⟨⟨s31, rfl, rfl, rfl⟩, rfl⟩, _, rfl⟩
 refine ja (.string ⟨s31.toArray⟩) rfl <| J.nil <| cr <| jm (.string ⟨s31.toArray⟩) rfl <| jv (ii (((s31.length : Nat) : Int))) (V.lens Tryz.underlying9 rfl) <| jv (ii (IntKind.wrap .i64 (247 + (((s31.length : Nat) : Int))))) (V.add rfl rfl) ?_
 refine jv (.int .u8 (IntKind.wrap .u8 (IntKind.wrap .i64 (247 + (((s31.length : Nat) : Int)))))) (V.conv Tryz.underlying3 Tryz.underlying5 rfl) ?_
 refine J.op rfl (A.lit (K0 := Hp.nil) (ty := (.int .u8)) (xs := ([IntKind.wrap .u8 (IntKind.wrap .i64 (247 + (((s31.length : Nat) : Int))))] : List Int)) Tryz.underlying105 inf5 rfl (by decide) rfl rfl rfl ⟨_, _, rfl, rfl, rfl⟩ rfl (by decide)) ?_
 rintro _ _ _ ⟨b35, rfl, rfl, rfl⟩
 have hn36 : ([IntKind.wrap .u8 (IntKind.wrap .i64 (247 + (((s31.length : Nat) : Int))))] : List Int) ≠ [] → ∃ g, (some ⟨b35, 0, none⟩ : Option Addr) = some ⟨g, 0, none⟩ := fun _ => ⟨b35, rfl⟩
 refine jv (.string ⟨(toU8 (([IntKind.wrap .u8 (IntKind.wrap .i64 (247 + (((s31.length : Nat) : Int))))] : List Int))).toArray⟩) (V.b2sR 0 rfl Tryz.underlying105 Tryz.underlying5 Tryz.underlying9 rfl) <| jm (.string ⟨s31.toArray⟩) rfl ?_
 obtain ⟨z38, hz39, h⟩ := ob h
 refine jv (.string ⟨z38.toArray⟩) (V.cat rfl rfl hz39) <| ja (.string ⟨z38.toArray⟩) rfl <| J.nil <| CJ.ret ?_
 obtain rfl := si h
 exact ⟨_, _, Res.one rfl rfl, ⟨z38, rfl, rfl, rfl⟩, (Hp.le_refl _), fun w hs => (Sep.dropAt 0 rfl hs)⟩
noncomputable def fn_ref17_PutBounds_l1 (xa : (List (Int × Int))) : (List UInt8 × Int) → Option ((List UInt8 × Int) ⊕ List UInt8) := fun ((s744, i745) : (List UInt8 × Int)) => cond (decide (i745 < (((xa.length : Nat) : Int)))) ((getI xa i745).bind fun x856 => (getI xa i745).bind fun x865 => (fn_ref02_Put x856.1).bind fun s876 => (app s744 s876).bind fun z880 => (fn_ref02_Put x865.2).bind fun s884 => (app z880 s884).bind fun z888 => some (.inl ((z888, IntKind.wrap .i64 (i745 + 1))))) (some (.inr (s744)))
noncomputable def fn_ref17_PutBounds (xa : (List (Int × Int))) : Option (List UInt8) :=
  (fn_ref02_Put (((xa.length : Nat) : Int))).bind fun s449 => (loop (fn_ref17_PutBounds_l1 xa) (s449, 0) : Option (List UInt8)).bind fun s670 => some (s670)
set_option maxRecDepth 100000 in
set_option maxHeartbeats 4000000 in
theorem ref17_PutBounds_ok {K : Hp} {xa : (List (Int × Int))} {adxa_0 : Option Addr} {cpxa_0 : Nat} (fxa_0 : Is K (.sl (.cons (.int .i64) (.one (.int .i64)))) [.slice adxa_0 xa.length cpxa_0] xa) {r : List UInt8} (h : fn_ref17_PutBounds xa = some r) :
    Tr Tryz.prog 93 #[.slice adxa_0 xa.length cpxa_0] K [] (fun v K' L' => (∃ (s446 : List UInt8), s446 = r ∧ .string ⟨s446.toArray⟩ = v ∧ L' = []) ∧ K = K') := by
 refine Tr.k <| Tr.of Tryz.func93 rfl Tryz.ntmps93 rfl fun E F => ?_
 unfold fn_ref17_PutBounds at h
 refine cr <| ja (.string ⟨([] : List UInt8).toArray⟩) rfl <| J.nil <| cr <| jm (.slice adxa_0 xa.length cpxa_0) rfl ?_
 refine jv (ii (((xa.length : Nat) : Int))) (V.len Tryz.underlying26 rfl) ?_
 obtain ⟨r447, hr448, h⟩ := ob h
 refine J.op rfl (A.call (L1 := []) Tryz.call92 rfl (ref02_Put_ok hr448) rfl rfl) ?_
 rintro _ _ _ ⟨v450, _, rfl, ⟨⟨s449, rfl, rfl, rfl⟩, rfl⟩, _, rfl⟩
 refine ja (.string ⟨s449.toArray⟩) rfl <| J.nil <| CJ.seq <| cr <| ja (ii 0) rfl <| J.nil ?_
 obtain ⟨o671, ho672, h⟩ := ob h
 refine CJ.meetN (fun ρ K' L' => ∃ (s670 : List UInt8), s670 = o671 ∧ Fits [(3, .string ⟨s670.toArray⟩)] ρ ∧ K = K' ∧ F = L') ?_ ?_
 · refine CJ.block <| CJ.loop (fun s ρ K' L' => ∃ (s744 : List UInt8) (i745 : Int), (s744, i745) = s ∧ Fits [(0, .slice adxa_0 xa.length cpxa_0), (3, .string ⟨s744.toArray⟩), (4, ii i745)] ρ ∧ K = K' ∧ F = L') ho672 ⟨s449, 0, rfl, ⟨rfl, rfl, rfl, trivial⟩, rfl, rfl⟩ ?_
   rintro s ρ _ _ r820 ⟨s744, i745, rfl, hf818, rfl, rfl⟩ h817
   obtain ⟨ρ, rfl⟩ := hf818.ex
   refine CJ.seq <| cr <| jm (ii i745) rfl <| jm (.slice adxa_0 xa.length cpxa_0) rfl <| jv (ii (((xa.length : Nat) : Int))) (V.len Tryz.underlying26 rfl) <| jv (.bool (decide (i745 < (((xa.length : Nat) : Int))))) (V.lss rfl rfl) ?_
   refine J.nil <| cc rfl h817 (fun hc821 h817 => ?_) fun hc821 h817 => ?_
   · refine CJ.skip <| CJ.seq <| CJ.block <| CJ.mix [] [([0, 1, 2, 3, 4, 5, 8, 9, 10, 11, 12], 6), ([7], 13)] [14, 15] [] mixO (by decide +kernel) trivial rfl rfl rfl <| JM.cons <| qm (.string ⟨s744.toArray⟩) rfl <| qm (.slice adxa_0 xa.length cpxa_0) rfl ?_
     refine qm (ii i745) rfl ?_
     obtain ⟨x856, hx857, h817⟩ := ob h817
     obtain ⟨p858, p859, p860⟩ := getI_some hx857
     obtain ⟨b861, o862, e863, a864⟩ := (fxa_0).at p859
     refine qv _ (V.iad Tryz.underlying26 sz95 rfl e863 rfl p858 p860) <| qv _ (V.fad Tryz.underlying95 rfl nz3 rfl) <| qv (ii x856.1) (V.ld rfl (Ld.sc sc3 (Rd.k ((a864).fst).int (Hp.le_refl _)))) <| qm (.slice adxa_0 xa.length cpxa_0) rfl <| qm (ii i745) rfl ?_
     obtain ⟨x865, hx866, h817⟩ := ob h817
     obtain ⟨p867, p868, p869⟩ := getI_some hx866
     obtain ⟨b870, o871, e872, a873⟩ := (fxa_0).at p868
     refine qv _ (V.iad Tryz.underlying26 sz95 rfl e872 rfl p867 p869) <| qv _ (V.fad Tryz.underlying95 rfl nz3 rfl) <| qv (ii x865.2) (V.ld rfl (Ld.sc sc3 (Rd.k (((a873).snd).one).int (Hp.le_refl _)))) <| JQ.nil ?_
     obtain ⟨r874, hr875, h817⟩ := ob h817
     refine JA.op rfl (A.call (L1 := []) Tryz.call92 rfl (ref02_Put_ok hr875) rfl rfl) ?_
     rintro _ _ _ ⟨v877, _, rfl, ⟨⟨s876, rfl, rfl, rfl⟩, rfl⟩, _, rfl⟩
     refine ⟨fun w hs => Hold.sub (Hp.le_refl _) trivial hs, ?_⟩
     refine JM.cons ?_
     obtain ⟨z880, hz881, h817⟩ := ob h817
     refine qv (.string ⟨z880.toArray⟩) (V.cat rfl rfl hz881) <| JQ.nil ?_
     obtain ⟨r882, hr883, h817⟩ := ob h817
     refine JA.op rfl (A.call (L1 := []) Tryz.call92 rfl (ref02_Put_ok hr883) rfl rfl) ?_
     rintro _ _ _ ⟨v885, _, rfl, ⟨⟨s884, rfl, rfl, rfl⟩, rfl⟩, _, rfl⟩
     refine ⟨fun w hs => Hold.sub (Hp.le_refl _) trivial hs, ?_⟩
     refine JM.nil ?_
     obtain ⟨z888, hz889, h817⟩ := ob h817
     refine qv (.string ⟨z888.toArray⟩) (V.cat rfl rfl hz889) <| qa (.string ⟨z888.toArray⟩) rfl <| JQ.nil <| J.nil <| CJ.region <| jm (ii i745) rfl <| jv (ii (IntKind.wrap .i64 (i745 + 1))) (V.add rfl rfl) ?_
     refine ja (ii (IntKind.wrap .i64 (i745 + 1))) rfl <| J.nil ?_
     obtain rfl := si h817
     exact ⟨rfl, ⟨z888, IntKind.wrap .i64 (i745 + 1), rfl, ⟨rfl, rfl, rfl, trivial⟩, rfl, rfl⟩⟩
   refine CJ.exit ?_
   obtain rfl := si h817
   refine ⟨nofun, fun e => ?_⟩
   subst e
   exact ⟨rfl, ⟨s744, rfl, ⟨rfl, trivial⟩, rfl, rfl⟩⟩
 rintro ρ _ _ ⟨s670, rfl, hf890, rfl, rfl⟩
 obtain ⟨ρ, rfl⟩ := hf890.ex
 refine PJ.done <| cr <| jm (.string ⟨s670.toArray⟩) rfl <| ja (.string ⟨s670.toArray⟩) rfl <| J.nil <| CJ.ret ?_
 obtain rfl := si h
 exact ⟨_, _, Res.one rfl rfl, ⟨s670, rfl, rfl, rfl⟩, (Hp.le_refl _), fun w hs => hs⟩
noncomputable def fn_ref17_PutType_l1 (xa : (List (Int × Bool))) : (List UInt8 × Int) → Option ((List UInt8 × Int) ⊕ List UInt8) := fun ((s486, i487) : (List UInt8 × Int)) => cond (decide (i487 < (((xa.length : Nat) : Int)))) ((getI xa i487).bind fun x538 => ((getI xa i487).bind fun x560 => cond (x560.2) (some (IntKind.wrap .i64 ((IntKind.wrap .i64 (2 * x538.1)) + 1))) (some (IntKind.wrap .i64 (2 * x538.1))) : Option Int).bind fun i557 => (fn_ref02_Put i557).bind fun s574 => (app s486 s574).bind fun z578 => some (.inl ((z578, IntKind.wrap .i64 (i487 + 1))))) (some (.inr (s486)))
noncomputable def fn_ref17_PutType (xa : (List (Int × Bool))) : Option (List UInt8) :=
  (fn_ref02_Put (((xa.length : Nat) : Int))).bind fun s295 => (loop (fn_ref17_PutType_l1 xa) (s295, 0) : Option (List UInt8)).bind fun s438 => some (s438)
set_option maxRecDepth 100000 in
set_option maxHeartbeats 4000000 in
theorem ref17_PutType_ok {K : Hp} {xa : (List (Int × Bool))} {adxa_0 : Option Addr} {cpxa_0 : Nat} (fxa_0 : Is K (.sl (.cons (.int .i64) (.one .bool))) [.slice adxa_0 xa.length cpxa_0] xa) {r : List UInt8} (h : fn_ref17_PutType xa = some r) :
    Tr Tryz.prog 94 #[.agg #[.slice adxa_0 xa.length cpxa_0]] K [] (fun v K' L' => (∃ (s291 : List UInt8), s291 = r ∧ .string ⟨s291.toArray⟩ = v ∧ L' = []) ∧ K = K') := by
 refine Tr.k <| Tr.of Tryz.func94 rfl Tryz.ntmps94 rfl fun E F => ?_
 unfold fn_ref17_PutType at h
 refine cr <| jbx [.slice adxa_0 xa.length cpxa_0] rfl rfl fun b292 => ja (.string ⟨([] : List UInt8).toArray⟩) rfl <| J.nil <| CJ.seq <| CJ.region ?_
 refine jv _ (V.fad Tryz.underlying30 rfl nz28 rfl) <| jv (.slice adxa_0 xa.length cpxa_0) (V.ld rfl (Ld.sc sc28 (Rd.cl 0 rfl rfl))) <| jv (ii (((xa.length : Nat) : Int))) (V.len Tryz.underlying28 rfl) ?_
 obtain ⟨r293, hr294, h⟩ := ob h
 refine J.op rfl (A.call (L1 := []) Tryz.call92 rfl (ref02_Put_ok hr294) rfl rfl) ?_
 rintro _ _ _ ⟨v296, _, rfl, ⟨⟨s295, rfl, rfl, rfl⟩, rfl⟩, _, rfl⟩
 refine ja (.string ⟨s295.toArray⟩) rfl <| J.nil <| CJ.seq <| cr <| ja (ii 0) rfl <| J.nil ?_
 obtain ⟨o439, ho440, h⟩ := ob h
 refine CJ.meetN (fun ρ K' L' => ∃ (s438 : List UInt8), s438 = o439 ∧ Fits [(3, .string ⟨s438.toArray⟩)] ρ ∧ K = K' ∧ F = L') ?_ ?_
 · refine CJ.block <| CJ.loop (fun s ρ K' L' => ∃ (s486 : List UInt8) (i487 : Int), (s486, i487) = s ∧ Fits [(1, .pointer (some ⟨b292, 0, none⟩)), (3, .string ⟨s486.toArray⟩), (4, ii i487)] ρ ∧ K = K' ∧ L' = Cl b292 30 [.slice adxa_0 xa.length cpxa_0] :: F) ho440 ⟨s295, 0, rfl, ⟨rfl, rfl, rfl, trivial⟩, rfl, rfl⟩ ?_
   rintro s ρ _ _ r536 ⟨s486, i487, rfl, hf534, rfl, rfl⟩ h533
   obtain ⟨ρ, rfl⟩ := hf534.ex
   refine CJ.seq <| cr <| jm (ii i487) rfl <| jv _ (V.fad Tryz.underlying30 rfl nz28 rfl) <| jv (.slice adxa_0 xa.length cpxa_0) (V.ld rfl (Ld.sc sc28 (Rd.cl 0 rfl rfl))) <| jv (ii (((xa.length : Nat) : Int))) (V.len Tryz.underlying28 rfl) ?_
   refine jv (.bool (decide (i487 < (((xa.length : Nat) : Int))))) (V.lss rfl rfl) <| J.nil <| cc rfl h533 (fun hc537 h533 => ?_) fun hc537 h533 => ?_
   · refine CJ.skip <| CJ.seq <| CJ.block <| cr <| jv _ (V.fad Tryz.underlying30 rfl nz28 rfl) <| jv (.slice adxa_0 xa.length cpxa_0) (V.ld rfl (Ld.sc sc28 (Rd.cl 0 rfl rfl))) ?_
     refine jm (ii i487) rfl ?_
     obtain ⟨x538, hx539, h533⟩ := ob h533
     obtain ⟨p540, p541, p542⟩ := getI_some hx539
     obtain ⟨b543, o544, e545, a546⟩ := (fxa_0).at p541
     refine jv _ (V.iad Tryz.underlying28 sz146 rfl e545 rfl p540 p542) <| jv _ (V.fad Tryz.underlying146 rfl nz3 rfl) <| jv (ii x538.1) (V.ld rfl (Ld.sc sc3 (Rd.k ((a546).fst).int (Hp.le_refl _)))) <| jv (ii (IntKind.wrap .i64 (2 * x538.1))) (V.mul rfl rfl) <| ja (ii (IntKind.wrap .i64 (2 * x538.1))) rfl <| J.nil <| CJ.seq ?_
     obtain ⟨o558, ho559, h533⟩ := ob h533
     refine CJ.meetN (fun ρ K' L' => ∃ (i557 : Int), i557 = o558 ∧ Fits [(1, .pointer (some ⟨b292, 0, none⟩)), (3, .string ⟨s486.toArray⟩), (4, ii i487), (5, ii i557)] ρ ∧ K = K' ∧ L' = Cl b292 30 [.slice adxa_0 xa.length cpxa_0] :: F) ?_ ?_
     · refine cr <| jv _ (V.fad Tryz.underlying30 rfl nz28 rfl) <| jv (.slice adxa_0 xa.length cpxa_0) (V.ld rfl (Ld.sc sc28 (Rd.cl 0 rfl rfl))) <| jm (ii i487) rfl ?_
       obtain ⟨x560, hx561, ho559⟩ := ob ho559
       obtain ⟨p562, p563, p564⟩ := getI_some hx561
       obtain ⟨b565, o566, e567, a568⟩ := (fxa_0).at p563
       refine jv _ (V.iad Tryz.underlying28 sz146 rfl e567 rfl p562 p564) <| jv _ (V.fad Tryz.underlying146 rfl nz4 rfl) <| jv (.bool x560.2) (V.ld rfl (Ld.sc sc4 (Rd.k (((a568).snd).one).bool (Hp.le_refl _)))) <| J.nil <| cc rfl ho559 (fun hc569 ho559 => ?_) fun hc569 ho559 => ?_
       · refine CJ.region <| jm (ii (IntKind.wrap .i64 (2 * x538.1))) rfl <| jv (ii (IntKind.wrap .i64 ((IntKind.wrap .i64 (2 * x538.1)) + 1))) (V.add rfl rfl) <| ja (ii (IntKind.wrap .i64 ((IntKind.wrap .i64 (2 * x538.1)) + 1))) rfl <| J.nil ?_
         obtain rfl := si ho559
         exact ⟨rfl, ⟨IntKind.wrap .i64 ((IntKind.wrap .i64 (2 * x538.1)) + 1), rfl, ⟨rfl, rfl, rfl, rfl, trivial⟩, rfl, rfl⟩⟩
       refine CJ.skip ?_
       obtain rfl := si ho559
       exact ⟨rfl, ⟨IntKind.wrap .i64 (2 * x538.1), rfl, ⟨rfl, rfl, rfl, rfl, trivial⟩, rfl, rfl⟩⟩
     rintro ρ _ _ ⟨i557, rfl, hf570, rfl, rfl⟩
     obtain ⟨ρ, rfl⟩ := hf570.ex
     refine PJ.done <| CJ.region <| jm (.string ⟨s486.toArray⟩) rfl <| jm (ii i557) rfl ?_
     obtain ⟨r572, hr573, h533⟩ := ob h533
     refine J.op rfl (A.call (L1 := []) Tryz.call92 rfl (ref02_Put_ok hr573) rfl rfl) ?_
     rintro _ _ _ ⟨v575, _, rfl, ⟨⟨s574, rfl, rfl, rfl⟩, rfl⟩, _, rfl⟩
     obtain ⟨z578, hz579, h533⟩ := ob h533
     refine jv (.string ⟨z578.toArray⟩) (V.cat rfl rfl hz579) <| ja (.string ⟨z578.toArray⟩) rfl <| J.nil <| CJ.region <| jm (ii i487) rfl <| jv (ii (IntKind.wrap .i64 (i487 + 1))) (V.add rfl rfl) <| ja (ii (IntKind.wrap .i64 (i487 + 1))) rfl ?_
     refine J.nil ?_
     obtain rfl := si h533
     exact ⟨rfl, ⟨z578, IntKind.wrap .i64 (i487 + 1), rfl, ⟨rfl, rfl, rfl, trivial⟩, rfl, rfl⟩⟩
   refine CJ.dropAt 0 rfl <| CJ.exit ?_
   obtain rfl := si h533
   refine ⟨nofun, fun e => ?_⟩
   subst e
   exact ⟨rfl, ⟨s486, rfl, ⟨rfl, trivial⟩, rfl, rfl⟩⟩
 rintro ρ _ _ ⟨s438, rfl, hf580, rfl, rfl⟩
 obtain ⟨ρ, rfl⟩ := hf580.ex
 refine PJ.done <| cr <| jm (.string ⟨s438.toArray⟩) rfl <| ja (.string ⟨s438.toArray⟩) rfl <| J.nil <| CJ.ret ?_
 obtain rfl := si h
 exact ⟨_, _, Res.one rfl rfl, ⟨s438, rfl, rfl, rfl⟩, (Hp.le_refl _), fun w hs => hs⟩
noncomputable def fn_ref17_Put_l1 (xa : (Int × (List (Int × Int)) × (List (List (Int × Bool))) × (List (Int × Bool)))) : (List UInt8 × Int) → Option ((List UInt8 × Int) ⊕ List UInt8) := fun ((s360, i361) : (List UInt8 × Int)) => cond (decide (i361 < (((xa.2.2.1.length : Nat) : Int)))) ((getI xa.2.2.1 i361).bind fun x391 => (fn_ref17_PutType x391).bind fun s406 => (app s360 s406).bind fun z410 => some (.inl ((z410, IntKind.wrap .i64 (i361 + 1))))) (some (.inr (s360)))
noncomputable def fn_ref17_Put (xa : (Int × (List (Int × Int)) × (List (List (Int × Bool))) × (List (Int × Bool)))) : Option (List UInt8) :=
  (fn_ref02_Put xa.1).bind fun s237 => (fn_ref17_PutBounds xa.2.1).bind fun s243 => (app s237 s243).bind fun z247 => (fn_ref02_Put (((xa.2.2.1.length : Nat) : Int))).bind fun s251 => (app z247 s251).bind fun z255 => (loop (fn_ref17_Put_l1 xa) (z255, 0) : Option (List UInt8)).bind fun s333 => (fn_ref17_PutType xa.2.2.2).bind fun s416 => (app s333 s416).bind fun z420 => some (z420)
set_option maxRecDepth 100000 in
set_option maxHeartbeats 4000000 in
theorem ref17_Put_ok {K : Hp} {xa : (Int × (List (Int × Int)) × (List (List (Int × Bool))) × (List (Int × Bool)))} {adxa_1 : Option Addr} {cpxa_1 : Nat} {adxa_2 : Option Addr} {cpxa_2 : Nat} {adxa_3 : Option Addr} {cpxa_3 : Nat} (fxa_1 : Is K (.sl (.cons (.int .i64) (.one (.int .i64)))) [.slice adxa_1 xa.2.1.length cpxa_1] xa.2.1) (fxa_2 : Is K (.sl (.one (.sl (.cons (.int .i64) (.one .bool))))) [.slice adxa_2 xa.2.2.1.length cpxa_2] xa.2.2.1) (fxa_3 : Is K (.sl (.cons (.int .i64) (.one .bool))) [.slice adxa_3 xa.2.2.2.length cpxa_3] xa.2.2.2) {r : List UInt8} (h : fn_ref17_Put xa = some r) :
    Tr Tryz.prog 95 #[.agg #[ii xa.1, .slice adxa_1 xa.2.1.length cpxa_1, .slice adxa_2 xa.2.2.1.length cpxa_2, .slice adxa_3 xa.2.2.2.length cpxa_3]] K [] (fun v K' L' => (∃ (s211 : List UInt8), s211 = r ∧ .string ⟨s211.toArray⟩ = v ∧ L' = []) ∧ K = K') := by
 refine Tr.k <| Tr.of Tryz.func95 rfl Tryz.ntmps95 rfl fun E F => ?_
 unfold fn_ref17_Put at h
 refine cr <| jbx [ii xa.1, .slice adxa_1 xa.2.1.length cpxa_1, .slice adxa_2 xa.2.2.1.length cpxa_2, .slice adxa_3 xa.2.2.2.length cpxa_3] rfl rfl fun b212 => ja (.string ⟨([] : List UInt8).toArray⟩) rfl <| J.nil <| CJ.seq <| CJ.mix [Cl b212 63 [ii xa.1, .slice adxa_1 xa.2.1.length cpxa_1, .slice adxa_2 xa.2.2.1.length cpxa_2, .slice adxa_3 xa.2.2.2.length cpxa_3]] [([0, 1, 3, 4, 7, 8, 9], 2), ([], 5), ([6], 10)] [11, 12] [] mixO (by decide +kernel) ⟨0, rfl, trivial⟩ rfl rfl rfl ?_
 refine JM.cons <| qv _ (V.fad Tryz.underlying63 rfl nz3 rfl) <| qv (ii xa.1) (V.ld rfl (Ld.sc sc3 (Rd.cl 0 rfl rfl))) <| qv _ (V.fad Tryz.underlying63 rfl nz26 rfl) <| qv (.slice adxa_1 xa.2.1.length cpxa_1) (V.ld rfl (Ld.sc sc26 (Rd.cl 0 rfl rfl))) <| qv _ (V.fad Tryz.underlying63 rfl nz27 rfl) <| qv (.slice adxa_2 xa.2.2.1.length cpxa_2) (V.ld rfl (Ld.sc sc27 (Rd.cl 0 rfl rfl))) ?_
 refine qv (ii (((xa.2.2.1.length : Nat) : Int))) (V.len Tryz.underlying27 rfl) <| JQ.nil ?_
 obtain ⟨r235, hr236, h⟩ := ob h
 refine JA.op rfl (A.call (L1 := []) Tryz.call92 rfl (ref02_Put_ok hr236) rfl rfl) ?_
 rintro _ _ _ ⟨v238, _, rfl, ⟨⟨s237, rfl, rfl, rfl⟩, rfl⟩, _, rfl⟩
 refine ⟨fun w hs => Hold.sub (Hp.le_refl _) ⟨0, rfl, trivial⟩ hs, ?_⟩
 refine JM.cons <| JQ.nil ?_
 obtain ⟨r241, hr242, h⟩ := ob h
 refine JA.op rfl (A.call (L1 := []) Tryz.call93 rfl (ref17_PutBounds_ok fxa_1 hr242) rfl rfl) ?_
 rintro _ _ _ ⟨v244, _, rfl, ⟨⟨s243, rfl, rfl, rfl⟩, rfl⟩, _, rfl⟩
 refine ⟨fun w hs => Hold.sub (Hp.le_refl _) ⟨0, rfl, trivial⟩ hs, ?_⟩
 refine JM.cons ?_
 obtain ⟨z247, hz248, h⟩ := ob h
 refine qv (.string ⟨z247.toArray⟩) (V.cat rfl rfl hz248) <| JQ.nil ?_
 obtain ⟨r249, hr250, h⟩ := ob h
 refine JA.op rfl (A.call (L1 := []) Tryz.call92 rfl (ref02_Put_ok hr250) rfl rfl) ?_
 rintro _ _ _ ⟨v252, _, rfl, ⟨⟨s251, rfl, rfl, rfl⟩, rfl⟩, _, rfl⟩
 refine ⟨fun w hs => Hold.sub (Hp.le_refl _) ⟨0, rfl, trivial⟩ hs, ?_⟩
 refine JM.nil ?_
 obtain ⟨z255, hz256, h⟩ := ob h
 refine qv (.string ⟨z255.toArray⟩) (V.cat rfl rfl hz256) <| qa (.string ⟨z255.toArray⟩) rfl <| JQ.nil <| J.nil <| CJ.seq <| CJ.seq <| CJ.region ?_
 refine ja (ii 0) rfl <| J.nil ?_
 obtain ⟨o334, ho335, h⟩ := ob h
 refine CJ.meetN (fun ρ K' L' => ∃ (s333 : List UInt8), s333 = o334 ∧ Fits [(1, .pointer (some ⟨b212, 0, none⟩)), (3, .string ⟨s333.toArray⟩)] ρ ∧ K = K' ∧ L' = Cl b212 63 [ii xa.1, .slice adxa_1 xa.2.1.length cpxa_1, .slice adxa_2 xa.2.2.1.length cpxa_2, .slice adxa_3 xa.2.2.2.length cpxa_3] :: F) ?_ ?_
 · refine CJ.block <| CJ.loop (fun s ρ K' L' => ∃ (s360 : List UInt8) (i361 : Int), (s360, i361) = s ∧ Fits [(1, .pointer (some ⟨b212, 0, none⟩)), (3, .string ⟨s360.toArray⟩), (4, ii i361)] ρ ∧ K = K' ∧ L' = Cl b212 63 [ii xa.1, .slice adxa_1 xa.2.1.length cpxa_1, .slice adxa_2 xa.2.2.1.length cpxa_2, .slice adxa_3 xa.2.2.2.length cpxa_3] :: F) ho335 ⟨z255, 0, rfl, ⟨rfl, rfl, rfl, trivial⟩, rfl, rfl⟩ ?_
   rintro s ρ _ _ r389 ⟨s360, i361, rfl, hf387, rfl, rfl⟩ h386
   obtain ⟨ρ, rfl⟩ := hf387.ex
   refine CJ.seq <| cr <| jm (ii i361) rfl <| jv _ (V.fad Tryz.underlying63 rfl nz27 rfl) <| jv (.slice adxa_2 xa.2.2.1.length cpxa_2) (V.ld rfl (Ld.sc sc27 (Rd.cl 0 rfl rfl))) <| jv (ii (((xa.2.2.1.length : Nat) : Int))) (V.len Tryz.underlying27 rfl) ?_
   refine jv (.bool (decide (i361 < (((xa.2.2.1.length : Nat) : Int))))) (V.lss rfl rfl) <| J.nil <| cc rfl h386 (fun hc390 h386 => ?_) fun hc390 h386 => ?_
   · refine CJ.skip <| CJ.seq <| CJ.block <| CJ.region <| jm (.string ⟨s360.toArray⟩) rfl <| jv _ (V.fad Tryz.underlying63 rfl nz27 rfl) <| jv (.slice adxa_2 xa.2.2.1.length cpxa_2) (V.ld rfl (Ld.sc sc27 (Rd.cl 0 rfl rfl))) ?_
     refine jm (ii i361) rfl ?_
     obtain ⟨x391, hx392, h386⟩ := ob h386
     obtain ⟨p393, p394, p395⟩ := getI_some hx392
     obtain ⟨b396, o397, e398, a399⟩ := (fxa_2).at p394
     refine jv _ (V.iad Tryz.underlying27 sz30 rfl e398 rfl p393 p395) ?_
     obtain ⟨ad400, cp401, c402, f403⟩ := ((a399).one).sl
     refine jv (.agg #[.slice ad400 x391.length cp401]) (V.ld rfl (Ld.aggK (cs := [.slice ad400 x391.length cp401]) Tryz.underlying30 sz30 rfl ⟨c402, trivial⟩ (Hp.le_refl _))) ?_
     obtain ⟨r404, hr405, h386⟩ := ob h386
     refine J.op rfl (A.call (L1 := []) Tryz.call94 rfl (ref17_PutType_ok f403 hr405) rfl rfl) ?_
     rintro _ _ _ ⟨v407, _, rfl, ⟨⟨s406, rfl, rfl, rfl⟩, rfl⟩, _, rfl⟩
     obtain ⟨z410, hz411, h386⟩ := ob h386
     refine jv (.string ⟨z410.toArray⟩) (V.cat rfl rfl hz411) <| ja (.string ⟨z410.toArray⟩) rfl <| J.nil <| CJ.region <| jm (ii i361) rfl <| jv (ii (IntKind.wrap .i64 (i361 + 1))) (V.add rfl rfl) <| ja (ii (IntKind.wrap .i64 (i361 + 1))) rfl ?_
     refine J.nil ?_
     obtain rfl := si h386
     exact ⟨rfl, ⟨z410, IntKind.wrap .i64 (i361 + 1), rfl, ⟨rfl, rfl, rfl, trivial⟩, rfl, rfl⟩⟩
   refine CJ.exit ?_
   obtain rfl := si h386
   refine ⟨nofun, fun e => ?_⟩
   subst e
   exact ⟨rfl, ⟨s360, rfl, ⟨rfl, rfl, trivial⟩, rfl, rfl⟩⟩
 rintro ρ _ _ ⟨s333, rfl, hf412, rfl, rfl⟩
 obtain ⟨ρ, rfl⟩ := hf412.ex
 refine PJ.done <| cr <| jm (.string ⟨s333.toArray⟩) rfl <| jv _ (V.fad Tryz.underlying63 rfl nz30 rfl) <| jv (.agg #[.slice adxa_3 xa.2.2.2.length cpxa_3]) (V.ld rfl (Ld.agg (cs := [.slice adxa_3 xa.2.2.2.length cpxa_3]) Tryz.underlying30 sz30 rfl (Rd.cls 0 3 rfl rfl))) ?_
 obtain ⟨r414, hr415, h⟩ := ob h
 refine J.op rfl (A.call (L1 := []) Tryz.call94 rfl (ref17_PutType_ok fxa_3 hr415) rfl rfl) ?_
 rintro _ _ _ ⟨v417, _, rfl, ⟨⟨s416, rfl, rfl, rfl⟩, rfl⟩, _, rfl⟩
 obtain ⟨z420, hz421, h⟩ := ob h
 refine jv (.string ⟨z420.toArray⟩) (V.cat rfl rfl hz421) <| ja (.string ⟨z420.toArray⟩) rfl <| J.nil <| CJ.ret ?_
 obtain rfl := si h
 exact ⟨_, _, Res.one rfl rfl, ⟨z420, rfl, rfl, rfl⟩, (Hp.le_refl _), fun w hs => (Sep.dropAt 0 rfl hs)⟩

noncomputable def fn_ref18_Dst (xa : Int) : Option Bool :=
  some ((((decide (xa = 1)) || (decide (xa = 2))) || (decide (xa = 3))) || (decide (xa = 5)))
set_option maxRecDepth 100000 in
set_option maxHeartbeats 4000000 in
theorem ref18_Dst_ok {K : Hp} {xa : Int}   {r : Bool} (h : fn_ref18_Dst xa = some r) :
    Tr Tryz.prog 111 #[ii xa] K [] (fun v K' L' => (∃ (t10 : Bool), t10 = r ∧ .bool t10 = v ∧ L' = []) ∧ K = K') := by
 refine Tr.k <| Tr.of Tryz.func111 rfl Tryz.ntmps111 rfl fun E F => ?_
 unfold fn_ref18_Dst at h
 refine cr <| ja (.bool false) rfl <| J.nil <| cr <| jm (ii xa) rfl ?_
 refine jv (.bool (decide (xa = 1))) (V.eql rfl rfl) <| jm (.bool (decide (xa = 1))) rfl <| J.cut 3 <| jmeet [(8, .bool ((decide (xa = 1)) || (decide (xa = 2)))), (0, ii xa)] ?_ ?_
 · rcases bt (decide (xa = 1)) with hc13 | hc13
   · refine J.skip rfl rfl rfl rfl hc13 <| J.skip rfl rfl rfl rfl hc13 <| jv (.bool true) (V.pickT rfl hc13 rfl) <| J.nil ?_
     exact ⟨rfl, ⟨(by simp only [hc13]; rfl), rfl, trivial⟩, rfl, rfl⟩
   refine J.run rfl rfl rfl hc13 <| jm (ii xa) rfl <| J.run rfl rfl rfl hc13 <| jv (.bool (decide (xa = 2))) (V.eql rfl rfl) <| jv (.bool (decide (xa = 2))) (V.pickF rfl hc13 rfl) <| J.nil ?_
   exact ⟨rfl, ⟨(by simp only [hc13]; rfl), rfl, trivial⟩, rfl, rfl⟩
 intro ρ
 refine jm (.bool ((decide (xa = 1)) || (decide (xa = 2)))) rfl <| J.cut 3 <| jmeet [(12, .bool (((decide (xa = 1)) || (decide (xa = 2))) || (decide (xa = 3)))), (0, ii xa)] ?_ ?_
 · rcases bt ((decide (xa = 1)) || (decide (xa = 2))) with hc16 | hc16
   · refine J.skip rfl rfl rfl rfl hc16 <| J.skip rfl rfl rfl rfl hc16 <| jv (.bool true) (V.pickT rfl hc16 rfl) <| J.nil ?_
     exact ⟨rfl, ⟨(by simp only [hc16]; rfl), rfl, trivial⟩, rfl, rfl⟩
   refine J.run rfl rfl rfl hc16 <| jm (ii xa) rfl <| J.run rfl rfl rfl hc16 <| jv (.bool (decide (xa = 3))) (V.eql rfl rfl) <| jv (.bool (decide (xa = 3))) (V.pickF rfl hc16 rfl) <| J.nil ?_
   exact ⟨rfl, ⟨(by simp only [hc16]; rfl), rfl, trivial⟩, rfl, rfl⟩
 intro ρ
 refine jm (.bool (((decide (xa = 1)) || (decide (xa = 2))) || (decide (xa = 3)))) rfl <| J.cut 3 <| jmeet [(16, .bool ((((decide (xa = 1)) || (decide (xa = 2))) || (decide (xa = 3))) || (decide (xa = 5))))] ?_ ?_
 · rcases bt (((decide (xa = 1)) || (decide (xa = 2))) || (decide (xa = 3))) with hc19 | hc19
   · refine J.skip rfl rfl rfl rfl hc19 <| J.skip rfl rfl rfl rfl hc19 <| jv (.bool true) (V.pickT rfl hc19 rfl) <| J.nil ?_
     exact ⟨rfl, ⟨(by simp only [hc19]; rfl), trivial⟩, rfl, rfl⟩
   refine J.run rfl rfl rfl hc19 <| jm (ii xa) rfl <| J.run rfl rfl rfl hc19 <| jv (.bool (decide (xa = 5))) (V.eql rfl rfl) <| jv (.bool (decide (xa = 5))) (V.pickF rfl hc19 rfl) <| J.nil ?_
   exact ⟨rfl, ⟨(by simp only [hc19]; rfl), trivial⟩, rfl, rfl⟩
 intro ρ
 refine ja (.bool ((((decide (xa = 1)) || (decide (xa = 2))) || (decide (xa = 3))) || (decide (xa = 5)))) rfl <| J.nil <| CJ.ret ?_
 obtain rfl := si h
 exact ⟨_, _, Res.one rfl rfl, ⟨(((decide (xa = 1)) || (decide (xa = 2))) || (decide (xa = 3))) || (decide (xa = 5)), rfl, rfl, rfl⟩, (Hp.le_refl _), fun w hs => hs⟩

noncomputable def fn_ref18_Src (xa : Int) : Option Bool :=
  some ((decide (1 ≤ xa)) && (decide (xa ≤ 4)))
set_option maxRecDepth 100000 in
set_option maxHeartbeats 4000000 in
theorem ref18_Src_ok {K : Hp} {xa : Int}   {r : Bool} (h : fn_ref18_Src xa = some r) :
    Tr Tryz.prog 112 #[ii xa] K [] (fun v K' L' => (∃ (t4 : Bool), t4 = r ∧ .bool t4 = v ∧ L' = []) ∧ K = K') := by
 refine Tr.k <| Tr.of Tryz.func112 rfl Tryz.ntmps112 rfl fun E F => ?_
 unfold fn_ref18_Src at h
 refine cr <| ja (.bool false) rfl <| J.nil <| cr <| jm (ii xa) rfl ?_
 refine jv (.bool (decide (1 ≤ xa))) (V.geq rfl rfl) <| jm (.bool (decide (1 ≤ xa))) rfl <| J.cut 3 <| jmeet [(8, .bool ((decide (1 ≤ xa)) && (decide (xa ≤ 4))))] ?_ ?_
 · rcases bt (decide (1 ≤ xa)) with hc7 | hc7
   · refine J.run rfl rfl rfl hc7 <| jm (ii xa) rfl <| J.run rfl rfl rfl hc7 <| jv (.bool (decide (xa ≤ 4))) (V.leq rfl rfl) <| jv (.bool (decide (xa ≤ 4))) (V.pickT rfl hc7 rfl) <| J.nil ?_
     exact ⟨rfl, ⟨(by simp only [hc7]; rfl), trivial⟩, rfl, rfl⟩
   refine J.skip rfl rfl rfl rfl hc7 <| J.skip rfl rfl rfl rfl hc7 <| jv (.bool false) (V.pickF rfl hc7 rfl) <| J.nil ?_
   exact ⟨rfl, ⟨(by simp only [hc7]; rfl), trivial⟩, rfl, rfl⟩
 intro ρ
 refine ja (.bool ((decide (1 ≤ xa)) && (decide (xa ≤ 4)))) rfl <| J.nil <| CJ.ret ?_
 obtain rfl := si h
 exact ⟨_, _, Res.one rfl rfl, ⟨(decide (1 ≤ xa)) && (decide (xa ≤ 4)), rfl, rfl, rfl⟩, (Hp.le_refl _), fun w hs => hs⟩

noncomputable def fn_ref18_Region (xa : Int) : Option Bool :=
  some ((decide (xa = 2)) || (decide (xa = 3)))
set_option maxRecDepth 100000 in
set_option maxHeartbeats 4000000 in
theorem ref18_Region_ok {K : Hp} {xa : Int}   {r : Bool} (h : fn_ref18_Region xa = some r) :
    Tr Tryz.prog 113 #[ii xa] K [] (fun v K' L' => (∃ (t4 : Bool), t4 = r ∧ .bool t4 = v ∧ L' = []) ∧ K = K') := by
 refine Tr.k <| Tr.of Tryz.func113 rfl Tryz.ntmps113 rfl fun E F => ?_
 unfold fn_ref18_Region at h
 refine cr <| ja (.bool false) rfl <| J.nil <| cr <| jm (ii xa) rfl ?_
 refine jv (.bool (decide (xa = 2))) (V.eql rfl rfl) <| jm (.bool (decide (xa = 2))) rfl <| J.cut 3 <| jmeet [(8, .bool ((decide (xa = 2)) || (decide (xa = 3))))] ?_ ?_
 · rcases bt (decide (xa = 2)) with hc7 | hc7
   · refine J.skip rfl rfl rfl rfl hc7 <| J.skip rfl rfl rfl rfl hc7 <| jv (.bool true) (V.pickT rfl hc7 rfl) <| J.nil ?_
     exact ⟨rfl, ⟨(by simp only [hc7]; rfl), trivial⟩, rfl, rfl⟩
   refine J.run rfl rfl rfl hc7 <| jm (ii xa) rfl <| J.run rfl rfl rfl hc7 <| jv (.bool (decide (xa = 3))) (V.eql rfl rfl) <| jv (.bool (decide (xa = 3))) (V.pickF rfl hc7 rfl) <| J.nil ?_
   exact ⟨rfl, ⟨(by simp only [hc7]; rfl), trivial⟩, rfl, rfl⟩
 intro ρ
 refine ja (.bool ((decide (xa = 2)) || (decide (xa = 3)))) rfl <| J.nil <| CJ.ret ?_
 obtain rfl := si h
 exact ⟨_, _, Res.one rfl rfl, ⟨(decide (xa = 2)) || (decide (xa = 3)), rfl, rfl, rfl⟩, (Hp.le_refl _), fun w hs => hs⟩

noncomputable def fn_ref18_Form (xa : (Int × Int × Int × Int × Bool)) : Option Bool :=
  (cond ((decide (0 ≤ xa.1)) && (decide (xa.1 ≤ 5))) ((fn_ref18_Dst xa.1).bind fun t103 => some (t103 || (decide (xa.2.1 = 0)))) (some (false))).bind fun t98 => (cond (t98) ((fn_ref18_Src xa.1).bind fun t125 => some (t125 || (decide (xa.2.2.1 = 0)))) (some (false))).bind fun t120 => (cond (t120) ((fn_ref18_Region xa.1).bind fun t153 => some (t153 || ((decide (xa.2.2.2.1 = 0)) && (!xa.2.2.2.2)))) (some (false))).bind fun t148 => some (t148)
set_option maxRecDepth 100000 in
set_option maxHeartbeats 4000000 in
theorem ref18_Form_ok {K : Hp} {xa : (Int × Int × Int × Int × Bool)}   {r : Bool} (h : fn_ref18_Form xa = some r) :
    Tr Tryz.prog 110 #[.agg #[ii xa.1, ii xa.2.1, ii xa.2.2.1, ii xa.2.2.2.1, .bool xa.2.2.2.2]] K [] (fun v K' L' => (∃ (t83 : Bool), t83 = r ∧ .bool t83 = v ∧ L' = []) ∧ K = K') := by
 refine Tr.k <| Tr.of Tryz.func110 rfl Tryz.ntmps110 rfl fun E F => ?_
 unfold fn_ref18_Form at h
 refine cr <| jbx [ii xa.1, ii xa.2.1, ii xa.2.2.1, ii xa.2.2.2.1, .bool xa.2.2.2.2] rfl rfl fun b84 => ja (.bool false) rfl <| J.nil <| CJ.seq <| CJ.region ?_
 refine jv _ (V.fad Tryz.underlying73 rfl nz3 rfl) <| jv (ii xa.1) (V.ld rfl (Ld.sc sc3 (Rd.cl 0 rfl rfl))) <| jv (.bool (decide (0 ≤ xa.1))) (V.geq rfl rfl) <| jm (.bool (decide (0 ≤ xa.1))) rfl <| J.cut 4 <| jmeet [(10, .bool ((decide (0 ≤ xa.1)) && (decide (xa.1 ≤ 5)))), (1, .pointer (some ⟨b84, 0, none⟩))] ?_ ?_
 · rcases bt (decide (0 ≤ xa.1)) with hc87 | hc87
   · refine J.run rfl rfl rfl hc87 <| jv _ (V.fad Tryz.underlying73 rfl nz3 rfl) <| J.run rfl rfl rfl hc87 <| jv (ii xa.1) (V.ld rfl (Ld.sc sc3 (Rd.cl 0 rfl rfl))) <| J.run rfl rfl rfl hc87 <| jv (.bool (decide (xa.1 ≤ 5))) (V.leq rfl rfl) <| jv (.bool (decide (xa.1 ≤ 5))) (V.pickT rfl hc87 rfl) ?_
     refine J.nil ?_
     exact ⟨rfl, ⟨(by simp only [hc87]; rfl), rfl, trivial⟩, rfl, rfl⟩
   refine J.skip rfl rfl rfl rfl hc87 <| J.skip rfl rfl rfl rfl hc87 <| J.skip rfl rfl rfl rfl hc87 <| jv (.bool false) (V.pickF rfl hc87 rfl) <| J.nil ?_
   exact ⟨rfl, ⟨(by simp only [hc87]; rfl), rfl, trivial⟩, rfl, rfl⟩
 intro ρ
 refine jm (.bool ((decide (0 ≤ xa.1)) && (decide (xa.1 ≤ 5)))) rfl <| J.cut 9 ?_
 obtain ⟨t98, ht99, h⟩ := ob h
 refine jmeet [(20, .bool t98), (1, .pointer (some ⟨b84, 0, none⟩))] ?_ ?_
 · rcases bt ((decide (0 ≤ xa.1)) && (decide (xa.1 ≤ 5))) with hc100 | hc100
   · have ht99 := ct hc100 ht99
     refine J.run rfl rfl rfl hc100 <| jv _ (V.fad Tryz.underlying73 rfl nz3 rfl) <| J.run rfl rfl rfl hc100 <| jv (ii xa.1) (V.ld rfl (Ld.sc sc3 (Rd.cl 0 rfl rfl))) <| J.run rfl rfl rfl hc100 ?_
     obtain ⟨r101, hr102, ht99⟩ := ob ht99
     refine J.op rfl (A.call (L1 := []) Tryz.call111 rfl (ref18_Dst_ok hr102) rfl rfl) ?_
     rintro _ _ _ ⟨v104, _, rfl, ⟨⟨t103, rfl, rfl, rfl⟩, rfl⟩, _, rfl⟩
     refine J.run rfl rfl rfl hc100 <| jm (.bool t103) rfl <| J.cut 4 <| jmeet [(19, .bool (t103 || (decide (xa.2.1 = 0)))), (1, .pointer (some ⟨b84, 0, none⟩)), (11, .bool ((decide (0 ≤ xa.1)) && (decide (xa.1 ≤ 5))))] ?_ ?_
     · rcases bt (t103) with hc109 | hc109
       · refine J.skip rfl rfl rfl rfl hc109 <| J.skip rfl rfl rfl rfl hc109 <| J.skip rfl rfl rfl rfl hc109 <| J.run rfl rfl rfl hc100 <| jv (.bool true) (V.pickT rfl hc109 rfl) <| J.nil ?_
         exact ⟨rfl, ⟨(by simp only [hc109]; rfl), rfl, rfl, trivial⟩, rfl, rfl⟩
       refine J.run rfl rfl rfl hc109 <| jv _ (V.fad Tryz.underlying73 rfl nz3 rfl) <| J.run rfl rfl rfl hc109 <| jv (ii xa.2.1) (V.ld rfl (Ld.sc sc3 (Rd.cl 0 rfl rfl))) <| J.run rfl rfl rfl hc109 <| jv (.bool (decide (xa.2.1 = 0))) (V.eql rfl rfl) <| J.run rfl rfl rfl hc100 ?_
       refine jv (.bool (decide (xa.2.1 = 0))) (V.pickF rfl hc109 rfl) <| J.nil ?_
       exact ⟨rfl, ⟨(by simp only [hc109]; rfl), rfl, rfl, trivial⟩, rfl, rfl⟩
     intro ρ
     refine jv (.bool (t103 || (decide (xa.2.1 = 0)))) (V.pickT rfl hc100 rfl) <| J.nil ?_
     obtain rfl := si ht99
     exact ⟨rfl, ⟨rfl, rfl, trivial⟩, rfl, rfl⟩
   have ht99 := cf hc100 ht99
   refine J.skip rfl rfl rfl rfl hc100 <| J.skip rfl rfl rfl rfl hc100 <| J.skip rfl rfl rfl rfl hc100 <| J.skip rfl rfl rfl rfl hc100 <| J.skipu rfl rfl rfl rfl <| J.skipu rfl rfl rfl rfl <| J.skipu rfl rfl rfl rfl ?_
   refine J.skip rfl rfl rfl rfl hc100 <| jv (.bool false) (V.pickF rfl hc100 rfl) <| J.nil ?_
   obtain rfl := si ht99
   exact ⟨rfl, ⟨rfl, rfl, trivial⟩, rfl, rfl⟩
 intro ρ
 refine jm (.bool t98) rfl <| J.cut 9 ?_
 obtain ⟨t120, ht121, h⟩ := ob h
 refine jmeet [(30, .bool t120), (1, .pointer (some ⟨b84, 0, none⟩))] ?_ ?_
 · rcases bt (t98) with hc122 | hc122
   · have ht121 := ct hc122 ht121
     refine J.run rfl rfl rfl hc122 <| jv _ (V.fad Tryz.underlying73 rfl nz3 rfl) <| J.run rfl rfl rfl hc122 <| jv (ii xa.1) (V.ld rfl (Ld.sc sc3 (Rd.cl 0 rfl rfl))) <| J.run rfl rfl rfl hc122 ?_
     obtain ⟨r123, hr124, ht121⟩ := ob ht121
     refine J.op rfl (A.call (L1 := []) Tryz.call112 rfl (ref18_Src_ok hr124) rfl rfl) ?_
     rintro _ _ _ ⟨v126, _, rfl, ⟨⟨t125, rfl, rfl, rfl⟩, rfl⟩, _, rfl⟩
     refine J.run rfl rfl rfl hc122 <| jm (.bool t125) rfl <| J.cut 4 <| jmeet [(29, .bool (t125 || (decide (xa.2.2.1 = 0)))), (1, .pointer (some ⟨b84, 0, none⟩)), (21, .bool t98)] ?_ ?_
     · rcases bt (t125) with hc131 | hc131
       · refine J.skip rfl rfl rfl rfl hc131 <| J.skip rfl rfl rfl rfl hc131 <| J.skip rfl rfl rfl rfl hc131 <| J.run rfl rfl rfl hc122 <| jv (.bool true) (V.pickT rfl hc131 rfl) <| J.nil ?_
         exact ⟨rfl, ⟨(by simp only [hc131]; rfl), rfl, rfl, trivial⟩, rfl, rfl⟩
       refine J.run rfl rfl rfl hc131 <| jv _ (V.fad Tryz.underlying73 rfl nz3 rfl) <| J.run rfl rfl rfl hc131 <| jv (ii xa.2.2.1) (V.ld rfl (Ld.sc sc3 (Rd.cl 0 rfl rfl))) <| J.run rfl rfl rfl hc131 <| jv (.bool (decide (xa.2.2.1 = 0))) (V.eql rfl rfl) <| J.run rfl rfl rfl hc122 ?_
       refine jv (.bool (decide (xa.2.2.1 = 0))) (V.pickF rfl hc131 rfl) <| J.nil ?_
       exact ⟨rfl, ⟨(by simp only [hc131]; rfl), rfl, rfl, trivial⟩, rfl, rfl⟩
     intro ρ
     refine jv (.bool (t125 || (decide (xa.2.2.1 = 0)))) (V.pickT rfl hc122 rfl) <| J.nil ?_
     obtain rfl := si ht121
     exact ⟨rfl, ⟨rfl, rfl, trivial⟩, rfl, rfl⟩
   have ht121 := cf hc122 ht121
   refine J.skip rfl rfl rfl rfl hc122 <| J.skip rfl rfl rfl rfl hc122 <| J.skip rfl rfl rfl rfl hc122 <| J.skip rfl rfl rfl rfl hc122 <| J.skipu rfl rfl rfl rfl <| J.skipu rfl rfl rfl rfl <| J.skipu rfl rfl rfl rfl ?_
   refine J.skip rfl rfl rfl rfl hc122 <| jv (.bool false) (V.pickF rfl hc122 rfl) <| J.nil ?_
   obtain rfl := si ht121
   exact ⟨rfl, ⟨rfl, rfl, trivial⟩, rfl, rfl⟩
 intro ρ
 refine jm (.bool t120) rfl <| J.cut 14 ?_
 obtain ⟨t148, ht149, h⟩ := ob h
 refine jmeet [(45, .bool t148)] ?_ ?_
 · rcases bt (t120) with hc150 | hc150
   · have ht149 := ct hc150 ht149
     refine J.run rfl rfl rfl hc150 <| jv _ (V.fad Tryz.underlying73 rfl nz3 rfl) <| J.run rfl rfl rfl hc150 <| jv (ii xa.1) (V.ld rfl (Ld.sc sc3 (Rd.cl 0 rfl rfl))) <| J.run rfl rfl rfl hc150 ?_
     obtain ⟨r151, hr152, ht149⟩ := ob ht149
     refine J.op rfl (A.call (L1 := []) Tryz.call113 rfl (ref18_Region_ok hr152) rfl rfl) ?_
     rintro _ _ _ ⟨v154, _, rfl, ⟨⟨t153, rfl, rfl, rfl⟩, rfl⟩, _, rfl⟩
     refine J.run rfl rfl rfl hc150 <| jm (.bool t153) rfl <| J.cut 9 <| jmeet [(44, .bool (t153 || ((decide (xa.2.2.2.1 = 0)) && (!xa.2.2.2.2)))), (31, .bool t120)] ?_ ?_
     · rcases bt (t153) with hc162 | hc162
       · refine J.skip rfl rfl rfl rfl hc162 <| J.skip rfl rfl rfl rfl hc162 <| J.skip rfl rfl rfl rfl hc162 <| J.skip rfl rfl rfl rfl hc162 <| J.skipu rfl rfl rfl rfl <| J.skipu rfl rfl rfl rfl <| J.skipu rfl rfl rfl rfl ?_
         refine J.skip rfl rfl rfl rfl hc162 <| J.run rfl rfl rfl hc150 <| jv (.bool true) (V.pickT rfl hc162 rfl) <| J.nil ?_
         exact ⟨rfl, ⟨(by simp only [hc162]; rfl), rfl, trivial⟩, rfl, rfl⟩
       refine J.run rfl rfl rfl hc162 <| jv _ (V.fad Tryz.underlying73 rfl nz3 rfl) <| J.run rfl rfl rfl hc162 <| jv (ii xa.2.2.2.1) (V.ld rfl (Ld.sc sc3 (Rd.cl 0 rfl rfl))) <| J.run rfl rfl rfl hc162 <| jv (.bool (decide (xa.2.2.2.1 = 0))) (V.eql rfl rfl) <| J.run rfl rfl rfl hc162 ?_
       refine jm (.bool (decide (xa.2.2.2.1 = 0))) rfl <| J.cut 4 <| jmeet [(43, .bool ((decide (xa.2.2.2.1 = 0)) && (!xa.2.2.2.2))), (31, .bool t120), (35, .bool t153)] ?_ ?_
       · rcases bt (decide (xa.2.2.2.1 = 0)) with hc165 | hc165
         · refine J.run rfl rfl rfl hc165 <| jv _ (V.fad Tryz.underlying73 rfl nz4 rfl) <| J.run rfl rfl rfl hc165 <| jv (.bool xa.2.2.2.2) (V.ld rfl (Ld.sc sc4 (Rd.cl 0 rfl rfl))) <| J.run rfl rfl rfl hc165 <| jv (.bool (!xa.2.2.2.2)) (V.not rfl) <| J.run rfl rfl rfl hc162 ?_
           refine jv (.bool (!xa.2.2.2.2)) (V.pickT rfl hc165 rfl) <| J.nil ?_
           exact ⟨rfl, ⟨(by simp only [hc165]; rfl), rfl, rfl, trivial⟩, rfl, rfl⟩
         refine J.skip rfl rfl rfl rfl hc165 <| J.skip rfl rfl rfl rfl hc165 <| J.skip rfl rfl rfl rfl hc165 <| J.run rfl rfl rfl hc162 <| jv (.bool false) (V.pickF rfl hc165 rfl) <| J.nil ?_
         exact ⟨rfl, ⟨(by simp only [hc165]; rfl), rfl, rfl, trivial⟩, rfl, rfl⟩
       intro ρ
       refine J.run rfl rfl rfl hc150 <| jv (.bool ((decide (xa.2.2.2.1 = 0)) && (!xa.2.2.2.2))) (V.pickF rfl hc162 rfl) <| J.nil ?_
       exact ⟨rfl, ⟨(by simp only [hc162]; rfl), rfl, trivial⟩, rfl, rfl⟩
     intro ρ
     refine jv (.bool (t153 || ((decide (xa.2.2.2.1 = 0)) && (!xa.2.2.2.2)))) (V.pickT rfl hc150 rfl) <| J.nil ?_
     obtain rfl := si ht149
     exact ⟨rfl, ⟨rfl, trivial⟩, rfl, rfl⟩
   have ht149 := cf hc150 ht149
   refine J.skip rfl rfl rfl rfl hc150 <| J.skip rfl rfl rfl rfl hc150 <| J.skip rfl rfl rfl rfl hc150 <| J.skip rfl rfl rfl rfl hc150 <| J.skipu rfl rfl rfl rfl <| J.skipu rfl rfl rfl rfl <| J.skipu rfl rfl rfl rfl ?_
   refine J.skipu rfl rfl rfl rfl <| J.skipu rfl rfl rfl rfl <| J.skipu rfl rfl rfl rfl <| J.skipu rfl rfl rfl rfl <| J.skipu rfl rfl rfl rfl <| J.skip rfl rfl rfl rfl hc150 <| jv (.bool false) (V.pickF rfl hc150 rfl) ?_
   refine J.nil ?_
   obtain rfl := si ht149
   exact ⟨rfl, ⟨rfl, trivial⟩, rfl, rfl⟩
 intro ρ
 refine ja (.bool t148) rfl <| J.nil <| CJ.ret ?_
 obtain rfl := si h
 exact ⟨_, _, Res.one rfl rfl, ⟨t148, rfl, rfl, rfl⟩, (Hp.le_refl _), fun w hs => (Sep.dropAt 0 rfl hs)⟩
end Go.Proofs.YtmdmdmaekjpfjaaGreat
