/- What Go functions answer: generated. -/
import Derived.Test.YtoghdhopojoggaaF1
namespace Go.Proofs.Ytoghdhopojoggaa
open Go.RowKit
set_option linter.unusedVariables false
noncomputable def fn_ref10_Check_l1 (xa : Int) (xb : (List (Int × Int))) : Int → Option (Int ⊕ (Unit ⊕ Int)) := fun (i811 : Int) => cond (decide (i811 < (((xb.length : Nat) : Int)))) ((getI xb i811).bind fun x895 => (cond (decide (x895.1 < 0)) (some (true)) ((getI xb i811).bind fun x917 => some (decide (xa ≤ x917.1)))).bind fun t914 => (cond (t914) (some (true)) ((getI xb i811).bind fun x939 => some (decide (x939.2 < 0)))).bind fun t936 => (cond (t936) (some (true)) ((getI xb i811).bind fun x961 => some (decide (xa ≤ x961.2)))).bind fun t958 => cond (t958) (some (.inr ((.inr (7))))) (some (.inl (IntKind.wrap .i64 (i811 + 1))))) (some (.inr ((.inl ()))))
noncomputable def fn_ref10_Check (xa : Int) (xb : (List (Int × Int))) : Option Int :=
  cond (decide (xa < 0)) (some (2)) (cond ((decide (1048576 < xa)) || (decide (67108864 < (((xb.length : Nat) : Int))))) (some (5)) ((loop (fn_ref10_Check_l1 xa xb) 0 : Option (Unit ⊕ Int)).bind fun o => match o with | .inr r => some r | .inl () => some (0)))
set_option maxRecDepth 100000 in
set_option maxHeartbeats 4000000 in
theorem ref10_Check_ok {K : Hp} {xa : Int} {xb : (List (Int × Int))} {adxb_0 : Option Addr} {cpxb_0 : Nat} (fxb_0 : Is K (.sl (.cons (.int .i64) (.one (.int .i64)))) [.slice adxb_0 xb.length cpxb_0] xb) {r : Int} (h : fn_ref10_Check xa xb = some r) :
    Tr Try.prog 8 #[.int .i64 xa, .slice adxb_0 xb.length cpxb_0] K [] (fun v K' L' => (∃ (i487 : Int), i487 = r ∧ .int .i64 i487 = v ∧ L' = []) ∧ K = K') := by
  refine Tr.k ?_
  refine Tr.of Try.func8 rfl Try.ntmps8 rfl (fun E F => ?_)
  unfold fn_ref10_Check at h
  refine CJ.seq ?_
  refine CJ.region ?_
  refine J.val (v := .int .i64 0) rfl rfl (V.as rfl) ?_
  refine J.nil ?_
  refine CJ.seq ?_
  refine CJ.seq ?_
  refine CJ.region ?_
  refine J.val (v := .int .i64 xa) rfl rfl (V.mv rfl) ?_
  refine J.val (v := .bool (decide (xa < 0))) rfl rfl (V.lss rfl rfl) ?_
  refine J.nil ?_
  refine CJ.cond rfl (fun hc488 => ?_) (fun hc488 => ?_)
  · have h := ct hc488 h
    refine CJ.seq ?_
    refine CJ.region ?_
    refine J.val (v := .int .i64 2) rfl rfl (V.as rfl) ?_
    refine J.nil ?_
    refine CJ.ret ?_
    have e := Option.some.inj h
    subst e
    exact ⟨_, [], Res.one rfl rfl, ⟨2, rfl, rfl, rfl⟩, (Hp.le_refl _), fun w hs => hs⟩
  · have h := cf hc488 h
    refine CJ.skip ?_
    refine CJ.seq ?_
    refine CJ.seq ?_
    refine CJ.region ?_
    refine J.val (v := .int .i64 xa) rfl rfl (V.mv rfl) ?_
    refine J.val (v := .bool (decide (1048576 < xa))) rfl rfl (V.gtr rfl rfl) ?_
    refine J.val (v := .bool (decide (1048576 < xa))) rfl rfl (V.mv rfl) ?_
    refine J.cut 4 ?_
    refine @J.meet _ _ _ _ _ _ _ _ _ _ (fun ρ K' L' => Fits [(14, .bool ((decide (1048576 < xa)) || (decide (67108864 < (((xb.length : Nat) : Int)))))), (0, .int .i64 xa), (1, .slice adxb_0 xb.length cpxb_0)] ρ ∧ K = K' ∧ F = L') ?_ ?_
    · skip
      rcases bt (decide (1048576 < xa)) with hc491 | hc491
      · skip
        refine J.skip rfl rfl rfl rfl hc491 ?_
        refine J.skip rfl rfl rfl rfl hc491 ?_
        refine J.skip rfl rfl rfl rfl hc491 ?_
        refine J.val (v := .bool true) rfl rfl (V.pickT rfl hc491 rfl) ?_
        refine J.nil ?_
        exact ⟨rfl, ⟨(by simp only [hc491]; rfl), rfl, rfl, trivial⟩, rfl, rfl⟩
      · skip
        refine J.run rfl rfl rfl hc491 ?_
        refine J.val (v := .slice adxb_0 xb.length cpxb_0) rfl rfl (V.mv rfl) ?_
        refine J.run rfl rfl rfl hc491 ?_
        refine J.val (v := .int .i64 (((xb.length : Nat) : Int))) rfl rfl (V.len Try.underlying22 rfl) ?_
        refine J.run rfl rfl rfl hc491 ?_
        refine J.val (v := .bool (decide (67108864 < (((xb.length : Nat) : Int))))) rfl rfl (V.gtr rfl rfl) ?_
        refine J.val (v := .bool (decide (67108864 < (((xb.length : Nat) : Int))))) rfl rfl (V.pickF rfl hc491 rfl) ?_
        refine J.nil ?_
        exact ⟨rfl, ⟨(by simp only [hc491]; rfl), rfl, rfl, trivial⟩, rfl, rfl⟩
    · rintro ρ _ _ ⟨hf, rfl, rfl⟩
      obtain ⟨ρ, rfl⟩ := hf.ex
      refine J.nil ?_
      refine CJ.cond rfl (fun hc492 => ?_) (fun hc492 => ?_)
      · have h := ct hc492 h
        refine CJ.seq ?_
        refine CJ.region ?_
        refine J.val (v := .int .i64 5) rfl rfl (V.as rfl) ?_
        refine J.nil ?_
        refine CJ.ret ?_
        have e := Option.some.inj h
        subst e
        exact ⟨_, [], Res.one rfl rfl, ⟨5, rfl, rfl, rfl⟩, (Hp.le_refl _), fun w hs => hs⟩
      · have h := cf hc492 h
        refine CJ.skip ?_
        refine CJ.seq ?_
        refine CJ.seq ?_
        refine CJ.region ?_
        refine J.val (v := .int .i64 0) rfl rfl (V.as rfl) ?_
        refine J.nil ?_
        obtain ⟨o731, ho732, h⟩ := ob h
        refine CJ.joinN (o := o731) (fun s ρ K' L' => () = s ∧ Fits [] ρ ∧ K = K' ∧ F = L') ?_ ?_
        · skip
          refine CJ.block ?_
          refine CJ.loop (fun s ρ K' L' => ∃ (i811 : Int), i811 = s ∧ Fits [(0, .int .i64 xa), (1, .slice adxb_0 xb.length cpxb_0), (5, .int .i64 i811)] ρ ∧ K = K' ∧ F = L') ho732 ⟨0, rfl, ⟨rfl, rfl, rfl, trivial⟩, rfl, rfl⟩ ?_
          rintro s ρ _ _ r893 ⟨i811, rfl, hf891, rfl, rfl⟩ h890
          obtain ⟨ρ, rfl⟩ := hf891.ex
          refine CJ.seq ?_
          refine CJ.seq ?_
          refine CJ.region ?_
          refine J.val (v := .int .i64 i811) rfl rfl (V.mv rfl) ?_
          refine J.val (v := .slice adxb_0 xb.length cpxb_0) rfl rfl (V.mv rfl) ?_
          refine J.val (v := .int .i64 (((xb.length : Nat) : Int))) rfl rfl (V.len Try.underlying22 rfl) ?_
          refine J.val (v := .bool (decide (i811 < (((xb.length : Nat) : Int))))) rfl rfl (V.lss rfl rfl) ?_
          refine J.nil ?_
          refine CJ.cond rfl (fun hc894 => ?_) (fun hc894 => ?_)
          · have h890 := ct hc894 h890
            refine CJ.skip ?_
            refine CJ.seq ?_
            refine CJ.block ?_
            refine CJ.seq ?_
            refine CJ.region ?_
            refine J.val (v := .slice adxb_0 xb.length cpxb_0) rfl rfl (V.mv rfl) ?_
            refine J.val (v := .int .i64 i811) rfl rfl (V.mv rfl) ?_
            obtain ⟨x895, hx896, h890⟩ := ob h890
            obtain ⟨p897, p898, p899⟩ := getI_some hx896
            obtain ⟨b900, o901, e902, a903⟩ := (fxb_0).at p898
            refine J.val rfl rfl (V.iad Try.underlying22 sz37 rfl e902 rfl p897 p899) ?_
            refine J.val rfl rfl (V.fad Try.underlying37 rfl nz3 rfl) ?_
            refine J.val (v := .int .i64 x895.1) rfl rfl (V.ld rfl (Ld.sc sc3 (Rd.k ((a903).fst).int (Hp.le_refl _)))) ?_
            refine J.val (v := .bool (decide (x895.1 < 0))) rfl rfl (V.lss rfl rfl) ?_
            refine J.val (v := .bool (decide (x895.1 < 0))) rfl rfl (V.mv rfl) ?_
            refine J.cut 8 ?_
            obtain ⟨t914, ht915, h890⟩ := ob h890
            refine @J.meet _ _ _ _ _ _ _ _ _ _ (fun ρ K' L' => Fits [(35, .bool t914), (0, .int .i64 xa), (1, .slice adxb_0 xb.length cpxb_0), (5, .int .i64 i811)] ρ ∧ K = K' ∧ F = L') ?_ ?_
            · skip
              rcases bt (decide (x895.1 < 0)) with hc916 | hc916
              · have ht915 := ct hc916 ht915
                refine J.skip rfl rfl rfl rfl hc916 ?_
                refine J.skip rfl rfl rfl rfl hc916 ?_
                refine J.skip rfl rfl rfl rfl hc916 ?_
                refine J.skip rfl rfl rfl rfl hc916 ?_
                refine J.skip rfl rfl rfl rfl hc916 ?_
                refine J.skip rfl rfl rfl rfl hc916 ?_
                refine J.skip rfl rfl rfl rfl hc916 ?_
                refine J.val (v := .bool true) rfl rfl (V.pickT rfl hc916 rfl) ?_
                refine J.nil ?_
                have e := Option.some.inj ht915
                subst e
                exact ⟨rfl, ⟨rfl, rfl, rfl, rfl, trivial⟩, rfl, rfl⟩
              · have ht915 := cf hc916 ht915
                refine J.run rfl rfl rfl hc916 ?_
                refine J.val (v := .slice adxb_0 xb.length cpxb_0) rfl rfl (V.mv rfl) ?_
                refine J.run rfl rfl rfl hc916 ?_
                refine J.val (v := .int .i64 i811) rfl rfl (V.mv rfl) ?_
                refine J.run rfl rfl rfl hc916 ?_
                obtain ⟨x917, hx918, ht915⟩ := ob ht915
                obtain ⟨p919, p920, p921⟩ := getI_some hx918
                obtain ⟨b922, o923, e924, a925⟩ := (fxb_0).at p920
                refine J.val rfl rfl (V.iad Try.underlying22 sz37 rfl e924 rfl p919 p921) ?_
                refine J.run rfl rfl rfl hc916 ?_
                refine J.val rfl rfl (V.fad Try.underlying37 rfl nz3 rfl) ?_
                refine J.run rfl rfl rfl hc916 ?_
                refine J.val (v := .int .i64 x917.1) rfl rfl (V.ld rfl (Ld.sc sc3 (Rd.k ((a925).fst).int (Hp.le_refl _)))) ?_
                refine J.run rfl rfl rfl hc916 ?_
                refine J.val (v := .int .i64 xa) rfl rfl (V.mv rfl) ?_
                refine J.run rfl rfl rfl hc916 ?_
                refine J.val (v := .bool (decide (xa ≤ x917.1))) rfl rfl (V.geq rfl rfl) ?_
                refine J.val (v := .bool (decide (xa ≤ x917.1))) rfl rfl (V.pickF rfl hc916 rfl) ?_
                refine J.nil ?_
                have e := Option.some.inj ht915
                subst e
                exact ⟨rfl, ⟨rfl, rfl, rfl, rfl, trivial⟩, rfl, rfl⟩
            · rintro ρ _ _ ⟨hf, rfl, rfl⟩
              obtain ⟨ρ, rfl⟩ := hf.ex
              refine J.val (v := .bool t914) rfl rfl (V.mv rfl) ?_
              refine J.cut 7 ?_
              obtain ⟨t936, ht937, h890⟩ := ob h890
              refine @J.meet _ _ _ _ _ _ _ _ _ _ (fun ρ K' L' => Fits [(43, .bool t936), (0, .int .i64 xa), (1, .slice adxb_0 xb.length cpxb_0), (5, .int .i64 i811)] ρ ∧ K = K' ∧ F = L') ?_ ?_
              · skip
                rcases bt (t914) with hc938 | hc938
                · have ht937 := ct hc938 ht937
                  refine J.skip rfl rfl rfl rfl hc938 ?_
                  refine J.skip rfl rfl rfl rfl hc938 ?_
                  refine J.skip rfl rfl rfl rfl hc938 ?_
                  refine J.skip rfl rfl rfl rfl hc938 ?_
                  refine J.skip rfl rfl rfl rfl hc938 ?_
                  refine J.skip rfl rfl rfl rfl hc938 ?_
                  refine J.val (v := .bool true) rfl rfl (V.pickT rfl hc938 rfl) ?_
                  refine J.nil ?_
                  have e := Option.some.inj ht937
                  subst e
                  exact ⟨rfl, ⟨rfl, rfl, rfl, rfl, trivial⟩, rfl, rfl⟩
                · have ht937 := cf hc938 ht937
                  refine J.run rfl rfl rfl hc938 ?_
                  refine J.val (v := .slice adxb_0 xb.length cpxb_0) rfl rfl (V.mv rfl) ?_
                  refine J.run rfl rfl rfl hc938 ?_
                  refine J.val (v := .int .i64 i811) rfl rfl (V.mv rfl) ?_
                  refine J.run rfl rfl rfl hc938 ?_
                  obtain ⟨x939, hx940, ht937⟩ := ob ht937
                  obtain ⟨p941, p942, p943⟩ := getI_some hx940
                  obtain ⟨b944, o945, e946, a947⟩ := (fxb_0).at p942
                  refine J.val rfl rfl (V.iad Try.underlying22 sz37 rfl e946 rfl p941 p943) ?_
                  refine J.run rfl rfl rfl hc938 ?_
                  refine J.val rfl rfl (V.fad Try.underlying37 rfl nz3 rfl) ?_
                  refine J.run rfl rfl rfl hc938 ?_
                  refine J.val (v := .int .i64 x939.2) rfl rfl (V.ld rfl (Ld.sc sc3 (Rd.k (((a947).snd).one).int (Hp.le_refl _)))) ?_
                  refine J.run rfl rfl rfl hc938 ?_
                  refine J.val (v := .bool (decide (x939.2 < 0))) rfl rfl (V.lss rfl rfl) ?_
                  refine J.val (v := .bool (decide (x939.2 < 0))) rfl rfl (V.pickF rfl hc938 rfl) ?_
                  refine J.nil ?_
                  have e := Option.some.inj ht937
                  subst e
                  exact ⟨rfl, ⟨rfl, rfl, rfl, rfl, trivial⟩, rfl, rfl⟩
              · rintro ρ _ _ ⟨hf, rfl, rfl⟩
                obtain ⟨ρ, rfl⟩ := hf.ex
                refine J.val (v := .bool t936) rfl rfl (V.mv rfl) ?_
                refine J.cut 8 ?_
                obtain ⟨t958, ht959, h890⟩ := ob h890
                refine @J.meet _ _ _ _ _ _ _ _ _ _ (fun ρ K' L' => Fits [(52, .bool t958), (0, .int .i64 xa), (1, .slice adxb_0 xb.length cpxb_0), (5, .int .i64 i811)] ρ ∧ K = K' ∧ F = L') ?_ ?_
                · skip
                  rcases bt (t936) with hc960 | hc960
                  · have ht959 := ct hc960 ht959
                    refine J.skip rfl rfl rfl rfl hc960 ?_
                    refine J.skip rfl rfl rfl rfl hc960 ?_
                    refine J.skip rfl rfl rfl rfl hc960 ?_
                    refine J.skip rfl rfl rfl rfl hc960 ?_
                    refine J.skip rfl rfl rfl rfl hc960 ?_
                    refine J.skip rfl rfl rfl rfl hc960 ?_
                    refine J.skip rfl rfl rfl rfl hc960 ?_
                    refine J.val (v := .bool true) rfl rfl (V.pickT rfl hc960 rfl) ?_
                    refine J.nil ?_
                    have e := Option.some.inj ht959
                    subst e
                    exact ⟨rfl, ⟨rfl, rfl, rfl, rfl, trivial⟩, rfl, rfl⟩
                  · have ht959 := cf hc960 ht959
                    refine J.run rfl rfl rfl hc960 ?_
                    refine J.val (v := .slice adxb_0 xb.length cpxb_0) rfl rfl (V.mv rfl) ?_
                    refine J.run rfl rfl rfl hc960 ?_
                    refine J.val (v := .int .i64 i811) rfl rfl (V.mv rfl) ?_
                    refine J.run rfl rfl rfl hc960 ?_
                    obtain ⟨x961, hx962, ht959⟩ := ob ht959
                    obtain ⟨p963, p964, p965⟩ := getI_some hx962
                    obtain ⟨b966, o967, e968, a969⟩ := (fxb_0).at p964
                    refine J.val rfl rfl (V.iad Try.underlying22 sz37 rfl e968 rfl p963 p965) ?_
                    refine J.run rfl rfl rfl hc960 ?_
                    refine J.val rfl rfl (V.fad Try.underlying37 rfl nz3 rfl) ?_
                    refine J.run rfl rfl rfl hc960 ?_
                    refine J.val (v := .int .i64 x961.2) rfl rfl (V.ld rfl (Ld.sc sc3 (Rd.k (((a969).snd).one).int (Hp.le_refl _)))) ?_
                    refine J.run rfl rfl rfl hc960 ?_
                    refine J.val (v := .int .i64 xa) rfl rfl (V.mv rfl) ?_
                    refine J.run rfl rfl rfl hc960 ?_
                    refine J.val (v := .bool (decide (xa ≤ x961.2))) rfl rfl (V.geq rfl rfl) ?_
                    refine J.val (v := .bool (decide (xa ≤ x961.2))) rfl rfl (V.pickF rfl hc960 rfl) ?_
                    refine J.nil ?_
                    have e := Option.some.inj ht959
                    subst e
                    exact ⟨rfl, ⟨rfl, rfl, rfl, rfl, trivial⟩, rfl, rfl⟩
                · rintro ρ _ _ ⟨hf, rfl, rfl⟩
                  obtain ⟨ρ, rfl⟩ := hf.ex
                  refine J.nil ?_
                  refine CJ.cond rfl (fun hc970 => ?_) (fun hc970 => ?_)
                  · have h890 := ct hc970 h890
                    refine CJ.seq ?_
                    refine CJ.region ?_
                    refine J.val (v := .int .i64 7) rfl rfl (V.as rfl) ?_
                    refine J.nil ?_
                    refine CJ.ret ?_
                    have e := Option.some.inj h890
                    subst e
                    refine ⟨nofun, fun e => ?_⟩
                    subst e
                    refine .inr ⟨nofun, ?_⟩
                    have e := Option.some.inj h
                    subst e
                    exact ⟨_, [], Res.one rfl rfl, ⟨7, rfl, rfl, rfl⟩, (Hp.le_refl _), fun w hs => hs⟩
                  · have h890 := cf hc970 h890
                    refine CJ.skip ?_
                    refine CJ.region ?_
                    refine J.val (v := .int .i64 i811) rfl rfl (V.mv rfl) ?_
                    refine J.val (v := .int .i64 (IntKind.wrap .i64 (i811 + 1))) rfl rfl (V.add rfl rfl) ?_
                    refine J.val (v := .int .i64 (IntKind.wrap .i64 (i811 + 1))) rfl rfl (V.as rfl) ?_
                    refine J.nil ?_
                    have e := Option.some.inj h890
                    subst e
                    exact ⟨rfl, ⟨IntKind.wrap .i64 (i811 + 1), rfl, ⟨rfl, rfl, rfl, trivial⟩, rfl, rfl⟩⟩
          · have h890 := cf hc894 h890
            refine CJ.exit ?_
            have e := Option.some.inj h890
            subst e
            refine ⟨nofun, fun e => ?_⟩
            subst e
            exact .inl ⟨rfl, _, rfl, ⟨rfl, trivial, rfl, rfl⟩⟩
        · rintro s ρ _ _ ho971 ⟨rfl, hf972, rfl, rfl⟩
          subst ho971
          obtain ⟨ρ, rfl⟩ := hf972.ex
          refine PJ.done ?_
          refine CJ.seq ?_
          refine CJ.region ?_
          refine J.val (v := .int .i64 0) rfl rfl (V.as rfl) ?_
          refine J.nil ?_
          refine CJ.ret ?_
          have e := Option.some.inj h
          subst e
          exact ⟨_, [], Res.one rfl rfl, ⟨0, rfl, rfl, rfl⟩, (Hp.le_refl _), fun w hs => hs⟩
noncomputable def fn_graph_Graph_Next_l1 (xa : (Option (Int × (List (Int × Int)) × ((List Int) × (List Int)) × ((List Int) × (List Int))))) (l305 : (List Int)) : ((List Int) × Int) → Option (((List Int) × Int) ⊕ (List Int)) := fun ((l504, i509) : ((List Int) × Int)) => cond (decide (i509 < (((l305.length : Nat) : Int)))) ((getI l504 i509).bind fun x560 => (xa : Option (Int × (List (Int × Int)) × ((List Int) × (List Int)) × ((List Int) × (List Int)))).bind fun y567 => (getI y567.2.1 x560).bind fun x577 => (getI l504 i509).bind fun x586 => (some (l504.set i509.toNat x577.2)).bind fun z593 => some (.inl ((z593, IntKind.wrap .i64 (i509 + 1))))) (some (.inr (l504)))
noncomputable def fn_graph_Graph_Next (xa : (Option (Int × (List (Int × Int)) × ((List Int) × (List Int)) × ((List Int) × (List Int))))) (xb : Int) : Option (List Int) :=
  (fn_graph_Graph_Out xa xb).bind fun l305 => (loop (fn_graph_Graph_Next_l1 xa l305) (l305, 0)).bind fun l452 => some (l452)
set_option maxRecDepth 100000 in
set_option maxHeartbeats 4000000 in
theorem graph_Graph_Next_ok {K : Hp} {xa : (Option (Int × (List (Int × Int)) × ((List Int) × (List Int)) × ((List Int) × (List Int))))} {xb : Int} {vxa_0 : Value} (fxa_0 : Is K (.ptr (.cons (.int .i64) (.cons (.sl (.cons (.int .i64) (.one (.int .i64)))) (.cons (.cons (.sl (.int .i64)) (.one (.sl (.int .i64)))) (.one (.cons (.sl (.int .i64)) (.one (.sl (.int .i64))))))))) [vxa_0] xa) {r : (List Int)} (h : fn_graph_Graph_Next xa xb = some r) :
    Tr Try.prog 13 #[vxa_0, .int .i64 xb] K [] (fun v K' L' => (∃ (l298 : (List Int)) (ad299 : Option Addr) (cp300 : Nat), l298 = r ∧ .slice ad299 l298.length cp300 = v ∧ L' = [Row Hp.nil 3 (.int .i64) (.slice ad299 l298.length cp300) l298]) ∧ K = K') := by
  refine Tr.k ?_
  refine Tr.of Try.func13 rfl Try.ntmps13 rfl (fun E F => ?_)
  unfold fn_graph_Graph_Next at h
  refine CJ.seq ?_
  refine CJ.region ?_
  refine J.val (v := .slice none 0 0) rfl rfl (V.as rfl) ?_
  refine J.nil ?_
  refine CJ.seq ?_
  refine CJ.region ?_
  refine J.val (v := vxa_0) rfl rfl (V.mv rfl) ?_
  refine J.val (v := .int .i64 xb) rfl rfl (V.mv rfl) ?_
  obtain ⟨r303, hr304, h⟩ := ob h
  refine J.op rfl (A.call (L1 := []) Try.call11 rfl (graph_Graph_Out_ok fxa_0 hr304) rfl rfl) ?_
  rintro _ _ _ ⟨v309, _, rfl, ⟨⟨l305, ad306, cp307, rfl, rfl, rfl⟩, rfl⟩, _, rfl⟩
  refine J.wit Row.hn (fun hn308 => ?_)
  refine J.val (v := .slice ad306 l305.length cp307) rfl rfl (V.as rfl) ?_
  refine J.nil ?_
  refine CJ.seq ?_
  refine CJ.seq ?_
  refine CJ.region ?_
  refine J.val (v := .slice ad306 l305.length cp307) rfl rfl (V.mv rfl) ?_
  refine J.val (v := .int .i64 (((l305.length : Nat) : Int))) rfl rfl (V.len Try.underlying30 rfl) ?_
  refine J.val (v := .int .i64 0) rfl rfl (V.mv rfl) ?_
  refine J.nil ?_
  obtain ⟨o457, ho458, h⟩ := ob h
  refine CJ.meetN (fun ρ K' L' => ∃ (l452 : (List Int)) (ad453 : Option Addr) (cp454 : Nat), l452 = o457 ∧ Fits [(5, .slice ad453 l452.length cp454)] ρ ∧ K = K' ∧ L' = Row Hp.nil 3 (.int .i64) (.slice ad453 l452.length cp454) l452 :: F) ?_ ?_
  · skip
    refine CJ.block ?_
    refine CJ.loop (fun s ρ K' L' => ∃ (l504 : (List Int)) (i509 : Int) (ad505 : Option Addr) (cp506 : Nat), (l504, i509) = s ∧ Fits [(0, vxa_0), (5, .slice ad505 l504.length cp506), (11, .slice ad505 l504.length cp506), (12, .int .i64 (((l305.length : Nat) : Int))), (13, .int .i64 i509)] ρ ∧ K = K' ∧ L' = Row Hp.nil 3 (.int .i64) (.slice ad505 l504.length cp506) l504 :: F) ho458 ⟨l305, 0, ad306, cp307, rfl, ⟨rfl, rfl, rfl, rfl, rfl, trivial⟩, rfl, rfl⟩ ?_
    rintro s ρ _ _ r558 ⟨l504, i509, ad505, cp506, rfl, hf556, rfl, rfl⟩ h555
    obtain ⟨ρ, rfl⟩ := hf556.ex
    refine CJ.wit Row.hn (fun hn508 => ?_)
    refine CJ.seq ?_
    refine CJ.region ?_
    refine J.val (v := .bool (decide (i509 < (((l305.length : Nat) : Int))))) rfl rfl (V.lss rfl rfl) ?_
    refine J.nil ?_
    refine CJ.seq ?_
    refine CJ.cond rfl (fun hc559 => ?_) (fun hc559 => ?_)
    · have h555 := ct hc559 h555
      refine CJ.skip ?_
      refine CJ.seq ?_
      refine CJ.block ?_
      refine CJ.seq ?_
      refine CJ.region ?_
      refine J.val (v := .int .i64 i509) rfl rfl (V.mv rfl) ?_
      obtain ⟨x560, hx561, h555⟩ := ob h555
      obtain ⟨p562, p563, p564⟩ := getI_some hx561
      obtain ⟨g565, e566⟩ := hn508 (fun e => by rw [e] at p563; simp at p563)
      refine J.val rfl rfl (V.iad Try.underlying30 sz3 rfl e566 rfl p562 p564) ?_
      refine J.val (v := .int .i64 x560) rfl rfl (V.ld rfl (Ld.sc sc3 (Rd.row 0 rfl e566 p563 (q := 0) (by simp [Tp.size]) (by decide) (by rintro _ rfl; rfl)))) ?_
      refine J.val (v := .int .i64 i509) rfl rfl (V.as rfl) ?_
      refine J.val (v := .int .i64 x560) rfl rfl (V.as rfl) ?_
      refine J.nil ?_
      refine CJ.region ?_
      refine J.val (v := .slice ad505 l504.length cp506) rfl rfl (V.mv rfl) ?_
      refine J.val (v := .int .i64 i509) rfl rfl (V.mv rfl) ?_
      refine J.val (v := vxa_0) rfl rfl (V.mv rfl) ?_
      obtain ⟨y567, hy568, h555⟩ := ob h555
      obtain ⟨b569, o570, hv571, a572⟩ := Is.psome fxa_0 hy568
      refine J.val rfl rfl (V.nck hv571) ?_
      refine J.val rfl rfl (V.fad Try.underlying50 rfl nz45 rfl) ?_
      obtain ⟨ad573, cp574, c575, f576⟩ := (((a572).snd).fst).sl
      refine J.val (v := .slice ad573 y567.2.1.length cp574) rfl rfl (V.ld rfl (Ld.sc sc45 (Rd.k c575 (Hp.le_refl _)))) ?_
      refine J.val (v := .int .i64 x560) rfl rfl (V.mv rfl) ?_
      obtain ⟨x577, hx578, h555⟩ := ob h555
      obtain ⟨p579, p580, p581⟩ := getI_some hx578
      obtain ⟨b582, o583, e584, a585⟩ := (f576).at p580
      refine J.val rfl rfl (V.iad Try.underlying45 sz34 rfl e584 rfl p579 p581) ?_
      refine J.val rfl rfl (V.fad Try.underlying34 rfl nz3 rfl) ?_
      refine J.val (v := .int .i64 x577.2) rfl rfl (V.ld rfl (Ld.sc sc3 (Rd.k (((a585).snd).one).int (Hp.le_refl _)))) ?_
      obtain ⟨x586, hx587, h555⟩ := ob h555
      obtain ⟨p588, p589, p590⟩ := getI_some hx587
      obtain ⟨g591, e592⟩ := hn508 (fun e => by rw [e] at p589; simp at p589)
      refine J.val rfl rfl (V.iad Try.underlying30 sz3 rfl e592 rfl p588 p590) ?_
      obtain ⟨z593, hz594, h555⟩ := ob h555
      have e595 := Option.some.inj hz594
      have hl596 : z593.length = l504.length := by rw [← e595, List.length_set]
      refine J.op rfl (A.storeR (ty := (.int .i64)) (q := 0) (y0 := x577.2) (zs := z593) sz3 rfl rfl rfl rfl e592 p589 (by simp [Tp.size]) (by decide) (by rintro _ rfl; exact rfl) e595) ?_
      rintro _ _ _ ⟨rfl, rfl, rfl⟩
      have hn597 : z593 ≠ [] → _ := fun h => hn508 (fun e => h (List.length_eq_zero_iff.1 (by rw [hl596]; exact List.length_eq_zero_iff.2 e)))
      refine J.nil ?_
      refine CJ.region ?_
      refine J.val (v := .int .i64 (IntKind.wrap .i64 (i509 + 1))) rfl rfl (V.add rfl rfl) ?_
      refine J.val (v := .int .i64 (IntKind.wrap .i64 (i509 + 1))) rfl rfl (V.mv rfl) ?_
      refine J.nil ?_
      have e := Option.some.inj h555
      subst e
      exact ⟨rfl, ⟨z593, IntKind.wrap .i64 (i509 + 1), ad505, cp506, rfl, ⟨rfl, (by rw [hl596]; rfl), (by rw [hl596]; rfl), rfl, rfl, trivial⟩, rfl, (by rw [hl596]; first | done | rfl)⟩⟩
    · have h555 := cf hc559 h555
      refine CJ.exit ?_
      have e := Option.some.inj h555
      subst e
      refine ⟨nofun, fun e => ?_⟩
      subst e
      exact ⟨rfl, ⟨l504, ad505, cp506, rfl, ⟨rfl, trivial⟩, rfl, rfl⟩⟩
  · rintro ρ _ _ ⟨l452, ad453, cp454, rfl, hf598, rfl, rfl⟩
    obtain ⟨ρ, rfl⟩ := hf598.ex
    refine PJ.wit Row.hn (fun hn456 => ?_)
    refine PJ.done ?_
    refine CJ.seq ?_
    refine CJ.region ?_
    refine J.val (v := .slice ad453 l452.length cp454) rfl rfl (V.mv rfl) ?_
    refine J.val (v := .slice ad453 l452.length cp454) rfl rfl (V.as rfl) ?_
    refine J.nil ?_
    refine CJ.ret ?_
    have e := Option.some.inj h
    subst e
    exact ⟨_, [Row Hp.nil 3 (.int .i64) (.slice ad453 l452.length cp454) l452], Res.one rfl rfl, ⟨l452, ad453, cp454, rfl, rfl, rfl⟩, (Hp.le_refl _), fun w hs => hs⟩
noncomputable def fn_graph_Graph_Turn_l1 (y228 : (Int × (List (Int × Int)) × ((List Int) × (List Int)) × ((List Int) × (List Int)))) : ((List (Int × Int)) × Int) → Option (((List (Int × Int)) × Int) ⊕ (List (Int × Int))) := fun ((l374, i379) : ((List (Int × Int)) × Int)) => cond (decide (i379 < (((y228.2.1.length : Nat) : Int)))) ((getI y228.2.1 i379).bind fun x414 => (getI l374 i379).bind fun x424 => (some (l374.set i379.toNat (x414.2, x414.1))).bind fun z431 => some (.inl ((z431, IntKind.wrap .i64 (i379 + 1))))) (some (.inr (l374)))
noncomputable def fn_graph_Graph_Turn (xa : (Option (Int × (List (Int × Int)) × ((List Int) × (List Int)) × ((List Int) × (List Int))))) : Option ((Option (Int × (List (Int × Int)) × ((List Int) × (List Int)) × ((List Int) × (List Int))))) :=
  cond (xa.isNone) (some (none)) ((xa : Option (Int × (List (Int × Int)) × ((List Int) × (List Int)) × ((List Int) × (List Int)))).bind fun y228 => (mk (((y228.2.1.length : Nat) : Int)) (((y228.2.1.length : Nat) : Int)) (0, 0) : Option (List (Int × Int))).bind fun z238 => (loop (fn_graph_Graph_Turn_l1 y228) (z238, 0)).bind fun l338 => (fn_graph_New y228.1 l338).bind fun (p443, i444) => some (p443))
set_option maxRecDepth 100000 in
set_option maxHeartbeats 4000000 in
theorem graph_Graph_Turn_ok {K : Hp} {xa : (Option (Int × (List (Int × Int)) × ((List Int) × (List Int)) × ((List Int) × (List Int))))} {vxa_0 : Value} (fxa_0 : Is K (.ptr (.cons (.int .i64) (.cons (.sl (.cons (.int .i64) (.one (.int .i64)))) (.cons (.cons (.sl (.int .i64)) (.one (.sl (.int .i64)))) (.one (.cons (.sl (.int .i64)) (.one (.sl (.int .i64))))))))) [vxa_0] xa) {r : (Option (Int × (List (Int × Int)) × ((List Int) × (List Int)) × ((List Int) × (List Int))))} (h : fn_graph_Graph_Turn xa = some r) :
    Tr Try.prog 15 #[vxa_0] K [] (fun v K' L' => (∃ (p224 : (Option (Int × (List (Int × Int)) × ((List Int) × (List Int)) × ((List Int) × (List Int))))) (v225 : Value), p224 = r ∧ v225 = v ∧ Is K' (.ptr (.cons (.int .i64) (.cons (.sl (.cons (.int .i64) (.one (.int .i64)))) (.cons (.cons (.sl (.int .i64)) (.one (.sl (.int .i64)))) (.one (.cons (.sl (.int .i64)) (.one (.sl (.int .i64))))))))) [v225] p224 ∧ L' = [])) := by
  refine Tr.of Try.func15 rfl Try.ntmps15 rfl (fun E F => ?_)
  unfold fn_graph_Graph_Turn at h
  refine CJ.seq ?_
  refine CJ.region ?_
  refine J.val (v := .pointer none) rfl rfl (V.as rfl) ?_
  refine J.nil ?_
  refine CJ.seq ?_
  refine CJ.seq ?_
  refine CJ.region ?_
  refine J.val (v := vxa_0) rfl rfl (V.mv rfl) ?_
  refine J.val (v := .bool xa.isNone) rfl rfl (V.kp_eql Try.underlying24 fxa_0 rfl rfl) ?_
  refine J.nil ?_
  refine CJ.cond rfl (fun hc227 => ?_) (fun hc227 => ?_)
  · have h := ct hc227 h
    refine CJ.seq ?_
    refine CJ.region ?_
    refine J.val (v := .pointer none) rfl rfl (V.as rfl) ?_
    refine J.nil ?_
    refine CJ.ret ?_
    have e := Option.some.inj h
    subst e
    exact ⟨_, [], Res.one rfl rfl, ⟨none, .pointer none, rfl, rfl, Is.ptr_nil, rfl⟩, (Hp.le_refl _), fun w hs => hs⟩
  · have h := cf hc227 h
    refine CJ.skip ?_
    refine CJ.seq ?_
    refine CJ.region ?_
    refine J.val (v := vxa_0) rfl rfl (V.mv rfl) ?_
    obtain ⟨y228, hy229, h⟩ := ob h
    obtain ⟨b230, o231, hv232, a233⟩ := Is.psome fxa_0 hy229
    refine J.val rfl rfl (V.nck hv232) ?_
    refine J.val rfl rfl (V.fad Try.underlying50 rfl nz45 rfl) ?_
    obtain ⟨ad234, cp235, c236, f237⟩ := (((a233).snd).fst).sl
    refine J.val (v := .slice ad234 y228.2.1.length cp235) rfl rfl (V.ld rfl (Ld.sc sc45 (Rd.k c236 (Hp.le_refl _)))) ?_
    refine J.val (v := .int .i64 (((y228.2.1.length : Nat) : Int))) rfl rfl (V.len Try.underlying45 rfl) ?_
    obtain ⟨z238, hz239, h⟩ := ob h
    refine J.op rfl (A.make (K0 := Hp.nil) (ty := (.cons (.int .i64) (.one (.int .i64)))) (x0 := (0, 0)) Try.underlying45 inf34 rfl ⟨_, _, rfl, rfl, rfl, rfl⟩ (by decide) (by decide) rfl rfl hz239) ?_
    rintro _ _ _ ⟨b240, rfl, rfl, rfl⟩
    have hn241 : z238 ≠ [] → ∃ g, (some ⟨b240, 0, none⟩ : Option Addr) = some ⟨g, 0, none⟩ := fun _ => ⟨b240, rfl⟩
    refine J.val (v := .slice (some ⟨b240, 0, none⟩) z238.length (((y228.2.1.length : Nat) : Int)).toNat) rfl rfl (V.as rfl) ?_
    refine J.nil ?_
    refine CJ.seq ?_
    refine CJ.seq ?_
    refine CJ.region ?_
    refine J.val (v := vxa_0) rfl rfl (V.mv rfl) ?_
    refine J.val rfl rfl (V.nck hv232) ?_
    refine J.val rfl rfl (V.fad Try.underlying50 rfl nz45 rfl) ?_
    obtain ⟨ad243, cp244, c245, f246⟩ := (((a233).snd).fst).sl
    refine J.val (v := .slice ad243 y228.2.1.length cp244) rfl rfl (V.ld rfl (Ld.sc sc45 (Rd.k c245 (Hp.le_refl _)))) ?_
    refine J.val (v := .int .i64 (((y228.2.1.length : Nat) : Int))) rfl rfl (V.len Try.underlying45 rfl) ?_
    refine J.val (v := .int .i64 0) rfl rfl (V.mv rfl) ?_
    refine J.nil ?_
    obtain ⟨o343, ho344, h⟩ := ob h
    refine CJ.meetN (fun ρ K' L' => ∃ (l338 : (List (Int × Int))) (ad339 : Option Addr) (cp340 : Nat), l338 = o343 ∧ Fits [(0, vxa_0), (3, .slice ad339 l338.length cp340)] ρ ∧ K = K' ∧ L' = Row Hp.nil 34 (.cons (.int .i64) (.one (.int .i64))) (.slice ad339 l338.length cp340) l338 :: F) ?_ ?_
    · skip
      refine CJ.block ?_
      refine CJ.loop (fun s ρ K' L' => ∃ (l374 : (List (Int × Int))) (i379 : Int) (ad375 : Option Addr) (cp376 : Nat), (l374, i379) = s ∧ Fits [(0, vxa_0), (3, .slice ad375 l374.length cp376), (19, .slice ad243 y228.2.1.length cp244), (20, .int .i64 (((y228.2.1.length : Nat) : Int))), (21, .int .i64 i379)] ρ ∧ K = K' ∧ L' = Row Hp.nil 34 (.cons (.int .i64) (.one (.int .i64))) (.slice ad375 l374.length cp376) l374 :: F) ho344 ⟨z238, 0, (some ⟨b240, 0, none⟩), (((y228.2.1.length : Nat) : Int)).toNat, rfl, ⟨rfl, rfl, rfl, rfl, rfl, trivial⟩, rfl, rfl⟩ ?_
      rintro s ρ _ _ r412 ⟨l374, i379, ad375, cp376, rfl, hf410, rfl, rfl⟩ h409
      obtain ⟨ρ, rfl⟩ := hf410.ex
      refine CJ.wit Row.hn (fun hn378 => ?_)
      refine CJ.seq ?_
      refine CJ.region ?_
      refine J.val (v := .bool (decide (i379 < (((y228.2.1.length : Nat) : Int))))) rfl rfl (V.lss rfl rfl) ?_
      refine J.nil ?_
      refine CJ.seq ?_
      refine CJ.cond rfl (fun hc413 => ?_) (fun hc413 => ?_)
      · have h409 := ct hc413 h409
        refine CJ.skip ?_
        refine CJ.seq ?_
        refine CJ.block ?_
        refine CJ.seq ?_
        refine CJ.region ?_
        refine J.val (v := .int .i64 i379) rfl rfl (V.mv rfl) ?_
        obtain ⟨x414, hx415, h409⟩ := ob h409
        obtain ⟨p416, p417, p418⟩ := getI_some hx415
        obtain ⟨b419, o420, e421, a422⟩ := (f246).at p417
        refine J.val rfl rfl (V.iad Try.underlying45 sz34 rfl e421 rfl p416 p418) ?_
        refine J.val (v := .agg #[.int .i64 x414.1, .int .i64 x414.2]) rfl rfl (V.ld rfl (Ld.aggK (cs := [.int .i64 x414.1, .int .i64 x414.2]) Try.underlying34 sz34 rfl ⟨((a422).fst).int, (((a422).snd).one).int, trivial⟩ (Hp.le_refl _))) ?_
        refine J.op rfl (A.alloc (cs := [.int .i64 0, .int .i64 0]) inf34 rfl) ?_
        rintro _ _ _ ⟨b423, rfl, rfl, rfl⟩
        refine J.val (v := .int .i64 i379) rfl rfl (V.as rfl) ?_
        refine J.op rfl (A.store (v := .agg #[.int .i64 x414.1, .int .i64 x414.2]) (cs' := [.int .i64 x414.1, .int .i64 x414.2]) sz34 rfl rfl rfl rfl rfl rfl) ?_
        rintro _ _ _ ⟨rfl, rfl, rfl⟩
        refine J.nil ?_
        refine CJ.region ?_
        refine J.val (v := .slice ad375 l374.length cp376) rfl rfl (V.mv rfl) ?_
        refine J.val (v := .int .i64 i379) rfl rfl (V.mv rfl) ?_
        refine J.val rfl rfl (V.fad Try.underlying34 rfl nz3 rfl) ?_
        refine J.val (v := .int .i64 x414.2) rfl rfl (V.ld rfl (Ld.sc sc3 (Rd.cl 0 rfl rfl))) ?_
        refine J.val rfl rfl (V.fad Try.underlying34 rfl nz3 rfl) ?_
        refine J.val (v := .int .i64 x414.1) rfl rfl (V.ld rfl (Ld.sc sc3 (Rd.cl 0 rfl rfl))) ?_
        refine J.val (v := .agg #[.int .i64 x414.2, .int .i64 x414.1]) rfl rfl (V.build inf34 places34 rfl rfl) ?_
        obtain ⟨x424, hx425, h409⟩ := ob h409
        obtain ⟨p426, p427, p428⟩ := getI_some hx425
        obtain ⟨g429, e430⟩ := hn378 (fun e => by rw [e] at p427; simp at p427)
        refine J.val rfl rfl (V.iad Try.underlying45 sz34 rfl e430 rfl p426 p428) ?_
        refine J.front 1 rfl ?_
        obtain ⟨z431, hz432, h409⟩ := ob h409
        have e433 := Option.some.inj hz432
        have hl434 : z431.length = l374.length := by rw [← e433, List.length_set]
        refine J.op rfl (A.storeE (ty := (.cons (.int .i64) (.one (.int .i64)))) (Kr := Hp.nil) (y0 := (x414.2, x414.1)) (zs := z431) (ds := [.int .i64 x414.2, .int .i64 x414.1]) sz34 rfl rfl rfl rfl e430 p427 (by simp [Tp.size]) rfl ⟨_, _, rfl, rfl, rfl, rfl⟩ (Els.flat rfl) e433) ?_
        rintro _ _ _ ⟨rfl, rfl, rfl⟩
        have hn435 : z431 ≠ [] → _ := fun h => hn378 (fun e => h (List.length_eq_zero_iff.1 (by rw [hl434]; exact List.length_eq_zero_iff.2 e)))
        refine J.nil ?_
        refine CJ.region ?_
        refine J.val (v := .int .i64 (IntKind.wrap .i64 (i379 + 1))) rfl rfl (V.add rfl rfl) ?_
        refine J.val (v := .int .i64 (IntKind.wrap .i64 (i379 + 1))) rfl rfl (V.mv rfl) ?_
        refine J.dropAt 1 rfl ?_
        refine J.nil ?_
        have e := Option.some.inj h409
        subst e
        exact ⟨rfl, ⟨z431, IntKind.wrap .i64 (i379 + 1), ad375, cp376, rfl, ⟨rfl, (by rw [hl434]; rfl), rfl, rfl, rfl, trivial⟩, rfl, (by rw [hl434]; first | done | rfl)⟩⟩
      · have h409 := cf hc413 h409
        refine CJ.exit ?_
        have e := Option.some.inj h409
        subst e
        refine ⟨nofun, fun e => ?_⟩
        subst e
        exact ⟨rfl, ⟨l374, ad375, cp376, rfl, ⟨rfl, rfl, trivial⟩, rfl, rfl⟩⟩
    · rintro ρ _ _ ⟨l338, ad339, cp340, rfl, hf436, rfl, rfl⟩
      obtain ⟨ρ, rfl⟩ := hf436.ex
      refine PJ.wit Row.hn (fun hn342 => ?_)
      refine PJ.done ?_
      refine CJ.seq ?_
      refine CJ.region ?_
      refine J.val (v := vxa_0) rfl rfl (V.mv rfl) ?_
      refine J.val rfl rfl (V.nck hv232) ?_
      refine J.val rfl rfl (V.fad Try.underlying50 rfl nz3 rfl) ?_
      refine J.val (v := .int .i64 y228.1) rfl rfl (V.ld rfl (Ld.sc sc3 (Rd.k ((a233).fst).int (Hp.le_refl _)))) ?_
      refine J.val (v := .slice ad339 l338.length cp340) rfl rfl (V.mv rfl) ?_
      refine J.persist (Hp.nil_le _) (by decide) (fun K438 hK439 f440 => ?_)
      obtain ⟨r441, hr442, h⟩ := ob h
      refine J.op rfl (A.call (L1 := []) Try.call23 rfl (graph_New_ok f440 hr442) rfl rfl) ?_
      rintro _ K448 _ ⟨v447, _, rfl, ⟨p443, i444, v445, rfl, rfl, f446, rfl⟩, hK449, rfl⟩
      refine J.val (v := .tuple #[v445, .int .i64 i444]) rfl rfl (V.mv rfl) ?_
      refine J.val (v := v445) rfl rfl (V.ext rfl rfl) ?_
      refine J.val (v := .int .i64 i444) rfl rfl (V.ext rfl rfl) ?_
      refine J.val (v := v445) rfl rfl (V.as rfl) ?_
      refine J.val (v := .int .i64 i444) rfl rfl (V.as rfl) ?_
      refine J.nil ?_
      refine CJ.seq ?_
      refine CJ.region ?_
      refine J.val (v := v445) rfl rfl (V.mv rfl) ?_
      refine J.val (v := v445) rfl rfl (V.as rfl) ?_
      refine J.nil ?_
      refine CJ.ret ?_
      have e := Option.some.inj h
      subst e
      exact ⟨_, [], Res.one rfl rfl, ⟨p443, v445, rfl, rfl, f446, rfl⟩, (hK439.trans hK449), fun w hs => hs⟩

noncomputable def fn_graph_Graph_Arc (xa : (Option (Int × (List (Int × Int)) × ((List Int) × (List Int)) × ((List Int) × (List Int))))) (xb : Int) : Option (Int × Int × Bool) :=
  (cond (decide (xb < 0)) (some (true)) ((fn_graph_Graph_Arcs xa).bind fun i54 => some (decide (i54 ≤ xb)))).bind fun t49 => cond (t49) (some ((0, 0, false))) ((xa : Option (Int × (List (Int × Int)) × ((List Int) × (List Int)) × ((List Int) × (List Int)))).bind fun y59 => (getI y59.2.1 xb).bind fun x69 => some ((x69.1, x69.2, true)))
set_option maxRecDepth 100000 in
set_option maxHeartbeats 4000000 in
theorem graph_Graph_Arc_ok {K : Hp} {xa : (Option (Int × (List (Int × Int)) × ((List Int) × (List Int)) × ((List Int) × (List Int))))} {xb : Int} {vxa_0 : Value} (fxa_0 : Is K (.ptr (.cons (.int .i64) (.cons (.sl (.cons (.int .i64) (.one (.int .i64)))) (.cons (.cons (.sl (.int .i64)) (.one (.sl (.int .i64)))) (.one (.cons (.sl (.int .i64)) (.one (.sl (.int .i64))))))))) [vxa_0] xa) {r : (Int × Int × Bool)} (h : fn_graph_Graph_Arc xa xb = some r) :
    Tr Try.prog 16 #[vxa_0, .int .i64 xb] K [] (fun v K' L' => (∃ (i38 : Int) (i39 : Int) (t40 : Bool), (i38, i39, t40) = r ∧ .tuple #[.agg #[.int .i64 i38, .int .i64 i39], .bool t40] = v ∧ L' = []) ∧ K = K') := by
  refine Tr.k ?_
  refine Tr.of Try.func16 rfl Try.ntmps16 rfl (fun E F => ?_)
  unfold fn_graph_Graph_Arc at h
  refine CJ.seq ?_
  refine CJ.region ?_
  refine J.op rfl (A.alloc (cs := [.int .i64 0, .int .i64 0]) inf34 rfl) ?_
  rintro _ _ _ ⟨b41, rfl, rfl, rfl⟩
  refine J.val (v := .bool false) rfl rfl (V.as rfl) ?_
  refine J.nil ?_
  refine CJ.seq ?_
  refine CJ.seq ?_
  refine CJ.region ?_
  refine J.val (v := .int .i64 xb) rfl rfl (V.mv rfl) ?_
  refine J.val (v := .bool (decide (xb < 0))) rfl rfl (V.lss rfl rfl) ?_
  refine J.val (v := .bool (decide (xb < 0))) rfl rfl (V.mv rfl) ?_
  refine J.cut 5 ?_
  obtain ⟨t49, ht50, h⟩ := ob h
  refine @J.meet _ _ _ _ _ _ _ _ _ _ (fun ρ K' L' => Fits [(13, .bool t49), (0, vxa_0), (1, .int .i64 xb), (4, .pointer (some ⟨b41, 0, none⟩))] ρ ∧ K = K' ∧ L' = Cl b41 34 [.int .i64 0, .int .i64 0] :: F) ?_ ?_
  · skip
    rcases bt (decide (xb < 0)) with hc51 | hc51
    · have ht50 := ct hc51 ht50
      refine J.skip rfl rfl rfl rfl hc51 ?_
      refine J.skip rfl rfl rfl rfl hc51 ?_
      refine J.skip rfl rfl rfl rfl hc51 ?_
      refine J.skip rfl rfl rfl rfl hc51 ?_
      refine J.val (v := .bool true) rfl rfl (V.pickT rfl hc51 rfl) ?_
      refine J.nil ?_
      have e := Option.some.inj ht50
      subst e
      exact ⟨rfl, ⟨rfl, rfl, rfl, rfl, trivial⟩, rfl, rfl⟩
    · have ht50 := cf hc51 ht50
      refine J.run rfl rfl rfl hc51 ?_
      refine J.val (v := .int .i64 xb) rfl rfl (V.mv rfl) ?_
      refine J.run rfl rfl rfl hc51 ?_
      refine J.val (v := vxa_0) rfl rfl (V.mv rfl) ?_
      refine J.run rfl rfl rfl hc51 ?_
      obtain ⟨r52, hr53, ht50⟩ := ob ht50
      refine J.op rfl (A.call (L1 := []) Try.call10 rfl (graph_Graph_Arcs_ok fxa_0 hr53) rfl rfl) ?_
      rintro _ _ _ ⟨v55, _, rfl, ⟨⟨i54, rfl, rfl, rfl⟩, rfl⟩, _, rfl⟩
      refine J.run rfl rfl rfl hc51 ?_
      refine J.val (v := .bool (decide (i54 ≤ xb))) rfl rfl (V.geq rfl rfl) ?_
      refine J.val (v := .bool (decide (i54 ≤ xb))) rfl rfl (V.pickF rfl hc51 rfl) ?_
      refine J.nil ?_
      have e := Option.some.inj ht50
      subst e
      exact ⟨rfl, ⟨rfl, rfl, rfl, rfl, trivial⟩, rfl, rfl⟩
  · rintro ρ _ _ ⟨hf, rfl, rfl⟩
    obtain ⟨ρ, rfl⟩ := hf.ex
    refine J.nil ?_
    refine CJ.cond rfl (fun hc58 => ?_) (fun hc58 => ?_)
    · have h := ct hc58 h
      refine CJ.seq ?_
      refine CJ.region ?_
      refine J.val (v := .agg #[.int .i64 0, .int .i64 0]) rfl rfl (V.build inf34 places34 rfl rfl) ?_
      refine J.op rfl (A.store (v := .agg #[.int .i64 0, .int .i64 0]) (cs' := [.int .i64 0, .int .i64 0]) sz34 rfl rfl rfl rfl rfl rfl) ?_
      rintro _ _ _ ⟨rfl, rfl, rfl⟩
      refine J.val (v := .bool false) rfl rfl (V.as rfl) ?_
      refine J.nil ?_
      refine CJ.ret ?_
      have e := Option.some.inj h
      subst e
      exact ⟨_, [], Res.two rfl ⟨_, _, rfl, Ld.agg (cs := [.int .i64 0, .int .i64 0]) Try.underlying34 sz34 rfl (Rd.cls 0 0 rfl rfl)⟩ rfl, ⟨0, 0, false, rfl, rfl, rfl⟩, (Hp.le_refl _), fun w hs => (Sep.dropAt 0 rfl hs)⟩
    · have h := cf hc58 h
      refine CJ.skip ?_
      refine CJ.seq ?_
      refine CJ.region ?_
      refine J.val (v := vxa_0) rfl rfl (V.mv rfl) ?_
      obtain ⟨y59, hy60, h⟩ := ob h
      obtain ⟨b61, o62, hv63, a64⟩ := Is.psome fxa_0 hy60
      refine J.val rfl rfl (V.nck hv63) ?_
      refine J.val rfl rfl (V.fad Try.underlying50 rfl nz45 rfl) ?_
      obtain ⟨ad65, cp66, c67, f68⟩ := (((a64).snd).fst).sl
      refine J.val (v := .slice ad65 y59.2.1.length cp66) rfl rfl (V.ld rfl (Ld.sc sc45 (Rd.k c67 (Hp.le_refl _)))) ?_
      refine J.val (v := .int .i64 xb) rfl rfl (V.mv rfl) ?_
      obtain ⟨x69, hx70, h⟩ := ob h
      obtain ⟨p71, p72, p73⟩ := getI_some hx70
      obtain ⟨b74, o75, e76, a77⟩ := (f68).at p72
      refine J.val rfl rfl (V.iad Try.underlying45 sz34 rfl e76 rfl p71 p73) ?_
      refine J.val (v := .agg #[.int .i64 x69.1, .int .i64 x69.2]) rfl rfl (V.ld rfl (Ld.aggK (cs := [.int .i64 x69.1, .int .i64 x69.2]) Try.underlying34 sz34 rfl ⟨((a77).fst).int, (((a77).snd).one).int, trivial⟩ (Hp.le_refl _))) ?_
      refine J.op rfl (A.store (v := .agg #[.int .i64 x69.1, .int .i64 x69.2]) (cs' := [.int .i64 x69.1, .int .i64 x69.2]) sz34 rfl rfl rfl rfl rfl rfl) ?_
      rintro _ _ _ ⟨rfl, rfl, rfl⟩
      refine J.val (v := .bool true) rfl rfl (V.as rfl) ?_
      refine J.nil ?_
      refine CJ.ret ?_
      have e := Option.some.inj h
      subst e
      exact ⟨_, [], Res.two rfl ⟨_, _, rfl, Ld.agg (cs := [.int .i64 x69.1, .int .i64 x69.2]) Try.underlying34 sz34 rfl (Rd.cls 0 0 rfl rfl)⟩ rfl, ⟨x69.1, x69.2, true, rfl, rfl, rfl⟩, (Hp.le_refl _), fun w hs => (Sep.dropAt 0 rfl hs)⟩
noncomputable def fn_ref10_Out_l1 (xa : (List (Int × Int))) (xb : Int) : ((List Int) × Int) → Option (((List Int) × Int) ⊕ (List Int)) := fun ((l300, i305) : ((List Int) × Int)) => cond (decide (i305 < (((xa.length : Nat) : Int)))) ((getI xa i305).bind fun x337 => cond (decide (x337.1 = xb)) ((app l300 ([i305] : List Int)).bind fun z350 => some (.inl ((z350, IntKind.wrap .i64 (i305 + 1))))) (some (.inl ((l300, IntKind.wrap .i64 (i305 + 1)))))) (some (.inr (l300)))
noncomputable def fn_ref10_Out (xa : (List (Int × Int))) (xb : Int) : Option (List Int) :=
  (loop (fn_ref10_Out_l1 xa xb) ((([] : List Int), 0))).bind fun l267 => some (l267)
set_option maxRecDepth 100000 in
set_option maxHeartbeats 4000000 in
theorem ref10_Out_ok {K : Hp} {xa : (List (Int × Int))} {xb : Int} {adxa_0 : Option Addr} {cpxa_0 : Nat} (fxa_0 : Is K (.sl (.cons (.int .i64) (.one (.int .i64)))) [.slice adxa_0 xa.length cpxa_0] xa) {r : (List Int)} (h : fn_ref10_Out xa xb = some r) :
    Tr Try.prog 18 #[.slice adxa_0 xa.length cpxa_0, .int .i64 xb] K [] (fun v K' L' => (∃ (l177 : (List Int)) (ad178 : Option Addr) (cp179 : Nat), l177 = r ∧ .slice ad178 l177.length cp179 = v ∧ L' = [Row Hp.nil 3 (.int .i64) (.slice ad178 l177.length cp179) l177]) ∧ K = K') := by
  refine Tr.k ?_
  refine Tr.of Try.func18 rfl Try.ntmps18 rfl (fun E F => ?_)
  unfold fn_ref10_Out at h
  refine CJ.seq ?_
  refine CJ.region ?_
  refine J.val (v := .slice none 0 0) rfl rfl (V.as rfl) ?_
  refine J.nil ?_
  refine CJ.seq ?_
  refine CJ.region ?_
  refine J.op rfl (A.lit (K0 := Hp.nil) (ty := (.int .i64)) (xs := ([] : List Int)) Try.underlying30 inf3 rfl (by decide) rfl rfl rfl rfl rfl (by decide)) ?_
  rintro _ _ _ ⟨b182, rfl, rfl, rfl⟩
  have hn183 : ([] : List Int) ≠ [] → ∃ g, (some ⟨b182, 0, none⟩ : Option Addr) = some ⟨g, 0, none⟩ := fun _ => ⟨b182, rfl⟩
  refine J.val (v := .slice (some ⟨b182, 0, none⟩) (([] : List Int).length) 0) rfl rfl (V.as rfl) ?_
  refine J.nil ?_
  refine CJ.seq ?_
  refine CJ.seq ?_
  refine CJ.region ?_
  refine J.val (v := .int .i64 0) rfl rfl (V.as rfl) ?_
  refine J.nil ?_
  obtain ⟨o272, ho273, h⟩ := ob h
  refine CJ.meetN (fun ρ K' L' => ∃ (l267 : (List Int)) (ad268 : Option Addr) (cp269 : Nat), l267 = o272 ∧ Fits [(5, .slice ad268 l267.length cp269)] ρ ∧ K = K' ∧ L' = Row Hp.nil 3 (.int .i64) (.slice ad268 l267.length cp269) l267 :: F) ?_ ?_
  · skip
    refine CJ.block ?_
    refine CJ.loop (fun s ρ K' L' => ∃ (l300 : (List Int)) (i305 : Int) (ad301 : Option Addr) (cp302 : Nat), (l300, i305) = s ∧ Fits [(0, .slice adxa_0 xa.length cpxa_0), (1, .int .i64 xb), (5, .slice ad301 l300.length cp302), (6, .int .i64 i305)] ρ ∧ K = K' ∧ L' = Row Hp.nil 3 (.int .i64) (.slice ad301 l300.length cp302) l300 :: F) ho273 ⟨([] : List Int), 0, (some ⟨b182, 0, none⟩), 0, rfl, ⟨rfl, rfl, rfl, rfl, trivial⟩, rfl, rfl⟩ ?_
    rintro s ρ _ _ r335 ⟨l300, i305, ad301, cp302, rfl, hf333, rfl, rfl⟩ h332
    obtain ⟨ρ, rfl⟩ := hf333.ex
    refine CJ.wit Row.hn (fun hn304 => ?_)
    refine CJ.seq ?_
    refine CJ.seq ?_
    refine CJ.region ?_
    refine J.val (v := .int .i64 i305) rfl rfl (V.mv rfl) ?_
    refine J.val (v := .slice adxa_0 xa.length cpxa_0) rfl rfl (V.mv rfl) ?_
    refine J.val (v := .int .i64 (((xa.length : Nat) : Int))) rfl rfl (V.len Try.underlying22 rfl) ?_
    refine J.val (v := .bool (decide (i305 < (((xa.length : Nat) : Int))))) rfl rfl (V.lss rfl rfl) ?_
    refine J.nil ?_
    refine CJ.cond rfl (fun hc336 => ?_) (fun hc336 => ?_)
    · have h332 := ct hc336 h332
      refine CJ.skip ?_
      refine CJ.seq ?_
      refine CJ.block ?_
      refine CJ.seq ?_
      refine CJ.region ?_
      refine J.val (v := .slice adxa_0 xa.length cpxa_0) rfl rfl (V.mv rfl) ?_
      refine J.val (v := .int .i64 i305) rfl rfl (V.mv rfl) ?_
      obtain ⟨x337, hx338, h332⟩ := ob h332
      obtain ⟨p339, p340, p341⟩ := getI_some hx338
      obtain ⟨b342, o343, e344, a345⟩ := (fxa_0).at p340
      refine J.val rfl rfl (V.iad Try.underlying22 sz37 rfl e344 rfl p339 p341) ?_
      refine J.val rfl rfl (V.fad Try.underlying37 rfl nz3 rfl) ?_
      refine J.val (v := .int .i64 x337.1) rfl rfl (V.ld rfl (Ld.sc sc3 (Rd.k ((a345).fst).int (Hp.le_refl _)))) ?_
      refine J.val (v := .int .i64 xb) rfl rfl (V.mv rfl) ?_
      refine J.val (v := .bool (decide (x337.1 = xb))) rfl rfl (V.eql rfl rfl) ?_
      refine J.nil ?_
      refine CJ.cond rfl (fun hc346 => ?_) (fun hc346 => ?_)
      · have h332 := ct hc346 h332
        refine CJ.region ?_
        refine J.val (v := .slice ad301 l300.length cp302) rfl rfl (V.mv rfl) ?_
        refine J.val (v := .int .i64 i305) rfl rfl (V.mv rfl) ?_
        refine J.op rfl (A.lit (K0 := Hp.nil) (ty := (.int .i64)) (xs := ([i305] : List Int)) Try.underlying30 inf3 rfl (by decide) rfl rfl rfl ⟨_, _, rfl, rfl, rfl⟩ rfl (by decide)) ?_
        rintro _ _ _ ⟨b347, rfl, rfl, rfl⟩
        have hn348 : ([i305] : List Int) ≠ [] → ∃ g, (some ⟨b347, 0, none⟩ : Option Addr) = some ⟨g, 0, none⟩ := fun _ => ⟨b347, rfl⟩
        obtain ⟨z350, hz351, h332⟩ := ob h332
        refine J.front 1 rfl ?_
        refine J.op rfl (A.appR (Kr := Hp.nil) Try.underlying30 inf3 rfl rfl (by decide) (by decide) rfl rfl (Els.flat rfl) (Els.flat rfl) hz351) ?_
        rintro _ _ _ ⟨v352, rfl, rfl, rfl⟩
        refine J.wit Row.form ?_
        rintro ⟨ad353, cp354, rfl, _, _, hn355⟩
        refine J.val (v := .slice ad353 z350.length cp354) rfl rfl (V.as rfl) ?_
        refine J.nil ?_
        refine CJ.region ?_
        refine J.val (v := .int .i64 i305) rfl rfl (V.mv rfl) ?_
        refine J.val (v := .int .i64 (IntKind.wrap .i64 (i305 + 1))) rfl rfl (V.add rfl rfl) ?_
        refine J.val (v := .int .i64 (IntKind.wrap .i64 (i305 + 1))) rfl rfl (V.as rfl) ?_
        refine J.nil ?_
        have e := Option.some.inj h332
        subst e
        exact ⟨rfl, ⟨z350, IntKind.wrap .i64 (i305 + 1), ad353, cp354, rfl, ⟨rfl, rfl, rfl, rfl, trivial⟩, rfl, rfl⟩⟩
      · have h332 := cf hc346 h332
        refine CJ.skip ?_
        refine CJ.region ?_
        refine J.val (v := .int .i64 i305) rfl rfl (V.mv rfl) ?_
        refine J.val (v := .int .i64 (IntKind.wrap .i64 (i305 + 1))) rfl rfl (V.add rfl rfl) ?_
        refine J.val (v := .int .i64 (IntKind.wrap .i64 (i305 + 1))) rfl rfl (V.as rfl) ?_
        refine J.nil ?_
        have e := Option.some.inj h332
        subst e
        exact ⟨rfl, ⟨l300, IntKind.wrap .i64 (i305 + 1), ad301, cp302, rfl, ⟨rfl, rfl, rfl, rfl, trivial⟩, rfl, rfl⟩⟩
    · have h332 := cf hc336 h332
      refine CJ.exit ?_
      have e := Option.some.inj h332
      subst e
      refine ⟨nofun, fun e => ?_⟩
      subst e
      exact ⟨rfl, ⟨l300, ad301, cp302, rfl, ⟨rfl, trivial⟩, rfl, rfl⟩⟩
  · rintro ρ _ _ ⟨l267, ad268, cp269, rfl, hf356, rfl, rfl⟩
    obtain ⟨ρ, rfl⟩ := hf356.ex
    refine PJ.wit Row.hn (fun hn271 => ?_)
    refine PJ.done ?_
    refine CJ.seq ?_
    refine CJ.region ?_
    refine J.val (v := .slice ad268 l267.length cp269) rfl rfl (V.mv rfl) ?_
    refine J.val (v := .slice ad268 l267.length cp269) rfl rfl (V.as rfl) ?_
    refine J.nil ?_
    refine CJ.ret ?_
    have e := Option.some.inj h
    subst e
    exact ⟨_, [Row Hp.nil 3 (.int .i64) (.slice ad268 l267.length cp269) l267], Res.one rfl rfl, ⟨l267, ad268, cp269, rfl, rfl, rfl⟩, (Hp.le_refl _), fun w hs => hs⟩
noncomputable def fn_ref10_Turn_l1 (xa : (List (Int × Int))) : ((List (Int × Int)) × Int) → Option (((List (Int × Int)) × Int) ⊕ (List (Int × Int))) := fun ((l591, i596) : ((List (Int × Int)) × Int)) => cond (decide (i596 < (((xa.length : Nat) : Int)))) ((getI xa i596).bind fun x678 => (getI xa i596).bind fun x687 => (app l591 (([(x678.2, x687.1)] : List (Int × Int)))).bind fun z699 => some (.inl ((z699, IntKind.wrap .i64 (i596 + 1))))) (some (.inr (l591)))
noncomputable def fn_ref10_Turn (xa : (List (Int × Int))) : Option ((List (Int × Int))) :=
  (loop (fn_ref10_Turn_l1 xa) ((([] : List (Int × Int)), 0))).bind fun l529 => some (l529)
set_option maxRecDepth 100000 in
set_option maxHeartbeats 4000000 in
theorem ref10_Turn_ok {K : Hp} {xa : (List (Int × Int))} {adxa_0 : Option Addr} {cpxa_0 : Nat} (fxa_0 : Is K (.sl (.cons (.int .i64) (.one (.int .i64)))) [.slice adxa_0 xa.length cpxa_0] xa) {r : (List (Int × Int))} (h : fn_ref10_Turn xa = some r) :
    Tr Try.prog 19 #[.slice adxa_0 xa.length cpxa_0] K [] (fun v K' L' => (∃ (l352 : (List (Int × Int))) (ad353 : Option Addr) (cp354 : Nat), l352 = r ∧ .slice ad353 l352.length cp354 = v ∧ L' = [Row Hp.nil 37 (.cons (.int .i64) (.one (.int .i64))) (.slice ad353 l352.length cp354) l352]) ∧ K = K') := by
  refine Tr.k ?_
  refine Tr.of Try.func19 rfl Try.ntmps19 rfl (fun E F => ?_)
  unfold fn_ref10_Turn at h
  refine CJ.seq ?_
  refine CJ.region ?_
  refine J.val (v := .slice none 0 0) rfl rfl (V.as rfl) ?_
  refine J.nil ?_
  refine CJ.seq ?_
  refine CJ.region ?_
  refine J.op rfl (A.lit (K0 := Hp.nil) (ty := (.cons (.int .i64) (.one (.int .i64)))) (xs := ([] : List (Int × Int))) Try.underlying22 inf37 rfl (by decide) rfl rfl rfl rfl rfl (by decide)) ?_
  rintro _ _ _ ⟨b357, rfl, rfl, rfl⟩
  have hn358 : ([] : List (Int × Int)) ≠ [] → ∃ g, (some ⟨b357, 0, none⟩ : Option Addr) = some ⟨g, 0, none⟩ := fun _ => ⟨b357, rfl⟩
  refine J.val (v := .slice (some ⟨b357, 0, none⟩) ((([] : List (Int × Int))).length) 0) rfl rfl (V.as rfl) ?_
  refine J.nil ?_
  refine CJ.seq ?_
  refine CJ.seq ?_
  refine CJ.region ?_
  refine J.val (v := .int .i64 0) rfl rfl (V.as rfl) ?_
  refine J.nil ?_
  obtain ⟨o534, ho535, h⟩ := ob h
  refine CJ.meetN (fun ρ K' L' => ∃ (l529 : (List (Int × Int))) (ad530 : Option Addr) (cp531 : Nat), l529 = o534 ∧ Fits [(3, .slice ad530 l529.length cp531)] ρ ∧ K = K' ∧ L' = Row Hp.nil 37 (.cons (.int .i64) (.one (.int .i64))) (.slice ad530 l529.length cp531) l529 :: F) ?_ ?_
  · skip
    refine CJ.block ?_
    refine CJ.loop (fun s ρ K' L' => ∃ (l591 : (List (Int × Int))) (i596 : Int) (ad592 : Option Addr) (cp593 : Nat), (l591, i596) = s ∧ Fits [(0, .slice adxa_0 xa.length cpxa_0), (3, .slice ad592 l591.length cp593), (4, .int .i64 i596)] ρ ∧ K = K' ∧ L' = Row Hp.nil 37 (.cons (.int .i64) (.one (.int .i64))) (.slice ad592 l591.length cp593) l591 :: F) ho535 ⟨([] : List (Int × Int)), 0, (some ⟨b357, 0, none⟩), 0, rfl, ⟨rfl, rfl, rfl, trivial⟩, rfl, rfl⟩ ?_
    rintro s ρ _ _ r655 ⟨l591, i596, ad592, cp593, rfl, hf653, rfl, rfl⟩ h652
    obtain ⟨ρ, rfl⟩ := hf653.ex
    refine CJ.wit Row.hn (fun hn595 => ?_)
    refine CJ.seq ?_
    refine CJ.seq ?_
    refine CJ.region ?_
    refine J.val (v := .int .i64 i596) rfl rfl (V.mv rfl) ?_
    refine J.val (v := .slice adxa_0 xa.length cpxa_0) rfl rfl (V.mv rfl) ?_
    refine J.val (v := .int .i64 (((xa.length : Nat) : Int))) rfl rfl (V.len Try.underlying22 rfl) ?_
    refine J.val (v := .bool (decide (i596 < (((xa.length : Nat) : Int))))) rfl rfl (V.lss rfl rfl) ?_
    refine J.nil ?_
    refine CJ.cond rfl (fun hc656 => ?_) (fun hc656 => ?_)
    · have h652 := ct hc656 h652
      refine CJ.skip ?_
      refine CJ.seq ?_
      refine CJ.block ?_
      refine CJ.mix [Row Hp.nil 37 (.cons (.int .i64) (.one (.int .i64))) (.slice ad592 l591.length cp593) l591] [([0, 1, 2, 3, 4, 5, 6, 7, 8, 9, 10, 11], 12)] [] [13, 14] mixO (by decide +kernel) ⟨0, rfl, trivial⟩ rfl rfl rfl ?_
      refine JM.cons ?_
      refine JQ.val (v := .slice ad592 l591.length cp593) rfl rfl (V.mv rfl) ?_
      refine JQ.val (v := .slice adxa_0 xa.length cpxa_0) rfl rfl (V.mv rfl) ?_
      refine JQ.val (v := .int .i64 i596) rfl rfl (V.mv rfl) ?_
      obtain ⟨x678, hx679, h652⟩ := ob h652
      obtain ⟨p680, p681, p682⟩ := getI_some hx679
      obtain ⟨b683, o684, e685, a686⟩ := (fxa_0).at p681
      refine JQ.val rfl rfl (V.iad Try.underlying22 sz37 rfl e685 rfl p680 p682) ?_
      refine JQ.val rfl rfl (V.fad Try.underlying37 rfl nz3 rfl) ?_
      refine JQ.val (v := .int .i64 x678.2) rfl rfl (V.ld rfl (Ld.sc sc3 (Rd.k (((a686).snd).one).int (Hp.le_refl _)))) ?_
      refine JQ.val (v := .slice adxa_0 xa.length cpxa_0) rfl rfl (V.mv rfl) ?_
      refine JQ.val (v := .int .i64 i596) rfl rfl (V.mv rfl) ?_
      obtain ⟨x687, hx688, h652⟩ := ob h652
      obtain ⟨p689, p690, p691⟩ := getI_some hx688
      obtain ⟨b692, o693, e694, a695⟩ := (fxa_0).at p690
      refine JQ.val rfl rfl (V.iad Try.underlying22 sz37 rfl e694 rfl p689 p691) ?_
      refine JQ.val rfl rfl (V.fad Try.underlying37 rfl nz3 rfl) ?_
      refine JQ.val (v := .int .i64 x687.1) rfl rfl (V.ld rfl (Ld.sc sc3 (Rd.k ((a695).fst).int (Hp.le_refl _)))) ?_
      refine JQ.val (v := .agg #[.int .i64 x678.2, .int .i64 x687.1]) rfl rfl (V.build inf37 places37 rfl rfl) ?_
      refine JQ.nil ?_
      refine JA.op rfl (A.lit (K0 := Hp.nil) (ty := (.cons (.int .i64) (.one (.int .i64)))) (xs := ([(x678.2, x687.1)] : List (Int × Int))) Try.underlying22 inf37 rfl (by decide) rfl rfl rfl ⟨_, _, rfl, ⟨_, _, rfl, rfl, rfl, rfl⟩, rfl⟩ rfl (by decide)) ?_
      rintro _ _ _ ⟨b696, rfl, rfl, rfl⟩
      have hn697 : ([(x678.2, x687.1)] : List (Int × Int)) ≠ [] → ∃ g, (some ⟨b696, 0, none⟩ : Option Addr) = some ⟨g, 0, none⟩ := fun _ => ⟨b696, rfl⟩
      refine ⟨fun w hs => Hold.sub (Hp.le_refl _) ⟨1, rfl, trivial⟩ hs, ?_⟩
      refine JM.nil ?_
      refine JQ.nil ?_
      obtain ⟨z699, hz700, h652⟩ := ob h652
      refine J.front 1 rfl ?_
      refine J.op rfl (A.appR (Kr := Hp.nil) Try.underlying22 inf37 rfl rfl (by decide) (by decide) rfl rfl (Els.flat rfl) (Els.flat rfl) hz700) ?_
      rintro _ _ _ ⟨v701, rfl, rfl, rfl⟩
      refine J.wit Row.form ?_
      rintro ⟨ad702, cp703, rfl, _, _, hn704⟩
      refine J.val (v := .slice ad702 z699.length cp703) rfl rfl (V.as rfl) ?_
      refine J.nil ?_
      refine CJ.region ?_
      refine J.val (v := .int .i64 i596) rfl rfl (V.mv rfl) ?_
      refine J.val (v := .int .i64 (IntKind.wrap .i64 (i596 + 1))) rfl rfl (V.add rfl rfl) ?_
      refine J.val (v := .int .i64 (IntKind.wrap .i64 (i596 + 1))) rfl rfl (V.as rfl) ?_
      refine J.nil ?_
      have e := Option.some.inj h652
      subst e
      exact ⟨rfl, ⟨z699, IntKind.wrap .i64 (i596 + 1), ad702, cp703, rfl, ⟨rfl, rfl, rfl, trivial⟩, rfl, rfl⟩⟩
    · have h652 := cf hc656 h652
      refine CJ.exit ?_
      have e := Option.some.inj h652
      subst e
      refine ⟨nofun, fun e => ?_⟩
      subst e
      exact ⟨rfl, ⟨l591, ad592, cp593, rfl, ⟨rfl, trivial⟩, rfl, rfl⟩⟩
  · rintro ρ _ _ ⟨l529, ad530, cp531, rfl, hf705, rfl, rfl⟩
    obtain ⟨ρ, rfl⟩ := hf705.ex
    refine PJ.wit Row.hn (fun hn533 => ?_)
    refine PJ.done ?_
    refine CJ.seq ?_
    refine CJ.region ?_
    refine J.val (v := .slice ad530 l529.length cp531) rfl rfl (V.mv rfl) ?_
    refine J.val (v := .slice ad530 l529.length cp531) rfl rfl (V.as rfl) ?_
    refine J.nil ?_
    refine CJ.ret ?_
    have e := Option.some.inj h
    subst e
    exact ⟨_, [Row Hp.nil 37 (.cons (.int .i64) (.one (.int .i64))) (.slice ad530 l529.length cp531) l529], Res.one rfl rfl, ⟨l529, ad530, cp531, rfl, rfl, rfl⟩, (Hp.le_refl _), fun w hs => hs⟩
noncomputable def fn_ref10_Next_l1 (xa : (List (Int × Int))) (xb : Int) : ((List Int) × Int) → Option (((List Int) × Int) ⊕ (List Int)) := fun ((l390, i395) : ((List Int) × Int)) => cond (decide (i395 < (((xa.length : Nat) : Int)))) ((getI xa i395).bind fun x436 => cond (decide (x436.1 = xb)) ((getI xa i395).bind fun x446 => (app l390 ([x446.2] : List Int)).bind fun z458 => some (.inl ((z458, IntKind.wrap .i64 (i395 + 1))))) (some (.inl ((l390, IntKind.wrap .i64 (i395 + 1)))))) (some (.inr (l390)))
noncomputable def fn_ref10_Next (xa : (List (Int × Int))) (xb : Int) : Option (List Int) :=
  (loop (fn_ref10_Next_l1 xa xb) ((([] : List Int), 0))).bind fun l348 => some (l348)
set_option maxRecDepth 100000 in
set_option maxHeartbeats 4000000 in
theorem ref10_Next_ok {K : Hp} {xa : (List (Int × Int))} {xb : Int} {adxa_0 : Option Addr} {cpxa_0 : Nat} (fxa_0 : Is K (.sl (.cons (.int .i64) (.one (.int .i64)))) [.slice adxa_0 xa.length cpxa_0] xa) {r : (List Int)} (h : fn_ref10_Next xa xb = some r) :
    Tr Try.prog 20 #[.slice adxa_0 xa.length cpxa_0, .int .i64 xb] K [] (fun v K' L' => (∃ (l231 : (List Int)) (ad232 : Option Addr) (cp233 : Nat), l231 = r ∧ .slice ad232 l231.length cp233 = v ∧ L' = [Row Hp.nil 3 (.int .i64) (.slice ad232 l231.length cp233) l231]) ∧ K = K') := by
  refine Tr.k ?_
  refine Tr.of Try.func20 rfl Try.ntmps20 rfl (fun E F => ?_)
  unfold fn_ref10_Next at h
  refine CJ.seq ?_
  refine CJ.region ?_
  refine J.val (v := .slice none 0 0) rfl rfl (V.as rfl) ?_
  refine J.nil ?_
  refine CJ.seq ?_
  refine CJ.region ?_
  refine J.op rfl (A.lit (K0 := Hp.nil) (ty := (.int .i64)) (xs := ([] : List Int)) Try.underlying30 inf3 rfl (by decide) rfl rfl rfl rfl rfl (by decide)) ?_
  rintro _ _ _ ⟨b236, rfl, rfl, rfl⟩
  have hn237 : ([] : List Int) ≠ [] → ∃ g, (some ⟨b236, 0, none⟩ : Option Addr) = some ⟨g, 0, none⟩ := fun _ => ⟨b236, rfl⟩
  refine J.val (v := .slice (some ⟨b236, 0, none⟩) (([] : List Int).length) 0) rfl rfl (V.as rfl) ?_
  refine J.nil ?_
  refine CJ.seq ?_
  refine CJ.seq ?_
  refine CJ.region ?_
  refine J.val (v := .int .i64 0) rfl rfl (V.as rfl) ?_
  refine J.nil ?_
  obtain ⟨o353, ho354, h⟩ := ob h
  refine CJ.meetN (fun ρ K' L' => ∃ (l348 : (List Int)) (ad349 : Option Addr) (cp350 : Nat), l348 = o353 ∧ Fits [(5, .slice ad349 l348.length cp350)] ρ ∧ K = K' ∧ L' = Row Hp.nil 3 (.int .i64) (.slice ad349 l348.length cp350) l348 :: F) ?_ ?_
  · skip
    refine CJ.block ?_
    refine CJ.loop (fun s ρ K' L' => ∃ (l390 : (List Int)) (i395 : Int) (ad391 : Option Addr) (cp392 : Nat), (l390, i395) = s ∧ Fits [(0, .slice adxa_0 xa.length cpxa_0), (1, .int .i64 xb), (5, .slice ad391 l390.length cp392), (6, .int .i64 i395)] ρ ∧ K = K' ∧ L' = Row Hp.nil 3 (.int .i64) (.slice ad391 l390.length cp392) l390 :: F) ho354 ⟨([] : List Int), 0, (some ⟨b236, 0, none⟩), 0, rfl, ⟨rfl, rfl, rfl, rfl, trivial⟩, rfl, rfl⟩ ?_
    rintro s ρ _ _ r434 ⟨l390, i395, ad391, cp392, rfl, hf432, rfl, rfl⟩ h431
    obtain ⟨ρ, rfl⟩ := hf432.ex
    refine CJ.wit Row.hn (fun hn394 => ?_)
    refine CJ.seq ?_
    refine CJ.seq ?_
    refine CJ.region ?_
    refine J.val (v := .int .i64 i395) rfl rfl (V.mv rfl) ?_
    refine J.val (v := .slice adxa_0 xa.length cpxa_0) rfl rfl (V.mv rfl) ?_
    refine J.val (v := .int .i64 (((xa.length : Nat) : Int))) rfl rfl (V.len Try.underlying22 rfl) ?_
    refine J.val (v := .bool (decide (i395 < (((xa.length : Nat) : Int))))) rfl rfl (V.lss rfl rfl) ?_
    refine J.nil ?_
    refine CJ.cond rfl (fun hc435 => ?_) (fun hc435 => ?_)
    · have h431 := ct hc435 h431
      refine CJ.skip ?_
      refine CJ.seq ?_
      refine CJ.block ?_
      refine CJ.seq ?_
      refine CJ.region ?_
      refine J.val (v := .slice adxa_0 xa.length cpxa_0) rfl rfl (V.mv rfl) ?_
      refine J.val (v := .int .i64 i395) rfl rfl (V.mv rfl) ?_
      obtain ⟨x436, hx437, h431⟩ := ob h431
      obtain ⟨p438, p439, p440⟩ := getI_some hx437
      obtain ⟨b441, o442, e443, a444⟩ := (fxa_0).at p439
      refine J.val rfl rfl (V.iad Try.underlying22 sz37 rfl e443 rfl p438 p440) ?_
      refine J.val rfl rfl (V.fad Try.underlying37 rfl nz3 rfl) ?_
      refine J.val (v := .int .i64 x436.1) rfl rfl (V.ld rfl (Ld.sc sc3 (Rd.k ((a444).fst).int (Hp.le_refl _)))) ?_
      refine J.val (v := .int .i64 xb) rfl rfl (V.mv rfl) ?_
      refine J.val (v := .bool (decide (x436.1 = xb))) rfl rfl (V.eql rfl rfl) ?_
      refine J.nil ?_
      refine CJ.cond rfl (fun hc445 => ?_) (fun hc445 => ?_)
      · have h431 := ct hc445 h431
        refine CJ.region ?_
        refine J.val (v := .slice ad391 l390.length cp392) rfl rfl (V.mv rfl) ?_
        refine J.val (v := .slice adxa_0 xa.length cpxa_0) rfl rfl (V.mv rfl) ?_
        refine J.val (v := .int .i64 i395) rfl rfl (V.mv rfl) ?_
        obtain ⟨x446, hx447, h431⟩ := ob h431
        obtain ⟨p448, p449, p450⟩ := getI_some hx447
        obtain ⟨b451, o452, e453, a454⟩ := (fxa_0).at p449
        refine J.val rfl rfl (V.iad Try.underlying22 sz37 rfl e453 rfl p448 p450) ?_
        refine J.val rfl rfl (V.fad Try.underlying37 rfl nz3 rfl) ?_
        refine J.val (v := .int .i64 x446.2) rfl rfl (V.ld rfl (Ld.sc sc3 (Rd.k (((a454).snd).one).int (Hp.le_refl _)))) ?_
        refine J.op rfl (A.lit (K0 := Hp.nil) (ty := (.int .i64)) (xs := ([x446.2] : List Int)) Try.underlying30 inf3 rfl (by decide) rfl rfl rfl ⟨_, _, rfl, rfl, rfl⟩ rfl (by decide)) ?_
        rintro _ _ _ ⟨b455, rfl, rfl, rfl⟩
        have hn456 : ([x446.2] : List Int) ≠ [] → ∃ g, (some ⟨b455, 0, none⟩ : Option Addr) = some ⟨g, 0, none⟩ := fun _ => ⟨b455, rfl⟩
        obtain ⟨z458, hz459, h431⟩ := ob h431
        refine J.front 1 rfl ?_
        refine J.op rfl (A.appR (Kr := Hp.nil) Try.underlying30 inf3 rfl rfl (by decide) (by decide) rfl rfl (Els.flat rfl) (Els.flat rfl) hz459) ?_
        rintro _ _ _ ⟨v460, rfl, rfl, rfl⟩
        refine J.wit Row.form ?_
        rintro ⟨ad461, cp462, rfl, _, _, hn463⟩
        refine J.val (v := .slice ad461 z458.length cp462) rfl rfl (V.as rfl) ?_
        refine J.nil ?_
        refine CJ.region ?_
        refine J.val (v := .int .i64 i395) rfl rfl (V.mv rfl) ?_
        refine J.val (v := .int .i64 (IntKind.wrap .i64 (i395 + 1))) rfl rfl (V.add rfl rfl) ?_
        refine J.val (v := .int .i64 (IntKind.wrap .i64 (i395 + 1))) rfl rfl (V.as rfl) ?_
        refine J.nil ?_
        have e := Option.some.inj h431
        subst e
        exact ⟨rfl, ⟨z458, IntKind.wrap .i64 (i395 + 1), ad461, cp462, rfl, ⟨rfl, rfl, rfl, rfl, trivial⟩, rfl, rfl⟩⟩
      · have h431 := cf hc445 h431
        refine CJ.skip ?_
        refine CJ.region ?_
        refine J.val (v := .int .i64 i395) rfl rfl (V.mv rfl) ?_
        refine J.val (v := .int .i64 (IntKind.wrap .i64 (i395 + 1))) rfl rfl (V.add rfl rfl) ?_
        refine J.val (v := .int .i64 (IntKind.wrap .i64 (i395 + 1))) rfl rfl (V.as rfl) ?_
        refine J.nil ?_
        have e := Option.some.inj h431
        subst e
        exact ⟨rfl, ⟨l390, IntKind.wrap .i64 (i395 + 1), ad391, cp392, rfl, ⟨rfl, rfl, rfl, rfl, trivial⟩, rfl, rfl⟩⟩
    · have h431 := cf hc435 h431
      refine CJ.exit ?_
      have e := Option.some.inj h431
      subst e
      refine ⟨nofun, fun e => ?_⟩
      subst e
      exact ⟨rfl, ⟨l390, ad391, cp392, rfl, ⟨rfl, trivial⟩, rfl, rfl⟩⟩
  · rintro ρ _ _ ⟨l348, ad349, cp350, rfl, hf464, rfl, rfl⟩
    obtain ⟨ρ, rfl⟩ := hf464.ex
    refine PJ.wit Row.hn (fun hn352 => ?_)
    refine PJ.done ?_
    refine CJ.seq ?_
    refine CJ.region ?_
    refine J.val (v := .slice ad349 l348.length cp350) rfl rfl (V.mv rfl) ?_
    refine J.val (v := .slice ad349 l348.length cp350) rfl rfl (V.as rfl) ?_
    refine J.nil ?_
    refine CJ.ret ?_
    have e := Option.some.inj h
    subst e
    exact ⟨_, [Row Hp.nil 3 (.int .i64) (.slice ad349 l348.length cp350) l348], Res.one rfl rfl, ⟨l348, ad349, cp350, rfl, rfl, rfl⟩, (Hp.le_refl _), fun w hs => hs⟩
end Go.Proofs.Ytoghdhopojoggaa
