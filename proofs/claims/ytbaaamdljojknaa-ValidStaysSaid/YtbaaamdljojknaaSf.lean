/- Functions: entered, left; loops; what is computed with. Nothing of the program is here. -/
import Derived.Test.YtbaaamdljojknaaOc
import Derived.LoopN
import Derived.Test.YtbaaamdljojknaaLp
namespace Go.Proofs.Ytbaaamdljojknaa
open Go.RowKit
set_option linter.unusedVariables false
section
variable {P : Program} {E : En} {n : Nat} {C : World → Prop} {Φ : Post} {ρ : Sl0} {K : Hp} {L R : List Atom} {v : Value}
/-- A variable is read, whole. -/
def Ld (P : Program) (C : World → Prop) (t : TypeId) (b o : Nat) (v : Value) : Prop := ∀ w, C w → (loadVar t ⟨b, o, none⟩).run P w = .ok v w
theorem Ld.sc {t : TypeId} {b o : Nat} (ht : scalar P t = true) (h : Rd C b o v) : Ld P C t b o v := fun w hw => by
  have hc := h w hw
  simp [loadVar, run_isAgg w ht, hc]
theorem Ld.agg {t : TypeId} {fs : Array Field} {b o : Nat} {cs : List Value} {sz : Nat} (ht : P.underlying t = some (.struct fs)) (hz : (P.info? t).map (·.size) = some sz) (hl : cs.length = sz) (h : ∀ j u, cs[j]? = some u → Rd C b (o + j) u) : Ld P C t b o (.agg cs.toArray) := fun w hw => by
  cases hi : P.info? t with
  | none => rw [hi] at hz; simp at hz
  | some i' =>
    rw [hi] at hz
    simp at hz
    have h2 := run_loadCells_list (P := P) w ⟨b, o, none⟩ cs (fun j u hu => by rw [addr_add]; exact h j u hu w hw)
    have h3 : (isAgg t).run P w = .ok true w := by simp [isAgg, run_underlying ht]
    rw [hl] at h2
    simp [loadVar, h3, sizeOf, typeInfo, hi, hz, h2]
theorem Ld.aggK {t : TypeId} {fs : Array Field} {b o : Nat} {cs : List Value} {sz : Nat} {K0 : Hp} (ht : P.underlying t = some (.struct fs)) (hz : (P.info? t).map (·.size) = some sz) (hl : cs.length = sz) (h : Cells K0 b o cs) (k : K0.le K) : Ld P (Hold E K R) t b o (.agg cs.toArray) :=
  Ld.agg ht hz hl (fun j u hu => Rd.k (h.at j u hu) k)
theorem V.ld {t ty : TypeId} {b o : Nat} {d : Option Nat} {pos : String} {af : Array Edge} {g : Option (Nat × Bool)} {x : Operand} (hx : ev n ρ x = .pointer (some ⟨b, o, none⟩)) (h : Ld P C t b o v) : Val P n C ρ ⟨d, .load t x, ty, pos, af, g⟩ v := fun w hw => by
  have hc := h w hw
  simp [execOp, hx, Instr.loadAt, Instr.sureAddr, hc]
/-- All the cells from a place on, out of a block that is held, or that is known. -/
theorem Rd.cls (i : Nat) {b : Nat} {e : TypeId} {cs ds : List Value} (o : Nat) (hi : R[i]? = some (Cl b e cs)) (hd : ds = (cs.drop o).take ds.length) : ∀ j u, ds[j]? = some u → Rd (Hold E K R) b (o + j) u := fun j u hu => by
  refine Rd.cl i hi ?_
  rw [hd, List.getElem?_take, List.getElem?_drop] at hu
  split at hu
  · exact hu
  · cases hu
def RvOk (P : Program) (n : Nat) (C : World → Prop) (ρ : Sl0) : ResultVar → Value → Prop
  | .tmp t, v => ev n ρ (.tmp t) = v
  | .cell a ty, v => ∃ b o, ev n ρ (.tmp a) = .pointer (some ⟨b, o, none⟩) ∧ Ld P C ty b o v
def rvS (tmps : Array Value) : ResultVar → Sem Value
  | .tmp t => pure (tmps.getD t undef)
  | .cell a t => do loadVar t (← asAddr (tmps.getD a undef))
theorem results_rvS (fn : Func) (tmps : Array Value) : results fn tmps = (do let vs ← fn.results.mapM (rvS tmps); pure (if h : vs.size = 1 then vs[0] else .tuple vs)) := by
  unfold results
  congr 2
theorem rv_run {r : ResultVar} (h : RvOk P n C ρ r v) {w : World} (hw : C w) : (rvS (frm n ρ) r).run P w = .ok v w := by
  cases r with
  | tmp t =>
    have h' : (act n ρ).eval (.tmp t) = v := by rw [eval_act]; exact h
    have h2 : (frm n ρ).getD t undef = v := h'
    simp only [rvS, h2, Sem.run_pure]
  | cell a t =>
    obtain ⟨b, o, h1, h3⟩ := h
    have h' : (act n ρ).eval (.tmp a) = .pointer (some ⟨b, o, none⟩) := by rw [eval_act]; exact h1
    have h2 : (frm n ρ).getD a undef = .pointer (some ⟨b, o, none⟩) := h'
    have := h3 w hw
    simp only [rvS, h2, asAddr]
    simpa using this
def Res (P : Program) (n : Nat) (C : World → Prop) (ρ : Sl0) (fn : Func) (v : Value) : Prop := ∀ w, C w → (results fn (frm n ρ)).run P w = .ok v w
theorem Res.zero {fn : Func} (h : fn.results = #[]) : Res P n C ρ fn (.tuple #[]) := fun w _ => results_none h _ _ _
theorem Res.one {fn : Func} {r1 : ResultVar} {v1 : Value} (h : fn.results = #[r1]) (h1 : RvOk P n C ρ r1 v1) : Res P n C ρ fn v1 := fun w hw => by
  have k1 := rv_run h1 hw
  rw [results_rvS, h]
  simp only [Array.mapM_eq_mapM_toList, List.mapM_cons, List.mapM_nil]
  simp [k1]
theorem Res.two {fn : Func} {r1 r2 : ResultVar} {v1 v2 : Value} (h : fn.results = #[r1, r2]) (h1 : RvOk P n C ρ r1 v1) (h2 : RvOk P n C ρ r2 v2) : Res P n C ρ fn (.tuple #[v1, v2]) := fun w hw => by
  have k1 := rv_run h1 hw
  have k2 := rv_run h2 hw
  rw [results_rvS, h]
  simp only [Array.mapM_eq_mapM_toList, List.mapM_cons, List.mapM_nil]
  simp [k1, k2]
/-- A function is left. -/
def Ends (P : Program) (E : En) (n : Nat) (fn : Func) (K0 : Hp) (F : List Atom) (R : Value → Hp → List Atom → Prop) (ρ : Sl0) (K : Hp) (L : List Atom) : Prop := ∃ v L', Res P n (Hold E K L) ρ fn v ∧ R v K L' ∧ K0.le K ∧ ∀ w, Sep E K L w → Sep E K (L' ++ F) w
def RetP (P : Program) (E : En) (n : Nat) (fn : Func) (K0 : Hp) (F : List Atom) (R : Value → Hp → List Atom → Prop) : Post
  | .normal, ρ, K, L | .ret, ρ, K, L => Ends P E n fn K0 F R ρ K L
  | _, _, _, _ => False
def args0 (args : Array Value) : Sl0 := fun i => (args.toList)[i]?.getD undef
theorem frm_args {n : Nat} {args : Array Value} (h : args.size ≤ n) : args ++ Array.replicate (n - args.size) undef = frm n (args0 args) := by
  apply Array.ext_getElem?
  intro i
  rw [frm_get, Array.getElem?_append]
  unfold args0
  by_cases hi : i < args.size
  · rw [if_pos hi, if_pos (by omega)]
    simp [hi]
  · rw [if_neg hi, Array.getElem?_replicate]
    by_cases h2 : i < n
    · rw [if_pos (by omega), if_pos h2]
      simp [show args.toList[i]? = none from List.getElem?_eq_none (by simpa using hi)]
    · rw [if_neg (by omega), if_neg h2]
theorem Tr.of {f : FuncId} {fn : Func} {c : Code} {args : Array Value} {R : Value → Hp → List Atom → Prop} (hf : P.funcs[f]? = some fn) (hb : fn.body = some c) (hn : fn.ntmps = n) (ha : Nat.ble args.size n = true)
    (h : ∀ E F, CJ P E n c (RetP P E n fn K F R) (args0 args) K (L ++ F)) : Tr P f args K L R := fun E w F hs => by
  refine calls_of_wp hf hb ?_
  rw [hn, frm_args (Nat.le_of_ble_eq_true ha)]
  refine wp_mono ((h E F).go w hs) ?_
  rintro e a w' ⟨ρ, K', L', rfl, h1, h2⟩
  have key : Ends P E n fn K F R ρ K' L' → (act n ρ).defers = [] ∧ ∃ v, (results fn (act n ρ).tmps).run P w' = .ok v w' ∧ ∃ v' K'' L'', Ending.returned v = .returned v' ∧ R v' K'' L'' ∧ K.le K'' ∧ Sep E K'' (L'' ++ F) w' := by
    rintro ⟨v, L2, h3, h4, h5, h6⟩
    exact ⟨rfl, v, h3 w' (Hold.of_sep h1), v, K', L2, rfl, h4, h5, h6 w' h1⟩
  cases e with
  | normal => exact key h2
  | ret => exact key h2
  | _ => exact h2.elim
end
section
variable {P : Program} {E : En} {n : Nat} {Φ : Post} {ρ : Sl0} {K : Hp} {L : List Atom}
/-- A loop: the state that is computed with says what the frame and the memory are like at each round's head. -/
theorem CJ.loop {σ β : Type} {body : σ → Option (σ ⊕ β)} {s0 : σ} {b : β} {c : Code} (I : σ → Sl0 → Hp → List Atom → Prop) (h : loop body s0 = some b) (h0 : I s0 ρ K L)
    (hb : ∀ s ρ K L r, I s ρ K L → body s = some r → CJ P E n c (fun e ρ K L => match r with | .inl s' => e = .normal ∧ I s' ρ K L | .inr x => e ≠ .normal ∧ (x = b → Φ e ρ K L)) ρ K L) : CJ P E n (.loop c) Φ ρ K L := by
  obtain ⟨m, hm⟩ := loop_iter h
  refine ⟨fun w hs => ?_⟩
  clear h
  refine wp_loop_rounds m ?_
  induction m generalizing s0 ρ K L w with
  | zero => cases hm
  | succ m ih =>
    unfold iter at hm
    obtain ⟨r, hr, h1⟩ := ob hm
    rw [rounds_succ]
    refine wp_mono ((hb s0 ρ K L r h0 hr).go w hs) ?_
    rintro e a' w'' ⟨ρ', K', L', rfl, hs', hΦ⟩
    cases r with
    | inl s' =>
      obtain ⟨rfl, hI'⟩ := hΦ
      exact ih (s0 := s') (ρ := ρ') (K := K') (L := L') hI' h1 w'' hs'
    | inr x =>
      cases h1
      obtain ⟨hne, hΦ⟩ := hΦ
      cases e with
      | normal => exact absurd rfl hne
      | _ => exact ⟨ρ', K', L', rfl, hs', hΦ rfl⟩
end
end Go.Proofs.Ytbaaamdljojknaa
