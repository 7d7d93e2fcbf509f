/- A region that draws its order: what reads is taken first, in one go; what makes, calls or writes comes where nothing else may come, and is walked as it stands. Nothing of the program is here. -/
import Derived.Test.YtbennpandomacaaGreatOwn
namespace Go.Proofs.YtbennpandomacaaGreat
open Go.RowKit
set_option linter.unusedVariables false
/-- A world that may come of w by draws, by blocks that are made, and by writes to the blocks of S. -/
structure Past (S : List Nat) (w0 : World) where
  w : World
  fr : Fr S w0 w
instance pastSome (S : List Nat) (w : World) : Nonempty (Past S w) := ⟨⟨w, Fr.refl S w⟩⟩
def Past.rest {S : List Nat} {w : World} (z : Past S w) (p : Addr) : Option Value := z.w.cell? p
theorem Past.or {S : List Nat} {w : World} (z : Past S w) (p : Addr) (hp : p.block ∉ S) : z.w.cell? p = (w.cell? p).or (z.rest p) := by
  cases h : w.cell? p with
  | none => rfl
  | some v => rw [z.fr.cell (cell_lt h) hp, h]; rfl
@[go_sem] theorem Past.cell0 {w : World} (z : Past [] w) (p : Addr) : z.w.cell? p = (w.cell? p).or (z.rest p) := z.or p (by simp)
@[go_sem] theorem Past.cell1 {x : Nat} {w : World} (z : Past [x] w) (b o : Nat) (t : Option Nat) : z.w.cell? ⟨b, o, t⟩ = if b = x then z.rest ⟨b, o, t⟩ else (w.cell? ⟨b, o, t⟩).or (z.rest ⟨b, o, t⟩) := by
  split
  · rfl
  · exact z.or _ (by simpa)
@[go_sem] theorem Past.cell2 {x y : Nat} {w : World} (z : Past [x, y] w) (b o : Nat) (t : Option Nat) : z.w.cell? ⟨b, o, t⟩ = if b = x ∨ b = y then z.rest ⟨b, o, t⟩ else (w.cell? ⟨b, o, t⟩).or (z.rest ⟨b, o, t⟩) := by
  split
  · rfl
  · exact z.or _ (by simp; omega)
section
variable {P : Program} {ops : Array Oper} {md : Region.Mode} {C : World → Prop} {T : Nat → Bool} {Q : Exit → Act → World → Prop}
def noExit : Exit → Act → World → Prop := fun _ _ _ => False
/-- Operations that yield a value, and enter no function. -/
def plainOp (o : Oper) : Bool := match o.op with
  | .move _ | .assign _ | .pick .. | .build .. | .buildSlice .. | .load .. | .nilCheck _ | .binOp .. | .unOp .. | .convert .. | .sliceToArrayPointer .. | .makeInterface .. | .makeFunc .. | .slice .. | .fieldAddr .. | .field .. | .indexAddr .. | .index .. | .lookup .. | .typeAssert .. | .extract .. => true
  | .call c => match c.callee with | .builtin .len => true | .builtin .cap => true | _ => false
  | _ => false
theorem run_value {s : Sem Value} {w w' : World} {n : Next} (h : (do pure (Next.value (← s)) : Sem Next).run P w = .ok n w') : ∃ u, n = .value u := by
  rw [Sem.run_bind] at h
  cases hs : s.run P w with
  | ok u w1 => rw [hs] at h; simp [Result.andThen, Sem.run_pure] at h; exact ⟨u, h.1.symm⟩
  | halt x w1 => rw [hs] at h; simp [Result.andThen] at h
theorem run_value2 {α : Type} {s : Sem α} {f : α → Value} {w w' : World} {n : Next} (h : (do pure (Next.value (f (← s))) : Sem Next).run P w = .ok n w') : ∃ u, n = .value u := by
  rw [Sem.run_bind] at h
  cases hs : s.run P w with
  | ok u w1 => rw [hs] at h; simp [Result.andThen, Sem.run_pure] at h; exact ⟨_, h.1.symm⟩
  | halt x w1 => rw [hs] at h; simp [Result.andThen] at h
def OnlyV (P : Program) (s : Sem Next) : Prop := ∀ w w' n, s.run P w = .ok n w' → ∃ u, n = .value u
theorem OnlyV.pure (u : Value) : OnlyV P (Pure.pure (.value u)) := fun w w' n h => by simp [Sem.run_pure] at h; exact ⟨u, h.1.symm⟩
theorem OnlyV.bind {α : Type} {s : Sem α} {f : α → Sem Next} (h : ∀ x, OnlyV P (f x)) : OnlyV P (s >>= f) := fun w w' n hr => by
  rw [Sem.run_bind] at hr
  cases hs : s.run P w with
  | ok u w1 => rw [hs] at hr; exact h u w1 w' n (by simpa [Result.andThen] using hr)
  | halt x w1 => rw [hs] at hr; simp [Result.andThen] at hr
theorem OnlyV.nilp : OnlyV P (runtimePanic .nilDeref) := fun w w' n h => by
  have e : (runtimePanic .nilDeref : Sem Next).run P w = .halt (.panic (.iface P.rt.errorString (strVal "invalid memory address or nil pointer dereference"))) w := by
    simp [runtimePanic, goPanic, go_sem]
  rw [e] at h; cases h
theorem plain_value {ρ : Operand → Value} {o : Oper} {w w' : World} {n : Next} (ho : plainOp o = true) (h : (execOp ρ o).run P w = .ok n w') : ∃ u, n = .value u := by
  obtain ⟨dst, op, type, pos, after, guard⟩ := o
  cases op <;> simp only [plainOp, Bool.false_eq_true] at ho <;> simp only [execOp] at h
  case move x => simp [Sem.run_pure] at h; exact ⟨_, h.1.symm⟩
  case assign x => simp [Sem.run_pure] at h; exact ⟨_, h.1.symm⟩
  case call c =>
    obtain ⟨cal, args, ats⟩ := c
    cases cal with
    | builtin b =>
      cases b <;> simp only [Bool.false_eq_true] at ho
      · exact run_value (s := Builtin.cap_ ats type (args.map ρ)) h
      · exact run_value (s := Builtin.len_ ats type (args.map ρ)) h
    | _ => simp at ho
  case nilCheck x =>
    have key : ∀ s : Sem Next, OnlyV P s → s.run P w = .ok n w' → ∃ u, n = .value u := fun s hs hr => hs w w' n hr
    refine key _ ?_ h
    split
    · exact OnlyV.nilp
    · exact OnlyV.nilp
    · exact OnlyV.nilp
    · split
      · exact OnlyV.nilp
      · refine OnlyV.bind (fun p => OnlyV.bind (fun b => ?_))
        split
        · exact OnlyV.bind (fun _ => OnlyV.pure _)
        · exact OnlyV.pure _
      · exact OnlyV.pure _
    · exact OnlyV.pure _
  case pick c x y => exact run_value2 (s := asBool (ρ c)) (f := fun b => if b = true then ρ x else ρ y) h
  all_goals exact run_value h
/-- In this state, in every world of the class, the operation leaves v in its temporary, and the world as it is. -/
def FirmAt (P : Program) (ops : Array Oper) (C : World → Prop) (o : Oper) (v : Value) (a : Act) : Prop :=
  (Region.wanted o (yielded ops a.tmps) = true ∧ ∀ w, C w → (execOp a.eval o).run P w = .ok (.value v) w) ∨
  (Region.wanted o (yielded ops a.tmps) = false ∧ v = undef)
theorem FirmAt.of_same {o : Oper} {v : Value} {a a' : Act} (hy : FirmAt P ops C o v a) (he : execOp a'.eval o = execOp a.eval o)
    (hw : Region.wanted o (yielded ops a'.tmps) = Region.wanted o (yielded ops a.tmps)) : FirmAt P ops C o v a' := by
  unfold FirmAt at *
  rw [he, hw]
  exact hy
/-- Operation i comes up: those of T may leave, and end where they will; all others return, and keep the class. -/
def mixOp (P : Program) (ops : Array Oper) (C : World → Prop) (T : Nat → Bool) (Q : Exit → Act → World → Prop) (i : Nat) (K : Act → World → Prop) (a : Act) (w : World) : Prop :=
  match ops[i]? with
  | none => K a w
  | some o => if Region.wanted o (yielded ops a.tmps) then (if T i then o.wp P a w K Q ∨ (o.asks P a w ∧ LetsOut Q) else o.wp P a w (fun a' w' => C w' ∧ K a' w') noExit) else K (a.put o.dst undef) w
theorem wp_noExit {o : Oper} {a : Act} {w : World} {K : Act → World → Prop} (h : o.wp P a w K noExit) : o.wp P a w K Q := by
  unfold Oper.wp at *
  generalize (execOp a.eval o).run P w = r at *
  cases r with
  | ok n w' =>
    cases n <;> simp only [Oper.upon] at h ⊢ <;>
      first
        | exact h
        | exact Calls.mono h (fun e w'' he => by
            cases e
            · exact he
            · exact he.elim
            · obtain ⟨_, _, hf⟩ := he; exact hf.elim)
  | halt x w' => cases x <;> simp only [Oper.upon] at h ⊢ <;> first | exact h.elim | exact h
theorem mixOp_mono {i : Nat} {a : Act} {w : World} {K K' : Act → World → Prop} (h : ∀ a w, K a w → K' a w) (hh : mixOp P ops C T Q i K a w) : mixOp P ops C T Q i K' a w := by
  unfold mixOp at *
  split
  · exact h _ _ (by simpa [*] using hh)
  · rename_i o ho
    simp only [ho] at hh
    split
    · rename_i hw
      simp only [hw, if_true] at hh
      split
      · rename_i ht; simp only [ht, if_true] at hh; exact hh.imp (Oper.wp_mono h) id
      · rename_i ht; simp only [ht] at hh; exact Oper.wp_mono (fun a w k => ⟨k.1, h a w k.2⟩) hh
    · rename_i hw; simp only [hw] at hh; exact h _ _ hh
/-- Whatever order is picked from here on. -/
def mixAny (P : Program) (md : Region.Mode) (ops : Array Oper) (C : World → Prop) (T : Nat → Bool) (Q : Exit → Act → World → Prop) : Nat → Array Bool → Act → World → Prop
  | 0, listed, a, w => Region.ready md ops listed = [] ∧ Q .normal a w
  | fuel + 1, listed, a, w =>
    (Region.ready md ops listed = [] → Q .normal a w) ∧
    ∀ i ∈ Region.ready md ops listed, mixOp P ops C T Q i (mixAny P md ops C T Q fuel (listed.setIfInBounds i true)) a w
theorem wpAny_of_mix : ∀ (fuel : Nat) (listed : Array Bool) (a : Act) (w : World), mixAny P md ops C T Q fuel listed a w → wpAny P md ops Q fuel listed a w
  | 0, _, _, _, h => h
  | fuel + 1, _, _, _, h => ⟨h.1, fun i hi => by
      have h1 := mixOp_mono (fun a w k => wpAny_of_mix fuel _ a w k) (h.2 i hi)
      unfold mixOp at h1
      unfold wpOp
      split
      · rename_i ho; simpa [ho] using h1
      · rename_i o ho
        simp only [ho] at h1
        split
        · rename_i hw
          simp only [hw, if_true] at h1
          split at h1
          · exact h1
          · exact .inl (wp_noExit (Oper.wp_mono (fun a w k => k.2) h1))
        · rename_i hw; simpa [hw] using h1⟩
theorem FirmAt.mixOp {i : Nat} {o : Oper} {v : Value} {a : Act} {w : World} (hi : ops[i]? = some o) (hT : T i = false) (hC : C w) (hy : FirmAt P ops C o v a) {K : Act → World → Prop} (h : K (a.put o.dst v) w) : mixOp P ops C T Q i K a w := by
  unfold Go.Proofs.YtbennpandomacaaGreat.mixOp
  simp only [hi]
  rcases hy with ⟨hw, hv⟩ | ⟨hw, rfl⟩
  · simp only [hw, if_true, hT, Bool.false_eq_true, if_false, Oper.wp, hv w hC, Oper.upon]; exact ⟨hC, h⟩
  · simp only [hw, Bool.false_eq_true, if_false]; exact h
/-- An operation apart from a firm one, and not of T: before or behind it, all the same. -/
theorem mixOp_put {j : Nat} {oi oj : Oper} {v : Value} (hj : ops[j]? = some oj) (hT : T j = false) (hap : oi.apart ops oj = true)
    (hsi : ∀ cs b, oi.op ≠ .select cs b) (hsj : ∀ cs b, oj.op ≠ .select cs b) {K : Act → World → Prop} {a : Act} {w : World} (hC : C w)
    (hy : FirmAt P ops C oi v a) (h : mixOp P ops C T Q j K (a.put oi.dst v) w) :
    mixOp P ops C T Q j (fun a' w' => FirmAt P ops C oi v a' ∧ C w' ∧ K (a'.put oi.dst v) w') a w := by
  obtain ⟨h1, h2, h3⟩ := Oper.apart_spec hap
  have keep : ∀ (a : Act), FirmAt P ops C oi v a → ∀ u, FirmAt P ops C oi v (a.put oj.dst u) := fun a hy u =>
    hy.of_same (execOp_put oi hsi a oj.dst u h3) (wanted_put oi a oj.dst u h3)
  have keepD : ∀ d, FirmAt P ops C oi v { a with defers := d :: a.defers } := fun d => hy.of_same rfl rfl
  unfold mixOp at *
  simp only [hj, hT, Bool.false_eq_true, if_false] at *
  rw [wanted_put oj a oi.dst v h1] at h
  split
  · rename_i hw
    simp only [hw, if_true] at h
    unfold Oper.wp at *
    rw [execOp_put oj hsj a oi.dst v h1] at h
    generalize (execOp a.eval oj).run P w = r at *
    cases r with
    | ok n w' =>
      cases n <;> simp only [Oper.upon] at h ⊢
      case value u => exact ⟨h.1, keep a hy u, h.1, by rw [← Act.put_comm a v u h2]; exact h.2⟩
      case skip => exact ⟨h.1, keep a hy _, h.1, by rw [← Act.put_comm a v undef h2]; exact h.2⟩
      case defer d =>
        refine ⟨h.1, keep _ (keepD d) _, h.1, ?_⟩
        rw [← Act.put_comm _ v undef h2, ← Act.put_defers]
        exact h.2
      case enter f args =>
        refine Calls.mono h fun e w'' he => ?_
        cases e with
        | returned u => exact ⟨he.1, keep a hy u, he.1, by rw [← Act.put_comm a v u h2]; exact he.2⟩
        | panicked c => exact he.elim
        | outgrown => exact he
      case row row args => exact Rows.mono h fun u w'' he => ⟨he.1, keep a hy u, he.1, by rw [← Act.put_comm a v u h2]; exact he.2⟩
    | halt x w' =>
      cases x <;> simp only [Oper.upon] at h ⊢
      case panic u => exact h.elim
  · rename_i hw
    simp only [hw] at h
    exact ⟨keep a hy _, hC, by rw [← Act.put_comm a v undef h2]; exact h⟩
/-- What has come up came up behind what it waits for. -/
def Shut (md : Region.Mode) (ops : Array Oper) (listed : Array Bool) : Prop := ∀ j o, ops[j]? = some o → listed.getD j false = true → ∀ e ∈ o.after, Region.binds md e = true → listed.getD e.on false = true
def waits (md : Region.Mode) (ops : Array Oper) : Nat → Nat → Nat → Bool
  | 0, _, _ => false
  | n + 1, j, i => match ops[j]? with
    | some o => o.after.any fun e => Region.binds md e && (e.on == i || waits md ops n e.on i)
    | none => false
theorem waits_listed {listed : Array Bool} (hS : Shut md ops listed) {i : Nat} : ∀ (n j : Nat), waits md ops n j i = true → (∀ o, ops[j]? = some o → ∀ e ∈ o.after, Region.binds md e = true → listed.getD e.on false = true) → listed.getD i false = true
  | 0, _, h, _ => by simp [waits] at h
  | n + 1, j, h, hj => by
      simp only [waits] at h
      cases ho : ops[j]? with
      | none => simp [ho] at h
      | some o =>
        simp only [ho, Array.any_eq_true'] at h
        obtain ⟨e, he, hb⟩ := h
        simp only [Bool.and_eq_true, Bool.or_eq_true, beq_iff_eq] at hb
        have h1 := hj o ho e he hb.1
        rcases hb.2 with rfl | h2
        · exact h1
        · exact waits_listed hS n e.on h2 (fun o' ho' => hS e.on o' ho' h1)
theorem shut_set {listed : Array Bool} {j : Nat} (hS : Shut md ops listed) (hj : j ∈ Region.ready md ops listed) : Shut md ops (listed.setIfInBounds j true) := by
  obtain ⟨_, oj, hoj, hall⟩ := mem_ready.1 hj
  intro k o hk hl e he hb
  by_cases hkj : j = k
  · subst hkj
    rw [hoj] at hk
    obtain rfl := Option.some.inj hk
    exact getD_set_true (hall e he hb)
  · rw [getD_set_ne false hkj] at hl
    exact getD_set_true (hS k o hk hl e he hb)
theorem unlisted {listed : Array Bool} {i : Nat} (h : i ∈ Region.ready md ops listed) : listed.getD i false = true → False := by
  have h0 := (mem_ready.1 h).1
  intro h1
  rcases Nat.lt_or_ge i listed.size with h' | h'
  · simp [h'] at h0 h1; rw [h0] at h1; cases h1
  · simp [Array.getElem?_eq_none h'] at h1
/-- A firm operation that may come up may be taken first, if those of T wait for it. -/
theorem mixAny_first {i : Nat} {oi : Oper} {v : Value} (hi : ops[i]? = some oi) (hTi : T i = false) (hsel : ∀ (j : Nat) (o : Oper) cs b, ops[j]? = some o → o.op ≠ .select cs b)
    (hwait : ∀ j, T j = true → waits md ops ops.size j i = true) :
    ∀ (fuel : Nat) (listed : Array Bool) (a : Act) (w : World), C w → Shut md ops listed →
      (∀ j oj, ops[j]? = some oj → j ≠ i → listed.getD j true = false → (∀ e ∈ oj.after, Region.binds md e = true → e.on ≠ i) → oi.apart ops oj = true) →
      i ∈ Region.ready md ops listed → FirmAt P ops C oi v a →
      mixAny P md ops C T Q fuel (listed.setIfInBounds i true) (a.put oi.dst v) w → mixAny P md ops C T Q (fuel + 1) listed a w := by
  intro fuel
  induction fuel with
  | zero =>
    intro listed a w hC hS _ hr hy H
    refine ⟨fun h => (by rw [h] at hr; cases hr), fun j hj => ?_⟩
    by_cases hji : j = i
    · subst hji; exact hy.mixOp hi hTi hC H
    · have := ready_mono hj hji
      rw [H.1] at this
      cases this
  | succ fuel ih =>
    intro listed a w hC hS hfree hr hy H
    refine ⟨fun h => (by rw [h] at hr; cases hr), fun j hj => ?_⟩
    by_cases hji : j = i
    · subst hji; exact hy.mixOp hi hTi hC H
    · have h1 := H.2 j (ready_mono hj hji)
      obtain ⟨hjun, oj, hoj, hall⟩ := mem_ready.1 hj
      have hTj : T j = false := by
        cases ht : T j with
        | false => rfl
        | true => exact (unlisted hr (waits_listed hS _ j (hwait j ht) (fun o ho => by rw [hoj] at ho; obtain rfl := Option.some.inj ho; exact hall))).elim
      have hnot : ∀ e ∈ oj.after, Region.binds md e = true → e.on ≠ i := fun e he hb heq => unlisted hr (heq ▸ hall e he hb)
      have h2 := mixOp_put hoj hTj (hfree j oj hoj hji hjun hnot) (fun cs b => hsel i oi cs b hi) (fun cs b => hsel j oj cs b hoj) hC hy h1
      have hfree' : ∀ k ok, ops[k]? = some ok → k ≠ i → (listed.setIfInBounds j true).getD k true = false →
          (∀ e ∈ ok.after, Region.binds md e = true → e.on ≠ i) → oi.apart ops ok = true := fun k ok hk hki hun hno => by
        refine hfree k ok hk hki ?_ hno
        by_cases hjk : j = k
        · subst hjk; exact hjun
        · rw [getD_set_ne true hjk] at hun; exact hun
      refine mixOp_mono (fun a' w' h3 => ih (listed.setIfInBounds j true) a' w' h3.2.1 (shut_set hS hj) hfree' (ready_mono hr (Ne.symm hji)) h3.1 ?_) h2
      rw [Array.setIfInBounds_comm _ _ hji]
      exact h3.2.2
/-! ### The plan: which are taken first, which come alone. -/
def mixStill (md : Region.Mode) (ops : Array Oper) (tail : List Nat) : List Nat → Array Bool → Option (Array Bool)
  | [], l => some l
  | i :: r, l => if (Region.ready md ops l).contains i && Region.free md ops l i && !tail.contains i && tail.all (fun j => waits md ops ops.size j i) && ((ops[i]?).map plainOp).getD false then mixStill md ops tail r (l.setIfInBounds i true) else none
def mixPlan (md : Region.Mode) (ops : Array Oper) (tail : List Nat) : List (List Nat × Nat) → Array Bool → Option (Array Bool)
  | [], l => some l
  | (s, k) :: r, l => match mixStill md ops tail s l with
    | some l' => if Region.ready md ops l' == [k] && !tail.contains k then mixPlan md ops tail r (l'.setIfInBounds k true) else none
    | none => none
def mixTail (md : Region.Mode) (ops : Array Oper) (tail : List Nat) : List Nat → Array Bool → Bool
  | [], l => (Region.ready md ops l).isEmpty
  | t :: r, l => Region.ready md ops l == [t] && tail.contains t && mixTail md ops tail r (l.setIfInBounds t true)
def mixB (md : Region.Mode) (ops : Array Oper) (plan : List (List Nat × Nat)) (fin tail : List Nat) : Bool :=
  Region.noSelect ops && (plan.map (fun p => p.1.length + 1)).sum + fin.length + tail.length == ops.size && match mixPlan md ops tail plan (Array.replicate ops.size false) with
    | some l => match mixStill md ops tail fin l with
      | some l' => mixTail md ops tail tail l'
      | none => false
    | none => false
def picks (l : List Oper) : List Nat → List Oper
  | [] => []
  | i :: r => match l[i]? with | some o => o :: picks l r | none => picks l r
def segs (l : List Oper) : List (List Nat × Nat) → List (List Oper × Oper)
  | [] => []
  | (s, k) :: r => match l[k]? with | some o => (picks l s, o) :: segs l r | none => segs l r
theorem picks_cons {l : List Oper} {i : Nat} {o : Oper} {r : List Nat} (h : l[i]? = some o) : picks l (i :: r) = o :: picks l r := by simp [picks, h]
theorem segs_cons {l : List Oper} {s : List Nat} {k : Nat} {o : Oper} {r : List (List Nat × Nat)} (h : l[k]? = some o) : segs l ((s, k) :: r) = (picks l s, o) :: segs l r := by simp [segs, h]
/-- One operation that comes alone. -/
def aloneOp (P : Program) (ops : Array Oper) (C : World → Prop) (o : Oper) (K : Act → World → Prop) (a : Act) (w : World) : Prop :=
  if Region.wanted o (yielded ops a.tmps) then o.wp P a w (fun a' w' => C w' ∧ K a' w') noExit else K (a.put o.dst undef) w
def wpMix (P : Program) (ops : Array Oper) (C : World → Prop) (F : Act → World → Prop) : List (List Oper × Oper) → Act → World → Prop
  | [], a, w => F a w
  | (s, o) :: r, a, w => wpQuiet P ops C (fun a' => aloneOp P ops C o (wpMix P ops C F r) a' w) s a
theorem firm_of_quiet {o : Oper} {a : Act} {K : Act → Prop} (ho : plainOp o = true) (hne : ∃ w, C w) (h : if Region.wanted o (yielded ops a.tmps) then o.quiet P a C K else K (a.put o.dst undef)) : ∃ v, FirmAt P ops C o v a ∧ K (a.put o.dst v) := by
  by_cases hw : Region.wanted o (yielded ops a.tmps) = true
  · simp only [hw, if_true] at h
    obtain ⟨v, h1, h2⟩ := h
    refine ⟨v, .inl ⟨hw, fun w hC => ?_⟩, h2⟩
    have h3 := h1 w hC
    unfold Oper.quietAt at h3
    cases hr : (execOp a.eval o).run P w with
    | ok n w' =>
      obtain ⟨u, rfl⟩ := plain_value ho hr
      rw [hr] at h3
      obtain ⟨rfl, rfl⟩ := h3
      rfl
    | halt x w' => rw [hr] at h3; exact h3.elim
  · simp only [hw] at h
    exact ⟨undef, .inr ⟨by simpa using hw, rfl⟩, h⟩
theorem mix_still {l : List Oper} {tail : List Nat} (hs : Region.noSelect l.toArray = true) : ∀ (s : List Nat) (k : Nat) (listed listed' : Array Bool) (a : Act) (w : World) (K : Act → Prop), mixStill md l.toArray tail s listed = some listed' → C w → Shut md l.toArray listed →
    (∀ a', K a' → mixAny P md l.toArray C (tail.contains ·) Q k listed' a' w) → wpQuiet P l.toArray C K (picks l s) a → (Shut md l.toArray listed' ∧ mixAny P md l.toArray C (tail.contains ·) Q (k + s.length) listed a w)
  | [], k, listed, listed', a, w, K, hm, hC, hS, hK, h => by
      simp only [mixStill, Option.some.injEq] at hm
      subst hm
      exact ⟨hS, hK a h⟩
  | i :: s, k, listed, listed', a, w, K, hm, hC, hS, hK, h => by
      simp only [mixStill] at hm
      split at hm
      case isFalse => cases hm
      case isTrue hb =>
        simp only [Bool.and_eq_true, Bool.not_eq_true', List.all_eq_true] at hb
        obtain ⟨⟨⟨⟨hr, hf⟩, ht⟩, hw⟩, hp⟩ := hb
        have hmem : i ∈ Region.ready md l.toArray listed := by simpa using hr
        obtain ⟨_, oi, ho, _⟩ := mem_ready.1 hmem
        rw [ho] at hp
        have ho' : l[i]? = some oi := by simpa using ho
        rw [picks_cons ho'] at h
        obtain ⟨v, hy, hn⟩ := firm_of_quiet (by simpa using hp) ⟨w, hC⟩ h
        have h1 := mix_still hs s k (listed.setIfInBounds i true) listed' (a.put oi.dst v) w K hm hC (shut_set hS hmem) hK hn
        refine ⟨h1.1, ?_⟩
        have h2 := mixAny_first (T := (tail.contains ·)) (Q := Q) ho ht (Region.noSelect_spec hs) (fun j hj => hw j (by simpa using hj)) (k + s.length) listed a w hC hS (Region.free_spec ho hf) hmem hy h1.2
        simpa [Nat.add_assoc] using h2
theorem mix_alone {l : List Oper} {tail : List Nat} {k fuel : Nat} {o : Oper} {listed : Array Bool} {a : Act} {w : World} (hr : Region.ready md l.toArray listed = [k]) (ho : l[k]? = some o) (ht : tail.contains k = false)
    (h : aloneOp P l.toArray C o (mixAny P md l.toArray C (tail.contains ·) Q fuel (listed.setIfInBounds k true)) a w) : mixAny P md l.toArray C (tail.contains ·) Q (fuel + 1) listed a w := by
  refine ⟨fun h0 => by rw [hr] at h0; simp at h0, fun i hi => ?_⟩
  rw [hr] at hi
  obtain rfl := List.mem_singleton.1 hi
  unfold mixOp
  have ho' : l.toArray[i]? = some o := by simpa using ho
  simp only [ho', ht, Bool.false_eq_true, if_false]
  exact h
theorem mix_tail {l : List Oper} {tail : List Nat} : ∀ (r : List Nat) (listed : Array Bool) (a : Act) (w : World), mixTail md l.toArray tail r listed = true → wpList P l.toArray Q (picks l r) a w → mixAny P md l.toArray C (tail.contains ·) Q r.length listed a w
  | [], listed, a, w, hm, h => ⟨by simpa [mixTail] using hm, h⟩
  | t :: r, listed, a, w, hm, h => by
      simp only [mixTail, Bool.and_eq_true, beq_iff_eq] at hm
      obtain ⟨⟨hr, ht⟩, hm⟩ := hm
      have hmem : t ∈ Region.ready md l.toArray listed := by rw [hr]; simp
      obtain ⟨_, o, ho, _⟩ := mem_ready.1 hmem
      have ho' : l[t]? = some o := by simpa using ho
      rw [picks_cons ho'] at h
      have ih := fun a w => mix_tail r (listed.setIfInBounds t true) a w hm
      refine ⟨fun h0 => by rw [hr] at h0; simp at h0, fun i hi => ?_⟩
      rw [hr] at hi
      obtain rfl := List.mem_singleton.1 hi
      unfold mixOp
      simp only [ho, ht, if_true]
      unfold wpList at h
      split
      · rename_i hw
        simp only [hw, if_true] at h
        exact h.imp (Oper.wp_mono ih) id
      · rename_i hw
        simp only [hw] at h
        exact ih _ _ h
theorem mix_plan {l : List Oper} {tail : List Nat} {F : Act → World → Prop} (hs : Region.noSelect l.toArray = true) : ∀ (plan : List (List Nat × Nat)) (k : Nat) (listed listed' : Array Bool) (a : Act) (w : World), mixPlan md l.toArray tail plan listed = some listed' → C w → Shut md l.toArray listed →
    (∀ a' w', C w' → Shut md l.toArray listed' → F a' w' → mixAny P md l.toArray C (tail.contains ·) Q k listed' a' w') → wpMix P l.toArray C F (segs l plan) a w → mixAny P md l.toArray C (tail.contains ·) Q (k + (plan.map (fun p => p.1.length + 1)).sum) listed a w
  | [], k, listed, listed', a, w, hm, hC, hS, hK, h => by
      simp only [mixPlan, Option.some.injEq] at hm
      subst hm
      exact hK a w hC hS h
  | (s, i) :: r, k, listed, listed', a, w, hm, hC, hS, hK, h => by
      simp only [mixPlan] at hm
      split at hm
      case h_2 => cases hm
      case h_1 l1 h1 =>
        split at hm
        case isFalse => cases hm
        case isTrue hb =>
          simp only [Bool.and_eq_true, beq_iff_eq, Bool.not_eq_true'] at hb
          have hmem : i ∈ Region.ready md l.toArray l1 := by rw [hb.1]; simp
          obtain ⟨_, o, ho, _⟩ := mem_ready.1 hmem
          have ho' : l[i]? = some o := by simpa using ho
          rw [segs_cons ho'] at h
          have hS1 : Shut md l.toArray l1 := (mix_still (P := P) (Q := noExit) (md := md) (tail := tail) (C := C) hs s 0 listed l1 a w (fun _ => False) h1 hC hS (fun _ h => h.elim)) |> fun f => by
            have : ∀ (s : List Nat) (listed l1 : Array Bool), mixStill md l.toArray tail s listed = some l1 → Shut md l.toArray listed → Shut md l.toArray l1 := by
              intro s
              induction s with
              | nil => intro a b h1 h2; simp only [mixStill, Option.some.injEq] at h1; subst h1; exact h2
              | cons i s ih =>
                intro a b h1 h2
                simp only [mixStill] at h1
                split at h1
                case isFalse => cases h1
                case isTrue hb =>
                  simp only [Bool.and_eq_true] at hb
                  exact ih _ _ h1 (shut_set h2 (by simpa using hb.1.1.1.1))
            exact this s listed l1 h1 hS
          have h2 := (mix_still (P := P) (Q := Q) (md := md) (tail := tail) (C := C) hs s (k + (r.map (fun p => p.1.length + 1)).sum + 1) listed l1 a w _ h1 hC hS (fun a' hk => by
            refine mix_alone hb.1 ho' hb.2 ?_
            unfold aloneOp at *
            split
            · rename_i hw
              simp only [hw, if_true] at hk
              exact Oper.wp_mono (fun a2 w2 hk2 => ⟨hk2.1, mix_plan hs r k (l1.setIfInBounds i true) listed' a2 w2 hm hk2.1 (shut_set hS1 hmem) hK hk2.2⟩) hk
            · rename_i hw
              simp only [hw] at hk
              exact mix_plan hs r k (l1.setIfInBounds i true) listed' _ w hm hC (shut_set hS1 hmem) hK hk) h).2
          have e : k + (r.map (fun p => p.1.length + 1)).sum + 1 + s.length = k + (((s, i) :: r).map (fun p => p.1.length + 1)).sum := by simp; omega
          rw [e] at h2
          exact h2
/-- The region: the plan's operations, one lot and one alone, and so on; a last lot; then the tail, as it stands. -/
theorem wp_region_mix {id : Nat} {a : Act} {w : World} {l : List Oper} (plan : List (List Nat × Nat)) (fin tail : List Nat) (hm : P.follows .mixedOrders = true) (hB : mixB .any l.toArray plan fin tail = true) (C : World → Prop) (hC : C w.drew)
    {ss : List (List Oper × Oper)} (hss : segs l plan = ss) {fs ts : List Oper} (hfs : picks l fin = fs) (hts : picks l tail = ts)
    (h : wpMix P l.toArray C (fun a' w' => wpQuiet P l.toArray C (fun a' => wpList P l.toArray Q ts a' w') fs a') ss a w.drew) : (Code.region id l.toArray true).wp P Q a w := by
  subst hss hfs hts
  unfold mixB at hB
  simp only [Bool.and_eq_true, beq_iff_eq] at hB
  obtain ⟨⟨hs, hn⟩, hB⟩ := hB
  split at hB
  case h_2 => cases hB
  case h_1 l1 h1 =>
    split at hB
    case h_2 => cases hB
    case h_1 l2 h2 =>
      refine wp_region_any hm (wpAny_of_mix (C := C) (T := (tail.contains ·)) _ _ _ _ ?_)
      have hS0 : Shut Region.Mode.any l.toArray (Array.replicate l.toArray.size false) := by
        intro j o _ hl
        exfalso
        rcases Nat.lt_or_ge j (Array.replicate l.toArray.size false).size with h' | h'
        · simp at h'; simp [h'] at hl
        · rw [Array.getD_eq_getD_getElem?, Array.getElem?_eq_none h'] at hl
          cases hl
      have h3 := mix_plan (P := P) (Q := Q) (C := C) (md := .any) (tail := tail) hs plan (tail.length + fin.length) (Array.replicate l.toArray.size false) l1 a w.drew h1 hC hS0
        (fun a' w' hC' hS' hF => (mix_still (P := P) (Q := Q) (md := .any) (tail := tail) (C := C) hs fin tail.length l1 l2 a' w' _ h2 hC' hS' (fun a2 hk => mix_tail tail l2 a2 w' hB hk) hF).2) h
      rw [show tail.length + fin.length + (plan.map (fun p => p.1.length + 1)).sum = l.toArray.size by omega] at h3
      exact h3
theorem wpMix_cons {F : Act → World → Prop} {s : List Oper} {o : Oper} {r : List (List Oper × Oper)} {a : Act} {w : World} (h : wpQuiet P ops C (fun a' => aloneOp P ops C o (wpMix P ops C F r) a' w) s a) : wpMix P ops C F ((s, o) :: r) a w := h
theorem wpMix_nil {F : Act → World → Prop} {a : Act} {w : World} (h : F a w) : wpMix P ops C F [] a w := h
theorem alone_skip {o : Oper} {K : Act → World → Prop} {a : Act} {w : World} (hw : Region.wanted o (yielded ops a.tmps) = false) (h : K (a.put o.dst undef) w) : aloneOp P ops C o K a w := by
  unfold aloneOp
  rw [if_neg (by simp [hw])]
  exact h
end
end Go.Proofs.YtbennpandomacaaGreat
