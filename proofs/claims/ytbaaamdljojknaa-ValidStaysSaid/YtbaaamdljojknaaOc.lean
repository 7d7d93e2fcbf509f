/- append, make and calls, judged. Nothing of the program is here. -/
import Derived.Test.YtbaaamdljojknaaOa
namespace Go.Proofs.Ytbaaamdljojknaa
open Go.RowKit
set_option linter.unusedVariables false
section
variable {E : En} {L : List Atom} {K : Hp} {w : World}
/-- What append's law asks of a row that is held. -/
theorem Rw.owns {e : TypeId} {k n : Nat} {v : Value} {cs : List Value} {h : Hp} (hr : Rw e k v n cs h) (hle : h.le (Hp.of w)) : w.ownsRow 0 e k v n cs := by
  obtain ⟨h1, h2⟩ := hr
  refine ⟨h1, ?_⟩
  rcases h2 with ⟨rfl, rfl, _⟩ | ⟨g, cap, cur, rfl, rfl, h3, h4, h5, h6⟩
  · exact .inl ⟨rfl, rfl⟩
  · exact .inr ⟨g, cap, cur, rfl, Nat.zero_le _, hle g _ (one_of g _), h3, h4, h5, h6⟩
theorem Rw.block {e : TypeId} {k n : Nat} {v : Value} {cs : List Value} {h : Hp} (hr : Rw e k v n cs h) (b : Nat) : h b = none ↔ v.ownBlock ≠ some b := by
  obtain ⟨h1, h2⟩ := hr
  rcases h2 with ⟨rfl, rfl, rfl⟩ | ⟨g, cap, cur, rfl, rfl, h3, h4, h5, h6⟩
  · simp [Hp.nil, Value.ownBlock]
  · simp only [one, Value.ownBlock, ne_eq, Option.some.injEq]
    constructor
    · intro h e; subst e; simp at h
    · intro h; rw [if_neg (fun e => h e.symm)]
/-- Behind an append. -/
theorem Sep.grown {e : TypeId} {t : Tp} {v v' : Value} {xs zs : List t.den} {K0 K1 : Hp} {w' : World} {cs' : List Value} {m : Nat} (hs : Sep E K (Row K0 e t v xs :: L) w) (hn : m = zs.length)
    (ho : w'.ownsRow 0 e t.size v' m cs') (hz : Els K1 t cs' zs) (hg : w.grownBy w' v.ownBlock) (hb : v'.ownBlock = v.ownBlock ∨ v'.ownBlock = some w.heap.size) : Sep E K (Row K1 e t v' zs :: L) w' := by
  subst hn
  refine Sep.turn hs (fun he => ⟨hg.os.trans he.1, hg.tape.trans he.2.1, hg.output.trans he.2.2⟩) (fun h ⟨cs, h1, h2⟩ hle => ?_)
  have hkeep : ∀ n o, w.heap[n]? = some o → h n = none → w'.heap[n]? = some o := fun n o e hn => by
    rw [hg.block n (lt_of_block e) (fun e' => (h2.block n).1 hn e'.symm)]; exact e
  obtain ⟨h3, h4⟩ := ho
  rcases h4 with ⟨rfl, h4⟩ | ⟨g, cap, cur, rfl, _, h5, h6, h7, h8, h9⟩
  · exact ⟨Hp.nil, ⟨cs', hz, h3, .inl ⟨by rw [h4], h4, rfl⟩⟩, fun n o e => (by cases e), hkeep⟩
  · refine ⟨one g (.cells cur e (0, 0)), ⟨cs', hz, h3, .inr ⟨g, cap, cur, rfl, rfl, h6, h7, h8, h9⟩⟩, fun n o e' => ?_, hkeep⟩
    obtain ⟨rfl, rfl⟩ := one_some e'
    refine ⟨h5, fun hn => ?_⟩
    rcases hb with hb | hb
    · exact absurd hb.symm (by have := (h2.block n).1 hn; simpa [Value.ownBlock] using this)
    · simp [Value.ownBlock] at hb
      rw [hb]; exact Array.getElem?_eq_none (Nat.le_refl _)
end
theorem Is.nil_len {K : Hp} {t : Tp} {m cap : Nat} {l : List t.den} (h : Is K (.sl t) [.slice none m cap] l) : l = [] ∧ m = 0 := by
  simp only [Is] at h
  obtain ⟨ad, cap', h1, h2, h3, h4⟩ := h
  simp at h1
  obtain ⟨rfl, rfl, rfl⟩ := h1
  by_cases hl : l = []
  · exact ⟨hl, by rw [hl]; rfl⟩
  · obtain ⟨b, o, h5, _⟩ := h4 hl; cases h5
/-- The cells of a slice that is known. -/
theorem Is.cells {K : Hp} {t : Tp} (h0 : 0 < t.size) {b : Addr} {m cap : Nat} : ∀ {l : List t.den}, Is K (.sl t) [.slice (some b) m cap] l → ∃ cs, Els K t cs l ∧ m = l.length ∧ ∀ w : World, K.le (Hp.of w) → ∀ j u, cs[j]? = some u → w.cell? (b.add j) = some u := by
  intro l h
  simp only [Is] at h
  obtain ⟨ad, cap', h1, h2, h3, h4⟩ := h
  simp only [List.cons.injEq, Value.slice.injEq, and_true] at h1
  obtain ⟨rfl, rfl, rfl⟩ := h1
  by_cases hl : l = []
  · subst hl
    exact ⟨[], rfl, rfl, fun w hw j u hu => by simp at hu⟩
  · obtain ⟨b', o, h5, h6⟩ := h4 hl
    simp only [Option.some.injEq] at h5
    subst h5
    have gen : ∀ (l : List t.den) (o : Nat), (∀ k x, l[k]? = some x → ∃ es, es.length = t.size ∧ Is K t es x ∧ ∀ j, j < t.size → cellK K b' (o + k * t.size + j) = es[j]?) →
        ∃ cs, Els K t cs l ∧ ∀ w : World, K.le (Hp.of w) → ∀ j u, cs[j]? = some u → w.cell? ⟨b', o + j, none⟩ = some u := by
      intro l
      induction l with
      | nil => exact fun o _ => ⟨[], rfl, fun w hw j u hu => by simp at hu⟩
      | cons x l ih =>
        intro o hh
        obtain ⟨es, hl1, hi1, hc1⟩ := hh 0 x rfl
        obtain ⟨cs, he, hc⟩ := ih (o + t.size) (fun k y hy => by
          obtain ⟨es', a1, a2, a3⟩ := hh (k + 1) y (by simpa using hy)
          refine ⟨es', a1, a2, fun j hj => ?_⟩
          rw [← a3 j hj]; congr 1; rw [Nat.succ_mul]; omega)
        refine ⟨es ++ cs, ⟨es, cs, rfl, hi1, he⟩, fun w hw j u hu => ?_⟩
        rcases Nat.lt_or_ge j t.size with hj | hj
        · rw [List.getElem?_append_left (by omega)] at hu
          have := hc1 j hj
          rw [hu, Nat.zero_mul, Nat.add_zero] at this
          exact cellK_world hw this
        · rw [List.getElem?_append_right (by omega)] at hu
          have := hc w hw _ u hu
          rw [← this]; congr 2; omega
    obtain ⟨cs, he, hc⟩ := gen l o h6
    exact ⟨cs, he, rfl, fun w hw j u hu => by rw [addr_add]; exact hc w hw j u hu⟩
section
variable {P : Program} {E : En} {n : Nat} {ρ : Sl0} {K : Hp} {L : List Atom} {d : Nat} {t : TypeId} {pos : String} {af : Array Edge} {g : Option (Nat × Bool)} {x y c : Operand} {u v : Value}
theorem run_append_none {w : World} {s e ty : TypeId} {z : Value} {sz bt : Nat} {k n : Nat} {cs : List Value} {v : Value} {cap : Nat} (hs : P.underlying s = some (.slice e)) (hi : Inf P e z sz bt) (ho : w.ownsRow 0 e k v n cs) :
    (Builtin.append_ #[s, s] ty #[v, .slice none 0 cap]).run P w = .ok v w := by
  obtain ⟨i, h1, h2, h3, _⟩ := hi.open
  rcases ho.2 with ⟨rfl, rfl⟩ | ⟨g, cp, cur, rfl, _, h5, h6, _⟩
  · simp [Builtin.append_, run_underlying hs, sizeOf, typeInfo, h1, Builtin.lenOf, Builtin.firstCells]
  · simp [Builtin.append_, run_underlying hs, sizeOf, typeInfo, h1, Builtin.lenOf, Builtin.firstCells, h6, storeCells]
theorem run_app {w : World} {s e ty : TypeId} {z : Value} {sz bt m cap : Nat} {ad : Option Addr} {v : Value} {N : Nat} {cs ds : List Value} (hs : P.underlying s = some (.slice e)) (hi : Inf P e z sz bt) (hzs : z.cells.size = sz) (hpos : 0 < sz) (hbt : bt ≤ 100000)
    (ho : w.ownsRow 0 e sz v N cs) (hm : ds.length = m * sz) (hd : ∀ b, ad = some b → ∀ j u, ds[j]? = some u → w.cell? (b.add j) = some u) (hn : ad = none → m = 0) (h1 : ∀ u ∈ ds, u.oneCell' = true) (hlen : N + m ≤ 1073741824) :
    ∃ v' w', (Builtin.append_ #[s, s] ty #[v, .slice ad m cap]).run P w = .ok v' w' ∧ w'.ownsRow 0 e sz v' (N + m) (cs ++ ds) ∧ w.grownBy w' v.ownBlock ∧ (v'.ownBlock = v.ownBlock ∨ v'.ownBlock = some w.heap.size) := by
  cases ad with
  | none =>
    obtain rfl := hn rfl
    obtain rfl : ds = [] := List.length_eq_zero_iff.1 (by simpa using hm)
    refine ⟨v, w, run_append_none (P := P) (ty := ty) (cap := cap) hs hi ho, by simpa using ho, ⟨rfl, rfl, rfl, Nat.le_refl _, fun _ _ _ => rfl⟩, .inl rfl⟩
  | some b =>
    obtain ⟨i, i1, i2, i3, i4⟩ := hi.open
    have hb : (N + m) * bt ≤ 1073741824 * 100000 := Nat.mul_le_mul hlen hbt
    obtain ⟨v', w', r1, r2, r3, _, r5⟩ := run_append_own_at (P := P) w 0 s ty e i z sz bt hs i1 i2 i3 i4 hzs hpos v N cs ho b m cap ds hm (hd b rfl) h1 (by unfold maxLen; omega) (by omega) (Nat.zero_le _)
    exact ⟨v', w', r1, r2, r3, r5⟩
/-- append(s, l...), s held, l known. -/
theorem A.appP {s e : TypeId} {z : Value} {sz bt m cap : Nat} {K0 K1 : Hp} {ad : Option Addr} {ty : Tp} {xs ys : List ty.den} (hs : P.underlying s = some (.slice e)) (hi : Inf P e z sz bt) (hty : ty.size = sz) (hzs : z.cells.size = sz) (hpos : 0 < sz) (hbt : bt ≤ 100000)
    (hx : ev n ρ x = v) (hy : ev n ρ y = .slice ad m cap) (hys : Is K1 (.sl ty) [.slice ad m cap] ys) (hk1 : K1.le K) {Kr : Hp} (f0 : ∀ {xs cs}, Els K0 ty cs xs → Els Kr ty cs xs) (f1 : ∀ {xs cs}, Els K1 ty cs xs → Els Kr ty cs xs) {zs : List ty.den} (hz : Go.Proofs.Ytbaaamdljojknaa.app xs ys = some zs) :
    Ao P E n ⟨some d, .call ⟨.builtin .append, #[x, y], #[s, s]⟩, t, pos, af, g⟩ ρ K (Row K0 e ty v xs :: L) (fun ρ' K' L' => ∃ v', ρ' = upd ρ d v' ∧ K = K' ∧ L' = Row Kr e ty v' zs :: L) :=
  Ao.of rfl (fun w hsep => by
    obtain ⟨hlen, rfl⟩ := app_some hz
    have hsep' := hsep
    obtain ⟨h, ⟨cs, h1, h2⟩, h3, h4⟩ := hsep
    have hown := h2.owns (w := w) (fun n o e => h4.sub n o (Hp.join_right e (h3 n o e)))
    rw [hty] at hown
    have hds : ∃ ds, Els K1 ty ds ys ∧ m = ys.length ∧ ∀ b, ad = some b → ∀ j u, ds[j]? = some u → w.cell? (b.add j) = some u := by
      cases ad with
      | none =>
        obtain ⟨rfl, rfl⟩ := hys.nil_len
        exact ⟨[], rfl, rfl, fun b hb => by cases hb⟩
      | some b =>
        obtain ⟨ds, h5, h6, h7⟩ := hys.cells (by omega)
        exact ⟨ds, h5, h6, fun b' hb => by cases hb; exact h7 w (hk1.trans hsep'.sub)⟩
    obtain ⟨ds, h5, rfl, h7⟩ := hds
    obtain ⟨v', w', r1, r2, r3, r5⟩ := run_app (P := P) (w := w) (ty := t) (cap := cap) hs hi hzs hpos hbt hown (by rw [h5.len, hty]) h7 (fun e => by subst e; exact hys.nil_len.2) h5.one' hlen
    refine ⟨v', w', K, _, ?_, hsep'.grown (K1 := Kr) List.length_append.symm (by rw [hty]; exact r2) ((f0 h1).app (f1 h5)) r3 r5, v', rfl, rfl, rfl⟩
    simp [execOp, resolve, invoke, builtin, hx, hy, r1])
/-- append(s, l...), both held; l is given up. -/
theorem A.appR {s e : TypeId} {z : Value} {sz bt : Nat} {K0 K1 : Hp} {ty : Tp} {xs ys : List ty.den} (hs : P.underlying s = some (.slice e)) (hi : Inf P e z sz bt) (hty : ty.size = sz) (hzs : z.cells.size = sz) (hpos : 0 < sz) (hbt : bt ≤ 100000)
    (hx : ev n ρ x = v) (hy : ev n ρ y = u) {Kr : Hp} (f0 : ∀ {xs cs}, Els K0 ty cs xs → Els Kr ty cs xs) (f1 : ∀ {xs cs}, Els K1 ty cs xs → Els Kr ty cs xs) {zs : List ty.den} (hz : Go.Proofs.Ytbaaamdljojknaa.app xs ys = some zs) :
    Ao P E n ⟨some d, .call ⟨.builtin .append, #[x, y], #[s, s]⟩, t, pos, af, g⟩ ρ K (Row K0 e ty v xs :: Row K1 e ty u ys :: L) (fun ρ' K' L' => ∃ v', ρ' = upd ρ d v' ∧ K = K' ∧ L' = Row Kr e ty v' zs :: L) :=
  Ao.of rfl (fun w hsep => by
    obtain ⟨hlen, rfl⟩ := app_some hz
    have hsep' := hsep
    obtain ⟨h0, hr0, hd0, hs0⟩ := hsep.swap
    obtain ⟨h, ⟨cs, h1, h2⟩, h3, h4⟩ := hsep
    have hown := h2.owns (w := w) (fun n o e => h4.sub n o (Hp.join_right e (h3 n o e)))
    rw [hty] at hown
    have hle0 : h0.le (Hp.of w) := fun n o e => hs0.sub n o (Hp.join_right e (hd0 n o e))
    obtain ⟨ad, cap, rfl, _⟩ := Row.form h0 hr0
    obtain ⟨ds, h5, h6⟩ := hr0
    have h7 : ∀ b, ad = some b → ∀ j u, ds[j]? = some u → w.cell? (b.add j) = some u := fun b hb j u hu => by
      obtain ⟨g, cap', hv, hc⟩ := h6.cells j u hu
      rw [hb] at hv
      simp only [Value.slice.injEq, Option.some.injEq] at hv
      rw [hv.1, addr_add, Nat.zero_add]
      exact cellK_world hle0 hc
    obtain ⟨v', w', r1, r2, r3, r5⟩ := run_app (P := P) (w := w) (ty := t) (cap := cap) hs hi hzs hpos hbt hown (by rw [h5.len, hty]) h7 (fun e => by
      subst e
      rcases h6.2 with ⟨_, h, _⟩ | ⟨g, cap', cur, hv, _⟩
      · exact h
      · cases hv) h5.one' hlen
    refine ⟨v', w', K, _, ?_, (hsep'.grown (K1 := Kr) List.length_append.symm (by rw [hty]; exact r2) ((f0 h1).app (f1 h5)) r3 r5).swap.drop, v', rfl, rfl, rfl⟩
    simp [execOp, resolve, invoke, builtin, hx, hy, r1])
/-- What a call gives, whatever else is held. -/
def Tr (P : Program) (f : FuncId) (args : Array Value) (K : Hp) (L : List Atom) (R : Value → Hp → List Atom → Prop) : Prop :=
  ∀ E w F, Sep E K (L ++ F) w → Calls P f args w fun e w' => ∃ v K' L', e = .returned v ∧ R v K' L' ∧ K.le K' ∧ Sep E K' (L' ++ F) w'
theorem Tr.mono {f : FuncId} {args : Array Value} {L1 : List Atom} {R R' : Value → Hp → List Atom → Prop} (h : Tr P f args K L1 R) (k : ∀ v K' L', R v K' L' → R' v K' L') : Tr P f args K L1 R' := fun E w F hs =>
  (h E w F hs).mono (fun e w' ⟨v, K', L', h1, h2, h3, h4⟩ => ⟨v, K', L', h1, k _ _ _ h2, h3, h4⟩)
theorem A.call {f : FuncId} {xs : Array Operand} {ts : Array TypeId} {fo : Operand} {args caps : Array Value} {L1 : List Atom} {R : Value → Hp → List Atom → Prop} (hf : Enters P f) (hv : ev n ρ fo = .func (.func f) #[] caps) (h : Tr P f args K L1 R) (ha' : xs.toList.map (ev n ρ) ++ caps.toList = args.toList) {L0 : List Atom} (hL : L0 = L1 ++ L) :
    Ao P E n ⟨some d, .call ⟨.value fo, xs, ts⟩, t, pos, af, g⟩ ρ K L0 (fun ρ' K' L' => ∃ v L2, ρ' = upd ρ d v ∧ R v K' L2 ∧ K.le K' ∧ L2 ++ L = L') := by
  refine ⟨fun w hs X Q hX => ?_⟩
  subst hL
  have ha : xs.map (ev n ρ) ++ caps = args := Array.ext' (by simpa using ha')
  unfold Oper.wp
  have hr : (execOp (act n ρ).eval ⟨some d, .call ⟨.value fo, xs, ts⟩, t, pos, af, g⟩).run P w = .ok (.enter f args) w := by
    rw [eval_act]
    have := hf args w
    simp [execOp, resolve, Deferred.ofValue, hv, invoke, ha, this]
  rw [hr, Oper.upon_enter]
  refine (h E w L hs).mono ?_
  rintro e w' ⟨v, K', L', rfl, h1, h2, h3⟩
  show X _ _
  rw [put_act]
  exact hX _ _ _ _ ⟨v, L', rfl, h1, h2, rfl⟩ h3
/-- What does not hang on what is known: that stays what it was. -/
theorem Tr.k {f : FuncId} {args : Array Value} {p : Value → List Atom → Prop} {L1 : List Atom} (h : Tr P f args K L1 (fun u _ L' => p u L')) : Tr P f args K L1 (fun u K' L' => p u L' ∧ K = K') := fun E w F hs =>
  (h E w F hs).mono (fun e w' ⟨v, K', L', h1, h2, h3, h4⟩ => ⟨v, K, L', h1, ⟨h2, rfl⟩, Hp.le_refl K, h4.weaken h3⟩)
/-- A row is lent to a call that hands back nothing of it. -/
theorem Tr.lend {f : FuncId} {args : Array Value} {K0 : Hp} {e : TypeId} {ty : Tp} {xs : List ty.den} {p : Value → List Atom → Prop} {L1 : List Atom} (hk : K0.le K) (h0 : 0 < ty.size) (h : ∀ K', K.le K' → Is K' (.sl ty) [v] xs → Tr P f args K' L1 (fun u K'' L' => p u L' ∧ K' = K'')) :
    Tr P f args K (Row K0 e ty v xs :: L1) (fun u K' L' => (∃ L2, p u L2 ∧ L' = Row K0 e ty v xs :: L2) ∧ K = K') := by
  intro E w F hs
  obtain ⟨h1, ha, hd, hs⟩ := hs
  refine (h _ (Hp.le_join K h1) (Row.is ha (hk.trans (Hp.le_join K h1)) (fun n o e => Hp.join_right e (hd n o e)) h0) E w F hs).mono ?_
  rintro e w' ⟨u, K', L', rfl, ⟨h2, rfl⟩, h3, h4⟩
  exact ⟨u, K, _, rfl, ⟨⟨L', h2, rfl⟩, rfl⟩, Hp.le_refl K, h1, ha, hd, h4⟩
end
end Go.Proofs.Ytbaaamdljojknaa
