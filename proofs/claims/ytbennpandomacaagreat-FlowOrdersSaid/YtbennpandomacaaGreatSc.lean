/- A label: a scope through which the run goes without a goto. Nothing of the program is here. -/
import Derived.Test.YtbennpandomacaaGreatSh
import Derived.Scope
import Derived.Control
namespace Go.Proofs.YtbennpandomacaaGreat
open Go.RowKit
set_option linter.unusedVariables false
def Post.scope (Φ : Post) : Post
  | .goto _, _, _, _ => False
  | e, ρ, K, L => Φ e ρ K L
section
variable {P : Program} {E : En} {n : Nat} {Φ : Post} {ρ : Sl0} {K : Hp} {L : List Atom}
theorem CJ.scope {c : Code} (h : CJ P E n c (Post.scope Φ) ρ K L) : CJ P E n (.scope c) Φ ρ K L := ⟨fun w hs =>
  wp_scope_straight (wp_mono (h.go w hs) (fun e a w hl => by
    obtain ⟨ρ, K, L, ha, hs, hΦ⟩ := hl
    subst ha
    cases e with
    | goto l => exact hΦ
    | _ => exact ⟨ρ, K, L, rfl, hs, hΦ⟩))⟩
theorem CJ.label {l : Nat} (h : Φ .normal ρ K L) : CJ P E n (.label l) Φ ρ K L := ⟨fun w hs => wp_label ⟨ρ, K, L, rfl, hs, h⟩⟩
end
end Go.Proofs.YtbennpandomacaaGreat
