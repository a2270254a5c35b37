/- What the proofs of laws' trees go by: plain parameters taken apart, tests as propositions. -/
import Derived.Test.YtjgkcgkhcdeadaaSw27
namespace Go.SX
open Go
set_option linter.unusedVariables false

theorem den_blit (env : Env) (b : Bool) : (BE.lit b).den env = b := rfl
theorem den_conv (env : Env) (k : IntKind) (a : E) : (E.conv k a).den env = k.wrap (a.den env) := rfl
theorem flatI {w : World} {k : IntKind} {p : PV} (h : p.ok w (.flat false [some k])) : ∃ x, p = .flat [x] ∧ k.min ≤ x ∧ x ≤ k.max := by
  cases p with
  | flat xs =>
    obtain ⟨hw, _⟩ := h
    obtain ⟨x, _, rfl, g, e⟩ := hw
    rw [show _ = ([] : List Int) from e]
    exact ⟨x, rfl, wf_rng (g _ rfl)⟩
  | row d v => exact h.elim
theorem flatB {w : World} {p : PV} (h : p.ok w (.flat false [none])) : ∃ x, p = .flat [x] := by
  cases p with
  | flat xs =>
    obtain ⟨hw, _⟩ := h
    obtain ⟨x, _, rfl, g, e⟩ := hw
    rw [show _ = ([] : List Int) from e]
    exact ⟨x, rfl⟩
  | row d v => exact h.elim
end Go.SX
