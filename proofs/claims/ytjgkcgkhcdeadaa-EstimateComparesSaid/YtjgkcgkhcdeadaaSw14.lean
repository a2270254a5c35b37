/- What is left of a run under facts that are known. -/
import Derived.Test.YtjgkcgkhcdeadaaSw13
namespace Go.SX
open Go Go.RowKit
set_option linter.unusedVariables false
set_option linter.unusedSimpArgs false

/-- is this test among the facts -/
def known (hyps : List BE) (c : BE) : Bool := hyps.any fun h => h.same c

theorem known_den {env : Env} {hyps : List BE} {c : BE} (hh : ∀ h ∈ hyps, h.den env = true) (h : known hyps c = true) : c.den env = true := by
  simp only [known, List.any_eq_true] at h
  obtain ⟨x, hx, hs⟩ := h
  rw [← BE.same_eq hs]
  exact hh x hx

/-- a run that ends in yes on every way that the facts allow -/
def yesUnder (hyps : List BE) : PT → Bool
  | .leaf o _ => match o.v with
    | .bool (.lit true) => true
    | .bool b => known hyps b
    | _ => false
  | .ite c t e => bif known hyps c then yesUnder hyps t else bif known hyps (.neg c) then yesUnder hyps e else yesUnder hyps t && yesUnder hyps e
  | .need c t => known hyps c && yesUnder hyps t
  | .fail _ => false

theorem yesUnder_holds {env : Env} {hyps : List BE} (hh : ∀ h ∈ hyps, h.den env = true) : ∀ {t : PT}, yesUnder hyps t = true → t.holds env fun v _ => yes env v
  | .leaf o s, h => by
      simp only [yesUnder] at h
      simp only [PT.holds]
      split at h
      · rename_i e; rw [e]; rfl
      · rename_i b _ e; rw [e]; exact known_den hh h
      · cases h
  | .ite c t e, h => by
      simp only [yesUnder] at h
      simp only [PT.holds]
      cases hk : known hyps c with
      | true =>
        simp only [hk, cond_true] at h
        exact ⟨fun _ => yesUnder_holds hh h, fun hc => by rw [known_den hh hk] at hc; cases hc⟩
      | false =>
        simp only [hk, cond_false] at h
        cases hk2 : known hyps (.neg c) with
        | true =>
          simp only [hk2, cond_true] at h
          refine ⟨fun hc => ?_, fun _ => yesUnder_holds hh h⟩
          have := known_den hh hk2
          simp only [BE.den, hc] at this
          cases this
        | false =>
          simp only [hk2, cond_false, Bool.and_eq_true] at h
          exact ⟨fun _ => yesUnder_holds hh h.1, fun _ => yesUnder_holds hh h.2⟩
  | .need c t, h => by
      simp only [yesUnder, Bool.and_eq_true] at h
      exact ⟨known_den hh h.1, yesUnder_holds hh h.2⟩

end Go.SX
