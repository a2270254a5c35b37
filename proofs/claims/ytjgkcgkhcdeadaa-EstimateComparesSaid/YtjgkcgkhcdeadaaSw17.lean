/- A run under facts that hold under tests on the way. -/
import Derived.Test.YtjgkcgkhcdeadaaSw16
namespace Go.SX
open Go Go.RowKit
set_option linter.unusedVariables false
set_option linter.unusedSimpArgs false

/-- tests with their answers, a test, its answer under those -/
abbrev Hyp := List (BE × Bool) × BE × Bool

def pathHas (path : List (BE × Bool)) (p : BE × Bool) : Bool :=
  match lookK p.1 path with
  | some v => v == p.2
  | none => false

def findH (path : List (BE × Bool)) (c : BE) : List Hyp → Option Bool
  | [] => none
  | (ps, b, v) :: l => bif b.same c && ps.all (pathHas path) then some v else findH path c l

def derive (hyps : List Hyp) (path : List (BE × Bool)) : BE → Option Bool
  | .lit b => some b
  | .neg b => (derive hyps path b).map (!·)
  | c => findH path c hyps

def bare : BE → Bool → BE × Bool
  | .neg b, v => bare b (!v)
  | b, v => (b, v)

def yes2 (hyps : List Hyp) : List (BE × Bool) → PT → Bool
  | path, .leaf o _ => match o.v with
    | .bool b => derive hyps path b == some true
    | _ => false
  | path, .ite c t e => match derive hyps path c with
    | some true => yes2 hyps path t
    | some false => yes2 hyps path e
    | none => yes2 hyps (bare c true :: path) t && yes2 hyps (bare c false :: path) e
  | path, .need c t => (derive hyps path c == some true) && yes2 hyps path t
  | _, .fail _ => false

def Hyps.hold (env : Env) (hyps : List Hyp) : Prop := ∀ ps b v, (ps, b, v) ∈ hyps → (∀ p, p ∈ ps → p.1.den env = p.2) → b.den env = v

variable {env : Env} {hyps : List Hyp}

theorem pathHas_ok {path : List (BE × Bool)} (hp : ∀ be v, (be, v) ∈ path → be.den env = v) {p : BE × Bool} (h : pathHas path p = true) : p.1.den env = p.2 := by
  unfold pathHas at h
  split at h
  · rename_i v hv
    rw [lookK_ok hp hv]
    simpa using h
  · cases h

theorem findH_ok {path : List (BE × Bool)} (hp : ∀ be v, (be, v) ∈ path → be.den env = v) {c : BE} : ∀ {l : List Hyp} {v : Bool}, (∀ ps b v, (ps, b, v) ∈ l → (∀ p, p ∈ ps → p.1.den env = p.2) → b.den env = v) → findH path c l = some v → c.den env = v
  | [], v, hl, h => by cases h
  | (ps, b, w) :: l, v, hl, h => by
      simp only [findH] at h
      cases hc : (b.same c && ps.all (pathHas path)) with
      | true =>
        rw [hc, cond_true] at h
        cases h
        simp only [Bool.and_eq_true] at hc
        rw [← BE.same_eq hc.1]
        exact hl ps b _ (by simp) (fun p hm => pathHas_ok hp (List.all_eq_true.1 hc.2 p hm))
      | false =>
        rw [hc, cond_false] at h
        exact findH_ok hp (fun ps b v hm => hl ps b v (by simp [hm])) h

theorem derive_ok (hh : Hyps.hold env hyps) {path : List (BE × Bool)} (hp : ∀ be v, (be, v) ∈ path → be.den env = v) : ∀ {c : BE} {v : Bool}, derive hyps path c = some v → c.den env = v
  | .lit b, v, h => by simp [derive] at h; simp [BE.den, h]
  | .neg b, v, h => by
      simp only [derive, Option.map_eq_some_iff] at h
      obtain ⟨w, hw, rfl⟩ := h
      simp [BE.den, derive_ok hh hp hw]
  | .cmp o a b, v, h => findH_ok hp hh h
  | .and a b, v, h => findH_ok hp hh h
  | .eqb a b, v, h => findH_ok hp hh h
  | .tst e, v, h => findH_ok hp hh h

theorem bare_ok : ∀ {c : BE} {v : Bool}, c.den env = v → (bare c v).1.den env = (bare c v).2
  | .neg b, v, h => by
      simp only [bare]
      exact bare_ok (by simp only [BE.den] at h; rw [← h]; simp)
  | .lit b, v, h => h
  | .cmp o a b, v, h => h
  | .and a b, v, h => h
  | .eqb a b, v, h => h
  | .tst e, v, h => h

theorem yes2_holds (hh : Hyps.hold env hyps) : ∀ {t : PT} {path : List (BE × Bool)}, (∀ be v, (be, v) ∈ path → be.den env = v) → yes2 hyps path t = true → t.holds env fun v _ => yes env v
  | .leaf o s, path, hp, h => by
      simp only [yes2] at h
      simp only [PT.holds]
      split at h
      · rename_i b e
        rw [e]
        exact derive_ok hh hp (by simpa using h)
      · cases h
  | .ite c t e, path, hp, h => by
      simp only [yes2] at h
      simp only [PT.holds]
      have ext : ∀ v, c.den env = v → ∀ be w, (be, w) ∈ bare c v :: path → be.den env = w := by
        intro v hv be w hm
        rcases List.mem_cons.1 hm with hm | hm
        · have := bare_ok hv
          rw [← hm] at this
          exact this
        · exact hp be w hm
      split at h
      · rename_i hd
        have := derive_ok hh hp hd
        exact ⟨fun _ => yes2_holds hh hp h, fun hc => by rw [this] at hc; cases hc⟩
      · rename_i hd
        have := derive_ok hh hp hd
        exact ⟨(fun hc => by rw [this] at hc; cases hc), fun _ => yes2_holds hh hp h⟩
      · simp only [Bool.and_eq_true] at h
        exact ⟨fun hc => yes2_holds hh (ext true hc) h.1, fun hc => yes2_holds hh (ext false hc) h.2⟩
  | .need c t, path, hp, h => by
      simp only [yes2, Bool.and_eq_true, beq_iff_eq] at h
      exact ⟨derive_ok hh hp h.1, yes2_holds hh hp h.2⟩
  | .fail _, path, hp, h => by cases h
end Go.SX
