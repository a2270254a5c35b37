/- Contracts path by path: a tree's ways, each reckoned by a run of its own. -/
import Derived.Test.YtjgkcgkhcdeadaaSw33
namespace Go.SX
open Go Go.RowKit
set_option linter.unusedVariables false
set_option linter.unusedSimpArgs false
set_option linter.unusedSectionVars false

/-- the ways of a tree: what is known on each, and its leaf -/
def VT.paths : VT → List (List (BE × Bool) × SV)
  | .leaf v => [([], v)]
  | .ite c t e => t.paths.map (fun p => ((c, true) :: p.1, p.2)) ++ e.paths.map (fun p => ((c, false) :: p.1, p.2))
  | .need _ t => t.paths
  | .fail => []
theorem VT.path_at {env : Env} {s : SV} : ∀ {t : VT}, t.clean s = true → ∃ p, p ∈ t.paths ∧ (∀ be v, (be, v) ∈ p.1 → be.den env = v) ∧ t.at env = p.2
  | .leaf v, _ => ⟨([], v), by simp [VT.paths], by simp, rfl⟩
  | .ite c t e, h => by
      simp only [VT.clean, Bool.and_eq_true] at h
      cases hv : c.den env with
      | true =>
        obtain ⟨p, h1, h2, h3⟩ := VT.path_at (env := env) h.1
        refine ⟨((c, true) :: p.1, p.2), ?_, ?_, ?_⟩
        · simp only [VT.paths, List.mem_append, List.mem_map]
          exact .inl ⟨p, h1, rfl⟩
        · intro be v hm
          rcases List.mem_cons.1 hm with e | hm
          · cases e; exact hv
          · exact h2 be v hm
        · simp only [VT.at, hv, cond_true]; exact h3
      | false =>
        obtain ⟨p, h1, h2, h3⟩ := VT.path_at (env := env) h.2
        refine ⟨((c, false) :: p.1, p.2), ?_, ?_, ?_⟩
        · simp only [VT.paths, List.mem_append, List.mem_map]
          exact .inr ⟨p, h1, rfl⟩
        · intro be v hm
          rcases List.mem_cons.1 hm with e | hm
          · cases e; exact hv
          · exact h2 be v hm
        · simp only [VT.at, hv, cond_false]; exact h3
  | .need _ _, h => by simp [VT.clean] at h
  | .fail, h => by simp [VT.clean] at h

def pathCtx : Ctx → List (BE × Bool) → Ctx
  | cx, [] => cx
  | cx, (c, v) :: l => pathCtx (assumeJ 50 cx c v) l
theorem pathCtx_ok {env : Env} : ∀ {l : List (BE × Bool)} {cx : Ctx}, cx.ok env → (∀ be v, (be, v) ∈ l → be.den env = v) → (pathCtx cx l).ok env
  | [], cx, hc, _ => hc
  | (c, v) :: l, cx, hc, h => by
      show (pathCtx (assumeJ 50 cx c v) l).ok env
      exact pathCtx_ok (l := l) (assumeJ_ok 50 hc (h c v (by simp))) fun be v hm => h be v (by simp [hm])

/-- on a way the run ends in one leaf, with the way's numbers -/
def pathOK (P : Program) (X : Par) (n f : Nat) (sh : List (Bool × PSh)) (pre : List BE) (d : Nat) (s : SV) (p : List (BE × Bool) × SV) : Bool :=
  let cx := pathCtx (rcCtx sh pre d) p.1
  match (run (callT P X n f (rcArgs sh) cx) (rcSt sh)).vt with
  | .leaf u => u.form s && numsSame cx u.nums p.2.nums
  | _ => false

theorem RC.calls_ctx {P : Program} {fn : Nat → List Int → Int} {X : Par} {n f : Nat} {sh : List (Bool × PSh)} {cx : Ctx} {t : VT} {v : SV} {pv : List PV} {w : World}
    (hmix : P.follows .mixedOrders = true) (hX : ParOK P fn X) (hw : pvAll w (sh.map (·.2)) pv) (hfn : FnRows fn (sh.map (·.2)) pv 0) (hcx : cx.ok (envOf (pvNums pv) fn))
    (ht : (run (callT P X n f (rcArgs sh) cx) (rcSt sh)).vt = t) (h3 : t.holds (envOf (pvNums pv) fn) fun u => u.eqv (envOf (pvNums pv) fn) v) :
    Calls P f (selBy sh (pvVals (sh.map (·.2)) pv)).toArray w fun e w' => ∃ V, e = .returned V ∧ (∀ ρ, Rep (envOf (pvNums pv) fn) ρ v V) ∧ Below w.heap.size w w' := by
  rw [← ht] at h3
  obtain ⟨ρ, p3, p4⟩ := places 0 hw
  have hv : ∀ j, j < (pvNums pv).length → (envOf (pvNums pv) fn).v (0 + j) = (pvNums pv).getD j 0 := fun j hj => by simp [envOf]
  have hs : HS (envOf (pvNums pv) fn) ρ w.heap.size (shStore (sh.map (·.2)) 0 0) w := by
    refine ⟨?_, ?_, ?_, Nat.le_refl _, ?_, hX.rows⟩
    · intro b v hg
      obtain ⟨r, o, e, ho, hb⟩ := shStore_blk hw p4 hfn hv b v hg
      exact ⟨r, o, e, fun hvd => ⟨(hb hvd).1, (fun h => by rw [ho] at h; cases h), fun _ => (hb hvd).2⟩⟩
    · intro b p e
      have := p3 b p e
      exact shStore_dom (by omega) (by omega)
    · intro b b' r o o' e e' hr hd hd'
      cases hg : (shStore (sh.map (·.2)) 0 0).get b with
      | none =>
        have := p3 b _ e
        exact absurd hg (shStore_dom (by omega) (by omega))
      | some v =>
        rw [hg] at hd
        obtain ⟨r', o', e1, ho, hb⟩ := shStore_blk hw p4 hfn hv b v hg
        rw [e] at e1
        cases e1
        have := (hb hd.void).2
        omega
    · intro b v hg
      obtain ⟨r, o, e, ho, hb⟩ := shStore_blk hw p4 hfn hv b v hg
      cases v with
      | vec => cases ho
      | _ => exact trivial
  refine (calls_run hmix hX (env := envOf (pvNums pv) fn) rfl hcx (selBy_rep (shArgs_rep hw p4 hv)) hs (PT.holds_vt h3)).mono ?_
  rintro e w' ⟨v, h', ρ', V, hq, rfl, hr, _, _, hb⟩
  exact ⟨V, rfl, fun ρ => Rep.eqv hq hr, hb⟩

/-- the contract of a function whose run agrees with a tree, way by way -/
theorem pairRC_paths {P : Program} {fn : Nat → List Int → Int} {X : Par} {d n f K : Nat} {sh : List (Bool × PSh)} {pre : List BE} {s : SV} (t : VT)
    (hmix : P.follows .mixedOrders = true) (hX : ParOK P fn X) (hT : TreeIs fn K s.nums.length t) (hp : (pairRC f sh pre s K []).v.plain = true) (hent : (entered P f).isSome = true)
    (hc : t.clean s = true) (h : ∀ p, p ∈ t.paths → pathOK P X n f sh pre d s p = true) : (pairRC f sh pre s K []).OK P fn := by
  refine ⟨hp, hent, fun pv w hw hfn hpre => ⟨by simp [pairRC], by simp [pairRC], ?_⟩⟩
  have hlen : (pvNums pv).length = shN (sh.map (·.2)) := pvNums_len hw
  obtain ⟨p, h1, h2, h3⟩ := VT.path_at (env := envOf (pvNums pv) fn) hc
  have hcx := pathCtx_ok (RC.ctx_ok (d := d) hw hpre) h2
  have hk := h p h1
  unfold pathOK at hk
  simp only at hk
  split at hk
  · rename_i u hu
    simp only [Bool.and_eq_true] at hk
    refine RC.calls_ctx hmix hX hw hfn hcx hu ?_
    have hn := numsSame_ok hcx hk.2
    exact pair_leaf hT hlen.symm hk.1 fun j => by rw [hn.2 j, h3]
  · cases hk

/-- the ways, some at a time -/
def pathsFrom (t : VT) (i m : Nat) : List (List (BE × Bool) × SV) := (t.paths.drop i).take m
theorem paths_cut {t : VT} {Q : List (BE × Bool) × SV → Bool} {i m : Nat} (h : (pathsFrom t i m).all Q = true) (h' : ∀ p, p ∈ t.paths.drop (i + m) → Q p = true) : ∀ p, p ∈ t.paths.drop i → Q p = true := by
  intro p hp
  rw [← List.take_append_drop m (t.paths.drop i)] at hp
  rcases List.mem_append.1 hp with hp | hp
  · exact List.all_eq_true.1 h p hp
  · rw [List.drop_drop] at hp
    exact h' p hp
theorem paths_end {t : VT} {Q : List (BE × Bool) × SV → Bool} {i : Nat} (h : Nat.ble t.paths.length i = true) : ∀ p, p ∈ t.paths.drop i → Q p = true := by
  intro p hp
  rw [List.drop_eq_nil_of_le (Nat.le_of_ble_eq_true h)] at hp
  cases hp
end Go.SX
