/- Ways that are joined: what the joined value stands for. -/
import Derived.Test.YtjgkcgkhcdeadaaSw2
namespace Go.SX
open Go Go.RowKit
set_option linter.unusedVariables false
set_option linter.unusedSimpArgs false

/-- an expression that is what one of two is -/
theorem rngOf_ok {env : Env} {cx1 cx2 : Ctx} {z : Bool} (hc : (bif z then cx1 else cx2).ok env) {e a b : E} (he : e.den env = (bif z then a else b).den env) :
    ∀ x lo hi, (x, lo, hi) ∈ rngOf cx1 cx2 e a b → lo ≤ x.den env ∧ x.den env ≤ hi := by
  have key : ∀ x lo hi, (x, lo, hi) ∈ (match hull (bnd cx1 a) (bnd cx2 b) with | some r => [(e, r)] | none => []) → lo ≤ x.den env ∧ x.den env ≤ hi := by
    intro x lo hi hm
    cases h1 : bnd cx1 a with
    | none => rw [h1] at hm; simp [hull] at hm
    | some p =>
      cases h2 : bnd cx2 b with
      | none => rw [h1, h2] at hm; simp [hull] at hm
      | some q =>
        obtain ⟨p1, p2⟩ := p
        obtain ⟨q1, q2⟩ := q
        rw [h1, h2] at hm
        simp only [hull, List.mem_singleton, Prod.mk.injEq] at hm
        obtain ⟨rfl, rfl, rfl⟩ := hm
        rw [he]
        cases z with
        | true => have := bnd_ok hc a _ h1; simp only [cond_true] at *; omega
        | false => have := bnd_ok hc b _ h2; simp only [cond_false] at *; omega
  intro x lo hi hm
  cases e <;> first
    | exact key x lo hi hm
    | (simp [rngOf] at hm)

theorem mkIte_z {env : Env} {c a b : E} {z : Bool} (hz : z = (c.den env != 0)) : (mkIte c a b).den env = (bif z then a else b).den env := by
  rw [mkIte_ok, hz]
  cases h : c.den env == 0 with
  | true => simp [bne, h]
  | false => simp [bne, h]

theorem isUndef_any {v : SV} {n : Nat} : (SV.any).older n = true := rfl

def VOK (env : Env) (n : Nat) (z : Bool) (cx1 cx2 : Ctx) (a b v : SV) (rs : Rngs) : Prop :=
  (∀ ρ V, Rep env ρ (bif z then a else b) V → Rep env ρ v V) ∧ v.older n = true ∧ ((bif z then cx1 else cx2).ok env → ∀ x lo hi, (x, lo, hi) ∈ rs → lo ≤ x.den env ∧ x.den env ≤ hi)

theorem merge_other {env : Env} {cx1 cx2 : Ctx} {n : Nat} {z : Bool} {x y v : SV} {rs : Rngs} (h : (bif x.same y && x.older n then some (x, []) else bif isUndef x || isUndef y then some (SV.any, []) else none) = some (v, rs)) : VOK env n z cx1 cx2 x y v rs := by
  cases hs : x.same y && x.older n with
  | true =>
    rw [hs, cond_true] at h
    cases h
    simp only [Bool.and_eq_true] at hs
    have := SV.same_eq hs.1
    subst this
    exact ⟨fun ρ V hr => by cases z <;> exact hr, hs.2, fun _ _ _ _ hm => by simp at hm⟩
  | false =>
    rw [hs, cond_false] at h
    cases hu : isUndef x || isUndef y with
    | true =>
      rw [hu, cond_true] at h
      cases h
      exact ⟨fun ρ V hr => trivial, rfl, fun _ _ _ _ hm => by simp at hm⟩
    | false => rw [hu] at h; cases h

mutual
theorem mergeV_ok {env : Env} {c : E} {cx1 cx2 : Ctx} {n : Nat} {z : Bool} (hz : z = (c.den env != 0)) : ∀ {a b : SV} {v : SV} {rs : Rngs}, mergeV c cx1 cx2 n a b = some (v, rs) → VOK env n z cx1 cx2 a b v rs
  | .int k x, .int k' y, v, rs, h => by
      simp only [mergeV] at h
      by_cases hk : k = k'
      · subst hk
        simp only [decide_true, cond_true] at h
        cases hs : x.same y with
        | true =>
          rw [hs, cond_true] at h
          cases h
          have := E.same_eq hs
          subst this
          refine ⟨fun ρ V hr => by cases z <;> exact hr, rfl, fun hc => rngOf_ok hc (by cases z <;> rfl)⟩
        | false =>
          rw [hs, cond_false] at h
          cases h
          have e := mkIte_z (a := x) (b := y) hz
          refine ⟨fun ρ V hr => ?_, rfl, fun hc => rngOf_ok hc e⟩
          show V = _
          rw [e]
          cases z <;> exact hr
      · simp only [hk, decide_false, cond_false] at h
        cases h
  | .bool x, .bool y, v, rs, h => by
      simp only [mergeV] at h
      cases hs : x.same y with
      | true =>
        rw [hs, cond_true] at h
        cases h
        have := BE.same_eq hs
        subst this
        exact ⟨fun ρ V hr => by cases z <;> exact hr, rfl, fun _ _ _ _ hm => by simp at hm⟩
      | false =>
        rw [hs, cond_false] at h
        cases h
        refine ⟨fun ρ V hr => ?_, rfl, fun _ _ _ _ hm => by simp at hm⟩
        show V = .bool _
        rw [toB_ok, mkIte_z hz]
        cases z with
        | true => rw [show V = .bool (x.den env) from hr]; simp only [cond_true, toE_ok]; cases x.den env <;> rfl
        | false => rw [show V = .bool (y.den env) from hr]; simp only [cond_false, toE_ok]; cases y.den env <;> rfl
  | .agg l, .agg l', v, rs, h => by
      simp only [mergeV, Option.map_eq_some_iff, Prod.mk.injEq] at h
      obtain ⟨⟨vs, rs'⟩, h1, rfl, rfl⟩ := h
      obtain ⟨q1, q2, q3⟩ := mergeVL_ok hz h1
      refine ⟨fun ρ V hr => ?_, q2, q3⟩
      cases z with
      | true => obtain ⟨us, e, rfl⟩ := hr; exact ⟨us, q1 ρ us e, rfl⟩
      | false => obtain ⟨us, e, rfl⟩ := hr; exact ⟨us, q1 ρ us e, rfl⟩
  | .tuple (x :: l), .tuple (y :: l'), v, rs, h => by
      simp only [mergeV] at h
      split at h
      · rename_i v1 r1 vs rs1 h1 h2
        cases h
        obtain ⟨p1, p2, p3⟩ := mergeV_ok hz h1
        obtain ⟨q1, q2, q3⟩ := mergeVL_ok hz h2
        refine ⟨fun ρ V hr => ?_, by simp only [SV.older, SV.olderL, p2, q2, Bool.and_self], fun hc e lo hi hm => ?_⟩
        · cases z with
          | true => obtain ⟨us, ⟨u, us', e1, e2, rfl⟩, rfl⟩ := hr; exact ⟨u :: us', ⟨u, us', p1 ρ u e1, q1 ρ us' e2, rfl⟩, rfl⟩
          | false => obtain ⟨us, ⟨u, us', e1, e2, rfl⟩, rfl⟩ := hr; exact ⟨u :: us', ⟨u, us', p1 ρ u e1, q1 ρ us' e2, rfl⟩, rfl⟩
        · rcases List.mem_append.1 hm with hm | hm
          · exact p3 hc e lo hi hm
          · exact q3 hc e lo hi hm
      · cases h
  | .int .., .bool _, v, rs, h | .int .., .ptr _, v, rs, h | .int .., .slice .., v, rs, h | .int .., .func .., v, rs, h | .int .., .nilFunc, v, rs, h | .int .., .nilIface, v, rs, h | .int .., .iface .., v, rs, h
  | .int .., .str _, v, rs, h | .int .., .nilMap, v, rs, h | .int .., .agg _, v, rs, h | .int .., .tuple _, v, rs, h | .int .., .any, v, rs, h | .int .., .vsl .., v, rs, h | .int .., .vg .., v, rs, h => merge_other (by simpa only [mergeV] using h)
  | .bool _, .int .., v, rs, h | .bool _, .ptr _, v, rs, h | .bool _, .slice .., v, rs, h | .bool _, .func .., v, rs, h | .bool _, .nilFunc, v, rs, h | .bool _, .nilIface, v, rs, h | .bool _, .iface .., v, rs, h
  | .bool _, .str _, v, rs, h | .bool _, .nilMap, v, rs, h | .bool _, .agg _, v, rs, h | .bool _, .tuple _, v, rs, h | .bool _, .any, v, rs, h | .bool _, .vsl .., v, rs, h | .bool _, .vg .., v, rs, h => merge_other (by simpa only [mergeV] using h)
  | .agg _, .int .., v, rs, h | .agg _, .bool _, v, rs, h | .agg _, .ptr _, v, rs, h | .agg _, .slice .., v, rs, h | .agg _, .func .., v, rs, h | .agg _, .nilFunc, v, rs, h | .agg _, .nilIface, v, rs, h | .agg _, .iface .., v, rs, h
  | .agg _, .str _, v, rs, h | .agg _, .nilMap, v, rs, h | .agg _, .tuple _, v, rs, h | .agg _, .any, v, rs, h | .agg _, .vsl .., v, rs, h | .agg _, .vg .., v, rs, h => merge_other (by simpa only [mergeV] using h)
  | .tuple [], y, v, rs, h => merge_other (by simpa only [mergeV] using h)
  | .tuple (_ :: _), .int .., v, rs, h | .tuple (_ :: _), .bool _, v, rs, h | .tuple (_ :: _), .ptr _, v, rs, h | .tuple (_ :: _), .slice .., v, rs, h | .tuple (_ :: _), .func .., v, rs, h | .tuple (_ :: _), .nilFunc, v, rs, h
  | .tuple (_ :: _), .nilIface, v, rs, h | .tuple (_ :: _), .iface .., v, rs, h | .tuple (_ :: _), .str _, v, rs, h | .tuple (_ :: _), .nilMap, v, rs, h | .tuple (_ :: _), .agg _, v, rs, h | .tuple (_ :: _), .tuple [], v, rs, h
  | .tuple (_ :: _), .any, v, rs, h | .tuple (_ :: _), .vsl .., v, rs, h | .tuple (_ :: _), .vg .., v, rs, h => merge_other (by simpa only [mergeV] using h)
  | .ptr _, y, v, rs, h | .slice .., y, v, rs, h | .func .., y, v, rs, h | .nilFunc, y, v, rs, h | .nilIface, y, v, rs, h | .iface .., y, v, rs, h | .str _, y, v, rs, h | .nilMap, y, v, rs, h
  | .any, y, v, rs, h | .vsl .., y, v, rs, h | .vg .., y, v, rs, h => merge_other (by simpa only [mergeV] using h)
theorem mergeVL_ok {env : Env} {c : E} {cx1 cx2 : Ctx} {n : Nat} {z : Bool} (hz : z = (c.den env != 0)) : ∀ {a b : List SV} {v : List SV} {rs : Rngs}, mergeVL c cx1 cx2 n a b = some (v, rs) →
    (∀ ρ V, RepL env ρ (bif z then a else b) V → RepL env ρ v V) ∧ SV.olderL n v = true ∧ ((bif z then cx1 else cx2).ok env → ∀ x lo hi, (x, lo, hi) ∈ rs → lo ≤ x.den env ∧ x.den env ≤ hi)
  | [], [], v, rs, h => by
      simp only [mergeVL, Option.some.injEq, Prod.mk.injEq] at h
      obtain ⟨rfl, rfl⟩ := h
      exact ⟨fun ρ V hr => by cases z <;> exact hr, rfl, fun _ _ _ _ hm => by simp at hm⟩
  | x :: l, y :: l', v, rs, h => by
      simp only [mergeVL] at h
      split at h
      · rename_i v1 r1 vs rs1 h1 h2
        cases h
        obtain ⟨p1, p2, p3⟩ := mergeV_ok hz h1
        obtain ⟨q1, q2, q3⟩ := mergeVL_ok hz h2
        refine ⟨fun ρ V hr => ?_, by simp only [SV.olderL, p2, q2, Bool.and_self], fun hc e lo hi hm => ?_⟩
        · cases z with
          | true => obtain ⟨u, us', e1, e2, rfl⟩ := hr; exact ⟨u, us', p1 ρ u e1, q1 ρ us' e2, rfl⟩
          | false => obtain ⟨u, us', e1, e2, rfl⟩ := hr; exact ⟨u, us', p1 ρ u e1, q1 ρ us' e2, rfl⟩
        · rcases List.mem_append.1 hm with hm | hm
          · exact p3 hc e lo hi hm
          · exact q3 hc e lo hi hm
      · cases h
  | [], _ :: _, v, rs, h => by simp [mergeVL] at h
  | _ :: _, [], v, rs, h => by simp [mergeVL] at h
end

/-- what a slot holds behind a join -/
def SlotOK (env : Env) (n : Nat) (tm1 : T SV) (d : Nat) (v' : SV) : Prop :=
  v'.older n = true ∧ ((∃ v, tm1.get d = some v ∧ ∀ ρ V, Rep env ρ v V → Rep env ρ v' V) ∨ ∀ ρ V, Rep env ρ v' V)
def SlotsOK (env : Env) (tm : T SV) (ds : List Nat) (n : Nat) (tm1 m : T SV) : Prop :=
  ∀ d v', m.get d = some v' → (d ∈ ds → SlotOK env n tm1 d v') ∧ (d ∉ ds → tm.get d = some v')
theorem mergeDs_ok {env : Env} {c : E} {cx1 cx2 : Ctx} {n : Nat} {z : Bool} (hz : z = (c.den env != 0)) {tm tm1 tm2 : T SV} : ∀ {ds : List Nat} {m : T SV} {rs : Rngs}, mergeDs c cx1 cx2 n tm tm1 tm2 ds = some (m, rs) →
    SlotsOK env tm ds n (bif z then tm1 else tm2) m ∧ ((bif z then cx1 else cx2).ok env → ∀ x lo hi, (x, lo, hi) ∈ rs → lo ≤ x.den env ∧ x.den env ≤ hi)
  | [], m, rs, h => by
      simp only [mergeDs, Option.some.injEq, Prod.mk.injEq] at h
      obtain ⟨rfl, rfl⟩ := h
      exact ⟨fun d v' hd => ⟨fun hm => by simp at hm, fun _ => hd⟩, fun _ _ _ _ hm => by simp at hm⟩
  | d :: ds, m, rs, h => by
      simp only [mergeDs] at h
      split at h
      · cases h
      · rename_i m1 r1 h1
        obtain ⟨p1, p2⟩ := mergeDs_ok hz h1
        have any : some (m1.set d .any, r1) = some (m, rs) → SlotsOK env tm (d :: ds) n (bif z then tm1 else tm2) m ∧ ((bif z then cx1 else cx2).ok env → ∀ x lo hi, (x, lo, hi) ∈ rs → lo ≤ x.den env ∧ x.den env ≤ hi) := by
          intro h
          cases h
          refine ⟨fun d' v' hd => ?_, p2⟩
          rw [T.get_set] at hd
          split at hd
          · rename_i e
            cases hd
            exact ⟨fun _ => ⟨rfl, .inr fun _ _ => trivial⟩, fun hn => absurd (by simp [e]) hn⟩
          · rename_i e
            exact ⟨fun hm => (p1 d' v' hd).1 ((List.mem_cons.1 hm).resolve_left e), fun hn => (p1 d' v' hd).2 (fun hm => hn (by simp [hm]))⟩
        split at h
        · rename_i a b ha hb
          split at h
          · rename_i v r' hv
            cases h
            obtain ⟨q1, q2, q3⟩ := mergeV_ok hz hv
            refine ⟨fun d' v' hd => ?_, fun hc e lo hi hm => ?_⟩
            · rw [T.get_set] at hd
              split at hd
              · rename_i e
                subst e
                cases hd
                refine ⟨fun _ => ⟨q2, .inl ⟨bif z then a else b, ?_, q1⟩⟩, fun hn => absurd (by simp) hn⟩
                cases z
                · exact hb
                · exact ha
              · rename_i e
                exact ⟨fun hm => (p1 d' v' hd).1 ((List.mem_cons.1 hm).resolve_left e), fun hn => (p1 d' v' hd).2 (fun hm => hn (by simp [hm]))⟩
            · rcases List.mem_append.1 hm with hm | hm
              · exact q3 hc e lo hi hm
              · exact p2 hc e lo hi hm
          · cases h
        · exact any h

theorem addRs_ok {env : Env} : ∀ {l : List (E × Int × Int)} {cx : Ctx}, cx.ok env → (∀ e lo hi, (e, lo, hi) ∈ l → lo ≤ e.den env ∧ e.den env ≤ hi) → (addRs cx l).ok env
  | [], cx, hc, _ => hc
  | (e, r) :: l, cx, hc, h => by
      simp only [addRs]
      have hl := fun e lo hi (hm : (e, lo, hi) ∈ l) => h e lo hi (by simp [hm])
      have h0 := h e r.1 r.2 (by simp)
      split
      · rename_i q hq
        have h1 := lookB_ok hc.b hq
        split
        · exact addRs_ok hc hl
        · exact addRs_ok (addB_ok hc (by simp only; omega)) hl
      · exact addRs_ok (addB_ok hc h0) hl

/-- what a joined outcome says of the outcome on the way -/
def RelO (env : Env) (cx : Ctx) (tm : T SV) (ds : List Nat) (n : Nat) : Out → Out → Prop
  | .val v cx1, .val v' cx' => (cx.ok env → cx1.ok env → cx'.ok env) ∧ (∀ ρ V, Rep env ρ v V → Rep env ρ v' V) ∧ v'.older n = true
  | .tms tm1 cx1, .tms m cx' => (cx.ok env → cx1.ok env → cx'.ok env) ∧ SlotsOK env tm ds n tm1 m
  | _, _ => False
theorem RelO.trans {env : Env} {cx : Ctx} {tm : T SV} {ds : List Nat} {n : Nat} : ∀ {a b c : Out}, RelO env cx tm ds n a b → RelO env cx tm ds n b c → RelO env cx tm ds n a c
  | .val .., .val .., .val .., h1, h2 => ⟨fun h h' => h2.1 h (h1.1 h h'), fun ρ V hr => h2.2.1 ρ V (h1.2.1 ρ V hr), h2.2.2⟩
  | .tms tm1 _, .tms m _, .tms m2 _, h1, h2 => by
      refine ⟨fun h h' => h2.1 h (h1.1 h h'), fun d v' hd => ⟨fun hm => ?_, (h2.2 d v' hd).2⟩⟩
      obtain ⟨o2, h4⟩ := (h2.2 d v' hd).1 hm
      refine ⟨o2, ?_⟩
      rcases h4 with ⟨v, hv, hr⟩ | h4
      · rcases ((h1.2 d v hv).1 hm).2 with ⟨v0, hv0, hr0⟩ | h5
        · exact .inl ⟨v0, hv0, fun ρ V h => hr ρ V (hr0 ρ V h)⟩
        · exact .inr fun ρ V => hr ρ V (h5 ρ V)
      · exact .inr h4
  | .val .., .tms .., _, h1, _ => h1.elim
  | .tms .., .val .., _, h1, _ => h1.elim
  | .val .., .val .., .tms .., _, h2 => h2.elim
  | .tms .., .tms .., .val .., _, h2 => h2.elim

theorem mergeO_ok {env : Env} {cx : Ctx} {tm : T SV} {ds : List Nat} {n : Nat} {c : E} {z : Bool} (hz : z = (c.den env != 0)) {o1 o2 o : Out} (h : mergeO cx tm ds n c o1 o2 = some o) : RelO env cx tm ds n (bif z then o1 else o2) o := by
  cases o1 with
  | val a cx1 =>
    cases o2 with
    | val b cx2 =>
      simp only [mergeO, Option.map_eq_some_iff] at h
      obtain ⟨⟨v, rs⟩, h1, rfl⟩ := h
      obtain ⟨q1, q2, q3⟩ := mergeV_ok hz h1
      cases z with
      | true => exact ⟨fun hc h1 => addRs_ok hc (q3 h1), q1, q2⟩
      | false => exact ⟨fun hc h1 => addRs_ok hc (q3 h1), q1, q2⟩
    | tms b cx2 => cases h
  | tms a cx1 =>
    cases o2 with
    | val b cx2 => cases h
    | tms b cx2 =>
      simp only [mergeO, Option.map_eq_some_iff] at h
      obtain ⟨⟨v, rs⟩, h1, rfl⟩ := h
      obtain ⟨q1, q3⟩ := mergeDs_ok hz h1
      cases z with
      | true => exact ⟨fun hc h1 => addRs_ok hc (q3 h1), q1⟩
      | false => exact ⟨fun hc h1 => addRs_ok hc (q3 h1), q1⟩

theorem merge_at {env : Env} {cx : Ctx} {tm : T SV} {ds : List Nat} {s0 : St} : ∀ {p : PT} {o' : Out} {s' : St}, (mergeP cx tm ds s0 p).at env = some (o', s') →
    ∃ o s1, p.at env = some (o, s1) ∧ ((o' = o ∧ s' = { s1 with tch := s0.tch, nx := s0.nx }) ∨ (s1.wr = [] ∧ s' = s0 ∧ RelO env cx tm ds s0.mrk o o'))
  | .leaf o s, o', s', h => by
      simp only [mergeP, PT.at, Option.some.injEq, Prod.mk.injEq] at h
      obtain ⟨rfl, rfl⟩ := h
      exact ⟨_, _, rfl, .inl ⟨rfl, rfl⟩⟩
  | .need c t, o', s', h => by
      simp only [mergeP, PT.at] at h
      split at h
      · rename_i hc
        obtain ⟨o, s1, h1, h2⟩ := merge_at h
        exact ⟨o, s1, by simp only [PT.at, hc, if_true]; exact h1, h2⟩
      · cases h
  | .fail _, o', s', h => by cases h
  | .ite c t e, o', s', h => by
      have plain : ∀ {a b : PT}, mergeP cx tm ds s0 t = a → mergeP cx tm ds s0 e = b → (PT.ite c a b).at env = some (o', s') →
          ∃ o s1, (PT.ite c t e).at env = some (o, s1) ∧ ((o' = o ∧ s' = { s1 with tch := s0.tch, nx := s0.nx }) ∨ (s1.wr = [] ∧ s' = s0 ∧ RelO env cx tm ds s0.mrk o o')) := by
        intro a b ha hb h
        simp only [PT.at] at h ⊢
        split at h
        · rename_i hc
          rw [if_pos hc]
          exact merge_at (p := t) (by rw [ha]; exact h)
        · rename_i hc
          rw [if_neg hc]
          exact merge_at (p := e) (by rw [hb]; exact h)
      simp only [mergeP] at h
      split at h
      · rename_i o1 s1 o2 s2 h1 h2
        split at h
        · rename_i o hm
          cases hw : noWr s1 && noWr s2 with
          | false => rw [hw] at hm; cases hm
          | true =>
            rw [hw, cond_true] at hm
            simp only [Bool.and_eq_true] at hw
            simp only [PT.at, Option.some.injEq, Prod.mk.injEq] at h
            obtain ⟨rfl, rfl⟩ := h
            have wr0 : ∀ s : St, noWr s = true → s.wr = [] := by
              intro s hs
              unfold noWr at hs
              split at hs
              · assumption
              · cases hs
            have hrel := mergeO_ok (env := env) (z := (c.toE.den env != 0)) rfl hm
            have hcc : (c.toE.den env != 0) = c.den env := by rw [toE_ok]; cases c.den env <;> rfl
            rw [hcc] at hrel
            cases hc : c.den env with
            | true =>
              rw [hc, cond_true] at hrel
              obtain ⟨o, s3, g1, g2⟩ := merge_at (p := t) (env := env) (o' := o1) (s' := s1) (by rw [h1]; rfl)
              refine ⟨o, s3, by simp only [PT.at, hc, if_true]; exact g1, .inr ?_⟩
              rcases g2 with ⟨rfl, rfl⟩ | ⟨w3, rfl, r3⟩
              · exact ⟨wr0 _ hw.1, rfl, hrel⟩
              · exact ⟨w3, rfl, r3.trans hrel⟩
            | false =>
              rw [hc, cond_false] at hrel
              obtain ⟨o, s3, g1, g2⟩ := merge_at (p := e) (env := env) (o' := o2) (s' := s2) (by rw [h2]; rfl)
              refine ⟨o, s3, by simp only [PT.at, hc]; exact g1, .inr ?_⟩
              rcases g2 with ⟨rfl, rfl⟩ | ⟨w3, rfl, r3⟩
              · exact ⟨wr0 _ hw.2, rfl, hrel⟩
              · exact ⟨w3, rfl, r3.trans hrel⟩
        · exact plain h1 h2 h
      · exact plain rfl rfl h

end Go.SX
