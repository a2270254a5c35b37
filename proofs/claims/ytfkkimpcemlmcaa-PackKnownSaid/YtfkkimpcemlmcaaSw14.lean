/- The two ways of a test joined, with what they write: it is right.
The reckoner is right: by induction on its fuel.
What a run of the reckoner says of a call.
What is left of a run under facts that are known. -/
import Derived.Test.YtfkkimpcemlmcaaSw22
namespace Go.SX
open Go Go.RowKit
set_option linter.unusedVariables false
set_option linter.unusedSimpArgs false
set_option linter.unusedSectionVars false

theorem mergeQ_ok {env : Env} {c : E} {cx1 cx2 : Ctx} {n : Nat} {z : Bool} (hz : z = (c.den env != 0)) (x y : SV) : VOK env n z cx1 cx2 x y (mergeQ c cx1 cx2 n x y).1 (mergeQ c cx1 cx2 n x y).2 := by
  unfold mergeQ
  cases hs : (x.same y && x.older n) with
  | true =>
    simp only [Bool.and_eq_true] at hs
    have := SV.same_eq hs.1
    subst this
    exact ⟨fun ρ V hr => by cases z <;> exact hr, hs.2, fun _ _ _ _ hm => by simp at hm⟩
  | false =>
    simp only [cond_false]
    split
    · rename_i r hr
      obtain ⟨v, rs⟩ := r
      exact mergeV_ok hz hr
    · exact ⟨fun ρ V hr => trivial, rfl, fun _ _ _ _ hm => by simp at hm⟩

/-- slots that stand for what they stood for -/
def SlR (env : Env) (a m : List (Nat × SV)) : Prop := ∀ d v, (d, v) ∈ m → ∃ v0, (d, v0) ∈ a ∧ ∀ ρ V, Rep env ρ v0 V → Rep env ρ v V
theorem SlR.trans {env : Env} {a b c : List (Nat × SV)} (h : SlR env a b) (h' : SlR env b c) : SlR env a c := by
  intro d v hm
  obtain ⟨v1, h1, h2⟩ := h' d v hm
  obtain ⟨v0, h3, h4⟩ := h d v1 h1
  exact ⟨v0, h3, fun ρ V hr => h2 ρ V (h4 ρ V hr)⟩
def BlR (env : Env) (a m : List (Nat × List SV)) : Prop := ∀ d v, (d, v) ∈ m → ∃ v0, (d, v0) ∈ a ∧ ∀ ρ V, RepL env ρ v0 V → RepL env ρ v V
theorem BlR.trans {env : Env} {a b c : List (Nat × List SV)} (h : BlR env a b) (h' : BlR env b c) : BlR env a c := by
  intro d v hm
  obtain ⟨v1, h1, h2⟩ := h' d v hm
  obtain ⟨v0, h3, h4⟩ := h d v1 h1
  exact ⟨v0, h3, fun ρ V hr => h2 ρ V (h4 ρ V hr)⟩

theorem mergeQS_ok {env : Env} {c : E} {cx1 cx2 : Ctx} {n : Nat} {z : Bool} (hz : z = (c.den env != 0)) : ∀ {a b m : List (Nat × SV)} {rs : Rngs}, mergeQS c cx1 cx2 n a b = some (m, rs) →
    SlR env (bif z then a else b) m ∧ ((bif z then cx1 else cx2).ok env → ∀ x lo hi, (x, lo, hi) ∈ rs → lo ≤ x.den env ∧ x.den env ≤ hi)
  | [], [], m, rs, h => by
      simp only [mergeQS, Option.some.injEq, Prod.mk.injEq] at h
      obtain ⟨rfl, rfl⟩ := h
      exact ⟨fun d v hm => by simp at hm, fun _ _ _ _ hm => by simp at hm⟩
  | [], _ :: _, m, rs, h => by simp [mergeQS] at h
  | _ :: _, [], m, rs, h => by simp [mergeQS] at h
  | (d, x) :: l, (d', y) :: l', m, rs, h => by
      simp only [mergeQS, beq_dec] at h
      by_cases hd : d = d'
      case neg => simp only [hd, decide_false, cond_false] at h; cases h
      subst hd
      simp only [decide_true, cond_true] at h
      split at h
      case h_2 => cases h
      rename_i m1 r1 h1
      cases h
      obtain ⟨p1, p2⟩ := mergeQS_ok hz h1
      obtain ⟨q1, q2, q3⟩ := mergeQ_ok (cx1 := cx1) (cx2 := cx2) (n := n) hz x y
      refine ⟨fun e v hm => ?_, fun hc e lo hi hm => ?_⟩
      · rcases List.mem_cons.1 hm with hm | hm
        · cases hm
          cases z with
          | true => exact ⟨x, by simp, q1⟩
          | false => exact ⟨y, by simp, q1⟩
        · obtain ⟨v0, h3, h4⟩ := p1 e v hm
          refine ⟨v0, ?_, h4⟩
          cases z with
          | true => exact List.mem_cons_of_mem _ h3
          | false => exact List.mem_cons_of_mem _ h3
      · rcases List.mem_append.1 hm with hm | hm
        · exact q3 hc e lo hi hm
        · exact p2 hc e lo hi hm

theorem mergeQL_ok {env : Env} {c : E} {cx1 cx2 : Ctx} {n : Nat} {z : Bool} (hz : z = (c.den env != 0)) : ∀ {a b v : List SV} {rs : Rngs}, mergeQL c cx1 cx2 n a b = some (v, rs) →
    (∀ ρ V, RepL env ρ (bif z then a else b) V → RepL env ρ v V) ∧ ((bif z then cx1 else cx2).ok env → ∀ x lo hi, (x, lo, hi) ∈ rs → lo ≤ x.den env ∧ x.den env ≤ hi)
  | [], [], v, rs, h => by
      simp only [mergeQL, Option.some.injEq, Prod.mk.injEq] at h
      obtain ⟨rfl, rfl⟩ := h
      exact ⟨fun ρ V hr => by cases z <;> exact hr, fun _ _ _ _ hm => by simp at hm⟩
  | [], _ :: _, v, rs, h => by simp [mergeQL] at h
  | _ :: _, [], v, rs, h => by simp [mergeQL] at h
  | x :: l, y :: l', v, rs, h => by
      simp only [mergeQL] at h
      split at h
      case h_2 => cases h
      rename_i v1 r1 vs rs1 h1 h2
      cases h
      have p : VOK env n z cx1 cx2 x y v1 r1 := by
        cases hs : (x.same y && x.older n) with
        | true =>
          rw [hs, cond_true] at h1
          simp only [Bool.and_eq_true] at hs
          have := SV.same_eq hs.1
          subst this
          cases h1
          exact ⟨fun ρ V hr => by cases z <;> exact hr, hs.2, fun _ _ _ _ hm => by simp at hm⟩
        | false => rw [hs, cond_false] at h1; exact mergeV_ok hz h1
      obtain ⟨p1, _, p3⟩ := p
      obtain ⟨q1, q3⟩ := mergeQL_ok hz h2
      refine ⟨fun ρ V hr => ?_, fun hc e lo hi hm => ?_⟩
      · cases z with
        | true => obtain ⟨u, us', e1, e2, rfl⟩ := hr; exact ⟨u, us', p1 ρ u e1, q1 ρ us' e2, rfl⟩
        | false => obtain ⟨u, us', e1, e2, rfl⟩ := hr; exact ⟨u, us', p1 ρ u e1, q1 ρ us' e2, rfl⟩
      · rcases List.mem_append.1 hm with hm | hm
        · exact p3 hc e lo hi hm
        · exact q3 hc e lo hi hm

theorem mergeQB_ok {env : Env} {c : E} {cx1 cx2 : Ctx} {n : Nat} {z : Bool} (hz : z = (c.den env != 0)) : ∀ {a b m : List (Nat × List SV)} {rs : Rngs}, mergeQB c cx1 cx2 n a b = some (m, rs) →
    BlR env (bif z then a else b) m ∧ m.map (·.1) = (bif z then a else b).map (·.1) ∧ ((bif z then cx1 else cx2).ok env → ∀ x lo hi, (x, lo, hi) ∈ rs → lo ≤ x.den env ∧ x.den env ≤ hi)
  | [], [], m, rs, h => by
      simp only [mergeQB, Option.some.injEq, Prod.mk.injEq] at h
      obtain ⟨rfl, rfl⟩ := h
      exact ⟨fun d v hm => by simp at hm, by cases z <;> rfl, fun _ _ _ _ hm => by simp at hm⟩
  | [], _ :: _, m, rs, h => by simp [mergeQB] at h
  | _ :: _, [], m, rs, h => by simp [mergeQB] at h
  | (d, x) :: l, (d', y) :: l', m, rs, h => by
      simp only [mergeQB, beq_dec] at h
      by_cases hd : d = d'
      case neg => simp only [hd, decide_false, cond_false] at h; cases h
      subst hd
      simp only [decide_true, cond_true] at h
      split at h
      case h_2 => cases h
      rename_i v1 r1 m1 r2 h1 h2
      cases h
      obtain ⟨p1, p0, p2⟩ := mergeQB_ok hz h2
      obtain ⟨q1, q3⟩ := mergeQL_ok hz h1
      refine ⟨fun e v hm => ?_, ?_, fun hc e lo hi hm => ?_⟩
      · rcases List.mem_cons.1 hm with hm | hm
        · cases hm
          cases z with
          | true => exact ⟨x, by simp, q1⟩
          | false => exact ⟨y, by simp, q1⟩
        · obtain ⟨v0, h3, h4⟩ := p1 e v hm
          refine ⟨v0, ?_, h4⟩
          cases z with
          | true => exact List.mem_cons_of_mem _ h3
          | false => exact List.mem_cons_of_mem _ h3
      · simp only [List.map_cons, p0]
        cases z <;> rfl
      · rcases List.mem_append.1 hm with hm | hm
        · exact q3 hc e lo hi hm
        · exact p2 hc e lo hi hm

theorem leafB_ok {h0 h : T Blk} : ∀ {keys : List Nat} {bl : List (Nat × List SV)}, leafB h0 h keys = some bl → bl.map (·.1) = keys ∧ ∀ b l, (b, l) ∈ bl → ∃ l0 t, h0.get b = some (.cells l0 t) ∧ h.get b = some (.cells l t)
  | [], bl, hb => by cases hb; exact ⟨rfl, fun b l hm => by simp at hm⟩
  | k :: keys, bl, hb => by
      simp only [leafB] at hb
      split at hb
      case h_2 => cases hb
      rename_i l0 t x t' r h1 h2 h3
      simp only [beq_dec] at hb
      by_cases ht : t = t'
      case neg => simp only [ht, decide_false, cond_false] at hb; cases hb
      subst ht
      simp only [decide_true, cond_true] at hb
      cases hb
      obtain ⟨g1, g2⟩ := leafB_ok h3
      refine ⟨by simp [g1], fun b l hm => ?_⟩
      rcases List.mem_cons.1 hm with hm | hm
      · cases hm; exact ⟨l0, t, h1, h2⟩
      · exact g2 b l hm

theorem mergeC_ok {env : Env} {keep keys : List Nat} {n : Nat} {h0 : T Blk} {cx0 : Ctx} : ∀ {p : PT} {r : JR} {o : Out} {s1 : St}, mergeC keep keys n h0 cx0 p = some r → p.at env = some (o, s1) →
    r.bl.map (·.1) = keys ∧ ∃ tm1 cx1, o = .tms tm1 cx1 ∧ (cx0.ok env → cx1.ok env → r.cx.ok env) ∧ SlR env (leafS tm1 keep) r.sl ∧ ∃ bl, leafB h0 s1.h keys = some bl ∧ BlR env bl r.bl
  | .leaf (.tms tm cx) s, r, o, s1, hm, ha => by
      simp only [mergeC, Option.map_eq_some_iff] at hm
      obtain ⟨bl, h1, rfl⟩ := hm
      simp only [PT.at, Option.some.injEq, Prod.mk.injEq] at ha
      obtain ⟨rfl, rfl⟩ := ha
      exact ⟨(leafB_ok h1).1, tm, cx, rfl, fun _ h => h, fun d v hm => ⟨v, hm, fun _ _ h => h⟩, bl, h1, fun d v hm => ⟨v, hm, fun _ _ h => h⟩⟩
  | .leaf (.val _ _) s, r, o, s1, hm, ha => by simp [mergeC] at hm
  | .need _ _, r, o, s1, hm, ha => by simp [mergeC] at hm
  | .fail _, r, o, s1, hm, ha => by simp [mergeC] at hm
  | .ite c t e, r, o, s1, hm, ha => by
      simp only [mergeC] at hm
      split at hm
      case h_2 => cases hm
      rename_i a b h1 h2
      split at hm
      case h_2 => cases hm
      rename_i sl r1 bl r2 h3 h4
      cases hm
      have hz : (c.toE.den env != 0) = c.den env := by rw [toE_ok]; cases c.den env <;> rfl
      obtain ⟨p1, p2⟩ := mergeQS_ok (env := env) rfl h3
      obtain ⟨q1, q0, q2⟩ := mergeQB_ok (env := env) rfl h4
      rw [hz] at p1 p2 q1 q0 q2
      simp only [PT.at] at ha
      cases hc : c.den env with
      | true =>
        rw [if_pos hc] at ha
        rw [hc] at p1 p2 q1 q0 q2
        simp only [cond_true] at p1 p2 q1 q0 q2
        obtain ⟨k0, tm1, cx1, rfl, g1, g2, bl0, g3, g4⟩ := mergeC_ok h1 ha
        refine ⟨q0.trans k0, tm1, cx1, rfl, fun hc0 hc1 => addRs_ok hc0 fun x lo hi hm => ?_, g2.trans p1, bl0, g3, g4.trans q1⟩
        rcases List.mem_append.1 hm with hm | hm
        · exact p2 (g1 hc0 hc1) x lo hi hm
        · exact q2 (g1 hc0 hc1) x lo hi hm
      | false =>
        rw [if_neg (by rw [hc]; simp)] at ha
        rw [hc] at p1 p2 q1 q0 q2
        simp only [cond_false] at p1 p2 q1 q0 q2
        obtain ⟨k0, tm1, cx1, rfl, g1, g2, bl0, g3, g4⟩ := mergeC_ok h2 ha
        refine ⟨q0.trans k0, tm1, cx1, rfl, fun hc0 hc1 => addRs_ok hc0 fun x lo hi hm => ?_, g2.trans p1, bl0, g3, g4.trans q1⟩
        rcases List.mem_append.1 hm with hm | hm
        · exact p2 (g1 hc0 hc1) x lo hi hm
        · exact q2 (g1 hc0 hc1) x lo hi hm

theorem dedupN_mem {b : Nat} : ∀ {l : List Nat}, b ∈ dedupN l ↔ b ∈ l
  | [] => Iff.rfl
  | a :: l => by
      simp only [dedupN]
      cases ha : l.any (Nat.beq a) with
      | true =>
        simp only [cond_true, dedupN_mem (l := l), List.mem_cons]
        rw [List.any_eq_true] at ha
        obtain ⟨x, hx, he⟩ := ha
        have : a = x := Nat.eq_of_beq_eq_true he
        subst this
        constructor
        · exact fun h => .inr h
        · rintro (rfl | h)
          · exact hx
          · exact h
      | false => simp only [cond_false, List.mem_cons, dedupN_mem (l := l)]
theorem dedupN_nodup : ∀ (l : List Nat), (dedupN l).Nodup
  | [] => List.nodup_nil
  | a :: l => by
      simp only [dedupN]
      cases ha : l.any (Nat.beq a) with
      | true => simp only [cond_true]; exact dedupN_nodup l
      | false =>
        simp only [cond_false, List.nodup_cons]
        refine ⟨fun h => ?_, dedupN_nodup l⟩
        rw [dedupN_mem] at h
        have : l.any (Nat.beq a) = true := List.any_eq_true.2 ⟨a, h, Nat.beq_refl a⟩
        rw [ha] at this
        cases this
theorem wrs_at {env : Env} : ∀ {p : PT} {o : Out} {s : St}, p.at env = some (o, s) → ∀ b, b ∈ s.wr → b ∈ p.wrs
  | .leaf _ _, o, s, h, b, hb => by simp only [PT.at, Option.some.injEq, Prod.mk.injEq] at h; obtain ⟨_, rfl⟩ := h; exact hb
  | .ite c t e, o, s, h, b, hb => by
      simp only [PT.at] at h
      simp only [PT.wrs, List.mem_append]
      split at h
      · exact .inl (wrs_at h b hb)
      · exact .inr (wrs_at h b hb)
  | .need c t, o, s, h, b, hb => by
      simp only [PT.at] at h
      split at h
      · exact wrs_at (p := t) h b hb
      · cases h
  | .fail _, o, s, h, b, hb => by cases h

/-- the store with some blocks' cells set -/
def setCsS : List (Nat × List SV) → T Blk → T Blk
  | [], h => h
  | (b, l) :: r, h => match h.get b with
    | some (.cells _ ty) => setCsS r (h.set b (.cells l ty))
    | _ => setCsS r h
theorem setCsS_get : ∀ {bl : List (Nat × List SV)} {h : T Blk} {b : Nat}, (bl.map (·.1)).Nodup → (∀ b l, (b, l) ∈ bl → ∃ l0 t, h.get b = some (.cells l0 t)) →
    (b ∉ bl.map (·.1) → (setCsS bl h).get b = h.get b) ∧ ∀ l, (b, l) ∈ bl → ∃ l0 t, h.get b = some (.cells l0 t) ∧ (setCsS bl h).get b = some (.cells l t)
  | [], h, b, _, _ => ⟨fun _ => rfl, fun l hm => by simp at hm⟩
  | (d, x) :: r, h, b, hn, hc => by
      obtain ⟨l0, t, hd⟩ := hc d x (by simp)
      simp only [List.map_cons, List.nodup_cons] at hn
      have hstep : setCsS ((d, x) :: r) h = setCsS r (h.set d (.cells x t)) := by simp only [setCsS, hd]
      have hne : ∀ b' l, (b', l) ∈ r → b' ≠ d := by
        rintro b' l hm rfl
        exact hn.1 (List.mem_map.2 ⟨_, hm, rfl⟩)
      obtain ⟨g1, g2⟩ := setCsS_get (h := h.set d (.cells x t)) (b := b) hn.2 (fun b' l hm => by
        obtain ⟨l1, t1, e⟩ := hc b' l (by simp [hm])
        exact ⟨l1, t1, by rw [T.get_set, if_neg (hne b' l hm)]; exact e⟩)
      rw [hstep]
      refine ⟨fun hb => ?_, fun l hm => ?_⟩
      · simp only [List.map_cons, List.mem_cons, not_or] at hb
        rw [g1 hb.2, T.get_set, if_neg hb.1]
      · rcases List.mem_cons.1 hm with hm | hm
        · cases hm
          exact ⟨l0, t, hd, by rw [g1 hn.1, T.get_set, if_pos rfl]⟩
        · obtain ⟨l1, t1, e1, e2⟩ := g2 l hm
          rw [T.get_set, if_neg (hne b l hm)] at e1
          exact ⟨l1, t1, e1, e2⟩

theorem setCs_ok {env : Env} {t : Tree} {r : Out × St} : ∀ {bl : List (Nat × List SV)} {s : St}, runE env (setCs t bl) s = some r → ∃ s', s'.h = setCsS bl s.h ∧ runE env t s' = some r
  | [], s, h => ⟨s, rfl, h⟩
  | (b, l) :: q, s, h => by
      simp only [setCs] at h
      obtain ⟨blk, hg, hlt, h⟩ := runE_get h
      split at h
      · rename_i l0 ty
        obtain ⟨u, hu, _, h⟩ := runE_set h
        obtain ⟨s', h1, h2⟩ := setCs_ok h
        refine ⟨s', ?_, h2⟩
        rw [h1, St.put_h, St.touch_h]
        simp only [setCsS, hg]
      · exact (runE_fail h).elim

/-- the store behind a join that has turned cells -/
theorem HS.joinedW {env : Env} {ρ ρ' : Pl} {B : Nat} {h h' hn : T Blk} {w w' : World} (hle : ρ.le ρ') (h0 : HS env ρ B h w) (h1 : HS env ρ' B h' w')
    (hk : ∀ b v, h.get b = some v → (h'.get b = some v ∧ hn.get b = some v) ∨ ∃ l0 l1 l t, v = .cells l0 t ∧ h'.get b = some (.cells l1 t) ∧ hn.get b = some (.cells l t) ∧ ∀ cs, RepL env ρ' l1 cs → RepL env ρ l cs)
    (hd : ∀ b, h.get b = none → hn.get b = none) : HS env ρ B hn w' := by
  have back : ∀ b v, hn.get b = some v → ∃ v0, h.get b = some v0 := by
    intro b v hg
    cases hb : h.get b with
    | none => rw [hd b hb] at hg; cases hg
    | some v0 => exact ⟨v0, rfl⟩
  have solid : ∀ b o, Solid env o (hn.get b) → h.get b ≠ none → Solid env o (h.get b) := by
    intro b o hs hne
    cases hb : h.get b with
    | none => exact absurd hb hne
    | some v0 =>
      rcases hk b v0 hb with ⟨_, e⟩ | ⟨l0, l1, l, t, rfl, _, _, _⟩
      · rw [e] at hs; exact hs
      · exact Solid.of rfl
  refine ⟨fun b v hg => ?_, fun b p hp => ?_, fun b b' r o o' e e' hr hs hs' => ?_, h1.size, fun b v hg => ?_, h0.rows⟩
  · obtain ⟨v0, hb⟩ := back b v hg
    obtain ⟨r, o, e, hb0⟩ := h0.blk b v0 hb
    rcases hk b v0 hb with ⟨e1, e2⟩ | ⟨l0, l1, l, t, rfl, e1, e2, hl⟩
    · rw [hg] at e2
      cases e2
      obtain ⟨r', o', e', hb'⟩ := h1.blk b v e1
      rw [hle _ _ e] at e'
      cases e'
      exact ⟨r, o, e, fun hv => ⟨BS.back1 hle (hb0 hv).1 (hb' hv).1, (hb0 hv).2⟩⟩
    · rw [hg] at e2
      cases e2
      obtain ⟨r', o', e', hb'⟩ := h1.blk b _ e1
      rw [hle _ _ e] at e'
      cases e'
      refine ⟨r, o, e, fun _ => ⟨?_, fun _ => (hb0 rfl).2.1 rfl, fun hh => by cases hh⟩⟩
      obtain ⟨ho, cs, hrep, hob⟩ := (hb' rfl).1
      exact ⟨ho, cs, hl cs hrep, hob⟩
  · intro hnone
    have := h0.dom b p hp
    cases hb : h.get b with
    | none => exact this hb
    | some v0 =>
      rcases hk b v0 hb with ⟨_, e⟩ | ⟨_, _, _, _, _, _, e, _⟩ <;> rw [hnone] at e <;> cases e
  · exact h0.inj b b' r o o' e e' hr (solid b o hs (h0.dom b _ e)) (solid b' o' hs' (h0.dom b' _ e'))
  · obtain ⟨v0, hb⟩ := back b v hg
    rcases hk b v0 hb with ⟨e1, e2⟩ | ⟨l0, l1, l, t, rfl, e1, e2, hl⟩
    · rw [hg] at e2
      cases e2
      exact h0.wf b v hb
    · rw [hg] at e2
      cases e2
      trivial

theorem DfS.same {ρ ρ' : Pl} (hle : ρ.le ρ') : ∀ {df : List Nat} {a b : List Deferred}, DfS ρ df a → DfS ρ' df b → b = a
  | [], a, b, h, h' => by rw [show a = [] from h, show b = [] from h']
  | d :: l, a, b, h, h' => by
      obtain ⟨r, o, ds, e, h1, rfl⟩ := h
      obtain ⟨r', o', ds', e', h1', rfl⟩ := h'
      rw [hle _ _ e] at e'
      cases e'
      rw [DfS.same hle h1 h1']
theorem setSl_mem : ∀ {l : List (Nat × SV)} {d : Nat} {v : SV}, (setSl .nil l).get d = some v → (d, v) ∈ l
  | [], d, v, h => by cases h
  | (t, x) :: r, d, v, h => by
      simp only [setSl, T.get_set] at h
      split at h
      · rename_i e; cases h; subst e; simp
      · exact List.mem_cons_of_mem _ (setSl_mem h)

theorem mergeC_at {env : Env} {keep keys : List Nat} {n : Nat} {h0 : T Blk} {cx0 : Ctx} : ∀ {p : PT} {r : JR}, mergeC keep keys n h0 cx0 p = some r → ∃ o s, p.at env = some (o, s)
  | .leaf o s, r, h => ⟨o, s, rfl⟩
  | .need _ _, r, h => by simp [mergeC] at h
  | .fail _, r, h => by simp [mergeC] at h
  | .ite c t e, r, h => by
      simp only [mergeC] at h
      split at h
      case h_2 => cases h
      rename_i a b h1 h2
      simp only [PT.at]
      cases hc : c.den env
      · simpa using mergeC_at h2
      · simpa using mergeC_at h1

theorem condT_ok {P : Program} {env : Env} {B : Nat} {R : Run} (hF : FrOK P env B R) {F : FI} {keep : List Nat} {x y : Code} {k : List Item} {tm : T SV} {df : List Nat} {cx : Ctx} {K : Res → Tree} {b : BE} {s : St} {r : Out × St} {c : Operand}
    (h : runE env (condT R F keep x y k tm df cx K b) s = some r) (hc : cx.ok env) (ρ : Pl) (rd : Option Nat) (dfs : List Deferred) (tmps : Array Value) (w : World) (hrd : RdS ρ F.rd rd) (hd : DfS ρ df dfs) (ht : TS env ρ tm tmps) (hn : tmps.size = F.nt) (hs : HS env ρ B s.h w)
    (cs : List Frame) (tail : List Item) (hV : (actOf tmps).eval c = .bool (b.den env)) :
    ∃ j tm' df' cx' s' ρ' dfs' tmps' w' todo', runE env (K (.left j tm' df' cx')) s' = some r ∧ cx'.ok env ∧ ρ.le ρ' ∧ DfS ρ' df' dfs' ∧ TS env ρ' tm' tmps' ∧ tmps'.size = F.nt ∧ HS env ρ' B s'.h w' ∧ Below B w w' ∧
        Leaves tail j todo' ∧ Steps P (lone (mkF F.fn rd tmps dfs (.code (.cond c x y) :: (k ++ tail))) cs w) (lone (mkF F.fn rd tmps' dfs' todo') cs w') := by
  unfold condT at h
  split at h
  · rename_i v hv
    have hv' := resolveJ_ok hc hv
    have hcx : (tighten cx b v).ok env := tighten_ok hc hv'
    rw [← hv'] at h
    exact hF.via h (by rw [hv']; exact hcx) ρ.le_refl (Below.refl _ _) hrd hd ht hn hs (.one (st_cond hV))
  · obtain ⟨htop, h⟩ := runE_whole h
    split at h
    · rename_i q hq
      cases hkb : keep.all (Nat.blt · F.nt) with
      | false => rw [hkb, cond_false] at hq; cases hq
      | true =>
      rw [hkb, cond_true] at hq
      unfold joinC at hq
      split at hq
      case h_2 => cases hq
      rename_i q' hm
      generalize hp : run (branch cx b fun v cx => R (.fr F [.code (if v then x else y)] tm df cx) (leafJ df)) ⟨s.h, s.nx, s.nx, [], [], true⟩ = p at hm hq
      cases hb : (q'.sl.all (fun q => q.2.older s.nx) && (q'.bl.all (fun q => SV.olderL s.nx q.2) && noneIn s.h s.nx (p.last - s.nx))) with
      | false => rw [hb, cond_false] at hq; cases hq
      | true =>
        rw [hb, cond_true] at hq
        simp only [Option.some.injEq] at hq
        subst hq
        simp only [Bool.and_eq_true, List.all_eq_true] at hb
        obtain ⟨hb1, hb2, hb3⟩ := hb
        obtain ⟨s2, hs2, h⟩ := setCs_ok h
        -- the way that is gone
        have hclean : ∃ o s1, p.at env = some (o, s1) := mergeC_at hm
        obtain ⟨o, s1, hat⟩ := hclean
        have hrun : runE env (branch cx b fun v cx => R (.fr F [.code (if v then x else y)] tm df cx) (leafJ df)) ⟨s.h, s.nx, s.nx, [], [], true⟩ = some (o, s1) := by
          unfold runE; rw [hp]; exact hat
        obtain ⟨hkeys, tm1, cx1, rfl, hcxs, hsl, bl0, hbl0, hblr⟩ := mergeC_ok hm hat
        obtain ⟨cx2, hc2, hrun2⟩ := branch_ok hrun hc
        obtain ⟨j, tm', df', cx', s', ρ', dfs', tmps', w', todo', g1, g2, g3, g4, g5, g6, g7, g8, g9, g10⟩ := hF F _ tm df cx2 _ _ _ hrun2 hc2 ρ rd dfs tmps w hrd hd ht hn (by exact hs) cs (k ++ tail)
        have hgr : Grows ⟨s.h, s.nx, s.nx, [], [], true⟩ s1 := PT.all_at (growsP _ _) (by rw [hp]; exact hat)
        -- what the leaf says
        have hleaf : j = none ∧ df' = df ∧ tm' = tm1 ∧ cx' = cx1 ∧ s' = s1 := by
          cases j with
          | some c => exact (runE_fail g1).elim
          | none =>
            simp only [leafJ] at g1
            cases hdf : natsEq df df' with
            | false => rw [hdf, cond_false] at g1; exact (runE_fail g1).elim
            | true =>
              rw [hdf, cond_true] at g1
              simp only [runE, run, PT.at, Option.some.injEq, Prod.mk.injEq, Out.tms.injEq] at g1
              exact ⟨rfl, (natsEq_eq hdf).symm, g1.1.1, g1.1.2, g1.2⟩
        obtain ⟨rfl, rfl, rfl, rfl, rfl⟩ := hleaf
        have hdfs : dfs' = dfs := DfS.same g3 hd g4
        subst hdfs
        have htodo : todo' = k ++ tail := g9
        subst htodo
        have hkp : Keeps ⟨s.h, s.nx, s.nx, [], [], true⟩ s' := PT.all_at (keepsP _ _ (Nat.le_refl _)) (by rw [hp]; exact hat)
        have hlast := (PT.all_at (PT.all_mem p) hat).2
        have hbl1 := leafB_ok hbl0
        have hnd : (q'.bl.map (·.1)).Nodup := by
          rw [hkeys]
          exact (dedupN_nodup _).filter _
        have hin : ∀ b l, (b, l) ∈ q'.bl → ∃ l0 l1 t, s.h.get b = some (.cells l0 t) ∧ s'.h.get b = some (.cells l1 t) ∧ ∀ ρ V, RepL env ρ l1 V → RepL env ρ l V := by
          intro b l hm2
          obtain ⟨l1, h1, h2⟩ := hblr b l hm2
          obtain ⟨l0, t, h3, h4⟩ := hbl1.2 b l1 h1
          exact ⟨l0, l1, t, h3, h4, h2⟩
        have hgets : ∀ b, (b ∉ q'.bl.map (·.1) → (setCsS q'.bl s.h).get b = s.h.get b) ∧ ∀ l, (b, l) ∈ q'.bl → ∃ l0 t, s.h.get b = some (.cells l0 t) ∧ (setCsS q'.bl s.h).get b = some (.cells l t) := fun b =>
          setCsS_get hnd (fun b l hm2 => let ⟨l0, _, t, e, _⟩ := hin b l hm2; ⟨l0, t, e⟩)
        have hsame : ∀ b, b ∉ q'.bl.map (·.1) → (b < s.nx ∨ s'.nx ≤ b) → s'.h.get b = s.h.get b := by
          intro b hb4 hb5
          by_cases hb6 : b < s.nx
          · refine hkp b (fun hw => hb4 ?_) (.inl hb6)
            rw [hkeys, List.mem_filter]
            refine ⟨dedupN_mem.2 (wrs_at hat b hw), ?_⟩
            simpa only [blt_dec, decide_eq_true_eq] using hb6
          · have hlow := hgr
            refine hkp b (fun hw => ?_) (hb5.elim (fun h => .inl h) .inr)
            rcases hlow.sub b hw with h1 | h1
            · simp at h1
            · rcases hlow.low b h1 with h2 | h2
              · simp at h2
              · exact hb6 h2
        have hdown : ∀ b, b < s.nx → ∀ p, ρ' b = some p → ρ b = some p := by
          intro b hb4 p0 hp0
          have h2 := g7.dom b p0 hp0
          cases hg : s.h.get b with
          | none =>
            exfalso
            by_cases hmem : b ∈ q'.bl.map (·.1)
            · obtain ⟨⟨b', l⟩, hm2, rfl⟩ := List.mem_map.1 hmem
              obtain ⟨l0, l1, t, e, _⟩ := hin _ l hm2
              rw [hg] at e
              cases e
            · rw [hsame b hmem (.inl hb4), hg] at h2
              exact h2 rfl
          | some v =>
            obtain ⟨r0, o0, e, _⟩ := hs.blk b v hg
            rw [g3 _ _ e] at hp0
            rw [e, hp0]
        have hnew : HS env ρ B (setCsS q'.bl s.h) w' := by
          refine HS.joinedW g3 hs g7 (fun b v hg => ?_) (fun b hg => ?_)
          · by_cases hmem : b ∈ q'.bl.map (·.1)
            · obtain ⟨⟨b', l⟩, hm2, rfl⟩ := List.mem_map.1 hmem
              obtain ⟨l0, l1, t, e, e1, e2⟩ := hin _ l hm2
              obtain ⟨l0', t', e3, e4⟩ := (hgets _).2 l hm2
              rw [e] at e3
              cases e3
              rw [e] at hg
              cases hg
              refine .inr ⟨l0, l1, l, t, rfl, e1, e4, fun cs hr => ?_⟩
              exact RepL.down hdown (hb2 _ hm2) (e2 ρ' cs hr)
            · refine .inl ⟨?_, by rw [(hgets b).1 hmem]; exact hg⟩
              have : b < s.nx ∨ s'.nx ≤ b := by
                by_cases hb4 : b < s.nx
                · exact .inl hb4
                · refine .inr (Nat.le_of_not_lt fun hlt => ?_)
                  rw [noneIn_ok hb3 (Nat.le_of_not_lt hb4) (by omega)] at hg
                  cases hg
              rw [hsame b hmem this]
              exact hg
          · by_cases hmem : b ∈ q'.bl.map (·.1)
            · obtain ⟨⟨b', l⟩, hm2, rfl⟩ := List.mem_map.1 hmem
              obtain ⟨l0, l1, t, e, _⟩ := hin _ l hm2
              rw [hg] at e
              cases e
            · rw [(hgets b).1 hmem]; exact hg
        have hts : TS env ρ (setSl .nil q'.sl) tmps' := by
          intro d v hdv
          have hm2 := setSl_mem hdv
          obtain ⟨v0, h1, h2⟩ := hsl d v hm2
          unfold leafS at h1
          obtain ⟨d', hd', e⟩ := List.mem_map.1 h1
          cases e
          have hold := hb1 _ hm2
          cases hg : tm'.get d with
          | none =>
            rw [hg] at h2
            by_cases hsz : d < tmps'.size
            · exact ⟨tmps'[d], by simp [hsz], Rep.down hdown hold (h2 ρ' _ trivial)⟩
            · exfalso
              have := List.all_eq_true.1 hkb d hd'
              rw [blt_dec, decide_eq_true_eq] at this
              omega
          | some v1 =>
            rw [hg] at h2
            obtain ⟨V, hV, hr⟩ := g5 d v1 hg
            exact ⟨V, hV, Rep.down hdown hold (h2 ρ' V hr)⟩
        exact hF.via h (hcxs hc g2) ρ.le_refl g8 hrd hd hts g6 (by rw [hs2]; exact hnew) (.head (st_cond hV) g10)
    · obtain ⟨cx', hc', h⟩ := branch_ok h hc
      exact hF.via h hc' ρ.le_refl (Below.refl _ _) hrd hd ht hn hs (.one (st_cond hV))
end Go.SX

namespace Go.SX
open Go Go.RowKit
set_option linter.unusedVariables false
set_option linter.unusedSimpArgs false
set_option linter.unusedSectionVars false

variable {P : Program} {env : Env} {B : Nat} {X : Par} {R : Run}

theorem resolve_range {tmps : Array Value} {g : Operand} {l : Nat} {gg : Fn} {fs cp : Array Value} {w : World} (hg : (actOf tmps).eval g = .func gg fs cp) :
    (do let d ← Go.resolve (actOf tmps).eval { callee := .value g, args := #[.const (.func (.yield l) #[] #[])], argTypes := #[] } 0; invoke d.target d.args : Sem Next).run P w =
      (invoke (.fn gg cp) (fs ++ #[.func (.yield l) #[] #[]])).run P w := by
  have : Array.map (actOf tmps).eval #[Operand.const (Value.func (Fn.yield l) #[] #[])] = #[Value.func (Fn.yield l) #[] #[]] := by simp [Act.eval]
  simp only [Go.resolve, Deferred.ofValue, hg, Sem.run_bind, Sem.run_pure, Result.andThen_ok, this]

theorem regionT_ok (hmix : P.follows .mixedOrders = true) (hC : CallOK P env B R) {F : FI} {ops : Array Oper} {draw : Bool} {tm : T SV} {cx : Ctx} {kk : T SV → Ctx → Tree} {s : St} {r : Out × St}
    (h : runE env (regionT P R F ops draw tm cx kk) s = some r) (hc : cx.ok env) {ρ : Pl} {w : World} {tmps : Array Value} (hs : HS env ρ B s.h w) (ht : TS env ρ tm tmps) (hn : tmps.size = F.nt) {fn : Nat} {rd : Option Nat} {df : List Deferred} {k : List Item} (id : Nat) (cs : List Frame) :
    ∃ tm' cx' s' ρ' w' tmps', runE env (kk tm' cx') s' = some r ∧ cx'.ok env ∧ ρ.le ρ' ∧ HS env ρ' B s'.h w' ∧ Below B w w' ∧ TS env ρ' tm' tmps' ∧ tmps'.size = F.nt ∧ (∀ d, d ∉ dstsOf ops → tm'.get d = tm.get d) ∧
      Steps P (lone (mkF fn rd tmps df (.code (.region id ops draw) :: k)) cs w) (lone (mkF fn rd tmps' df k) cs w') := by
  unfold regionT at h
  cases draw with
  | true =>
    rw [cond_true] at h
    exact drawOps_ok (F := F) hmix hC h hc hs ht hn (fn := fn) (rd := rd) (df := df) (k := k) id cs
  | false =>
    rw [cond_false] at h
    obtain ⟨tm', cx', s', ρ', w', tmps', g1, g2, g3, g4, g5, g6, g7, g9, g8⟩ := runOps_ok (F := F) hC (fn := fn) (rd := rd) (df := df) (k := k) cs ops.toList 0 tm cx s ρ w tmps (by simp) h hc hs ht hn
    refine ⟨tm', cx', s', ρ', w', tmps', g1, g2, g3, g4, g5, g6, g7, g9, .head st_region ?_⟩
    have : List.range ops.size = List.range' 0 ops.toList.length := by simp [List.range_eq_range']
    rw [this]
    exact g8

/-- what is joined: either the way's own outcome goes on, or the joined one over the store as it was -/
theorem join_ok {cx : Ctx} {tm : T SV} {ds : List Nat} {t : Tree} {k : Out → Tree} {s : St} {r : Out × St} (h : runE env (.join cx tm ds t k) s = some r) :
    ∃ o s1, runE env t s.jn = some (o, s1) ∧
      ((∃ s2 : St, s2.h = s1.h ∧ runE env (k o) s2 = some r) ∨
       (∃ (o' : Out) (s2 : St), RelO env cx tm ds s.nx o o' ∧ s2.h = s.h ∧ runE env (k o') s2 = some r ∧ (∀ b, b < s.nx → s1.h.get b = s.h.get b) ∧ (∀ b v, s.h.get b = some v → s1.h.get b = some v))) := by
  obtain ⟨hj, o', sj, hat, hk⟩ := runE_join h
  obtain ⟨hf, hnn⟩ := joinOK_ok hj
  obtain ⟨o, s1, h1, h2⟩ := merge_at hat
  refine ⟨o, s1, h1, ?_⟩
  rcases h2 with ⟨rfl, rfl⟩ | ⟨hw, rfl, hrel⟩
  · exact .inl ⟨_, by rfl, hk⟩
  · have hl := (PT.all_at (PT.all_mem (run t s.jn)) h1).2
    have hkp : Keeps s.jn s1 := PT.all_at (keepsP t s.jn (by simp [St.jn])) h1
    have keep : ∀ b, (b < s.nx ∨ s1.nx ≤ b) → s1.h.get b = s.h.get b := fun b hb => hkp b (by rw [hw]; simp) hb
    refine .inr ⟨o', _, hrel, by rfl, hk, fun b hb => keep b (.inl hb), fun b v hv => ?_⟩
    rw [keep b ?_]
    · exact hv
    · by_cases hb : b < s.nx
      · exact .inl hb
      · refine .inr (Nat.le_trans hl ?_)
        refine Nat.le_of_not_lt fun hlt => ?_
        rw [hnn b (by omega) hlt] at hv
        cases hv

set_option maxHeartbeats 1000000 in
theorem stepX_fr (hmix : P.follows .mixedOrders = true) (hL : ∀ f i g, X.loops f i = some g → ∀ tm s L, g tm s = some L → LoopOK env L) (hFa : ∀ env', env'.f = env.f → FrOK P env' B R) (hC : CallOK P env B R) : FrOK P env B (stepX P X R) := by
  have hF := hFa env rfl
  intro F todo tm df cx K s r h hc ρ rd dfs tmps w hrd hd ht hn hs cs tail
  simp only [stepX, sBegin, sCond, sLoop, sExit, sRegion, sRange, sCall, sYield] at h
  split at h
  · -- nothing left
    exact ⟨none, tm, df, cx, s, ρ, dfs, tmps, w, tail, h, hc, ρ.le_refl, hd, ht, hn, hs, Below.refl _ _, rfl, .refl _ _⟩
  · rename_i l k
    exact hF.via h hc ρ.le_refl (Below.refl _ _) hrd hd ht hn hs (.one st_inBlock)
  · rename_i c k
    exact hF.via h hc ρ.le_refl (Below.refl _ _) hrd hd ht hn hs (.one st_inScope)
  · rename_i body k
    exact hF.via h hc ρ.le_refl (Below.refl _ _) hrd hd ht hn hs (.one st_inLoop)
  · -- a round begins
    rename_i k
    split at h
    · rename_i l hl
      obtain ⟨b, hg, hlt0, h⟩ := runE_get h
      split at h
      · rename_i L
        split at h
        · rename_i hst
          obtain ⟨u, hu, hlt1, h⟩ := runE_set h
          rw [hl] at hrd
          obtain ⟨x, o, hx, rfl⟩ := hrd
          obtain ⟨r2, o2, lp, e2, hob, hL, hs2, hb⟩ := hs.putLoop hg (L' := { L with st := .busy }) (fun lp => { lp with state := .busy }) (fun lp h => by
            obtain ⟨a, b, c, d, e, f, g, i, j⟩ := h
            exact ⟨rfl, b, c, d, e, f, g, i, j⟩)
          rw [hx] at e2
          cases e2
          refine hF.via h hc ρ.le_refl hb (by rw [hl]; exact ⟨x, o, hx, rfl⟩) hd ht hn (by rw [St.put_h, St.touch_h]; exact hs2) (.one (st_beginRound (run_beginRound hob (hL.1.trans hst))))
        · exact (runE_fail h).elim
      · exact (runE_fail h).elim
    · exact (runE_fail h).elim
  · -- code
    rename_i c k
    split at h
    · exact ⟨some .ret, tm, df, cx, s, ρ, dfs, tmps, w, _, h, hc, ρ.le_refl, hd, ht, hn, hs, Below.refl _ _, ⟨k ++ tail, rfl⟩, .refl _ _⟩
    · exact hF.via h hc ρ.le_refl (Below.refl _ _) hrd hd ht hn hs (.one st_skip)
    · exact hF.via h hc ρ.le_refl (Below.refl _ _) hrd hd ht hn hs (.one st_label)
    · exact hF.via h hc ρ.le_refl (Below.refl _ _) hrd hd ht hn hs (.one st_seq)
    · rename_i c x y
      split at h
      · rename_i b hb
        have hV : (actOf tmps).eval c = .bool (b.den env) := (ht.evOK' [c]) c (by simp) _ hb
        split at h
        · exact condT_ok hF h hc ρ rd dfs tmps w hrd hd ht hn hs cs tail hV
        · obtain ⟨cx', hc', h⟩ := branch_ok h hc
          exact hF.via h hc' ρ.le_refl (Below.refl _ _) hrd hd ht hn hs (.one (st_cond hV))
      · exact (runE_fail h).elim
    · exact hF.via h hc ρ.le_refl (Below.refl _ _) hrd hd ht hn hs (.one st_block)
    · split at h
      · exact hF.via h hc ρ.le_refl (Below.refl _ _) hrd hd ht hn hs (.one st_loop)
      · rename_i g hg
        exact loopT_ok hFa (hL F.fn _ g hg) h hc ρ rd dfs tmps w hrd hd ht hn hs cs tail
    · exact hF.via h hc ρ.le_refl (Below.refl _ _) hrd hd ht hn hs (.one st_scope)
    · rename_i id
      split at h
      · rename_i k' hk'
        exact hF.via h hc ρ.le_refl (Below.refl _ _) hrd hd ht hn hs (.one (st_exit (exitTo_app hk')))
      · rename_i hk'
        exact ⟨some (.exit id), tm, df, cx, s, ρ, dfs, tmps, w, _, h, hc, ρ.le_refl, hd, ht, hn, hs, Below.refl _ _, ⟨k, rfl, hk'⟩, .refl _ _⟩
    · rename_i id ops draw
      cases hjr : (X.jr F.fn && (dstsOf ops).all (Nat.blt · F.nt)) with
      | false =>
        rw [hjr, cond_false] at h
        obtain ⟨tm', cx', s', ρ', w', tmps', g1, g2, g3, g4, g5, g6, g7, _, g8⟩ := regionT_ok (F := F) hmix hC h hc hs ht hn (fn := F.fn) (rd := rd) (df := dfs) (k := k ++ tail) id cs
        exact hF.via g1 g2 g3 g5 (hrd.mono g3) (hd.mono g3) g6 g7 g4 g8
      | true =>
        rw [hjr, cond_true] at h
        simp only [Bool.and_eq_true, List.all_eq_true] at hjr
        obtain ⟨o, s1, h1, h2⟩ := join_ok h
        obtain ⟨tm', cx', s', ρ', w', tmps', g1, g2, g3, g4, g5, g6, g7, g9, g8⟩ := regionT_ok (F := F) hmix hC h1 hc (s := s.jn) hs ht hn (fn := F.fn) (rd := rd) (df := dfs) (k := k ++ tail) id cs
        simp only [runE, run, PT.at, Option.some.injEq, Prod.mk.injEq] at g1
        obtain ⟨rfl, rfl⟩ := g1
        rcases h2 with ⟨s2, e2, h⟩ | ⟨o', s2, hrel, e2, h, low, old⟩
        · exact hF.via h g2 g3 g5 (hrd.mono g3) (hd.mono g3) g6 g7 (by rw [e2]; exact g4) g8
        · cases o' with
          | val v9 cx9 => exact hrel.elim
          | tms m cx9 =>
            obtain ⟨r1, r2⟩ := hrel
            have hdn := HS.downs g3 hs g4 low
            refine hF.via h (r1 hc g2) ρ.le_refl g5 hrd hd ?_ g7 (by rw [e2]; exact HS.joined g3 hs g4 old) g8
            intro d v hdv
            obtain ⟨q1, q2⟩ := r2 d v hdv
            by_cases hm : d ∈ dstsOf ops
            · obtain ⟨q3, q4⟩ := q1 hm
              rcases q4 with ⟨v0, hv0, hr0⟩ | q4
              · obtain ⟨V, hV, hr⟩ := g6 d v0 hv0
                exact ⟨V, hV, Rep.down hdn q3 (hr0 ρ' V hr)⟩
              · have hlt : d < tmps'.size := by
                  have := hjr.2 d hm
                  rw [blt_dec, decide_eq_true_eq] at this
                  omega
                exact ⟨tmps'[d], by simp [hlt], q4 ρ _⟩
            · have e1 := q2 hm
              obtain ⟨V, hV, hr⟩ := g6 d v (by rw [g9 d hm]; exact e1)
              obtain ⟨V0, hV0, hr0⟩ := ht d v e1
              exact ⟨V, hV, Rep.back g3 hr0 hr⟩
    · -- a range over a function
      rename_i g ps assign body
      split at h
      · rename_i gv hgv
        have hG : Rep env ρ gv ((actOf tmps).eval g) := (ht.evOK' [g]) g (by simp) _ hgv
        -- from the record on
        have main : ∀ (d : Nat) (df1 : List Nat) (s1 : St) (ρ1 : Pl) (w1 : World) (mark : List Deferred) (rl : Nat) (hρ1 : ρ.le ρ1) (hb1 : Below B w w1), HS env ρ1 B s1.h w1 → DfS ρ1 df1 (mark ++ dfs) →
            (∃ rdf od, ρ1 d = some (rdf, od) ∧ ∃ wE, (Instr.enterLoop F.fn tmps ps assign body rd).run P w = .ok (rl, mark) (wE) ∧ rl = w1.heap.size ∧
              wE = w1.alloc (.loop { state := .ready, pending := none, fn := F.fn, tmps := tmps, params := ps, assign := assign, body := body, defers := rdf })) →
            runE env (.new (.loop { st := .ready, pend := none, fn := F.fn, nt := F.nt, tm := tm, params := ps.toList, assign := assign, body := body, d := d }) fun l =>
               callV R gv [.func (.yield l) [] []] cx fun _ cx => .get l fun b => match b with
                 | .loop L => (match L.st with
                   | .busy => .fail "range func"
                   | _ => .set l (.loop { L with st := .exhausted }) (.set l .dead (R (.fr F ((match L.pend with | some c => [Item.code c] | none => []) ++ k) tm df1 cx) K)))
                 | _ => .fail "range func") s1 = some r →
            ∃ j tm' df' cx' s' ρ' dfs' tmps' w' todo', runE env (K (.left j tm' df' cx')) s' = some r ∧ cx'.ok env ∧ ρ.le ρ' ∧ DfS ρ' df' dfs' ∧ TS env ρ' tm' tmps' ∧ tmps'.size = F.nt ∧ HS env ρ' B s'.h w' ∧ Below B w w' ∧
              Leaves tail j todo' ∧ Steps P (lone (mkF F.fn rd tmps dfs (.code (.rangeFunc g ps assign body) :: (k ++ tail))) cs w) (lone (mkF F.fn rd tmps' dfs' todo') cs w') := by
          intro d df1 s1 ρ1 w1 mark rl hle1 hb1 hs1 hd1 hE h
          obtain ⟨rdf, od, hρd, wE, hent, hrl, hwE⟩ := hE
          obtain ⟨hnone, h⟩ := runE_new h
          obtain ⟨hle2, hρ2, hs2⟩ := hs1.alloc hnone (v := .loop { st := .ready, pend := none, fn := F.fn, nt := F.nt, tm := tm, params := ps.toList, assign := assign, body := body, d := d }) rfl
            (ob := .loop { state := .ready, pending := none, fn := F.fn, tmps := tmps, params := ps, assign := assign, body := body, defers := rdf })
            (fun ρ' hle => ⟨_, rfl, rfl, rfl, rfl, hn, ht.mono (Pl.le_trans hle1 hle), rfl, rfl, rfl, od, hle _ _ hρd⟩)
          have hle12 := Pl.le_trans hle1 hle2
          have hb2 : Below B w (w1.alloc (.loop { state := .ready, pending := none, fn := F.fn, tmps := tmps, params := ps, assign := assign, body := body, defers := rdf })) := hb1.alloc hs1.size _
          rw [← hwE] at hb2 hs2
          have hY : RepL env (ρ1.upd s1.nx w1.heap.size 0) [.func (.yield s1.nx) [] []] [.func (.yield rl) #[] #[]] :=
            ⟨_, [], ⟨.yield rl, [], [], ⟨_, 0, by rw [hrl]; exact hρ2, rfl⟩, rfl, rfl, rfl⟩, rfl, rfl⟩
          obtain ⟨v, cx3, s3, ρ3, V, w3, h, hc3, hle3, hv3, hs3, hb3, hst3⟩ := callV_ok hC h hc (hG.mono hle12) hY hs2
            (sem := (do let d ← Go.resolve (actOf tmps).eval { callee := .value g, args := #[.const (.func (.yield rl) #[] #[])], argTypes := #[] } 0; invoke d.target d.args : Sem Next))
            (fun gg fs cp hgg => resolve_range hgg)
            (m0 := lone (mkF F.fn rd tmps dfs (.code (.rangeFunc g ps assign body) :: (k ++ tail))) cs w) (mkF F.fn rd tmps (mark ++ dfs) (.inRangeFunc rl :: (k ++ tail))) cs
            (fun gg as hr => st_range hent hr) (fun l' gg ts a b hr => st_rangeRound hent hr)
          have hfin : (mkF F.fn rd tmps (mark ++ dfs) (.inRangeFunc rl :: (k ++ tail))).finish V = mkF F.fn rd tmps (mark ++ dfs) (.endRangeFunc rl :: (k ++ tail)) := by simp [Frame.finish, mkF]
          rw [hfin] at hst3
          obtain ⟨b, hg, hlt0, h⟩ := runE_get h
          split at h
          · rename_i L
            have hrest : L.st ≠ .busy ∧ runE env (.set s1.nx (.loop { L with st := .exhausted }) (.set s1.nx .dead (R (.fr F ((match L.pend with | some c => [Item.code c] | none => []) ++ k) tm df1 cx3) K))) (s3.touch s1.nx) = some r := by
              split at h
              · exact (runE_fail h).elim
              · rename_i hnb
                exact ⟨fun e => hnb e, h⟩
            obtain ⟨hnb, h⟩ := hrest
            obtain ⟨u, hu, hlt1, h⟩ := runE_set h
            obtain ⟨u2, hu2, hlt2, h⟩ := runE_set h
            rw [St.put_h, St.touch_h] at hu2
            obtain ⟨r2, o2, lp, e2, hob, hL, hs4, hb4⟩ := hs3.putLoop hg (L' := { L with st := .exhausted }) (fun lp => { lp with state := .exhausted }) (fun lp h => by
              obtain ⟨a, b, c, d, e, f, g, i, j⟩ := h
              exact ⟨rfl, b, c, d, e, f, g, i, j⟩)
            have e3 := hle3 _ _ hρ2
            rw [e2] at e3
            cases e3
            have hle13 := Pl.le_trans hle12 hle3
            have hpend : lp.pending = L.pend := hL.2.1
            have hend := st_endRange (P := P) (fn := F.fn) (rd := rd) (tmps := tmps) (df := mark ++ dfs) (k := k ++ tail) (cs := cs) (run_endLoop hob (by rw [hL.1]; exact hnb))
            have htodo : (lp.pending.map Item.code).toList ++ (k ++ tail) = ((match L.pend with | some c => [Item.code c] | none => []) ++ k) ++ tail := by
              rw [hpend]
              cases L.pend <;> rfl
            rw [htodo] at hend
            rw [hrl] at hst3
            refine hF.via h hc3 hle13 ((hb2.trans hb3).trans hb4) (hrd.mono hle13) (hd1.mono (Pl.le_trans hle2 hle3)) (ht.mono hle13) hn (by rw [St.put_h, St.put_h, St.touch_h]; exact hs4.kill hu2) (hst3.trans (.one hend))
          · exact (runE_fail h).elim
        split at h
        · -- outermost
          rename_i hrdn
          rw [hrdn] at hrd
          have hrd' : rd = none := hrd
          subst hrd'
          obtain ⟨hnone, h⟩ := runE_new h
          obtain ⟨hle1, hρ1, hs1⟩ := hs.alloc hnone (v := .dfr false) rfl (ob := .deferred (some [])) (fun _ _ => rfl)
          refine main s.nx (s.nx :: df) (s.add (.dfr false)) _ (w.alloc (.deferred (some []))) [{ target := .collected w.heap.size, args := #[] }] (w.heap.size + 1) hle1 ((Below.refl _ _).alloc hs.size _) hs1
            ⟨w.heap.size, 0, dfs, hρ1, hd.mono hle1, rfl⟩ ⟨w.heap.size, 0, hρ1, _, run_enterLoop_outer .., ?_, rfl⟩ h
          show w.heap.size + 1 = (w.heap.push _).size
          simp
        · -- inside a round
          rename_i l0 hl0
          rw [hl0] at hrd
          obtain ⟨x, o, hx, rfl⟩ := hrd
          obtain ⟨b, hg, hlt0, h⟩ := runE_get h
          split at h
          · rename_i L0
            obtain ⟨r2, o2, e2, hbs, hown, hown1⟩ := hs.at _ _ hg (fun _ => rfl)
            rw [hx] at e2
            cases e2
            obtain ⟨lp, hob, hL⟩ := hbs
            obtain ⟨od, hod⟩ := hL.2.2.2.2.2.2.2.2
            refine main L0.d df (s.touch l0) ρ w [] w.heap.size ρ.le_refl (Below.refl _ _) (by rw [St.touch_h]; exact hs) hd ⟨lp.defers, od, hod, _, run_enterLoop_inner hob .., rfl, rfl⟩ h
          · exact (runE_fail h).elim
      · exact (runE_fail h).elim
    · exact (runE_fail h).elim
  · exact (runE_fail h).elim

theorem bodyT_ok (hF : FrOK P env B R) {f : Nat} {fn : Func} {c : Code} {args : List SV} {cx : Ctx} {K : Res → Tree} {s : St} {r : Out × St} (hent : entered P f = some (fn, c)) (h : runE env (bodyT P R f fn c args cx K) s = some r) (hc : cx.ok env)
    {ρ : Pl} {vs : List Value} {w : World} (ha : RepL env ρ args vs) (hs : HS env ρ B s.h w) (cs : List Frame) :
    ∃ v cx' s' ρ' V w' fr', runE env (K (.val v cx')) s' = some r ∧ cx'.ok env ∧ ρ.le ρ' ∧ Rep env ρ' v V ∧ HS env ρ' B s'.h w' ∧ Below B w w' ∧
      (callFunc f vs.toArray).run P w = .ok (.enter f vs.toArray) w ∧ Steps P (lone (Frame.enter P f vs.toArray .normal) cs w) (lone fr' cs w') ∧ fr'.fn = f ∧ fr'.leaving P w' (.returned V) := by
  unfold bodyT at h
  obtain ⟨hfn, hbody, hcall⟩ := entered_ok hent vs.toArray w
  have hlen := ha.length
  have henter : Frame.enter P f vs.toArray .normal = mkF f none (vs.toArray ++ Array.replicate (fn.ntmps - vs.length) undef) [] [.code c] := by
    simp [Frame.enter, mkF, hfn, hbody]
  have hts : TS env ρ (setL .nil 0 args) (vs.toArray ++ Array.replicate (fn.ntmps - vs.length) undef) := by
    refine TS.setL args 0 .nil _ (fun t s e => by cases e) ?_
    intro j sv e
    obtain ⟨v, hv, hr⟩ := ha.get e
    refine ⟨v, ?_, hr⟩
    have hj := (List.getElem?_eq_some_iff.1 hv).1
    rw [Nat.zero_add, Array.getElem?_append_left (by simpa using hj)]
    simpa using hv
  obtain ⟨j, tm', df', cx', s', ρ', dfs', tmps', w', todo', h, hc', hle, hd', ht', hn', hs', hb, hl, hst⟩ := hF ⟨f, args.length + (fn.ntmps - args.length), none⟩ _ _ _ _ _ s r h hc ρ none [] _ w rfl rfl hts (by simp [hlen]) hs cs []
  have key : ∀ (hj : j = none ∨ j = some .ret), runE env (takeD df' (retVal P cx' tm' fn.results.toList fun vs cx => K (.val (oneOf vs) cx))) s' = some r →
      ∃ v cx' s' ρ' V w' fr', runE env (K (.val v cx')) s' = some r ∧ cx'.ok env ∧ ρ.le ρ' ∧ Rep env ρ' v V ∧ HS env ρ' B s'.h w' ∧ Below B w w' ∧
        (callFunc f vs.toArray).run P w = .ok (.enter f vs.toArray) w ∧ Steps P (lone (Frame.enter P f vs.toArray .normal) cs w) (lone fr' cs w') ∧ fr'.fn = f ∧ fr'.leaving P w' (.returned V) := by
    intro hj h
    obtain ⟨s2, w2, h, hs2, hb2, hst2⟩ := takeD_ok (P := P) { mkF f none tmps' dfs' todo' with mode := .returning } cs h hd' hs' (by simp) rfl
    obtain ⟨rvs, us, cx3, s3, h, hc3, hh3, hr3, hrun⟩ := retVal_ok (P := P) (B := B) ht' h hc' hs2
    refine ⟨_, cx3, s3, ρ', oneV us, w2, { { mkF f none tmps' dfs' todo' with mode := .returning } with defers := [] }, h, hc3, hle, oneOf_rep hr3, by rw [hh3]; exact hs2, hb.trans hb2, hcall, ?_, rfl, ?_⟩
    · rw [henter]
      exact hst.trans (.head (st_leave hj hl) hst2)
    · exact ⟨rfl, rfl, rfl, fn, hfn, results_run hrun⟩
  dsimp only at h
  split at h
  · exact key (.inl rfl) h
  · exact key (.inr rfl) h
  · exact (runE_fail h).elim

theorem needArrs_ok {ρ : Pl} {w : World} {t : Tree} {r : Out × St} : ∀ {l : List (Nat × List (Option IntKind) × Nat × E)} {s : St}, runE env (needArrs t l) s = some r → HS env ρ B s.h w →
    (∀ b sig F N, (b, sig, F, N) ∈ l → ∃ r o, ρ b = some (r, o) ∧ ((Blk.arr sig F [] N).void env o = false → BS env ρ (w.heap[r]?) o (.arr sig F [] N))) ∧ ∃ s', s'.h = s.h ∧ runE env t s' = some r
  | [], s, h, hs => ⟨fun b sig F N hm => by simp at hm, s, rfl, h⟩
  | (b, sig, F, N) :: l, s, h, hs => by
      simp only [needArrs] at h
      obtain ⟨blk, hg, _, g⟩ := runE_get h
      clear h
      obtain ⟨r0, o, e, hbs0⟩ := hs.blk _ _ hg
      split at g
      · rename_i sig' F' N'
        cases hq : (decide (sig' = sig) && (Nat.beq F' F && N'.same N)) with
        | false => rw [hq] at g; exact (runE_fail g).elim
        | true =>
          rw [hq, cond_true] at g
          simp only [Bool.and_eq_true, decide_eq_true_eq] at hq
          obtain ⟨rfl, hF, hN⟩ := hq
          have hF' : F' = F := Nat.eq_of_beq_eq_true hF
          subst hF'
          have hN' := E.same_eq hN
          subst hN'
          obtain ⟨h1, s', h2, h3⟩ := needArrs_ok g (by rw [St.touch_h]; exact hs)
          refine ⟨?_, s', by rw [h2, St.touch_h], h3⟩
          intro b' sig2 F2 N2 hm
          rcases List.mem_cons.1 hm with hm | hm
          · cases hm
            exact ⟨r0, o, e, fun hv => (hbs0 hv).1⟩
          · exact h1 b' sig2 F2 N2 hm
      · exact (runE_fail g).elim

set_option maxHeartbeats 1000000 in
theorem stepX_call (hG : GenOK P env X.gen) (hBk : BookOK P env X.book) (hF : FrOK P env B R) : CallOK P env B (stepX P X R) := by
  constructor
  · intro f args cx K s r h hc ρ vs w ha hs cs
    simp only [stepX, sBegin, sCond, sLoop, sExit, sRegion, sRange, sCall, sYield] at h
    split at h
    · -- by a tree that stands for it
      rename_i g hg
      exact hG f args cx g hg hc B _ s r h ρ vs w ha hs cs
    split at h
    · -- by the book
      rename_i sm hsm
      obtain ⟨hblks, s1, hs1, h⟩ := needBlks_ok h hs
      rw [← hs1] at hs
      obtain ⟨harrs, s2, hs2, h⟩ := needArrs_ok h hs
      rw [← hs2] at hs
      obtain ⟨hneeds, cx1, hc1, h⟩ := needAll_ok h hc
      obtain ⟨hcall, hfacts, hrngs, hcalls⟩ := hBk f args cx sm hsm hc hneeds ρ vs w ha (fun b l hm => let ⟨r, o, _, h1, h2⟩ := hblks b l hm; ⟨r, o, h2, h1⟩) harrs
      obtain ⟨e, w', fr, ⟨V, rfl, hV, hb⟩, hcomes, hfn, hleave⟩ := hcalls cs
      exact ⟨sm.v, _, s2, ρ, V, w', fr, h, assumeAll_ok (addRs_ok hc1 hrngs) hfacts, ρ.le_refl, hV, hs.below hb, hb.mono hs.size, hcall, hcomes, hfn, hleave⟩
    · -- into the body
      split at h
      · rename_i fn c hent
        cases hjc : X.jc f with
        | false =>
          rw [hjc, cond_false] at h
          exact bodyT_ok hF hent h hc ha hs cs
        | true =>
          rw [hjc, cond_true] at h
          obtain ⟨o, s1, h1, h2⟩ := join_ok h
          obtain ⟨v, cx', s', ρ', V, w', fr', g1, g2, g3, g4, g5, g6, g7, g8, g9, g10⟩ := bodyT_ok hF hent h1 hc ha (s := s.jn) hs cs
          simp only [runE, run, PT.at, Option.some.injEq, Prod.mk.injEq] at g1
          obtain ⟨rfl, rfl⟩ := g1
          rcases h2 with ⟨s2, e2, h⟩ | ⟨o', s2, hrel, e2, h, low, old⟩
          · exact ⟨v, cx', s2, ρ', V, w', fr', h, g2, g3, g4, by rw [e2]; exact g5, g6, g7, g8, g9, g10⟩
          · cases o' with
            | tms m cx9 => exact hrel.elim
            | val v9 cx9 =>
              obtain ⟨r1, r2, r3⟩ := hrel
              exact ⟨v9, cx9, s2, ρ, V, w', fr', h, r1 hc g2, ρ.le_refl, Rep.down (HS.downs g3 hs g5 low) r3 (r2 ρ' V g4), by rw [e2]; exact HS.joined g3 hs g5 old, g6, g7, g8, g9, g10⟩
      · exact (runE_fail h).elim
  · intro l args cx K s r h hc ρ vs w rl ol hρl ha hs c cs
    simp only [stepX, sBegin, sCond, sLoop, sExit, sRegion, sRange, sCall, sYield] at h
    obtain ⟨b, hg, hlt0, h⟩ := runE_get h
    split at h
    · rename_i L
      obtain ⟨r2, o2, e2, hbs, hown, hown1⟩ := hs.at _ _ hg (fun _ => rfl)
      rw [hρl] at e2
      cases e2
      obtain ⟨lp, hob, hL⟩ := hbs
      obtain ⟨q1, q2, q3, q4, q5, q6, q7, q8, q9⟩ := hL
      obtain ⟨tm1, h, ht1, hn1, hlen1⟩ := setP_ok (F := ⟨L.fn, L.nt, some l⟩) h ha q5 q4
      have htm : (lp.params.zip vs.toArray).foldl (fun tmps (t, a) => tmps.setIfInBounds t a) lp.tmps = (L.params.zip vs).foldl (fun t (p : Nat × Value) => t.setIfInBounds p.1 p.2) lp.tmps := by
        rw [← Array.foldl_toList, Array.toList_zip, q6]
      have hps : vs.toArray.size = lp.params.size := by
        rw [← Array.length_toList (xs := lp.params), q6, hlen1]
        simp
      have hround : Frame.round rl lp.fn ((lp.params.zip vs.toArray).foldl (fun tmps (t, a) => tmps.setIfInBounds t a) lp.tmps) lp.assign lp.body .normal =
          mkF L.fn (some rl) ((L.params.zip vs).foldl (fun t (p : Nat × Value) => t.setIfInBounds p.1 p.2) lp.tmps) [] [.code L.assign, .beginRound, .code L.body] := by
        rw [htm, q3, q7, q8]
        rfl
      obtain ⟨j, tm', df', cx', s', ρ', dfs', tmps', w', todo', h, hc', hle, hd', ht', hn', hs', hb, hl, hst⟩ := hF ⟨L.fn, L.nt, some l⟩ _ _ _ _ _ _ r h hc ρ (some rl) [] _ w ⟨rl, ol, hρl, rfl⟩ rfl ht1 hn1 (by rw [St.touch_h]; exact hs) (c :: cs) []
      split at h
      · rename_i j' tm2 cx2 heq
        cases heq
        obtain ⟨b, hg2, hlt2, h⟩ := runE_get h
        split at h
        · rename_i L'
          obtain ⟨u, hu, hlt3, h⟩ := runE_set h
          obtain ⟨r3, o3, lp3, e3, hob3, hL3, hs3, hb3⟩ := hs'.putLoop hg2 (L' := { L' with st := if j.isNone then .ready else .done, pend := j }) (fun lp => { lp with state := if j.isNone then .ready else .done, pending := j }) (fun lp h => by
            obtain ⟨a, b, c, d, e, f, g, i, k⟩ := h
            exact ⟨rfl, rfl, c, d, e, f, g, i, k⟩)
          rw [hle _ _ hρl] at e3
          cases e3
          refine ⟨_, cx', _, ρ', .bool j.isNone, _, lp.fn, _, lp.assign, lp.body, h, hc', hle, rfl, by rw [St.put_h, St.touch_h]; exact hs3, hb.trans hb3, run_yield hob hps, ?_⟩
          rw [hround]
          rw [List.append_nil] at hst
          exact hst.trans (.one (st_leaveRound hl (run_endRound j hob3)))
        · exact (runE_fail h).elim
      · exact (runE_fail h).elim
    · exact (runE_fail h).elim

/-- what the reckoner goes by is right -/
structure ParOK (P : Program) (fn : Nat → List Int → Int) (X : Par) : Prop where
  book : ∀ env, env.f = fn → BookOK P env X.book
  loops : LoopsOK fn X.loops
  rows : RowFn fn
  gen : ∀ env, env.f = fn → GenOK P env X.gen

/-- the reckoner is right, whatever its fuel -/
theorem exec_ok (hmix : P.follows .mixedOrders = true) {fn : Nat → List Int → Int} (hX : ParOK P fn X) : ∀ n env, env.f = fn → FrOK P env B (exec P X n) ∧ CallOK P env B (exec P X n)
  | 0, env, he => by
      refine ⟨?_, ?_⟩
      · intro F todo tm df cx K s r h
        exact (runE_fail h).elim
      · constructor
        · intro f args cx K s r h
          exact (runE_fail h).elim
        · intro f args cx K s r h
          exact (runE_fail h).elim
  | n + 1, env, he => by
      have ih := exec_ok hmix hX n
      exact ⟨stepX_fr (X := X) hmix (fun f i g hg tm s L hL => hX.loops env he f i g hg tm s L hL) (fun env' he' => (ih env' (he'.trans he)).1) (ih env he).2, stepX_call (hX.gen env he) (hX.book env he) (ih env he).1⟩

end Go.SX

namespace Go.SX
open Go Go.RowKit
set_option linter.unusedVariables false
set_option linter.unusedSimpArgs false
set_option linter.unusedSectionVars false

def Out.v : Out → SV
  | .val v _ => v
  | .tms _ _ => .any

/-- what is left to show of a tree: Q at each leaf, under the tests on the way -/
def PT.holds (env : Env) (Q : SV → T Blk → Prop) : PT → Prop
  | .leaf o s => Q o.v s.h
  | .ite c t e => (c.den env = true → t.holds env Q) ∧ (c.den env = false → e.holds env Q)
  | .need c t => c.den env = true ∧ t.holds env Q
  | .fail _ => False

theorem PT.holds_at {env : Env} {Q : SV → T Blk → Prop} : ∀ {t : PT}, t.holds env Q → ∃ o s, t.at env = some (o, s) ∧ Q o.v s.h
  | .leaf o s, h => ⟨o, s, rfl, h⟩
  | .ite c t e, h => by
      simp only [PT.at]
      cases hc : c.den env with
      | true => simpa using PT.holds_at (h.1 hc)
      | false => simpa using PT.holds_at (h.2 hc)
  | .need c t, h => by
      simp only [PT.at, h.1, if_true]
      exact PT.holds_at h.2
  | .fail _, h => h.elim

theorem PT.holds_mono {env : Env} {Q Q' : SV → T Blk → Prop} (hq : ∀ v h, Q v h → Q' v h) : ∀ {t : PT}, t.holds env Q → t.holds env Q'
  | .leaf o s, h => hq _ _ h
  | .ite c t e, h => ⟨fun hc => PT.holds_mono hq (h.1 hc), fun hc => PT.holds_mono hq (h.2 hc)⟩
  | .need c t, h => ⟨h.1, PT.holds_mono hq h.2⟩
  | .fail _, h => h

variable {P : Program} {X : Par} {env : Env} {fn : Nat → List Int → Int}

theorem calls_run (hmix : P.follows .mixedOrders = true) (hX : ParOK P fn X) (he : env.f = fn) {n f : Nat} {args : List SV} {vs : List Value} {cx : Ctx} {h0 : T Blk} {nx : Nat} {ρ : Pl} {w : World} {Q : SV → T Blk → Prop}
    (hc : cx.ok env) (ha : RepL env ρ args vs) (hs : HS env ρ w.heap.size h0 w) (h : (run (callT P X n f args cx) ⟨h0, nx, 0, [], [], true⟩).holds env Q) :
    Calls P f vs.toArray w fun e w' => ∃ v h' ρ' V, Q v h' ∧ e = .returned V ∧ Rep env ρ' v V ∧ ρ.le ρ' ∧ HS env ρ' w.heap.size h' w' ∧ Below w.heap.size w w' := by
  obtain ⟨o, s, hat, hq⟩ := PT.holds_at h
  have hrun : runE env (callT P X n f args cx) ⟨h0, nx, 0, [], [], true⟩ = some (o, s) := hat
  intro cs
  obtain ⟨v, cx', s', ρ', V, w', fr', g1, g2, g3, g4, g5, g6, g7, g8, g9, g10⟩ := ((exec_ok (B := w.heap.size) hmix hX n env he).2).call f args cx _ _ _ hrun hc ρ vs w ha hs cs
  simp only [runE, run, PT.at, Option.some.injEq, Prod.mk.injEq] at g1
  obtain ⟨rfl, rfl⟩ := g1
  exact ⟨.returned V, w', fr', ⟨v, s'.h, ρ', V, hq, rfl, g4, g3, g5, g6⟩, g8, g9, g10⟩

theorem hs_nil (env : Env) (hr : RowFn env.f) (w : World) : HS env (fun _ => none) w.heap.size .nil w :=
  ⟨(fun b v h => by cases h), (fun b p h => by cases h), (fun b b' r o o' h => by cases h), Nat.le_refl _, (fun b v h => by cases h), hr⟩

/-- the answer is yes -/
def yes (env : Env) (v : SV) : Prop := match v with | .bool b => b.den env = true | _ => False

theorem calls_yes (hmix : P.follows .mixedOrders = true) (hX : ParOK P fn X) (he : env.f = fn) {n f : Nat} {args : List SV} {vs : List Value} {cx : Ctx} {h0 : T Blk} {nx : Nat} {ρ : Pl} {w : World}
    (hc : cx.ok env) (ha : RepL env ρ args vs) (hs : HS env ρ w.heap.size h0 w) (h : (run (callT P X n f args cx) ⟨h0, nx, 0, [], [], true⟩).holds env fun v _ => yes env v) :
    Calls P f vs.toArray w fun e w' => e = .returned (.bool true) ∧ Below w.heap.size w w' := by
  refine (calls_run hmix hX he hc ha hs h).mono ?_
  rintro e w' ⟨v, h', ρ', V, hq, rfl, hr, _, _, hb⟩
  refine ⟨?_, hb⟩
  cases v <;> simp only [yes] at hq <;> try exact hq.elim
  rename_i b
  rw [show V = _ from hr, hq]

/-- integers and bools alone come in: no store to begin with -/
theorem calls_yes0 (hmix : P.follows .mixedOrders = true) (hX : ParOK P fn X) (he : env.f = fn) {n f : Nat} {args : List SV} {vs : List Value} {cx : Ctx} {w : World} {t : PT}
    (hc : cx.ok env) (ha : RepL env (fun _ => none) args vs) (ht : run (callT P X n f args cx) st0 = t) (h : t.holds env fun v _ => yes env v) :
    Calls P f vs.toArray w fun e w' => e = .returned (.bool true) ∧ Below w.heap.size w w' := by
  subst ht
  exact calls_yes hmix hX he hc ha (hs_nil env (by rw [he]; exact hX.rows) w) h

/-- a run that ends in yes on every way, by reckoning alone -/
def allYes : PT → Bool
  | .leaf o _ => match o.v with
    | .bool (.lit true) => true
    | _ => false
  | .ite _ t e => allYes t && allYes e
  | .need _ _ => false
  | .fail _ => false

theorem allYes_holds (env : Env) : ∀ {t : PT}, allYes t = true → t.holds env fun v _ => yes env v
  | .leaf o s, h => by
      simp only [allYes] at h
      simp only [PT.holds]
      split at h
      · rename_i e; rw [e]; rfl
      · cases h
  | .ite c t e, h => by
      simp only [allYes, Bool.and_eq_true] at h
      exact ⟨fun _ => allYes_holds env h.1, fun _ => allYes_holds env h.2⟩

end Go.SX

namespace Go.SX
open Go Go.RowKit
set_option linter.unusedVariables false
set_option linter.unusedSimpArgs false

/-- is this test among the facts -/
def known (hyps : List BE) (c : BE) : Bool := hyps.any fun h => h.same c

theorem known_den {env : Env} {hyps : List BE} {c : BE} (hh : ∀ h ∈ hyps, h.den env = true) (h : known hyps c = true) : c.den env = true := by
  simp only [known, List.any_eq_true] at h
  obtain ⟨x, hx, hs⟩ := h
  rw [← BE.same_eq hs]
  exact hh x hx

/-- a run that ends in yes on every way that the facts allow -/
def yesUnder (hyps : List BE) : PT → Bool
  | .leaf o _ => match o.v with
    | .bool (.lit true) => true
    | .bool b => known hyps b
    | _ => false
  | .ite c t e => bif known hyps c then yesUnder hyps t else bif known hyps (.neg c) then yesUnder hyps e else yesUnder hyps t && yesUnder hyps e
  | .need c t => known hyps c && yesUnder hyps t
  | .fail _ => false

theorem yesUnder_holds {env : Env} {hyps : List BE} (hh : ∀ h ∈ hyps, h.den env = true) : ∀ {t : PT}, yesUnder hyps t = true → t.holds env fun v _ => yes env v
  | .leaf o s, h => by
      simp only [yesUnder] at h
      simp only [PT.holds]
      split at h
      · rename_i e; rw [e]; rfl
      · rename_i b _ e; rw [e]; exact known_den hh h
      · cases h
  | .ite c t e, h => by
      simp only [yesUnder] at h
      simp only [PT.holds]
      cases hk : known hyps c with
      | true =>
        simp only [hk, cond_true] at h
        exact ⟨fun _ => yesUnder_holds hh h, fun hc => by rw [known_den hh hk] at hc; cases hc⟩
      | false =>
        simp only [hk, cond_false] at h
        cases hk2 : known hyps (.neg c) with
        | true =>
          simp only [hk2, cond_true] at h
          refine ⟨fun hc => ?_, fun _ => yesUnder_holds hh h⟩
          have := known_den hh hk2
          simp only [BE.den, hc] at this
          cases this
        | false =>
          simp only [hk2, cond_false, Bool.and_eq_true] at h
          exact ⟨fun _ => yesUnder_holds hh h.1, fun _ => yesUnder_holds hh h.2⟩
  | .need c t, h => by
      simp only [yesUnder, Bool.and_eq_true] at h
      exact ⟨known_den hh h.1, yesUnder_holds hh h.2⟩

end Go.SX
