/- The two ways of a test joined, with what they write: it is right. -/
import Derived.Test.YtjgkcgkhcdeadaaSw22
namespace Go.SX
open Go Go.RowKit
set_option linter.unusedVariables false
set_option linter.unusedSimpArgs false
set_option linter.unusedSectionVars false

theorem mergeQ_ok {env : Env} {c : E} {cx1 cx2 : Ctx} {n : Nat} {z : Bool} (hz : z = (c.den env != 0)) (x y : SV) : VOK env n z cx1 cx2 x y (mergeQ c cx1 cx2 n x y).1 (mergeQ c cx1 cx2 n x y).2 := by
  unfold mergeQ
  cases hs : (x.same y && x.older n) with
  | true =>
    simp only [Bool.and_eq_true] at hs
    have := SV.same_eq hs.1
    subst this
    exact ⟨fun ρ V hr => by cases z <;> exact hr, hs.2, fun _ _ _ _ hm => by simp at hm⟩
  | false =>
    simp only [cond_false]
    split
    · rename_i r hr
      obtain ⟨v, rs⟩ := r
      exact mergeV_ok hz hr
    · exact ⟨fun ρ V hr => trivial, rfl, fun _ _ _ _ hm => by simp at hm⟩

/-- slots that stand for what they stood for -/
def SlR (env : Env) (a m : List (Nat × SV)) : Prop := ∀ d v, (d, v) ∈ m → ∃ v0, (d, v0) ∈ a ∧ ∀ ρ V, Rep env ρ v0 V → Rep env ρ v V
theorem SlR.trans {env : Env} {a b c : List (Nat × SV)} (h : SlR env a b) (h' : SlR env b c) : SlR env a c := by
  intro d v hm
  obtain ⟨v1, h1, h2⟩ := h' d v hm
  obtain ⟨v0, h3, h4⟩ := h d v1 h1
  exact ⟨v0, h3, fun ρ V hr => h2 ρ V (h4 ρ V hr)⟩
def BlR (env : Env) (a m : List (Nat × List SV)) : Prop := ∀ d v, (d, v) ∈ m → ∃ v0, (d, v0) ∈ a ∧ ∀ ρ V, RepL env ρ v0 V → RepL env ρ v V
theorem BlR.trans {env : Env} {a b c : List (Nat × List SV)} (h : BlR env a b) (h' : BlR env b c) : BlR env a c := by
  intro d v hm
  obtain ⟨v1, h1, h2⟩ := h' d v hm
  obtain ⟨v0, h3, h4⟩ := h d v1 h1
  exact ⟨v0, h3, fun ρ V hr => h2 ρ V (h4 ρ V hr)⟩

theorem mergeQS_ok {env : Env} {c : E} {cx1 cx2 : Ctx} {n : Nat} {z : Bool} (hz : z = (c.den env != 0)) : ∀ {a b m : List (Nat × SV)} {rs : Rngs}, mergeQS c cx1 cx2 n a b = some (m, rs) →
    SlR env (bif z then a else b) m ∧ ((bif z then cx1 else cx2).ok env → ∀ x lo hi, (x, lo, hi) ∈ rs → lo ≤ x.den env ∧ x.den env ≤ hi)
  | [], [], m, rs, h => by
      simp only [mergeQS, Option.some.injEq, Prod.mk.injEq] at h
      obtain ⟨rfl, rfl⟩ := h
      exact ⟨fun d v hm => by simp at hm, fun _ _ _ _ hm => by simp at hm⟩
  | [], _ :: _, m, rs, h => by simp [mergeQS] at h
  | _ :: _, [], m, rs, h => by simp [mergeQS] at h
  | (d, x) :: l, (d', y) :: l', m, rs, h => by
      simp only [mergeQS, beq_dec] at h
      by_cases hd : d = d'
      case neg => simp only [hd, decide_false, cond_false] at h; cases h
      subst hd
      simp only [decide_true, cond_true] at h
      split at h
      case h_2 => cases h
      rename_i m1 r1 h1
      cases h
      obtain ⟨p1, p2⟩ := mergeQS_ok hz h1
      obtain ⟨q1, q2, q3⟩ := mergeQ_ok (cx1 := cx1) (cx2 := cx2) (n := n) hz x y
      refine ⟨fun e v hm => ?_, fun hc e lo hi hm => ?_⟩
      · rcases List.mem_cons.1 hm with hm | hm
        · cases hm
          cases z with
          | true => exact ⟨x, by simp, q1⟩
          | false => exact ⟨y, by simp, q1⟩
        · obtain ⟨v0, h3, h4⟩ := p1 e v hm
          refine ⟨v0, ?_, h4⟩
          cases z with
          | true => exact List.mem_cons_of_mem _ h3
          | false => exact List.mem_cons_of_mem _ h3
      · rcases List.mem_append.1 hm with hm | hm
        · exact q3 hc e lo hi hm
        · exact p2 hc e lo hi hm

theorem mergeQL_ok {env : Env} {c : E} {cx1 cx2 : Ctx} {n : Nat} {z : Bool} (hz : z = (c.den env != 0)) : ∀ {a b v : List SV} {rs : Rngs}, mergeQL c cx1 cx2 n a b = some (v, rs) →
    (∀ ρ V, RepL env ρ (bif z then a else b) V → RepL env ρ v V) ∧ ((bif z then cx1 else cx2).ok env → ∀ x lo hi, (x, lo, hi) ∈ rs → lo ≤ x.den env ∧ x.den env ≤ hi)
  | [], [], v, rs, h => by
      simp only [mergeQL, Option.some.injEq, Prod.mk.injEq] at h
      obtain ⟨rfl, rfl⟩ := h
      exact ⟨fun ρ V hr => by cases z <;> exact hr, fun _ _ _ _ hm => by simp at hm⟩
  | [], _ :: _, v, rs, h => by simp [mergeQL] at h
  | _ :: _, [], v, rs, h => by simp [mergeQL] at h
  | x :: l, y :: l', v, rs, h => by
      simp only [mergeQL] at h
      split at h
      case h_2 => cases h
      rename_i v1 r1 vs rs1 h1 h2
      cases h
      have p : VOK env n z cx1 cx2 x y v1 r1 := by
        cases hs : (x.same y && x.older n) with
        | true =>
          rw [hs, cond_true] at h1
          simp only [Bool.and_eq_true] at hs
          have := SV.same_eq hs.1
          subst this
          cases h1
          exact ⟨fun ρ V hr => by cases z <;> exact hr, hs.2, fun _ _ _ _ hm => by simp at hm⟩
        | false => rw [hs, cond_false] at h1; exact mergeV_ok hz h1
      obtain ⟨p1, _, p3⟩ := p
      obtain ⟨q1, q3⟩ := mergeQL_ok hz h2
      refine ⟨fun ρ V hr => ?_, fun hc e lo hi hm => ?_⟩
      · cases z with
        | true => obtain ⟨u, us', e1, e2, rfl⟩ := hr; exact ⟨u, us', p1 ρ u e1, q1 ρ us' e2, rfl⟩
        | false => obtain ⟨u, us', e1, e2, rfl⟩ := hr; exact ⟨u, us', p1 ρ u e1, q1 ρ us' e2, rfl⟩
      · rcases List.mem_append.1 hm with hm | hm
        · exact p3 hc e lo hi hm
        · exact q3 hc e lo hi hm

theorem mergeQB_ok {env : Env} {c : E} {cx1 cx2 : Ctx} {n : Nat} {z : Bool} (hz : z = (c.den env != 0)) : ∀ {a b m : List (Nat × List SV)} {rs : Rngs}, mergeQB c cx1 cx2 n a b = some (m, rs) →
    BlR env (bif z then a else b) m ∧ m.map (·.1) = (bif z then a else b).map (·.1) ∧ ((bif z then cx1 else cx2).ok env → ∀ x lo hi, (x, lo, hi) ∈ rs → lo ≤ x.den env ∧ x.den env ≤ hi)
  | [], [], m, rs, h => by
      simp only [mergeQB, Option.some.injEq, Prod.mk.injEq] at h
      obtain ⟨rfl, rfl⟩ := h
      exact ⟨fun d v hm => by simp at hm, by cases z <;> rfl, fun _ _ _ _ hm => by simp at hm⟩
  | [], _ :: _, m, rs, h => by simp [mergeQB] at h
  | _ :: _, [], m, rs, h => by simp [mergeQB] at h
  | (d, x) :: l, (d', y) :: l', m, rs, h => by
      simp only [mergeQB, beq_dec] at h
      by_cases hd : d = d'
      case neg => simp only [hd, decide_false, cond_false] at h; cases h
      subst hd
      simp only [decide_true, cond_true] at h
      split at h
      case h_2 => cases h
      rename_i v1 r1 m1 r2 h1 h2
      cases h
      obtain ⟨p1, p0, p2⟩ := mergeQB_ok hz h2
      obtain ⟨q1, q3⟩ := mergeQL_ok hz h1
      refine ⟨fun e v hm => ?_, ?_, fun hc e lo hi hm => ?_⟩
      · rcases List.mem_cons.1 hm with hm | hm
        · cases hm
          cases z with
          | true => exact ⟨x, by simp, q1⟩
          | false => exact ⟨y, by simp, q1⟩
        · obtain ⟨v0, h3, h4⟩ := p1 e v hm
          refine ⟨v0, ?_, h4⟩
          cases z with
          | true => exact List.mem_cons_of_mem _ h3
          | false => exact List.mem_cons_of_mem _ h3
      · simp only [List.map_cons, p0]
        cases z <;> rfl
      · rcases List.mem_append.1 hm with hm | hm
        · exact q3 hc e lo hi hm
        · exact p2 hc e lo hi hm

theorem leafB_ok {h0 h : T Blk} : ∀ {keys : List Nat} {bl : List (Nat × List SV)}, leafB h0 h keys = some bl → bl.map (·.1) = keys ∧ ∀ b l, (b, l) ∈ bl → ∃ l0 t, h0.get b = some (.cells l0 t) ∧ h.get b = some (.cells l t)
  | [], bl, hb => by cases hb; exact ⟨rfl, fun b l hm => by simp at hm⟩
  | k :: keys, bl, hb => by
      simp only [leafB] at hb
      split at hb
      case h_2 => cases hb
      rename_i l0 t x t' r h1 h2 h3
      simp only [beq_dec] at hb
      by_cases ht : t = t'
      case neg => simp only [ht, decide_false, cond_false] at hb; cases hb
      subst ht
      simp only [decide_true, cond_true] at hb
      cases hb
      obtain ⟨g1, g2⟩ := leafB_ok h3
      refine ⟨by simp [g1], fun b l hm => ?_⟩
      rcases List.mem_cons.1 hm with hm | hm
      · cases hm; exact ⟨l0, t, h1, h2⟩
      · exact g2 b l hm

theorem mergeC_ok {env : Env} {keep keys : List Nat} {n : Nat} {h0 : T Blk} {cx0 : Ctx} : ∀ {p : PT} {r : JR} {o : Out} {s1 : St}, mergeC keep keys n h0 cx0 p = some r → p.at env = some (o, s1) →
    r.bl.map (·.1) = keys ∧ ∃ tm1 cx1, o = .tms tm1 cx1 ∧ (cx0.ok env → cx1.ok env → r.cx.ok env) ∧ SlR env (leafS tm1 keep) r.sl ∧ ∃ bl, leafB h0 s1.h keys = some bl ∧ BlR env bl r.bl
  | .leaf (.tms tm cx) s, r, o, s1, hm, ha => by
      simp only [mergeC, Option.map_eq_some_iff] at hm
      obtain ⟨bl, h1, rfl⟩ := hm
      simp only [PT.at, Option.some.injEq, Prod.mk.injEq] at ha
      obtain ⟨rfl, rfl⟩ := ha
      exact ⟨(leafB_ok h1).1, tm, cx, rfl, fun _ h => h, fun d v hm => ⟨v, hm, fun _ _ h => h⟩, bl, h1, fun d v hm => ⟨v, hm, fun _ _ h => h⟩⟩
  | .leaf (.val _ _) s, r, o, s1, hm, ha => by simp [mergeC] at hm
  | .need _ _, r, o, s1, hm, ha => by simp [mergeC] at hm
  | .fail _, r, o, s1, hm, ha => by simp [mergeC] at hm
  | .ite c t e, r, o, s1, hm, ha => by
      simp only [mergeC] at hm
      split at hm
      case h_2 => cases hm
      rename_i a b h1 h2
      split at hm
      case h_2 => cases hm
      rename_i sl r1 bl r2 h3 h4
      cases hm
      have hz : (c.toE.den env != 0) = c.den env := by rw [toE_ok]; cases c.den env <;> rfl
      obtain ⟨p1, p2⟩ := mergeQS_ok (env := env) rfl h3
      obtain ⟨q1, q0, q2⟩ := mergeQB_ok (env := env) rfl h4
      rw [hz] at p1 p2 q1 q0 q2
      simp only [PT.at] at ha
      cases hc : c.den env with
      | true =>
        rw [if_pos hc] at ha
        rw [hc] at p1 p2 q1 q0 q2
        simp only [cond_true] at p1 p2 q1 q0 q2
        obtain ⟨k0, tm1, cx1, rfl, g1, g2, bl0, g3, g4⟩ := mergeC_ok h1 ha
        refine ⟨q0.trans k0, tm1, cx1, rfl, fun hc0 hc1 => addRs_ok hc0 fun x lo hi hm => ?_, g2.trans p1, bl0, g3, g4.trans q1⟩
        rcases List.mem_append.1 hm with hm | hm
        · exact p2 (g1 hc0 hc1) x lo hi hm
        · exact q2 (g1 hc0 hc1) x lo hi hm
      | false =>
        rw [if_neg (by rw [hc]; simp)] at ha
        rw [hc] at p1 p2 q1 q0 q2
        simp only [cond_false] at p1 p2 q1 q0 q2
        obtain ⟨k0, tm1, cx1, rfl, g1, g2, bl0, g3, g4⟩ := mergeC_ok h2 ha
        refine ⟨q0.trans k0, tm1, cx1, rfl, fun hc0 hc1 => addRs_ok hc0 fun x lo hi hm => ?_, g2.trans p1, bl0, g3, g4.trans q1⟩
        rcases List.mem_append.1 hm with hm | hm
        · exact p2 (g1 hc0 hc1) x lo hi hm
        · exact q2 (g1 hc0 hc1) x lo hi hm

theorem dedupN_mem {b : Nat} : ∀ {l : List Nat}, b ∈ dedupN l ↔ b ∈ l
  | [] => Iff.rfl
  | a :: l => by
      simp only [dedupN]
      cases ha : l.any (Nat.beq a) with
      | true =>
        simp only [cond_true, dedupN_mem (l := l), List.mem_cons]
        rw [List.any_eq_true] at ha
        obtain ⟨x, hx, he⟩ := ha
        have : a = x := Nat.eq_of_beq_eq_true he
        subst this
        constructor
        · exact fun h => .inr h
        · rintro (rfl | h)
          · exact hx
          · exact h
      | false => simp only [cond_false, List.mem_cons, dedupN_mem (l := l)]
theorem dedupN_nodup : ∀ (l : List Nat), (dedupN l).Nodup
  | [] => List.nodup_nil
  | a :: l => by
      simp only [dedupN]
      cases ha : l.any (Nat.beq a) with
      | true => simp only [cond_true]; exact dedupN_nodup l
      | false =>
        simp only [cond_false, List.nodup_cons]
        refine ⟨fun h => ?_, dedupN_nodup l⟩
        rw [dedupN_mem] at h
        have : l.any (Nat.beq a) = true := List.any_eq_true.2 ⟨a, h, Nat.beq_refl a⟩
        rw [ha] at this
        cases this
theorem wrs_at {env : Env} : ∀ {p : PT} {o : Out} {s : St}, p.at env = some (o, s) → ∀ b, b ∈ s.wr → b ∈ p.wrs
  | .leaf _ _, o, s, h, b, hb => by simp only [PT.at, Option.some.injEq, Prod.mk.injEq] at h; obtain ⟨_, rfl⟩ := h; exact hb
  | .ite c t e, o, s, h, b, hb => by
      simp only [PT.at] at h
      simp only [PT.wrs, List.mem_append]
      split at h
      · exact .inl (wrs_at h b hb)
      · exact .inr (wrs_at h b hb)
  | .need c t, o, s, h, b, hb => by
      simp only [PT.at] at h
      split at h
      · exact wrs_at (p := t) h b hb
      · cases h
  | .fail _, o, s, h, b, hb => by cases h

/-- the store with some blocks' cells set -/
def setCsS : List (Nat × List SV) → T Blk → T Blk
  | [], h => h
  | (b, l) :: r, h => match h.get b with
    | some (.cells _ ty) => setCsS r (h.set b (.cells l ty))
    | _ => setCsS r h
theorem setCsS_get : ∀ {bl : List (Nat × List SV)} {h : T Blk} {b : Nat}, (bl.map (·.1)).Nodup → (∀ b l, (b, l) ∈ bl → ∃ l0 t, h.get b = some (.cells l0 t)) →
    (b ∉ bl.map (·.1) → (setCsS bl h).get b = h.get b) ∧ ∀ l, (b, l) ∈ bl → ∃ l0 t, h.get b = some (.cells l0 t) ∧ (setCsS bl h).get b = some (.cells l t)
  | [], h, b, _, _ => ⟨fun _ => rfl, fun l hm => by simp at hm⟩
  | (d, x) :: r, h, b, hn, hc => by
      obtain ⟨l0, t, hd⟩ := hc d x (by simp)
      simp only [List.map_cons, List.nodup_cons] at hn
      have hstep : setCsS ((d, x) :: r) h = setCsS r (h.set d (.cells x t)) := by simp only [setCsS, hd]
      have hne : ∀ b' l, (b', l) ∈ r → b' ≠ d := by
        rintro b' l hm rfl
        exact hn.1 (List.mem_map.2 ⟨_, hm, rfl⟩)
      obtain ⟨g1, g2⟩ := setCsS_get (h := h.set d (.cells x t)) (b := b) hn.2 (fun b' l hm => by
        obtain ⟨l1, t1, e⟩ := hc b' l (by simp [hm])
        exact ⟨l1, t1, by rw [T.get_set, if_neg (hne b' l hm)]; exact e⟩)
      rw [hstep]
      refine ⟨fun hb => ?_, fun l hm => ?_⟩
      · simp only [List.map_cons, List.mem_cons, not_or] at hb
        rw [g1 hb.2, T.get_set, if_neg hb.1]
      · rcases List.mem_cons.1 hm with hm | hm
        · cases hm
          exact ⟨l0, t, hd, by rw [g1 hn.1, T.get_set, if_pos rfl]⟩
        · obtain ⟨l1, t1, e1, e2⟩ := g2 l hm
          rw [T.get_set, if_neg (hne b l hm)] at e1
          exact ⟨l1, t1, e1, e2⟩

theorem setCs_ok {env : Env} {t : Tree} {r : Out × St} : ∀ {bl : List (Nat × List SV)} {s : St}, runE env (setCs t bl) s = some r → ∃ s', s'.h = setCsS bl s.h ∧ runE env t s' = some r
  | [], s, h => ⟨s, rfl, h⟩
  | (b, l) :: q, s, h => by
      simp only [setCs] at h
      obtain ⟨blk, hg, hlt, h⟩ := runE_get h
      split at h
      · rename_i l0 ty
        obtain ⟨u, hu, _, h⟩ := runE_set h
        obtain ⟨s', h1, h2⟩ := setCs_ok h
        refine ⟨s', ?_, h2⟩
        rw [h1, St.put_h, St.touch_h]
        simp only [setCsS, hg]
      · exact (runE_fail h).elim

/-- the store behind a join that has turned cells -/
theorem HS.joinedW {env : Env} {ρ ρ' : Pl} {B : Nat} {h h' hn : T Blk} {w w' : World} (hle : ρ.le ρ') (h0 : HS env ρ B h w) (h1 : HS env ρ' B h' w')
    (hk : ∀ b v, h.get b = some v → (h'.get b = some v ∧ hn.get b = some v) ∨ ∃ l0 l1 l t, v = .cells l0 t ∧ h'.get b = some (.cells l1 t) ∧ hn.get b = some (.cells l t) ∧ ∀ cs, RepL env ρ' l1 cs → RepL env ρ l cs)
    (hd : ∀ b, h.get b = none → hn.get b = none) : HS env ρ B hn w' := by
  have back : ∀ b v, hn.get b = some v → ∃ v0, h.get b = some v0 := by
    intro b v hg
    cases hb : h.get b with
    | none => rw [hd b hb] at hg; cases hg
    | some v0 => exact ⟨v0, rfl⟩
  have solid : ∀ b o, Solid env o (hn.get b) → h.get b ≠ none → Solid env o (h.get b) := by
    intro b o hs hne
    cases hb : h.get b with
    | none => exact absurd hb hne
    | some v0 =>
      rcases hk b v0 hb with ⟨_, e⟩ | ⟨l0, l1, l, t, rfl, _, _, _⟩
      · rw [e] at hs; exact hs
      · exact Solid.of rfl
  refine ⟨fun b v hg => ?_, fun b p hp => ?_, fun b b' r o o' e e' hr hs hs' => ?_, h1.size, fun b v hg => ?_, h0.rows⟩
  · obtain ⟨v0, hb⟩ := back b v hg
    obtain ⟨r, o, e, hb0⟩ := h0.blk b v0 hb
    rcases hk b v0 hb with ⟨e1, e2⟩ | ⟨l0, l1, l, t, rfl, e1, e2, hl⟩
    · rw [hg] at e2
      cases e2
      obtain ⟨r', o', e', hb'⟩ := h1.blk b v e1
      rw [hle _ _ e] at e'
      cases e'
      exact ⟨r, o, e, fun hv => ⟨BS.back1 hle (hb0 hv).1 (hb' hv).1, (hb0 hv).2⟩⟩
    · rw [hg] at e2
      cases e2
      obtain ⟨r', o', e', hb'⟩ := h1.blk b _ e1
      rw [hle _ _ e] at e'
      cases e'
      refine ⟨r, o, e, fun _ => ⟨?_, fun _ => (hb0 rfl).2.1 rfl, fun hh => by cases hh⟩⟩
      obtain ⟨ho, cs, hrep, hob⟩ := (hb' rfl).1
      exact ⟨ho, cs, hl cs hrep, hob⟩
  · intro hnone
    have := h0.dom b p hp
    cases hb : h.get b with
    | none => exact this hb
    | some v0 =>
      rcases hk b v0 hb with ⟨_, e⟩ | ⟨_, _, _, _, _, _, e, _⟩ <;> rw [hnone] at e <;> cases e
  · exact h0.inj b b' r o o' e e' hr (solid b o hs (h0.dom b _ e)) (solid b' o' hs' (h0.dom b' _ e'))
  · obtain ⟨v0, hb⟩ := back b v hg
    rcases hk b v0 hb with ⟨e1, e2⟩ | ⟨l0, l1, l, t, rfl, e1, e2, hl⟩
    · rw [hg] at e2
      cases e2
      exact h0.wf b v hb
    · rw [hg] at e2
      cases e2
      trivial

theorem DfS.same {ρ ρ' : Pl} (hle : ρ.le ρ') : ∀ {df : List Nat} {a b : List Deferred}, DfS ρ df a → DfS ρ' df b → b = a
  | [], a, b, h, h' => by rw [show a = [] from h, show b = [] from h']
  | d :: l, a, b, h, h' => by
      obtain ⟨r, o, ds, e, h1, rfl⟩ := h
      obtain ⟨r', o', ds', e', h1', rfl⟩ := h'
      rw [hle _ _ e] at e'
      cases e'
      rw [DfS.same hle h1 h1']
theorem setSl_mem : ∀ {l : List (Nat × SV)} {d : Nat} {v : SV}, (setSl .nil l).get d = some v → (d, v) ∈ l
  | [], d, v, h => by cases h
  | (t, x) :: r, d, v, h => by
      simp only [setSl, T.get_set] at h
      split at h
      · rename_i e; cases h; subst e; simp
      · exact List.mem_cons_of_mem _ (setSl_mem h)

theorem mergeC_at {env : Env} {keep keys : List Nat} {n : Nat} {h0 : T Blk} {cx0 : Ctx} : ∀ {p : PT} {r : JR}, mergeC keep keys n h0 cx0 p = some r → ∃ o s, p.at env = some (o, s)
  | .leaf o s, r, h => ⟨o, s, rfl⟩
  | .need _ _, r, h => by simp [mergeC] at h
  | .fail _, r, h => by simp [mergeC] at h
  | .ite c t e, r, h => by
      simp only [mergeC] at h
      split at h
      case h_2 => cases h
      rename_i a b h1 h2
      simp only [PT.at]
      cases hc : c.den env
      · simpa using mergeC_at h2
      · simpa using mergeC_at h1

theorem condT_ok {P : Program} {env : Env} {B : Nat} {R : Run} (hF : FrOK P env B R) {F : FI} {keep : List Nat} {x y : Code} {k : List Item} {tm : T SV} {df : List Nat} {cx : Ctx} {K : Res → Tree} {b : BE} {s : St} {r : Out × St} {c : Operand}
    (h : runE env (condT R F keep x y k tm df cx K b) s = some r) (hc : cx.ok env) (ρ : Pl) (rd : Option Nat) (dfs : List Deferred) (tmps : Array Value) (w : World) (hrd : RdS ρ F.rd rd) (hd : DfS ρ df dfs) (ht : TS env ρ tm tmps) (hn : tmps.size = F.nt) (hs : HS env ρ B s.h w)
    (cs : List Frame) (tail : List Item) (hV : (actOf tmps).eval c = .bool (b.den env)) :
    ∃ j tm' df' cx' s' ρ' dfs' tmps' w' todo', runE env (K (.left j tm' df' cx')) s' = some r ∧ cx'.ok env ∧ ρ.le ρ' ∧ DfS ρ' df' dfs' ∧ TS env ρ' tm' tmps' ∧ tmps'.size = F.nt ∧ HS env ρ' B s'.h w' ∧ Below B w w' ∧
        Leaves tail j todo' ∧ Steps P (lone (mkF F.fn rd tmps dfs (.code (.cond c x y) :: (k ++ tail))) cs w) (lone (mkF F.fn rd tmps' dfs' todo') cs w') := by
  unfold condT at h
  split at h
  · rename_i v hv
    have hv' := resolveJ_ok hc hv
    have hcx : (tighten cx b v).ok env := tighten_ok hc hv'
    rw [← hv'] at h
    exact hF.via h (by rw [hv']; exact hcx) ρ.le_refl (Below.refl _ _) hrd hd ht hn hs (.one (st_cond hV))
  · obtain ⟨htop, h⟩ := runE_whole h
    split at h
    · rename_i q hq
      cases hkb : keep.all (Nat.blt · F.nt) with
      | false => rw [hkb, cond_false] at hq; cases hq
      | true =>
      rw [hkb, cond_true] at hq
      unfold joinC at hq
      split at hq
      case h_2 => cases hq
      rename_i q' hm
      generalize hp : run (branch cx b fun v cx => R (.fr F [.code (if v then x else y)] tm df cx) (leafJ df)) ⟨s.h, s.nx, s.nx, [], [], true⟩ = p at hm hq
      cases hb : (q'.sl.all (fun q => q.2.older s.nx) && (q'.bl.all (fun q => SV.olderL s.nx q.2) && noneIn s.h s.nx (p.last - s.nx))) with
      | false => rw [hb, cond_false] at hq; cases hq
      | true =>
        rw [hb, cond_true] at hq
        simp only [Option.some.injEq] at hq
        subst hq
        simp only [Bool.and_eq_true, List.all_eq_true] at hb
        obtain ⟨hb1, hb2, hb3⟩ := hb
        obtain ⟨s2, hs2, h⟩ := setCs_ok h
        -- the way that is gone
        have hclean : ∃ o s1, p.at env = some (o, s1) := mergeC_at hm
        obtain ⟨o, s1, hat⟩ := hclean
        have hrun : runE env (branch cx b fun v cx => R (.fr F [.code (if v then x else y)] tm df cx) (leafJ df)) ⟨s.h, s.nx, s.nx, [], [], true⟩ = some (o, s1) := by
          unfold runE; rw [hp]; exact hat
        obtain ⟨hkeys, tm1, cx1, rfl, hcxs, hsl, bl0, hbl0, hblr⟩ := mergeC_ok hm hat
        obtain ⟨cx2, hc2, hrun2⟩ := branch_ok hrun hc
        obtain ⟨j, tm', df', cx', s', ρ', dfs', tmps', w', todo', g1, g2, g3, g4, g5, g6, g7, g8, g9, g10⟩ := hF F _ tm df cx2 _ _ _ hrun2 hc2 ρ rd dfs tmps w hrd hd ht hn (by exact hs) cs (k ++ tail)
        have hgr : Grows ⟨s.h, s.nx, s.nx, [], [], true⟩ s1 := PT.all_at (growsP _ _) (by rw [hp]; exact hat)
        -- what the leaf says
        have hleaf : j = none ∧ df' = df ∧ tm' = tm1 ∧ cx' = cx1 ∧ s' = s1 := by
          cases j with
          | some c => exact (runE_fail g1).elim
          | none =>
            simp only [leafJ] at g1
            cases hdf : natsEq df df' with
            | false => rw [hdf, cond_false] at g1; exact (runE_fail g1).elim
            | true =>
              rw [hdf, cond_true] at g1
              simp only [runE, run, PT.at, Option.some.injEq, Prod.mk.injEq, Out.tms.injEq] at g1
              exact ⟨rfl, (natsEq_eq hdf).symm, g1.1.1, g1.1.2, g1.2⟩
        obtain ⟨rfl, rfl, rfl, rfl, rfl⟩ := hleaf
        have hdfs : dfs' = dfs := DfS.same g3 hd g4
        subst hdfs
        have htodo : todo' = k ++ tail := g9
        subst htodo
        have hkp : Keeps ⟨s.h, s.nx, s.nx, [], [], true⟩ s' := PT.all_at (keepsP _ _ (Nat.le_refl _)) (by rw [hp]; exact hat)
        have hlast := (PT.all_at (PT.all_mem p) hat).2
        have hbl1 := leafB_ok hbl0
        have hnd : (q'.bl.map (·.1)).Nodup := by
          rw [hkeys]
          exact (dedupN_nodup _).filter _
        have hin : ∀ b l, (b, l) ∈ q'.bl → ∃ l0 l1 t, s.h.get b = some (.cells l0 t) ∧ s'.h.get b = some (.cells l1 t) ∧ ∀ ρ V, RepL env ρ l1 V → RepL env ρ l V := by
          intro b l hm2
          obtain ⟨l1, h1, h2⟩ := hblr b l hm2
          obtain ⟨l0, t, h3, h4⟩ := hbl1.2 b l1 h1
          exact ⟨l0, l1, t, h3, h4, h2⟩
        have hgets : ∀ b, (b ∉ q'.bl.map (·.1) → (setCsS q'.bl s.h).get b = s.h.get b) ∧ ∀ l, (b, l) ∈ q'.bl → ∃ l0 t, s.h.get b = some (.cells l0 t) ∧ (setCsS q'.bl s.h).get b = some (.cells l t) := fun b =>
          setCsS_get hnd (fun b l hm2 => let ⟨l0, _, t, e, _⟩ := hin b l hm2; ⟨l0, t, e⟩)
        have hsame : ∀ b, b ∉ q'.bl.map (·.1) → (b < s.nx ∨ s'.nx ≤ b) → s'.h.get b = s.h.get b := by
          intro b hb4 hb5
          by_cases hb6 : b < s.nx
          · refine hkp b (fun hw => hb4 ?_) (.inl hb6)
            rw [hkeys, List.mem_filter]
            refine ⟨dedupN_mem.2 (wrs_at hat b hw), ?_⟩
            simpa only [blt_dec, decide_eq_true_eq] using hb6
          · have hlow := hgr
            refine hkp b (fun hw => ?_) (hb5.elim (fun h => .inl h) .inr)
            rcases hlow.sub b hw with h1 | h1
            · simp at h1
            · rcases hlow.low b h1 with h2 | h2
              · simp at h2
              · exact hb6 h2
        have hdown : ∀ b, b < s.nx → ∀ p, ρ' b = some p → ρ b = some p := by
          intro b hb4 p0 hp0
          have h2 := g7.dom b p0 hp0
          cases hg : s.h.get b with
          | none =>
            exfalso
            by_cases hmem : b ∈ q'.bl.map (·.1)
            · obtain ⟨⟨b', l⟩, hm2, rfl⟩ := List.mem_map.1 hmem
              obtain ⟨l0, l1, t, e, _⟩ := hin _ l hm2
              rw [hg] at e
              cases e
            · rw [hsame b hmem (.inl hb4), hg] at h2
              exact h2 rfl
          | some v =>
            obtain ⟨r0, o0, e, _⟩ := hs.blk b v hg
            rw [g3 _ _ e] at hp0
            rw [e, hp0]
        have hnew : HS env ρ B (setCsS q'.bl s.h) w' := by
          refine HS.joinedW g3 hs g7 (fun b v hg => ?_) (fun b hg => ?_)
          · by_cases hmem : b ∈ q'.bl.map (·.1)
            · obtain ⟨⟨b', l⟩, hm2, rfl⟩ := List.mem_map.1 hmem
              obtain ⟨l0, l1, t, e, e1, e2⟩ := hin _ l hm2
              obtain ⟨l0', t', e3, e4⟩ := (hgets _).2 l hm2
              rw [e] at e3
              cases e3
              rw [e] at hg
              cases hg
              refine .inr ⟨l0, l1, l, t, rfl, e1, e4, fun cs hr => ?_⟩
              exact RepL.down hdown (hb2 _ hm2) (e2 ρ' cs hr)
            · refine .inl ⟨?_, by rw [(hgets b).1 hmem]; exact hg⟩
              have : b < s.nx ∨ s'.nx ≤ b := by
                by_cases hb4 : b < s.nx
                · exact .inl hb4
                · refine .inr (Nat.le_of_not_lt fun hlt => ?_)
                  rw [noneIn_ok hb3 (Nat.le_of_not_lt hb4) (by omega)] at hg
                  cases hg
              rw [hsame b hmem this]
              exact hg
          · by_cases hmem : b ∈ q'.bl.map (·.1)
            · obtain ⟨⟨b', l⟩, hm2, rfl⟩ := List.mem_map.1 hmem
              obtain ⟨l0, l1, t, e, _⟩ := hin _ l hm2
              rw [hg] at e
              cases e
            · rw [(hgets b).1 hmem]; exact hg
        have hts : TS env ρ (setSl .nil q'.sl) tmps' := by
          intro d v hdv
          have hm2 := setSl_mem hdv
          obtain ⟨v0, h1, h2⟩ := hsl d v hm2
          unfold leafS at h1
          obtain ⟨d', hd', e⟩ := List.mem_map.1 h1
          cases e
          have hold := hb1 _ hm2
          cases hg : tm'.get d with
          | none =>
            rw [hg] at h2
            by_cases hsz : d < tmps'.size
            · exact ⟨tmps'[d], by simp [hsz], Rep.down hdown hold (h2 ρ' _ trivial)⟩
            · exfalso
              have := List.all_eq_true.1 hkb d hd'
              rw [blt_dec, decide_eq_true_eq] at this
              omega
          | some v1 =>
            rw [hg] at h2
            obtain ⟨V, hV, hr⟩ := g5 d v1 hg
            exact ⟨V, hV, Rep.down hdown hold (h2 ρ' V hr)⟩
        exact hF.via h (hcxs hc g2) ρ.le_refl g8 hrd hd hts g6 (by rw [hs2]; exact hnew) (.head (st_cond hV) g10)
    · obtain ⟨cx', hc', h⟩ := branch_ok h hc
      exact hF.via h hc' ρ.le_refl (Below.refl _ _) hrd hd ht hn hs (.one (st_cond hV))
end Go.SX
