/- Rows that go round in loops: their names are given anew at each head. -/
import Derived.Test.YtjgkcgkhcdeadaaSw11
namespace Go.SX
open Go Go.RowKit
set_option linter.unusedVariables false
set_option linter.unusedSimpArgs false
set_option linter.unusedSectionVars false

structure RowE where
  sig : List (Option IntKind)
  ty : TypeId
  c : E
  n : E
abbrev rowBlk (p : RowE) : Blk := .vec p.sig p.c p.n p.ty
def RowP.e (p : RowP) : RowE := ⟨p.sig, p.ty, .var p.c, .var p.n⟩
def RowP.out (σ : Nat → E) (base : Nat) (p : RowP) : RowE := ⟨p.sig, p.ty, σ (p.c - base), σ (p.n - base)⟩
def setRe (nx : Nat) : List RowE → T Blk → T Blk
  | [], h => h
  | p :: r, h => setRe (nx + 1) r (h.set nx (rowBlk p))
theorem setRw_e : ∀ {rows : List RowP} {nx : Nat} {h : T Blk}, setRw nx rows h = setRe nx (rows.map RowP.e) h
  | [], nx, h => rfl
  | p :: rows, nx, h => by simp only [setRw, List.map_cons, setRe]; exact setRw_e

/-- a place of a row: the object and the capacity; no object at all if both are 0 -/
def RowObj (env : Env) (w : World) (B : Nat) (p : RowE) (r c : Nat) : Prop :=
  VecOK env p.sig p.c p.n ∧ ((rowBlk p).void env c = false → BS env (fun _ => none) (w.heap[r]?) c (rowBlk p) ∧ B ≤ r)
def RowsOK (env : Env) (w : World) (B : Nat) : (Nat → Prop) → List RowE → List (Nat × Nat) → Prop
  | _, [], ps => ps = []
  | F, p :: rows, ps => ∃ r c ps', ps = (r, c) :: ps' ∧ RowObj env w B p r c ∧ ((rowBlk p).void env c = false → F r) ∧ RowsOK env w B (fun q => F q ∧ ((rowBlk p).void env c = false → q ≠ r)) rows ps'
theorem RowsOK.mono {env : Env} {w : World} {B : Nat} : ∀ {rows : List RowE} {ps : List (Nat × Nat)} {F G : Nat → Prop}, (∀ q, B ≤ q → F q → G q) → RowsOK env w B F rows ps → RowsOK env w B G rows ps
  | [], ps, F, G, h, hr => hr
  | p :: rows, ps, F, G, h, hr => by
      obtain ⟨r, c, ps', rfl, h1, h2, h3⟩ := hr
      exact ⟨r, c, ps', rfl, h1, fun hv => h r (h1.2 hv).2 (h2 hv), RowsOK.mono (fun q hq hf => ⟨h q hq hf.1, hf.2⟩) h3⟩
def plRw : Nat → List (Nat × Nat) → Pl → Pl
  | _, [], ρ => ρ
  | nx, p :: ps, ρ => plRw (nx + 1) ps (ρ.upd nx p.1 p.2)

theorem HS.addRow {env : Env} {ρ : Pl} {B : Nat} {h : T Blk} {w : World} (hs : HS env ρ B h w) {n : Nat} (hn : h.get n = none) {p : RowE} {r c : Nat} (ho : RowObj env w B p r c)
    (hd : (rowBlk p).void env c = false → ∀ b o, ρ b = some (r, o) → ¬ Solid env o (h.get b)) : HS env (ρ.upd n r c) B (h.set n (rowBlk p)) w := by
  have hle := hs.fresh hn r c
  refine ⟨?_, ?_, ?_, hs.size, ?_, hs.rows⟩
  · intro b u hbu
    rw [T.get_set] at hbu
    split at hbu
    · rename_i hbn
      subst hbn
      cases hbu
      exact ⟨r, c, by simp [Pl.upd], fun hv => ⟨(ho.2 hv).1, fun _ => (ho.2 hv).2, fun e => by cases e⟩⟩
    · obtain ⟨r', o, e, h1⟩ := hs.blk b u hbu
      exact ⟨r', o, hle _ _ e, fun hu => ⟨(h1 hu).1.mono hle, (h1 hu).2⟩⟩
  · intro b q e
    rw [T.get_set]
    split
    · simp
    · rename_i hbn
      simp only [Pl.upd, hbn, if_false] at e
      exact hs.dom b q e
  · intro b b' r1 o o' e e' hr hd1 hd2
    rw [T.get_set] at hd1 hd2
    simp only [Pl.upd] at e e'
    split at e <;> split at e'
    · omega
    · rename_i h1 h2
      cases e
      rw [if_pos h1] at hd1
      rw [if_neg h2] at hd2
      exact (hd hd1.void b' _ e' hd2).elim
    · rename_i h1 h2
      cases e'
      rw [if_pos h2] at hd2
      rw [if_neg h1] at hd1
      exact (hd hd2.void b _ e hd1).elim
    · rename_i h1 h2
      rw [if_neg h1] at hd1
      rw [if_neg h2] at hd2
      exact hs.inj b b' r1 o o' e e' hr hd1 hd2
  · intro b u hbu
    rw [T.get_set] at hbu
    split at hbu
    · cases hbu; exact ho.1
    · exact hs.wf b u hbu

theorem plRw_low {ps : List (Nat × Nat)} : ∀ {nx : Nat} {ρ : Pl} {b : Nat}, b < nx → plRw nx ps ρ b = ρ b := by
  induction ps with
  | nil => intros; rfl
  | cons p ps ih =>
    intro nx ρ b hb
    simp only [plRw]
    rw [ih (by omega)]
    simp [Pl.upd, show ¬ b = nx by omega]
theorem plRw_at {ps : List (Nat × Nat)} : ∀ {nx i : Nat} {ρ : Pl} {q : Nat × Nat}, ps[i]? = some q → plRw nx ps ρ (nx + i) = some q := by
  induction ps with
  | nil => intro nx i ρ q h; simp at h
  | cons p ps ih =>
    intro nx i ρ q h
    simp only [plRw]
    cases i with
    | zero =>
      simp at h
      subst h
      rw [plRw_low (by omega)]
      simp [Pl.upd]
    | succ i => rw [show nx + (i + 1) = nx + 1 + i by omega]; exact ih (by simpa using h)

/-- rows behind a store -/
theorem HS.addRows {env : Env} {B : Nat} {w : World} : ∀ {rows : List RowE} {ps : List (Nat × Nat)} {F : Nat → Prop} {nx : Nat} {ρ : Pl} {h : T Blk}, HS env ρ B h w → (∀ b, nx ≤ b → h.get b = none) →
    RowsOK env w B F rows ps → (∀ q, F q → B ≤ q → ∀ b o, ρ b = some (q, o) → ¬ Solid env o (h.get b)) → HS env (plRw nx ps ρ) B (setRe nx rows h) w ∧ ρ.le (plRw nx ps ρ)
  | [], ps, F, nx, ρ, h, hs, hn, hr, hF => by
      rw [show ps = [] from hr]
      exact ⟨hs, Pl.le_refl _⟩
  | p :: rows, ps, F, nx, ρ, h, hs, hn, hr, hF => by
      obtain ⟨r, c, ps', rfl, h1, h2, h3⟩ := hr
      have hs1 := hs.addRow (hn nx (Nat.le_refl _)) h1 (fun hv => hF r (h2 hv) (h1.2 hv).2)
      have hle := hs.fresh (hn nx (Nat.le_refl _)) r c
      obtain ⟨g1, g2⟩ := HS.addRows (nx := nx + 1) hs1 (fun b hb => by rw [T.get_set, if_neg (by omega)]; exact hn b (by omega)) h3 (fun q hq hB b o e hd => by
        rw [T.get_set] at hd
        simp only [Pl.upd] at e
        split at e
        · rename_i hb
          cases e
          rw [if_pos hb] at hd
          exact hq.2 hd.void rfl
        · rename_i hb
          rw [if_neg hb] at hd
          exact hF q hq.1 hB b o e hd)
      exact ⟨g1, Pl.le_trans hle g2⟩

theorem setRw_low : ∀ {rows : List RowP} {nx : Nat} {h : T Blk} {b : Nat}, b < nx → (setRw nx rows h).get b = h.get b
  | [], nx, h, b, hb => rfl
  | p :: rows, nx, h, b, hb => by
      simp only [setRw]
      rw [setRw_low (by omega), T.get_set, if_neg (by omega)]

theorem killL_get : ∀ {bs : List Nat} {h : T Blk} {b : Nat}, (killL bs h).get b = if b ∈ bs then some .dead else h.get b
  | [], h, b => by simp [killL]
  | c :: bs, h, b => by
      simp only [killL, T.get_set, killL_get (bs := bs)]
      by_cases hb : b = c
      · simp [hb]
      · simp [hb]
theorem HS.killL {env : Env} {ρ : Pl} {B : Nat} {w : World} : ∀ {bs : List Nat} {h : T Blk}, HS env ρ B h w → (∀ b, b ∈ bs → h.get b ≠ none) → HS env ρ B (killL bs h) w
  | [], h, hs, hb => hs
  | c :: bs, h, hs, hb => by
      have h1 := HS.killL (bs := bs) hs (fun b hm => hb b (by simp [hm]))
      cases hc : (Go.SX.killL bs h).get c with
      | none =>
        rw [killL_get] at hc
        split at hc
        · cases hc
        · exact absurd hc (hb c (by simp))
      | some v => exact h1.kill hc

/-! ### what is found in the slots -/

theorem rowAt_ok {env env' : Env} {ρ : Pl} {B : Nat} {h : T Blk} {w : World} (hs : HS env ρ B h w) {tm : T SV} {tmps : Array Value} (ht : TS env ρ tm tmps) {p : RowP} {b : Option Nat} {code N : E}
    (hr : rowAt tm h p = some (b, code, N)) (hc : env'.v p.c = code.den env) (hN : env'.v p.n = N.den env) :
    ∃ r c, RowObj env' w B p.e r c ∧ (∀ b', b = some b' → ρ b' = some (r, c) ∧ (∃ n, h.get b' = some (.vec p.sig code n p.ty) ∧ n.den env = N.den env)) ∧ (b = none → (rowBlk p.e).void env' c = true) ∧
      ∃ V, tmps[p.t]? = some V ∧ ∀ ρ2 nb, ρ2 nb = some (r, c) → Rep env' ρ2 (.vg nb (.var p.n)) V := by
  have hE : p.e.n.den env' = N.den env := hN
  have hE2 : (E.var p.n).den env' = N.den env := hN
  have hC : p.e.c.den env' = code.den env := hc
  unfold rowAt at hr
  split at hr
  · rename_i b0 N0 hg
    split at hr
    · rename_i sig code' N' ty hb
      split at hr
      · rename_i hcond
        obtain ⟨h1, h2, h3⟩ := hcond
        have hNN := E.same_eq h3
        simp only [Option.some.injEq, Prod.mk.injEq] at hr
        obtain ⟨hb0, hcd, hN'⟩ := hr
        rw [hNN, hN'] at hg
        rw [hN', hcd, h1, h2] at hb
        subst hb0
        obtain ⟨r, c, e, hbl⟩ := hs.blk b0 _ hb
        have hw : VecOK env p.sig code N := hs.wf b0 _ hb
        obtain ⟨V, hV, hrep⟩ := ht _ _ hg
        have hvd : (rowBlk p.e).void env' c = (Blk.vec p.sig code N p.ty).void env c := by simp only [Blk.void, hE]
        refine ⟨r, c, ⟨?_, fun hv => ?_⟩, ?_, ?_, V, hV, ?_⟩
        · unfold VecOK at hw ⊢
          rw [hE, hC]
          exact hw
        · rw [hvd] at hv
          obtain ⟨hbs, hown, _⟩ := hbl hv
          refine ⟨?_, hown rfl⟩
          obtain ⟨cur, q1, q2, q3, q4⟩ := hbs
          refine ⟨cur, q1, q2, ?_, ?_⟩
          · rw [hE]; exact q3
          · rw [hE, hC]; exact q4
        · intro b' hb'
          cases hb'
          exact ⟨e, N, hb, rfl⟩
        · intro hb'; cases hb'
        · intro ρ2 nb h2
          obtain ⟨r0, c0, e0, k1, k2, k3, k4⟩ := hrep
          rw [e] at e0
          cases e0
          refine ⟨r, c, h2, ?_, ?_, k3, ?_⟩
          · rw [hE2]; exact k1
          · rw [hE2]; exact k2
          · rw [hE2]; exact k4
      · cases hr
    · cases hr
  · rename_i hg
    split at hr
    · rename_i hl
      cases hr
      obtain ⟨V, hV, hrep⟩ := ht _ _ hg
      obtain ⟨A, c0, hA, hcap, _, hVe⟩ := hrep
      have hA' : A = none := hA
      have hc0 : c0 = 0 := by simpa [RepC, E.den] using hcap
      have hz : (E.app 1000 []).den env = enc [] := by
        show env.f 1000 [] = _
        rw [hs.rows 1000 [] (by omega) (by omega)]
        exact rowOp_lit []
      refine ⟨0, 0, ⟨?_, fun hv => ?_⟩, ?_, ?_, V, hV, ?_⟩
      · refine ⟨?_, hl, ?_, ?_⟩
        · rw [hE]; simp [E.den]
        · rw [hE, hC, hz]; simp [E.den, dec_enc]
        · intro i j kd hi
          rw [hE] at hi
          simp [E.den] at hi
          omega
      · exfalso
        simp only [Blk.void, hE] at hv
        simp [E.den] at hv
      · intro b' hb'; cases hb'
      · intro _
        simp only [Blk.void, hE]
        simp [E.den]
      · intro ρ2 nb h2
        subst hA' hc0
        refine ⟨0, 0, h2, ?_, ?_, ?_, ?_⟩
        · rw [hE2]; simp [E.den]
        · rw [hE2]; simp [E.den]
        · intro _; exact ⟨none, by rw [hVe]; simp [E.den]⟩
        · intro h; exact absurd rfl h
    · cases hr
  · cases hr

theorem addRn_ok {n0 : Nat} {b : Option Nat} {bs bs' : List Nat} (h : addRn n0 b bs = some bs') : (b = none ∧ bs' = bs) ∨ ∃ b0, b = some b0 ∧ bs' = b0 :: bs ∧ n0 ≤ b0 ∧ b0 ∉ bs := by
  unfold addRn at h
  split at h
  · cases h; exact .inl ⟨rfl, rfl⟩
  · rename_i b0
    cases hb : (Nat.ble n0 b0 && !(bs.any fun c => Nat.beq b0 c)) with
    | false => rw [hb, cond_false] at h; cases h
    | true =>
      rw [hb, cond_true] at h
      cases h
      simp only [Bool.and_eq_true, Nat.ble_eq, Bool.not_eq_true', List.any_eq_false] at hb
      refine .inr ⟨b0, rfl, rfl, hb.1, fun hm => ?_⟩
      have := hb.2 b0 hm
      simp at this

theorem matchR_ok {env env' : Env} {ρ : Pl} {B : Nat} {h : T Blk} {w : World} (hs : HS env ρ B h w) {tm : T SV} {tmps : Array Value} (ht : TS env ρ tm tmps) {n0 : Nat} : ∀ {rows : List RowP} {l l' : Asg} {bs : List Nat},
    matchR n0 tm h rows l = some (l', bs) → Asg.le l l' ∧ (∀ b, b ∈ bs → n0 ≤ b ∧ h.get b ≠ none) ∧ (AsgOK env env' l' → ∃ ps, RowsOK env' w B (fun q => ∀ b o, b ∉ bs → ρ b = some (q, o) → ¬ Solid env o (h.get b)) (rows.map RowP.e) ps ∧
      ∀ (i : Nat) (p : RowP), rows[i]? = some p → ∃ V q, tmps[p.t]? = some V ∧ ps[i]? = some q ∧ ∀ ρ2 nb, ρ2 nb = some q → Rep env' ρ2 (.vg nb (.var p.n)) V)
  | [], l, l', bs, hm => by
      cases hm
      exact ⟨Asg.le_refl _, by simp, fun _ => ⟨[], rfl, fun i p hp => by simp at hp⟩⟩
  | p :: rows, l, l', bs, hm => by
      simp only [matchR] at hm
      split at hm
      case h_2 => cases hm
      rename_i b code N hra
      split at hm
      case h_2 => cases hm
      rename_i l1 h1
      split at hm
      case h_2 => cases hm
      rename_i l2 h2
      split at hm
      case h_2 => cases hm
      rename_i l3 bs3 h3
      rw [Option.map_eq_some_iff] at hm
      obtain ⟨bs', hab, e⟩ := hm
      cases e
      obtain ⟨a1, a2⟩ := putA_ok h1
      obtain ⟨b1, b2⟩ := putA_ok h2
      obtain ⟨c1, c2, c3⟩ := matchR_ok hs ht h3
      refine ⟨Asg.le_trans a1 (Asg.le_trans b1 c1), ?_, fun hA => ?_⟩
      · rcases addRn_ok hab with ⟨_, rfl⟩ | ⟨b0, rfl, rfl, hn, _⟩
        · exact c2
        · intro b hbm
          rcases List.mem_cons.1 hbm with rfl | hbm
          · refine ⟨hn, ?_⟩
            obtain ⟨r, c, _, q2, _⟩ := rowAt_ok (env' := ⟨fun i => if i = p.c then code.den env else N.den env, env.f⟩) hs ht hra (by simp) (by
              simp only
              split
              · rename_i he
                have k1 := b2
                rw [he] at k1
                have k2 := b1 _ _ a2
                rw [k1] at k2
                cases k2
                rfl
              · rfl)
            obtain ⟨_, n, e, _⟩ := q2 b rfl
            rw [e]
            simp
          · exact c2 b hbm
      · obtain ⟨ps, r1, r2⟩ := c3 hA
        have k1 : env'.v p.c = code.den env := hA _ _ (c1 _ _ (b1 _ _ a2))
        have k2 : env'.v p.n = N.den env := hA _ _ (c1 _ _ b2)
        obtain ⟨r, c, q1, q2, q3, V, q4, q5⟩ := rowAt_ok (env' := env') hs ht hra k1 k2
        have hvn : ∀ n, n.den env = N.den env → (Blk.vec p.sig code n p.ty).void env c = (rowBlk p.e).void env' c := by
          intro n gn
          simp only [RowP.e, Blk.void, gn]
          show _ = (c == 0 && env'.v p.n == 0)
          rw [k2]
        refine ⟨(r, c) :: ps, ⟨r, c, ps, rfl, q1, ?_, ?_⟩, ?_⟩
        · intro hv b' o hb' hρ hsol
          rcases addRn_ok hab with ⟨hb0, _⟩ | ⟨b0, hb0, rfl, hn, hnb⟩
          · rw [q3 hb0] at hv; cases hv
          · obtain ⟨e0, n, g0, gn⟩ := q2 b0 hb0
            have := hs.inj b' b0 r o c hρ e0 (q1.2 hv).2 hsol (by rw [g0]; exact Solid.of (by rw [hvn n gn]; exact hv))
            subst this
            exact hb' (by simp)
        · rcases addRn_ok hab with ⟨hb0, rfl⟩ | ⟨b0, hb0, rfl, hn, hnb⟩
          · exact r1.mono (fun q _ hf => ⟨hf, fun hv => by rw [q3 hb0] at hv; cases hv⟩)
          · obtain ⟨e0, n, g0, gn⟩ := q2 b0 hb0
            refine r1.mono (fun q hq hf => ⟨fun b' o hb' => hf b' o (fun hm => hb' (by simp [hm])), fun hv he => ?_⟩)
            subst he
            refine hf b0 c hnb e0 ?_
            rw [g0]
            exact Solid.of (by rw [hvn n gn]; exact hv)
        · intro i p' hp
          cases i with
          | zero =>
            simp at hp
            subst hp
            exact ⟨V, (r, c), q4, by simp, q5⟩
          | succ i =>
            obtain ⟨V', q', v1, v2, v3⟩ := r2 i p' (by simpa using hp)
            exact ⟨V', q', v1, by simpa using v2, v3⟩

theorem RowsOK.congr {env env' : Env} {w : World} {B : Nat} {f g : RowP → RowE} : ∀ {rows : List RowP} {ps : List (Nat × Nat)} {F : Nat → Prop},
    (∀ p, p ∈ rows → (g p).sig = (f p).sig ∧ (g p).ty = (f p).ty ∧ (g p).c.den env' = (f p).c.den env ∧ (g p).n.den env' = (f p).n.den env) → RowsOK env w B F (rows.map f) ps → RowsOK env' w B F (rows.map g) ps
  | [], ps, F, h, hr => hr
  | p :: rows, ps, F, h, hr => by
      obtain ⟨r, c, ps', rfl, h1, h2, h3⟩ := hr
      obtain ⟨e1, e2, e3, e4⟩ := h p (by simp)
      have hv : (rowBlk (g p)).void env' c = (rowBlk (f p)).void env c := by simp only [Blk.void, e4]
      refine ⟨r, c, ps', rfl, ⟨?_, fun hvd => ?_⟩, fun hvd => h2 (by rw [← hv]; exact hvd), ?_⟩
      · have := h1.1
        unfold VecOK at this ⊢
        rw [e1, e3, e4]
        exact this
      · rw [hv] at hvd
        obtain ⟨⟨cur, q1, q2, q3, q4⟩, hB⟩ := h1.2 hvd
        refine ⟨⟨cur, ?_, ?_, ?_, ?_⟩, hB⟩
        · rw [e2]; exact q1
        · rw [e1]; exact q2
        · rw [e4]; exact q3
        · rw [e1, e3, e4]; exact q4
      · refine RowsOK.congr (fun p' hp => h p' (by simp [hp])) (h3.mono fun q _ hf => ⟨hf.1, fun hvd => hf.2 (by rw [← hv]; exact hvd)⟩)

theorem rowSl_mem : ∀ {rows : List RowP} {nx t : Nat} {s : SV}, (t, s) ∈ rowSl nx rows → ∃ i p, rows[i]? = some p ∧ t = p.t ∧ s = .vg (nx + i) (.var p.n)
  | [], nx, t, s, h => by simp [rowSl] at h
  | p :: rows, nx, t, s, h => by
      simp only [rowSl, List.mem_cons] at h
      rcases h with h | h
      · cases h; exact ⟨0, p, rfl, rfl, rfl⟩
      · obtain ⟨i, p', h1, h2, h3⟩ := rowSl_mem h
        exact ⟨i + 1, p', by simpa using h1, h2, by rw [h3, show nx + 1 + i = nx + (i + 1) by omega]⟩
theorem rowOut_mem {σ : Nat → E} {base : Nat} : ∀ {rows : List RowP} {nx t : Nat} {s : SV}, (t, s) ∈ rowOut σ base nx rows → ∃ i p, rows[i]? = some p ∧ t = p.t ∧ s = .vg (nx + i) (σ (p.n - base))
  | [], nx, t, s, h => by simp [rowOut] at h
  | p :: rows, nx, t, s, h => by
      simp only [rowOut, List.mem_cons] at h
      rcases h with h | h
      · cases h; exact ⟨0, p, rfl, rfl, rfl⟩
      · obtain ⟨i, p', h1, h2, h3⟩ := rowOut_mem h
        exact ⟨i + 1, p', by simpa using h1, h2, by rw [h3, show nx + 1 + i = nx + (i + 1) by omega]⟩
end Go.SX
