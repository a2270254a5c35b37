/- Loops: a body that is checked goes round as its numbers do. -/
import Derived.Test.YtjgkcgkhcdeadaaSw31
namespace Go.SX
open Go Go.RowKit
set_option linter.unusedVariables false
set_option linter.unusedSimpArgs false
set_option linter.unusedSectionVars false

theorem setSl_get {tm : T SV} : ∀ {r : List (Nat × SV)} {t : Nat} {s : SV}, (setSl tm r).get t = some s → (t, s) ∈ r ∨ (tm.get t = some s ∧ ∀ p, p ∈ r → p.1 ≠ t)
  | [], t, s, h => .inr ⟨h, by simp⟩
  | (u, v) :: r, t, s, h => by
      simp only [setSl, T.get_set] at h
      split at h
      · rename_i htu; subst htu; cases h; exact .inl (by simp)
      · rename_i htu
        rcases setSl_get h with h | ⟨h, h2⟩
        · exact .inl (by simp [h])
        · refine .inr ⟨h, fun p hp => ?_⟩
          rcases List.mem_cons.1 hp with rfl | hp
          · exact fun e => htu e.symm
          · exact h2 p hp
theorem keepT_get {tm : T SV} : ∀ {l : List Nat} {t : Nat} {s : SV}, (keepT tm l).get t = some s → t ∈ l ∧ tm.get t = some s
  | [], t, s, h => by cases h
  | u :: l, t, s, h => by
      simp only [keepT] at h
      split at h
      · rename_i v hv
        rw [T.get_set] at h
        split at h
        · rename_i htu; subst htu; cases h; exact ⟨by simp, hv⟩
        · obtain ⟨h1, h2⟩ := keepT_get h; exact ⟨by simp [h1], h2⟩
      · obtain ⟨h1, h2⟩ := keepT_get h; exact ⟨by simp [h1], h2⟩
theorem keepT_has {tm : T SV} : ∀ {l : List Nat} {t : Nat} {s : SV}, t ∈ l → tm.get t = some s → (keepT tm l).get t = some s
  | [], t, s, hm, h => by simp at hm
  | u :: l, t, s, hm, h => by
      simp only [keepT]
      by_cases htu : t = u
      · subst htu; rw [h]; simp [T.get_set]
      · have := keepT_has (l := l) ((List.mem_cons.1 hm).resolve_left htu) h
        split
        · rw [T.get_set, if_neg htu]; exact this
        · exact this
theorem setSl_other {tm : T SV} : ∀ {r : List (Nat × SV)} {t : Nat}, (∀ p, p ∈ r → p.1 ≠ t) → (setSl tm r).get t = tm.get t
  | [], t, h => rfl
  | (u, v) :: r, t, h => by
      simp only [setSl, T.get_set]
      rw [if_neg (fun e => h (u, v) (by simp) e.symm)]
      exact setSl_other (fun p hp => h p (by simp [hp]))

theorem setBl_get {h : T Blk} : ∀ {r : List (Nat × List SV)} {b : Nat} {v : Blk}, (∀ b l, (b, l) ∈ r → ∃ us t, h.get b = some (.cells us t)) → (setBl h r).get b = some v →
    (∃ l us t, (b, l) ∈ r ∧ v = .cells l t ∧ h.get b = some (.cells us t)) ∨ (h.get b = some v ∧ ∀ p, p ∈ r → p.1 ≠ b)
  | [], b, v, hc, hg => .inr ⟨hg, by simp⟩
  | (c, l) :: r, b, v, hc, hg => by
      obtain ⟨us, t, hu⟩ := hc c l (by simp)
      simp only [setBl, hu, T.get_set] at hg
      split at hg
      · rename_i hbc; subst hbc; cases hg; exact .inl ⟨l, us, t, by simp, rfl, hu⟩
      · rename_i hbc
        rcases setBl_get (fun b l hm => hc b l (by simp [hm])) hg with ⟨l', us', t', h1, h2, h3⟩ | ⟨h1, h2⟩
        · exact .inl ⟨l', us', t', by simp [h1], h2, h3⟩
        · refine .inr ⟨h1, fun p hp => ?_⟩
          rcases List.mem_cons.1 hp with rfl | hp
          · exact fun e => hbc e.symm
          · exact h2 p hp
theorem setBl_dom {h : T Blk} : ∀ {r : List (Nat × List SV)} {b : Nat}, (h.get b ≠ none) → (setBl h r).get b ≠ none
  | [], b, hd => hd
  | (c, l) :: r, b, hd => by
      simp only [setBl]
      split
      · rw [T.get_set]
        split
        · simp
        · exact setBl_dom hd
      · exact setBl_dom hd
theorem setBl_other {h : T Blk} : ∀ {r : List (Nat × List SV)} {b : Nat}, (∀ p, p ∈ r → p.1 ≠ b) → (setBl h r).get b = h.get b
  | [], b, hb => rfl
  | (c, l) :: r, b, hb => by
      simp only [setBl]
      split
      · rw [T.get_set, if_neg (fun e => hb (c, l) (by simp) e.symm)]
        exact setBl_other (fun p hp => hb p (by simp [hp]))
      · exact setBl_other (fun p hp => hb p (by simp [hp]))

theorem under_lt {α : Type} {m : Nat} : ∀ {t : T α} {a c : Nat}, T.under m t a c = true → ∀ {n : Nat} {x : α}, t.get n = some x → a * n + c < m
  | .nil, a, c, h, n, x, hg => by cases hg
  | .node l v r, a, c, h, n, x, hg => by
      simp only [T.under, Bool.and_eq_true, Bool.or_eq_true] at h
      simp only [T.get, beq_dec] at hg
      by_cases h0 : n = 0
      · subst h0
        simp only [decide_true, cond_true] at hg
        rcases h.1.1 with h1 | h1
        · rw [hg] at h1; cases h1
        · have := blt_lt h1; omega
      · by_cases h1 : n % 2 = 1
        · simp only [h0, h1, decide_true, decide_false, cond_true, cond_false] at hg
          have := under_lt h.1.2 hg
          have e : n = 2 * (n / 2) + 1 := by omega
          rw [e, Nat.mul_add, ← Nat.mul_assoc, Nat.mul_comm a 2]
          omega
        · simp only [h0, h1, decide_true, decide_false, cond_true, cond_false] at hg
          have := under_lt h.2 hg
          have e : n = 2 * (n / 2 - 1) + 2 := by omega
          rw [e, Nat.mul_add, ← Nat.mul_assoc, Nat.mul_comm a 2]
          omega

theorem natsEq_eq : ∀ {a b : List Nat}, natsEq a b = true → a = b
  | [], b, h => by cases b <;> first | rfl | cases h
  | x :: a, b, h => by
      cases b with
      | nil => cases h
      | cons y b =>
        simp only [natsEq, Bool.and_eq_true, beq_dec, decide_eq_true_eq] at h
        rw [h.1, natsEq_eq h.2]

theorem unInts_map : ∀ es : List E, unInts (es.map (.int .i64 ·)) = some es
  | [] => rfl
  | e :: es => by simp [unInts, unInts_map es]
theorem decL_encL (c : Nat) (es : List E) : decL (encL c es) = some (c, es) := by
  simp [decL, encL, unInts_map]

theorem allLow_at {n : Nat} {h : T Blk} : ∀ {m b : Nat} {v : Blk}, allLow n h m = true → b < m → h.get b = some v → v.low n = true
  | 0, b, v, ha, hb, hg => by omega
  | m + 1, b, v, ha, hb, hg => by
      simp only [allLow, Bool.and_eq_true] at ha
      by_cases hbm : b = m
      · subst hbm; have := ha.1; rw [hg] at this; exact this
      · exact allLow_at ha.2 (by omega) hg

theorem DfS.det {ρ ρ' : Pl} (h : ρ.le ρ') : ∀ {df : List Nat} {a b : List Deferred}, DfS ρ df a → DfS ρ' df b → b = a
  | [], a, b, ha, hb => by rw [show a = [] from ha, show b = [] from hb]
  | d :: l, a, b, ha, hb => by
      obtain ⟨r, o, ds, e, h1, rfl⟩ := ha
      obtain ⟨r', o', ds', e', h2, rfl⟩ := hb
      rw [h _ _ e] at e'
      cases e'
      rw [DfS.det h h1 h2]

theorem jumpIs_eq {c d : Code} (h : jumpIs c d = true) : c = d := by
  cases c <;> cases d <;> simp only [jumpIs] at h <;> first
    | rfl
    | (cases h; done)
    | (simp only [beq_dec, decide_eq_true_eq] at h; rw [h])

/-- the way that an exit was found -/
def ExitAt (L : LC) (n0 : Nat) (tm : T SV) (h0 h : T Blk) (c : Code) (x : XS) (l : Asg) : Prop :=
  jumpIs c x.jump = true ∧ ∃ l1 l2 bs, matchT L.base tm x.slots [] = some l1 ∧ matchB L.base h0 h x.blks l1 = some l2 ∧ matchR n0 tm h x.rows l2 = some (l, bs) ∧ asgIn L.base x.n l = true

theorem exitK_ok {env : Env} {L : LC} {n0 : Nat} {tm : T SV} {h0 h : T Blk} {c : Code} {cx : Ctx} {s : St} {r : Out × St} : ∀ {xs : List XS} {j : Nat}, runE env (exitK L n0 tm h0 h c cx j xs) s = some r →
    ∃ i x l, xs[i]? = some x ∧ ExitAt L n0 tm h0 h c x l ∧ r = (.val (encL (j + i + 1) (asgL l L.base x.n)) cx, s)
  | [], j, hr => (runE_fail hr).elim
  | x :: xs, j, hr => by
      have next : runE env (exitK L n0 tm h0 h c cx (j + 1) xs) s = some r → ∃ i x' l, (x :: xs)[i]? = some x' ∧ ExitAt L n0 tm h0 h c x' l ∧ r = (.val (encL (j + i + 1) (asgL l L.base x'.n)) cx, s) := by
        intro hr
        obtain ⟨i, x', l, h1, h2, h3⟩ := exitK_ok hr
        exact ⟨i + 1, x', l, by simpa using h1, h2, by rw [h3, show j + 1 + i + 1 = j + (i + 1) + 1 by omega]⟩
      simp only [exitK] at hr
      cases hj : jumpIs c x.jump with
      | false => rw [hj, cond_false] at hr; exact next hr
      | true =>
        rw [hj, cond_true] at hr
        split at hr
        · rename_i l1 h1
          split at hr
          · rename_i l2 h2
            split at hr
            · rename_i l bs h3
              cases ha : asgIn L.base x.n l with
              | false => rw [ha, cond_false] at hr; exact (runE_fail hr).elim
              | true =>
                rw [ha, cond_true] at hr
                simp only [runE, run, PT.at, Option.some.injEq] at hr
                exact ⟨0, x, l, rfl, ⟨hj, l1, l2, bs, h1, h2, h3, ha⟩, hr.symm⟩
            · exact next hr
          · exact next hr
        · exact next hr

theorem leafLoop_ok {env : Env} {L : LC} {n0 : Nat} {tm0 tm : T SV} {h0 : T Blk} {df0 df : List Nat} {j : Option Code} {cx : Ctx} {s : St} {r : Out × St} (h : runE env (leafLoop L n0 tm0 h0 df0 j tm df cx) s = some r) :
    df0 = df ∧ keepSame tm0 tm L.keep = true ∧ (∀ b, b ∈ s.wr → n0 ≤ b ∨ b ∈ namesOf L.blks) ∧
      ((j = none ∧ ∃ l1 l2 l bs, matchT L.base tm L.slots [] = some l1 ∧ matchB L.base h0 s.h L.blks l1 = some l2 ∧ matchR n0 tm s.h L.rows l2 = some (l, bs) ∧ asgIn L.base L.n l = true ∧ r = (.val (encL 0 (asgL l L.base L.n)) cx, s)) ∨
       (∃ c i x l, j = some c ∧ L.exits[i]? = some x ∧ ExitAt L n0 tm h0 s.h c x l ∧ r = (.val (encL (i + 1) (asgL l L.base x.n)) cx, s))) := by
  unfold leafLoop at h
  obtain ⟨_, h⟩ := runE_whole h
  cases hk : (natsEq df0 df && keepSame tm0 tm L.keep && s.wr.all (fun b => Nat.ble n0 b || L.blks.any fun p => Nat.beq b p.1)) with
  | false => rw [hk, cond_false] at h; exact (runE_fail h).elim
  | true =>
    rw [hk, cond_true] at h
    simp only [Bool.and_eq_true, List.all_eq_true, Bool.or_eq_true, List.any_eq_true, Nat.ble_eq] at hk
    refine ⟨natsEq_eq hk.1.1, hk.1.2, ?_, ?_⟩
    · intro b hb
      rcases hk.2 b hb with hn | ⟨p, hp, e⟩
      · exact .inl hn
      · rw [beq_dec, decide_eq_true_eq] at e
        exact .inr (List.mem_map.2 ⟨p, hp, e.symm⟩)
    · split at h
      · split at h
        · rename_i l1 h1
          split at h
          · rename_i l2 h2
            split at h
            · rename_i l bs h3
              cases ha : asgIn L.base L.n l with
              | false => rw [ha, cond_false] at h; exact (runE_fail h).elim
              | true =>
                rw [ha, cond_true] at h
                simp only [runE, run, PT.at, Option.some.injEq] at h
                exact .inl ⟨rfl, l1, l2, l, bs, h1, h2, h3, ha, h.symm⟩
            · exact (runE_fail h).elim
          · exact (runE_fail h).elim
        · exact (runE_fail h).elim
      · obtain ⟨i, x, l, g1, g2, g3⟩ := exitK_ok h
        exact .inr ⟨_, i, x, l, rfl, g1, g2, by simpa using g3⟩

theorem headB_ok {env : Env} : ∀ {rs : List (Int × Int)} {base : Nat}, (∀ i lo hi, rs[i]? = some (lo, hi) → lo ≤ env.v (base + i) ∧ env.v (base + i) ≤ hi) → ∀ e lo hi, (e, lo, hi) ∈ headB base rs → lo ≤ e.den env ∧ e.den env ≤ hi
  | [], base, h, e, lo, hi, hm => by simp [headB] at hm
  | (a, b) :: rs, base, h, e, lo, hi, hm => by
      simp only [headB, List.mem_cons] at hm
      rcases hm with hm | hm
      · cases hm; exact h 0 a b rfl
      · exact headB_ok (base := base + 1) (fun i lo hi hi' => by have := h (i + 1) lo hi (by simpa using hi'); rwa [show base + (i + 1) = base + 1 + i by omega] at this) e lo hi hm

theorem headCx_ok {env : Env} {L : LC} {cx : Ctx} {xs : List Int} (hc : cx.ok env) (hh : HeadOK env L xs) : (headCx L cx).ok (env.upd L.base xs) := by
  have ha := Env.agree env L.base xs
  refine assumeAll_ok ⟨?_, ?_⟩ hh.2
  · intro e lo hi hm
    simp only [Ctx.lows, List.mem_append, List.mem_filter] at hm
    rcases hm with hm | ⟨hm, hl⟩
    · exact headB_ok hh.1 e lo hi hm
    · rw [E.low_den ha hl]; exact hc.b _ _ _ hm
  · intro b v hm
    simp only [Ctx.lows, List.mem_filter] at hm
    obtain ⟨hm, hl⟩ := hm
    rw [BE.low_den ha hl]; exact hc.k _ _ hm

section
variable {P : Program} {B : Nat} {R : Run}

structure LoopHyp (P : Program) (B : Nat) (R : Run) (env : Env) (L : LC) (F : FI) (body : Code) (tm : T SV) (df : List Nat) (cx : Ctx) (h0 : T Blk) (nx : Nat) (ρ : Pl) : Prop where
  fr : ∀ xs, FrOK P (env.upd L.base xs) B R
  plain : L.plain = true
  kl : keepLow L.base tm L.keep = true
  al : allLow L.base h0 nx = true
  un : ∀ b v, h0.get b = some v → b < nx
  cells : ∀ b l, (b, l) ∈ L.blks → ∃ us t, h0.get b = some (.cells us t)
  ct : toCT (loopRun R L F body tm df cx h0 nx) = L.ct
  cx : cx.ok env
  kr : ∀ t v, t ∈ L.keep → tm.get t = some v → ∃ V, Rep env ρ v V

/-- the memory behind an exit -/
structure HeapX (env : Env) (L : LC) (h0 : T Blk) (ρ : Pl) (B : Nat) (x : XS) (ys : List Int) (w' : World) : Prop where
  size : B ≤ w'.heap.size
  old : ∀ b v, h0.get b = some v → b ∉ namesOf L.blks → ∃ r o, ρ b = some (r, o) ∧ (v.void env o = false → BS env ρ (w'.heap[r]?) o v)
  new : ∀ b l, (b, l) ∈ x.blks → ∃ r o us t, ρ b = some (r, o) ∧ h0.get b = some (.cells us t) ∧ BS (env.upd L.base ys) ρ (w'.heap[r]?) o (.cells l t)

theorem plain_slots {L : LC} (h : L.plain = true) : (∀ nx t, t ∈ L.keep → ∀ p, p ∈ headSl L nx → p.1 ≠ t) ∧ (∀ p, p ∈ L.slots → p.2.plain = true) ∧ (∀ p, p ∈ L.blks → SV.plainL p.2 = true) ∧
    (∀ x, x ∈ L.exits → (∀ p, p ∈ x.slots → p.2.plain = true ∧ p.2.low (L.base + x.n) = true) ∧ (∀ p, p ∈ x.blks → SV.plainL p.2 = true ∧ SV.lowL (L.base + x.n) p.2 = true) ∧ namesOf L.blks = namesOf x.blks) ∧
    ∀ x, x ∈ L.exits → ∀ p, p ∈ x.rows → L.base ≤ p.c ∧ p.c < L.base + x.n ∧ L.base ≤ p.n ∧ p.n < L.base + x.n := by
  simp only [LC.plain, Bool.and_eq_true, List.all_eq_true, Bool.not_eq_true', List.any_eq_false, Nat.ble_eq] at h
  obtain ⟨h, g⟩ := h
  refine ⟨?_, h.1.1.2, h.1.2, ?_, ?_⟩
  · intro nx t ht p hp e
    unfold headSl at hp
    rcases List.mem_append.1 hp with hp | hp
    · have := h.1.1.1 t ht p hp
      rw [beq_dec, e] at this
      simp at this
    · obtain ⟨i, q, hq, e1, e2⟩ := rowSl_mem (t := p.1) (s := p.2) hp
      have := g.1.1 t ht q (List.mem_of_getElem? hq)
      rw [beq_dec, ← e1, e] at this
      simp at this
  · intro x hx
    have := h.2 x hx
    exact ⟨this.1.1, this.1.2, natsEq_eq this.2⟩
  · intro x hx p hp
    have := g.2 x hx p hp
    exact ⟨this.1.1.1, blt_lt this.1.1.2, this.1.2, blt_lt this.2⟩

theorem loop_runs {env : Env} {L : LC} {F : FI} {body : Code} {tm : T SV} {df : List Nat} {cx : Ctx} {h0 : T Blk} {nx : Nat} {ρ : Pl} {rd : Option Nat} {dfs : List Deferred}
    (H : LoopHyp P B R env L F body tm df cx h0 nx ρ) (hrd : RdS ρ F.rd rd) (hd : DfS ρ df dfs) {xs : List Int} {j : Nat} {ys : List Int} (hr : Runs env L xs j ys) :
    ∀ (ρk : Pl) (tmps : Array Value) (w : World), ρ.le ρk → TS (env.upd L.base xs) ρk (setSl (keepT tm L.keep) (headSl L nx)) tmps → tmps.size = F.nt → HS (env.upd L.base xs) ρ B (setBl h0 L.blks) w →
      HS (env.upd L.base xs) ρk B (setRw nx L.rows (setBl h0 L.blks)) w → ∀ cs kt,
      ∃ x tmps' w' todo' ps, L.exits[j]? = some x ∧ tmps'.size = F.nt ∧ (∀ t p, (t, p) ∈ x.slots → ∃ V, tmps'[t]? = some V ∧ Rep (env.upd L.base ys) ρ p V) ∧
        (∀ t v, t ∈ L.keep → tm.get t = some v → ∃ V, tmps'[t]? = some V ∧ Rep env ρ v V) ∧ HeapX env L h0 ρ B x ys w' ∧ Leaves (.inLoop body :: kt) (some x.jump) todo' ∧ Below B w w' ∧
        Steps P (lone (mkF F.fn rd tmps dfs (.code body :: .inLoop body :: kt)) cs w) (lone (mkF F.fn rd tmps' dfs todo') cs w') ∧
        RowsOK (env.upd L.base ys) w' B (fun q => ∀ b o, ρ b = some (q, o) → ¬ Solid env o (h0.get b)) (x.rows.map RowP.e) ps ∧
        ∀ (i : Nat) (p : RowP), x.rows[i]? = some p → ∃ V q, tmps'[p.t]? = some V ∧ ps[i]? = some q ∧ ∀ ρ2 nb, ρ2 nb = some q → Rep (env.upd L.base ys) ρ2 (.vg nb (.var p.n)) V := by
  obtain ⟨pk, ps, pb, px, pr⟩ := plain_slots H.plain
  have lowNx : ∀ b, h0.get b ≠ none → b < nx := by
    intro b hb
    cases hg : h0.get b with
    | none => exact absurd hg hb
    | some v => have := H.un _ _ hg; omega
  -- one round
  have round : ∀ (xs : List Int) (c : Nat) (zs : List Int), HeadOK env L xs → L.ct.ev (env.upd L.base xs) = some (c, zs) → ∀ (ρk : Pl) (tmps : Array Value) (w : World), ρ.le ρk → TS (env.upd L.base xs) ρk (setSl (keepT tm L.keep) (headSl L nx)) tmps → tmps.size = F.nt →
      HS (env.upd L.base xs) ρk B (setRw nx L.rows (setBl h0 L.blks)) w → ∀ (cs : List Frame) (kt : List Item), ∃ (j0 : Option Code) (tm' : T SV) (s2 : St) (ρ' : Pl) (tmps' : Array Value) (w' : World) (todo' : List Item) (l1 l2 l : Asg) (bs : List Nat), ρk.le ρ' ∧ tmps'.size = F.nt ∧ TS (env.upd L.base xs) ρ' tm' tmps' ∧ HS (env.upd L.base xs) ρ' B s2.h w' ∧ Below B w w' ∧
        Leaves (.inLoop body :: kt) j0 todo' ∧ Steps P (lone (mkF F.fn rd tmps dfs (.code body :: .inLoop body :: kt)) cs w) (lone (mkF F.fn rd tmps' dfs todo') cs w') ∧
        keepSame (setSl (keepT tm L.keep) (headSl L nx)) tm' L.keep = true ∧ (∀ b, b ∉ namesOf L.blks → (setBl h0 L.blks).get b ≠ none → s2.h.get b = (setBl h0 L.blks).get b) ∧
        ((c = 0 ∧ j0 = none ∧ matchT L.base tm' L.slots [] = some l1 ∧ matchB L.base h0 s2.h L.blks l1 = some l2 ∧ matchR nx tm' s2.h L.rows l2 = some (l, bs) ∧ asgIn L.base L.n l = true ∧ zs = denL (env.upd L.base xs) (asgL l L.base L.n)) ∨
         (∃ i x, c = i + 1 ∧ L.exits[i]? = some x ∧ j0 = some x.jump ∧ matchT L.base tm' x.slots [] = some l1 ∧ matchB L.base h0 s2.h x.blks l1 = some l2 ∧ matchR nx tm' s2.h x.rows l2 = some (l, bs) ∧ asgIn L.base x.n l = true ∧ zs = denL (env.upd L.base xs) (asgL l L.base x.n))) := by
    intro xs c zs hh hev ρk tmps w hle ht hn hs cs kt
    rw [← H.ct] at hev
    unfold loopRun at hev
    obtain ⟨v, cx1, s1, es, hat, hdec, hzs⟩ := toCT_at hev
    obtain ⟨j0, tm', df', cx2, s2, ρ', dfs', tmps', w', todo', g1, g2, g3, g4, g5, g6, g7, g8, g9, g10⟩ := H.fr xs F [.code body] _ df _ _ _ _ hat (headCx_ok H.cx hh) ρk rd dfs tmps w (hrd.mono hle) (hd.mono hle) ht hn hs cs (.inLoop body :: kt)
    obtain ⟨q1, q2, q3, q4⟩ := leafLoop_ok g1
    subst q1
    rw [(hd.mono hle).det g3 g4] at g10
    have hkeep : ∀ b, b ∉ namesOf L.blks → (setBl h0 L.blks).get b ≠ none → s2.h.get b = (setBl h0 L.blks).get b := by
      intro b hb hne
      have hlt : b < nx := by
        refine lowNx b ?_
        rw [setBl_other (fun p hp e => hb (List.mem_map.2 ⟨p, hp, e⟩))] at hne
        exact hne
      have hs12 : s1 = s2 := by
        rcases q4 with ⟨_, l1, l2, l, bs, _, _, _, _, e⟩ | ⟨c, i, x, l, _, _, _, e⟩ <;> cases e <;> rfl
      have := keeps _ hat b (by rw [hs12]; exact fun hm => by rcases q3 b hm with h | h; exact absurd hlt (by omega); exact hb h) (.inl (by show b < nx + L.rows.length; omega)) (Nat.le_refl _)
      rw [hs12] at this
      exact this.trans (setRw_low (rows := L.rows) hlt)
    rcases q4 with ⟨rfl, l1, l2, l, bs, m1, m2, mr, m3, e⟩ | ⟨c', i, x, l, rfl, m0, ⟨mj, l1, l2, bs, m1, m2, mr, m3⟩, e⟩
    · cases e
      rw [decL_encL] at hdec
      cases hdec
      exact ⟨none, tm', s1, ρ', tmps', w', todo', l1, l2, l, bs, g3, g6, g5, g7, g8, g9, g10, q2, hkeep, .inl ⟨rfl, rfl, m1, m2, mr, m3, hzs.symm⟩⟩
    · cases e
      rw [decL_encL] at hdec
      cases hdec
      rw [jumpIs_eq mj] at g9
      exact ⟨some x.jump, tm', s1, ρ', tmps', w', todo', l1, l2, l, bs, g3, g6, g5, g7, g8, g9, g10, q2, hkeep, .inr ⟨i, x, rfl, m0, rfl, m1, m2, mr, m3, hzs.symm⟩⟩
  -- what is kept over a round
  have keepR : ∀ (xs : List Int) (tm' : T SV) (ρ' : Pl) (tmps' : Array Value), ρ.le ρ' → TS (env.upd L.base xs) ρ' tm' tmps' →
      keepSame (setSl (keepT tm L.keep) (headSl L nx)) tm' L.keep = true → ∀ t v, t ∈ L.keep → tm.get t = some v → ∃ V, tmps'[t]? = some V ∧ ∀ env2, Agree L.base env env2 → Rep env2 ρ v V := by
    intro xs tm' ρ' tmps' hle ht' hk t v hm hv
    have hI : (setSl (keepT tm L.keep) (headSl L nx)).get t = some v := by
      rw [setSl_other (pk nx t hm)]
      exact keepT_has hm hv
    simp only [keepSame, List.all_eq_true] at hk
    have h1 := hk t hm
    rw [hI] at h1
    simp only at h1
    cases hg : tm'.get t with
    | none => rw [hg] at h1; cases h1
    | some v' =>
      rw [hg] at h1
      have := SV.same_eq h1
      subst this
      obtain ⟨V, hV, hr⟩ := ht' t v hg
      obtain ⟨V0, hr0⟩ := H.kr t v hm hv
      have hl : v.low L.base = true := by
        have := H.kl
        simp only [keepLow, List.all_eq_true] at this
        have := this t hm
        rw [hv] at this
        exact this
      refine ⟨V, hV, fun env2 ha => ?_⟩
      have ag : Agree L.base (env.upd L.base xs) env2 := ⟨ha.1, fun i hi => by rw [ha.2 i hi]; simp [Env.upd, hi]⟩
      exact Rep.back hle hr0 (Rep.low ag hl hr)
  -- blocks that stay
  have oldB : ∀ (xs : List Int) (w w' : World) (ρ' : Pl) (s2 : St), ρ.le ρ' → HS (env.upd L.base xs) ρ B (setBl h0 L.blks) w → HS (env.upd L.base xs) ρ' B s2.h w' →
      (∀ b, b ∉ namesOf L.blks → (setBl h0 L.blks).get b ≠ none → s2.h.get b = (setBl h0 L.blks).get b) → ∀ b v, h0.get b = some v → b ∉ namesOf L.blks →
        ∃ r o, ρ b = some (r, o) ∧ ∀ env2, Agree L.base env env2 → v.void env2 o = false → BS env2 ρ (w'.heap[r]?) o v := by
    intro xs w w' ρ' s2 hle hs hs' hk b v hg hb
    have e0 : (setBl h0 L.blks).get b = some v := by
      rw [setBl_other (fun p hp e => hb (List.mem_map.2 ⟨p, hp, e⟩))]; exact hg
    have e1 := hk b hb (by rw [e0]; simp)
    rw [e0] at e1
    obtain ⟨r0, o0, f0, b0⟩ := hs.blk b v e0
    obtain ⟨r1, o1, f1, b1⟩ := hs'.blk b v e1
    rw [hle _ _ f0] at f1
    cases f1
    have hl : v.low L.base = true := allLow_at H.al (by have := H.un _ _ hg; omega) hg
    refine ⟨r0, o0, f0, fun env2 ha hv2 => ?_⟩
    have ag : Agree L.base (env.upd L.base xs) env2 := ⟨ha.1, fun i hi => by rw [ha.2 i hi]; simp [Env.upd, hi]⟩
    have hv1 : v.void (env.upd L.base xs) o0 = false := by rw [← Blk.low_void ag o0 hl]; exact hv2
    exact BS.back hle hl (b0 hv1).1 (BS.low ag hl (b1 hv1).1)
  -- blocks that the loop turns
  have newB : ∀ (xs zs : List Int) (w w' : World) (ρ' : Pl) (s2 : St) (bl : List (Nat × List SV)) (l1 l2 l : Asg) (m : Nat), ρ.le ρ' → HS (env.upd L.base xs) ρ B (setBl h0 L.blks) w → HS (env.upd L.base xs) ρ' B s2.h w' →
      matchB L.base h0 s2.h bl l1 = some l2 → Asg.le l2 l → asgIn L.base m l = true → zs = denL (env.upd L.base xs) (asgL l L.base m) → (∀ p, p ∈ bl → SV.plainL p.2 = true) →
      ∀ b p, (b, p) ∈ bl → (setBl h0 L.blks).get b ≠ none → ∃ r o us t, ρ b = some (r, o) ∧ h0.get b = some (.cells us t) ∧ BS (env.upd L.base zs) ρ (w'.heap[r]?) o (.cells p t) := by
    intro xs zs w w' ρ' s2 bl l1 l2 l m hle hs hs' hm hll hin hz hp b p hb hne
    have hA := asg_upd (env := env.upd L.base xs) hin
    rw [← hz, Env.upd_upd] at hA
    have ag : Agree L.base (env.upd L.base xs) (env.upd L.base zs) := ⟨rfl, fun i hi => by simp [Env.upd, hi]⟩
    obtain ⟨us, vs, ty, e0, e1, e2⟩ := (matchB_ok ag hm).2 (hA.mono hll) b p hb
    obtain ⟨r1, o1, f1, b1, _⟩ := hs'.at b _ e1 (fun _ => rfl)
    cases hI : (setBl h0 L.blks).get b with
    | none => exact absurd hI hne
    | some v =>
      obtain ⟨r0, o0, f0, _⟩ := hs.blk b v hI
      rw [hle _ _ f0] at f1
      cases f1
      obtain ⟨ho, cs, hr, hob⟩ := b1
      exact ⟨_, _, us, ty, f0, e0, ho, cs, RepL.plain (hp _ hb) (e2 ρ' cs hr), hob⟩
  -- rows
  have solidLow : ∀ (zs : List Int) b o, Solid (env.upd L.base zs) o ((setBl h0 L.blks).get b) → Solid env o (h0.get b) := by
    intro zs b o hb
    by_cases hbn : ∀ p, p ∈ L.blks → p.1 ≠ b
    · rw [setBl_other hbn] at hb
      cases hg : h0.get b with
      | none => exact fun v e => by cases e
      | some v =>
        rw [hg] at hb
        have hl : v.low L.base = true := allLow_at H.al (lowNx b (by rw [hg]; simp)) hg
        have ag : Agree L.base env (env.upd L.base zs) := Env.agree env L.base zs
        exact Solid.of ((Blk.low_void ag o hl).symm.trans hb.void)
    · obtain ⟨p, hp, e⟩ : ∃ p, p ∈ L.blks ∧ p.1 = b := Classical.byContradiction fun hc => hbn fun p hp e => hc ⟨p, hp, e⟩
      obtain ⟨us, t, hu⟩ := H.cells p.1 p.2 hp
      rw [← e, hu]
      exact Solid.of rfl
  have rowsR : ∀ (xs zs : List Int) (w w' : World) (ρ' : Pl) (tm' : T SV) (tmps' : Array Value) (s2 : St) (bl : List (Nat × List SV)) (rows : List RowP) (l1 l2 l : Asg) (bs : List Nat) (m : Nat), ρ.le ρ' → HS (env.upd L.base xs) ρ B (setBl h0 L.blks) w → HS (env.upd L.base xs) ρ' B s2.h w' → TS (env.upd L.base xs) ρ' tm' tmps' →
      (∀ b, b ∉ namesOf L.blks → (setBl h0 L.blks).get b ≠ none → s2.h.get b = (setBl h0 L.blks).get b) →
      matchB L.base h0 s2.h bl l1 = some l2 → namesOf L.blks = namesOf bl → matchR nx tm' s2.h rows l2 = some (l, bs) → asgIn L.base m l = true → zs = denL (env.upd L.base xs) (asgL l L.base m) →
      ∃ ps, RowsOK (env.upd L.base zs) w' B (fun q => ∀ b o, ρ b = some (q, o) → ¬ Solid env o (h0.get b)) (rows.map RowP.e) ps ∧
        ∀ (i : Nat) (p : RowP), rows[i]? = some p → ∃ V q, tmps'[p.t]? = some V ∧ ps[i]? = some q ∧ ∀ ρ2 nb, ρ2 nb = some q → Rep (env.upd L.base zs) ρ2 (.vg nb (.var p.n)) V := by
    intro xs zs w w' ρ' tm' tmps' s2 bl rows l1 l2 l bs m hle hsb hs' ht' hk hmb hnm hmr hin hz
    have hA := asg_upd (env := env.upd L.base xs) hin
    rw [← hz, Env.upd_upd] at hA
    have ag : Agree L.base (env.upd L.base xs) (env.upd L.base zs) := ⟨rfl, fun i hi => by simp [Env.upd, hi]⟩
    obtain ⟨le1, hbs, hrows⟩ := matchR_ok (env' := env.upd L.base zs) hs' ht' hmr
    obtain ⟨ps, r1, r2⟩ := hrows hA
    refine ⟨ps, r1.mono (fun q hq hf b o hρ hsol => ?_), r2⟩
    have hdom := hsb.dom b _ hρ
    have h0dom : h0.get b ≠ none := by
      intro h
      by_cases hbn : ∀ p, p ∈ L.blks → p.1 ≠ b
      · rw [setBl_other hbn] at hdom; exact hdom h
      · obtain ⟨p, hp, e⟩ : ∃ p, p ∈ L.blks ∧ p.1 = b := Classical.byContradiction fun hc => hbn fun p hp e => hc ⟨p, hp, e⟩
        obtain ⟨us, t, hu⟩ := H.cells p.1 p.2 hp
        rw [← e, hu] at h
        cases h
    have hlt := lowNx b h0dom
    refine hf b o (fun hm => by have := (hbs b hm).1; omega) (hle _ _ hρ) ?_
    by_cases hbn : b ∈ namesOf L.blks
    · rw [hnm] at hbn
      obtain ⟨⟨b', p⟩, hp, rfl⟩ := List.mem_map.1 hbn
      obtain ⟨us, vs, ty, e0, e1, _⟩ := (matchB_ok ag hmb).2 (hA.mono le1) b' p hp
      rw [e1]
      exact Solid.of rfl
    · rw [hk b hbn hdom, setBl_other (fun p hp e => hbn (List.mem_map.2 ⟨p, hp, e⟩))]
      cases hg : h0.get b with
      | none => exact absurd hg h0dom
      | some v =>
        rw [hg] at hsol
        have hl : v.low L.base = true := allLow_at H.al hlt hg
        exact Solid.of ((Blk.low_void (Env.agree env L.base xs) o hl).trans hsol.void)
  induction hr with
  | @exit xs j ys hh hev =>
    intro ρk tmps w hlek ht hn hs hsk cs kt
    obtain ⟨j0, tm', s2, ρ', tmps', w', todo', l1, l2, l, bs, g1, g2, g3, g4, g5, g6, g7, g8, g9, g10⟩ := round xs _ ys hh hev ρk tmps w hlek ht hn hsk cs kt
    have hle := Pl.le_trans hlek g1
    rcases g10 with ⟨hc, _⟩ | ⟨i, x, hc, hx, rfl, m1, m2, mr, m3, hz⟩
    · cases hc
    · cases hc
      obtain ⟨px1, px2, px3⟩ := px x (List.mem_of_getElem? hx)
      have leR := (matchR_ok (env' := env.upd L.base ys) g4 g3 mr).1
      have hA := asg_upd (env := env.upd L.base xs) m3
      rw [← hz, Env.upd_upd] at hA
      have ag : Agree L.base (env.upd L.base xs) (env.upd L.base ys) := ⟨rfl, fun i hi => by simp [Env.upd, hi]⟩
      obtain ⟨qs, r1, r2⟩ := rowsR xs ys w w' ρ' tm' tmps' s2 x.blks x.rows l1 l2 l bs x.n hle hs g4 g3 g9 m2 px3 mr m3 hz
      refine ⟨x, tmps', w', todo', qs, hx, g2, ?_, ?_, ⟨g4.size, ?_, ?_⟩, g6, g5, g7, r1, r2⟩
      · intro t p hp
        have le2 := (matchB_ok ag m2).1
        obtain ⟨V, hV, hr⟩ := (matchT_ok ag m1).2 ((hA.mono leR).mono le2) ρ' tmps' g3 t p hp
        exact ⟨V, hV, Rep.plain (px1 _ hp).1 hr⟩
      · intro t v hm hv
        obtain ⟨V, hV, hr⟩ := keepR xs tm' ρ' tmps' hle g3 g8 t v hm hv
        exact ⟨V, hV, hr env ⟨rfl, fun _ _ => rfl⟩⟩
      · intro b v hg hb
        obtain ⟨r, o, e, hbs⟩ := oldB xs w w' ρ' s2 hle hs g4 g9 b v hg hb
        exact ⟨r, o, e, hbs env ⟨rfl, fun _ _ => rfl⟩⟩
      · intro b p hb
        refine newB xs ys w w' ρ' s2 x.blks l1 l2 l x.n hle hs g4 m2 leR m3 hz (fun p hp => (px2 p hp).1) b p hb ?_
        have hbn : b ∈ namesOf L.blks := by rw [px3]; exact List.mem_map.2 ⟨_, hb, rfl⟩
        obtain ⟨⟨b', q⟩, hq, rfl⟩ := List.mem_map.1 hbn
        obtain ⟨us, t, hu⟩ := H.cells b' q hq
        exact setBl_dom (by rw [hu]; simp)
  | @again xs zs j ys hh hev hrest ih =>
    intro ρk tmps w hlek ht hn hs hsk cs kt
    obtain ⟨j0, tm', s2, ρ', tmps', w', todo', l1, l2, l, bs, g1, g2, g3, g4, g5, g6, g7, g8, g9, g10⟩ := round xs _ zs hh hev ρk tmps w hlek ht hn hsk cs kt
    have hle := Pl.le_trans hlek g1
    rcases g10 with ⟨_, rfl, m1, m2, mr, m3, hz⟩ | ⟨i, x, hc, _⟩
    · have ag0 : Agree L.base env (env.upd L.base zs) := Env.agree env L.base zs
      have leR := (matchR_ok (env' := env.upd L.base zs) g4 g3 mr).1
      have hA := asg_upd (env := env.upd L.base xs) m3
      rw [← hz, Env.upd_upd] at hA
      have ag : Agree L.base (env.upd L.base xs) (env.upd L.base zs) := ⟨rfl, fun i hi => by simp [Env.upd, hi]⟩
      obtain ⟨qs, r1, r2⟩ := rowsR xs zs w w' ρ' tm' tmps' s2 L.blks L.rows l1 l2 l bs L.n hle hs g4 g3 g9 m2 rfl mr m3 hz
      have hs2 : HS (env.upd L.base zs) ρ B (setBl h0 L.blks) w' := by
        have hsol : ∀ b o, Solid (env.upd L.base zs) o ((setBl h0 L.blks).get b) → Solid (env.upd L.base xs) o ((setBl h0 L.blks).get b) := by
          intro b o hb
          cases hg : (setBl h0 L.blks).get b with
          | none => exact fun v e => by cases e
          | some v =>
            rw [hg] at hb
            rcases setBl_get H.cells hg with ⟨p, us, t, hm, rfl, hu⟩ | ⟨h1, h2⟩
            · exact Solid.of rfl
            · have hl : v.low L.base = true := allLow_at H.al (by have := H.un _ _ h1; omega) h1
              exact Solid.of ((Blk.low_void ag o hl).symm.trans hb.void)
        refine ⟨?_, hs.dom, fun b b' r o o' e e' hr hd hd' => hs.inj b b' r o o' e e' hr (hsol b _ hd) (hsol b' _ hd'), g4.size, ?_, hs.rows⟩
        intro b v hg
        obtain ⟨rr, oo, ee, hown⟩ := hs.blk b v hg
        rcases setBl_get H.cells hg with ⟨p, us, t, hm, rfl, hu⟩ | ⟨h1, h2⟩
        · obtain ⟨r, o, us', t', e, e', hbs⟩ := newB xs zs w w' ρ' s2 L.blks l1 l2 l L.n hle hs g4 m2 leR m3 hz pb b p hm (by rw [hg]; simp)
          rw [hu] at e'
          cases e'
          rw [e] at ee
          cases ee
          exact ⟨_, _, e, fun _ => ⟨hbs, (hown rfl).2⟩⟩
        · obtain ⟨r, o, e, hbs⟩ := oldB xs w w' ρ' s2 hle hs g4 g9 b v h1 (fun hm => by obtain ⟨p, hp, e⟩ := List.mem_map.1 hm; exact h2 p hp e)
          rw [e] at ee
          cases ee
          have hl : v.low L.base = true := allLow_at H.al (by have := H.un _ _ h1; omega) h1
          exact ⟨_, _, e, fun hv => ⟨hbs _ ag0 hv, (hown ((Blk.low_void ag _ hl).symm.trans hv)).2⟩⟩
        · intro b v hg
          rcases setBl_get H.cells hg with ⟨p, us, t, hm, rfl, hu⟩ | ⟨h1, h2⟩
          · exact trivial
          · have hl : v.low L.base = true := allLow_at H.al (by have := H.un _ _ h1; omega) h1
            exact Blk.low_wf ag hl (hs.wf b v hg)
      have hnone : ∀ b, nx ≤ b → (setBl h0 L.blks).get b = none := by
        intro b hb
        rw [setBl_other (fun p hp e => by
          obtain ⟨us, t, hu⟩ := H.cells p.1 p.2 hp
          have := lowNx p.1 (by rw [hu]; simp)
          omega)]
        cases hg : h0.get b with
        | none => rfl
        | some v => have := lowNx b (by rw [hg]; simp); omega
      obtain ⟨hsn, hlen⟩ := HS.addRows hs2 hnone r1 (fun q hf hB b o e hsol => hf b o e (solidLow zs b o hsol))
      rw [← setRw_e] at hsn
      have ht2 : TS (env.upd L.base zs) (plRw nx qs ρ) (setSl (keepT tm L.keep) (headSl L nx)) tmps' := by
        intro t s hts
        rcases setSl_get hts with hm | ⟨hk, hnot⟩
        · unfold headSl at hm
          rcases List.mem_append.1 hm with hm | hm
          · have le2 := (matchB_ok ag m2).1
            obtain ⟨V, hV, hr⟩ := (matchT_ok ag m1).2 ((hA.mono leR).mono le2) ρ' tmps' g3 t s hm
            exact ⟨V, hV, Rep.plain (ps _ hm) hr⟩
          · obtain ⟨i, p, hp, rfl, rfl⟩ := rowSl_mem hm
            obtain ⟨V, q, v1, v2, v3⟩ := r2 i p hp
            exact ⟨V, v1, v3 _ _ (plRw_at v2)⟩
        · obtain ⟨hm, hv⟩ := keepT_get hk
          obtain ⟨V, hV, hr⟩ := keepR xs tm' ρ' tmps' hle g3 g8 t s hm hv
          exact ⟨V, hV, (hr _ ag0).mono hlen⟩
      obtain ⟨x, tmps2, w2, todo2, qs2, q1, q2, q3, q4, q5, q6, q7, q8, q9⟩ := ih (plRw nx qs ρ) tmps' w' hlen ht2 g2 hs2 hsn cs kt
      have htodo : todo' = .inLoop body :: kt := g6
      rw [htodo] at g7
      exact ⟨x, tmps2, w2, todo2, qs2, q1, q2, q3, q4, q5, q6, g5.trans q7, g7.trans (.head st_inLoop q8), q9⟩
    · cases hc
end

end Go.SX
