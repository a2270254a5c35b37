/- Loops: a body that is checked goes round as its numbers do.
Loops: the tree of a loop with a contract is right. -/
import Derived.Test.YtfkkimpcemlmcaaSw31
namespace Go.SX
open Go Go.RowKit
set_option linter.unusedVariables false
set_option linter.unusedSimpArgs false
set_option linter.unusedSectionVars false

theorem setSl_get {tm : T SV} : ∀ {r : List (Nat × SV)} {t : Nat} {s : SV}, (setSl tm r).get t = some s → (t, s) ∈ r ∨ (tm.get t = some s ∧ ∀ p, p ∈ r → p.1 ≠ t)
  | [], t, s, h => .inr ⟨h, by simp⟩
  | (u, v) :: r, t, s, h => by
      simp only [setSl, T.get_set] at h
      split at h
      · rename_i htu; subst htu; cases h; exact .inl (by simp)
      · rename_i htu
        rcases setSl_get h with h | ⟨h, h2⟩
        · exact .inl (by simp [h])
        · refine .inr ⟨h, fun p hp => ?_⟩
          rcases List.mem_cons.1 hp with rfl | hp
          · exact fun e => htu e.symm
          · exact h2 p hp
theorem keepT_get {tm : T SV} : ∀ {l : List Nat} {t : Nat} {s : SV}, (keepT tm l).get t = some s → t ∈ l ∧ tm.get t = some s
  | [], t, s, h => by cases h
  | u :: l, t, s, h => by
      simp only [keepT] at h
      split at h
      · rename_i v hv
        rw [T.get_set] at h
        split at h
        · rename_i htu; subst htu; cases h; exact ⟨by simp, hv⟩
        · obtain ⟨h1, h2⟩ := keepT_get h; exact ⟨by simp [h1], h2⟩
      · obtain ⟨h1, h2⟩ := keepT_get h; exact ⟨by simp [h1], h2⟩
theorem keepT_has {tm : T SV} : ∀ {l : List Nat} {t : Nat} {s : SV}, t ∈ l → tm.get t = some s → (keepT tm l).get t = some s
  | [], t, s, hm, h => by simp at hm
  | u :: l, t, s, hm, h => by
      simp only [keepT]
      by_cases htu : t = u
      · subst htu; rw [h]; simp [T.get_set]
      · have := keepT_has (l := l) ((List.mem_cons.1 hm).resolve_left htu) h
        split
        · rw [T.get_set, if_neg htu]; exact this
        · exact this
theorem setSl_other {tm : T SV} : ∀ {r : List (Nat × SV)} {t : Nat}, (∀ p, p ∈ r → p.1 ≠ t) → (setSl tm r).get t = tm.get t
  | [], t, h => rfl
  | (u, v) :: r, t, h => by
      simp only [setSl, T.get_set]
      rw [if_neg (fun e => h (u, v) (by simp) e.symm)]
      exact setSl_other (fun p hp => h p (by simp [hp]))

theorem setBl_get {h : T Blk} : ∀ {r : List (Nat × List SV)} {b : Nat} {v : Blk}, (∀ b l, (b, l) ∈ r → ∃ us t, h.get b = some (.cells us t)) → (setBl h r).get b = some v →
    (∃ l us t, (b, l) ∈ r ∧ v = .cells l t ∧ h.get b = some (.cells us t)) ∨ (h.get b = some v ∧ ∀ p, p ∈ r → p.1 ≠ b)
  | [], b, v, hc, hg => .inr ⟨hg, by simp⟩
  | (c, l) :: r, b, v, hc, hg => by
      obtain ⟨us, t, hu⟩ := hc c l (by simp)
      simp only [setBl, hu, T.get_set] at hg
      split at hg
      · rename_i hbc; subst hbc; cases hg; exact .inl ⟨l, us, t, by simp, rfl, hu⟩
      · rename_i hbc
        rcases setBl_get (fun b l hm => hc b l (by simp [hm])) hg with ⟨l', us', t', h1, h2, h3⟩ | ⟨h1, h2⟩
        · exact .inl ⟨l', us', t', by simp [h1], h2, h3⟩
        · refine .inr ⟨h1, fun p hp => ?_⟩
          rcases List.mem_cons.1 hp with rfl | hp
          · exact fun e => hbc e.symm
          · exact h2 p hp
theorem setBl_dom {h : T Blk} : ∀ {r : List (Nat × List SV)} {b : Nat}, (h.get b ≠ none) → (setBl h r).get b ≠ none
  | [], b, hd => hd
  | (c, l) :: r, b, hd => by
      simp only [setBl]
      split
      · rw [T.get_set]
        split
        · simp
        · exact setBl_dom hd
      · exact setBl_dom hd
theorem setBl_other {h : T Blk} : ∀ {r : List (Nat × List SV)} {b : Nat}, (∀ p, p ∈ r → p.1 ≠ b) → (setBl h r).get b = h.get b
  | [], b, hb => rfl
  | (c, l) :: r, b, hb => by
      simp only [setBl]
      split
      · rw [T.get_set, if_neg (fun e => hb (c, l) (by simp) e.symm)]
        exact setBl_other (fun p hp => hb p (by simp [hp]))
      · exact setBl_other (fun p hp => hb p (by simp [hp]))

theorem under_lt {α : Type} {m : Nat} : ∀ {t : T α} {a c : Nat}, T.under m t a c = true → ∀ {n : Nat} {x : α}, t.get n = some x → a * n + c < m
  | .nil, a, c, h, n, x, hg => by cases hg
  | .node l v r, a, c, h, n, x, hg => by
      simp only [T.under, Bool.and_eq_true, Bool.or_eq_true] at h
      simp only [T.get_node, beq_dec] at hg
      by_cases h0 : n = 0
      · subst h0
        simp only [decide_true, cond_true] at hg
        rcases h.1.1 with h1 | h1
        · rw [hg] at h1; cases h1
        · have := blt_lt h1; omega
      · by_cases h1 : n % 2 = 1
        · simp only [h0, h1, decide_true, decide_false, cond_true, cond_false] at hg
          have := under_lt h.1.2 hg
          have e : n = 2 * (n / 2) + 1 := by omega
          rw [e, Nat.mul_add, ← Nat.mul_assoc, Nat.mul_comm a 2]
          omega
        · simp only [h0, h1, decide_true, decide_false, cond_true, cond_false] at hg
          have := under_lt h.2 hg
          have e : n = 2 * (n / 2 - 1) + 2 := by omega
          rw [e, Nat.mul_add, ← Nat.mul_assoc, Nat.mul_comm a 2]
          omega

theorem natsEq_eq : ∀ {a b : List Nat}, natsEq a b = true → a = b
  | [], b, h => by cases b <;> first | rfl | cases h
  | x :: a, b, h => by
      cases b with
      | nil => cases h
      | cons y b =>
        simp only [natsEq, Bool.and_eq_true, beq_dec, decide_eq_true_eq] at h
        rw [h.1, natsEq_eq h.2]

theorem unInts_map : ∀ es : List E, unInts (es.map (.int .i64 ·)) = some es
  | [] => rfl
  | e :: es => by simp [unInts, unInts_map es]
theorem decL_encL (c : Nat) (es : List E) : decL (encL c es) = some (c, es) := by
  simp [decL, encL, unInts_map]

theorem allLow_at {n : Nat} {h : T Blk} : ∀ {m b : Nat} {v : Blk}, allLow n h m = true → b < m → h.get b = some v → v.low n = true
  | 0, b, v, ha, hb, hg => by omega
  | m + 1, b, v, ha, hb, hg => by
      simp only [allLow, Bool.and_eq_true] at ha
      by_cases hbm : b = m
      · subst hbm; have := ha.1; rw [hg] at this; exact this
      · exact allLow_at ha.2 (by omega) hg

theorem DfS.det {ρ ρ' : Pl} (h : ρ.le ρ') : ∀ {df : List Nat} {a b : List Deferred}, DfS ρ df a → DfS ρ' df b → b = a
  | [], a, b, ha, hb => by rw [show a = [] from ha, show b = [] from hb]
  | d :: l, a, b, ha, hb => by
      obtain ⟨r, o, ds, e, h1, rfl⟩ := ha
      obtain ⟨r', o', ds', e', h2, rfl⟩ := hb
      rw [h _ _ e] at e'
      cases e'
      rw [DfS.det h h1 h2]

theorem jumpIs_eq {c d : Code} (h : jumpIs c d = true) : c = d := by
  cases c <;> cases d <;> simp only [jumpIs] at h <;> first
    | rfl
    | (cases h; done)
    | (simp only [beq_dec, decide_eq_true_eq] at h; rw [h])

/-- the way that an exit was found -/
def ExitAt (L : LC) (n0 : Nat) (tm : T SV) (h0 h : T Blk) (c : Code) (x : XS) (l : Asg) : Prop :=
  jumpIs c x.jump = true ∧ ∃ l1 l2 bs, matchT L.base tm x.slots [] = some l1 ∧ matchB L.base h0 h x.blks l1 = some l2 ∧ matchR n0 tm h x.rows l2 = some (l, bs) ∧ asgIn L.base x.n l = true

theorem exitK_ok {env : Env} {L : LC} {n0 : Nat} {tm : T SV} {h0 h : T Blk} {c : Code} {cx : Ctx} {s : St} {r : Out × St} : ∀ {xs : List XS} {j : Nat}, runE env (exitK L n0 tm h0 h c cx j xs) s = some r →
    ∃ i x l, xs[i]? = some x ∧ ExitAt L n0 tm h0 h c x l ∧ r = (.val (encL (j + i + 1) (asgL l L.base x.n)) cx, s)
  | [], j, hr => (runE_fail hr).elim
  | x :: xs, j, hr => by
      have next : runE env (exitK L n0 tm h0 h c cx (j + 1) xs) s = some r → ∃ i x' l, (x :: xs)[i]? = some x' ∧ ExitAt L n0 tm h0 h c x' l ∧ r = (.val (encL (j + i + 1) (asgL l L.base x'.n)) cx, s) := by
        intro hr
        obtain ⟨i, x', l, h1, h2, h3⟩ := exitK_ok hr
        exact ⟨i + 1, x', l, by simpa using h1, h2, by rw [h3, show j + 1 + i + 1 = j + (i + 1) + 1 by omega]⟩
      simp only [exitK] at hr
      cases hj : jumpIs c x.jump with
      | false => rw [hj, cond_false] at hr; exact next hr
      | true =>
        rw [hj, cond_true] at hr
        split at hr
        · rename_i l1 h1
          split at hr
          · rename_i l2 h2
            split at hr
            · rename_i l bs h3
              cases ha : asgIn L.base x.n l with
              | false => rw [ha, cond_false] at hr; exact (runE_fail hr).elim
              | true =>
                rw [ha, cond_true] at hr
                simp only [runE, run, PT.at, Option.some.injEq] at hr
                exact ⟨0, x, l, rfl, ⟨hj, l1, l2, bs, h1, h2, h3, ha⟩, hr.symm⟩
            · exact next hr
          · exact next hr
        · exact next hr

theorem leafLoop_ok {env : Env} {L : LC} {n0 : Nat} {tm0 tm : T SV} {h0 : T Blk} {df0 df : List Nat} {j : Option Code} {cx : Ctx} {s : St} {r : Out × St} (h : runE env (leafLoop L n0 tm0 h0 df0 j tm df cx) s = some r) :
    df0 = df ∧ keepSame tm0 tm L.keep = true ∧ (∀ b, b ∈ s.wr → n0 ≤ b ∨ b ∈ namesOf L.blks) ∧
      ((j = none ∧ ∃ l1 l2 l bs, matchT L.base tm L.slots [] = some l1 ∧ matchB L.base h0 s.h L.blks l1 = some l2 ∧ matchR n0 tm s.h L.rows l2 = some (l, bs) ∧ asgIn L.base L.n l = true ∧ r = (.val (encL 0 (asgL l L.base L.n)) cx, s)) ∨
       (∃ c i x l, j = some c ∧ L.exits[i]? = some x ∧ ExitAt L n0 tm h0 s.h c x l ∧ r = (.val (encL (i + 1) (asgL l L.base x.n)) cx, s))) := by
  unfold leafLoop at h
  obtain ⟨_, h⟩ := runE_whole h
  cases hk : (natsEq df0 df && keepSame tm0 tm L.keep && s.wr.all (fun b => Nat.ble n0 b || L.blks.any fun p => Nat.beq b p.1)) with
  | false => rw [hk, cond_false] at h; exact (runE_fail h).elim
  | true =>
    rw [hk, cond_true] at h
    simp only [Bool.and_eq_true, List.all_eq_true, Bool.or_eq_true, List.any_eq_true, Nat.ble_eq] at hk
    refine ⟨natsEq_eq hk.1.1, hk.1.2, ?_, ?_⟩
    · intro b hb
      rcases hk.2 b hb with hn | ⟨p, hp, e⟩
      · exact .inl hn
      · rw [beq_dec, decide_eq_true_eq] at e
        exact .inr (List.mem_map.2 ⟨p, hp, e.symm⟩)
    · split at h
      · split at h
        · rename_i l1 h1
          split at h
          · rename_i l2 h2
            split at h
            · rename_i l bs h3
              cases ha : asgIn L.base L.n l with
              | false => rw [ha, cond_false] at h; exact (runE_fail h).elim
              | true =>
                rw [ha, cond_true] at h
                simp only [runE, run, PT.at, Option.some.injEq] at h
                exact .inl ⟨rfl, l1, l2, l, bs, h1, h2, h3, ha, h.symm⟩
            · exact (runE_fail h).elim
          · exact (runE_fail h).elim
        · exact (runE_fail h).elim
      · obtain ⟨i, x, l, g1, g2, g3⟩ := exitK_ok h
        exact .inr ⟨_, i, x, l, rfl, g1, g2, by simpa using g3⟩

theorem headB_ok {env : Env} : ∀ {rs : List (Int × Int)} {base : Nat}, (∀ i lo hi, rs[i]? = some (lo, hi) → lo ≤ env.v (base + i) ∧ env.v (base + i) ≤ hi) → ∀ e lo hi, (e, lo, hi) ∈ headB base rs → lo ≤ e.den env ∧ e.den env ≤ hi
  | [], base, h, e, lo, hi, hm => by simp [headB] at hm
  | (a, b) :: rs, base, h, e, lo, hi, hm => by
      simp only [headB, List.mem_cons] at hm
      rcases hm with hm | hm
      · cases hm; exact h 0 a b rfl
      · exact headB_ok (base := base + 1) (fun i lo hi hi' => by have := h (i + 1) lo hi (by simpa using hi'); rwa [show base + (i + 1) = base + 1 + i by omega] at this) e lo hi hm

theorem headCx_ok {env : Env} {L : LC} {cx : Ctx} {xs : List Int} (hc : cx.ok env) (hh : HeadOK env L xs) : (headCx L cx).ok (env.upd L.base xs) := by
  have ha := Env.agree env L.base xs
  refine assumeAll_ok ⟨?_, ?_⟩ hh.2
  · intro e lo hi hm
    simp only [Ctx.lows, List.mem_append, List.mem_filter] at hm
    rcases hm with hm | ⟨hm, hl⟩
    · exact headB_ok hh.1 e lo hi hm
    · rw [E.low_den ha hl]; exact hc.b _ _ _ hm
  · intro b v hm
    simp only [Ctx.lows, List.mem_filter] at hm
    obtain ⟨hm, hl⟩ := hm
    rw [BE.low_den ha hl]; exact hc.k _ _ hm

section
variable {P : Program} {B : Nat} {R : Run}

structure LoopHyp (P : Program) (B : Nat) (R : Run) (env : Env) (L : LC) (F : FI) (body : Code) (tm : T SV) (df : List Nat) (cx : Ctx) (h0 : T Blk) (nx : Nat) (ρ : Pl) : Prop where
  fr : ∀ xs, FrOK P (env.upd L.base xs) B R
  plain : L.plain = true
  kl : keepLow L.base tm L.keep = true
  al : allLow L.base h0 nx = true
  un : ∀ b v, h0.get b = some v → b < nx
  cells : ∀ b l, (b, l) ∈ L.blks → ∃ us t, h0.get b = some (.cells us t)
  ct : toCT (loopRun R L F body tm df cx h0 nx) = L.ct
  cx : cx.ok env
  kr : ∀ t v, t ∈ L.keep → tm.get t = some v → ∃ V, Rep env ρ v V
  ol : L.olds nx = true

/-- the memory behind an exit -/
structure HeapX (env : Env) (L : LC) (h0 : T Blk) (ρ : Pl) (B : Nat) (x : XS) (ys : List Int) (w' : World) : Prop where
  size : B ≤ w'.heap.size
  old : ∀ b v, h0.get b = some v → b ∉ namesOf L.blks → ∃ r o, ρ b = some (r, o) ∧ (v.void env o = false → BS env ρ (w'.heap[r]?) o v)
  new : ∀ b l, (b, l) ∈ x.blks → ∃ r o us t, ρ b = some (r, o) ∧ h0.get b = some (.cells us t) ∧ BS (env.upd L.base ys) ρ (w'.heap[r]?) o (.cells l t)

theorem plain_slots {L : LC} (h : L.plain = true) : (∀ nx t, t ∈ L.keep → ∀ p, p ∈ headSl L nx → p.1 ≠ t) ∧ (∀ p, p ∈ L.slots → p.2.plain = true) ∧ (∀ p, p ∈ L.blks → SV.fixL p.2 = true) ∧
    (∀ x, x ∈ L.exits → (∀ p, p ∈ x.slots → p.2.plain = true ∧ p.2.low (L.base + x.n) = true) ∧ (∀ p, p ∈ x.blks → SV.fixL p.2 = true ∧ SV.lowL (L.base + x.n) p.2 = true) ∧ namesOf L.blks = namesOf x.blks) ∧
    ∀ x, x ∈ L.exits → ∀ p, p ∈ x.rows → L.base ≤ p.c ∧ p.c < L.base + x.n ∧ L.base ≤ p.n ∧ p.n < L.base + x.n := by
  simp only [LC.plain, Bool.and_eq_true, List.all_eq_true, Bool.not_eq_true', List.any_eq_false, Nat.ble_eq] at h
  obtain ⟨h, g⟩ := h
  refine ⟨?_, h.1.1.2, h.1.2, ?_, ?_⟩
  · intro nx t ht p hp e
    unfold headSl at hp
    rcases List.mem_append.1 hp with hp | hp
    · have := h.1.1.1 t ht p hp
      rw [beq_dec, e] at this
      simp at this
    · obtain ⟨i, q, hq, e1, e2⟩ := rowSl_mem (t := p.1) (s := p.2) hp
      have := g.1.1 t ht q (List.mem_of_getElem? hq)
      rw [beq_dec, ← e1, e] at this
      simp at this
  · intro x hx
    have := h.2 x hx
    exact ⟨this.1.1, this.1.2, natsEq_eq this.2⟩
  · intro x hx p hp
    have := g.2 x hx p hp
    exact ⟨this.1.1.1, blt_lt this.1.1.2, this.1.2, blt_lt this.2⟩

theorem loop_runs {env : Env} {L : LC} {F : FI} {body : Code} {tm : T SV} {df : List Nat} {cx : Ctx} {h0 : T Blk} {nx : Nat} {ρ : Pl} {rd : Option Nat} {dfs : List Deferred}
    (H : LoopHyp P B R env L F body tm df cx h0 nx ρ) (hrd : RdS ρ F.rd rd) (hd : DfS ρ df dfs) {xs : List Int} {j : Nat} {ys : List Int} (hr : Runs env L xs j ys) :
    ∀ (ρk : Pl) (tmps : Array Value) (w : World), ρ.le ρk → TS (env.upd L.base xs) ρk (setSl (keepT tm L.keep) (headSl L nx)) tmps → tmps.size = F.nt → HS (env.upd L.base xs) ρ B (setBl h0 L.blks) w →
      HS (env.upd L.base xs) ρk B (setRw nx L.rows (setBl h0 L.blks)) w → ∀ cs kt,
      ∃ x tmps' w' todo' ps, L.exits[j]? = some x ∧ tmps'.size = F.nt ∧ (∀ t p, (t, p) ∈ x.slots → ∃ V, tmps'[t]? = some V ∧ Rep (env.upd L.base ys) ρ p V) ∧
        (∀ t v, t ∈ L.keep → tm.get t = some v → ∃ V, tmps'[t]? = some V ∧ Rep env ρ v V) ∧ HeapX env L h0 ρ B x ys w' ∧ Leaves (.inLoop body :: kt) (some x.jump) todo' ∧ Below B w w' ∧
        Steps P (lone (mkF F.fn rd tmps dfs (.code body :: .inLoop body :: kt)) cs w) (lone (mkF F.fn rd tmps' dfs todo') cs w') ∧
        RowsOK (env.upd L.base ys) w' B (fun q => ∀ b o, ρ b = some (q, o) → ¬ Solid env o (h0.get b)) (x.rows.map RowP.e) ps ∧
        ∀ (i : Nat) (p : RowP), x.rows[i]? = some p → ∃ V q, tmps'[p.t]? = some V ∧ ps[i]? = some q ∧ ∀ ρ2 nb, ρ2 nb = some q → Rep (env.upd L.base ys) ρ2 (.vg nb (.var p.n)) V := by
  obtain ⟨pk, ps, pb, px, pr⟩ := plain_slots H.plain
  obtain ⟨oldL, oldX⟩ : (∀ p, p ∈ L.blks → SV.olderL nx p.2 = true) ∧ ∀ x, x ∈ L.exits → ∀ p, p ∈ x.blks → SV.olderL nx p.2 = true := by
    have := H.ol
    simp only [LC.olds, Bool.and_eq_true, List.all_eq_true] at this
    exact this
  have lowNx : ∀ b, h0.get b ≠ none → b < nx := by
    intro b hb
    cases hg : h0.get b with
    | none => exact absurd hg hb
    | some v => have := H.un _ _ hg; omega
  -- one round
  have round : ∀ (xs : List Int) (c : Nat) (zs : List Int), HeadOK env L xs → L.ct.ev (env.upd L.base xs) = some (c, zs) → ∀ (ρk : Pl) (tmps : Array Value) (w : World), ρ.le ρk → TS (env.upd L.base xs) ρk (setSl (keepT tm L.keep) (headSl L nx)) tmps → tmps.size = F.nt →
      HS (env.upd L.base xs) ρk B (setRw nx L.rows (setBl h0 L.blks)) w → ∀ (cs : List Frame) (kt : List Item), ∃ (j0 : Option Code) (tm' : T SV) (s2 : St) (ρ' : Pl) (tmps' : Array Value) (w' : World) (todo' : List Item) (l1 l2 l : Asg) (bs : List Nat), ρk.le ρ' ∧ tmps'.size = F.nt ∧ TS (env.upd L.base xs) ρ' tm' tmps' ∧ HS (env.upd L.base xs) ρ' B s2.h w' ∧ Below B w w' ∧
        Leaves (.inLoop body :: kt) j0 todo' ∧ Steps P (lone (mkF F.fn rd tmps dfs (.code body :: .inLoop body :: kt)) cs w) (lone (mkF F.fn rd tmps' dfs todo') cs w') ∧
        keepSame (setSl (keepT tm L.keep) (headSl L nx)) tm' L.keep = true ∧ (∀ b, b ∉ namesOf L.blks → b < nx → s2.h.get b = (setBl h0 L.blks).get b) ∧
        ((c = 0 ∧ j0 = none ∧ matchT L.base tm' L.slots [] = some l1 ∧ matchB L.base h0 s2.h L.blks l1 = some l2 ∧ matchR nx tm' s2.h L.rows l2 = some (l, bs) ∧ asgIn L.base L.n l = true ∧ zs = denL (env.upd L.base xs) (asgL l L.base L.n)) ∨
         (∃ i x, c = i + 1 ∧ L.exits[i]? = some x ∧ j0 = some x.jump ∧ matchT L.base tm' x.slots [] = some l1 ∧ matchB L.base h0 s2.h x.blks l1 = some l2 ∧ matchR nx tm' s2.h x.rows l2 = some (l, bs) ∧ asgIn L.base x.n l = true ∧ zs = denL (env.upd L.base xs) (asgL l L.base x.n))) := by
    intro xs c zs hh hev ρk tmps w hle ht hn hs cs kt
    rw [← H.ct] at hev
    unfold loopRun at hev
    obtain ⟨v, cx1, s1, es, hat, hdec, hzs⟩ := toCT_at hev
    obtain ⟨j0, tm', df', cx2, s2, ρ', dfs', tmps', w', todo', g1, g2, g3, g4, g5, g6, g7, g8, g9, g10⟩ := H.fr xs F [.code body] _ df _ _ _ _ hat (headCx_ok H.cx hh) ρk rd dfs tmps w (hrd.mono hle) (hd.mono hle) ht hn hs cs (.inLoop body :: kt)
    obtain ⟨q1, q2, q3, q4⟩ := leafLoop_ok g1
    subst q1
    rw [(hd.mono hle).det g3 g4] at g10
    have hkeep : ∀ b, b ∉ namesOf L.blks → b < nx → s2.h.get b = (setBl h0 L.blks).get b := by
      intro b hb hlt
      have hs12 : s1 = s2 := by
        rcases q4 with ⟨_, l1, l2, l, bs, _, _, _, _, e⟩ | ⟨c, i, x, l, _, _, _, e⟩ <;> cases e <;> rfl
      have := keeps _ hat b (by rw [hs12]; exact fun hm => by rcases q3 b hm with h | h; exact absurd hlt (by omega); exact hb h) (.inl (by show b < nx + L.rows.length; omega)) (Nat.le_refl _)
      rw [hs12] at this
      exact this.trans (setRw_low (rows := L.rows) hlt)
    rcases q4 with ⟨rfl, l1, l2, l, bs, m1, m2, mr, m3, e⟩ | ⟨c', i, x, l, rfl, m0, ⟨mj, l1, l2, bs, m1, m2, mr, m3⟩, e⟩
    · cases e
      rw [decL_encL] at hdec
      cases hdec
      exact ⟨none, tm', s1, ρ', tmps', w', todo', l1, l2, l, bs, g3, g6, g5, g7, g8, g9, g10, q2, hkeep, .inl ⟨rfl, rfl, m1, m2, mr, m3, hzs.symm⟩⟩
    · cases e
      rw [decL_encL] at hdec
      cases hdec
      rw [jumpIs_eq mj] at g9
      exact ⟨some x.jump, tm', s1, ρ', tmps', w', todo', l1, l2, l, bs, g3, g6, g5, g7, g8, g9, g10, q2, hkeep, .inr ⟨i, x, rfl, m0, rfl, m1, m2, mr, m3, hzs.symm⟩⟩
  -- what is kept over a round
  have keepR : ∀ (xs : List Int) (tm' : T SV) (ρ' : Pl) (tmps' : Array Value), ρ.le ρ' → TS (env.upd L.base xs) ρ' tm' tmps' →
      keepSame (setSl (keepT tm L.keep) (headSl L nx)) tm' L.keep = true → ∀ t v, t ∈ L.keep → tm.get t = some v → ∃ V, tmps'[t]? = some V ∧ ∀ env2, Agree L.base env env2 → Rep env2 ρ v V := by
    intro xs tm' ρ' tmps' hle ht' hk t v hm hv
    have hI : (setSl (keepT tm L.keep) (headSl L nx)).get t = some v := by
      rw [setSl_other (pk nx t hm)]
      exact keepT_has hm hv
    simp only [keepSame, List.all_eq_true] at hk
    have h1 := hk t hm
    rw [hI] at h1
    simp only at h1
    cases hg : tm'.get t with
    | none => rw [hg] at h1; cases h1
    | some v' =>
      rw [hg] at h1
      have := SV.same_eq h1
      subst this
      obtain ⟨V, hV, hr⟩ := ht' t v hg
      obtain ⟨V0, hr0⟩ := H.kr t v hm hv
      have hl : v.low L.base = true := by
        have := H.kl
        simp only [keepLow, List.all_eq_true] at this
        have := this t hm
        rw [hv] at this
        exact this
      refine ⟨V, hV, fun env2 ha => ?_⟩
      have ag : Agree L.base (env.upd L.base xs) env2 := ⟨ha.1, fun i hi => by rw [ha.2 i hi]; simp [Env.upd, hi]⟩
      exact Rep.back hle hr0 (Rep.low ag hl hr)
  -- blocks that stay
  have oldB : ∀ (xs : List Int) (w w' : World) (ρ' : Pl) (s2 : St), ρ.le ρ' → HS (env.upd L.base xs) ρ B (setBl h0 L.blks) w → HS (env.upd L.base xs) ρ' B s2.h w' →
      (∀ b, b ∉ namesOf L.blks → b < nx → s2.h.get b = (setBl h0 L.blks).get b) → ∀ b v, h0.get b = some v → b ∉ namesOf L.blks →
        ∃ r o, ρ b = some (r, o) ∧ ∀ env2, Agree L.base env env2 → v.void env2 o = false → BS env2 ρ (w'.heap[r]?) o v := by
    intro xs w w' ρ' s2 hle hs hs' hk b v hg hb
    have e0 : (setBl h0 L.blks).get b = some v := by
      rw [setBl_other (fun p hp e => hb (List.mem_map.2 ⟨p, hp, e⟩))]; exact hg
    have e1 := hk b hb (H.un _ _ hg)
    rw [e0] at e1
    obtain ⟨r0, o0, f0, b0⟩ := hs.blk b v e0
    obtain ⟨r1, o1, f1, b1⟩ := hs'.blk b v e1
    rw [hle _ _ f0] at f1
    cases f1
    have hl : v.low L.base = true := allLow_at H.al (by have := H.un _ _ hg; omega) hg
    refine ⟨r0, o0, f0, fun env2 ha hv2 => ?_⟩
    have ag : Agree L.base (env.upd L.base xs) env2 := ⟨ha.1, fun i hi => by rw [ha.2 i hi]; simp [Env.upd, hi]⟩
    have hv1 : v.void (env.upd L.base xs) o0 = false := by rw [← Blk.low_void ag o0 hl]; exact hv2
    exact BS.back hle hl (b0 hv1).1 (BS.low ag hl (b1 hv1).1)
  -- blocks that the loop turns
  have newB : ∀ (xs zs : List Int) (w w' : World) (ρ' : Pl) (s2 : St) (bl : List (Nat × List SV)) (l1 l2 l : Asg) (m : Nat), ρ.le ρ' → HS (env.upd L.base xs) ρ B (setBl h0 L.blks) w → HS (env.upd L.base xs) ρ' B s2.h w' →
      matchB L.base h0 s2.h bl l1 = some l2 → Asg.le l2 l → asgIn L.base m l = true → zs = denL (env.upd L.base xs) (asgL l L.base m) → (∀ b, b ∉ namesOf L.blks → b < nx → s2.h.get b = (setBl h0 L.blks).get b) → (∀ p, p ∈ bl → SV.olderL nx p.2 = true) →
      ∀ b p, (b, p) ∈ bl → (setBl h0 L.blks).get b ≠ none → ∃ r o us t, ρ b = some (r, o) ∧ h0.get b = some (.cells us t) ∧ BS (env.upd L.base zs) ρ (w'.heap[r]?) o (.cells p t) := by
    intro xs zs w w' ρ' s2 bl l1 l2 l m hle hs hs' hm hll hin hz hk hp b p hb hne
    have hdown : ∀ b, b < nx → ∀ q, ρ' b = some q → ρ b = some q := by
      intro b hlt q hq
      have hdom := hs'.dom b q hq
      have hne2 : (setBl h0 L.blks).get b ≠ none := by
        by_cases hbn : b ∈ namesOf L.blks
        · obtain ⟨⟨b', p'⟩, hp', rfl⟩ := List.mem_map.1 hbn
          obtain ⟨us, t, hu⟩ := H.cells b' p' hp'
          exact setBl_dom (by rw [hu]; simp)
        · rw [← hk b hbn hlt]; exact hdom
      cases hg : (setBl h0 L.blks).get b with
      | none => exact absurd hg hne2
      | some v =>
        obtain ⟨r0, o0, e, _⟩ := hs.blk b v hg
        rw [hle _ _ e] at hq
        rw [e, hq]
    have hA := asg_upd (env := env.upd L.base xs) hin
    rw [← hz, Env.upd_upd] at hA
    have ag : Agree L.base (env.upd L.base xs) (env.upd L.base zs) := ⟨rfl, fun i hi => by simp [Env.upd, hi]⟩
    obtain ⟨us, vs, ty, e0, e1, e2⟩ := (matchB_ok ag hm).2 (hA.mono hll) b p hb
    obtain ⟨r1, o1, f1, b1, _⟩ := hs'.at b _ e1 (fun _ => rfl)
    cases hI : (setBl h0 L.blks).get b with
    | none => exact absurd hI hne
    | some v =>
      obtain ⟨r0, o0, f0, _⟩ := hs.blk b v hI
      rw [hle _ _ f0] at f1
      cases f1
      obtain ⟨ho, cs, hr, hob⟩ := b1
      exact ⟨_, _, us, ty, f0, e0, ho, cs, RepL.down hdown (hp _ hb) (e2 ρ' cs hr), hob⟩
  -- rows
  have solidLow : ∀ (zs : List Int) b o, Solid (env.upd L.base zs) o ((setBl h0 L.blks).get b) → Solid env o (h0.get b) := by
    intro zs b o hb
    by_cases hbn : ∀ p, p ∈ L.blks → p.1 ≠ b
    · rw [setBl_other hbn] at hb
      cases hg : h0.get b with
      | none => exact fun v e => by cases e
      | some v =>
        rw [hg] at hb
        have hl : v.low L.base = true := allLow_at H.al (lowNx b (by rw [hg]; simp)) hg
        have ag : Agree L.base env (env.upd L.base zs) := Env.agree env L.base zs
        exact Solid.of ((Blk.low_void ag o hl).symm.trans hb.void)
    · obtain ⟨p, hp, e⟩ : ∃ p, p ∈ L.blks ∧ p.1 = b := Classical.byContradiction fun hc => hbn fun p hp e => hc ⟨p, hp, e⟩
      obtain ⟨us, t, hu⟩ := H.cells p.1 p.2 hp
      rw [← e, hu]
      exact Solid.of rfl
  have rowsR : ∀ (xs zs : List Int) (w w' : World) (ρ' : Pl) (tm' : T SV) (tmps' : Array Value) (s2 : St) (bl : List (Nat × List SV)) (rows : List RowP) (l1 l2 l : Asg) (bs : List Nat) (m : Nat), ρ.le ρ' → HS (env.upd L.base xs) ρ B (setBl h0 L.blks) w → HS (env.upd L.base xs) ρ' B s2.h w' → TS (env.upd L.base xs) ρ' tm' tmps' →
      (∀ b, b ∉ namesOf L.blks → b < nx → s2.h.get b = (setBl h0 L.blks).get b) →
      matchB L.base h0 s2.h bl l1 = some l2 → namesOf L.blks = namesOf bl → matchR nx tm' s2.h rows l2 = some (l, bs) → asgIn L.base m l = true → zs = denL (env.upd L.base xs) (asgL l L.base m) →
      ∃ ps, RowsOK (env.upd L.base zs) w' B (fun q => ∀ b o, ρ b = some (q, o) → ¬ Solid env o (h0.get b)) (rows.map RowP.e) ps ∧
        ∀ (i : Nat) (p : RowP), rows[i]? = some p → ∃ V q, tmps'[p.t]? = some V ∧ ps[i]? = some q ∧ ∀ ρ2 nb, ρ2 nb = some q → Rep (env.upd L.base zs) ρ2 (.vg nb (.var p.n)) V := by
    intro xs zs w w' ρ' tm' tmps' s2 bl rows l1 l2 l bs m hle hsb hs' ht' hk hmb hnm hmr hin hz
    have hA := asg_upd (env := env.upd L.base xs) hin
    rw [← hz, Env.upd_upd] at hA
    have ag : Agree L.base (env.upd L.base xs) (env.upd L.base zs) := ⟨rfl, fun i hi => by simp [Env.upd, hi]⟩
    obtain ⟨le1, hbs, hrows⟩ := matchR_ok (env' := env.upd L.base zs) hs' ht' hmr
    obtain ⟨ps, r1, r2⟩ := hrows hA
    refine ⟨ps, r1.mono (fun q hq hf b o hρ hsol => ?_), r2⟩
    have hdom := hsb.dom b _ hρ
    have h0dom : h0.get b ≠ none := by
      intro h
      by_cases hbn : ∀ p, p ∈ L.blks → p.1 ≠ b
      · rw [setBl_other hbn] at hdom; exact hdom h
      · obtain ⟨p, hp, e⟩ : ∃ p, p ∈ L.blks ∧ p.1 = b := Classical.byContradiction fun hc => hbn fun p hp e => hc ⟨p, hp, e⟩
        obtain ⟨us, t, hu⟩ := H.cells p.1 p.2 hp
        rw [← e, hu] at h
        cases h
    have hlt := lowNx b h0dom
    refine hf b o (fun hm => by have := (hbs b hm).1; omega) (hle _ _ hρ) ?_
    by_cases hbn : b ∈ namesOf L.blks
    · rw [hnm] at hbn
      obtain ⟨⟨b', p⟩, hp, rfl⟩ := List.mem_map.1 hbn
      obtain ⟨us, vs, ty, e0, e1, _⟩ := (matchB_ok ag hmb).2 (hA.mono le1) b' p hp
      rw [e1]
      exact Solid.of rfl
    · rw [hk b hbn hlt, setBl_other (fun p hp e => hbn (List.mem_map.2 ⟨p, hp, e⟩))]
      cases hg : h0.get b with
      | none => exact absurd hg h0dom
      | some v =>
        rw [hg] at hsol
        have hl : v.low L.base = true := allLow_at H.al hlt hg
        exact Solid.of ((Blk.low_void (Env.agree env L.base xs) o hl).trans hsol.void)
  induction hr with
  | @exit xs j ys hh hev =>
    intro ρk tmps w hlek ht hn hs hsk cs kt
    obtain ⟨j0, tm', s2, ρ', tmps', w', todo', l1, l2, l, bs, g1, g2, g3, g4, g5, g6, g7, g8, g9, g10⟩ := round xs _ ys hh hev ρk tmps w hlek ht hn hsk cs kt
    have hle := Pl.le_trans hlek g1
    rcases g10 with ⟨hc, _⟩ | ⟨i, x, hc, hx, rfl, m1, m2, mr, m3, hz⟩
    · cases hc
    · cases hc
      obtain ⟨px1, px2, px3⟩ := px x (List.mem_of_getElem? hx)
      have leR := (matchR_ok (env' := env.upd L.base ys) g4 g3 mr).1
      have hA := asg_upd (env := env.upd L.base xs) m3
      rw [← hz, Env.upd_upd] at hA
      have ag : Agree L.base (env.upd L.base xs) (env.upd L.base ys) := ⟨rfl, fun i hi => by simp [Env.upd, hi]⟩
      obtain ⟨qs, r1, r2⟩ := rowsR xs ys w w' ρ' tm' tmps' s2 x.blks x.rows l1 l2 l bs x.n hle hs g4 g3 g9 m2 px3 mr m3 hz
      refine ⟨x, tmps', w', todo', qs, hx, g2, ?_, ?_, ⟨g4.size, ?_, ?_⟩, g6, g5, g7, r1, r2⟩
      · intro t p hp
        have le2 := (matchB_ok ag m2).1
        obtain ⟨V, hV, hr⟩ := (matchT_ok ag m1).2 ((hA.mono leR).mono le2) ρ' tmps' g3 t p hp
        exact ⟨V, hV, Rep.plain (px1 _ hp).1 hr⟩
      · intro t v hm hv
        obtain ⟨V, hV, hr⟩ := keepR xs tm' ρ' tmps' hle g3 g8 t v hm hv
        exact ⟨V, hV, hr env ⟨rfl, fun _ _ => rfl⟩⟩
      · intro b v hg hb
        obtain ⟨r, o, e, hbs⟩ := oldB xs w w' ρ' s2 hle hs g4 g9 b v hg hb
        exact ⟨r, o, e, hbs env ⟨rfl, fun _ _ => rfl⟩⟩
      · intro b p hb
        refine newB xs ys w w' ρ' s2 x.blks l1 l2 l x.n hle hs g4 m2 leR m3 hz g9 (oldX x (List.mem_of_getElem? hx)) b p hb ?_
        have hbn : b ∈ namesOf L.blks := by rw [px3]; exact List.mem_map.2 ⟨_, hb, rfl⟩
        obtain ⟨⟨b', q⟩, hq, rfl⟩ := List.mem_map.1 hbn
        obtain ⟨us, t, hu⟩ := H.cells b' q hq
        exact setBl_dom (by rw [hu]; simp)
  | @again xs zs j ys hh hev hrest ih =>
    intro ρk tmps w hlek ht hn hs hsk cs kt
    obtain ⟨j0, tm', s2, ρ', tmps', w', todo', l1, l2, l, bs, g1, g2, g3, g4, g5, g6, g7, g8, g9, g10⟩ := round xs _ zs hh hev ρk tmps w hlek ht hn hsk cs kt
    have hle := Pl.le_trans hlek g1
    rcases g10 with ⟨_, rfl, m1, m2, mr, m3, hz⟩ | ⟨i, x, hc, _⟩
    · have ag0 : Agree L.base env (env.upd L.base zs) := Env.agree env L.base zs
      have leR := (matchR_ok (env' := env.upd L.base zs) g4 g3 mr).1
      have hA := asg_upd (env := env.upd L.base xs) m3
      rw [← hz, Env.upd_upd] at hA
      have ag : Agree L.base (env.upd L.base xs) (env.upd L.base zs) := ⟨rfl, fun i hi => by simp [Env.upd, hi]⟩
      obtain ⟨qs, r1, r2⟩ := rowsR xs zs w w' ρ' tm' tmps' s2 L.blks L.rows l1 l2 l bs L.n hle hs g4 g3 g9 m2 rfl mr m3 hz
      have hs2 : HS (env.upd L.base zs) ρ B (setBl h0 L.blks) w' := by
        have hsol : ∀ b o, Solid (env.upd L.base zs) o ((setBl h0 L.blks).get b) → Solid (env.upd L.base xs) o ((setBl h0 L.blks).get b) := by
          intro b o hb
          cases hg : (setBl h0 L.blks).get b with
          | none => exact fun v e => by cases e
          | some v =>
            rw [hg] at hb
            rcases setBl_get H.cells hg with ⟨p, us, t, hm, rfl, hu⟩ | ⟨h1, h2⟩
            · exact Solid.of rfl
            · have hl : v.low L.base = true := allLow_at H.al (by have := H.un _ _ h1; omega) h1
              exact Solid.of ((Blk.low_void ag o hl).symm.trans hb.void)
        refine ⟨?_, hs.dom, fun b b' r o o' e e' hr hd hd' => hs.inj b b' r o o' e e' hr (hsol b _ hd) (hsol b' _ hd'), g4.size, ?_, hs.rows⟩
        intro b v hg
        obtain ⟨rr, oo, ee, hown⟩ := hs.blk b v hg
        rcases setBl_get H.cells hg with ⟨p, us, t, hm, rfl, hu⟩ | ⟨h1, h2⟩
        · obtain ⟨r, o, us', t', e, e', hbs⟩ := newB xs zs w w' ρ' s2 L.blks l1 l2 l L.n hle hs g4 m2 leR m3 hz g9 oldL b p hm (by rw [hg]; simp)
          rw [hu] at e'
          cases e'
          rw [e] at ee
          cases ee
          exact ⟨_, _, e, fun _ => ⟨hbs, (hown rfl).2⟩⟩
        · obtain ⟨r, o, e, hbs⟩ := oldB xs w w' ρ' s2 hle hs g4 g9 b v h1 (fun hm => by obtain ⟨p, hp, e⟩ := List.mem_map.1 hm; exact h2 p hp e)
          rw [e] at ee
          cases ee
          have hl : v.low L.base = true := allLow_at H.al (by have := H.un _ _ h1; omega) h1
          exact ⟨_, _, e, fun hv => ⟨hbs _ ag0 hv, (hown ((Blk.low_void ag _ hl).symm.trans hv)).2⟩⟩
        · intro b v hg
          rcases setBl_get H.cells hg with ⟨p, us, t, hm, rfl, hu⟩ | ⟨h1, h2⟩
          · exact trivial
          · have hl : v.low L.base = true := allLow_at H.al (by have := H.un _ _ h1; omega) h1
            exact Blk.low_wf ag hl (hs.wf b v hg)
      have hnone : ∀ b, nx ≤ b → (setBl h0 L.blks).get b = none := by
        intro b hb
        rw [setBl_other (fun p hp e => by
          obtain ⟨us, t, hu⟩ := H.cells p.1 p.2 hp
          have := lowNx p.1 (by rw [hu]; simp)
          omega)]
        cases hg : h0.get b with
        | none => rfl
        | some v => have := lowNx b (by rw [hg]; simp); omega
      obtain ⟨hsn, hlen⟩ := HS.addRows hs2 hnone r1 (fun q hf hB b o e hsol => hf b o e (solidLow zs b o hsol))
      rw [← setRw_e] at hsn
      have ht2 : TS (env.upd L.base zs) (plRw nx qs ρ) (setSl (keepT tm L.keep) (headSl L nx)) tmps' := by
        intro t s hts
        rcases setSl_get hts with hm | ⟨hk, hnot⟩
        · unfold headSl at hm
          rcases List.mem_append.1 hm with hm | hm
          · have le2 := (matchB_ok ag m2).1
            obtain ⟨V, hV, hr⟩ := (matchT_ok ag m1).2 ((hA.mono leR).mono le2) ρ' tmps' g3 t s hm
            exact ⟨V, hV, Rep.plain (ps _ hm) hr⟩
          · obtain ⟨i, p, hp, rfl, rfl⟩ := rowSl_mem hm
            obtain ⟨V, q, v1, v2, v3⟩ := r2 i p hp
            exact ⟨V, v1, v3 _ _ (plRw_at v2)⟩
        · obtain ⟨hm, hv⟩ := keepT_get hk
          obtain ⟨V, hV, hr⟩ := keepR xs tm' ρ' tmps' hle g3 g8 t s hm hv
          exact ⟨V, hV, (hr _ ag0).mono hlen⟩
      obtain ⟨x, tmps2, w2, todo2, qs2, q1, q2, q3, q4, q5, q6, q7, q8, q9⟩ := ih (plRw nx qs ρ) tmps' w' hlen ht2 g2 hs2 hsn cs kt
      have htodo : todo' = .inLoop body :: kt := g6
      rw [htodo] at g7
      exact ⟨x, tmps2, w2, todo2, qs2, q1, q2, q3, q4, q5, q6, g5.trans q7, g7.trans (.head st_inLoop q8), q9⟩
    · cases hc
end

end Go.SX

namespace Go.SX
open Go Go.RowKit
set_option linter.unusedVariables false
set_option linter.unusedSimpArgs false
set_option linter.unusedSectionVars false

theorem setBlks_ok {env : Env} {σ : Nat → E} {base : Nat} {t : Tree} {r : Out × St} : ∀ {bl : List (Nat × List SV)} {s : St}, runE env (setBlks σ base t bl) s = some r →
    ∃ s', runE env t s' = some r ∧ s'.nx = s.nx ∧ ∀ b, (b ∉ namesOf bl ∧ s'.h.get b = s.h.get b) ∨ (∃ l us ty, (b, l) ∈ bl ∧ s.h.get b = some (.cells us ty) ∧ s'.h.get b = some (.cells (SV.subL base σ l) ty))
  | [], s, h => ⟨s, h, rfl, fun b => .inl ⟨by simp [namesOf], rfl⟩⟩
  | (c, l) :: bl, s, h => by
      simp only [setBlks] at h
      obtain ⟨v, hv, _, h⟩ := runE_get h
      split at h
      · rename_i us ty
        obtain ⟨u, hu, _, h⟩ := runE_set h
        obtain ⟨s', h1, hnx, h2⟩ := setBlks_ok h
        refine ⟨s', h1, by rw [hnx, St.put_nx, St.touch_nx], fun b => ?_⟩
        have hg : ((s.touch c).put c (.cells (SV.subL base σ l) ty)).h.get b = if b = c then some (.cells (SV.subL base σ l) ty) else s.h.get b := by
          rw [St.put_h, St.touch_h, T.get_set]
        rcases h2 b with ⟨q1, q2⟩ | ⟨l', us', ty', q1, q2, q3⟩
        · rw [hg] at q2
          by_cases hbc : b = c
          · subst hbc
            rw [if_pos rfl] at q2
            exact .inr ⟨l, us, ty, by simp, hv, q2⟩
          · rw [if_neg hbc] at q2
            refine .inl ⟨?_, q2⟩
            simp only [namesOf, List.map_cons, List.mem_cons, not_or]
            exact ⟨hbc, q1⟩
        · rw [hg] at q2
          by_cases hbc : b = c
          · subst hbc
            rw [if_pos rfl] at q2
            cases q2
            exact .inr ⟨l', us, ty, by simp [q1], hv, q3⟩
          · rw [if_neg hbc] at q2
            exact .inr ⟨l', us', ty', by simp [q1], q2, q3⟩
      · exact (runE_fail h).elim

theorem goExits_ok {env : Env} {L : LC} {es : List E} {k : XS → Ctx → Tree} {s : St} {r : Out × St} : ∀ {xs : List XS} {j i : Nat} {cx : Ctx} {x : XS}, runE env (goExits L es cx k j xs) s = some r → cx.ok env → xs[i]? = some x →
    env.f L.K (denL env (es ++ L.ex)) = ((j + i : Nat) : Int) → ∃ cx', cx'.ok env ∧ runE env (k x cx') s = some r
  | [], j, i, cx, x, h, hc, hx, hf => by simp at hx
  | [y], j, i, cx, x, h, hc, hx, hf => by
      simp only [goExits] at h
      cases i with
      | zero => simp at hx; subst hx; exact ⟨cx, hc, h⟩
      | succ i => simp at hx
  | y :: z :: xs, j, i, cx, x, h, hc, hx, hf => by
      simp only [goExits] at h
      obtain ⟨cx', hc', h⟩ := branch_ok h hc
      have hv : (BE.cmp .eql (.app L.K (es ++ L.ex)) (.lit j)).den env = decide (i = 0) := by
        simp only [BE.den, E.den, cmpI, hf]
        by_cases hi : i = 0
        · subst hi; simp
        · simp [hi]
          omega
      rw [hv] at h
      cases i with
      | zero =>
        simp only [decide_true, cond_true] at h
        simp at hx
        subst hx
        exact ⟨cx', hc', h⟩
      | succ i =>
        simp only [Nat.add_one_ne_zero, decide_false, cond_false] at h
        exact goExits_ok (xs := z :: xs) (j := j + 1) (i := i) h hc' (by simpa using hx) (by rw [hf]; congr 1; omega)

theorem rngNeeds_ok {env : Env} : ∀ {es : List E} {rs : List (Int × Int)}, (∀ b, b ∈ rngNeeds es rs → b.den env = true) → ∀ (i : Nat) (lo hi : Int) (e : E), rs[i]? = some (lo, hi) → es[i]? = some e → lo ≤ e.den env ∧ e.den env ≤ hi
  | [], rs, h, i, lo, hi, e, h1, h2 => by simp at h2
  | e0 :: es, [], h, i, lo, hi, e, h1, h2 => by simp at h1
  | e0 :: es, (a, b) :: rs, h, 0, lo, hi, e, h1, h2 => by
      simp at h1 h2
      obtain ⟨rfl, rfl⟩ := h1
      subst h2
      have g1 := h (.cmp .geq e0 (.lit a)) (by simp [rngNeeds])
      have g2 := h (.cmp .leq e0 (.lit b)) (by simp [rngNeeds])
      simp [BE.den, E.den, cmpI] at g1 g2
      exact ⟨g1, of_decide_eq_true g2⟩
  | e0 :: es, (a, b) :: rs, h, i + 1, lo, hi, e, h1, h2 =>
      rngNeeds_ok (es := es) (rs := rs) (fun x hx => h x (by simp [rngNeeds, hx])) i lo hi e (by simpa using h1) (by simpa using h2)

theorem subSl_get {n : Nat} {σ : Nat → E} : ∀ {l : List (Nat × SV)} {t : Nat} {v : SV}, (t, v) ∈ subSl n σ l → ∃ p, (t, p) ∈ l ∧ v = p.sub n σ
  | [], t, v, h => by simp [subSl] at h
  | (u, p) :: l, t, v, h => by
      simp only [subSl, List.mem_cons] at h
      rcases h with h | h
      · cases h; exact ⟨p, by simp, rfl⟩
      · obtain ⟨q, h1, h2⟩ := subSl_get h
        exact ⟨q, by simp [h1], h2⟩

theorem killT_ok {env : Env} {t : Tree} {r : Out × St} : ∀ {bs : List Nat} {s : St}, runE env (killT t bs) s = some r →
    ∃ s', runE env t s' = some r ∧ (∀ b, s'.h.get b = (killL bs s.h).get b) ∧ s'.nx = s.nx
  | [], s, h => ⟨s, h, fun b => rfl, rfl⟩
  | c :: bs, s, h => by
      simp only [killT] at h
      obtain ⟨s1, h, h1, h2⟩ := killT_ok h
      obtain ⟨u, hu, _, h⟩ := runE_set h
      refine ⟨_, h, fun b => ?_, ?_⟩
      · rw [St.put_h, T.get_set, h1 b, killL, T.get_set]
      · rw [St.put_nx]; exact h2
theorem rowsT_ok {env : Env} {σ : Nat → E} {base : Nat} {t : Tree} {r : Out × St} : ∀ {rows : List RowP} {s : St}, runE env (rowsT σ base t rows) s = some r →
    ∃ s', runE env t s' = some r ∧ s'.h = setRe s.nx (rows.map (RowP.out σ base)) s.h ∧ s'.nx = s.nx + rows.length
  | [], s, h => ⟨s, h, rfl, rfl⟩
  | p :: rows, s, h => by
      simp only [rowsT] at h
      obtain ⟨_, h⟩ := runE_new h
      obtain ⟨s', h, h1, h2⟩ := rowsT_ok h
      refine ⟨s', h, ?_, ?_⟩
      · rw [h1]; rfl
      · rw [h2]; show s.nx + 1 + rows.length = _; simp; omega
theorem matchR_vec {n0 : Nat} {tm : T SV} {h : T Blk} : ∀ {rows : List RowP} {l l' : Asg} {bs : List Nat}, matchR n0 tm h rows l = some (l', bs) → ∀ b, b ∈ bs → ∀ us t, h.get b ≠ some (.cells us t)
  | [], l, l', bs, hm => by cases hm; intro b hb; simp at hb
  | p :: rows, l, l', bs, hm => by
      simp only [matchR] at hm
      split at hm
      case h_2 => cases hm
      rename_i b code N hra
      split at hm
      case h_2 => cases hm
      rename_i l1 h1
      split at hm
      case h_2 => cases hm
      rename_i l2 h2
      split at hm
      case h_2 => cases hm
      rename_i l3 bs3 h3
      rw [Option.map_eq_some_iff] at hm
      obtain ⟨bs', hab, e⟩ := hm
      cases e
      have ih := matchR_vec h3
      rcases addRn_ok hab with ⟨_, rfl⟩ | ⟨b0, rfl, rfl, hn, _⟩
      · exact ih
      · intro b hb us t
        rcases List.mem_cons.1 hb with rfl | hb
        · unfold rowAt at hra
          split at hra
          · rename_i b1 N1 hg
            split at hra
            · rename_i sig c' N' ty hb1
              split at hra
              · simp only [Option.some.injEq, Prod.mk.injEq] at hra
                rw [← hra.1, hb1]
                simp
              · cases hra
            · cases hra
          · split at hra
            · cases hra
            · cases hra
          · cases hra
        · exact ih b hb us t
theorem killL_low {n : Nat} {h : T Blk} {bs : List Nat} : ∀ {m : Nat}, allLow n h m = true → allLow n (killL bs h) m = true
  | 0, _ => rfl
  | m + 1, hl => by
      simp only [allLow, Bool.and_eq_true] at hl ⊢
      refine ⟨?_, killL_low hl.2⟩
      rw [killL_get]
      by_cases hm : m ∈ bs
      · simp [hm, Blk.low]
      · simp only [hm, if_false]; exact hl.1

variable {P : Program} {B : Nat} {R : Run}

/-- the frame goes on with another list of things to do -/
theorem FrOK.via {env : Env} (hR : FrOK P env B R) {F : FI} {todo tail : List Item} {tm : T SV} {df : List Nat} {cx : Ctx} {K : Res → Tree} {s : St} {r : Out × St} (h : runE env (R (.fr F todo tm df cx) K) s = some r) (hc : cx.ok env)
    {ρ0 ρ : Pl} {rd : Option Nat} {dfs dfs0 : List Deferred} {tmps tmps0 : Array Value} {w0 w : World} (hle : ρ0.le ρ) (hb : Below B w0 w) (hrd : RdS ρ F.rd rd) (hd : DfS ρ df dfs) (ht : TS env ρ tm tmps) (hn : tmps.size = F.nt) (hs : HS env ρ B s.h w)
    {cs : List Frame} {todo0 : List Item} (hst : Steps P (lone (mkF F.fn rd tmps0 dfs0 todo0) cs w0) (lone (mkF F.fn rd tmps dfs (todo ++ tail)) cs w)) :
    ∃ j tm' df' cx' s' ρ' dfs' tmps' w' todo', runE env (K (.left j tm' df' cx')) s' = some r ∧ cx'.ok env ∧ ρ0.le ρ' ∧ DfS ρ' df' dfs' ∧ TS env ρ' tm' tmps' ∧ tmps'.size = F.nt ∧ HS env ρ' B s'.h w' ∧ Below B w0 w' ∧
        Leaves tail j todo' ∧ Steps P (lone (mkF F.fn rd tmps0 dfs0 todo0) cs w0) (lone (mkF F.fn rd tmps' dfs' todo') cs w') := by
  obtain ⟨j, tm', df', cx', s', ρ', dfs', tmps', w', todo', g1, g2, g3, g4, g5, g6, g7, g8, g9, g10⟩ := hR F todo tm df cx K s r h hc ρ rd dfs tmps w hrd hd ht hn hs cs tail
  exact ⟨j, tm', df', cx', s', ρ', dfs', tmps', w', todo', g1, g2, Pl.le_trans hle g3, g4, g5, g6, g7, hb.trans g8, g9, hst.trans g10⟩

/-- the contracts of loops hold -/
def LoopsOK (fn : Nat → List Int → Int) (X : LBook) : Prop := ∀ env, env.f = fn → ∀ f i g, X f i = some g → ∀ tm s L, g tm s = some L → LoopOK env L

theorem loopT_ok {env : Env} (hFr : ∀ env', env'.f = env.f → FrOK P env' B R) {g : T SV → St → Option LC} (hL : ∀ tm s L, g tm s = some L → LoopOK env L) {F : FI} {body : Code} {k : List Item} {tm : T SV} {df : List Nat} {cx : Ctx} {K : Res → Tree} {s : St} {r : Out × St}
    (h : runE env (loopT R g F body k tm df cx K) s = some r) (hc : cx.ok env) (ρ : Pl) (rd : Option Nat) (dfs : List Deferred) (tmps : Array Value) (w : World) (hrd : RdS ρ F.rd rd) (hd : DfS ρ df dfs) (ht : TS env ρ tm tmps) (hn : tmps.size = F.nt)
    (hs : HS env ρ B s.h w) (cs : List Frame) (tail : List Item) :
    ∃ j tm' df' cx' s' ρ' dfs' tmps' w' todo', runE env (K (.left j tm' df' cx')) s' = some r ∧ cx'.ok env ∧ ρ.le ρ' ∧ DfS ρ' df' dfs' ∧ TS env ρ' tm' tmps' ∧ tmps'.size = F.nt ∧ HS env ρ' B s'.h w' ∧ Below B w w' ∧
        Leaves tail j todo' ∧ Steps P (lone (mkF F.fn rd tmps dfs ((.code (.loop body) :: k) ++ tail)) cs w) (lone (mkF F.fn rd tmps' dfs' todo') cs w') := by
  unfold loopT at h
  obtain ⟨_, h⟩ := runE_whole h
  split at h
  · exact (hFr env rfl).via h hc ρ.le_refl (Below.refl _ _) hrd hd ht hn hs (.one st_loop)
  rename_i L hg
  cases hck : (L.plain && keepLow L.base tm L.keep && allLow L.base s.h s.nx && T.under s.nx s.h 1 0 && (Nat.ble L.rngs.length L.n && L.olds s.nx)) with
  | false => rw [hck, cond_false] at h; exact (runE_fail h).elim
  | true =>
  rw [hck, cond_true] at h
  simp only [Bool.and_eq_true] at hck
  obtain ⟨⟨⟨⟨c1, c2⟩, c3⟩, c4⟩, c5, c6⟩ := hck
  have c5 := Nat.le_of_ble_eq_true c5
  split at h
  · exact (runE_fail h).elim
  rename_i l1 hm1
  split at h
  · exact (runE_fail h).elim
  rename_i l2 hm2
  split at h
  · exact (runE_fail h).elim
  rename_i l bs hmr
  cases hck2 : (asgIn L.base L.n l && (toCT (loopRun R L F body tm df cx (killL bs s.h) s.nx)).same L.ct) with
  | false => rw [hck2, cond_false] at h; exact (runE_fail h).elim
  | true =>
  rw [hck2, cond_true] at h
  simp only [Bool.and_eq_true] at hck2
  obtain ⟨d1, d2⟩ := hck2
  generalize hes : asgL l L.base L.n = es at h
  obtain ⟨hneeds, cx1, hc1, h⟩ := needAll_ok h hc
  generalize hxs : denL env es = xs
  have ag : Agree L.base env (env.upd L.base xs) := Env.agree env L.base xs
  have lenes : es.length = L.n := by rw [← hes]; exact length_asgL L.n L.base
  have hA := asg_upd (env := env) d1
  rw [hes, hxs] at hA
  -- the head holds
  have hv : ∀ i, (env.upd L.base xs).v (L.base + i) = xs.getD i 0 := by
    intro i
    simp only [Env.upd]
    rw [if_neg (by omega), Nat.add_sub_cancel_left]
  have hhead : HeadOK env L xs := by
    refine ⟨fun i lo hi hr => ?_, fun b hb => ?_⟩
    · rw [hv]
      cases he : es[i]? with
      | none =>
        -- a range without a variable
        exfalso
        have := (List.getElem?_eq_some_iff.1 hr).1
        have := List.getElem?_eq_none_iff.1 he
        omega
      | some e =>
        have := rngNeeds_ok (fun b hb => hneeds b (by simp [hb])) i lo hi e hr he
        have e2 : xs.getD i 0 = e.den env := by
          rw [← hxs]
          have := atL_den env es i
          simp [atL, he] at this
          simpa using this.symm
        rw [e2]
        exact this
    · have := hneeds (b.sub L.base (atL es)) (by simp; exact .inr (.inl ⟨b, hb, rfl⟩))
      rw [sub_at, hxs] at this
      exact this
  have hpre : ∀ b, b ∈ L.pre → b.den (env.upd L.base xs) = true := by
    intro b hb
    have := hneeds (b.sub L.base (atL es)) (by simp; exact .inr (.inr ⟨b, hb, rfl⟩))
    rw [sub_at, hxs] at this
    exact this
  obtain ⟨j, ys, x, hruns, hx, hK, hout, hpost, hprng⟩ := hL tm s L hg xs (by rw [← hxs, length_denL, lenes]) hhead hpre
  -- the store and the slots at the head
  obtain ⟨leR, hbs, hrows⟩ := matchR_ok (env' := env.upd L.base xs) hs ht hmr
  obtain ⟨qs, rok, rsl⟩ := hrows hA
  have hcells0 : ∀ b p, (b, p) ∈ L.blks → ∃ us t, s.h.get b = some (.cells us t) := by
    intro b p hb
    obtain ⟨us, vs, ty, e0, e1, _⟩ := (matchB_ok ag hm2).2 (hA.mono leR) b p hb
    exact ⟨us, ty, e0⟩
  have hbv : ∀ b, b ∈ bs → ∀ us t, s.h.get b ≠ some (.cells us t) := matchR_vec hmr
  have hcells : ∀ b p, (b, p) ∈ L.blks → ∃ us t, (killL bs s.h).get b = some (.cells us t) := by
    intro b p hb
    obtain ⟨us, t, e0⟩ := hcells0 b p hb
    refine ⟨us, t, ?_⟩
    rw [killL_get, if_neg (fun hm => hbv b hm us t e0)]
    exact e0
  have le2 := (matchB_ok ag hm2).1
  have hs0 := hs
  have c3 : allLow L.base (killL bs s.h) s.nx = true := killL_low c3
  have c4 : ∀ b v, (killL bs s.h).get b = some v → b < s.nx := by
    intro b v hg
    cases hq : s.h.get b with
    | none =>
      rw [killL_get] at hg
      split at hg
      · rename_i hm; exact absurd hq (hbs b hm).2
      · rw [hq] at hg; cases hg
    | some u => have := under_lt c4 hq; omega
  have hs : HS env ρ B (killL bs s.h) w := HS.killL hs0 (fun b hm => (hbs b hm).2)
  have hs2 : HS (env.upd L.base xs) ρ B (setBl (killL bs s.h) L.blks) w := by
    refine ⟨?_, fun b p hp => setBl_dom (hs.dom b p hp), ?_, hs.size, ?_, hs.rows⟩
    · intro b v hgv
      rcases setBl_get hcells hgv with ⟨p, us, t, hm, rfl, hu⟩ | ⟨h1, h2⟩
      · obtain ⟨us', vs, ty, e0, e1, e2⟩ := (matchB_ok ag hm2).2 (hA.mono leR) b p hm
        have hu0 : s.h.get b = some (.cells us t) := by
          rw [killL_get] at hu
          split at hu
          · cases hu
          · exact hu
        rw [hu0] at e0 e1
        cases e0
        cases e1
        obtain ⟨rr, oo, ee, hb, hown⟩ := hs.at b _ hu (fun _ => rfl)
        obtain ⟨ho, cs', hr, hob⟩ := hb
        exact ⟨rr, oo, ee, fun _ => ⟨⟨ho, cs', e2 ρ cs' hr, hob⟩, hown⟩⟩
      · obtain ⟨rr, oo, ee, hb⟩ := hs.blk b v h1
        have hl : v.low L.base = true := allLow_at c3 (by have := c4 _ _ h1; omega) h1
        refine ⟨rr, oo, ee, fun hv => ?_⟩
        obtain ⟨hb1, hown⟩ := hb (by rw [← Blk.low_void ag _ hl]; exact hv)
        exact ⟨BS.low ag hl hb1, hown⟩
    · intro b b' rr o o' h1 h2 hB hd1 hd2
      have key : ∀ b o, Solid (env.upd L.base xs) o ((setBl (killL bs s.h) L.blks).get b) → Solid env o ((killL bs s.h).get b) := by
        intro b o hb
        by_cases hbn : ∀ p, p ∈ L.blks → p.1 ≠ b
        · rw [setBl_other hbn] at hb
          cases hg : (killL bs s.h).get b with
          | none => exact fun v e => by cases e
          | some v =>
            rw [hg] at hb
            have hl : v.low L.base = true := allLow_at c3 (by have := c4 _ _ hg; omega) hg
            exact Solid.of ((Blk.low_void ag o hl).symm.trans hb.void)
        · obtain ⟨p, hp, e⟩ : ∃ p, p ∈ L.blks ∧ p.1 = b := by
            refine Classical.byContradiction fun hc => hbn fun p hp e => hc ⟨p, hp, e⟩
          obtain ⟨us, t, hu⟩ := hcells p.1 p.2 hp
          rw [← e, hu]
          exact Solid.of rfl
      exact hs.inj b b' rr o o' h1 h2 hB (key b _ hd1) (key b' _ hd2)
    · intro b v hgv
      rcases setBl_get hcells hgv with ⟨p, us, t, hm, rfl, hu⟩ | ⟨h1, h2⟩
      · exact trivial
      · have hl : v.low L.base = true := allLow_at c3 (by have := c4 _ _ h1; omega) h1
        exact Blk.low_wf ag hl (hs.wf b v h1)
  have hnone : ∀ b, s.nx ≤ b → (setBl (killL bs s.h) L.blks).get b = none := by
    intro b hb
    rw [setBl_other (fun p hp e => by
      obtain ⟨us, t, hu⟩ := hcells p.1 p.2 hp
      have := c4 _ _ hu
      omega)]
    cases hg : (killL bs s.h).get b with
    | none => rfl
    | some v => have := c4 _ _ hg; omega
  have solid0 : ∀ b o, Solid (env.upd L.base xs) o ((setBl (killL bs s.h) L.blks).get b) → Solid env o ((killL bs s.h).get b) := by
    intro b o hb
    by_cases hbn : ∀ p, p ∈ L.blks → p.1 ≠ b
    · rw [setBl_other hbn] at hb
      cases hg : (killL bs s.h).get b with
      | none => exact fun v e => by cases e
      | some v =>
        rw [hg] at hb
        have hl : v.low L.base = true := allLow_at c3 (by have := c4 _ _ hg; omega) hg
        exact Solid.of ((Blk.low_void ag o hl).symm.trans hb.void)
    · obtain ⟨p, hp, e⟩ : ∃ p, p ∈ L.blks ∧ p.1 = b := Classical.byContradiction fun hc => hbn fun p hp e => hc ⟨p, hp, e⟩
      obtain ⟨us, t, hu⟩ := hcells p.1 p.2 hp
      rw [← e, hu]
      exact Solid.of rfl
  have kill0 : ∀ b o, Solid env o ((killL bs s.h).get b) → (killL bs s.h).get b ≠ none → b ∉ bs ∧ Solid env o (s.h.get b) := by
    intro b o hb hne
    rw [killL_get] at hb
    split at hb
    · exact (Solid.dead hb).elim
    · rename_i hn; exact ⟨hn, hb⟩
  obtain ⟨hsk, hlek⟩ := HS.addRows hs2 hnone rok (fun q hf hB b o e hsol => by
    have hne : (killL bs s.h).get b ≠ none := hs.dom b _ e
    obtain ⟨k1, k2⟩ := kill0 b o (solid0 b o hsol) hne
    exact hf b o k1 e k2)
  rw [← setRw_e] at hsk
  have ht2 : TS (env.upd L.base xs) (plRw s.nx qs ρ) (setSl (keepT tm L.keep) (headSl L s.nx)) tmps := by
    intro t sv hts
    rcases setSl_get hts with hm | ⟨hk, hnot⟩
    · unfold headSl at hm
      rcases List.mem_append.1 hm with hm | hm
      · obtain ⟨V, hV, hr⟩ := (matchT_ok ag hm1).2 ((hA.mono leR).mono le2) ρ tmps ht t sv hm
        exact ⟨V, hV, hr.mono hlek⟩
      · obtain ⟨i, p, hp, rfl, rfl⟩ := rowSl_mem hm
        obtain ⟨V, q, v1, v2, v3⟩ := rsl i p hp
        exact ⟨V, v1, v3 _ _ (plRw_at v2)⟩
    · obtain ⟨hm, hvv⟩ := keepT_get hk
      obtain ⟨V, hV, hr⟩ := ht t sv hvv
      have hl : sv.low L.base = true := by
        simp only [keepLow, List.all_eq_true] at c2
        have := c2 t hm
        rw [hvv] at this
        exact this
      exact ⟨V, hV, (Rep.low ag hl hr).mono hlek⟩
  have hkr : ∀ t v, t ∈ L.keep → tm.get t = some v → ∃ V, Rep env ρ v V := fun t v _ hv => let ⟨V, _, hr⟩ := ht t v hv; ⟨V, hr⟩
  have H : LoopHyp P B R env L F body tm df cx (killL bs s.h) s.nx ρ := ⟨fun xs => hFr _ rfl, c1, c2, c3, c4, hcells, CT.same_eq d2, hc, hkr, c6⟩
  obtain ⟨x', tmps', w', todo', qs', q1, q2, q3, q4, q5, q6, q7, q8, q9, q10⟩ := loop_runs H hrd hd hruns (plRw s.nx qs ρ) tmps w hlek ht2 hn hs2 hsk cs (k ++ tail)
  rw [hx] at q1
  cases q1
  obtain ⟨pk, ps, pb, px, pr⟩ := plain_slots c1
  obtain ⟨px1, px2, px3⟩ := px x (List.mem_of_getElem? hx)
  have pr := pr x (List.mem_of_getElem? hx)
  -- the context
  have hc2 : (assumeAll (addRs cx1 (L.prng.map fun p => (p.1.sub L.base (atL es), p.2))) (L.post.map (BE.sub L.base (atL es)))).ok env := by
    refine assumeAll_ok (addRs_ok hc1 ?_) ?_
    · intro e lo hi hm
      obtain ⟨⟨e0, lo0, hi0⟩, hm0, e1⟩ := List.mem_map.1 hm
      cases e1
      rw [subE_at, hxs]
      exact hprng e0 lo hi hm0
    · intro b hb
      obtain ⟨b0, hb0, rfl⟩ := List.mem_map.1 hb
      rw [sub_at, hxs]
      exact hpost b0 hb0
  obtain ⟨cx2, hc3, h⟩ := goExits_ok (i := j) h hc2 hx (by rw [denL_append, hxs, hK]; congr 1; omega)
  obtain ⟨sk, h, hkill, hknx⟩ := killT_ok h
  obtain ⟨sb, h, hsbnx, hset0⟩ := setBlks_ok h
  have hset : ∀ b, (b ∉ namesOf x.blks ∧ sb.h.get b = (killL bs s.h).get b) ∨ (∃ l us ty, (b, l) ∈ x.blks ∧ (killL bs s.h).get b = some (.cells us ty) ∧ sb.h.get b = some (.cells (SV.subL L.base (outE L es) l) ty)) := by
    intro b
    have := hset0 b
    rw [hkill b] at this
    exact this
  have hsbn : sb.nx = s.nx := by rw [hsbnx, hknx]
  obtain ⟨s', h, hrw, hrnx⟩ := rowsT_ok h
  -- an environment in which the outcome's variables are the functions' values
  let env3 : Env := ⟨fun i => if i < L.base then env.v i else env.f (L.K + 1 + (i - L.base)) (xs ++ denL env L.ex), env.f⟩
  have ag3 : Agree (L.base + x.n) (env.upd L.base ys) env3 := by
    refine ⟨rfl, fun i hi => ?_⟩
    simp only [env3, Env.upd]
    split
    · rfl
    · rename_i hnl
      rw [hout (i - L.base) (by omega)]
  have hlo3 : ∀ i, i < L.base → env3.v i = env.v i := fun i hi => by simp [env3, hi]
  have hhi3 : ∀ i, L.base ≤ i → env3.v i = (outE L es (i - L.base)).den env := by
    intro i hi
    simp only [env3, outE, E.den, denL_append, hxs]
    rw [if_neg (by omega)]
  have repS : ∀ {p : SV} {V : Value}, p.plain = true → p.low (L.base + x.n) = true → Rep (env.upd L.base ys) ρ p V → Rep env ρ (p.sub L.base (outE L es)) V := by
    intro p V hp hl hr
    exact Rep.sub (env := env) (env' := env3) rfl hlo3 hhi3 hp (Rep.low ag3 hl hr)
  have hs3 : HS env ρ B sb.h w' := by
    have hsome : ∀ b, (killL bs s.h).get b ≠ none → sb.h.get b ≠ none := by
      intro b hb
      rcases hset b with ⟨_, e⟩ | ⟨l', us, ty, _, _, e⟩
      · rw [e]; exact hb
      · rw [e]; simp
    have hdead : ∀ b o, Solid env o (sb.h.get b) → Solid env o ((killL bs s.h).get b) := by
      intro b o hb
      rcases hset b with ⟨_, e⟩ | ⟨l', us, ty, _, e1, e⟩
      · rw [e] at hb; exact hb
      · rw [e1]; exact Solid.of rfl
    refine ⟨fun b v hgv => ?_, fun b p hp => hsome b (hs.dom b p hp), fun b b' rr o o' h1 h2 hB hd1 hd2 => hs.inj b b' rr o o' h1 h2 hB (hdead b _ hd1) (hdead b' _ hd2), q5.size, fun b v hgv => by
      rcases hset b with ⟨e0, e⟩ | ⟨l', us, ty, e0, e1, e⟩
      · rw [e] at hgv; exact hs.wf b v hgv
      · rw [e] at hgv; cases hgv; exact trivial, hs.rows⟩
    rcases hset b with ⟨e0, e⟩ | ⟨l', us, ty, e0, e1, e⟩
    · rw [e] at hgv
      obtain ⟨rr, oo, ee, hb⟩ := q5.old b v hgv (by rw [px3]; exact e0)
      obtain ⟨rr', oo', ee', hown⟩ := hs.blk b v hgv
      rw [ee] at ee'
      cases ee'
      exact ⟨rr, oo, ee, fun hv => ⟨hb hv, (hown hv).2⟩⟩
    · rw [e] at hgv
      cases hgv
      obtain ⟨rr, oo, us', t, ee, eu, hb⟩ := q5.new b l' e0
      rw [e1] at eu
      cases eu
      obtain ⟨rr', oo', ee', _, hown⟩ := hs.at b _ e1 (fun _ => rfl)
      rw [ee] at ee'
      cases ee'
      obtain ⟨ho, cs', hr, hob⟩ := hb
      obtain ⟨pl1, pl2⟩ := px2 _ e0
      exact ⟨rr, oo, ee, fun _ => ⟨⟨ho, cs', RepL.subF (env := env) (env' := env3) rfl hlo3 hhi3 pl1 (RepL.low ag3 pl2 hr), hob⟩, hown⟩⟩
  have hnone3 : ∀ b, s.nx ≤ b → sb.h.get b = none := by
    intro b hb
    have hz : (killL bs s.h).get b = none := by
      cases hg : (killL bs s.h).get b with
      | none => rfl
      | some v => have := c4 _ _ hg; omega
    rcases hset b with ⟨_, e⟩ | ⟨l', us, ty, _, e1, e⟩
    · rw [e]; exact hz
    · rw [hz] at e1; cases e1
  have rok3 : RowsOK env w' B (fun q => ∀ b o, ρ b = some (q, o) → ¬ Solid env o ((killL bs s.h).get b)) (x.rows.map (RowP.out (outE L es) L.base)) qs' := by
    refine RowsOK.congr (f := RowP.e) (fun p hp => ?_) q9
    obtain ⟨p1, p2, p3, p4⟩ := pr p hp
    refine ⟨rfl, rfl, ?_, ?_⟩
    · show (outE L es (p.c - L.base)).den env = (env.upd L.base ys).v p.c
      rw [← hhi3 p.c p1, ag3.2 p.c p2]
    · show (outE L es (p.n - L.base)).den env = (env.upd L.base ys).v p.n
      rw [← hhi3 p.n p3, ag3.2 p.n p4]
  have hs3' : HS env (plRw s.nx qs' ρ) B s'.h w' ∧ ρ.le (plRw s.nx qs' ρ) := by
    rw [hrw, hsbn]
    refine HS.addRows hs3 hnone3 rok3 (fun q hf hB b o e hsol => hf b o e ?_)
    rcases hset b with ⟨_, e⟩ | ⟨l', us, ty, _, e1, e⟩
    · rw [e] at hsol; exact hsol
    · rw [e1]; exact Solid.of rfl
  obtain ⟨hs4, hle4⟩ := hs3'
  have ht3 : TS env (plRw s.nx qs' ρ) (setSl (keepT tm L.keep) (subSl L.base (outE L es) x.slots ++ rowOut (outE L es) L.base s.nx x.rows)) tmps' := by
    intro t sv hts
    rcases setSl_get hts with hm | ⟨hk, hnot⟩
    · rcases List.mem_append.1 hm with hm | hm
      · obtain ⟨p, hp, rfl⟩ := subSl_get hm
        obtain ⟨V, hV, hr⟩ := q3 t p hp
        exact ⟨V, hV, (repS (px1 _ hp).1 (px1 _ hp).2 hr).mono hle4⟩
      · obtain ⟨i, p, hp, rfl, rfl⟩ := rowOut_mem hm
        obtain ⟨V, q, v1, v2, v3⟩ := q10 i p hp
        refine ⟨V, v1, ?_⟩
        obtain ⟨p1, p2, p3, p4⟩ := pr p (List.mem_of_getElem? hp)
        have hE : (outE L es (p.n - L.base)).den env = (E.var p.n).den (env.upd L.base ys) := by
          show _ = (env.upd L.base ys).v p.n
          rw [← hhi3 p.n p3, ag3.2 p.n p4]
        have := v3 (plRw s.nx qs' ρ) (s.nx + i) (plRw_at v2)
        obtain ⟨r, c, k0, k1, k2, k3, k4⟩ := this
        refine ⟨r, c, k0, ?_, ?_, k3, ?_⟩
        · rw [hE]; exact k1
        · rw [hE]; exact k2
        · rw [hE]; exact k4
    · obtain ⟨hm, hvv⟩ := keepT_get hk
      obtain ⟨V, hV, hr⟩ := q4 t sv hm hvv
      exact ⟨V, hV, hr.mono hle4⟩
  have hst : Steps P (lone (mkF F.fn rd tmps dfs ((.code (.loop body) :: k) ++ tail)) cs w) (lone (mkF F.fn rd tmps' dfs todo') cs w') := .head st_loop q8
  -- how the loop is left
  generalize setSl (keepT tm L.keep) (subSl L.base (outE L es) x.slots ++ rowOut (outE L es) L.base s.nx x.rows) = tmX at h ht3
  generalize plRw s.nx qs' ρ = ρ4 at hle4 ht3 hs4
  cases hj : x.jump with
  | ret =>
    rw [hj] at h q6
    exact ⟨some .ret, tmX, df, cx2, s', ρ4, dfs, tmps', w', todo', h, hc3, hle4, hd.mono hle4, ht3, q2, hs4, q7, q6, hst⟩
  | exit id =>
    rw [hj] at h q6
    obtain ⟨k0, rfl, hx0⟩ := q6
    simp only [leaveT] at h
    split at h
    · rename_i k' hk'
      have he : exitTo id (k0 ++ (.inLoop body :: (k ++ tail))) = some (k' ++ tail) := by
        rw [exitTo_none hx0]
        simp only [exitTo]
        exact exitTo_app hk'
      obtain ⟨j', tm', df', cx', s2, ρ', dfs', tmps2, w2, todo2, g1, g2, g3, g4, g5, g6, g7, g8, g9, g10⟩ := hFr env rfl F k' tmX df cx2 K s' r h hc3 ρ4 rd dfs tmps' w' (hrd.mono hle4) (hd.mono hle4) ht3 q2 hs4 cs tail
      exact ⟨j', tm', df', cx', s2, ρ', dfs', tmps2, w2, todo2, g1, g2, Pl.le_trans hle4 g3, g4, g5, g6, g7, q7.trans g8, g9, hst.trans (.head (st_exit he) g10)⟩
    · rename_i hk'
      refine ⟨some (.exit id), tmX, df, cx2, s', ρ4, dfs, tmps', w', _, h, hc3, hle4, hd.mono hle4, ht3, q2, hs4, q7, ⟨k0 ++ .inLoop body :: k, by simp, ?_⟩, hst⟩
      rw [exitTo_none hx0]
      simp only [exitTo]
      exact hk'
  | _ => rw [hj] at q6; exact q6.elim

end Go.SX
