/- Loops: the tree of a loop with a contract is right. -/
import Derived.Test.YtjgkcgkhcdeadaaSw20
namespace Go.SX
open Go Go.RowKit
set_option linter.unusedVariables false
set_option linter.unusedSimpArgs false
set_option linter.unusedSectionVars false

theorem setBlks_ok {env : Env} {σ : Nat → E} {base : Nat} {t : Tree} {r : Out × St} : ∀ {bl : List (Nat × List SV)} {s : St}, runE env (setBlks σ base t bl) s = some r →
    ∃ s', runE env t s' = some r ∧ s'.nx = s.nx ∧ ∀ b, (b ∉ namesOf bl ∧ s'.h.get b = s.h.get b) ∨ (∃ l us ty, (b, l) ∈ bl ∧ s.h.get b = some (.cells us ty) ∧ s'.h.get b = some (.cells (SV.subL base σ l) ty))
  | [], s, h => ⟨s, h, rfl, fun b => .inl ⟨by simp [namesOf], rfl⟩⟩
  | (c, l) :: bl, s, h => by
      simp only [setBlks] at h
      obtain ⟨v, hv, _, h⟩ := runE_get h
      split at h
      · rename_i us ty
        obtain ⟨u, hu, _, h⟩ := runE_set h
        obtain ⟨s', h1, hnx, h2⟩ := setBlks_ok h
        refine ⟨s', h1, by rw [hnx, St.put_nx, St.touch_nx], fun b => ?_⟩
        have hg : ((s.touch c).put c (.cells (SV.subL base σ l) ty)).h.get b = if b = c then some (.cells (SV.subL base σ l) ty) else s.h.get b := by
          rw [St.put_h, St.touch_h, T.get_set]
        rcases h2 b with ⟨q1, q2⟩ | ⟨l', us', ty', q1, q2, q3⟩
        · rw [hg] at q2
          by_cases hbc : b = c
          · subst hbc
            rw [if_pos rfl] at q2
            exact .inr ⟨l, us, ty, by simp, hv, q2⟩
          · rw [if_neg hbc] at q2
            refine .inl ⟨?_, q2⟩
            simp only [namesOf, List.map_cons, List.mem_cons, not_or]
            exact ⟨hbc, q1⟩
        · rw [hg] at q2
          by_cases hbc : b = c
          · subst hbc
            rw [if_pos rfl] at q2
            cases q2
            exact .inr ⟨l', us, ty, by simp [q1], hv, q3⟩
          · rw [if_neg hbc] at q2
            exact .inr ⟨l', us', ty', by simp [q1], q2, q3⟩
      · exact (runE_fail h).elim

theorem goExits_ok {env : Env} {L : LC} {es : List E} {k : XS → Ctx → Tree} {s : St} {r : Out × St} : ∀ {xs : List XS} {j i : Nat} {cx : Ctx} {x : XS}, runE env (goExits L es cx k j xs) s = some r → cx.ok env → xs[i]? = some x →
    env.f L.K (denL env (es ++ L.ex)) = ((j + i : Nat) : Int) → ∃ cx', cx'.ok env ∧ runE env (k x cx') s = some r
  | [], j, i, cx, x, h, hc, hx, hf => by simp at hx
  | [y], j, i, cx, x, h, hc, hx, hf => by
      simp only [goExits] at h
      cases i with
      | zero => simp at hx; subst hx; exact ⟨cx, hc, h⟩
      | succ i => simp at hx
  | y :: z :: xs, j, i, cx, x, h, hc, hx, hf => by
      simp only [goExits] at h
      obtain ⟨cx', hc', h⟩ := branch_ok h hc
      have hv : (BE.cmp .eql (.app L.K (es ++ L.ex)) (.lit j)).den env = decide (i = 0) := by
        simp only [BE.den, E.den, cmpI, hf]
        by_cases hi : i = 0
        · subst hi; simp
        · simp [hi]
          omega
      rw [hv] at h
      cases i with
      | zero =>
        simp only [decide_true, cond_true] at h
        simp at hx
        subst hx
        exact ⟨cx', hc', h⟩
      | succ i =>
        simp only [Nat.add_one_ne_zero, decide_false, cond_false] at h
        exact goExits_ok (xs := z :: xs) (j := j + 1) (i := i) h hc' (by simpa using hx) (by rw [hf]; congr 1; omega)

theorem rngNeeds_ok {env : Env} : ∀ {es : List E} {rs : List (Int × Int)}, (∀ b, b ∈ rngNeeds es rs → b.den env = true) → ∀ (i : Nat) (lo hi : Int) (e : E), rs[i]? = some (lo, hi) → es[i]? = some e → lo ≤ e.den env ∧ e.den env ≤ hi
  | [], rs, h, i, lo, hi, e, h1, h2 => by simp at h2
  | e0 :: es, [], h, i, lo, hi, e, h1, h2 => by simp at h1
  | e0 :: es, (a, b) :: rs, h, 0, lo, hi, e, h1, h2 => by
      simp at h1 h2
      obtain ⟨rfl, rfl⟩ := h1
      subst h2
      have g1 := h (.cmp .geq e0 (.lit a)) (by simp [rngNeeds])
      have g2 := h (.cmp .leq e0 (.lit b)) (by simp [rngNeeds])
      simp [BE.den, E.den, cmpI] at g1 g2
      exact ⟨g1, of_decide_eq_true g2⟩
  | e0 :: es, (a, b) :: rs, h, i + 1, lo, hi, e, h1, h2 =>
      rngNeeds_ok (es := es) (rs := rs) (fun x hx => h x (by simp [rngNeeds, hx])) i lo hi e (by simpa using h1) (by simpa using h2)

theorem subSl_get {n : Nat} {σ : Nat → E} : ∀ {l : List (Nat × SV)} {t : Nat} {v : SV}, (t, v) ∈ subSl n σ l → ∃ p, (t, p) ∈ l ∧ v = p.sub n σ
  | [], t, v, h => by simp [subSl] at h
  | (u, p) :: l, t, v, h => by
      simp only [subSl, List.mem_cons] at h
      rcases h with h | h
      · cases h; exact ⟨p, by simp, rfl⟩
      · obtain ⟨q, h1, h2⟩ := subSl_get h
        exact ⟨q, by simp [h1], h2⟩

theorem killT_ok {env : Env} {t : Tree} {r : Out × St} : ∀ {bs : List Nat} {s : St}, runE env (killT t bs) s = some r →
    ∃ s', runE env t s' = some r ∧ (∀ b, s'.h.get b = (killL bs s.h).get b) ∧ s'.nx = s.nx
  | [], s, h => ⟨s, h, fun b => rfl, rfl⟩
  | c :: bs, s, h => by
      simp only [killT] at h
      obtain ⟨s1, h, h1, h2⟩ := killT_ok h
      obtain ⟨u, hu, _, h⟩ := runE_set h
      refine ⟨_, h, fun b => ?_, ?_⟩
      · rw [St.put_h, T.get_set, h1 b, killL, T.get_set]
      · rw [St.put_nx]; exact h2
theorem rowsT_ok {env : Env} {σ : Nat → E} {base : Nat} {t : Tree} {r : Out × St} : ∀ {rows : List RowP} {s : St}, runE env (rowsT σ base t rows) s = some r →
    ∃ s', runE env t s' = some r ∧ s'.h = setRe s.nx (rows.map (RowP.out σ base)) s.h ∧ s'.nx = s.nx + rows.length
  | [], s, h => ⟨s, h, rfl, rfl⟩
  | p :: rows, s, h => by
      simp only [rowsT] at h
      obtain ⟨_, h⟩ := runE_new h
      obtain ⟨s', h, h1, h2⟩ := rowsT_ok h
      refine ⟨s', h, ?_, ?_⟩
      · rw [h1]; rfl
      · rw [h2]; show s.nx + 1 + rows.length = _; simp; omega
theorem matchR_vec {n0 : Nat} {tm : T SV} {h : T Blk} : ∀ {rows : List RowP} {l l' : Asg} {bs : List Nat}, matchR n0 tm h rows l = some (l', bs) → ∀ b, b ∈ bs → ∀ us t, h.get b ≠ some (.cells us t)
  | [], l, l', bs, hm => by cases hm; intro b hb; simp at hb
  | p :: rows, l, l', bs, hm => by
      simp only [matchR] at hm
      split at hm
      case h_2 => cases hm
      rename_i b code N hra
      split at hm
      case h_2 => cases hm
      rename_i l1 h1
      split at hm
      case h_2 => cases hm
      rename_i l2 h2
      split at hm
      case h_2 => cases hm
      rename_i l3 bs3 h3
      rw [Option.map_eq_some_iff] at hm
      obtain ⟨bs', hab, e⟩ := hm
      cases e
      have ih := matchR_vec h3
      rcases addRn_ok hab with ⟨_, rfl⟩ | ⟨b0, rfl, rfl, hn, _⟩
      · exact ih
      · intro b hb us t
        rcases List.mem_cons.1 hb with rfl | hb
        · unfold rowAt at hra
          split at hra
          · rename_i b1 N1 hg
            split at hra
            · rename_i sig c' N' ty hb1
              split at hra
              · simp only [Option.some.injEq, Prod.mk.injEq] at hra
                rw [← hra.1, hb1]
                simp
              · cases hra
            · cases hra
          · split at hra
            · cases hra
            · cases hra
          · cases hra
        · exact ih b hb us t
theorem killL_low {n : Nat} {h : T Blk} {bs : List Nat} : ∀ {m : Nat}, allLow n h m = true → allLow n (killL bs h) m = true
  | 0, _ => rfl
  | m + 1, hl => by
      simp only [allLow, Bool.and_eq_true] at hl ⊢
      refine ⟨?_, killL_low hl.2⟩
      rw [killL_get]
      by_cases hm : m ∈ bs
      · simp [hm, Blk.low]
      · simp only [hm, if_false]; exact hl.1

variable {P : Program} {B : Nat} {R : Run}

/-- the frame goes on with another list of things to do -/
theorem FrOK.via {env : Env} (hR : FrOK P env B R) {F : FI} {todo tail : List Item} {tm : T SV} {df : List Nat} {cx : Ctx} {K : Res → Tree} {s : St} {r : Out × St} (h : runE env (R (.fr F todo tm df cx) K) s = some r) (hc : cx.ok env)
    {ρ0 ρ : Pl} {rd : Option Nat} {dfs dfs0 : List Deferred} {tmps tmps0 : Array Value} {w0 w : World} (hle : ρ0.le ρ) (hb : Below B w0 w) (hrd : RdS ρ F.rd rd) (hd : DfS ρ df dfs) (ht : TS env ρ tm tmps) (hn : tmps.size = F.nt) (hs : HS env ρ B s.h w)
    {cs : List Frame} {todo0 : List Item} (hst : Steps P (lone (mkF F.fn rd tmps0 dfs0 todo0) cs w0) (lone (mkF F.fn rd tmps dfs (todo ++ tail)) cs w)) :
    ∃ j tm' df' cx' s' ρ' dfs' tmps' w' todo', runE env (K (.left j tm' df' cx')) s' = some r ∧ cx'.ok env ∧ ρ0.le ρ' ∧ DfS ρ' df' dfs' ∧ TS env ρ' tm' tmps' ∧ tmps'.size = F.nt ∧ HS env ρ' B s'.h w' ∧ Below B w0 w' ∧
        Leaves tail j todo' ∧ Steps P (lone (mkF F.fn rd tmps0 dfs0 todo0) cs w0) (lone (mkF F.fn rd tmps' dfs' todo') cs w') := by
  obtain ⟨j, tm', df', cx', s', ρ', dfs', tmps', w', todo', g1, g2, g3, g4, g5, g6, g7, g8, g9, g10⟩ := hR F todo tm df cx K s r h hc ρ rd dfs tmps w hrd hd ht hn hs cs tail
  exact ⟨j, tm', df', cx', s', ρ', dfs', tmps', w', todo', g1, g2, Pl.le_trans hle g3, g4, g5, g6, g7, hb.trans g8, g9, hst.trans g10⟩

/-- the contracts of loops hold -/
def LoopsOK (fn : Nat → List Int → Int) (X : LBook) : Prop := ∀ env, env.f = fn → ∀ f i g, X f i = some g → ∀ tm s L, g tm s = some L → LoopOK env L

theorem loopT_ok {env : Env} (hFr : ∀ env', env'.f = env.f → FrOK P env' B R) {g : T SV → St → Option LC} (hL : ∀ tm s L, g tm s = some L → LoopOK env L) {F : FI} {body : Code} {k : List Item} {tm : T SV} {df : List Nat} {cx : Ctx} {K : Res → Tree} {s : St} {r : Out × St}
    (h : runE env (loopT R g F body k tm df cx K) s = some r) (hc : cx.ok env) (ρ : Pl) (rd : Option Nat) (dfs : List Deferred) (tmps : Array Value) (w : World) (hrd : RdS ρ F.rd rd) (hd : DfS ρ df dfs) (ht : TS env ρ tm tmps) (hn : tmps.size = F.nt)
    (hs : HS env ρ B s.h w) (cs : List Frame) (tail : List Item) :
    ∃ j tm' df' cx' s' ρ' dfs' tmps' w' todo', runE env (K (.left j tm' df' cx')) s' = some r ∧ cx'.ok env ∧ ρ.le ρ' ∧ DfS ρ' df' dfs' ∧ TS env ρ' tm' tmps' ∧ tmps'.size = F.nt ∧ HS env ρ' B s'.h w' ∧ Below B w w' ∧
        Leaves tail j todo' ∧ Steps P (lone (mkF F.fn rd tmps dfs ((.code (.loop body) :: k) ++ tail)) cs w) (lone (mkF F.fn rd tmps' dfs' todo') cs w') := by
  unfold loopT at h
  obtain ⟨_, h⟩ := runE_whole h
  split at h
  · exact (hFr env rfl).via h hc ρ.le_refl (Below.refl _ _) hrd hd ht hn hs (.one st_loop)
  rename_i L hg
  cases hck : (L.plain && keepLow L.base tm L.keep && allLow L.base s.h s.nx && T.under s.nx s.h 1 0 && Nat.ble L.rngs.length L.n) with
  | false => rw [hck, cond_false] at h; exact (runE_fail h).elim
  | true =>
  rw [hck, cond_true] at h
  simp only [Bool.and_eq_true] at hck
  obtain ⟨⟨⟨⟨c1, c2⟩, c3⟩, c4⟩, c5⟩ := hck
  have c5 := Nat.le_of_ble_eq_true c5
  split at h
  · exact (runE_fail h).elim
  rename_i l1 hm1
  split at h
  · exact (runE_fail h).elim
  rename_i l2 hm2
  split at h
  · exact (runE_fail h).elim
  rename_i l bs hmr
  cases hck2 : (asgIn L.base L.n l && (toCT (loopRun R L F body tm df cx (killL bs s.h) s.nx)).same L.ct) with
  | false => rw [hck2, cond_false] at h; exact (runE_fail h).elim
  | true =>
  rw [hck2, cond_true] at h
  simp only [Bool.and_eq_true] at hck2
  obtain ⟨d1, d2⟩ := hck2
  generalize hes : asgL l L.base L.n = es at h
  obtain ⟨hneeds, cx1, hc1, h⟩ := needAll_ok h hc
  generalize hxs : denL env es = xs
  have ag : Agree L.base env (env.upd L.base xs) := Env.agree env L.base xs
  have lenes : es.length = L.n := by rw [← hes]; exact length_asgL L.n L.base
  have hA := asg_upd (env := env) d1
  rw [hes, hxs] at hA
  -- the head holds
  have hv : ∀ i, (env.upd L.base xs).v (L.base + i) = xs.getD i 0 := by
    intro i
    simp only [Env.upd]
    rw [if_neg (by omega), Nat.add_sub_cancel_left]
  have hhead : HeadOK env L xs := by
    refine ⟨fun i lo hi hr => ?_, fun b hb => ?_⟩
    · rw [hv]
      cases he : es[i]? with
      | none =>
        -- a range without a variable
        exfalso
        have := (List.getElem?_eq_some_iff.1 hr).1
        have := List.getElem?_eq_none_iff.1 he
        omega
      | some e =>
        have := rngNeeds_ok (fun b hb => hneeds b (by simp [hb])) i lo hi e hr he
        have e2 : xs.getD i 0 = e.den env := by
          rw [← hxs]
          have := atL_den env es i
          simp [atL, he] at this
          simpa using this.symm
        rw [e2]
        exact this
    · have := hneeds (b.sub L.base (atL es)) (by simp; exact .inr (.inl ⟨b, hb, rfl⟩))
      rw [sub_at, hxs] at this
      exact this
  have hpre : ∀ b, b ∈ L.pre → b.den (env.upd L.base xs) = true := by
    intro b hb
    have := hneeds (b.sub L.base (atL es)) (by simp; exact .inr (.inr ⟨b, hb, rfl⟩))
    rw [sub_at, hxs] at this
    exact this
  obtain ⟨j, ys, x, hruns, hx, hK, hout, hpost, hprng⟩ := hL tm s L hg xs (by rw [← hxs, length_denL, lenes]) hhead hpre
  -- the store and the slots at the head
  obtain ⟨leR, hbs, hrows⟩ := matchR_ok (env' := env.upd L.base xs) hs ht hmr
  obtain ⟨qs, rok, rsl⟩ := hrows hA
  have hcells0 : ∀ b p, (b, p) ∈ L.blks → ∃ us t, s.h.get b = some (.cells us t) := by
    intro b p hb
    obtain ⟨us, vs, ty, e0, e1, _⟩ := (matchB_ok ag hm2).2 (hA.mono leR) b p hb
    exact ⟨us, ty, e0⟩
  have hbv : ∀ b, b ∈ bs → ∀ us t, s.h.get b ≠ some (.cells us t) := matchR_vec hmr
  have hcells : ∀ b p, (b, p) ∈ L.blks → ∃ us t, (killL bs s.h).get b = some (.cells us t) := by
    intro b p hb
    obtain ⟨us, t, e0⟩ := hcells0 b p hb
    refine ⟨us, t, ?_⟩
    rw [killL_get, if_neg (fun hm => hbv b hm us t e0)]
    exact e0
  have le2 := (matchB_ok ag hm2).1
  have hs0 := hs
  have c3 : allLow L.base (killL bs s.h) s.nx = true := killL_low c3
  have c4 : ∀ b v, (killL bs s.h).get b = some v → b < s.nx := by
    intro b v hg
    cases hq : s.h.get b with
    | none =>
      rw [killL_get] at hg
      split at hg
      · rename_i hm; exact absurd hq (hbs b hm).2
      · rw [hq] at hg; cases hg
    | some u => have := under_lt c4 hq; omega
  have hs : HS env ρ B (killL bs s.h) w := HS.killL hs0 (fun b hm => (hbs b hm).2)
  have hs2 : HS (env.upd L.base xs) ρ B (setBl (killL bs s.h) L.blks) w := by
    refine ⟨?_, fun b p hp => setBl_dom (hs.dom b p hp), ?_, hs.size, ?_, hs.rows⟩
    · intro b v hgv
      rcases setBl_get hcells hgv with ⟨p, us, t, hm, rfl, hu⟩ | ⟨h1, h2⟩
      · obtain ⟨us', vs, ty, e0, e1, e2⟩ := (matchB_ok ag hm2).2 (hA.mono leR) b p hm
        have hu0 : s.h.get b = some (.cells us t) := by
          rw [killL_get] at hu
          split at hu
          · cases hu
          · exact hu
        rw [hu0] at e0 e1
        cases e0
        cases e1
        obtain ⟨rr, oo, ee, hb, hown⟩ := hs.at b _ hu (fun _ => rfl)
        obtain ⟨ho, cs', hr, hob⟩ := hb
        exact ⟨rr, oo, ee, fun _ => ⟨⟨ho, cs', e2 ρ cs' hr, hob⟩, hown⟩⟩
      · obtain ⟨rr, oo, ee, hb⟩ := hs.blk b v h1
        have hl : v.low L.base = true := allLow_at c3 (by have := c4 _ _ h1; omega) h1
        refine ⟨rr, oo, ee, fun hv => ?_⟩
        obtain ⟨hb1, hown⟩ := hb (by rw [← Blk.low_void ag _ hl]; exact hv)
        exact ⟨BS.low ag hl hb1, hown⟩
    · intro b b' rr o o' h1 h2 hB hd1 hd2
      have key : ∀ b o, Solid (env.upd L.base xs) o ((setBl (killL bs s.h) L.blks).get b) → Solid env o ((killL bs s.h).get b) := by
        intro b o hb
        by_cases hbn : ∀ p, p ∈ L.blks → p.1 ≠ b
        · rw [setBl_other hbn] at hb
          cases hg : (killL bs s.h).get b with
          | none => exact fun v e => by cases e
          | some v =>
            rw [hg] at hb
            have hl : v.low L.base = true := allLow_at c3 (by have := c4 _ _ hg; omega) hg
            exact Solid.of ((Blk.low_void ag o hl).symm.trans hb.void)
        · obtain ⟨p, hp, e⟩ : ∃ p, p ∈ L.blks ∧ p.1 = b := by
            refine Classical.byContradiction fun hc => hbn fun p hp e => hc ⟨p, hp, e⟩
          obtain ⟨us, t, hu⟩ := hcells p.1 p.2 hp
          rw [← e, hu]
          exact Solid.of rfl
      exact hs.inj b b' rr o o' h1 h2 hB (key b _ hd1) (key b' _ hd2)
    · intro b v hgv
      rcases setBl_get hcells hgv with ⟨p, us, t, hm, rfl, hu⟩ | ⟨h1, h2⟩
      · exact trivial
      · have hl : v.low L.base = true := allLow_at c3 (by have := c4 _ _ h1; omega) h1
        exact Blk.low_wf ag hl (hs.wf b v h1)
  have hnone : ∀ b, s.nx ≤ b → (setBl (killL bs s.h) L.blks).get b = none := by
    intro b hb
    rw [setBl_other (fun p hp e => by
      obtain ⟨us, t, hu⟩ := hcells p.1 p.2 hp
      have := c4 _ _ hu
      omega)]
    cases hg : (killL bs s.h).get b with
    | none => rfl
    | some v => have := c4 _ _ hg; omega
  have solid0 : ∀ b o, Solid (env.upd L.base xs) o ((setBl (killL bs s.h) L.blks).get b) → Solid env o ((killL bs s.h).get b) := by
    intro b o hb
    by_cases hbn : ∀ p, p ∈ L.blks → p.1 ≠ b
    · rw [setBl_other hbn] at hb
      cases hg : (killL bs s.h).get b with
      | none => exact fun v e => by cases e
      | some v =>
        rw [hg] at hb
        have hl : v.low L.base = true := allLow_at c3 (by have := c4 _ _ hg; omega) hg
        exact Solid.of ((Blk.low_void ag o hl).symm.trans hb.void)
    · obtain ⟨p, hp, e⟩ : ∃ p, p ∈ L.blks ∧ p.1 = b := Classical.byContradiction fun hc => hbn fun p hp e => hc ⟨p, hp, e⟩
      obtain ⟨us, t, hu⟩ := hcells p.1 p.2 hp
      rw [← e, hu]
      exact Solid.of rfl
  have kill0 : ∀ b o, Solid env o ((killL bs s.h).get b) → (killL bs s.h).get b ≠ none → b ∉ bs ∧ Solid env o (s.h.get b) := by
    intro b o hb hne
    rw [killL_get] at hb
    split at hb
    · exact (Solid.dead hb).elim
    · rename_i hn; exact ⟨hn, hb⟩
  obtain ⟨hsk, hlek⟩ := HS.addRows hs2 hnone rok (fun q hf hB b o e hsol => by
    have hne : (killL bs s.h).get b ≠ none := hs.dom b _ e
    obtain ⟨k1, k2⟩ := kill0 b o (solid0 b o hsol) hne
    exact hf b o k1 e k2)
  rw [← setRw_e] at hsk
  have ht2 : TS (env.upd L.base xs) (plRw s.nx qs ρ) (setSl (keepT tm L.keep) (headSl L s.nx)) tmps := by
    intro t sv hts
    rcases setSl_get hts with hm | ⟨hk, hnot⟩
    · unfold headSl at hm
      rcases List.mem_append.1 hm with hm | hm
      · obtain ⟨V, hV, hr⟩ := (matchT_ok ag hm1).2 ((hA.mono leR).mono le2) ρ tmps ht t sv hm
        exact ⟨V, hV, hr.mono hlek⟩
      · obtain ⟨i, p, hp, rfl, rfl⟩ := rowSl_mem hm
        obtain ⟨V, q, v1, v2, v3⟩ := rsl i p hp
        exact ⟨V, v1, v3 _ _ (plRw_at v2)⟩
    · obtain ⟨hm, hvv⟩ := keepT_get hk
      obtain ⟨V, hV, hr⟩ := ht t sv hvv
      have hl : sv.low L.base = true := by
        simp only [keepLow, List.all_eq_true] at c2
        have := c2 t hm
        rw [hvv] at this
        exact this
      exact ⟨V, hV, (Rep.low ag hl hr).mono hlek⟩
  have hkr : ∀ t v, t ∈ L.keep → tm.get t = some v → ∃ V, Rep env ρ v V := fun t v _ hv => let ⟨V, _, hr⟩ := ht t v hv; ⟨V, hr⟩
  have H : LoopHyp P B R env L F body tm df cx (killL bs s.h) s.nx ρ := ⟨fun xs => hFr _ rfl, c1, c2, c3, c4, hcells, CT.same_eq d2, hc, hkr⟩
  obtain ⟨x', tmps', w', todo', qs', q1, q2, q3, q4, q5, q6, q7, q8, q9, q10⟩ := loop_runs H hrd hd hruns (plRw s.nx qs ρ) tmps w hlek ht2 hn hs2 hsk cs (k ++ tail)
  rw [hx] at q1
  cases q1
  obtain ⟨pk, ps, pb, px, pr⟩ := plain_slots c1
  obtain ⟨px1, px2, px3⟩ := px x (List.mem_of_getElem? hx)
  have pr := pr x (List.mem_of_getElem? hx)
  -- the context
  have hc2 : (assumeAll (addRs cx1 (L.prng.map fun p => (p.1.sub L.base (atL es), p.2))) (L.post.map (BE.sub L.base (atL es)))).ok env := by
    refine assumeAll_ok (addRs_ok hc1 ?_) ?_
    · intro e lo hi hm
      obtain ⟨⟨e0, lo0, hi0⟩, hm0, e1⟩ := List.mem_map.1 hm
      cases e1
      rw [subE_at, hxs]
      exact hprng e0 lo hi hm0
    · intro b hb
      obtain ⟨b0, hb0, rfl⟩ := List.mem_map.1 hb
      rw [sub_at, hxs]
      exact hpost b0 hb0
  obtain ⟨cx2, hc3, h⟩ := goExits_ok (i := j) h hc2 hx (by rw [denL_append, hxs, hK]; congr 1; omega)
  obtain ⟨sk, h, hkill, hknx⟩ := killT_ok h
  obtain ⟨sb, h, hsbnx, hset0⟩ := setBlks_ok h
  have hset : ∀ b, (b ∉ namesOf x.blks ∧ sb.h.get b = (killL bs s.h).get b) ∨ (∃ l us ty, (b, l) ∈ x.blks ∧ (killL bs s.h).get b = some (.cells us ty) ∧ sb.h.get b = some (.cells (SV.subL L.base (outE L es) l) ty)) := by
    intro b
    have := hset0 b
    rw [hkill b] at this
    exact this
  have hsbn : sb.nx = s.nx := by rw [hsbnx, hknx]
  obtain ⟨s', h, hrw, hrnx⟩ := rowsT_ok h
  -- an environment in which the outcome's variables are the functions' values
  let env3 : Env := ⟨fun i => if i < L.base then env.v i else env.f (L.K + 1 + (i - L.base)) (xs ++ denL env L.ex), env.f⟩
  have ag3 : Agree (L.base + x.n) (env.upd L.base ys) env3 := by
    refine ⟨rfl, fun i hi => ?_⟩
    simp only [env3, Env.upd]
    split
    · rfl
    · rename_i hnl
      rw [hout (i - L.base) (by omega)]
  have hlo3 : ∀ i, i < L.base → env3.v i = env.v i := fun i hi => by simp [env3, hi]
  have hhi3 : ∀ i, L.base ≤ i → env3.v i = (outE L es (i - L.base)).den env := by
    intro i hi
    simp only [env3, outE, E.den, denL_append, hxs]
    rw [if_neg (by omega)]
  have repS : ∀ {p : SV} {V : Value}, p.plain = true → p.low (L.base + x.n) = true → Rep (env.upd L.base ys) ρ p V → Rep env ρ (p.sub L.base (outE L es)) V := by
    intro p V hp hl hr
    exact Rep.sub (env := env) (env' := env3) rfl hlo3 hhi3 hp (Rep.low ag3 hl hr)
  have hs3 : HS env ρ B sb.h w' := by
    have hsome : ∀ b, (killL bs s.h).get b ≠ none → sb.h.get b ≠ none := by
      intro b hb
      rcases hset b with ⟨_, e⟩ | ⟨l', us, ty, _, _, e⟩
      · rw [e]; exact hb
      · rw [e]; simp
    have hdead : ∀ b o, Solid env o (sb.h.get b) → Solid env o ((killL bs s.h).get b) := by
      intro b o hb
      rcases hset b with ⟨_, e⟩ | ⟨l', us, ty, _, e1, e⟩
      · rw [e] at hb; exact hb
      · rw [e1]; exact Solid.of rfl
    refine ⟨fun b v hgv => ?_, fun b p hp => hsome b (hs.dom b p hp), fun b b' rr o o' h1 h2 hB hd1 hd2 => hs.inj b b' rr o o' h1 h2 hB (hdead b _ hd1) (hdead b' _ hd2), q5.size, fun b v hgv => by
      rcases hset b with ⟨e0, e⟩ | ⟨l', us, ty, e0, e1, e⟩
      · rw [e] at hgv; exact hs.wf b v hgv
      · rw [e] at hgv; cases hgv; exact trivial, hs.rows⟩
    rcases hset b with ⟨e0, e⟩ | ⟨l', us, ty, e0, e1, e⟩
    · rw [e] at hgv
      obtain ⟨rr, oo, ee, hb⟩ := q5.old b v hgv (by rw [px3]; exact e0)
      obtain ⟨rr', oo', ee', hown⟩ := hs.blk b v hgv
      rw [ee] at ee'
      cases ee'
      exact ⟨rr, oo, ee, fun hv => ⟨hb hv, (hown hv).2⟩⟩
    · rw [e] at hgv
      cases hgv
      obtain ⟨rr, oo, us', t, ee, eu, hb⟩ := q5.new b l' e0
      rw [e1] at eu
      cases eu
      obtain ⟨rr', oo', ee', _, hown⟩ := hs.at b _ e1 (fun _ => rfl)
      rw [ee] at ee'
      cases ee'
      obtain ⟨ho, cs', hr, hob⟩ := hb
      obtain ⟨pl1, pl2⟩ := px2 _ e0
      exact ⟨rr, oo, ee, fun _ => ⟨⟨ho, cs', RepL.sub (env := env) (env' := env3) rfl hlo3 hhi3 pl1 (RepL.low ag3 pl2 hr), hob⟩, hown⟩⟩
  have hnone3 : ∀ b, s.nx ≤ b → sb.h.get b = none := by
    intro b hb
    have hz : (killL bs s.h).get b = none := by
      cases hg : (killL bs s.h).get b with
      | none => rfl
      | some v => have := c4 _ _ hg; omega
    rcases hset b with ⟨_, e⟩ | ⟨l', us, ty, _, e1, e⟩
    · rw [e]; exact hz
    · rw [hz] at e1; cases e1
  have rok3 : RowsOK env w' B (fun q => ∀ b o, ρ b = some (q, o) → ¬ Solid env o ((killL bs s.h).get b)) (x.rows.map (RowP.out (outE L es) L.base)) qs' := by
    refine RowsOK.congr (f := RowP.e) (fun p hp => ?_) q9
    obtain ⟨p1, p2, p3, p4⟩ := pr p hp
    refine ⟨rfl, rfl, ?_, ?_⟩
    · show (outE L es (p.c - L.base)).den env = (env.upd L.base ys).v p.c
      rw [← hhi3 p.c p1, ag3.2 p.c p2]
    · show (outE L es (p.n - L.base)).den env = (env.upd L.base ys).v p.n
      rw [← hhi3 p.n p3, ag3.2 p.n p4]
  have hs3' : HS env (plRw s.nx qs' ρ) B s'.h w' ∧ ρ.le (plRw s.nx qs' ρ) := by
    rw [hrw, hsbn]
    refine HS.addRows hs3 hnone3 rok3 (fun q hf hB b o e hsol => hf b o e ?_)
    rcases hset b with ⟨_, e⟩ | ⟨l', us, ty, _, e1, e⟩
    · rw [e] at hsol; exact hsol
    · rw [e1]; exact Solid.of rfl
  obtain ⟨hs4, hle4⟩ := hs3'
  have ht3 : TS env (plRw s.nx qs' ρ) (setSl (keepT tm L.keep) (subSl L.base (outE L es) x.slots ++ rowOut (outE L es) L.base s.nx x.rows)) tmps' := by
    intro t sv hts
    rcases setSl_get hts with hm | ⟨hk, hnot⟩
    · rcases List.mem_append.1 hm with hm | hm
      · obtain ⟨p, hp, rfl⟩ := subSl_get hm
        obtain ⟨V, hV, hr⟩ := q3 t p hp
        exact ⟨V, hV, (repS (px1 _ hp).1 (px1 _ hp).2 hr).mono hle4⟩
      · obtain ⟨i, p, hp, rfl, rfl⟩ := rowOut_mem hm
        obtain ⟨V, q, v1, v2, v3⟩ := q10 i p hp
        refine ⟨V, v1, ?_⟩
        obtain ⟨p1, p2, p3, p4⟩ := pr p (List.mem_of_getElem? hp)
        have hE : (outE L es (p.n - L.base)).den env = (E.var p.n).den (env.upd L.base ys) := by
          show _ = (env.upd L.base ys).v p.n
          rw [← hhi3 p.n p3, ag3.2 p.n p4]
        have := v3 (plRw s.nx qs' ρ) (s.nx + i) (plRw_at v2)
        obtain ⟨r, c, k0, k1, k2, k3, k4⟩ := this
        refine ⟨r, c, k0, ?_, ?_, k3, ?_⟩
        · rw [hE]; exact k1
        · rw [hE]; exact k2
        · rw [hE]; exact k4
    · obtain ⟨hm, hvv⟩ := keepT_get hk
      obtain ⟨V, hV, hr⟩ := q4 t sv hm hvv
      exact ⟨V, hV, hr.mono hle4⟩
  have hst : Steps P (lone (mkF F.fn rd tmps dfs ((.code (.loop body) :: k) ++ tail)) cs w) (lone (mkF F.fn rd tmps' dfs todo') cs w') := .head st_loop q8
  -- how the loop is left
  generalize setSl (keepT tm L.keep) (subSl L.base (outE L es) x.slots ++ rowOut (outE L es) L.base s.nx x.rows) = tmX at h ht3
  generalize plRw s.nx qs' ρ = ρ4 at hle4 ht3 hs4
  cases hj : x.jump with
  | ret =>
    rw [hj] at h q6
    exact ⟨some .ret, tmX, df, cx2, s', ρ4, dfs, tmps', w', todo', h, hc3, hle4, hd.mono hle4, ht3, q2, hs4, q7, q6, hst⟩
  | exit id =>
    rw [hj] at h q6
    obtain ⟨k0, rfl, hx0⟩ := q6
    simp only [leaveT] at h
    split at h
    · rename_i k' hk'
      have he : exitTo id (k0 ++ (.inLoop body :: (k ++ tail))) = some (k' ++ tail) := by
        rw [exitTo_none hx0]
        simp only [exitTo]
        exact exitTo_app hk'
      obtain ⟨j', tm', df', cx', s2, ρ', dfs', tmps2, w2, todo2, g1, g2, g3, g4, g5, g6, g7, g8, g9, g10⟩ := hFr env rfl F k' tmX df cx2 K s' r h hc3 ρ4 rd dfs tmps' w' (hrd.mono hle4) (hd.mono hle4) ht3 q2 hs4 cs tail
      exact ⟨j', tm', df', cx', s2, ρ', dfs', tmps2, w2, todo2, g1, g2, Pl.le_trans hle4 g3, g4, g5, g6, g7, q7.trans g8, g9, hst.trans (.head (st_exit he) g10)⟩
    · rename_i hk'
      refine ⟨some (.exit id), tmX, df, cx2, s', ρ4, dfs, tmps', w', _, h, hc3, hle4, hd.mono hle4, ht3, q2, hs4, q7, ⟨k0 ++ .inLoop body :: k, by simp, ?_⟩, hst⟩
      rw [exitTo_none hx0]
      simp only [exitTo]
      exact hk'
  | _ => rw [hj] at q6; exact q6.elim

end Go.SX
