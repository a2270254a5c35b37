/- A region whose order is open: every order comes to the same. -/
import Derived.Test.YtjgkcgkhcdeadaaSw9
namespace Go.SX
open Go Go.RowKit
set_option linter.unusedVariables false
set_option linter.unusedSimpArgs false
set_option linter.unusedSectionVars false

theorem HS.ext {env : Env} {ρ : Pl} {B : Nat} {h h' : T Blk} {w : World} (hs : HS env ρ B h w) (he : ∀ b, h'.get b = h.get b) : HS env ρ B h' w :=
  ⟨fun b v hb => hs.blk b v (by rw [← he]; exact hb), fun b p e => by rw [he]; exact hs.dom b p e, fun b b' r o o' e e' hr hd hd' => hs.inj b b' r o o' e e' hr (by rw [← he]; exact hd) (by rw [← he]; exact hd'), hs.size, fun b v hb => hs.wf b v (by rw [← he]; exact hb), hs.rows⟩

section
variable {P : Program} {env : Env} {R : Run} {F : FI} {ops : Array Oper} {B : Nat}
variable {tm0 : T SV} {s0 : St} {tr : List TR} {tm : T SV} {s : St} {masks : T Nat} {rs : List Rec}

theorem Valid.rising (h : Valid P env R F ops tm0 s0 tr tm s masks rs) : tr.Pairwise (fun a b => a.i < b.i) := by
  rw [List.pairwise_iff_getElem]
  intro i j hi hj hij
  have e1 := h.idx i _ (List.getElem?_eq_getElem hi)
  have e2 := h.idx j _ (List.getElem?_eq_getElem hj)
  omega

theorem Valid.inj (h : Valid P env R F ops tm0 s0 tr tm s masks rs) {t u : TR} (ht : t ∈ tr) (hu : u ∈ tr) (e : t.i = u.i) : t = u := by
  have h1 := (h.last ht).1
  have h2 := (h.last hu).1
  rw [e] at h1
  rw [h1] at h2
  cases h2
  rfl

/-- what has run, in the machine's order -/
structure Inv (env : Env) (F : FI) (B : Nat) (ops : Array Oper) (tm0 : T SV) (s0 : St) (tr LR : List TR) (hL : T Blk) (ρ : Pl) (w : World) (tmps : Array Value) : Prop where
  mem : ∀ u, u ∈ LR → u ∈ tr
  clo : ∀ u, u ∈ LR → ∀ t, t ∈ tr → u.m.testBit t.i = true → t ∈ LR
  sB : ∀ b, (LR.filter (TR.affB b)).Pairwise (fun a b => a.i < b.i)
  sT : ∀ x, (LR.filter (TR.affT x)).Pairwise (fun a b => a.i < b.i)
  hs : HS env ρ B hL w
  hH : ∀ b, hL.get b = srcH s0.h LR b
  hT : ∀ x sv, srcT tm0 LR x = some sv → ∃ V, tmps[x]? = some V ∧ Rep env ρ sv V
  hn : tmps.size = F.nt

variable {LR : List TR} {hL : T Blk} {ρ : Pl} {w : World} {tmps : Array Value}

theorem affB_iff {b : Nat} {t : TR} : t.affB b = true ↔ t.ex = true ∧ (b ∈ t.s1.wr ∨ (t.s.nx ≤ b ∧ b < t.s1.nx)) := by
  simp [TR.affB]
theorem affT_iff {x : Nat} {t : TR} : t.affT x = true ↔ t.o.dst = some x := by simp [TR.affT]

/-- behind the text's place of t there is nothing in LR that touches what t touches -/
theorem Inv.later (hi : Inv env F B ops tm0 s0 tr LR hL ρ w tmps) (hv : Valid P env R F ops tm0 s0 tr tm s masks rs) {t u : TR} (ht : t ∈ tr) (htn : t ∉ LR) (hu : u ∈ LR) (hlt : t.i < u.i) (hex : t.ex = true) {b : Nat}
    (hua : u.affB b = true) (htb : b ∈ t.s1.tch ∨ (t.s.nx ≤ b ∧ b < t.s1.nx)) : False := by
  obtain ⟨hux, hua⟩ := affB_iff.1 hua
  obtain ⟨hnx, hp⟩ := hv.pair ht (hi.mem u hu) hlt hex hux
  obtain ⟨l1, l2, l3⟩ := hv.low ht hex
  obtain ⟨k1, k2, k3⟩ := hv.low (hi.mem u hu) hux
  rcases hp with hp | ⟨p1, p2, p3⟩
  · exact htn (hi.clo u hu t ht hp)
  · rcases hua with hw | hw
    · rcases htb with hb | hb
      · exact p2 b hw hb
      · exact p3 b (k2 b hw) hb
    · rcases htb with hb | hb
      · have := l1 b hb; omega
      · omega

/-- what stands in the text before t and touches what t reads has run -/
theorem Inv.sooner (hv : Valid P env R F ops tm0 s0 tr tm s masks rs) {t u : TR} (ht : t ∈ tr) (hu : u ∈ tr) (hlt : u.i < t.i) (hex : t.ex = true) {b : Nat}
    (hua : u.affB b = true) (htb : b ∈ t.s1.tch ∨ (t.s.nx ≤ b ∧ b < t.s1.nx)) (hanc : t.m.testBit u.i = true → u ∈ LR) : u ∈ LR := by
  obtain ⟨hux, hua⟩ := affB_iff.1 hua
  obtain ⟨hnx, hp⟩ := hv.pair hu ht hlt hux hex
  obtain ⟨k1, k2, k3⟩ := hv.low hu hux
  rcases hp with hp | ⟨p1, p2, p3⟩
  · exact hanc hp
  · exfalso
    rcases htb with hb | hb
    · rcases hua with hw | hw
      · exact p1 b hb hw
      · exact p3 b hb hw
    · rcases hua with hw | hw
      · have := k1 b (k2 b hw); omega
      · omega

theorem mem_take {t u : TR} (hv : Valid P env R F ops tm0 s0 tr tm s masks rs) (ht : t ∈ tr) : u ∈ tr.take t.i ↔ u ∈ tr ∧ u.i < t.i := by
  constructor
  · intro h
    obtain ⟨j, hj⟩ := List.mem_iff_getElem?.1 h
    rw [List.getElem?_take] at hj
    split at hj
    · rename_i hlt
      have := hv.idx j u hj
      exact ⟨List.mem_of_getElem? hj, by omega⟩
    · cases hj
  · rintro ⟨h1, h2⟩
    rw [List.mem_iff_getElem?]
    exact ⟨u.i, by rw [List.getElem?_take, if_pos h2]; exact (hv.last h1).1⟩

/-- all that must come before t has come -/
theorem Inv.before (hi : Inv env F B ops tm0 s0 tr LR hL ρ w tmps) (hv : Valid P env R F ops tm0 s0 tr tm s masks rs) {t : TR} (ht : t ∈ tr)
    (hready : ∀ e, e ∈ t.o.after → Region.binds .any e = true → ∃ u, u ∈ LR ∧ u.i = e.on) {u : TR} (hu : u ∈ tr) (hb : t.m.testBit u.i = true) : u ∈ LR := by
  obtain ⟨e, he, hbind, hlow, hor⟩ := hv.anc ht hb
  obtain ⟨x, hx, hxi⟩ := hready e he hbind
  rcases hor with h1 | ⟨y, hy, hyi, hyb⟩
  · have : u = x := hv.inj hu (hi.mem x hx) (by rw [h1, hxi])
    rw [this]; exact hx
  · have : y = x := hv.inj hy (hi.mem x hx) (by rw [hyi, hxi])
    subst this
    exact hi.clo y hx u hu hyb

theorem Inv.readB (hi : Inv env F B ops tm0 s0 tr LR hL ρ w tmps) (hv : Valid P env R F ops tm0 s0 tr tm s masks rs) {t : TR} (ht : t ∈ tr) (htn : t ∉ LR) (hex : t.ex = true)
    (hready : ∀ e, e ∈ t.o.after → Region.binds .any e = true → ∃ u, u ∈ LR ∧ u.i = e.on) {b : Nat} (hb : b ∈ t.s1.tch ∨ (t.s.nx ≤ b ∧ b < t.s1.nx)) : hL.get b = t.s.h.get b := by
  obtain ⟨m', r', hvp, st⟩ := hv.pre _ t (hv.last ht).1
  rw [hi.hH b, hvp.heap b]
  unfold srcH
  have : LR.filter (TR.affB b) = (tr.take t.i).filter (TR.affB b) := by
    refine eq_of_rising (hi.sB b) (hvp.rising.filter _) fun u => ?_
    rw [List.mem_filter, List.mem_filter, mem_take hv ht]
    constructor
    · rintro ⟨h1, h2⟩
      refine ⟨⟨hi.mem u h1, ?_⟩, h2⟩
      rcases Nat.lt_trichotomy u.i t.i with h3 | h3 | h3
      · exact h3
      · have := hv.inj (hi.mem u h1) ht h3
        subst this
        exact absurd h1 htn
      · exact (hi.later hv ht htn h1 h3 hex h2 hb).elim
    · rintro ⟨⟨h1, h3⟩, h2⟩
      exact ⟨Inv.sooner (LR := LR) hv ht h1 h3 hex h2 hb (hi.before hv ht hready h1), h2⟩
  rw [this]

theorem Inv.readT (hi : Inv env F B ops tm0 s0 tr LR hL ρ w tmps) (hv : Valid P env R F ops tm0 s0 tr tm s masks rs) {t : TR} (ht : t ∈ tr) (htn : t ∉ LR)
    (hready : ∀ e, e ∈ t.o.after → Region.binds .any e = true → ∃ u, u ∈ LR ∧ u.i = e.on) {x : Nat} (hx : x ∈ t.o.looksAt ops) : srcT tm0 LR x = srcT tm0 (tr.take t.i) x := by
  obtain ⟨m', r', hvp, st⟩ := hv.pre _ t (hv.last ht).1
  unfold srcT
  have : LR.filter (TR.affT x) = (tr.take t.i).filter (TR.affT x) := by
    refine eq_of_rising (hi.sT x) (hvp.rising.filter _) fun u => ?_
    rw [List.mem_filter, List.mem_filter, mem_take hv ht]
    constructor
    · rintro ⟨h1, h2⟩
      refine ⟨⟨hi.mem u h1, ?_⟩, h2⟩
      rcases Nat.lt_trichotomy u.i t.i with h3 | h3 | h3
      · exact h3
      · have := hv.inj (hi.mem u h1) ht h3
        subst this
        exact absurd h1 htn
      · rcases hv.pairT ht (hi.mem u h1) h3 with h4 | ⟨_, _, h4⟩
        · exact absurd (hi.clo u h1 t ht h4) htn
        · exact absurd hx (h4 x (affT_iff.1 h2))
    · rintro ⟨⟨h1, h3⟩, h2⟩
      refine ⟨?_, h2⟩
      rcases hv.pairT h1 ht h3 with h4 | ⟨h4, _, _⟩
      · exact hi.before hv ht hready h1 h4
      · exact absurd hx (h4 x (affT_iff.1 h2))
  rw [this]

/-- the slots that t's operation reads -/
theorem Inv.slots (hi : Inv env F B ops tm0 s0 tr LR hL ρ w tmps) (hv : Valid P env R F ops tm0 s0 tr tm s masks rs) {t : TR} (ht : t ∈ tr) (htn : t ∉ LR)
    (hready : ∀ e, e ∈ t.o.after → Region.binds .any e = true → ∃ u, u ∈ LR ∧ u.i = e.on) {x : Nat} (hx : x ∈ t.o.looksAt ops) {sv : SV} (hsv : t.tm0.get x = some sv) : ∃ V, tmps[x]? = some V ∧ Rep env ρ sv V := by
  obtain ⟨m', r', hvp, st⟩ := hv.pre _ t (hv.last ht).1
  obtain ⟨sv0, h1, h2⟩ := hvp.slots x sv hsv
  rw [← hi.readT hv ht htn hready hx] at h1
  obtain ⟨V, h3, h4⟩ := hi.hT x sv0 h1
  exact ⟨V, h3, h2 ρ V h4⟩

theorem Inv.sBnext (hi : Inv env F B ops tm0 s0 tr LR hL ρ w tmps) (hv : Valid P env R F ops tm0 s0 tr tm s masks rs) {t : TR} (ht : t ∈ tr) (htn : t ∉ LR) (b : Nat) :
    ((LR ++ [t]).filter (TR.affB b)).Pairwise (fun a b => a.i < b.i) := by
  rw [List.filter_append]
  cases h : t.affB b with
  | false => simp [h, hi.sB b]
  | true =>
    simp only [List.filter_cons, h, if_true, List.filter_nil]
    rw [List.pairwise_append]
    refine ⟨hi.sB b, by simp, ?_⟩
    intro u hu t' ht'
    simp only [List.mem_singleton] at ht'
    subst ht'
    obtain ⟨hu1, hu2⟩ := List.mem_filter.1 hu
    obtain ⟨hex, htb⟩ := affB_iff.1 h
    rcases Nat.lt_trichotomy u.i t'.i with h3 | h3 | h3
    · exact h3
    · have := hv.inj (hi.mem u hu1) ht h3
      subst this
      exact absurd hu1 htn
    · refine (hi.later hv ht htn hu1 h3 hex hu2 ?_).elim
      rcases htb with htb | htb
      · exact .inl ((hv.low ht hex).2.1 b htb)
      · exact .inr htb

theorem Inv.sTnext (hi : Inv env F B ops tm0 s0 tr LR hL ρ w tmps) (hv : Valid P env R F ops tm0 s0 tr tm s masks rs) {t : TR} (ht : t ∈ tr) (htn : t ∉ LR) (x : Nat) :
    ((LR ++ [t]).filter (TR.affT x)).Pairwise (fun a b => a.i < b.i) := by
  rw [List.filter_append]
  cases h : t.affT x with
  | false => simp [h, hi.sT x]
  | true =>
    simp only [List.filter_cons, h, if_true, List.filter_nil]
    rw [List.pairwise_append]
    refine ⟨hi.sT x, by simp, ?_⟩
    intro u hu t' ht'
    simp only [List.mem_singleton] at ht'
    subst ht'
    obtain ⟨hu1, hu2⟩ := List.mem_filter.1 hu
    rcases Nat.lt_trichotomy u.i t'.i with h3 | h3 | h3
    · exact h3
    · have := hv.inj (hi.mem u hu1) ht h3
      subst this
      exact absurd hu1 htn
    · rcases hv.pairT ht (hi.mem u hu1) h3 with h4 | ⟨_, h4, _⟩
      · exact absurd (hi.clo u hu1 t' ht h4) htn
      · exact absurd (affT_iff.1 hu2) (h4 x (affT_iff.1 h))

/-- one more operation, in the machine's order -/
theorem Inv.next (hR : CallOK P env B R) (hi : Inv env F B ops tm0 s0 tr LR hL ρ w tmps) (hv : Valid P env R F ops tm0 s0 tr tm s masks rs) {t : TR} (ht : t ∈ tr) (htn : t ∉ LR)
    (hready : ∀ e, e ∈ t.o.after → Region.binds .any e = true → ∃ u, u ∈ LR ∧ u.i = e.on) {fn : Nat} {rd : Option Nat} {df : List Deferred} {k : List Item} (rest : List Nat) (cs : List Frame) :
    ∃ hL' ρ' w' tmps', Inv env F B ops tm0 s0 tr (LR ++ [t]) hL' ρ' w' tmps' ∧ ρ.le ρ' ∧ Below B w w' ∧
      Steps P (lone (mkF fn rd tmps df (.inRegion ops (t.i :: rest) :: k)) cs w) (lone (mkF fn rd tmps' df (.inRegion ops rest :: k)) cs w') := by
  obtain ⟨_, ho⟩ := hv.last ht
  obtain ⟨m', r', hvp, st⟩ := hv.pre _ t (hv.last ht).1
  have hclo : ∀ u, u ∈ LR ++ [t] → ∀ x, x ∈ tr → u.m.testBit x.i = true → x ∈ LR ++ [t] := by
    intro u hu x hx hb
    rw [List.mem_append] at hu ⊢
    rcases hu with hu | hu
    · exact .inl (hi.clo u hu x hx hb)
    · simp only [List.mem_singleton] at hu
      subst hu
      exact .inl (hi.before hv ht hready hx hb)
  have hmem : ∀ u, u ∈ LR ++ [t] → u ∈ tr := by
    intro u hu
    rw [List.mem_append] at hu
    rcases hu with hu | hu
    · exact hi.mem u hu
    · simp only [List.mem_singleton] at hu
      subst hu
      exact ht
  -- the guard
  have hwant : Region.wanted t.o (yielded ops tmps) = t.ex := by
    rcases st.guard with ⟨hg, hex, _⟩ | ⟨j, want, x, hg, hd, hor⟩
    · simp [Region.wanted, hg, hex]
    · have hx : x ∈ t.o.looksAt ops := by
        unfold Oper.looksAt
        rw [hg]
        simp [hd]
      rcases hor with ⟨b, hb, hex, _⟩ | ⟨hb, hex, _⟩
      · obtain ⟨V, hV, hr⟩ := hi.slots hv ht htn hready hx hb
        exact wanted_of (env := env) (ρ := ρ) hg hd hV (.inl ⟨_, hr, hex⟩)
      · obtain ⟨V, hV, hr⟩ := hi.slots hv ht htn hready hx hb
        obtain ⟨vs, hvs, rfl⟩ := hr
        rw [show vs = [] from hvs] at hV
        exact wanted_of (env := env) (ρ := ρ) hg hd hV (.inr ⟨rfl, hex⟩)
  have hTnext : ∀ (ρ' : Pl) (V : Value), ρ.le ρ' → Rep env ρ' t.v V → ∀ x sv, srcT tm0 (LR ++ [t]) x = some sv → ∃ V', (putT tmps t.o.dst V)[x]? = some V' ∧ Rep env ρ' sv V' := by
    intro ρ' V hle hV x sv hsv
    rw [srcT_snoc] at hsv
    split at hsv
    · rename_i hax
      cases hsv
      have hd := affT_iff.1 hax
      rw [hd]
      refine ⟨V, ?_, hV⟩
      have := st.dst x hd
      rw [← hi.hn] at this
      simp [putT, this]
    · rename_i hax
      obtain ⟨V', h1, h2⟩ := hi.hT x sv hsv
      refine ⟨V', ?_, h2.mono hle⟩
      cases hd : t.o.dst with
      | none => exact h1
      | some d =>
        have hne : d ≠ x := fun e => hax (affT_iff.2 (by rw [hd, e]))
        show (tmps.setIfInBounds d V)[x]? = _
        rw [Array.getElem?_setIfInBounds_ne hne]
        exact h1
  have hsize : ∀ V, (putT tmps t.o.dst V).size = F.nt := by
    intro V
    cases t.o.dst with
    | none => exact hi.hn
    | some d => simp [putT, hi.hn]
  cases hex : t.ex with
  | false =>
    obtain ⟨hv0, hs0⟩ := st.skip hex
    have hU : Rep env ρ t.v undef := by rw [hv0]; exact ⟨[], rfl, rfl⟩
    refine ⟨hL, ρ, w, putT tmps t.o.dst undef, ⟨hmem, hclo, hi.sBnext hv ht htn, hi.sTnext hv ht htn, hi.hs, ?_, hTnext ρ undef ρ.le_refl hU, hsize _⟩, ρ.le_refl, Below.refl _ _, ?_⟩
    · intro b
      rw [srcH_snoc, if_neg (by simp [TR.affB, hex]), hi.hH b]
    · rw [hex] at hwant
      have := st_opSkip (P := P) (fn := fn) (rd := rd) (tmps := tmps) (df := df) (k := k) (cs := cs) (w := w) (rest := rest) ho hwant
      rw [finish_mkF, ho] at this
      exact .one this
  | true =>
    rw [hex] at hwant
    obtain ⟨hrun, _⟩ := st.run hex
    obtain ⟨l1, l2, l3⟩ := hv.low ht hex
    obtain ⟨s2', f1, f2, f3, f4, f5, f6⟩ := frame _ hrun (by simp [St.inner]) rfl ⟨hL, t.s.nx, t.s.nx, [], [], false⟩ rfl rfl rfl rfl rfl (by
      intro b hb
      exact hi.readB hv ht htn hex hready hb)
    have hev : EvOK env ρ t.tm (actOf tmps).eval t.o.op.operands.toList := by
      intro x hx sv hsv
      cases x with
      | tmp y =>
        have hy : y ∈ t.o.looksAt ops := List.mem_append_left _ (List.mem_filterMap.2 ⟨.tmp y, hx, rfl⟩)
        obtain ⟨sv1, g1, g2⟩ := st.guard.same y sv hsv
        obtain ⟨V, h3, h4⟩ := hi.slots hv ht htn hready hy g1
        have : (actOf tmps).eval (.tmp y) = V := by simp [Act.eval, actOf, Array.getD_eq_getD_getElem?, h3]
        rw [this]
        exact g2 ρ V h4
      | const v => exact ofV_ok hsv
      | global g => cases hsv
      | func f => cases hsv; exact ⟨.func f, [], [], rfl, rfl, rfl, rfl⟩
    obtain ⟨v, cx', s', ρ', V, w', g1, g2, g3, g4, g5, g6, g7⟩ := doOp_ok hR (kk := leafK) f1 st.cx (ρ := ρ) (w := w) hi.hs (fn := fn) (rd := rd) (df := df) (rest := rest) (k := k) ho hwant hev cs
    have hsame : v = t.v ∧ s' = s2' := by
      simp only [leafK, runE, run, PT.at, Option.some.injEq, Prod.mk.injEq, Out.val.injEq] at g1
      exact ⟨g1.1.1, g1.2⟩
    obtain ⟨rfl, rfl⟩ := hsame
    refine ⟨s'.h, ρ', w', putT tmps t.o.dst V, ⟨hmem, hclo, hi.sBnext hv ht htn, hi.sTnext hv ht htn, g5, ?_, hTnext ρ' V g3 g4, hsize _⟩, g3, g6, g7⟩
    intro b
    rw [srcH_snoc]
    split
    · rename_i hab
      obtain ⟨_, hab⟩ := affB_iff.1 hab
      refine f6 b ?_
      rcases hab with hab | hab
      · exact .inl (l2 b hab)
      · exact .inr hab
    · rename_i hab
      rw [← hi.hH b]
      have hab' : ¬ (b ∈ t.s1.wr) ∧ ¬ (t.s.nx ≤ b ∧ b < t.s1.nx) := by
        constructor
        · intro e; exact hab (affB_iff.2 ⟨hex, .inl e⟩)
        · intro e; exact hab (affB_iff.2 ⟨hex, .inr e⟩)
      have := keeps _ f1 b (by rw [f5]; exact hab'.1) (by rw [f2]; show b < t.s.nx ∨ t.s1.nx ≤ b; omega) (by simp)
      exact this

/-- all orders of the region -/
theorem Inv.all (hR : CallOK P env B R) (hv : Valid P env R F ops tm0 s0 tr tm s masks rs) (hlen : tr.length = ops.size) {fn : Nat} {rd : Option Nat} {df : List Deferred} {k : List Item} (cs : List Frame) :
    ∀ (fuel t : Nat) (listed : Array Bool) (left : List Nat) (LR : List TR) (hL : T Blk) (ρ : Pl) (w : World) (tmps : Array Value),
      Inv env F B ops tm0 s0 tr LR hL ρ w tmps → listed.size = ops.size → left.Nodup → left.length = fuel → (∀ j, j ∈ left ↔ j < ops.size ∧ listed.getD j false = false) →
      (∀ t, t ∈ tr → (t ∈ LR ↔ listed.getD t.i false = true)) →
      ∃ LR' hL' ρ' w' tmps', Inv env F B ops tm0 s0 tr LR' hL' ρ' w' tmps' ∧ (∀ t, t ∈ tr → t ∈ LR') ∧ ρ.le ρ' ∧ Below B w w' ∧
        Steps P (lone (mkF fn rd tmps df (.inRegion ops (Region.linearise.go .any ops fuel t listed []) :: k)) cs w) (lone (mkF fn rd tmps' df k) cs w')
  | 0, t, listed, left, LR, hL, ρ, w, tmps, hi, hsz, hnd, hfl, hleft, hlst => by
      refine ⟨LR, hL, ρ, w, tmps, hi, ?_, ρ.le_refl, Below.refl _ _, ?_⟩
      · intro u hu
        rw [hlst u hu]
        have hnil : left = [] := by simpa using hfl
        have hlt : u.i < ops.size := (Array.getElem?_eq_some_iff.1 (hv.last hu).2).1
        cases hc : listed.getD u.i false with
        | true => rfl
        | false => have := (hleft u.i).2 ⟨hlt, hc⟩; rw [hnil] at this; simp at this
      · simp only [Region.linearise.go, List.reverse_nil]
        exact .one st_regionEnd
  | fuel + 1, t, listed, left, LR, hL, ρ, w, tmps, hi, hsz, hnd, hfl, hleft, hlst => by
      -- something is ready: the least of those that are left
      have hmin : ∀ (l : List Nat), l ≠ [] → ∃ i, i ∈ l ∧ ∀ j, j ∈ l → i ≤ j := by
        intro l
        induction l with
        | nil => intro h; exact absurd rfl h
        | cons a l ih =>
          intro _
          by_cases hl : l = []
          · subst hl; exact ⟨a, by simp, by simp⟩
          · obtain ⟨i, hi, hle⟩ := ih hl
            by_cases hai : a ≤ i
            · refine ⟨a, by simp, fun j hj => ?_⟩
              rcases List.mem_cons.1 hj with rfl | hj
              · exact Nat.le_refl _
              · have := hle j hj; omega
            · refine ⟨i, by simp [hi], fun j hj => ?_⟩
              rcases List.mem_cons.1 hj with rfl | hj
              · omega
              · exact hle j hj
      have hgetD : ∀ j, j < ops.size → ∀ d d', listed.getD j d = listed.getD j d' := by
        intro j hj d d'
        rw [Array.getD_eq_getD_getElem?, Array.getD_eq_getD_getElem?, Array.getElem?_eq_getElem (by omega)]
        rfl
      have hrec : ∀ j, j < ops.size → ∃ u, u ∈ tr ∧ u.i = j := by
        intro j hj
        have hj' : j < tr.length := by omega
        exact ⟨tr[j], List.getElem_mem hj', hv.idx j _ (List.getElem?_eq_getElem hj')⟩
      have hne : Region.ready .any ops listed ≠ [] := by
        have hl : left ≠ [] := by intro e; rw [e] at hfl; simp at hfl
        obtain ⟨i, hi1, hi2⟩ := hmin left hl
        obtain ⟨hlt, hf⟩ := (hleft i).1 hi1
        obtain ⟨u, hu, hui⟩ := hrec i hlt
        obtain ⟨m', r', hvp, st⟩ := hv.pre _ u (hv.last hu).1
        have hin : i ∈ Region.ready .any ops listed := by
          rw [mem_ready]
          refine ⟨by rw [hgetD i hlt true false]; exact hf, u.o, by rw [← hui]; exact (hv.last hu).2, ?_⟩
          intro e he hb
          have hlow := st.edges
          unfold edgesLow at hlow
          rw [Array.all_eq_true_iff_forall_mem] at hlow
          have h9 := hlow e he
          simp [hb, blt_dec] at h9
          cases hc : listed.getD e.on false with
          | true => rfl
          | false =>
            have := hi2 e.on ((hleft e.on).2 ⟨by omega, hc⟩)
            omega
        intro e
        rw [e] at hin
        simp at hin
      simp only [Region.linearise.go]
      change ∃ LR' hL' ρ' w' tmps', _ ∧ _ ∧ _ ∧ _ ∧ Steps P (lone (mkF fn rd tmps df (.inRegion ops (match (Region.ready .any ops listed)[t % (Region.ready .any ops listed).length]? with
        | some i => Region.linearise.go .any ops fuel (t / (Region.ready .any ops listed).length) (listed.setIfInBounds i true) [i]
        | none => [].reverse) :: k)) cs w) _
      cases hp : (Region.ready .any ops listed)[t % (Region.ready .any ops listed).length]? with
      | none =>
        have hlt : t % (Region.ready .any ops listed).length < (Region.ready .any ops listed).length := Nat.mod_lt _ (by
          cases hr : Region.ready .any ops listed with
          | nil => exact absurd hr hne
          | cons x xs => simp)
        rw [List.getElem?_eq_none_iff] at hp
        omega
      | some i =>
        have hin := List.mem_of_getElem? hp
        obtain ⟨hf, o, ho, hedges⟩ := mem_ready.1 hin
        have hlt : i < ops.size := (Array.getElem?_eq_some_iff.1 ho).1
        obtain ⟨u, hu, hui⟩ := hrec i hlt
        subst hui
        have huo : u.o = o := by
          have := (hv.last hu).2
          rw [ho] at this
          cases this
          rfl
        subst huo
        have hun : u ∉ LR := by
          intro e
          have := (hlst u hu).1 e
          rw [hgetD u.i hlt false true, hf] at this
          cases this
        have hready : ∀ e, e ∈ u.o.after → Region.binds .any e = true → ∃ x, x ∈ LR ∧ x.i = e.on := by
          intro e he hb
          have h1 := hedges e he hb
          have hlt2 : e.on < ops.size := by
            rcases Nat.lt_or_ge e.on listed.size with h2 | h2
            · omega
            · rw [Array.getD_eq_getD_getElem?, Array.getElem?_eq_none h2] at h1
              cases h1
          obtain ⟨x, hx, hxi⟩ := hrec e.on hlt2
          exact ⟨x, (hlst x hx).2 (by rw [hxi]; exact h1), hxi⟩
        obtain ⟨hL1, ρ1, w1, tmps1, hi1, hle1, hb1, hst1⟩ := hi.next hR hv hu hun hready (fn := fn) (rd := rd) (df := df) (k := k)
          (Region.linearise.go .any ops fuel (t / (Region.ready .any ops listed).length) (listed.setIfInBounds u.i true) []) cs
        have hset : ∀ j, j < ops.size → (listed.setIfInBounds u.i true).getD j false = (if j = u.i then true else listed.getD j false) := by
          intro j hj
          by_cases hju : j = u.i
          · subst hju
            simp [Array.getD_eq_getD_getElem?, show u.i < listed.size by omega]
          · rw [if_neg hju]
            exact getD_set_ne false (Ne.symm hju)
        obtain ⟨LR', hL', ρ', w', tmps', q1, q2, q3, q4, q5⟩ := Inv.all hR hv hlen (fn := fn) (rd := rd) (df := df) (k := k) cs fuel (t / (Region.ready .any ops listed).length) (listed.setIfInBounds u.i true) (left.erase u.i) (LR ++ [u]) hL1 ρ1 w1 tmps1
          hi1 (by simp [hsz]) (hnd.erase _) (by rw [List.length_erase_of_mem ((hleft u.i).2 ⟨hlt, by rw [hgetD u.i hlt false true]; exact hf⟩)]; omega)
          (by
            intro j
            rw [hnd.mem_erase_iff, hleft j]
            constructor
            · rintro ⟨h1, h2, h3⟩
              exact ⟨h2, by rw [hset j h2, if_neg h1]; exact h3⟩
            · rintro ⟨h2, h3⟩
              rw [hset j h2] at h3
              split at h3
              · cases h3
              · rename_i h1; exact ⟨h1, h2, h3⟩)
          (by
            intro x hx
            have hxl : x.i < ops.size := (Array.getElem?_eq_some_iff.1 (hv.last hx).2).1
            rw [hset x.i hxl, List.mem_append]
            constructor
            · rintro (h1 | h1)
              · split
                · rfl
                · exact (hlst x hx).1 h1
              · simp only [List.mem_singleton] at h1
                subst h1
                simp
            · intro h1
              split at h1
              · rename_i he
                have := hv.inj hx hu he
                subst this
                simp
              · exact .inl ((hlst x hx).2 h1))
        refine ⟨LR', hL', ρ', w', tmps', q1, q2, Pl.le_trans hle1 q3, hb1.trans q4, ?_⟩
        simp only []
        rw [linearise_go_acc, List.reverse_singleton, List.singleton_append]
        exact hst1.trans q5

/-- a region whose order is open -/
theorem drawOps_ok (hmix : P.follows .mixedOrders = true) (hR : CallOK P env B R) {kk : T SV → Ctx → Tree} {r : Out × St} {tm : T SV} {cx : Ctx} {s : St} (h : runE env (drawOps P R F ops kk ops.toList 0 .nil [] tm cx) s = some r)
    (hc : cx.ok env) {ρ : Pl} {w : World} {tmps : Array Value} (hs : HS env ρ B s.h w) (ht : TS env ρ tm tmps) (hn : tmps.size = F.nt) {fn : Nat} {rd : Option Nat} {df : List Deferred} {k : List Item} (id : Nat) (cs : List Frame) :
    ∃ tm' cx' s' ρ' w' tmps', runE env (kk tm' cx') s' = some r ∧ cx'.ok env ∧ ρ.le ρ' ∧ HS env ρ' B s'.h w' ∧ Below B w w' ∧ TS env ρ' tm' tmps' ∧ tmps'.size = F.nt ∧ (∀ d, d ∉ dstsOf ops → tm'.get d = tm.get d) ∧
      Steps P (lone (mkF fn rd tmps df (.code (.region id ops true) :: k)) cs w) (lone (mkF fn rd tmps' df k) cs w') := by
  obtain ⟨tr, tm', s', masks, rs, cx', hv, hlen, hc', h⟩ := drawOps_trace (F := F) hR (tm0 := tm) (s0 := s) ops.toList 0 .nil [] tm cx s [] ρ w tmps (by simp) rfl .nil hc hs ht hn h
  have hs1 : HS env ρ B s.h { w with drawn := w.drawn + 1 } := hs.later (fun _ _ => rfl) (Nat.le_refl _)
  have hi0 : Inv env F B ops tm s tr [] s.h ρ { w with drawn := w.drawn + 1 } tmps :=
    ⟨by simp, by simp, by simp, by simp, hs1, by simp [srcH], fun x sv e => ht x sv (by simpa [srcT] using e), hn⟩
  obtain ⟨LR, hL, ρ', w', tmps', hi, hall, hle, hb, hst⟩ := Inv.all (F := F) hR hv hlen (fn := fn) (rd := rd) (df := df) (k := k) cs ops.size (w.tape w.drawn (.order fn id)) (Array.replicate ops.size false) (List.range ops.size) [] s.h ρ _ tmps hi0
    (by simp) List.nodup_range (by simp) (by intro j; simp [Array.getD_eq_getD_getElem?, Array.getElem?_replicate]; intro hj; simp [hj]) (by intro t ht; simp [Array.getD_eq_getD_getElem?, Array.getElem?_replicate]; split <;> simp)
  have hmem : ∀ t, t ∈ LR ↔ t ∈ tr := fun t => ⟨hi.mem t, hall t⟩
  refine ⟨tm', cx', s', ρ', w', tmps', h, hc', hle, hi.hs.ext ?_, ?_, ?_, hi.hn, hv.others, ?_⟩
  · intro b
    rw [hv.heap b, hi.hH b]
    unfold srcH
    rw [eq_of_rising (hi.sB b) (hv.rising.filter (TR.affB b)) (fun t => by rw [List.mem_filter, List.mem_filter, hmem])]
  · exact (show Below B w { w with drawn := w.drawn + 1 } from ⟨rfl, rfl, rfl, Nat.le_refl _, fun _ _ => rfl⟩).trans hb
  · intro x sv hsv
    obtain ⟨sv0, h1, h2⟩ := hv.slots x sv hsv
    have : srcT tm LR x = srcT tm tr x := by
      unfold srcT
      rw [eq_of_rising (hi.sT x) (hv.rising.filter (TR.affT x)) (fun t => by rw [List.mem_filter, List.mem_filter, hmem])]
    rw [← this] at h1
    obtain ⟨V, h3, h4⟩ := hi.hT x sv0 h1
    exact ⟨V, h3, h2 ρ' V h4⟩
  · refine .head st_draw ?_
    simp only [Region.schedule, hmix, Bool.true_or, if_true, Region.linearise]
    exact hst
end

end Go.SX
