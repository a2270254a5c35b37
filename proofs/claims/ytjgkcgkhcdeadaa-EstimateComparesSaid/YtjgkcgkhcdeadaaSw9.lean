/- A region whose order is open: what it comes to in the text's order it comes to in every order. -/
import Derived.Test.YtjgkcgkhcdeadaaSw8
namespace Go.SX
open Go Go.RowKit
set_option linter.unusedVariables false
set_option linter.unusedSimpArgs false
set_option linter.unusedSectionVars false

/-- what is kept of an operation in the text's order: its place, whether it runs, its mask, its value, the slots that it sees, the store before it, the store behind it -/
structure TR where
  i : Nat
  ex : Bool
  o : Oper
  m : Nat
  v : SV
  tm : T SV
  cx : Ctx
  cx2 : Ctx
  tm0 : T SV
  s : St
  s1 : St

def TR.lg (t : TR) : Log := ⟨t.s.nx, t.s1.nx, t.s1.tch, t.s1.wr⟩
def TR.affB (b : Nat) (t : TR) : Bool := t.ex && (t.s1.wr.contains b || (decide (t.s.nx ≤ b) && decide (b < t.s1.nx)))
def TR.affT (x : Nat) (t : TR) : Bool := t.o.dst == some x

def srcH (s0 : T Blk) (l : List TR) (b : Nat) : Option Blk :=
  match (l.filter (TR.affB b)).getLast? with
  | some t => t.s1.h.get b
  | none => s0.get b

def srcT (tm0 : T SV) (l : List TR) (x : Nat) : Option SV :=
  match (l.filter (TR.affT x)).getLast? with
  | some t => some t.v
  | none => tm0.get x

theorem srcH_snoc (s0 : T Blk) (l : List TR) (t : TR) (b : Nat) : srcH s0 (l ++ [t]) b = if t.affB b = true then t.s1.h.get b else srcH s0 l b := by
  unfold srcH
  rw [List.filter_append]
  cases h : t.affB b with
  | true => simp [h]
  | false => simp [h]

theorem srcT_snoc (tm0 : T SV) (l : List TR) (t : TR) (x : Nat) : srcT tm0 (l ++ [t]) x = if t.affT x = true then some t.v else srcT tm0 l x := by
  unfold srcT
  rw [List.filter_append]
  cases h : t.affT x with
  | true => simp [h]
  | false => simp [h]

def Same (env : Env) (a b : SV) : Prop := ∀ ρ V, Rep env ρ a V → Rep env ρ b V

def leafK : SV → Ctx → Tree := fun v cx => .leaf (.val v cx)

/-- what the guard of an operation asks, by the slots in the text's order -/
def GuardS (env : Env) (ops : Array Oper) (tm tm' : T SV) (o : Oper) (v : Bool) : Prop :=
  (o.guard = none ∧ v = true ∧ tm' = tm) ∨
       (∃ j want t, o.guard = some (j, want) ∧ (ops[j]?).bind (·.dst) = some t ∧
         ((∃ b, tm.get t = some (.bool b) ∧ v = (b.den env == want) ∧ tm' = tm.set t (.bool (.lit (b.den env)))) ∨ (tm.get t = some (.tuple []) ∧ v = false ∧ tm' = tm)))

/-- one record, with what was checked of it -/
structure Step1 (P : Program) (env : Env) (R : Run) (F : FI) (ops : Array Oper) (masks : T Nat) (rs : List Rec) (t : TR) : Prop where
  op : ops[t.i]? = some t.o
  m : t.m = ancOf masks t.o
  edges : edgesLow t.i t.o = true
  ap2 : apart2 ops t.i t.o t.m = true
  guard : GuardS env ops t.tm0 t.tm t.o t.ex
  cx : t.cx.ok env
  dst : ∀ d, t.o.dst = some d → d < F.nt
  run : t.ex = true → runE env (doOp P R F t.tm t.cx t.o leafK) t.s.inner = some (.val t.v t.cx2, t.s1) ∧ apart1 ops t.i t.o t.m t.lg rs = true
  skip : t.ex = false → t.v = undefS ∧ t.s1 = t.s

inductive Valid (P : Program) (env : Env) (R : Run) (F : FI) (ops : Array Oper) (tm0 : T SV) (s0 : St) : List TR → T SV → St → T Nat → List Rec → Prop
  | nil : Valid P env R F ops tm0 s0 [] tm0 s0 .nil []
  | run {tr : List TR} {tm : T SV} {s : St} {masks : T Nat} {rs : List Rec} (t : TR) : Valid P env R F ops tm0 s0 tr tm s masks rs → t.i = tr.length → t.tm0 = tm → t.s = s →
      Step1 P env R F ops masks rs t → t.ex = true →
      Valid P env R F ops tm0 s0 (tr ++ [t]) (setTM t.tm t.o.dst t.v) (s.outer t.s1) (masks.set t.i t.m) (⟨t.i, t.lg⟩ :: rs)
  | skip {tr : List TR} {tm : T SV} {s : St} {masks : T Nat} {rs : List Rec} (t : TR) : Valid P env R F ops tm0 s0 tr tm s masks rs → t.i = tr.length → t.tm0 = tm → t.s = s →
      Step1 P env R F ops masks rs t → t.ex = false →
      Valid P env R F ops tm0 s0 (tr ++ [t]) (setTM t.tm t.o.dst t.v) s (masks.set t.i t.m) rs

section
variable {P : Program} {env : Env} {R : Run} {F : FI} {ops : Array Oper}

/-- the text's order leaves a trace -/
theorem drawOps_trace {B : Nat} (hR : CallOK P env B R) {kk : T SV → Ctx → Tree} {r : Out × St} {tm0 : T SV} {s0 : St} : ∀ (l : List Oper) (i : Nat) (masks : T Nat) (rs : List Rec) (tm : T SV) (cx : Ctx) (s : St) (tr : List TR)
    (ρ : Pl) (w : World) (tmps : Array Value),
    ops.toList.drop i = l → i = tr.length → Valid P env R F ops tm0 s0 tr tm s masks rs → cx.ok env → HS env ρ B s.h w → TS env ρ tm tmps → tmps.size = F.nt →
    runE env (drawOps P R F ops kk l i masks rs tm cx) s = some r →
    ∃ tr' tm' s' masks' rs' cx', Valid P env R F ops tm0 s0 tr' tm' s' masks' rs' ∧ tr'.length = ops.size ∧ cx'.ok env ∧ runE env (kk tm' cx') s' = some r
  | [], i, masks, rs, tm, cx, s, tr, ρ, w, tmps, hl, hi, hv, hc, hs, ht, hn, h => by
      refine ⟨tr, tm, s, masks, rs, cx, hv, ?_, hc, h⟩
      have h1 : ops.size ≤ i := by
        have := List.drop_eq_nil_iff.1 hl
        simpa using this
      have h2 : tr.length ≤ ops.size := by
        cases hv with
        | nil => simp
        | run t hv' ht _ _ st _ =>
          have := (Array.getElem?_eq_some_iff.1 st.op).1
          simp; omega
        | skip t hv' ht _ _ st _ =>
          have := (Array.getElem?_eq_some_iff.1 st.op).1
          simp; omega
      omega
  | o :: l, i, masks, rs, tm, cx, s, tr, ρ, w, tmps, hl, hi, hv, hc, hs, ht, hn, h => by
      have ho : ops[i]? = some o := by
        have h0 : (ops.toList.drop i)[0]? = some o := by rw [hl]; rfl
        rw [List.getElem?_drop] at h0
        simpa using h0
      have hl' : ops.toList.drop (i + 1) = l := by
        have h0 : (ops.toList.drop i).drop 1 = l := by rw [hl]; rfl
        rwa [List.drop_drop] at h0
      simp only [drawOps] at h
      split at h
      · rename_i hchk
        simp only [Bool.and_eq_true] at hchk
        obtain ⟨v, tm1, cx1, h, hc1, hw⟩ := wantS_ok h hc
        obtain ⟨hwant, ht1⟩ := wanted_ok (ρ := ρ) ht hw
        split at h
        · rename_i hvt
          subst hvt
          obtain ⟨out, s1, h1, h2⟩ := runE_seg h
          cases out with
          | tms tm9 cx9 => exact (runE_fail h2).elim
          | val v2 cx2 =>
          simp only at h2
          split at h2
          · rename_i hap
            obtain ⟨hd, h3⟩ := setTm_ok h2
            obtain ⟨V, cx3, s3, ρ2, V', w2, g1, g2, g3, g4, g5, g6, _⟩ := doOp_ok hR (kk := leafK) h1 hc1 (s := s.inner) hs (fn := 0) (rd := none) (df := []) (rest := []) (k := []) ho hwant (ht1.evOK' _) []
            have hsame : V = v2 ∧ cx3 = cx2 ∧ s3 = s1 := by
              simp only [leafK, runE, run, PT.at, Option.some.injEq, Prod.mk.injEq, Out.val.injEq] at g1
              exact ⟨g1.1.1, g1.1.2, g1.2⟩
            obtain ⟨rfl, rfl, rfl⟩ := hsame
            obtain ⟨ht2, hn2⟩ := (ht1.mono g3).putT (F := F) hn hd g4
            have st : Step1 P env R F ops masks rs ⟨i, true, o, ancOf masks o, V, tm1, cx1, cx3, tm, s, s3⟩ :=
              ⟨ho, rfl, hchk.1, hchk.2, hw, hc1, hd, fun _ => ⟨h1, hap⟩, fun e => by cases e⟩
            exact drawOps_trace hR l (i + 1) _ _ _ cx3 (s.outer s3) (tr ++ [⟨i, true, o, ancOf masks o, V, tm1, cx1, cx3, tm, s, s3⟩]) ρ2 w2 _ hl' (by simp [hi])
              (Valid.run ⟨i, true, o, ancOf masks o, V, tm1, cx1, cx3, tm, s, s3⟩ hv (by exact hi) rfl rfl st rfl) g2 g5 ht2 hn2 h3
          · exact (runE_fail h2).elim
        · rename_i hvf
          have hvf' : v = false := by simpa using hvf
          subst hvf'
          obtain ⟨hd, h3⟩ := setTm_ok h
          have hU : Rep env ρ undefS undef := ⟨[], rfl, rfl⟩
          obtain ⟨ht2, hn2⟩ := ht1.putT (F := F) hn hd hU
          have st : Step1 P env R F ops masks rs ⟨i, false, o, ancOf masks o, undefS, tm1, cx1, cx1, tm, s, s⟩ :=
            ⟨ho, rfl, hchk.1, hchk.2, hw, hc1, hd, (fun e => by cases e), fun _ => ⟨rfl, rfl⟩⟩
          exact drawOps_trace hR l (i + 1) _ _ _ cx1 _ (tr ++ [⟨i, false, o, ancOf masks o, undefS, tm1, cx1, cx1, tm, s, s⟩]) ρ w _ hl' (by simp [hi])
            (Valid.skip ⟨i, false, o, ancOf masks o, undefS, tm1, cx1, cx1, tm, s, s⟩ hv (by exact hi) rfl rfl st rfl) hc1 hs ht2 hn2 h3
      · exact (runE_fail h).elim

variable {tm0 : T SV} {s0 : St} {tr : List TR} {tm : T SV} {s : St} {masks : T Nat} {rs : List Rec}

theorem Valid.idx (h : Valid P env R F ops tm0 s0 tr tm s masks rs) : ∀ (i : Nat) (t : TR), tr[i]? = some t → t.i = i := by
  induction h with
  | nil => intro i t e; simp at e
  | @run tr tm s masks rs t hv hi _ _ st _ ih | @skip tr tm s masks rs t hv hi _ _ st _ ih =>
    intro j u e
    by_cases hj : j < tr.length
    · rw [List.getElem?_append_left hj] at e
      exact ih j u e
    · have hj2 : j = tr.length := by
        have := (List.getElem?_eq_some_iff.1 e).1
        simp at this; omega
      subst hj2
      simp at e
      subst e
      exact hi

theorem Valid.others (h : Valid P env R F ops tm0 s0 tr tm s masks rs) : ∀ d, d ∉ dstsOf ops → tm.get d = tm0.get d := by
  induction h with
  | nil => intro d _; rfl
  | @run tr tm s masks rs t hv hi e0 _ st _ ih | @skip tr tm s masks rs t hv hi e0 _ st _ ih =>
    intro d hd
    rw [← ih d hd, ← e0]
    exact set_others st.op st.guard hd

theorem Valid.nx (h : Valid P env R F ops tm0 s0 tr tm s masks rs) : ∀ t, t ∈ tr → t.s.nx ≤ t.s1.nx ∧ t.s1.nx ≤ s.nx := by
  induction h with
  | nil => intro t e; simp at e
  | run t hv hi htm hs st hex ih =>
    have g := grows _ (st.run hex).1
    have gn : t.s.nx ≤ t.s1.nx := g.nx
    intro u hu
    simp at hu
    rcases hu with hu | rfl
    · have := ih u hu
      rw [← hs] at this
      exact ⟨this.1, by show u.s1.nx ≤ t.s1.nx; omega⟩
    · exact ⟨gn, Nat.le_refl _⟩
  | skip t hv hi htm hs st hex ih =>
    intro u hu
    simp at hu
    rcases hu with hu | rfl
    · exact ih u hu
    · rw [(st.skip hex).2, hs]
      exact ⟨Nat.le_refl _, Nat.le_refl _⟩

/-- the trace before a record is a trace, and ends where the record begins -/
theorem Valid.pre (h : Valid P env R F ops tm0 s0 tr tm s masks rs) : ∀ (i : Nat) (t : TR), tr[i]? = some t →
    ∃ masks' rs', Valid P env R F ops tm0 s0 (tr.take i) t.tm0 t.s masks' rs' ∧ Step1 P env R F ops masks' rs' t := by
  induction h with
  | nil => intro i t e; simp at e
  | @run tr tm s masks rs t hv hi htm hs st hex ih =>
    intro j u e
    by_cases hj : j < tr.length
    · rw [List.getElem?_append_left hj] at e
      obtain ⟨m', r', h1, h2⟩ := ih j u e
      refine ⟨m', r', ?_, h2⟩
      rw [List.take_append_of_le_length (by omega)]
      exact h1
    · have hj2 : j = tr.length := by
        have := (List.getElem?_eq_some_iff.1 e).1
        simp at this; omega
      subst hj2
      simp at e
      subst e
      refine ⟨masks, rs, ?_, st⟩
      rw [List.take_left', htm, hs]
      · exact hv
      · rfl
  | @skip tr tm s masks rs t hv hi htm hs st hex ih =>
    intro j u e
    by_cases hj : j < tr.length
    · rw [List.getElem?_append_left hj] at e
      obtain ⟨m', r', h1, h2⟩ := ih j u e
      refine ⟨m', r', ?_, h2⟩
      rw [List.take_append_of_le_length (by omega)]
      exact h1
    · have hj2 : j = tr.length := by
        have := (List.getElem?_eq_some_iff.1 e).1
        simp at this; omega
      subst hj2
      simp at e
      subst e
      refine ⟨masks, rs, ?_, st⟩
      rw [List.take_left', htm, hs]
      · exact hv
      · rfl

theorem Valid.masksOf (h : Valid P env R F ops tm0 s0 tr tm s masks rs) : ∀ j, masks.get j = (tr[j]?).map (·.m) := by
  induction h with
  | nil => intro j; simp [T.get_nil]
  | @run tr tm s masks rs t hv hi htm hs st hex ih | @skip tr tm s masks rs t hv hi htm hs st hex ih =>
    intro j
    rw [T.get_set]
    split
    · rename_i hji; rw [hji, hi]; simp
    · rename_i hji
      rw [ih j]
      by_cases hj : j < tr.length
      · rw [List.getElem?_append_left hj]
      · rw [List.getElem?_eq_none (by omega), List.getElem?_eq_none (by simp; omega)]

theorem Valid.recs (h : Valid P env R F ops tm0 s0 tr tm s masks rs) : ∀ t, t ∈ tr → t.ex = true → (⟨t.i, t.lg⟩ : Rec) ∈ rs := by
  induction h with
  | nil => intro t e; simp at e
  | run t hv hi htm hs st hex ih =>
    intro u hu hue
    simp at hu
    rcases hu with hu | rfl
    · exact List.mem_cons_of_mem _ (ih u hu hue)
    · simp
  | skip t hv hi htm hs st hex ih =>
    intro u hu hue
    simp at hu
    rcases hu with hu | rfl
    · exact ih u hu hue
    · rw [hex] at hue; cases hue

theorem Valid.heap (h : Valid P env R F ops tm0 s0 tr tm s masks rs) : ∀ b, s.h.get b = srcH s0.h tr b := by
  induction h with
  | nil => intro b; simp [srcH]
  | run t hv hi htm hs st hex ih =>
    intro b
    rw [srcH_snoc]
    show t.s1.h.get b = _
    split
    · rfl
    · rename_i hna
      rw [← ih b, ← hs]
      have hr := (st.run hex).1
      have hna' : ¬ (t.s1.wr.contains b = true) ∧ ¬ (t.s.nx ≤ b ∧ b < t.s1.nx) := by
        simp only [TR.affB, hex, Bool.true_and, Bool.or_eq_true, Bool.and_eq_true, decide_eq_true_eq, not_or] at hna
        exact hna
      have := keeps _ hr b (by simpa using hna'.1) (by simp [St.inner]; omega) (by simp [St.inner])
      exact this
  | skip t hv hi htm hs st hex ih =>
    intro b
    rw [srcH_snoc, ih b]
    rw [if_neg (by simp [TR.affB, hex])]

theorem GuardS.same {o : Oper} {tmA tmB : T SV} {v : Bool} (h : GuardS env ops tmA tmB o v) : ∀ x sv, tmB.get x = some sv → ∃ sv0, tmA.get x = some sv0 ∧ Same env sv0 sv := by
  intro x sv hx
  rcases h with ⟨_, _, rfl⟩ | ⟨j, want, t, _, _, ⟨b, hb, _, rfl⟩ | ⟨_, _, rfl⟩⟩
  · exact ⟨sv, hx, fun _ _ h => h⟩
  · rw [T.get_set] at hx
    split at hx
    · rename_i hxt
      subst hxt
      cases hx
      exact ⟨_, hb, fun ρ V hV => hV⟩
    · exact ⟨sv, hx, fun _ _ h => h⟩
  · exact ⟨sv, hx, fun _ _ h => h⟩

theorem Valid.slots (h : Valid P env R F ops tm0 s0 tr tm s masks rs) : ∀ x sv, tm.get x = some sv → ∃ sv0, srcT tm0 tr x = some sv0 ∧ Same env sv0 sv := by
  induction h with
  | nil => intro x sv e; exact ⟨sv, by simpa [srcT] using e, fun _ _ h => h⟩
  | @run tr tm s masks rs t hv hi htm hs st hex ih | @skip tr tm s masks rs t hv hi htm hs st hex ih =>
    intro x sv e
    rw [srcT_snoc]
    have old : ∀ sv, t.tm.get x = some sv → ∃ sv0, srcT tm0 tr x = some sv0 ∧ Same env sv0 sv := by
      intro sv e
      obtain ⟨sv1, h1, h2⟩ := st.guard.same x sv e
      rw [htm] at h1
      obtain ⟨sv0, h3, h4⟩ := ih x sv1 h1
      exact ⟨sv0, h3, fun ρ V hV => h2 ρ V (h4 ρ V hV)⟩
    cases hd : t.o.dst with
    | none =>
      rw [if_neg (by simp [TR.affT, hd])]
      rw [hd] at e
      exact old sv e
    | some d =>
      rw [hd] at e
      simp only [setTM, T.get_set] at e
      split at e
      · rename_i hxd
        cases e
        rw [if_pos (by simp [TR.affT, hd, hxd])]
        exact ⟨_, rfl, fun _ _ h => h⟩
      · rename_i hxd
        rw [if_neg (by simp [TR.affT, hd, Ne.symm hxd])]
        exact old sv e

/-! ### two records -/

theorem Valid.last (h : Valid P env R F ops tm0 s0 tr tm s masks rs) {t : TR} (ht : t ∈ tr) : tr[t.i]? = some t ∧ ops[t.i]? = some t.o := by
  obtain ⟨j, hj⟩ := List.mem_iff_getElem?.1 ht
  have := h.idx j t hj
  subst this
  obtain ⟨_, _, _, st⟩ := h.pre _ t hj
  exact ⟨hj, st.op⟩

/-- t before u in the text, both run: u must come behind t, or they touch nothing of each other's -/
theorem Valid.pair (h : Valid P env R F ops tm0 s0 tr tm s masks rs) {t u : TR} (ht : t ∈ tr) (hu : u ∈ tr) (hlt : t.i < u.i) (htx : t.ex = true) (hux : u.ex = true) :
    t.s1.nx ≤ u.s.nx ∧ (u.m.testBit t.i = true ∨ ((∀ b, b ∈ u.s1.tch → b ∉ t.s1.wr) ∧ (∀ b, b ∈ u.s1.wr → b ∉ t.s1.tch) ∧ (∀ b, b ∈ u.s1.tch → ¬ (t.s.nx ≤ b ∧ b < t.s1.nx)))) := by
  obtain ⟨e1, _⟩ := h.last ht
  obtain ⟨e2, _⟩ := h.last hu
  obtain ⟨m', r', hv, st⟩ := h.pre _ u e2
  have htin : t ∈ tr.take u.i := by
    rw [List.mem_iff_getElem?]
    exact ⟨t.i, by rw [List.getElem?_take, if_pos hlt]; exact e1⟩
  refine ⟨(hv.nx t htin).2, ?_⟩
  have hrec := hv.recs t htin htx
  have hap := (st.run hux).2
  simp only [apart1, List.all_eq_true] at hap
  have := hap _ hrec
  simp only [Bool.or_eq_true, Bool.and_eq_true, Bool.not_eq_true'] at this
  rcases this with h1 | ⟨⟨h1, h2⟩, h3⟩
  · exact .inl h1
  · refine .inr ⟨?_, ?_, ?_⟩
    · intro b hb hb2
      have h9 := List.any_eq_false.1 h1 b hb
      exact h9 (List.any_eq_true.2 ⟨b, hb2, by simp [beq_dec]⟩)
    · intro b hb hb2
      have h9 := List.any_eq_false.1 h2 b hb
      exact h9 (List.any_eq_true.2 ⟨b, hb2, by simp [beq_dec]⟩)
    · intro b hb hb2
      have h9 := List.any_eq_false.1 h3 b hb
      refine h9 ?_
      show (Nat.ble t.s.nx b && Nat.blt b t.s1.nx) = true
      rw [blt_dec]
      simp [Nat.ble_eq, hb2.1, hb2.2]

/-- the same of slots -/
theorem Valid.pairT (h : Valid P env R F ops tm0 s0 tr tm s masks rs) {t u : TR} (ht : t ∈ tr) (hu : u ∈ tr) (hlt : t.i < u.i) :
    u.m.testBit t.i = true ∨ ((∀ d, t.o.dst = some d → d ∉ u.o.looksAt ops) ∧ (∀ d, t.o.dst = some d → u.o.dst ≠ some d) ∧ (∀ d, u.o.dst = some d → d ∉ t.o.looksAt ops)) := by
  obtain ⟨e1, o1⟩ := h.last ht
  obtain ⟨e2, o2⟩ := h.last hu
  obtain ⟨m', r', hv, st⟩ := h.pre _ u e2
  have hap := st.ap2
  simp only [apart2, List.all_eq_true, List.mem_range] at hap
  have := hap _ hlt
  simp only [o1, Bool.or_eq_true] at this
  rcases this with h1 | h1
  · exact .inl h1
  · exact .inr (Oper.apart_spec h1)

theorem anc_spec (masks : T Nat) (o : Oper) (j : Nat) : (ancOf masks o).testBit j = true → ∃ e, e ∈ o.after ∧ Region.binds .any e = true ∧ (j = e.on ∨ ((masks.get e.on).getD 0).testBit j = true) := by
  unfold ancOf
  have gen : ∀ (l : List Edge) (m0 : Nat), (l.foldl (fun m e => if Region.binds .any e then m ||| 2 ^ e.on ||| (masks.get e.on).getD 0 else m) m0).testBit j = true →
      m0.testBit j = true ∨ ∃ e, e ∈ l ∧ Region.binds .any e = true ∧ (j = e.on ∨ ((masks.get e.on).getD 0).testBit j = true) := by
    intro l
    induction l with
    | nil => intro m0 h; exact .inl h
    | cons e l ih =>
      intro m0 h
      simp only [List.foldl_cons] at h
      rcases ih _ h with h1 | ⟨e', he', h2⟩
      · split at h1
        · rename_i hb
          rw [Nat.testBit_or, Nat.testBit_or, Bool.or_eq_true, Bool.or_eq_true] at h1
          rcases h1 with (h1 | h1) | h1
          · exact .inl h1
          · rw [Nat.testBit_two_pow] at h1
            simp at h1
            exact .inr ⟨e, by simp, hb, .inl h1.symm⟩
          · exact .inr ⟨e, by simp, hb, .inr h1⟩
        · exact .inl h1
      · exact .inr ⟨e', by simp [he'], h2⟩
  intro h
  rcases gen _ 0 h with h1 | ⟨e, he, h2⟩
  · simp at h1
  · exact ⟨e, by simpa using he, h2⟩

theorem Valid.anc (h : Valid P env R F ops tm0 s0 tr tm s masks rs) {t : TR} (ht : t ∈ tr) {j : Nat} (hj : t.m.testBit j = true) :
    ∃ e, e ∈ t.o.after ∧ Region.binds .any e = true ∧ e.on < t.i ∧ (j = e.on ∨ ∃ u, u ∈ tr ∧ u.i = e.on ∧ u.m.testBit j = true) := by
  obtain ⟨e2, _⟩ := h.last ht
  obtain ⟨m', r', hv, st⟩ := h.pre _ t e2
  rw [st.m] at hj
  obtain ⟨e, he, hb, hor⟩ := anc_spec _ _ _ hj
  have hlow : e.on < t.i := by
    have := st.edges
    unfold edgesLow at this
    rw [Array.all_eq_true_iff_forall_mem] at this
    have := this e he
    simp [hb, blt_dec] at this
    exact this
  refine ⟨e, he, hb, hlow, ?_⟩
  rcases hor with h1 | h1
  · exact .inl h1
  · rw [hv.masksOf] at h1
    cases hu : (tr.take t.i)[e.on]? with
    | none => rw [hu] at h1; simp at h1
    | some u =>
      rw [hu] at h1
      have hi := hv.idx _ _ hu
      exact .inr ⟨u, List.mem_of_mem_take (List.mem_of_getElem? hu), hi, h1⟩

theorem Valid.low (h : Valid P env R F ops tm0 s0 tr tm s masks rs) {t : TR} (ht : t ∈ tr) (hx : t.ex = true) : (∀ b, b ∈ t.s1.tch → b < t.s.nx) ∧ (∀ b, b ∈ t.s1.wr → b ∈ t.s1.tch) ∧ t.s.nx ≤ t.s1.nx := by
  obtain ⟨e2, _⟩ := h.last ht
  obtain ⟨m', r', hv, st⟩ := h.pre _ t e2
  have g := grows _ (st.run hx).1
  refine ⟨?_, ?_, g.nx⟩
  · intro b hb
    rcases g.low b hb with h1 | h1
    · simp [St.inner] at h1
    · exact h1
  · intro b hb
    rcases g.sub b hb with h1 | h1
    · simp [St.inner] at h1
    · exact h1
end

/-- two lists in rising order with the same members are one -/
theorem eq_of_rising : ∀ {l l' : List TR}, l.Pairwise (fun a b => a.i < b.i) → l'.Pairwise (fun a b => a.i < b.i) → (∀ t, t ∈ l ↔ t ∈ l') → l = l'
  | [], [], _, _, _ => rfl
  | [], b :: l', _, _, h => by have := (h b).2 (by simp); simp at this
  | a :: l, [], _, _, h => by have := (h a).1 (by simp); simp at this
  | a :: l, b :: l', h1, h2, h => by
      have h1' := List.pairwise_cons.1 h1
      have h2' := List.pairwise_cons.1 h2
      have hab : a = b := by
        have ha := (h a).1 (by simp)
        have hb := (h b).2 (by simp)
        rcases List.mem_cons.1 ha with e | ha
        · exact e
        · rcases List.mem_cons.1 hb with e | hb
          · exact e.symm
          · have x := h2'.1 a ha
            have y := h1'.1 b hb
            omega
      subst hab
      congr 1
      refine eq_of_rising h1'.2 h2'.2 fun t => ⟨fun ht => ?_, fun ht => ?_⟩
      · rcases List.mem_cons.1 ((h t).1 (by simp [ht])) with e | h3
        · subst e; have := h1'.1 t ht; omega
        · exact h3
      · rcases List.mem_cons.1 ((h t).2 (by simp [ht])) with e | h3
        · subst e; have := h2'.1 t ht; omega
        · exact h3

end Go.SX
