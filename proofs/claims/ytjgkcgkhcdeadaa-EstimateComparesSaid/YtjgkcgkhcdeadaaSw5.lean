/- One operation: the reckoner's tree and the model's operation. -/
import Derived.Test.YtjgkcgkhcdeadaaSw4
import Derived.ChangeKeysEq
namespace Go.SX
open Go Go.RowKit
set_option linter.unusedVariables false
set_option linter.unusedSimpArgs false
set_option linter.unusedSectionVars false

/-! ### comparisons, arithmetic -/

theorem guard_int {P : Program} (op : BinOp) (t : TypeId) (xo yo : Operand) (k k' : IntKind) (a b : Int) (w : World) : (eqGuard op t xo yo (.int k a) (.int k' b)).run P w = .ok () w := by
  cases op <;> simp [eqGuard]
theorem guard_bool {P : Program} (op : BinOp) (t : TypeId) (xo yo : Operand) (a b : Bool) (w : World) : (eqGuard op t xo yo (.bool a) (.bool b)).run P w = .ok () w := by
  cases op <;> simp [eqGuard]
theorem guard_str {P : Program} (op : BinOp) (t : TypeId) (xo yo : Operand) (a b : ByteArray) (w : World) : (eqGuard op t xo yo (.string a) (.string b)).run P w = .ok () w := by
  cases op <;> simp [eqGuard]
theorem guard_ptr {P : Program} (op : BinOp) (t : TypeId) (xo yo : Operand) (a b : Option Addr) (w : World) : (eqGuard op t xo yo (.pointer a) (.pointer b)).run P w = .ok () w := by
  cases op <;> simp [eqGuard]
theorem guard_slice {P : Program} (op : BinOp) (t : TypeId) (xo yo : Operand) (a b : Option Addr) (l c l' c' : Nat) (w : World) :
    (eqGuard op t xo yo (.slice a l c) (.slice b l' c')).run P w = .ok () w := by
  cases op <;> simp [eqGuard]

theorem run_cmp {P : Program} {op : BinOp} (h : isCmp op = true) (t : TypeId) (k : IntKind) (a b : Int) (w : World) : (binOp op t (.int k a) (.int k b)).run P w = .ok (.bool (cmpI op a b)) w := by
  cases op <;> simp [isCmp] at h <;> simp [binOp, Op.intCmp, cmpI]

theorem run_arith {P : Program} {op : BinOp} (h : isCmp op = false) (t : TypeId) (k k' : IntKind) (a b : Int) (w : World) (hk : k = k' ∨ op = .shl ∨ op = .shr)
    (hd : (op = .quo ∨ op = .rem) → b ≠ 0) (hsh : (op = .shl ∨ op = .shr) → 0 ≤ b) : (binOp op t (.int k a) (.int k' b)).run P w = .ok (.int k (binI op k a b)) w := by
  cases op <;> simp [isCmp] at h <;> simp at hk hd hsh <;> (try subst hk) <;>
    simp [binOp, Op.intArith, Op.intDiv, Op.intBits, Op.shift, binI, hd] <;> (try omega)

theorem needs2_ok {env : Env} {cx : Ctx} {op : BinOp} {b : E} {k : Ctx → Tree} {s : St} {r : Out × St} (h : runE env (needs2 cx op b k) s = some r) (hc : cx.ok env) :
    ((op = .quo ∨ op = .rem) → b.den env ≠ 0) ∧ ((op = .shl ∨ op = .shr) → 0 ≤ b.den env) ∧ ∃ cx', cx'.ok env ∧ runE env (k cx') s = some r := by
  unfold needs2 at h
  split at h
  · obtain ⟨h1, cx', hc', h2⟩ := need_ok h hc
    rw [mkCmp_ok hc] at h1
    simp [cmpI, E.den] at h1
    exact ⟨fun _ => h1, by simp, cx', hc', h2⟩
  · obtain ⟨h1, cx', hc', h2⟩ := need_ok h hc
    rw [mkCmp_ok hc] at h1
    simp [cmpI, E.den] at h1
    exact ⟨fun _ => h1, by simp, cx', hc', h2⟩
  · obtain ⟨h1, cx', hc', h2⟩ := need_ok h hc
    rw [mkCmp_ok hc] at h1
    simp [cmpI, E.den] at h1
    exact ⟨by simp, fun _ => h1, cx', hc', h2⟩
  · obtain ⟨h1, cx', hc', h2⟩ := need_ok h hc
    rw [mkCmp_ok hc] at h1
    simp [cmpI, E.den] at h1
    exact ⟨by simp, fun _ => h1, cx', hc', h2⟩
  · rename_i h1 h2 h3 h4
    refine ⟨?_, ?_, cx, hc, h⟩
    · rintro (e | e)
      · exact absurd e h1
      · exact absurd e h2
    · rintro (e | e)
      · exact absurd e h3
      · exact absurd e h4

theorem eqRes_ok {env : Env} {ρ : Pl} {op : BinOp} (h : isEq op = true) (b : BE) : Rep env ρ (eqRes op b) (.bool (match op with | .neq => !b.den env | _ => b.den env)) := by
  cases op <;> simp [isEq] at h <;> simp [eqRes, Rep, mkNeg_ok]

/-- '==' and '!=' out of what Op.equal finds -/
theorem run_eqOp {P : Program} {op : BinOp} (h : isEq op = true) {t : TypeId} {X Y : Value} {w : World} {q : Bool} (hX : ∀ k n, X ≠ .int k n) (hf : ∀ k n, X ≠ .float k n) (hc : ∀ k a b, X ≠ .complex k a b)
    (hs : ∀ b, X ≠ .string b) (hq : (Op.equal t X Y).run P w = .ok q w) : (binOp op t X Y).run P w = .ok (.bool (match op with | .neq => !q | _ => q)) w := by
  cases op <;> simp [isEq] at h
  all_goals
    cases X <;> first
      | exact absurd rfl (hX _ _)
      | exact absurd rfl (hf _ _)
      | exact absurd rfl (hc _ _ _)
      | exact absurd rfl (hs _)
      | (cases Y <;> simp only [binOp] <;> simp [hq])

theorem equal_eq (t : TypeId) (x y : Value) : Op.equal t x y = Op.equalIn (9999 + 1) t x y := rfl

/-! ### structs of integers and bools -/

theorem equalIn_int {P : Program} {t : TypeId} {kd k : IntKind} (d : Nat) (h : P.underlying t = some (.int kd)) (a b : Int) (w : World) : (Op.equalIn (d + 1) t (.int k a) (.int k b)).run P w = .ok (a == b) w := by
  simp [Op.equalIn, run_underlying h]
theorem equalIn_bool {P : Program} {t : TypeId} (d : Nat) (h : P.underlying t = some .bool) (a b : Bool) (w : World) : (Op.equalIn (d + 1) t (.bool a) (.bool b)).run P w = .ok (a == b) w := by
  simp [Op.equalIn, run_underlying h]
theorem equal_bool {P : Program} {t : TypeId} (h : P.underlying t = some .bool) (a b : Bool) (w : World) : (Op.equal t (.bool a) (.bool b)).run P w = .ok (a == b) w := by
  rw [equal_eq]; exact equalIn_bool _ h a b w

theorem equalIn_ptr_l {P : Program} {t e : TypeId} (d : Nat) (h : P.underlying t = some (.pointer e)) (b : Option Addr) (w : World) : (Op.equalIn (d + 1) t (.pointer none) (.pointer b)).run P w = .ok b.isNone w := by
  cases b <;> simp [Op.equalIn, run_underlying h]
theorem equalIn_ptr_r {P : Program} {t e : TypeId} (d : Nat) (h : P.underlying t = some (.pointer e)) (a : Addr) (w : World) : (Op.equalIn (d + 1) t (.pointer (some a)) (.pointer none)).run P w = .ok false w := by
  simp [Op.equalIn, run_underlying h]
theorem equalIn_ptr {P : Program} {t e : TypeId} {n : Nat} (d : Nat) (h : P.underlying t = some (.pointer e)) (hn : szOf P e = some (n + 1)) (a b : Addr) {q : Bool} {w : World} (hq : (sameAddr a b).run P w = .ok q w) :
    (Op.equalIn (d + 1) t (.pointer (some a)) (.pointer (some b))).run P w = .ok q w := by
  simp [Op.equalIn, run_underlying h, run_sizeOf' hn, hq]
theorem equalIn_sl_l {P : Program} {t e : TypeId} (d : Nat) (h : P.underlying t = some (.slice e)) (b : Option Addr) (l c l' c' : Nat) (w : World) : (Op.equalIn (d + 1) t (.slice none l c) (.slice b l' c')).run P w = .ok b.isNone w := by
  cases b <;> simp [Op.equalIn, run_underlying h]
theorem equalIn_sl_r {P : Program} {t e : TypeId} (d : Nat) (h : P.underlying t = some (.slice e)) (a : Addr) (l c l' c' : Nat) (w : World) : (Op.equalIn (d + 1) t (.slice (some a) l c) (.slice none l' c')).run P w = .ok false w := by
  simp [Op.equalIn, run_underlying h]

/-- the value of a type with some cells -/
def ValP (P : Program) (t : TypeId) (us : List Value) (u : Value) : Prop := (aggT P t = some true ∧ u = .agg us.toArray) ∨ (aggT P t = some false ∧ us = [u])
theorem ValP.agg {P : Program} {t : TypeId} {us : List Value} {u : Value} (h : ValP P t us u) (ha : aggT P t = some true) : u = .agg us.toArray := by
  rcases h with ⟨_, h⟩ | ⟨e, _⟩
  · exact h
  · rw [ha] at e; cases e
theorem partS_ok {P : Program} {env : Env} {ρ : Pl} {xs a : List SV} {us : List Value} {off : Nat} {t : TypeId} (h : partS P xs off t = some a) (hx : RepL env ρ xs us) (w : World) :
    ∃ cs u, (part t us.toArray off).run P w = .ok u w ∧ RepL env ρ a cs ∧ ValP P t cs u := by
  unfold partS at h
  split at h
  · rename_i n hs ha
    obtain ⟨rfl, hl⟩ := cut_ok h
    refine ⟨_, .agg ((us.drop off).take n).toArray, ?_, (hx.drop _).take _, .inl ⟨ha, rfl⟩⟩
    simp [part, run_isAgg' ha, run_sizeOf' hs, List.extract_eq_take_drop]
  · rename_i n hs ha
    simp only [beq_dec] at h
    by_cases hn : n = 1
    · simp only [hn, decide_true, cond_true] at h
      obtain ⟨rfl, hl⟩ := cut_ok h
      have hr := (hx.drop off).take 1
      have hlen := hr.length
      rw [hl] at hlen
      obtain ⟨u, hu⟩ : ∃ u, (us.drop off).take 1 = [u] := by
        cases hq : (us.drop off).take 1 with
        | nil => rw [hq] at hlen; cases hlen
        | cons u l => cases l with
          | nil => exact ⟨u, rfl⟩
          | cons _ _ => rw [hq] at hlen; simp at hlen
      have hu' : us[off]? = some u := by
        have : ((us.drop off).take 1)[0]? = some u := by rw [hu]; rfl
        simpa using this
      refine ⟨_, u, ?_, hr, .inr ⟨ha, hu⟩⟩
      simp [part, run_isAgg' ha, hu']
    · simp only [hn, decide_false, cond_false] at h
      cases h
  · cases h

theorem eqAll_fields {P : Program} {env : Env} {d : Nat} {w : World} {cs ds : Array Value} {g : Field → Option BE}
    (hg : ∀ f b, g f = some b → f.name ≠ "_" ∧ ∃ u v, (part f.type cs f.offset).run P w = .ok u w ∧ (part f.type ds f.offset).run P w = .ok v w ∧ (Op.equalIn d f.type u v).run P w = .ok (b.den env) w) :
    ∀ (fs : List Field) (b : BE), eqAll g fs = some b → (Op.eqFields d cs ds fs).run P w = .ok (b.den env) w
  | [], b, h => by simp [eqAll] at h; subst h; simp [Op.eqFields, BE.den]
  | f :: fs, b, h => by
      simp only [eqAll] at h
      split at h
      · rename_i x y hx hy
        cases h
        obtain ⟨hn, u, v, p1, p2, p3⟩ := hg f x hx
        simp only [Op.eqFields, ne_eq, hn, not_false_eq_true, if_true, Sem.run_bind, p1, p2, p3, Result.andThen_ok, Sem.run_ite, eqAll_fields hg fs y hy, Sem.run_pure]
        rw [mkAnd_ok]
        cases x.den env <;> simp
      · cases h
theorem eqAll_items {P : Program} {env : Env} {d : Nat} {w : World} {cs ds : Array Value} {g : Nat → Option BE} {e : TypeId} {c : Nat}
    (hg : ∀ i b, g i = some b → ∃ u v, (part e cs (i * c)).run P w = .ok u w ∧ (part e ds (i * c)).run P w = .ok v w ∧ (Op.equalIn d e u v).run P w = .ok (b.den env) w) :
    ∀ (is : List Nat) (b : BE), eqAll g is = some b → (Op.eqItems d e c cs ds is).run P w = .ok (b.den env) w
  | [], b, h => by simp [eqAll] at h; subst h; simp [Op.eqItems, BE.den]
  | i :: is, b, h => by
      simp only [eqAll] at h
      split at h
      · rename_i x y hx hy
        cases h
        obtain ⟨u, v, p1, p2, p3⟩ := hg i x hx
        simp only [Op.eqItems, Sem.run_bind, p1, p2, p3, Result.andThen_ok, Sem.run_ite, eqAll_items hg is y hy, Sem.run_pure]
        rw [mkAnd_ok]
        cases x.den env <;> simp
      · cases h

theorem eqV_ok {P : Program} {env : Env} {ρ : Pl} {cx : Ctx} (hc : cx.ok env) (w : World) : ∀ (d D : Nat) (t : TypeId) (xs ys : List SV) (us vs : List Value) (u v : Value) (b : BE),
    eqV P cx d t xs ys = some b → d ≤ D → RepL env ρ xs us → RepL env ρ ys vs → ValP P t us u → ValP P t vs v → (Op.equalIn D t u v).run P w = .ok (b.den env) w
  | 0, D, t, xs, ys, us, vs, u, v, b, h, hd, hx, hy, hu, hv => by simp [eqV] at h
  | d + 1, 0, t, xs, ys, us, vs, u, v, b, h, hd, hx, hy, hu, hv => by omega
  | d + 1, D + 1, t, xs, ys, us, vs, u, v, b, h, hd, hx, hy, hu, hv => by
      simp only [eqV] at h
      split at h
      · rename_i kd hk
        have ha : aggT P t = some false := by simp [aggT, hk]
        split at h
        · rename_i k a k' a'
          split at h
          · rename_i hkk
            cases h
            subst hkk
            obtain ⟨x, _, hx, h0, rfl⟩ := hx
            obtain ⟨y, _, hy, h1, rfl⟩ := hy
            rcases hu with ⟨e, _⟩ | ⟨_, hu⟩
            · rw [ha] at e; cases e
            rcases hv with ⟨e, _⟩ | ⟨_, hv⟩
            · rw [ha] at e; cases e
            cases hu; cases hv
            have hx' : u = _ := hx
            have hy' : v = _ := hy
            rw [hx', hy', equalIn_int D hk, seenC_ok hc, mkCmp_ok hc]
            rfl
          · cases h
        · cases h
      · rename_i hk
        have ha : aggT P t = some false := by simp [aggT, hk]
        split at h
        · rename_i a a'
          cases h
          obtain ⟨x, _, hx, h0, rfl⟩ := hx
          obtain ⟨y, _, hy, h1, rfl⟩ := hy
          rcases hu with ⟨e, _⟩ | ⟨_, hu⟩
          · rw [ha] at e; cases e
          rcases hv with ⟨e, _⟩ | ⟨_, hv⟩
          · rw [ha] at e; cases e
          cases hu; cases hv
          have hx' : u = _ := hx
          have hy' : v = _ := hy
          rw [hx', hy', equalIn_bool D hk, mkEqb_ok]
        · cases h
      · rename_i fs hk
        have ha : aggT P t = some true := by simp [aggT, hk]
        obtain rfl := hu.agg ha
        obtain rfl := hv.agg ha
        cases hs : P.stoodInHeld t with
        | true => rw [hs] at h; cases h
        | false =>
          rw [hs] at h
          simp only [Bool.not_false, cond_true] at h
          have hf : P.fieldsOf t = fs := by simp [Program.fieldsOf, hk]
          rw [run_equalIn_struct w D t _ _ (by rw [hf]; exact hk) hs, hf]
          refine eqAll_fields (g := _) (fun f b' hb => ?_) fs.toList b h
          cases hn : (f.name != "_") with
          | false => rw [hn] at hb; cases hb
          | true =>
            rw [hn, cond_true] at hb
            simp only [bne_iff_ne] at hn
            split at hb
            · rename_i a a' e1 e2
              obtain ⟨cs, u, p1, r1, v1⟩ := partS_ok e1 hx w
              obtain ⟨ds, v, p2, r2, v2⟩ := partS_ok e2 hy w
              exact ⟨hn, u, v, p1, p2, eqV_ok hc w d D f.type a a' cs ds u v b' hb (by omega) r1 r2 v1 v2⟩
            · cases hb
      · rename_i n e hk
        have ha : aggT P t = some true := by simp [aggT, hk]
        obtain rfl := hu.agg ha
        obtain rfl := hv.agg ha
        split at h
        · rename_i m hm
          obtain ⟨i, hi, him⟩ := szOf_ok hm
          have hce : P.cellsOf e = m := by simp [Program.cellsOf, hi, him]
          rw [run_equalIn_array w D _ _ hk hi, hce]
          refine eqAll_items (g := _) (fun j b' hb => ?_) _ b h
          split at hb
          · rename_i a a' e1 e2
            obtain ⟨cs, u, p1, r1, v1⟩ := partS_ok e1 hx w
            obtain ⟨ds, v, p2, r2, v2⟩ := partS_ok e2 hy w
            exact ⟨u, v, p1, p2, eqV_ok hc w d D e a a' cs ds u v b' hb (by omega) r1 r2 v1 v2⟩
          · cases hb
        · cases h
      · cases h

theorem eqAgg_ok {P : Program} {env : Env} {ρ : Pl} {cx : Ctx} (hc : cx.ok env) {t : TypeId} {xs ys : List SV} {us vs : List Value} {b : BE} (h : eqAgg P cx t xs ys = some b)
    (hx : RepL env ρ xs us) (hy : RepL env ρ ys vs) (w : World) :
    (Op.equal t (.agg us.toArray) (.agg vs.toArray)).run P w = .ok (b.den env) w ∧ P.eqGuardType P.depth t = false := by
  unfold eqAgg at h
  split at h
  · rename_i ha
    cases hcond : P.eqGuardType P.depth t with
    | true => rw [hcond] at h; cases h
    | false =>
      rw [hcond] at h
      simp only [Bool.not_false, cond_true] at h
      exact ⟨eqV_ok hc w 20 _ t xs ys us vs _ _ b h (by decide) hx hy (.inl ⟨ha, rfl⟩) (.inl ⟨ha, rfl⟩), rfl⟩
  · cases h

/-! ### binary operations -/

theorem SA.same_ok {env : Env} {ρ : Pl} {a b : SA} {A A' : Addr} {v : Bool} (h : SA.same a b = some v) (ha : RepA env ρ a A) (hb : RepA env ρ b A') : A.block = A'.block ∧ (v = true ↔ A = A') := by
  unfold SA.same at h
  split at h
  · rename_i b1 o1 b2 o2
    simp only [beq_dec] at h
    by_cases hbb : b1 = b2
    · subst hbb
      simp only [decide_true, cond_true, Option.some.injEq] at h
      obtain ⟨r, o, e, rfl⟩ := ha
      obtain ⟨r', o', e', rfl⟩ := hb
      rw [e] at e'
      cases e'
      refine ⟨rfl, ?_⟩
      rw [← h]
      simp
    · simp only [hbb, decide_false, cond_false] at h
      cases h
  · cases h

theorem binS_ok {P : Program} {env : Env} {ρ : Pl} {B : Nat} {cx : Ctx} {op : BinOp} {t : TypeId} {x y : SV} {k : SV → Ctx → Tree} {s : St} {r : Out × St} {w : World} {X Y : Value}
    (h : runE env (binS P cx op t x y k) s = some r) (hc : cx.ok env) (hs : HS env ρ B s.h w) (hX : Rep env ρ x X) (hY : Rep env ρ y Y) :
    ∃ v V cx' s', runE env (k v cx') s' = some r ∧ cx'.ok env ∧ s'.h = s.h ∧ Rep env ρ v V ∧
      ∀ xo yo, (eqGuard op t xo yo X Y).run P w = .ok () w ∧ (binOp op t X Y).run P w = .ok V w := by
  unfold binS at h
  split at h
  · -- integers
    rename_i kx a ky b
    rw [show X = _ from hX, show Y = _ from hY]
    split at h
    · rename_i hcmp
      split at h
      · rename_i hk
        subst hk
        refine ⟨_, _, cx, s, h, hc, rfl, ?_, fun xo yo => ⟨guard_int .., run_cmp hcmp t kx _ _ w⟩⟩
        show _ = _
        rw [mkCmp_ok hc]
      · exact (runE_fail h).elim
    · rename_i hcmp
      have hcmp' : isCmp op = false := by simpa using hcmp
      split at h
      · rename_i hk
        obtain ⟨h1, h2, cx', hc', h3⟩ := needs2_ok h hc
        refine ⟨_, _, cx', s, h3, hc', rfl, ?_, fun xo yo => ⟨guard_int .., run_arith hcmp' t kx ky _ _ w hk h1 h2⟩⟩
        show _ = _
        rw [mkBin_ok hc']
      · exact (runE_fail h).elim
  · -- bools
    rename_i a b
    rw [show X = _ from hX, show Y = _ from hY]
    split at h
    · rename_i hu
      split at h
      · rename_i he
        refine ⟨_, _, cx, s, h, hc, rfl, eqRes_ok he _, fun xo yo => ⟨guard_bool .., ?_⟩⟩
        rw [mkEqb_ok]
        exact run_eqOp he (by simp) (by simp) (by simp) (by simp) (equal_bool hu _ _ w)
      · exact (runE_fail h).elim
    · exact (runE_fail h).elim
  · -- strings
    rename_i a b
    rw [show X = _ from hX, show Y = _ from hY]
    split at h
    · rename_i v hv
      split at h
      · rename_i sv hsv
        refine ⟨_, v, cx, s, h, hc, rfl, ofV1_ok hsv, fun xo yo => ⟨guard_str .., ?_⟩⟩
        have e : binOp op t (.string a) (.string b) = Op.stringOp op a b := by cases op <;> rfl
        rw [e, hv]
        rfl
      · exact (runE_fail h).elim
    · exact (runE_fail h).elim
  · -- pointers
    rename_i a b
    obtain ⟨A, hA, rfl⟩ := hX
    obtain ⟨A', hA', rfl⟩ := hY
    split at h
    · rename_i e hu
      split at h
      · rename_i he
        split at h
        · cases hA; cases hA'
          refine ⟨_, _, cx, s, h, hc, rfl, eqRes_ok he _, fun xo yo => ⟨guard_ptr .., ?_⟩⟩
          exact run_eqOp he (by simp) (by simp) (by simp) (by simp) (by rw [equal_eq]; exact equalIn_ptr_l 9999 hu none w)
        · rename_i b0
          cases hA
          obtain ⟨A2, hA2, rfl⟩ := hA'
          refine ⟨_, _, cx, s, h, hc, rfl, eqRes_ok he _, fun xo yo => ⟨guard_ptr .., ?_⟩⟩
          exact run_eqOp he (by simp) (by simp) (by simp) (by simp) (by rw [equal_eq]; exact equalIn_ptr_l 9999 hu (some A2) w)
        · rename_i b0
          cases hA'
          obtain ⟨A2, hA2, rfl⟩ := hA
          refine ⟨_, _, cx, s, h, hc, rfl, eqRes_ok he _, fun xo yo => ⟨guard_ptr .., ?_⟩⟩
          exact run_eqOp he (by simp) (by simp) (by simp) (by simp) (by rw [equal_eq]; exact equalIn_ptr_r 9999 hu A2 w)
        · rename_i a0 b0
          obtain ⟨A1, hA1, rfl⟩ := hA
          obtain ⟨A2, hA2, rfl⟩ := hA'
          split at h
          · rename_i sz hsz
            split at h
            · rename_i v hv
              obtain ⟨hbl, hiff⟩ := SA.same_ok hv hA1 hA2
              refine ⟨_, _, cx, s, h, hc, rfl, eqRes_ok he _, fun xo yo => ⟨guard_ptr .., ?_⟩⟩
              refine run_eqOp he (by simp) (by simp) (by simp) (by simp) ?_
              rw [equal_eq]
              refine equalIn_ptr 9999 hu hsz A1 A2 ?_
              have : (A1 == A2) = v := by
                cases v with
                | true => simpa using hiff.1 rfl
                | false =>
                  have : ¬ A1 = A2 := fun e => by cases hiff.2 e
                  simpa using this
              simp [sameAddr, hbl, this, BE.den]
            · rename_i hnone
              obtain ⟨u, hg1, hl1, h⟩ := runE_get h
              obtain ⟨v, hg2, hl2, h⟩ := runE_get h
              split at h
              · rename_i l1 t1 l2 t2
                simp only [beq_dec] at h
                by_cases hnn : a0.name = b0.name
                · simp only [hnn, decide_true, cond_true] at h
                  exact (runE_fail h).elim
                · simp only [hnn, decide_false, cond_false] at h
                  rw [St.touch_h] at hg2
                  obtain ⟨r1, o1, e1, hb1, hw1, _⟩ := hs.at _ _ hg1 (fun _ => rfl)
                  obtain ⟨r2, o2, e2, hb2, hw2, _⟩ := hs.at _ _ hg2 (fun _ => rfl)
                  obtain ⟨rfl, c1, _, ob1⟩ := hb1
                  obtain ⟨rfl, c2, _, ob2⟩ := hb2
                  have hr12 : r1 ≠ r2 := by
                    intro hr
                    subst hr
                    exact hnn (hs.inj _ _ r1 0 0 e1 e2 (hw1 rfl) (by rw [hg1]; exact Solid.of rfl) (by rw [hg2]; exact Solid.of rfl))
                  have ba : A1.block = r1 := by
                    cases a0 with
                    | c b off => obtain ⟨r, o, e', rfl⟩ := hA1; simp only [SA.name] at e1; rw [e1] at e'; cases e'; rfl
                    | s b ix m off => obtain ⟨r, o, e', _, rfl⟩ := hA1; simp only [SA.name] at e1; rw [e1] at e'; cases e'; rfl
                    | g b off => obtain ⟨r, o, e', rfl⟩ := hA1; simp only [SA.name] at e1; rw [e1] at e'; cases e'; rfl
                    | h b ix m off => obtain ⟨r, o, e', _, rfl⟩ := hA1; simp only [SA.name] at e1; rw [e1] at e'; cases e'; rfl
                  have bb : A2.block = r2 := by
                    cases b0 with
                    | c b off => obtain ⟨r, o, e', rfl⟩ := hA2; simp only [SA.name] at e2; rw [e2] at e'; cases e'; rfl
                    | s b ix m off => obtain ⟨r, o, e', _, rfl⟩ := hA2; simp only [SA.name] at e2; rw [e2] at e'; cases e'; rfl
                    | g b off => obtain ⟨r, o, e', rfl⟩ := hA2; simp only [SA.name] at e2; rw [e2] at e'; cases e'; rfl
                    | h b ix m off => obtain ⟨r, o, e', _, rfl⟩ := hA2; simp only [SA.name] at e2; rw [e2] at e'; cases e'; rfl
                  refine ⟨_, _, cx, _, h, hc, by rw [St.touch_h, St.touch_h], eqRes_ok he _, fun xo yo => ⟨guard_ptr .., ?_⟩⟩
                  refine run_eqOp he (by simp) (by simp) (by simp) (by simp) ?_
                  rw [equal_eq]
                  have hne : A1 ≠ A2 := fun e => hr12 (by rw [← ba, ← bb, e])
                  have := run_sameAddr_other (P := P) w hne (by rw [ba]; exact ob1) (by rw [bb]; exact ob2)
                  exact equalIn_ptr 9999 hu hsz A1 A2 this
              · exact (runE_fail h).elim
          · exact (runE_fail h).elim
      · exact (runE_fail h).elim
    · exact (runE_fail h).elim
  · -- structs
    rename_i xs ys
    obtain ⟨us, hus, rfl⟩ := hX
    obtain ⟨vs, hvs, rfl⟩ := hY
    split at h
    · rename_i he
      split at h
      · rename_i b hb
        obtain ⟨h1, h2⟩ := eqAgg_ok hc hb hus hvs w
        exact ⟨_, _, cx, s, h, hc, rfl, eqRes_ok he _, fun xo yo => ⟨run_eqGuard_agg w op t xo yo _ _ h2, run_eqOp he (by simp) (by simp) (by simp) (by simp) h1⟩⟩
      · exact (runE_fail h).elim
    · exact (runE_fail h).elim
  · -- slices against nil
    rename_i a l1 c1 b l2 c2
    obtain ⟨A, c, hA, _, _, rfl⟩ := hX
    obtain ⟨A', c', hA', _, _, rfl⟩ := hY
    split at h
    · rename_i e hu
      split at h
      · rename_i he
        split at h
        · cases hA; cases hA'
          refine ⟨_, _, cx, s, h, hc, rfl, eqRes_ok he _, fun xo yo => ⟨guard_slice .., ?_⟩⟩
          exact run_eqOp he (by simp) (by simp) (by simp) (by simp) (by rw [equal_eq]; exact equalIn_sl_l 9999 hu none _ _ _ _ w)
        · cases hA
          obtain ⟨A2, hA2, rfl⟩ := hA'
          refine ⟨_, _, cx, s, h, hc, rfl, eqRes_ok he _, fun xo yo => ⟨guard_slice .., ?_⟩⟩
          exact run_eqOp he (by simp) (by simp) (by simp) (by simp) (by rw [equal_eq]; exact equalIn_sl_l 9999 hu (some A2) _ _ _ _ w)
        · cases hA'
          obtain ⟨A2, hA2, rfl⟩ := hA
          refine ⟨_, _, cx, s, h, hc, rfl, eqRes_ok he _, fun xo yo => ⟨guard_slice .., ?_⟩⟩
          exact run_eqOp he (by simp) (by simp) (by simp) (by simp) (by rw [equal_eq]; exact equalIn_sl_r 9999 hu A2 _ _ _ _ w)
        · exact (runE_fail h).elim
      · exact (runE_fail h).elim
    · exact (runE_fail h).elim
  · exact (runE_fail h).elim

end Go.SX
