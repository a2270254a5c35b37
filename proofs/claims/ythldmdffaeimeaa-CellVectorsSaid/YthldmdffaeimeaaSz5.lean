/- One operation: the reckoner's tree and the model's operation. -/
import Derived.Test.YthldmdffaeimeaaSz4
namespace Go.SX
open Go Go.RowKit
set_option linter.unusedVariables false
set_option linter.unusedSimpArgs false
set_option linter.unusedSectionVars false

/-! ### comparisons, arithmetic -/

theorem guard_int {P : Program} (op : BinOp) (t : TypeId) (xo yo : Operand) (k k' : IntKind) (a b : Int) (w : World) : (eqGuard op t xo yo (.int k a) (.int k' b)).run P w = .ok () w := by
  cases op <;> simp [eqGuard]
theorem guard_bool {P : Program} (op : BinOp) (t : TypeId) (xo yo : Operand) (a b : Bool) (w : World) : (eqGuard op t xo yo (.bool a) (.bool b)).run P w = .ok () w := by
  cases op <;> simp [eqGuard]
theorem guard_str {P : Program} (op : BinOp) (t : TypeId) (xo yo : Operand) (a b : ByteArray) (w : World) : (eqGuard op t xo yo (.string a) (.string b)).run P w = .ok () w := by
  cases op <;> simp [eqGuard]
theorem guard_ptr {P : Program} (op : BinOp) (t : TypeId) (xo yo : Operand) (a b : Option Addr) (w : World) : (eqGuard op t xo yo (.pointer a) (.pointer b)).run P w = .ok () w := by
  cases op <;> simp [eqGuard]
theorem guard_slice {P : Program} (op : BinOp) (t : TypeId) (xo yo : Operand) (a b : Option Addr) (l c l' c' : Nat) (w : World) :
    (eqGuard op t xo yo (.slice a l c) (.slice b l' c')).run P w = .ok () w := by
  cases op <;> simp [eqGuard]

theorem run_cmp {P : Program} {op : BinOp} (h : isCmp op = true) (t : TypeId) (k : IntKind) (a b : Int) (w : World) : (binOp op t (.int k a) (.int k b)).run P w = .ok (.bool (cmpI op a b)) w := by
  cases op <;> simp [isCmp] at h <;> simp [binOp, Op.intCmp, cmpI]

theorem run_arith {P : Program} {op : BinOp} (h : isCmp op = false) (t : TypeId) (k k' : IntKind) (a b : Int) (w : World) (hk : k = k' ∨ op = .shl ∨ op = .shr)
    (hd : (op = .quo ∨ op = .rem) → b ≠ 0) (hsh : (op = .shl ∨ op = .shr) → 0 ≤ b) : (binOp op t (.int k a) (.int k' b)).run P w = .ok (.int k (binI op k a b)) w := by
  cases op <;> simp [isCmp] at h <;> simp at hk hd hsh <;> (try subst hk) <;>
    simp [binOp, Op.intArith, Op.intDiv, Op.intBits, Op.shift, binI, hd] <;> (try omega)

theorem needs2_ok {env : Env} {cx : Ctx} {op : BinOp} {b : E} {k : Ctx → Tree} {s : St} {r : Out × St} (h : runE env (needs2 cx op b k) s = some r) (hc : cx.ok env) :
    ((op = .quo ∨ op = .rem) → b.den env ≠ 0) ∧ ((op = .shl ∨ op = .shr) → 0 ≤ b.den env) ∧ ∃ cx', cx'.ok env ∧ runE env (k cx') s = some r := by
  unfold needs2 at h
  split at h
  · obtain ⟨h1, cx', hc', h2⟩ := need_ok h hc
    rw [mkCmp_ok hc] at h1
    simp [cmpI, E.den] at h1
    exact ⟨fun _ => h1, by simp, cx', hc', h2⟩
  · obtain ⟨h1, cx', hc', h2⟩ := need_ok h hc
    rw [mkCmp_ok hc] at h1
    simp [cmpI, E.den] at h1
    exact ⟨fun _ => h1, by simp, cx', hc', h2⟩
  · obtain ⟨h1, cx', hc', h2⟩ := need_ok h hc
    rw [mkCmp_ok hc] at h1
    simp [cmpI, E.den] at h1
    exact ⟨by simp, fun _ => h1, cx', hc', h2⟩
  · obtain ⟨h1, cx', hc', h2⟩ := need_ok h hc
    rw [mkCmp_ok hc] at h1
    simp [cmpI, E.den] at h1
    exact ⟨by simp, fun _ => h1, cx', hc', h2⟩
  · rename_i h1 h2 h3 h4
    refine ⟨?_, ?_, cx, hc, h⟩
    · rintro (e | e)
      · exact absurd e h1
      · exact absurd e h2
    · rintro (e | e)
      · exact absurd e h3
      · exact absurd e h4

theorem eqRes_ok {env : Env} {ρ : Pl} {op : BinOp} (h : isEq op = true) (b : BE) : Rep env ρ (eqRes op b) (.bool (match op with | .neq => !b.den env | _ => b.den env)) := by
  cases op <;> simp [isEq] at h <;> simp [eqRes, Rep, mkNeg_ok]

/-- '==' and '!=' out of what Op.equal finds -/
theorem run_eqOp {P : Program} {op : BinOp} (h : isEq op = true) {t : TypeId} {X Y : Value} {w : World} {q : Bool} (hX : ∀ k n, X ≠ .int k n) (hf : ∀ k n, X ≠ .float k n) (hc : ∀ k a b, X ≠ .complex k a b)
    (hs : ∀ b, X ≠ .string b) (hq : (Op.equal t X Y).run P w = .ok q w) : (binOp op t X Y).run P w = .ok (.bool (match op with | .neq => !q | _ => q)) w := by
  cases op <;> simp [isEq] at h
  all_goals
    cases X <;> first
      | exact absurd rfl (hX _ _)
      | exact absurd rfl (hf _ _)
      | exact absurd rfl (hc _ _ _)
      | exact absurd rfl (hs _)
      | (cases Y <;> simp only [binOp] <;> simp [hq])

theorem equal_eq (t : TypeId) (x y : Value) : Op.equal t x y = Op.equalIn (9999 + 1) t x y := rfl

/-! ### structs of integers and bools -/

theorem equalIn_int {P : Program} {t : TypeId} {kd k : IntKind} (d : Nat) (h : P.underlying t = some (.int kd)) (a b : Int) (w : World) : (Op.equalIn (d + 1) t (.int k a) (.int k b)).run P w = .ok (a == b) w := by
  simp [Op.equalIn, run_underlying h]
theorem equalIn_bool {P : Program} {t : TypeId} (d : Nat) (h : P.underlying t = some .bool) (a b : Bool) (w : World) : (Op.equalIn (d + 1) t (.bool a) (.bool b)).run P w = .ok (a == b) w := by
  simp [Op.equalIn, run_underlying h]
theorem equal_bool {P : Program} {t : TypeId} (h : P.underlying t = some .bool) (a b : Bool) (w : World) : (Op.equal t (.bool a) (.bool b)).run P w = .ok (a == b) w := by
  rw [equal_eq]; exact equalIn_bool _ h a b w

theorem equalIn_ptr_l {P : Program} {t e : TypeId} (d : Nat) (h : P.underlying t = some (.pointer e)) (b : Option Addr) (w : World) : (Op.equalIn (d + 1) t (.pointer none) (.pointer b)).run P w = .ok b.isNone w := by
  cases b <;> simp [Op.equalIn, run_underlying h]
theorem equalIn_ptr_r {P : Program} {t e : TypeId} (d : Nat) (h : P.underlying t = some (.pointer e)) (a : Addr) (w : World) : (Op.equalIn (d + 1) t (.pointer (some a)) (.pointer none)).run P w = .ok false w := by
  simp [Op.equalIn, run_underlying h]
theorem equalIn_ptr {P : Program} {t e : TypeId} {n : Nat} (d : Nat) (h : P.underlying t = some (.pointer e)) (hn : szOf P e = some (n + 1)) (a b : Addr) {q : Bool} {w : World} (hq : (sameAddr a b).run P w = .ok q w) :
    (Op.equalIn (d + 1) t (.pointer (some a)) (.pointer (some b))).run P w = .ok q w := by
  simp [Op.equalIn, run_underlying h, run_sizeOf' hn, hq]
theorem equalIn_sl_l {P : Program} {t e : TypeId} (d : Nat) (h : P.underlying t = some (.slice e)) (b : Option Addr) (l c l' c' : Nat) (w : World) : (Op.equalIn (d + 1) t (.slice none l c) (.slice b l' c')).run P w = .ok b.isNone w := by
  cases b <;> simp [Op.equalIn, run_underlying h]
theorem equalIn_sl_r {P : Program} {t e : TypeId} (d : Nat) (h : P.underlying t = some (.slice e)) (a : Addr) (l c l' c' : Nat) (w : World) : (Op.equalIn (d + 1) t (.slice (some a) l c) (.slice none l' c')).run P w = .ok false w := by
  simp [Op.equalIn, run_underlying h]

theorem part_cell {P : Program} {t : TypeId} {d : TypeDesc} (h : P.underlying t = some d) (hd : (match d with | .struct _ | .array _ _ => true | _ => false) = false) {cs : Array Value} {i : Nat} {v : Value}
    (hv : cs[i]? = some v) (w : World) : (part t cs i).run P w = .ok v w := by
  have : (isAgg t).run P w = .ok false w := by
    simp only [isAgg, Sem.run_bind, run_underlying h, Result.andThen_ok]
    cases d <;> first | rfl | (simp at hd; done)
  simp only [part, Sem.run_bind, this, Result.andThen_ok, Bool.false_eq_true, if_false, Sem.run_ite, hv, Sem.run_pure]

theorem eqFields_ok {P : Program} {env : Env} {ρ : Pl} {cx : Ctx} (hc : cx.ok env) (d : Nat) (w : World) {cs ds : Array Value} : ∀ (fs : List Field) (i : Nat) (xs ys : List SV) (us vs : List Value) (b : BE),
    eqFS P cx fs i xs ys = some b → RepL env ρ xs us → RepL env ρ ys vs →
    (∀ (j : Nat) (v : Value), us[j]? = some v → cs[i + j]? = some v) → (∀ (j : Nat) (v : Value), vs[j]? = some v → ds[i + j]? = some v) →
    (Op.eqFields (d + 1) cs ds fs).run P w = .ok (b.den env) w
  | [], i, xs, ys, us, vs, b, he, hx, hy, h1, h2 => by
      cases xs <;> cases ys <;> simp [eqFS] at he
      subst he
      simp [Op.eqFields, BE.den]
  | f :: fs, i, [], ys, us, vs, b, he, hx, hy, h1, h2 => by cases ys <;> simp [eqFS] at he
  | f :: fs, i, x :: xs, [], us, vs, b, he, hx, hy, h1, h2 => by simp [eqFS] at he
  | f :: fs, i, x :: xs, y :: ys, us, vs, b, he, hx, hy, h1, h2 => by
      simp only [eqFS, beq_dec] at he
      cases hcond : (f.name != "_" && decide (f.offset = i)) with
      | false => rw [hcond] at he; cases he
      | true =>
        rw [hcond, cond_true] at he
        simp only [Bool.and_eq_true, decide_eq_true_eq, bne_iff_ne] at hcond
        obtain ⟨hname, hoff⟩ := hcond
        obtain ⟨u, us, hu, hus, rfl⟩ := hx
        obtain ⟨v, vs, hv, hvs, rfl⟩ := hy
        have e1 := h1 0 u (by simp)
        have e2 := h2 0 v (by simp)
        simp only [Nat.add_zero] at e1 e2
        have rest : ∀ b', eqFS P cx fs (i + 1) xs ys = some b' → (Op.eqFields (d + 1) cs ds fs).run P w = .ok (b'.den env) w := fun b' hb' =>
          eqFields_ok hc d w fs (i + 1) xs ys us vs b' hb' hus hvs
            (fun j v hj => by rw [show i + 1 + j = i + (j + 1) by omega]; exact h1 (j + 1) v (by simpa using hj))
            (fun j v hj => by rw [show i + 1 + j = i + (j + 1) by omega]; exact h2 (j + 1) v (by simpa using hj))
        have fin : ∀ (q : Bool) (b0 b' : BE), (part f.type cs f.offset).run P w = .ok u w → (part f.type ds f.offset).run P w = .ok v w →
            (Op.equalIn (d + 1) f.type u v).run P w = .ok q w → q = b0.den env → eqFS P cx fs (i + 1) xs ys = some b' → b = mkAnd b0 b' →
            (Op.eqFields (d + 1) cs ds (f :: fs)).run P w = .ok (b.den env) w := by
          intro q b0 b' p1 p2 p3 hq hb' hb
          simp only [Op.eqFields, ne_eq, hname, not_false_eq_true, if_true, Sem.run_bind, p1, p2, p3, Result.andThen_ok, Sem.run_ite, rest b' hb', Sem.run_pure]
          rw [hb, mkAnd_ok, ← hq]
          cases q <;> simp
        split at he
        · rename_i kd k1 a1 k2 a2 hk
          split at he
          · rename_i hkk
            subst hkk
            rw [Option.map_eq_some_iff] at he
            obtain ⟨b', hb', rfl⟩ := he
            have hu' : u = _ := hu
            have hv' : v = _ := hv
            refine fin (a1.den env == a2.den env) (mkCmp cx .eql a1 a2) b' (part_cell hk rfl (by rw [hoff]; exact e1) w) (part_cell hk rfl (by rw [hoff]; exact e2) w) ?_ ?_ hb' rfl
            · rw [hu', hv']; exact equalIn_int d hk _ _ w
            · exact (mkCmp_ok hc .eql a1 a2).symm
          · cases he
        · rename_i c1 c2 hk
          rw [Option.map_eq_some_iff] at he
          obtain ⟨b', hb', rfl⟩ := he
          have hu' : u = _ := hu
          have hv' : v = _ := hv
          refine fin (c1.den env == c2.den env) (mkEqb c1 c2) b' (part_cell hk rfl (by rw [hoff]; exact e1) w) (part_cell hk rfl (by rw [hoff]; exact e2) w) ?_ ?_ hb' rfl
          · rw [hu', hv']; exact equalIn_bool d hk _ _ w
          · exact (mkEqb_ok env c1 c2).symm
        · cases he

theorem eqAgg_ok {P : Program} {env : Env} {ρ : Pl} {cx : Ctx} (hc : cx.ok env) {t : TypeId} {xs ys : List SV} {us vs : List Value} {b : BE} (h : eqAgg P cx t xs ys = some b)
    (hx : RepL env ρ xs us) (hy : RepL env ρ ys vs) (w : World) :
    (Op.equal t (.agg us.toArray) (.agg vs.toArray)).run P w = .ok (b.den env) w ∧ P.eqGuardType P.depth t = false := by
  unfold eqAgg at h
  split at h
  · rename_i fs hu
    cases hcond : (!P.stoodInHeld t && !P.eqGuardType P.depth t) with
    | false => rw [hcond] at h; cases h
    | true =>
      rw [hcond, cond_true] at h
      simp only [Bool.and_eq_true, Bool.not_eq_true'] at hcond
      refine ⟨?_, hcond.2⟩
      have hf : P.fieldsOf t = fs := by simp [Program.fieldsOf, hu]
      rw [equal_eq, run_equalIn_struct w 9999 t _ _ (by rw [hf]; exact hu) hcond.1, hf]
      exact eqFields_ok hc 9998 w fs.toList 0 xs ys us vs b h hx hy (fun j v hj => by simpa using hj) (fun j v hj => by simpa using hj)
  · cases h

/-! ### binary operations -/

theorem SA.same_ok {env : Env} {ρ : Pl} {a b : SA} {A A' : Addr} {v : Bool} (h : SA.same a b = some v) (ha : RepA env ρ a A) (hb : RepA env ρ b A') : A.block = A'.block ∧ (v = true ↔ A = A') := by
  unfold SA.same at h
  split at h
  · rename_i b1 o1 b2 o2
    simp only [beq_dec] at h
    by_cases hbb : b1 = b2
    · subst hbb
      simp only [decide_true, cond_true, Option.some.injEq] at h
      obtain ⟨r, o, e, rfl⟩ := ha
      obtain ⟨r', o', e', rfl⟩ := hb
      rw [e] at e'
      cases e'
      refine ⟨rfl, ?_⟩
      rw [← h]
      simp
    · simp only [hbb, decide_false, cond_false] at h
      cases h
  · cases h

theorem binS_ok {P : Program} {env : Env} {ρ : Pl} {B : Nat} {cx : Ctx} {op : BinOp} {t : TypeId} {x y : SV} {k : SV → Ctx → Tree} {s : St} {r : Out × St} {w : World} {X Y : Value}
    (h : runE env (binS P cx op t x y k) s = some r) (hc : cx.ok env) (hs : HS env ρ B s.h w) (hX : Rep env ρ x X) (hY : Rep env ρ y Y) :
    ∃ v V cx' s', runE env (k v cx') s' = some r ∧ cx'.ok env ∧ s'.h = s.h ∧ Rep env ρ v V ∧
      ∀ xo yo, (eqGuard op t xo yo X Y).run P w = .ok () w ∧ (binOp op t X Y).run P w = .ok V w := by
  unfold binS at h
  split at h
  · -- integers
    rename_i kx a ky b
    rw [show X = _ from hX, show Y = _ from hY]
    split at h
    · rename_i hcmp
      split at h
      · rename_i hk
        subst hk
        refine ⟨_, _, cx, s, h, hc, rfl, ?_, fun xo yo => ⟨guard_int .., run_cmp hcmp t kx _ _ w⟩⟩
        show _ = _
        rw [mkCmp_ok hc]
      · exact (runE_fail h).elim
    · rename_i hcmp
      have hcmp' : isCmp op = false := by simpa using hcmp
      split at h
      · rename_i hk
        obtain ⟨h1, h2, cx', hc', h3⟩ := needs2_ok h hc
        refine ⟨_, _, cx', s, h3, hc', rfl, ?_, fun xo yo => ⟨guard_int .., run_arith hcmp' t kx ky _ _ w hk h1 h2⟩⟩
        show _ = _
        rw [mkBin_ok hc']
      · exact (runE_fail h).elim
  · -- bools
    rename_i a b
    rw [show X = _ from hX, show Y = _ from hY]
    split at h
    · rename_i hu
      split at h
      · rename_i he
        refine ⟨_, _, cx, s, h, hc, rfl, eqRes_ok he _, fun xo yo => ⟨guard_bool .., ?_⟩⟩
        rw [mkEqb_ok]
        exact run_eqOp he (by simp) (by simp) (by simp) (by simp) (equal_bool hu _ _ w)
      · exact (runE_fail h).elim
    · exact (runE_fail h).elim
  · -- strings
    rename_i a b
    rw [show X = _ from hX, show Y = _ from hY]
    split at h
    · rename_i v hv
      split at h
      · rename_i sv hsv
        refine ⟨_, v, cx, s, h, hc, rfl, ofV1_ok hsv, fun xo yo => ⟨guard_str .., ?_⟩⟩
        have e : binOp op t (.string a) (.string b) = Op.stringOp op a b := by cases op <;> rfl
        rw [e, hv]
        rfl
      · exact (runE_fail h).elim
    · exact (runE_fail h).elim
  · -- pointers
    rename_i a b
    obtain ⟨A, hA, rfl⟩ := hX
    obtain ⟨A', hA', rfl⟩ := hY
    split at h
    · rename_i e hu
      split at h
      · rename_i he
        split at h
        · cases hA; cases hA'
          refine ⟨_, _, cx, s, h, hc, rfl, eqRes_ok he _, fun xo yo => ⟨guard_ptr .., ?_⟩⟩
          exact run_eqOp he (by simp) (by simp) (by simp) (by simp) (by rw [equal_eq]; exact equalIn_ptr_l 9999 hu none w)
        · rename_i b0
          cases hA
          obtain ⟨A2, hA2, rfl⟩ := hA'
          refine ⟨_, _, cx, s, h, hc, rfl, eqRes_ok he _, fun xo yo => ⟨guard_ptr .., ?_⟩⟩
          exact run_eqOp he (by simp) (by simp) (by simp) (by simp) (by rw [equal_eq]; exact equalIn_ptr_l 9999 hu (some A2) w)
        · rename_i b0
          cases hA'
          obtain ⟨A2, hA2, rfl⟩ := hA
          refine ⟨_, _, cx, s, h, hc, rfl, eqRes_ok he _, fun xo yo => ⟨guard_ptr .., ?_⟩⟩
          exact run_eqOp he (by simp) (by simp) (by simp) (by simp) (by rw [equal_eq]; exact equalIn_ptr_r 9999 hu A2 w)
        · rename_i a0 b0
          obtain ⟨A1, hA1, rfl⟩ := hA
          obtain ⟨A2, hA2, rfl⟩ := hA'
          split at h
          · rename_i sz hsz
            split at h
            · rename_i v hv
              obtain ⟨hbl, hiff⟩ := SA.same_ok hv hA1 hA2
              refine ⟨_, _, cx, s, h, hc, rfl, eqRes_ok he _, fun xo yo => ⟨guard_ptr .., ?_⟩⟩
              refine run_eqOp he (by simp) (by simp) (by simp) (by simp) ?_
              rw [equal_eq]
              refine equalIn_ptr 9999 hu hsz A1 A2 ?_
              have : (A1 == A2) = v := by
                cases v with
                | true => simpa using hiff.1 rfl
                | false =>
                  have : ¬ A1 = A2 := fun e => by cases hiff.2 e
                  simpa using this
              simp [sameAddr, hbl, this, BE.den]
            · rename_i hnone
              obtain ⟨u, hg1, hl1, h⟩ := runE_get h
              obtain ⟨v, hg2, hl2, h⟩ := runE_get h
              split at h
              · rename_i l1 t1 l2 t2
                simp only [beq_dec] at h
                by_cases hnn : a0.name = b0.name
                · simp only [hnn, decide_true, cond_true] at h
                  exact (runE_fail h).elim
                · simp only [hnn, decide_false, cond_false] at h
                  rw [St.touch_h] at hg2
                  obtain ⟨r1, o1, e1, hb1, hw1, _⟩ := hs.at _ _ hg1 rfl
                  obtain ⟨r2, o2, e2, hb2, hw2, _⟩ := hs.at _ _ hg2 rfl
                  obtain ⟨rfl, c1, _, ob1⟩ := hb1
                  obtain ⟨rfl, c2, _, ob2⟩ := hb2
                  have hr12 : r1 ≠ r2 := by
                    intro hr
                    subst hr
                    exact hnn (hs.inj _ _ r1 0 0 e1 e2 (hw1 rfl) (by rw [hg1]; rfl) (by rw [hg2]; rfl))
                  have ba : A1.block = r1 := by
                    cases a0 with
                    | c b off => obtain ⟨r, o, e', rfl⟩ := hA1; simp only [SA.name] at e1; rw [e1] at e'; cases e'; rfl
                    | s b ix m off => obtain ⟨r, o, e', _, rfl⟩ := hA1; simp only [SA.name] at e1; rw [e1] at e'; cases e'; rfl
                    | g b off => obtain ⟨r, o, e', rfl⟩ := hA1; simp only [SA.name] at e1; rw [e1] at e'; cases e'; rfl
                  have bb : A2.block = r2 := by
                    cases b0 with
                    | c b off => obtain ⟨r, o, e', rfl⟩ := hA2; simp only [SA.name] at e2; rw [e2] at e'; cases e'; rfl
                    | s b ix m off => obtain ⟨r, o, e', _, rfl⟩ := hA2; simp only [SA.name] at e2; rw [e2] at e'; cases e'; rfl
                    | g b off => obtain ⟨r, o, e', rfl⟩ := hA2; simp only [SA.name] at e2; rw [e2] at e'; cases e'; rfl
                  refine ⟨_, _, cx, _, h, hc, by rw [St.touch_h, St.touch_h], eqRes_ok he _, fun xo yo => ⟨guard_ptr .., ?_⟩⟩
                  refine run_eqOp he (by simp) (by simp) (by simp) (by simp) ?_
                  rw [equal_eq]
                  have hne : A1 ≠ A2 := fun e => hr12 (by rw [← ba, ← bb, e])
                  have := run_sameAddr_other (P := P) w hne (by rw [ba]; exact ob1) (by rw [bb]; exact ob2)
                  exact equalIn_ptr 9999 hu hsz A1 A2 this
              · exact (runE_fail h).elim
          · exact (runE_fail h).elim
      · exact (runE_fail h).elim
    · exact (runE_fail h).elim
  · -- structs
    rename_i xs ys
    obtain ⟨us, hus, rfl⟩ := hX
    obtain ⟨vs, hvs, rfl⟩ := hY
    split at h
    · rename_i he
      split at h
      · rename_i b hb
        obtain ⟨h1, h2⟩ := eqAgg_ok hc hb hus hvs w
        exact ⟨_, _, cx, s, h, hc, rfl, eqRes_ok he _, fun xo yo => ⟨run_eqGuard_agg w op t xo yo _ _ h2, run_eqOp he (by simp) (by simp) (by simp) (by simp) h1⟩⟩
      · exact (runE_fail h).elim
    · exact (runE_fail h).elim
  · -- slices against nil
    rename_i a l1 c1 b l2 c2
    obtain ⟨A, c, hA, _, _, rfl⟩ := hX
    obtain ⟨A', c', hA', _, _, rfl⟩ := hY
    split at h
    · rename_i e hu
      split at h
      · rename_i he
        split at h
        · cases hA; cases hA'
          refine ⟨_, _, cx, s, h, hc, rfl, eqRes_ok he _, fun xo yo => ⟨guard_slice .., ?_⟩⟩
          exact run_eqOp he (by simp) (by simp) (by simp) (by simp) (by rw [equal_eq]; exact equalIn_sl_l 9999 hu none _ _ _ _ w)
        · cases hA
          obtain ⟨A2, hA2, rfl⟩ := hA'
          refine ⟨_, _, cx, s, h, hc, rfl, eqRes_ok he _, fun xo yo => ⟨guard_slice .., ?_⟩⟩
          exact run_eqOp he (by simp) (by simp) (by simp) (by simp) (by rw [equal_eq]; exact equalIn_sl_l 9999 hu (some A2) _ _ _ _ w)
        · cases hA'
          obtain ⟨A2, hA2, rfl⟩ := hA
          refine ⟨_, _, cx, s, h, hc, rfl, eqRes_ok he _, fun xo yo => ⟨guard_slice .., ?_⟩⟩
          exact run_eqOp he (by simp) (by simp) (by simp) (by simp) (by rw [equal_eq]; exact equalIn_sl_r 9999 hu A2 _ _ _ _ w)
        · exact (runE_fail h).elim
      · exact (runE_fail h).elim
    · exact (runE_fail h).elim
  · exact (runE_fail h).elim

end Go.SX
