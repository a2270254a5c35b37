/- One operation that calls no function of the program: the reckoner's tree against the model. -/
import Derived.Test.YtjgkcgkhcdeadaaSw5
namespace Go.SX
open Go Go.RowKit
set_option linter.unusedVariables false
set_option linter.unusedSimpArgs false
set_option linter.unusedSectionVars false

/-! ### parts -/

def RepP (env : Env) (ρ : Pl) : List (Nat × SV) → List (Nat × Value) → Prop
  | [], vs => vs = []
  | p :: l, vs => ∃ v vs', Rep env ρ p.2 v ∧ RepP env ρ l vs' ∧ vs = (p.1, v) :: vs'

theorem evalP_ok {env : Env} {ρ : Pl} {tm : T SV} {ev : Operand → Value} : ∀ {l : List (Nat × Operand)} {ps : List (Nat × SV)}, EvOK env ρ tm ev (l.map (·.2)) → evalP tm l = some ps →
    RepP env ρ ps (l.map fun p => (p.1, ev p.2))
  | [], ps, he, h => by cases h; exact rfl
  | (i, x) :: l, ps, he, h => by
      simp only [evalP] at h
      split at h
      · rename_i a b h1 h2
        cases h
        exact ⟨ev x, _, he x (by simp) _ h1, evalP_ok (fun y hy => he y (by simp at hy ⊢; exact .inr hy)) h2, rfl⟩
      · cases h

theorem RepL.setMany' {env : Env} {ρ : Pl} : ∀ {vs : List SV} {us : List Value} {l : List SV} {cs : List Value} (off : Nat), RepL env ρ l cs → RepL env ρ vs us → RepL env ρ (Go.SX.setMany l off vs) (Go.SX.setMany cs off us)
  | [], us, l, cs, off, h, hv => by rw [show us = [] from hv]; exact h
  | v :: vs, us, l, cs, off, h, hv => by
      obtain ⟨u, us', h1, h2, rfl⟩ := hv
      exact RepL.setMany' (off + 1) (h.set off h1) h2

theorem fold_set (off : Nat) : ∀ (vs : List Value) (j : Nat) (cs : Array Value),
    (((vs.zipIdx j).foldl (fun (cs : Array Value) (p : Value × Nat) => cs.setIfInBounds (off + p.2) p.1) cs)).toList = setMany cs.toList (off + j) vs
  | [], j, cs => rfl
  | v :: vs, j, cs => by
      simp only [List.zipIdx_cons, List.foldl_cons, setMany]
      rw [fold_set off vs (j + 1) _]
      simp [Nat.add_assoc]

theorem fillS_ok {env : Env} {ρ : Pl} {place : Nat → Option (Nat × Nat)} : ∀ {ps : List (Nat × SV)} {vs : List (Nat × Value)} {l l' : List SV} {cs : Array Value}, fillS place l ps = some l' → RepL env ρ l cs.toList → RepP env ρ ps vs →
    ∃ cs', Instr.fill place cs vs = some cs' ∧ RepL env ρ l' cs'.toList
  | [], vs, l, l', cs, h, hl, hp => by
      rw [show vs = [] from hp]
      simp only [fillS, Option.some.injEq] at h
      subst h
      exact ⟨cs, rfl, hl⟩
  | (i, v) :: ps, vs, l, l', cs, h, hl, hp => by
      obtain ⟨V, vs', hV, hvs, rfl⟩ := hp
      simp only [fillS] at h
      split at h
      · cases h
      · rename_i off size hpl
        simp only [beq_dec] at h
        cases hcond : (decide (v.cellsL.length = size) && Nat.ble (off + v.cellsL.length) l.length && !v.isAny) with
        | false => rw [hcond] at h; cases h
        | true =>
          rw [hcond, cond_true] at h
          simp only [Bool.and_eq_true, decide_eq_true_eq, Bool.not_eq_true'] at hcond
          obtain ⟨⟨h1, h2⟩, hna⟩ := hcond
          have h2' := Nat.le_of_ble_eq_true h2
          have hc := hV.cellsL hna
          have e1 : V.cells.size = v.cellsL.length := by rw [← Array.length_toList]; exact hc.length
          have e2 : cs.size = l.length := by rw [← Array.length_toList]; exact hl.length
          obtain ⟨cs', hf, hr⟩ := fillS_ok (cs := (V.cells.zipIdx.foldl (fun cs (p : Value × Nat) => cs.setIfInBounds (off + p.2) p.1) cs)) h (by
            rw [← Array.foldl_toList, Array.toList_zipIdx, fold_set off _ 0 cs]
            exact hl.setMany' _ hc) hvs
          refine ⟨cs', ?_, hr⟩
          simp only [Instr.fill, hpl]
          rw [if_neg (by simp; omega)]
          exact hf

theorem placesOf_ok {P : Program} : ∀ {fs : List Field} {pl : List (Nat × Nat)}, placesOf P fs = some pl → fs.mapM (fun f => (P.info? f.type).map fun i => (f.offset, i.size)) = some pl
  | [], pl, h => by cases h; rfl
  | f :: fs, pl, h => by
      simp only [placesOf] at h
      split at h
      · rename_i n r h1 h2
        cases h
        obtain ⟨i, hi, rfl⟩ := szOf_ok h1
        simp [List.mapM_cons, hi, placesOf_ok h2]
      · cases h

theorem RepL.of_get {env : Env} {ρ : Pl} : ∀ {l : List SV} {vs : List Value}, l.length = vs.length → (∀ (i : Nat) (s : SV) (v : Value), l[i]? = some s → vs[i]? = some v → Rep env ρ s v) → RepL env ρ l vs
  | [], [], _, _ => rfl
  | [], v :: vs, h, _ => by simp at h
  | s :: l, [], h, _ => by simp at h
  | s :: l, v :: vs, h, hr => ⟨v, vs, hr 0 s v (by simp) (by simp), RepL.of_get (by simpa using h) (fun i s v h1 h2 => hr (i + 1) s v (by simpa using h1) (by simpa using h2)), rfl⟩

theorem repeatL_ok {env : Env} {ρ : Pl} {zl : List SV} {z : Array Value} (h : RepL env ρ zl z.toList) (hz : zl.length ≠ 0) (n : Nat) : RepL env ρ (repeatL zl n) (madeCells z n).toList := by
  have hlen : z.size = zl.length := by rw [← Array.length_toList]; exact h.length
  refine RepL.of_get (by simp [repeatL, madeCells]) ?_
  intro i s v h1 h2
  simp only [repeatL, List.getElem?_map, Option.map_eq_some_iff] at h1
  obtain ⟨j, hj, rfl⟩ := h1
  have hjn : j = i ∧ i < n := by
    obtain ⟨hlt, hv⟩ := List.getElem?_eq_some_iff.1 hj
    simp at hlt hv
    omega
  obtain ⟨rfl, hin⟩ := hjn
  have hlt : j % zl.length < zl.length := Nat.mod_lt _ (by omega)
  have e1 : zl[j % zl.length]? = some zl[j % zl.length] := List.getElem?_eq_getElem hlt
  obtain ⟨u, hu, hr⟩ := h.get e1
  rw [e1]
  simp only [Option.getD_some]
  have e3 : v = u := by
    have e2 : (madeCells z n).toList[j]? = some (z[j % z.size]!) := by
      simp [madeCells, hin]
    rw [e2] at h2
    cases h2
    rw [hlen]
    simp only [Array.getElem?_toList] at hu
    simp [getElem!_def, hu]
  rw [e3]
  exact hr

theorem run_buildSlice' {P : Program} (w : World) (t e : TypeId) (len m : Nat) (parts : Array (Nat × Value)) (cells : Array Value) (ie : TypeInfo) (z : Value)
    (hu : P.underlying t = some (.slice e)) (hie : P.info? e = some ie) (hm : ie.size = m) (hz : ie.zero = some z) (hsmall : len * m ≤ 16777216)
    (h : Instr.fill (fun i => some (i * m, m)) (madeCells z.cells (len * m)) parts.toList = some cells) :
    (Instr.buildSlice t len parts).run P w = .ok (.slice (some ⟨w.heap.size, 0, none⟩) len len) (w.alloc (.cells cells e)) := by
  subst hm
  by_cases h0 : len * ie.size = 0
  · have hr : madeCells z.cells (len * ie.size) = #[] := by rw [h0]; simp [madeCells]
    rw [hr] at h
    have hle : ¬ 16777216 < len * ie.size := by omega
    simp [Instr.buildSlice, run_underlying hu, sizeOf, typeInfo, hie, h0, newRow]
    rw [show (Array.map (fun x => default) (Array.range 0) : Array Value) = #[] by simp [Array.range], h]
    simp
  · exact run_buildSlice w t e len parts cells ie z hu hie hz (by omega) h0 h

/-! ### addresses of parts -/

theorem SA.plus_ok {env : Env} {ρ : Pl} {a : SA} {A : Addr} (h : RepA env ρ a A) (n : Nat) : RepA env ρ (a.plus n) (A.add n) := by
  cases a with
  | c b off => obtain ⟨r, o, e, rfl⟩ := h; rw [Addr.add']; exact ⟨r, o, e, by simp [Nat.add_assoc]⟩
  | s b ix m off => obtain ⟨r, o, e, hn, rfl⟩ := h; rw [Addr.add']; exact ⟨r, o, e, hn, by simp [Nat.add_assoc]⟩
  | g b off => obtain ⟨r, o, e, rfl⟩ := h; rw [Addr.add']; exact ⟨r, o, e, rfl⟩
  | h b ix m off => obtain ⟨r, o, e, hn, rfl⟩ := h; rw [Addr.add']; exact ⟨r, o, e, hn, by simp [Nat.add_assoc]⟩

theorem SA.elem_ok {env : Env} {ρ : Pl} {a b : SA} {A : Addr} {m : Nat} {e : E} (h : a.elem m e = some b) (ha : RepA env ρ a A) (h0 : 0 ≤ e.den env) : RepA env ρ b (A.add ((e.den env).toNat * m)) := by
  unfold SA.elem at h
  split at h
  · rename_i b1 off n
    cases h
    obtain ⟨r, o, e', rfl⟩ := ha
    rw [Addr.add']
    exact ⟨r, o, e', by simp [E.den, Nat.add_assoc]⟩
  · rename_i b1 off n
    cases h
    obtain ⟨r, o, e', rfl⟩ := ha
    rw [Addr.add']
    exact ⟨r, o, e', by simp [E.den]⟩
  · rename_i b1 e1 hno
    cases h
    obtain ⟨r, o, e', rfl⟩ := ha
    rw [Addr.add']
    exact ⟨r, o, e', h0, by simp [Nat.mul_comm]⟩
  · rename_i b1 ix m'
    simp only [beq_dec] at h
    by_cases hm : m = m'
    · subst hm
      simp only [decide_true, cond_true, Option.some.injEq] at h
      subst h
      obtain ⟨r, o, e', hn, rfl⟩ := ha
      rw [Addr.add']
      have hd : (mkO2 .add ix e).den env = ix.den env + e.den env := by rw [mkO2_ok]; rfl
      refine ⟨r, o, e', by rw [hd]; omega, ?_⟩
      rw [hd, Int.toNat_add hn h0, Nat.mul_add, Nat.mul_comm m (e.den env).toNat]
      simp [Nat.add_assoc]
    · simp only [hm, decide_false, cond_false] at h
      cases h
  · cases h

theorem run_sliceAt' {P : Program} {t e : TypeId} {m : Nat} (hu : P.underlying t = some (.slice e)) (hm : szOf P e = some m) (A : Option Addr) (len c : Nat) (lo hi : Option Value) (l h : Nat)
    (hl : (lo = none ∧ l = 0) ∨ ∃ k, lo = some (.int k l)) (hh : (hi = none ∧ h = len) ∨ ∃ k, hi = some (.int k h)) (h1 : l ≤ h) (h2 : h ≤ c) (w : World) :
    (Instr.sliceAt t (.slice A len c) lo hi none).run P w = .ok (sliced A l h c m) w := by
  have i1 : ((l : Nat) : Int) ≤ (h : Nat) := by omega
  have i2 : ((h : Nat) : Int) ≤ (c : Nat) := by omega
  rcases hl with ⟨rfl, rfl⟩ | ⟨kl, rfl⟩ <;> rcases hh with ⟨rfl, rfl⟩ | ⟨kh, rfl⟩ <;>
    simp [Instr.sliceAt, Instr.slice, run_underlying hu, Instr.sliceBounds, run_sliceBound, sliced, run_sizeOf' hm, i1, i2, h1, h2, Instr.sliceBound, asIntOf]

theorem run_sliceArr {P : Program} {t e : TypeId} {n m : Nat} (hu : P.underlying t = some (.array n e)) (hm : szOf P e = some m) (A : Addr) (lo hi : Option Value) (l h : Nat) (w : World)
    (hl : (lo = none ∧ l = 0) ∨ ∃ k, lo = some (.int k l)) (hh : (hi = none ∧ h = n) ∨ ∃ k, hi = some (.int k h)) (h1 : l ≤ h) (h2 : h ≤ n) :
    (Instr.sliceAt t (.pointer (some A)) lo hi none).run P w = .ok (.slice (some (if n = l then A else A.add (l * m))) (h - l) (n - l)) w := by
  have i1 : ((l : Nat) : Int) ≤ (h : Nat) := by omega
  have i2 : ((h : Nat) : Int) ≤ (n : Nat) := by omega
  rcases hl with ⟨rfl, rfl⟩ | ⟨kl, rfl⟩ <;> rcases hh with ⟨rfl, rfl⟩ | ⟨kh, rfl⟩ <;>
    simp [Instr.sliceAt, run_underlying hu, Instr.sliceBounds, run_sliceBound, run_sizeOf' hm, i1, i2, h1, h2, Instr.sliceBound, asIntOf, Instr.sureAddr]

/-! ### least and greatest -/

def mm2 : O2 → Value → Value → Sem Value
  | .mx => Builtin.max2
  | _ => Builtin.min2

theorem mmS_none (cx : Ctx) (o : O2) : ∀ (l : List SV), l.foldl (fun acc y => match acc, y with
    | some (.int k a), .int _ b => some (.int k (mkMM cx o a b))
    | _, _ => none) (none : Option SV) = none
  | [] => rfl
  | x :: l => mmS_none cx o l

theorem mmS_ok {P : Program} {env : Env} {ρ : Pl} {cx : Ctx} (hc : cx.ok env) {o : O2} (ho : o = .mx ∨ o = .mn) (w : World) : ∀ (l : List SV) (vs : List Value) (x : SV) (X : Value) (y : SV), RepL env ρ l vs → Rep env ρ x X →
    l.foldl (fun acc y => match acc, y with
      | some (.int k a), .int _ b => some (.int k (mkMM cx o a b))
      | _, _ => none) (some x) = some y → (∃ k e, y = .int k e) → ∃ Y, Rep env ρ y Y ∧ (vs.foldlM (mm2 o) X).run P w = .ok Y w
  | [], vs, x, X, y, hl, hx, h, hy => by
      rw [show vs = [] from hl]
      cases h
      exact ⟨X, hx, rfl⟩
  | z :: l, vs, x, X, y, hl, hx, h, hy => by
      obtain ⟨v, vs', hv, hvs, rfl⟩ := hl
      simp only [List.foldl_cons] at h
      split at h
      · rename_i k a k' b hx' 
        cases hx'
        rw [show X = _ from hx, show v = _ from hv]
        have hstep : (mm2 o (.int k (a.den env)) (.int k' (b.den env))).run P w = .ok (.int k ((mkMM cx o a b).den env)) w := by
          rw [mkMM_ok hc]
          rcases ho with rfl | rfl <;> rfl
        obtain ⟨Y, hY, hrun⟩ := mmS_ok hc ho w l vs' _ _ y hvs (show Rep env ρ (.int k (mkMM cx o a b)) _ from rfl) h hy
        exact ⟨Y, hY, by simp only [List.foldlM_cons, Sem.run_bind, hstep, Result.andThen_ok]; exact hrun⟩
      · rw [mmS_none] at h
        cases h

/-! ### the operation -/

/-- from the operation on, the continuation has a value that stands for what the model's operation gives -/
def Goes (P : Program) (env : Env) (B : Nat) (r : Out × St) (k : SV → Ctx → Tree) (ρ : Pl) (w : World) (sem : Sem Next) : Prop :=
  ∃ v cx' s' ρ' V w', runE env (k v cx') s' = some r ∧ cx'.ok env ∧ ρ.le ρ' ∧ Rep env ρ' v V ∧ HS env ρ' B s'.h w' ∧ Below B w w' ∧
    (sem.run P w = .ok (.value V) w' ∨ (sem.run P w = .ok .skip w' ∧ V = undef))

theorem Goes.val {P : Program} {env : Env} {B : Nat} {r : Out × St} {k : SV → Ctx → Tree} {ρ : Pl} {w : World} {sem : Sem Next} {s' : St} {v : SV} {V : Value} {cx' : Ctx}
    (h : runE env (k v cx') s' = some r) (hc : cx'.ok env) (hv : Rep env ρ v V) (hs : HS env ρ B s'.h w) (hrun : sem.run P w = .ok (.value V) w) : Goes P env B r k ρ w sem :=
  ⟨v, cx', s', ρ, V, w, h, hc, ρ.le_refl, hv, hs, Below.refl _ _, .inl hrun⟩

/-- a new block -/
theorem Goes.new {P : Program} {env : Env} {B : Nat} {r : Out × St} {k : SV → Ctx → Tree} {f : Nat → SV} {ρ : Pl} {w : World} {sem : Sem Next} {s : St} {v : Blk} {F : Addr → Value} {cx : Ctx} {ob : Obj}
    (h : runE env (.new v fun n => k (f n) cx) s = some r) (hc : cx.ok env) (hs : HS env ρ B s.h w) (hv : v.own = true) (hb : ∀ ρ', ρ.le ρ' → BS env ρ' (some ob) 0 v)
    (hf : ∀ ρ' n, ρ' n = some (w.heap.size, 0) → Rep env ρ' (f n) (F ⟨w.heap.size, 0, none⟩))
    (hrun : sem.run P w = .ok (.value (F ⟨w.heap.size, 0, none⟩)) (w.alloc ob)) (hw : v.wf env := by exact trivial) : Goes P env B r k ρ w sem := by
  obtain ⟨hn, h2⟩ := runE_new h
  obtain ⟨hle, hρ, hs'⟩ := hs.alloc hn hv hb hw
  refine ⟨_, cx, _, _, _, _, h2, hc, hle, hf _ _ hρ, hs', ?_, .inl hrun⟩
  exact (Below.refl _ _).alloc hs.size _

/-- the operand is there -/
theorem ev_ok {env : Env} {tm : T SV} {x : Operand} {f : SV → Tree} {s : St} {r : Out × St} (h : runE env (match evalO tm x with | some v => f v | none => .fail "operand") s = some r) :
    ∃ v, evalO tm x = some v ∧ runE env (f v) s = some r := by
  split at h
  · exact ⟨_, by assumption, h⟩
  · exact (runE_fail h).elim

theorem run_v {P : Program} {sem : Sem Value} {V : Value} {w w' : World} (h : sem.run P w = .ok V w') : (do pure (Next.value (← sem)) : Sem Next).run P w = .ok (.value V) w' := by
  simp [h]

section
variable {P : Program} {env : Env} {ρ : Pl} {B : Nat} {cx : Ctx} {tm : T SV} {k : SV → Ctx → Tree} {s : St} {r : Out × St} {w : World} {ev : Operand → Value}
  {dst : Option Tmp} {type : TypeId} {pos : String} {after : Array Edge} {guard : Option (Nat × Bool)}

theorem aop_build (hc : cx.ok env) (hs : HS env ρ B s.h w) {t : TypeId} {parts : Array (Nat × Operand)}
    (hev : EvOK env ρ tm ev (Op.build t parts).operands.toList)
    (h : runE env (aop P tm cx ⟨dst, .build t parts, type, pos, after, guard⟩ k) s = some r) : Goes P env B r k ρ w (execOp ev ⟨dst, .build t parts, type, pos, after, guard⟩) := by
  simp only [aop] at h
  split at h
  · rename_i z ps hz hps
    obtain ⟨it, v, hit, hiz, hzl⟩ := zeroL_ok hz
    have hP : RepP env ρ ps (parts.map fun p => (p.1, ev p.2)).toList := by
      have := evalP_ok (env := env) (ρ := ρ) (ev := ev) (l := parts.toList) (by simpa [Op.operands] using hev) hps
      simpa using this
    have hZ : RepL env ρ z v.cells.toList := ofL_ok hzl
    split at h
    · rename_i fs hu
      split at h
      · rename_i pl hpl
        split at h
        · rename_i l hl
          obtain ⟨cs', hf, hr⟩ := fillS_ok hl hZ hP
          refine Goes.val h hc (V := .agg cs') ⟨cs'.toList, hr, by simp⟩ hs ?_
          refine run_v (run_build w t _ cs' ?_)
          simp only [Program.built, hit, hu, hiz, placesOf_ok hpl]
          rw [← hf]
          congr 1
          funext i
          simp
        · exact (runE_fail h).elim
      · exact (runE_fail h).elim
    · rename_i n e hu
      split at h
      · rename_i m hm
        split at h
        · rename_i l hl
          obtain ⟨cs', hf, hr⟩ := fillS_ok hl hZ hP
          refine Goes.val h hc (V := .agg cs') ⟨cs'.toList, hr, by simp⟩ hs ?_
          refine run_v (run_build w t _ cs' ?_)
          obtain ⟨ie, hie, rfl⟩ := szOf_ok hm
          simp only [Program.built, hit, hu, hiz, hie]
          exact hf
        · exact (runE_fail h).elim
      · exact (runE_fail h).elim
    · exact (runE_fail h).elim
  · exact (runE_fail h).elim

theorem aop_buildSlice (hc : cx.ok env) (hs : HS env ρ B s.h w) {t : TypeId} {len : Nat} {parts : Array (Nat × Operand)}
    (hev : EvOK env ρ tm ev (Op.buildSlice t len parts).operands.toList)
    (h : runE env (aop P tm cx ⟨dst, .buildSlice t len parts, type, pos, after, guard⟩ k) s = some r) : Goes P env B r k ρ w (execOp ev ⟨dst, .buildSlice t len parts, type, pos, after, guard⟩) := by
  simp only [aop] at h
  split at h
  · rename_i e ps hu hps
    have hP : RepP env ρ ps (parts.map fun p => (p.1, ev p.2)).toList := by
      have := evalP_ok (env := env) (ρ := ρ) (ev := ev) (l := parts.toList) (by simpa [Op.operands] using hev) hps
      simpa using this
    split at h
    · rename_i m z hm hz
      obtain ⟨it, v, hit, hiz, hzl⟩ := zeroL_ok hz
      obtain ⟨ie, hie, hsz⟩ := szOf_ok hm
      rw [hit] at hie
      cases hie
      have hZ : RepL env ρ z v.cells.toList := ofL_ok hzl
      cases hcond : (Nat.ble (len * m) 16777216 && !Nat.beq z.length 0) with
      | false => rw [hcond] at h; exact (runE_fail h).elim
      | true =>
        rw [hcond, cond_true] at h
        simp only [Bool.and_eq_true, Bool.not_eq_true', beq_dec, decide_eq_false_iff_not] at hcond
        obtain ⟨h1, h2⟩ := hcond
        split at h
        · rename_i l hl
          obtain ⟨cs', hf, hr⟩ := fillS_ok hl (repeatL_ok hZ h2 (len * m)) hP
          refine Goes.new (f := fun n => .slice (some (.c n 0)) (.lit len) (some (.lit len))) (F := fun a => .slice (some a) len len) (ob := .cells cs' e) h hc hs rfl ?_ ?_ ?_
          · exact fun ρ' hle => ⟨rfl, cs'.toList, hr.mono hle, by simp⟩
          · intro ρ' n hn
            exact ⟨some ⟨w.heap.size, 0, none⟩, len, ⟨_, ⟨_, _, hn, rfl⟩, rfl⟩, by simp [RepC, E.den], by simp [E.den], by simp [E.den]⟩
          · exact run_v (run_buildSlice' w t e len m _ cs' it v hu hit hsz hiz (Nat.le_of_ble_eq_true h1) hf)
        · exact (runE_fail h).elim
    · exact (runE_fail h).elim
  · exact (runE_fail h).elim

theorem lo_ok {lo : Option Operand} {l : E} (hl : (match lo with | none => some (E.lit 0) | some o => match evalO tm o with | some (.int _ e) => some e | _ => none) = some l) (h2 : 0 ≤ l.den env)
    (hev : ∀ o, lo = some o → ∀ s, evalO tm o = some s → Rep env ρ s (ev o)) :
    (lo.map ev = none ∧ (l.den env).toNat = 0) ∨ ∃ kd, lo.map ev = some (.int kd ((l.den env).toNat : Nat)) := by
  cases lo with
  | none => simp at hl; subst hl; exact .inl ⟨rfl, rfl⟩
  | some o =>
    simp only at hl
    split at hl
    · rename_i kd e' he'
      cases hl
      have := hev o rfl _ he'
      refine .inr ⟨kd, ?_⟩
      rw [show (((l.den env).toNat : Nat) : Int) = l.den env by omega]
      exact congrArg some this
    · cases hl

theorem hi_ok {hi : Option Operand} {len hh : E} (hhi : (match hi with | none => some len | some o => match evalO tm o with | some (.int _ e) => some e | _ => none) = some hh) (h2 : 0 ≤ hh.den env)
    (hev : ∀ o, hi = some o → ∀ s, evalO tm o = some s → Rep env ρ s (ev o)) :
    (hi.map ev = none ∧ (hh.den env).toNat = (len.den env).toNat) ∨ ∃ kd, hi.map ev = some (.int kd ((hh.den env).toNat : Nat)) := by
  cases hi with
  | none => simp at hhi; subst hhi; exact .inl ⟨rfl, rfl⟩
  | some o =>
    simp only at hhi
    split at hhi
    · rename_i kd e' he'
      cases hhi
      have := hev o rfl _ he'
      refine .inr ⟨kd, ?_⟩
      rw [show (((hh.den env).toNat : Nat) : Int) = hh.den env by omega]
      exact congrArg some this
    · cases hhi

theorem litLo_ok {lo : Option Operand} {d l : Nat} (hl : litLo tm lo d = some l) (hev : ∀ o, lo = some o → ∀ s, evalO tm o = some s → Rep env ρ s (ev o)) :
    (lo.map ev = none ∧ l = d) ∨ ∃ kd, lo.map ev = some (.int kd ((l : Nat) : Int)) := by
  unfold litLo at hl
  cases lo with
  | none => simp at hl; exact .inl ⟨rfl, hl.symm⟩
  | some o =>
    simp only at hl
    split at hl
    · rename_i kd z he'
      split at hl
      · rename_i hz
        cases hl
        have := hev o rfl _ he'
        refine .inr ⟨kd, ?_⟩
        rw [show ((z.toNat : Nat) : Int) = z by omega]
        exact congrArg some this
      · cases hl
    · cases hl

theorem RepA.at {env : Env} {ρ : Pl} {a : SA} {A : Addr} (h : RepA env ρ a A) : ∃ r o, ρ a.name = some (r, o) := by
  cases a with
  | c b off => obtain ⟨r, o, e, _⟩ := h; exact ⟨r, o, e⟩
  | s b ix m off => obtain ⟨r, o, e, _⟩ := h; exact ⟨r, o, e⟩
  | g b off => obtain ⟨r, o, e, _⟩ := h; exact ⟨r, o, e⟩
  | h b ix m off => obtain ⟨r, o, e, _⟩ := h; exact ⟨r, o, e⟩

theorem aop_slice (hc : cx.ok env) (hs : HS env ρ B s.h w) {t : TypeId} {x : Operand} {lo hi : Option Operand}
    (hev : EvOK env ρ tm ev (Op.slice t x lo hi none).operands.toList)
    (h : runE env (aop P tm cx ⟨dst, .slice t x lo hi none, type, pos, after, guard⟩ k) s = some r) : Goes P env B r k ρ w (execOp ev ⟨dst, .slice t x lo hi none, type, pos, after, guard⟩) := by
  simp only [aop] at h
  obtain ⟨v, hv, h⟩ := ev_ok h
  have hX := hev x (by simp [Op.operands]) _ hv
  split at h
  · rename_i e a len cap hu
    obtain ⟨A, c, hA, hcap, hlen0, hXe⟩ := hX
    split at h
    · rename_i l hh m c' hl hhi hm
      have hcap' : c = (c'.den env).toNat := hcap
      obtain ⟨h1, cx1, hc1, h⟩ := need_ok h hc
      obtain ⟨h2, cx2, hc2, h⟩ := need_ok h hc1
      obtain ⟨h3, cx3, hc3, h⟩ := need_ok h hc2
      obtain ⟨cx4, hc4, h⟩ := branch_ok h hc3
      rw [mkCmp_ok hc] at h1
      rw [mkCmp_ok hc1] at h2
      rw [mkCmp_ok hc2] at h3
      rw [mkCmp_ok hc3] at h
      simp only [cmpI, decide_eq_true_eq, E.den, ge_iff_le] at h1 h2 h3
      have hlo := lo_ok (env := env) (ρ := ρ) (tm := tm) (ev := ev) (lo := lo) hl h2 (fun o ho s hs' => hev o (by subst ho; simp [Op.operands]) s hs')
      have hhi' := hi_ok (env := env) (ρ := ρ) (tm := tm) (ev := ev) (hi := hi) (len := len) hhi (by omega) (fun o ho s hs' => hev o (by subst ho; simp [Op.operands]) s hs')
      have hrun : (execOp ev ⟨dst, .slice t x lo hi none, type, pos, after, guard⟩).run P w = .ok (.value (sliced A (l.den env).toNat (hh.den env).toNat c m)) w := by
        refine run_v ?_
        rw [hXe]
        exact run_sliceAt' hu hm A _ c _ _ _ _ hlo hhi' (by omega) (by omega) w
      have hsub1 : (mkO2 .sub hh l).den env = hh.den env - l.den env := mkO2_ok env .sub hh l
      have hsub2 : (mkO2 .sub c' l).den env = c'.den env - l.den env := mkO2_ok env .sub c' l
      split at h
      · rename_i hcl
        simp only [cmpI, beq_iff_eq] at hcl
        refine Goes.val h hc4 ?_ hs hrun
        refine ⟨A, c - (l.den env).toNat, hA, ?_, ?_, ?_⟩
        · show _ = _
          rw [hsub2]; omega
        · rw [hsub1]; omega
        · rw [hsub1]
          simp only [sliced]
          rw [if_pos (by omega), show (hh.den env - l.den env).toNat = (hh.den env).toNat - (l.den env).toNat by omega]
      · rename_i hcl
        have hcl' : ¬ c'.den env = l.den env := by
          intro e
          exact hcl (by simp [cmpI, e])
        split at h
        · exact (runE_fail h).elim
        · rename_i a1
          obtain ⟨A1, hA1, rfl⟩ := hA
          split at h
          · rename_i b hb
            refine Goes.val h hc4 ?_ hs hrun
            refine ⟨some (A1.add ((l.den env).toNat * m)), c - (l.den env).toNat, ⟨_, SA.elem_ok hb hA1 (by omega), rfl⟩, ?_, ?_, ?_⟩
            · show _ = _
              rw [hsub2]; omega
            · rw [hsub1]; omega
            · rw [hsub1]
              simp only [sliced]
              rw [if_neg (by omega), show (hh.den env - l.den env).toNat = (hh.den env).toNat - (l.den env).toNat by omega]
              rfl
          · exact (runE_fail h).elim
    · -- a row whose capacity is not known
      rename_i l hh m hl hhi hm
      obtain ⟨hcap1, hcap2⟩ : RepC env ρ a (len.den env).toNat c none := hcap
      obtain ⟨h1, cx1, hc1, h⟩ := need_ok h hc
      obtain ⟨h2, cx2, hc2, h⟩ := need_ok h hc1
      obtain ⟨h3, cx3, hc3, h⟩ := need_ok h hc2
      rw [mkCmp_ok hc] at h1
      rw [mkCmp_ok hc1] at h2
      rw [mkCmp_ok hc2] at h3
      simp only [cmpI, decide_eq_true_eq, E.den, ge_iff_le] at h1 h2 h3
      have hlo := lo_ok (env := env) (ρ := ρ) (tm := tm) (ev := ev) (lo := lo) hl h2 (fun o ho s hs' => hev o (by subst ho; simp [Op.operands]) s hs')
      have hhi' := hi_ok (env := env) (ρ := ρ) (tm := tm) (ev := ev) (hi := hi) (len := len) hhi (by omega) (fun o ho s hs' => hev o (by subst ho; simp [Op.operands]) s hs')
      have hrun : (execOp ev ⟨dst, .slice t x lo hi none, type, pos, after, guard⟩).run P w = .ok (.value (sliced A (l.den env).toNat (hh.den env).toNat c m)) w := by
        refine run_v ?_
        rw [hXe]
        exact run_sliceAt' hu hm A _ c _ _ _ _ hlo hhi' (by omega) (by omega) w
      split at h
      · rename_i l1 a1 a2
        have hsub1 : (mkO2 .sub hh (.lit 0)).den env = hh.den env - 0 := mkO2_ok env .sub hh (.lit 0)
        refine Goes.val h hc3 ?_ hs hrun
        have e0 : sliced A 0 (hh.den env).toNat c m = .slice A (hh.den env).toNat c := by
          obtain ⟨A1, hA1, rfl⟩ := hA
          simp only [sliced]
          by_cases hc0 : c = 0
          · simp [hc0]
          · rw [if_neg hc0]; simp [Addr.add]
        simp only [E.den, Int.toNat_zero]
        rw [e0]
        refine ⟨A, c, hA, ⟨?_, hcap2⟩, ?_, ?_⟩
        · rw [hsub1]; omega
        · rw [hsub1]; simp only [E.den] at h3; omega
        · rw [hsub1]; simp
      · rename_i a1 hno
        obtain ⟨A1, hA1, rfl⟩ := hA
        cases hlh : l.same hh with
        | true =>
          rw [hlh, cond_true] at h
          have hle := E.same_eq hlh
          rw [← hle] at hrun
          refine Goes.val h hc3 ?_ hs hrun
          obtain ⟨r0, o0, e0⟩ := RepA.at hA1
          refine ⟨r0, o0, e0, by simp [E.den], .inl ⟨rfl, ?_⟩⟩
          simp only [sliced, Nat.sub_self]
          split <;> exact ⟨_, _, rfl⟩
        | false =>
        rw [hlh, cond_false] at h
        obtain ⟨h4, cx4, hc4, h⟩ := need_ok h hc3
        rw [mkCmp_ok hc3] at h4
        simp only [cmpI, decide_eq_true_eq, E.den] at h4
        have hsub1 : (mkO2 .sub hh l).den env = hh.den env - l.den env := mkO2_ok env .sub hh l
        split at h
        · rename_i b hb
          split at h
          · rename_i hcb
            refine Goes.val h hc4 ?_ hs hrun
            refine ⟨some (A1.add ((l.den env).toNat * m)), c - (l.den env).toNat, ⟨_, SA.elem_ok hb hA1 (by omega), rfl⟩, ⟨?_, ?_⟩, ?_, ?_⟩
            · rw [hsub1]; omega
            · intro b' hb'; rw [hcb] at hb'; cases hb'
            · rw [hsub1]; omega
            · rw [hsub1]
              simp only [sliced]
              rw [if_neg (by omega), show (hh.den env - l.den env).toNat = (hh.den env).toNat - (l.den env).toNat by omega]
              rfl
          · exact (runE_fail h).elim
        · exact (runE_fail h).elim
      · exact (runE_fail h).elim
    · exact (runE_fail h).elim
  · -- an array
    rename_i n e b off hu
    obtain ⟨A, hA, hXe⟩ := hX
    obtain ⟨A0, ⟨r0, o0, hρ, rfl⟩, rfl⟩ := hA
    split at h
    · rename_i l hh m hl hhi hm
      split at h
      · rename_i hlh
        have hlo := litLo_ok (env := env) (ρ := ρ) (ev := ev) hl (fun o ho s hs' => hev o (by subst ho; simp [Op.operands]) s hs')
        have hhi' := litLo_ok (env := env) (ρ := ρ) (ev := ev) hhi (fun o ho s hs' => hev o (by subst ho; simp [Op.operands]) s hs')
        refine Goes.val h hc (V := .slice (some ⟨r0, o0 + (if n = l then off else off + l * m), none⟩) (hh - l) (n - l)) ⟨_, n - l, ⟨_, ⟨r0, o0, hρ, rfl⟩, rfl⟩, ?_, ?_, ?_⟩ hs (run_v ?_)
        · simp [RepC, E.den]
        · simp [E.den]
        · simp [E.den]
        · rw [hXe, Option.map_none, run_sliceArr hu hm _ _ _ _ _ _ hlo hhi' hlh.1 hlh.2]
          by_cases hnl : n = l
          · simp [hnl]
          · simp [hnl, Addr.add', Nat.add_assoc]
      · exact (runE_fail h).elim
    · exact (runE_fail h).elim
  · exact (runE_fail h).elim

theorem run_slice000 {t e : TypeId} {m : Nat} (hu : P.underlying t = some (.slice e)) (hm : szOf P e = some m) (A : Option Addr) (len c : Nat) (kd kd' : IntKind) (w : World) :
    (Instr.sliceAt t (.slice A len c) none (some (.int kd 0)) (some (.int kd' 0))).run P w = .ok (.slice A 0 0) w := by
  simp [Instr.sliceAt, Instr.slice, run_underlying hu, Instr.sliceBounds, run_sliceBound, sliced, run_sizeOf' hm, Instr.sliceBound, asIntOf]

theorem aop_slice000 (hc : cx.ok env) (hs : HS env ρ B s.h w) {t : TypeId} {x : Operand} {kd kd' : IntKind}
    (hev : EvOK env ρ tm ev (Op.slice t x none (some (.const (.int kd 0))) (some (.const (.int kd' 0)))).operands.toList)
    (h : runE env (aop P tm cx ⟨dst, .slice t x none (some (.const (.int kd 0))) (some (.const (.int kd' 0))), type, pos, after, guard⟩ k) s = some r) :
    Goes P env B r k ρ w (execOp ev ⟨dst, .slice t x none (some (.const (.int kd 0))) (some (.const (.int kd' 0))), type, pos, after, guard⟩) := by
  simp only [aop] at h
  obtain ⟨v, hv, h⟩ := ev_ok h
  have hX := hev x (by simp [Op.operands]) _ hv
  split at h
  · rename_i e a len cap hu
    obtain ⟨A, c, hA, hcap, hlen0, hXe⟩ := hX
    split at h
    · rename_i m hm
      refine Goes.val h hc (V := .slice A 0 0) ⟨A, 0, hA, rfl, by simp [E.den], by simp [E.den]⟩ hs (run_v ?_)
      have e1 : ev (.const (.int kd 0)) = .int kd 0 := hev (.const (.int kd 0)) (by simp [Op.operands]) (.int kd (.lit 0)) rfl
      have e2 : ev (.const (.int kd' 0)) = .int kd' 0 := hev (.const (.int kd' 0)) (by simp [Op.operands]) (.int kd' (.lit 0)) rfl
      simp only [Option.map_some, Option.map_none, hXe, e1, e2]
      exact run_slice000 hu hm A _ c kd kd' w
    · exact (runE_fail h).elim
  · exact (runE_fail h).elim
end

end Go.SX
