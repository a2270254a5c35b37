/- One operation that calls no function of the program: the reckoner's tree against the model.
Every operation that calls no function of the program. -/
import Derived.Test.YtfkkimpcemlmcaaSw5
namespace Go.SX
open Go Go.RowKit
set_option linter.unusedVariables false
set_option linter.unusedSimpArgs false
set_option linter.unusedSectionVars false

/-! ### parts -/

def RepP (env : Env) (ρ : Pl) : List (Nat × SV) → List (Nat × Value) → Prop
  | [], vs => vs = []
  | p :: l, vs => ∃ v vs', Rep env ρ p.2 v ∧ RepP env ρ l vs' ∧ vs = (p.1, v) :: vs'

theorem evalP_ok {env : Env} {ρ : Pl} {tm : T SV} {ev : Operand → Value} : ∀ {l : List (Nat × Operand)} {ps : List (Nat × SV)}, EvOK env ρ tm ev (l.map (·.2)) → evalP tm l = some ps →
    RepP env ρ ps (l.map fun p => (p.1, ev p.2))
  | [], ps, he, h => by cases h; exact rfl
  | (i, x) :: l, ps, he, h => by
      simp only [evalP] at h
      split at h
      · rename_i a b h1 h2
        cases h
        exact ⟨ev x, _, he x (by simp) _ h1, evalP_ok (fun y hy => he y (by simp at hy ⊢; exact .inr hy)) h2, rfl⟩
      · cases h

theorem RepL.setMany' {env : Env} {ρ : Pl} : ∀ {vs : List SV} {us : List Value} {l : List SV} {cs : List Value} (off : Nat), RepL env ρ l cs → RepL env ρ vs us → RepL env ρ (Go.SX.setMany l off vs) (Go.SX.setMany cs off us)
  | [], us, l, cs, off, h, hv => by rw [show us = [] from hv]; exact h
  | v :: vs, us, l, cs, off, h, hv => by
      obtain ⟨u, us', h1, h2, rfl⟩ := hv
      exact RepL.setMany' (off + 1) (h.set off h1) h2

theorem fold_set (off : Nat) : ∀ (vs : List Value) (j : Nat) (cs : Array Value),
    (((vs.zipIdx j).foldl (fun (cs : Array Value) (p : Value × Nat) => cs.setIfInBounds (off + p.2) p.1) cs)).toList = setMany cs.toList (off + j) vs
  | [], j, cs => rfl
  | v :: vs, j, cs => by
      simp only [List.zipIdx_cons, List.foldl_cons, setMany]
      rw [fold_set off vs (j + 1) _]
      simp [Nat.add_assoc]

theorem fillS_ok {env : Env} {ρ : Pl} {place : Nat → Option (Nat × Nat)} : ∀ {ps : List (Nat × SV)} {vs : List (Nat × Value)} {l l' : List SV} {cs : Array Value}, fillS place l ps = some l' → RepL env ρ l cs.toList → RepP env ρ ps vs →
    ∃ cs', Instr.fill place cs vs = some cs' ∧ RepL env ρ l' cs'.toList
  | [], vs, l, l', cs, h, hl, hp => by
      rw [show vs = [] from hp]
      simp only [fillS, Option.some.injEq] at h
      subst h
      exact ⟨cs, rfl, hl⟩
  | (i, v) :: ps, vs, l, l', cs, h, hl, hp => by
      obtain ⟨V, vs', hV, hvs, rfl⟩ := hp
      simp only [fillS] at h
      split at h
      · cases h
      · rename_i off size hpl
        simp only [beq_dec] at h
        cases hcond : (decide (v.cellsL.length = size) && Nat.ble (off + v.cellsL.length) l.length && !v.isAny) with
        | false => rw [hcond] at h; cases h
        | true =>
          rw [hcond, cond_true] at h
          simp only [Bool.and_eq_true, decide_eq_true_eq, Bool.not_eq_true'] at hcond
          obtain ⟨⟨h1, h2⟩, hna⟩ := hcond
          have h2' := Nat.le_of_ble_eq_true h2
          have hc := hV.cellsL hna
          have e1 : V.cells.size = v.cellsL.length := by rw [← Array.length_toList]; exact hc.length
          have e2 : cs.size = l.length := by rw [← Array.length_toList]; exact hl.length
          obtain ⟨cs', hf, hr⟩ := fillS_ok (cs := (V.cells.zipIdx.foldl (fun cs (p : Value × Nat) => cs.setIfInBounds (off + p.2) p.1) cs)) h (by
            rw [← Array.foldl_toList, Array.toList_zipIdx, fold_set off _ 0 cs]
            exact hl.setMany' _ hc) hvs
          refine ⟨cs', ?_, hr⟩
          simp only [Instr.fill, hpl]
          rw [if_neg (by simp; omega)]
          exact hf

theorem placesOf_ok {P : Program} : ∀ {fs : List Field} {pl : List (Nat × Nat)}, placesOf P fs = some pl → fs.mapM (fun f => (P.info? f.type).map fun i => (f.offset, i.size)) = some pl
  | [], pl, h => by cases h; rfl
  | f :: fs, pl, h => by
      simp only [placesOf] at h
      split at h
      · rename_i n r h1 h2
        cases h
        obtain ⟨i, hi, rfl⟩ := szOf_ok h1
        simp [List.mapM_cons, hi, placesOf_ok h2]
      · cases h

theorem RepL.of_get {env : Env} {ρ : Pl} : ∀ {l : List SV} {vs : List Value}, l.length = vs.length → (∀ (i : Nat) (s : SV) (v : Value), l[i]? = some s → vs[i]? = some v → Rep env ρ s v) → RepL env ρ l vs
  | [], [], _, _ => rfl
  | [], v :: vs, h, _ => by simp at h
  | s :: l, [], h, _ => by simp at h
  | s :: l, v :: vs, h, hr => ⟨v, vs, hr 0 s v (by simp) (by simp), RepL.of_get (by simpa using h) (fun i s v h1 h2 => hr (i + 1) s v (by simpa using h1) (by simpa using h2)), rfl⟩

theorem repeatL_ok {env : Env} {ρ : Pl} {zl : List SV} {z : Array Value} (h : RepL env ρ zl z.toList) (hz : zl.length ≠ 0) (n : Nat) : RepL env ρ (repeatL zl n) (madeCells z n).toList := by
  have hlen : z.size = zl.length := by rw [← Array.length_toList]; exact h.length
  refine RepL.of_get (by simp [repeatL, madeCells]) ?_
  intro i s v h1 h2
  simp only [repeatL, List.getElem?_map, Option.map_eq_some_iff] at h1
  obtain ⟨j, hj, rfl⟩ := h1
  have hjn : j = i ∧ i < n := by
    obtain ⟨hlt, hv⟩ := List.getElem?_eq_some_iff.1 hj
    simp at hlt hv
    omega
  obtain ⟨rfl, hin⟩ := hjn
  have hlt : j % zl.length < zl.length := Nat.mod_lt _ (by omega)
  have e1 : zl[j % zl.length]? = some zl[j % zl.length] := List.getElem?_eq_getElem hlt
  obtain ⟨u, hu, hr⟩ := h.get e1
  rw [e1]
  simp only [Option.getD_some]
  have e3 : v = u := by
    have e2 : (madeCells z n).toList[j]? = some (z[j % z.size]!) := by
      simp [madeCells, hin]
    rw [e2] at h2
    cases h2
    rw [hlen]
    simp only [Array.getElem?_toList] at hu
    simp [getElem!_def, hu]
  rw [e3]
  exact hr

theorem run_buildSlice' {P : Program} (w : World) (t e : TypeId) (len m : Nat) (parts : Array (Nat × Value)) (cells : Array Value) (ie : TypeInfo) (z : Value)
    (hu : P.underlying t = some (.slice e)) (hie : P.info? e = some ie) (hm : ie.size = m) (hz : ie.zero = some z) (hsmall : len * m ≤ 16777216)
    (h : Instr.fill (fun i => some (i * m, m)) (madeCells z.cells (len * m)) parts.toList = some cells) :
    (Instr.buildSlice t len parts).run P w = .ok (.slice (some ⟨w.heap.size, 0, none⟩) len len) (w.alloc (.cells cells e)) := by
  subst hm
  by_cases h0 : len * ie.size = 0
  · have hr : madeCells z.cells (len * ie.size) = #[] := by rw [h0]; simp [madeCells]
    rw [hr] at h
    have hle : ¬ 16777216 < len * ie.size := by omega
    simp [Instr.buildSlice, run_underlying hu, sizeOf, typeInfo, hie, h0, newRow]
    rw [show (Array.map (fun x => default) (Array.range 0) : Array Value) = #[] by simp [Array.range], h]
    simp
  · exact run_buildSlice w t e len parts cells ie z hu hie hz (by omega) h0 h

/-! ### addresses of parts -/

theorem SA.plus_ok {env : Env} {ρ : Pl} {a : SA} {A : Addr} (h : RepA env ρ a A) (n : Nat) : RepA env ρ (a.plus n) (A.add n) := by
  cases a with
  | c b off => obtain ⟨r, o, e, rfl⟩ := h; rw [Addr.add']; exact ⟨r, o, e, by simp [Nat.add_assoc]⟩
  | s b ix m off => obtain ⟨r, o, e, hn, rfl⟩ := h; rw [Addr.add']; exact ⟨r, o, e, hn, by simp [Nat.add_assoc]⟩
  | g b off => obtain ⟨r, o, e, rfl⟩ := h; rw [Addr.add']; exact ⟨r, o, e, rfl⟩
  | h b ix m off => obtain ⟨r, o, e, hn, rfl⟩ := h; rw [Addr.add']; exact ⟨r, o, e, hn, by simp [Nat.add_assoc]⟩

theorem SA.elem_ok {env : Env} {ρ : Pl} {a b : SA} {A : Addr} {m : Nat} {e : E} (h : a.elem m e = some b) (ha : RepA env ρ a A) (h0 : 0 ≤ e.den env) : RepA env ρ b (A.add ((e.den env).toNat * m)) := by
  unfold SA.elem at h
  split at h
  · rename_i b1 off n
    cases h
    obtain ⟨r, o, e', rfl⟩ := ha
    rw [Addr.add']
    exact ⟨r, o, e', by simp [E.den, Nat.add_assoc]⟩
  · rename_i b1 off n
    cases h
    obtain ⟨r, o, e', rfl⟩ := ha
    rw [Addr.add']
    exact ⟨r, o, e', by simp [E.den]⟩
  · rename_i b1 e1 hno
    cases h
    obtain ⟨r, o, e', rfl⟩ := ha
    rw [Addr.add']
    exact ⟨r, o, e', h0, by simp [Nat.mul_comm]⟩
  · rename_i b1 ix m'
    simp only [beq_dec] at h
    by_cases hm : m = m'
    · subst hm
      simp only [decide_true, cond_true, Option.some.injEq] at h
      subst h
      obtain ⟨r, o, e', hn, rfl⟩ := ha
      rw [Addr.add']
      have hd : (mkO2 .add ix e).den env = ix.den env + e.den env := by rw [mkO2_ok]; rfl
      refine ⟨r, o, e', by rw [hd]; omega, ?_⟩
      rw [hd, Int.toNat_add hn h0, Nat.mul_add, Nat.mul_comm m (e.den env).toNat]
      simp [Nat.add_assoc]
    · simp only [hm, decide_false, cond_false] at h
      cases h
  · cases h

theorem run_sliceAt' {P : Program} {t e : TypeId} {m : Nat} (hu : P.underlying t = some (.slice e)) (hm : szOf P e = some m) (A : Option Addr) (len c : Nat) (lo hi : Option Value) (l h : Nat)
    (hl : (lo = none ∧ l = 0) ∨ ∃ k, lo = some (.int k l)) (hh : (hi = none ∧ h = len) ∨ ∃ k, hi = some (.int k h)) (h1 : l ≤ h) (h2 : h ≤ c) (w : World) :
    (Instr.sliceAt t (.slice A len c) lo hi none).run P w = .ok (sliced A l h c m) w := by
  have i1 : ((l : Nat) : Int) ≤ (h : Nat) := by omega
  have i2 : ((h : Nat) : Int) ≤ (c : Nat) := by omega
  rcases hl with ⟨rfl, rfl⟩ | ⟨kl, rfl⟩ <;> rcases hh with ⟨rfl, rfl⟩ | ⟨kh, rfl⟩ <;>
    simp [Instr.sliceAt, Instr.slice, run_underlying hu, Instr.sliceBounds, run_sliceBound, sliced, run_sizeOf' hm, i1, i2, h1, h2, Instr.sliceBound, asIntOf]

theorem run_sliceArr {P : Program} {t e : TypeId} {n m : Nat} (hu : P.underlying t = some (.array n e)) (hm : szOf P e = some m) (A : Addr) (lo hi : Option Value) (l h : Nat) (w : World)
    (hl : (lo = none ∧ l = 0) ∨ ∃ k, lo = some (.int k l)) (hh : (hi = none ∧ h = n) ∨ ∃ k, hi = some (.int k h)) (h1 : l ≤ h) (h2 : h ≤ n) :
    (Instr.sliceAt t (.pointer (some A)) lo hi none).run P w = .ok (.slice (some (if n = l then A else A.add (l * m))) (h - l) (n - l)) w := by
  have i1 : ((l : Nat) : Int) ≤ (h : Nat) := by omega
  have i2 : ((h : Nat) : Int) ≤ (n : Nat) := by omega
  rcases hl with ⟨rfl, rfl⟩ | ⟨kl, rfl⟩ <;> rcases hh with ⟨rfl, rfl⟩ | ⟨kh, rfl⟩ <;>
    simp [Instr.sliceAt, run_underlying hu, Instr.sliceBounds, run_sliceBound, run_sizeOf' hm, i1, i2, h1, h2, Instr.sliceBound, asIntOf, Instr.sureAddr]

/-! ### least and greatest -/

def mm2 : O2 → Value → Value → Sem Value
  | .mx => Builtin.max2
  | _ => Builtin.min2

theorem mmS_none (cx : Ctx) (o : O2) : ∀ (l : List SV), l.foldl (fun acc y => match acc, y with
    | some (.int k a), .int _ b => some (.int k (mkMM cx o a b))
    | _, _ => none) (none : Option SV) = none
  | [] => rfl
  | x :: l => mmS_none cx o l

theorem mmS_ok {P : Program} {env : Env} {ρ : Pl} {cx : Ctx} (hc : cx.ok env) {o : O2} (ho : o = .mx ∨ o = .mn) (w : World) : ∀ (l : List SV) (vs : List Value) (x : SV) (X : Value) (y : SV), RepL env ρ l vs → Rep env ρ x X →
    l.foldl (fun acc y => match acc, y with
      | some (.int k a), .int _ b => some (.int k (mkMM cx o a b))
      | _, _ => none) (some x) = some y → (∃ k e, y = .int k e) → ∃ Y, Rep env ρ y Y ∧ (vs.foldlM (mm2 o) X).run P w = .ok Y w
  | [], vs, x, X, y, hl, hx, h, hy => by
      rw [show vs = [] from hl]
      cases h
      exact ⟨X, hx, rfl⟩
  | z :: l, vs, x, X, y, hl, hx, h, hy => by
      obtain ⟨v, vs', hv, hvs, rfl⟩ := hl
      simp only [List.foldl_cons] at h
      split at h
      · rename_i k a k' b hx' 
        cases hx'
        rw [show X = _ from hx, show v = _ from hv]
        have hstep : (mm2 o (.int k (a.den env)) (.int k' (b.den env))).run P w = .ok (.int k ((mkMM cx o a b).den env)) w := by
          rw [mkMM_ok hc]
          rcases ho with rfl | rfl <;> rfl
        obtain ⟨Y, hY, hrun⟩ := mmS_ok hc ho w l vs' _ _ y hvs (show Rep env ρ (.int k (mkMM cx o a b)) _ from rfl) h hy
        exact ⟨Y, hY, by simp only [List.foldlM_cons, Sem.run_bind, hstep, Result.andThen_ok]; exact hrun⟩
      · rw [mmS_none] at h
        cases h

/-! ### the operation -/

/-- from the operation on, the continuation has a value that stands for what the model's operation gives -/
def Goes (P : Program) (env : Env) (B : Nat) (r : Out × St) (k : SV → Ctx → Tree) (ρ : Pl) (w : World) (sem : Sem Next) : Prop :=
  ∃ v cx' s' ρ' V w', runE env (k v cx') s' = some r ∧ cx'.ok env ∧ ρ.le ρ' ∧ Rep env ρ' v V ∧ HS env ρ' B s'.h w' ∧ Below B w w' ∧
    (sem.run P w = .ok (.value V) w' ∨ (sem.run P w = .ok .skip w' ∧ V = undef))

theorem Goes.val {P : Program} {env : Env} {B : Nat} {r : Out × St} {k : SV → Ctx → Tree} {ρ : Pl} {w : World} {sem : Sem Next} {s' : St} {v : SV} {V : Value} {cx' : Ctx}
    (h : runE env (k v cx') s' = some r) (hc : cx'.ok env) (hv : Rep env ρ v V) (hs : HS env ρ B s'.h w) (hrun : sem.run P w = .ok (.value V) w) : Goes P env B r k ρ w sem :=
  ⟨v, cx', s', ρ, V, w, h, hc, ρ.le_refl, hv, hs, Below.refl _ _, .inl hrun⟩

/-- a new block -/
theorem Goes.new {P : Program} {env : Env} {B : Nat} {r : Out × St} {k : SV → Ctx → Tree} {f : Nat → SV} {ρ : Pl} {w : World} {sem : Sem Next} {s : St} {v : Blk} {F : Addr → Value} {cx : Ctx} {ob : Obj}
    (h : runE env (.new v fun n => k (f n) cx) s = some r) (hc : cx.ok env) (hs : HS env ρ B s.h w) (hv : v.own = true) (hb : ∀ ρ', ρ.le ρ' → BS env ρ' (some ob) 0 v)
    (hf : ∀ ρ' n, ρ' n = some (w.heap.size, 0) → Rep env ρ' (f n) (F ⟨w.heap.size, 0, none⟩))
    (hrun : sem.run P w = .ok (.value (F ⟨w.heap.size, 0, none⟩)) (w.alloc ob)) (hw : v.wf env := by exact trivial) : Goes P env B r k ρ w sem := by
  obtain ⟨hn, h2⟩ := runE_new h
  obtain ⟨hle, hρ, hs'⟩ := hs.alloc hn hv hb hw
  refine ⟨_, cx, _, _, _, _, h2, hc, hle, hf _ _ hρ, hs', ?_, .inl hrun⟩
  exact (Below.refl _ _).alloc hs.size _

/-- the operand is there -/
theorem ev_ok {env : Env} {tm : T SV} {x : Operand} {f : SV → Tree} {s : St} {r : Out × St} (h : runE env (match evalO tm x with | some v => f v | none => .fail "operand") s = some r) :
    ∃ v, evalO tm x = some v ∧ runE env (f v) s = some r := by
  split at h
  · exact ⟨_, by assumption, h⟩
  · exact (runE_fail h).elim

theorem run_v {P : Program} {sem : Sem Value} {V : Value} {w w' : World} (h : sem.run P w = .ok V w') : (do pure (Next.value (← sem)) : Sem Next).run P w = .ok (.value V) w' := by
  simp [h]

section
variable {P : Program} {env : Env} {ρ : Pl} {B : Nat} {cx : Ctx} {tm : T SV} {k : SV → Ctx → Tree} {s : St} {r : Out × St} {w : World} {ev : Operand → Value}
  {dst : Option Tmp} {type : TypeId} {pos : String} {after : Array Edge} {guard : Option (Nat × Bool)}

theorem aop_build (hc : cx.ok env) (hs : HS env ρ B s.h w) {t : TypeId} {parts : Array (Nat × Operand)}
    (hev : EvOK env ρ tm ev (Op.build t parts).operands.toList)
    (h : runE env (aop P tm cx ⟨dst, .build t parts, type, pos, after, guard⟩ k) s = some r) : Goes P env B r k ρ w (execOp ev ⟨dst, .build t parts, type, pos, after, guard⟩) := by
  simp only [aop, evT, aPick, aAlloc, aBox, aBuild, aBuildSlice, aLoad, aStore, aNilCheck, aBinOp, aUnOp, aConvert, aMakeInterface, aMakeFunc, aMakeSlice, aFieldAddr, aField, aIndexAddr, aIndex, aSlice, aSlice2, aSliceToArrayPointer, aExtract, aCall] at h
  split at h
  · rename_i z ps hz hps
    obtain ⟨it, v, hit, hiz, hzl⟩ := zeroL_ok hz
    have hP : RepP env ρ ps (parts.map fun p => (p.1, ev p.2)).toList := by
      have := evalP_ok (env := env) (ρ := ρ) (ev := ev) (l := parts.toList) (by simpa [Op.operands] using hev) hps
      simpa using this
    have hZ : RepL env ρ z v.cells.toList := ofL_ok hzl
    split at h
    · rename_i fs hu
      split at h
      · rename_i pl hpl
        split at h
        · rename_i l hl
          obtain ⟨cs', hf, hr⟩ := fillS_ok hl hZ hP
          refine Goes.val h hc (V := .agg cs') ⟨cs'.toList, hr, by simp⟩ hs ?_
          refine run_v (run_build w t _ cs' ?_)
          simp only [Program.built, hit, hu, hiz, placesOf_ok hpl]
          rw [← hf]
          congr 1
          funext i
          simp
        · exact (runE_fail h).elim
      · exact (runE_fail h).elim
    · rename_i n e hu
      split at h
      · rename_i m hm
        split at h
        · rename_i l hl
          obtain ⟨cs', hf, hr⟩ := fillS_ok hl hZ hP
          refine Goes.val h hc (V := .agg cs') ⟨cs'.toList, hr, by simp⟩ hs ?_
          refine run_v (run_build w t _ cs' ?_)
          obtain ⟨ie, hie, rfl⟩ := szOf_ok hm
          simp only [Program.built, hit, hu, hiz, hie]
          exact hf
        · exact (runE_fail h).elim
      · exact (runE_fail h).elim
    · exact (runE_fail h).elim
  · exact (runE_fail h).elim

theorem aop_buildSlice (hc : cx.ok env) (hs : HS env ρ B s.h w) {t : TypeId} {len : Nat} {parts : Array (Nat × Operand)}
    (hev : EvOK env ρ tm ev (Op.buildSlice t len parts).operands.toList)
    (h : runE env (aop P tm cx ⟨dst, .buildSlice t len parts, type, pos, after, guard⟩ k) s = some r) : Goes P env B r k ρ w (execOp ev ⟨dst, .buildSlice t len parts, type, pos, after, guard⟩) := by
  simp only [aop, evT, aPick, aAlloc, aBox, aBuild, aBuildSlice, aLoad, aStore, aNilCheck, aBinOp, aUnOp, aConvert, aMakeInterface, aMakeFunc, aMakeSlice, aFieldAddr, aField, aIndexAddr, aIndex, aSlice, aSlice2, aSliceToArrayPointer, aExtract, aCall] at h
  split at h
  · rename_i e ps hu hps
    have hP : RepP env ρ ps (parts.map fun p => (p.1, ev p.2)).toList := by
      have := evalP_ok (env := env) (ρ := ρ) (ev := ev) (l := parts.toList) (by simpa [Op.operands] using hev) hps
      simpa using this
    split at h
    · rename_i m z hm hz
      obtain ⟨it, v, hit, hiz, hzl⟩ := zeroL_ok hz
      obtain ⟨ie, hie, hsz⟩ := szOf_ok hm
      rw [hit] at hie
      cases hie
      have hZ : RepL env ρ z v.cells.toList := ofL_ok hzl
      cases hcond : (Nat.ble (len * m) 16777216 && !Nat.beq z.length 0) with
      | false => rw [hcond] at h; exact (runE_fail h).elim
      | true =>
        rw [hcond, cond_true] at h
        simp only [Bool.and_eq_true, Bool.not_eq_true', beq_dec, decide_eq_false_iff_not] at hcond
        obtain ⟨h1, h2⟩ := hcond
        split at h
        · rename_i l hl
          obtain ⟨cs', hf, hr⟩ := fillS_ok hl (repeatL_ok hZ h2 (len * m)) hP
          refine Goes.new (f := fun n => .slice (some (.c n 0)) (.lit len) (some (.lit len))) (F := fun a => .slice (some a) len len) (ob := .cells cs' e) h hc hs rfl ?_ ?_ ?_
          · exact fun ρ' hle => ⟨rfl, cs'.toList, hr.mono hle, by simp⟩
          · intro ρ' n hn
            exact ⟨some ⟨w.heap.size, 0, none⟩, len, ⟨_, ⟨_, _, hn, rfl⟩, rfl⟩, by simp [RepC, E.den], by simp [E.den], by simp [E.den]⟩
          · exact run_v (run_buildSlice' w t e len m _ cs' it v hu hit hsz hiz (Nat.le_of_ble_eq_true h1) hf)
        · exact (runE_fail h).elim
    · exact (runE_fail h).elim
  · exact (runE_fail h).elim

theorem lo_ok {lo : Option Operand} {l : E} (hl : (match lo with | none => some (E.lit 0) | some o => match evalO tm o with | some (.int _ e) => some e | _ => none) = some l) (h2 : 0 ≤ l.den env)
    (hev : ∀ o, lo = some o → ∀ s, evalO tm o = some s → Rep env ρ s (ev o)) :
    (lo.map ev = none ∧ (l.den env).toNat = 0) ∨ ∃ kd, lo.map ev = some (.int kd ((l.den env).toNat : Nat)) := by
  cases lo with
  | none => simp at hl; subst hl; exact .inl ⟨rfl, rfl⟩
  | some o =>
    simp only at hl
    split at hl
    · rename_i kd e' he'
      cases hl
      have := hev o rfl _ he'
      refine .inr ⟨kd, ?_⟩
      rw [show (((l.den env).toNat : Nat) : Int) = l.den env by omega]
      exact congrArg some this
    · cases hl

theorem hi_ok {hi : Option Operand} {len hh : E} (hhi : (match hi with | none => some len | some o => match evalO tm o with | some (.int _ e) => some e | _ => none) = some hh) (h2 : 0 ≤ hh.den env)
    (hev : ∀ o, hi = some o → ∀ s, evalO tm o = some s → Rep env ρ s (ev o)) :
    (hi.map ev = none ∧ (hh.den env).toNat = (len.den env).toNat) ∨ ∃ kd, hi.map ev = some (.int kd ((hh.den env).toNat : Nat)) := by
  cases hi with
  | none => simp at hhi; subst hhi; exact .inl ⟨rfl, rfl⟩
  | some o =>
    simp only at hhi
    split at hhi
    · rename_i kd e' he'
      cases hhi
      have := hev o rfl _ he'
      refine .inr ⟨kd, ?_⟩
      rw [show (((hh.den env).toNat : Nat) : Int) = hh.den env by omega]
      exact congrArg some this
    · cases hhi

theorem litLo_ok {lo : Option Operand} {d l : Nat} (hl : litLo tm lo d = some l) (hev : ∀ o, lo = some o → ∀ s, evalO tm o = some s → Rep env ρ s (ev o)) :
    (lo.map ev = none ∧ l = d) ∨ ∃ kd, lo.map ev = some (.int kd ((l : Nat) : Int)) := by
  unfold litLo at hl
  cases lo with
  | none => simp at hl; exact .inl ⟨rfl, hl.symm⟩
  | some o =>
    simp only at hl
    split at hl
    · rename_i kd z he'
      split at hl
      · rename_i hz
        cases hl
        have := hev o rfl _ he'
        refine .inr ⟨kd, ?_⟩
        rw [show ((z.toNat : Nat) : Int) = z by omega]
        exact congrArg some this
      · cases hl
    · cases hl

theorem RepA.at {env : Env} {ρ : Pl} {a : SA} {A : Addr} (h : RepA env ρ a A) : ∃ r o, ρ a.name = some (r, o) := by
  cases a with
  | c b off => obtain ⟨r, o, e, _⟩ := h; exact ⟨r, o, e⟩
  | s b ix m off => obtain ⟨r, o, e, _⟩ := h; exact ⟨r, o, e⟩
  | g b off => obtain ⟨r, o, e, _⟩ := h; exact ⟨r, o, e⟩
  | h b ix m off => obtain ⟨r, o, e, _⟩ := h; exact ⟨r, o, e⟩

theorem aop_slice (hc : cx.ok env) (hs : HS env ρ B s.h w) {t : TypeId} {x : Operand} {lo hi : Option Operand}
    (hev : EvOK env ρ tm ev (Op.slice t x lo hi none).operands.toList)
    (h : runE env (aop P tm cx ⟨dst, .slice t x lo hi none, type, pos, after, guard⟩ k) s = some r) : Goes P env B r k ρ w (execOp ev ⟨dst, .slice t x lo hi none, type, pos, after, guard⟩) := by
  simp only [aop, evT, aPick, aAlloc, aBox, aBuild, aBuildSlice, aLoad, aStore, aNilCheck, aBinOp, aUnOp, aConvert, aMakeInterface, aMakeFunc, aMakeSlice, aFieldAddr, aField, aIndexAddr, aIndex, aSlice, aSlice2, aSliceToArrayPointer, aExtract, aCall] at h
  obtain ⟨v, hv, h⟩ := ev_ok h
  have hX := hev x (by simp [Op.operands]) _ hv
  split at h
  · rename_i e a len cap hu
    obtain ⟨A, c, hA, hcap, hlen0, hXe⟩ := hX
    split at h
    · rename_i l hh m c' hl hhi hm
      have hcap' : c = (c'.den env).toNat := hcap
      obtain ⟨h1, cx1, hc1, h⟩ := need_ok h hc
      obtain ⟨h2, cx2, hc2, h⟩ := need_ok h hc1
      obtain ⟨h3, cx3, hc3, h⟩ := need_ok h hc2
      obtain ⟨cx4, hc4, h⟩ := branch_ok h hc3
      rw [mkCmp_ok hc] at h1
      rw [mkCmp_ok hc1] at h2
      rw [mkCmp_ok hc2] at h3
      rw [mkCmp_ok hc3] at h
      simp only [cmpI, decide_eq_true_eq, E.den, ge_iff_le] at h1 h2 h3
      have hlo := lo_ok (env := env) (ρ := ρ) (tm := tm) (ev := ev) (lo := lo) hl h2 (fun o ho s hs' => hev o (by subst ho; simp [Op.operands]) s hs')
      have hhi' := hi_ok (env := env) (ρ := ρ) (tm := tm) (ev := ev) (hi := hi) (len := len) hhi (by omega) (fun o ho s hs' => hev o (by subst ho; simp [Op.operands]) s hs')
      have hrun : (execOp ev ⟨dst, .slice t x lo hi none, type, pos, after, guard⟩).run P w = .ok (.value (sliced A (l.den env).toNat (hh.den env).toNat c m)) w := by
        refine run_v ?_
        rw [hXe]
        exact run_sliceAt' hu hm A _ c _ _ _ _ hlo hhi' (by omega) (by omega) w
      have hsub1 : (mkO2 .sub hh l).den env = hh.den env - l.den env := mkO2_ok env .sub hh l
      have hsub2 : (mkO2 .sub c' l).den env = c'.den env - l.den env := mkO2_ok env .sub c' l
      split at h
      · rename_i hcl
        simp only [cmpI, beq_iff_eq] at hcl
        refine Goes.val h hc4 ?_ hs hrun
        refine ⟨A, c - (l.den env).toNat, hA, ?_, ?_, ?_⟩
        · show _ = _
          rw [hsub2]; omega
        · rw [hsub1]; omega
        · rw [hsub1]
          simp only [sliced]
          rw [if_pos (by omega), show (hh.den env - l.den env).toNat = (hh.den env).toNat - (l.den env).toNat by omega]
      · rename_i hcl
        have hcl' : ¬ c'.den env = l.den env := by
          intro e
          exact hcl (by simp [cmpI, e])
        split at h
        · exact (runE_fail h).elim
        · rename_i a1
          obtain ⟨A1, hA1, rfl⟩ := hA
          split at h
          · rename_i b hb
            refine Goes.val h hc4 ?_ hs hrun
            refine ⟨some (A1.add ((l.den env).toNat * m)), c - (l.den env).toNat, ⟨_, SA.elem_ok hb hA1 (by omega), rfl⟩, ?_, ?_, ?_⟩
            · show _ = _
              rw [hsub2]; omega
            · rw [hsub1]; omega
            · rw [hsub1]
              simp only [sliced]
              rw [if_neg (by omega), show (hh.den env - l.den env).toNat = (hh.den env).toNat - (l.den env).toNat by omega]
              rfl
          · exact (runE_fail h).elim
    · -- a row whose capacity is not known
      rename_i l hh m hl hhi hm
      obtain ⟨hcap1, hcap2⟩ : RepC env ρ a (len.den env).toNat c none := hcap
      obtain ⟨h1, cx1, hc1, h⟩ := need_ok h hc
      obtain ⟨h2, cx2, hc2, h⟩ := need_ok h hc1
      obtain ⟨h3, cx3, hc3, h⟩ := need_ok h hc2
      rw [mkCmp_ok hc] at h1
      rw [mkCmp_ok hc1] at h2
      rw [mkCmp_ok hc2] at h3
      simp only [cmpI, decide_eq_true_eq, E.den, ge_iff_le] at h1 h2 h3
      have hlo := lo_ok (env := env) (ρ := ρ) (tm := tm) (ev := ev) (lo := lo) hl h2 (fun o ho s hs' => hev o (by subst ho; simp [Op.operands]) s hs')
      have hhi' := hi_ok (env := env) (ρ := ρ) (tm := tm) (ev := ev) (hi := hi) (len := len) hhi (by omega) (fun o ho s hs' => hev o (by subst ho; simp [Op.operands]) s hs')
      have hrun : (execOp ev ⟨dst, .slice t x lo hi none, type, pos, after, guard⟩).run P w = .ok (.value (sliced A (l.den env).toNat (hh.den env).toNat c m)) w := by
        refine run_v ?_
        rw [hXe]
        exact run_sliceAt' hu hm A _ c _ _ _ _ hlo hhi' (by omega) (by omega) w
      split at h
      · rename_i l1 a1 a2
        have hsub1 : (mkO2 .sub hh (.lit 0)).den env = hh.den env - 0 := mkO2_ok env .sub hh (.lit 0)
        refine Goes.val h hc3 ?_ hs hrun
        have e0 : sliced A 0 (hh.den env).toNat c m = .slice A (hh.den env).toNat c := by
          obtain ⟨A1, hA1, rfl⟩ := hA
          simp only [sliced]
          by_cases hc0 : c = 0
          · simp [hc0]
          · rw [if_neg hc0]; simp [Addr.add]
        simp only [E.den, Int.toNat_zero]
        rw [e0]
        refine ⟨A, c, hA, ⟨?_, hcap2⟩, ?_, ?_⟩
        · rw [hsub1]; omega
        · rw [hsub1]; simp only [E.den] at h3; omega
        · rw [hsub1]; simp
      · rename_i a1 hno
        obtain ⟨A1, hA1, rfl⟩ := hA
        cases hlh : l.same hh with
        | true =>
          rw [hlh, cond_true] at h
          have hle := E.same_eq hlh
          rw [← hle] at hrun
          refine Goes.val h hc3 ?_ hs hrun
          obtain ⟨r0, o0, e0⟩ := RepA.at hA1
          refine ⟨r0, o0, e0, by simp [E.den], .inl ⟨rfl, ?_⟩⟩
          simp only [sliced, Nat.sub_self]
          split <;> exact ⟨_, _, rfl⟩
        | false =>
        rw [hlh, cond_false] at h
        obtain ⟨h4, cx4, hc4, h⟩ := need_ok h hc3
        rw [mkCmp_ok hc3] at h4
        simp only [cmpI, decide_eq_true_eq, E.den] at h4
        have hsub1 : (mkO2 .sub hh l).den env = hh.den env - l.den env := mkO2_ok env .sub hh l
        split at h
        · rename_i b hb
          split at h
          · rename_i hcb
            refine Goes.val h hc4 ?_ hs hrun
            refine ⟨some (A1.add ((l.den env).toNat * m)), c - (l.den env).toNat, ⟨_, SA.elem_ok hb hA1 (by omega), rfl⟩, ⟨?_, ?_⟩, ?_, ?_⟩
            · rw [hsub1]; omega
            · intro b' hb'; rw [hcb] at hb'; cases hb'
            · rw [hsub1]; omega
            · rw [hsub1]
              simp only [sliced]
              rw [if_neg (by omega), show (hh.den env - l.den env).toNat = (hh.den env).toNat - (l.den env).toNat by omega]
              rfl
          · exact (runE_fail h).elim
        · exact (runE_fail h).elim
      · exact (runE_fail h).elim
    · exact (runE_fail h).elim
  · -- a row that came in
    rename_i e b len hu
    obtain ⟨r0, o0, hρ, hlen0, hX'⟩ := hX
    split at h
    · rename_i l hh m hl hhi hm
      obtain ⟨h1, cx1, hc1, h⟩ := need_ok h hc
      obtain ⟨h2, cx2, hc2, h⟩ := need_ok h hc1
      obtain ⟨h3, cx3, hc3, h⟩ := need_ok h hc2
      obtain ⟨cx4, hc4, h⟩ := branch_ok h hc3
      rw [mkCmp_ok hc] at h1
      rw [mkCmp_ok hc1] at h2
      rw [mkCmp_ok hc2] at h3
      rw [mkCmp_ok hc3] at h
      simp only [cmpI, decide_eq_true_eq, E.den, ge_iff_le] at h1 h2 h3
      have hlo := lo_ok (env := env) (ρ := ρ) (tm := tm) (ev := ev) (lo := lo) hl h2 (fun o ho s hs' => hev o (by subst ho; simp [Op.operands]) s hs')
      have hhi' := hi_ok (env := env) (ρ := ρ) (tm := tm) (ev := ev) (hi := hi) (len := len) hhi (by omega) (fun o ho s hs' => hev o (by subst ho; simp [Op.operands]) s hs')
      have hsub1 : (mkO2 .sub hh l).den env = hh.den env - l.den env := mkO2_ok env .sub hh l
      have all : ∃ A c, ev x = .slice A (len.den env).toNat c ∧ (len.den env).toNat ≤ c ∧ (¬ len.den env = 0 → A = some ⟨r0, o0, none⟩) := by
        rcases hX' with ⟨hz, A, c, e1⟩ | ⟨c, hcl, e1⟩
        · exact ⟨A, c, by rw [e1, hz]; rfl, by rw [hz]; exact Nat.zero_le _, fun hn => absurd hz hn⟩
        · exact ⟨_, c, e1, hcl, fun _ => rfl⟩
      obtain ⟨A, c, hXe, hcl, hA⟩ := all
      have hrun : (execOp ev ⟨dst, .slice t x lo hi none, type, pos, after, guard⟩).run P w = .ok (.value (sliced A (l.den env).toNat (hh.den env).toNat c m)) w := by
        refine run_v ?_
        rw [hXe]
        exact run_sliceAt' hu hm A _ c _ _ _ _ hlo hhi' (by omega) (by omega) w
      split at h
      · rename_i hlt
        simp only [cmpI, decide_eq_true_eq] at hlt
        obtain rfl := hA (by omega)
        refine Goes.val h hc4 ?_ hs hrun
        refine ⟨some ⟨r0, o0 + (m * (l.den env).toNat + 0), none⟩, c - (l.den env).toNat, ⟨_, ⟨r0, o0, hρ, h2, rfl⟩, rfl⟩, ⟨?_, ?_⟩, ?_, ?_⟩
        · rw [hsub1]; omega
        · intro b' hb'; cases hb'
        · rw [hsub1]; omega
        · rw [hsub1]
          simp only [sliced]
          rw [if_neg (by omega), show (hh.den env - l.den env).toNat = (hh.den env).toNat - (l.den env).toNat by omega]
          simp [Addr.add', Nat.mul_comm]
      · rename_i hlt
        have hlt' : ¬ l.den env < hh.den env := fun e => hlt (by simp [cmpI, e])
        refine Goes.val h hc4 ?_ hs hrun
        refine ⟨r0, o0, hρ, by simp [E.den], .inl ⟨rfl, ?_⟩⟩
        rw [show (l.den env).toNat = (hh.den env).toNat by omega]
        simp only [sliced, Nat.sub_self]
        split <;> exact ⟨_, _, rfl⟩
    · exact (runE_fail h).elim
  · -- an array
    rename_i n e b off hu
    obtain ⟨A, hA, hXe⟩ := hX
    obtain ⟨A0, ⟨r0, o0, hρ, rfl⟩, rfl⟩ := hA
    split at h
    · rename_i l hh m hl hhi hm
      split at h
      · rename_i hlh
        have hlo := litLo_ok (env := env) (ρ := ρ) (ev := ev) hl (fun o ho s hs' => hev o (by subst ho; simp [Op.operands]) s hs')
        have hhi' := litLo_ok (env := env) (ρ := ρ) (ev := ev) hhi (fun o ho s hs' => hev o (by subst ho; simp [Op.operands]) s hs')
        refine Goes.val h hc (V := .slice (some ⟨r0, o0 + (if n = l then off else off + l * m), none⟩) (hh - l) (n - l)) ⟨_, n - l, ⟨_, ⟨r0, o0, hρ, rfl⟩, rfl⟩, ?_, ?_, ?_⟩ hs (run_v ?_)
        · simp [RepC, E.den]
        · simp [E.den]
        · simp [E.den]
        · rw [hXe, Option.map_none, run_sliceArr hu hm _ _ _ _ _ _ hlo hhi' hlh.1 hlh.2]
          by_cases hnl : n = l
          · simp [hnl]
          · simp [hnl, Addr.add', Nat.add_assoc]
      · exact (runE_fail h).elim
    · exact (runE_fail h).elim
  · exact (runE_fail h).elim

theorem run_slice000 {t e : TypeId} {m : Nat} (hu : P.underlying t = some (.slice e)) (hm : szOf P e = some m) (A : Option Addr) (len c : Nat) (kd kd' : IntKind) (w : World) :
    (Instr.sliceAt t (.slice A len c) none (some (.int kd 0)) (some (.int kd' 0))).run P w = .ok (.slice A 0 0) w := by
  simp [Instr.sliceAt, Instr.slice, run_underlying hu, Instr.sliceBounds, run_sliceBound, sliced, run_sizeOf' hm, Instr.sliceBound, asIntOf]

theorem aop_slice000 (hc : cx.ok env) (hs : HS env ρ B s.h w) {t : TypeId} {x : Operand} {kd kd' : IntKind}
    (hev : EvOK env ρ tm ev (Op.slice t x none (some (.const (.int kd 0))) (some (.const (.int kd' 0)))).operands.toList)
    (h : runE env (aop P tm cx ⟨dst, .slice t x none (some (.const (.int kd 0))) (some (.const (.int kd' 0))), type, pos, after, guard⟩ k) s = some r) :
    Goes P env B r k ρ w (execOp ev ⟨dst, .slice t x none (some (.const (.int kd 0))) (some (.const (.int kd' 0))), type, pos, after, guard⟩) := by
  simp only [aop, evT, aPick, aAlloc, aBox, aBuild, aBuildSlice, aLoad, aStore, aNilCheck, aBinOp, aUnOp, aConvert, aMakeInterface, aMakeFunc, aMakeSlice, aFieldAddr, aField, aIndexAddr, aIndex, aSlice, aSlice2, aSliceToArrayPointer, aExtract, aCall] at h
  obtain ⟨v, hv, h⟩ := ev_ok h
  have hX := hev x (by simp [Op.operands]) _ hv
  split at h
  · rename_i e a len cap hu
    obtain ⟨A, c, hA, hcap, hlen0, hXe⟩ := hX
    split at h
    · rename_i m hm
      refine Goes.val h hc (V := .slice A 0 0) ⟨A, 0, hA, rfl, by simp [E.den], by simp [E.den]⟩ hs (run_v ?_)
      have e1 : ev (.const (.int kd 0)) = .int kd 0 := hev (.const (.int kd 0)) (by simp [Op.operands]) (.int kd (.lit 0)) rfl
      have e2 : ev (.const (.int kd' 0)) = .int kd' 0 := hev (.const (.int kd' 0)) (by simp [Op.operands]) (.int kd' (.lit 0)) rfl
      simp only [Option.map_some, Option.map_none, hXe, e1, e2]
      exact run_slice000 hu hm A _ c kd kd' w
    · exact (runE_fail h).elim
  · exact (runE_fail h).elim
end

end Go.SX

namespace Go.SX
open Go Go.RowKit
set_option linter.unusedVariables false
set_option linter.unusedSimpArgs false
set_option linter.unusedSectionVars false

section
variable {P : Program} {env : Env} {ρ : Pl} {B : Nat} {cx : Ctx} {tm : T SV} {k : SV → Ctx → Tree} {s : St} {r : Out × St} {w : World} {ev : Operand → Value}
  {dst : Option Tmp} {type : TypeId} {pos : String} {after : Array Edge} {guard : Option (Nat × Bool)}

theorem aop_mem (hc : cx.ok env) (hs : HS env ρ B s.h w) {op : Op} (hop : (∃ t a, op = .load t a) ∨ (∃ t a x, op = .store t a x) ∨ (∃ t, op = .alloc t) ∨ (∃ t x, op = .box t x))
    (hev : EvOK env ρ tm ev op.operands.toList)
    (h : runE env (aop P tm cx ⟨dst, op, type, pos, after, guard⟩ k) s = some r) : Goes P env B r k ρ w (execOp ev ⟨dst, op, type, pos, after, guard⟩) := by
  rcases hop with ⟨t, a, rfl⟩ | ⟨t, a, x, rfl⟩ | ⟨t, rfl⟩ | ⟨t, x, rfl⟩
  · -- load
    simp only [aop, evT, aPick, aAlloc, aBox, aBuild, aBuildSlice, aLoad, aStore, aNilCheck, aBinOp, aUnOp, aConvert, aMakeInterface, aMakeFunc, aMakeSlice, aFieldAddr, aField, aIndexAddr, aIndex, aSlice, aSlice2, aSliceToArrayPointer, aExtract, aCall] at h
    obtain ⟨v, hv, h⟩ := ev_ok h
    have hX := hev a (by simp [Op.operands]) _ hv
    split at h
    · rename_i a0
      obtain ⟨A, hA, hXe⟩ := hX
      obtain ⟨A0, hA0, rfl⟩ := hA
      obtain ⟨v, V, cx', s', h, hc', hh, hr, hrun⟩ := loadT_ok (P := P) h hc hs hA0
      refine Goes.val h hc' hr (by rw [hh]; exact hs) (run_v ?_)
      rw [hXe]
      simp only [Instr.loadAt, Instr.sureAddr, Sem.run_bind, Sem.run_pure, Result.andThen_ok, hrun]
    · exact (runE_fail h).elim
  · -- store
    simp only [aop, evT, aPick, aAlloc, aBox, aBuild, aBuildSlice, aLoad, aStore, aNilCheck, aBinOp, aUnOp, aConvert, aMakeInterface, aMakeFunc, aMakeSlice, aFieldAddr, aField, aIndexAddr, aIndex, aSlice, aSlice2, aSliceToArrayPointer, aExtract, aCall] at h
    obtain ⟨v, hv, h⟩ := ev_ok h
    have hX := hev a (by simp [Op.operands]) _ hv
    split at h
    · rename_i a0
      obtain ⟨A, hA, hXe⟩ := hX
      obtain ⟨A0, hA0, rfl⟩ := hA
      obtain ⟨v, hv2, h⟩ := ev_ok h
      have hY := hev x (by simp [Op.operands]) _ hv2
      obtain ⟨cx', s', w', h, hc', hs', hb, hrun⟩ := storeT_ok (P := P) h hc hs hA0 hY
      refine ⟨_, cx', s', ρ, undef, w', h, hc', ρ.le_refl, ⟨[], rfl, rfl⟩, hs', hb, .inr ⟨?_, rfl⟩⟩
      simp only [execOp, Instr.storeAt, hXe, Instr.sureAddr, Sem.run_bind, Sem.run_pure, Result.andThen_ok, hrun]
    · exact (runE_fail h).elim
  · -- alloc
    simp only [aop, evT, aPick, aAlloc, aBox, aBuild, aBuildSlice, aLoad, aStore, aNilCheck, aBinOp, aUnOp, aConvert, aMakeInterface, aMakeFunc, aMakeSlice, aFieldAddr, aField, aIndexAddr, aIndex, aSlice, aSlice2, aSliceToArrayPointer, aExtract, aCall] at h
    split at h
    · rename_i l hl
      obtain ⟨i, v, hi, hz, hzl⟩ := zeroL_ok hl
      refine Goes.new (f := fun n => .ptr (some (.c n 0))) (F := fun a => .pointer (some a)) (ob := .cells v.cells t) h hc hs rfl ?_ ?_ ?_
      · exact fun ρ' _ => ⟨rfl, v.cells.toList, ofL_ok hzl, by simp⟩
      · exact fun ρ' n hn => ⟨_, ⟨_, ⟨_, _, hn, rfl⟩, rfl⟩, rfl⟩
      · refine run_v ?_
        simp [Instr.alloc, zeroValue, typeInfo, hi, hz, newVar, newRow]
    · exact (runE_fail h).elim
  · -- box
    simp only [aop, evT, aPick, aAlloc, aBox, aBuild, aBuildSlice, aLoad, aStore, aNilCheck, aBinOp, aUnOp, aConvert, aMakeInterface, aMakeFunc, aMakeSlice, aFieldAddr, aField, aIndexAddr, aIndex, aSlice, aSlice2, aSliceToArrayPointer, aExtract, aCall] at h
    obtain ⟨v, hv, h⟩ := ev_ok h
    have hX := hev x (by simp [Op.operands]) _ hv
    split at h
    · rename_i hfl
      refine Goes.new (f := fun n => .ptr (some (.c n 0))) (F := fun a => .pointer (some a)) (ob := .cells (ev x).cells t) h hc hs rfl ?_ ?_ ?_
      · exact fun ρ' hle => ⟨rfl, (ev x).cells.toList, (hX.mono hle).cellsL (SV.isAny_of hfl), by simp⟩
      · exact fun ρ' n hn => ⟨_, ⟨_, ⟨_, _, hn, rfl⟩, rfl⟩, rfl⟩
      · refine run_v ?_
        simp [Instr.box, newVar, newRow]
    · exact (runE_fail h).elim

theorem nameK_ok {e : E} : ∀ {l : List (BE × Bool)}, (∀ be v, (be, v) ∈ l → be.den env = v) → (nameK e l).den env = e.den env
  | [], _ => rfl
  | (be, v) :: r, hl => by
      have ih := nameK_ok (e := e) (l := r) fun b v hm => hl b v (by simp [hm])
      unfold nameK
      split
      · rename_i h; cases h
      · rename_i f a x r' h
        cases h
        split
        · rename_i hs
          have h1 := hl _ _ (List.mem_cons_self ..)
          rw [← E.same_eq hs]
          simpa [BE.den, cmpI] using h1
        · exact ih
      · rename_i k f a x r' h
        cases h
        split
        · rename_i hs
          have h1 := hl _ _ (List.mem_cons_self ..)
          rw [← E.same_eq hs]
          simpa [BE.den, cmpI] using h1
        · exact ih
      · rename_i h
        cases h
        exact ih
theorem rwE_ok (hc : cx.ok env) (e : E) : (rwE cx e).den env = e.den env := by
  unfold rwE
  split
  · exact nameK_ok hc.k
  · rfl
theorem rwK_ok {z : SV} {Z : Value} (h : runE env (rwK k z cx) s = some r) (hc : cx.ok env) (hr : Rep env ρ z Z) : ∃ z', runE env (k z' cx) s = some r ∧ Rep env ρ z' Z := by
  unfold rwK at h
  split at h
  · refine ⟨_, h, ?_⟩
    rw [show Z = _ from hr]
    simp only [Rep, rwE_ok hc]
  · exact ⟨_, h, hr⟩
theorem aop_plain (hc : cx.ok env) (hs : HS env ρ B s.h w) {op : Op}
    (hop : (∃ x, op = .move x) ∨ (∃ x, op = .assign x) ∨ (∃ c a b, op = .pick c a b) ∨ (∃ x, op = .nilCheck x) ∨ (∃ o t x y u, op = .binOp o t x y u) ∨ (∃ o t x, op = .unOp o t x) ∨
      (∃ a b x, op = .convert a b x) ∨ (∃ t x, op = .makeInterface t x) ∨ (∃ f a b, op = .makeFunc (.func f) a b) ∨ (∃ t i, op = .extract t i))
    (hev : EvOK env ρ tm ev op.operands.toList)
    (h : runE env (aop P tm cx ⟨dst, op, type, pos, after, guard⟩ k) s = some r) : Goes P env B r k ρ w (execOp ev ⟨dst, op, type, pos, after, guard⟩) := by
  rcases hop with ⟨x, rfl⟩ | ⟨x, rfl⟩ | ⟨c, a, b, rfl⟩ | ⟨x, rfl⟩ | ⟨o, t, x, y, u, rfl⟩ | ⟨o, t, x, rfl⟩ | ⟨a, b, x, rfl⟩ | ⟨t, x, rfl⟩ | ⟨f, a, b, rfl⟩ | ⟨t, i, rfl⟩ <;> simp only [aop, evT, aPick, aAlloc, aBox, aBuild, aBuildSlice, aLoad, aStore, aNilCheck, aBinOp, aUnOp, aConvert, aMakeInterface, aMakeFunc, aMakeSlice, aFieldAddr, aField, aIndexAddr, aIndex, aSlice, aSlice2, aSliceToArrayPointer, aExtract, aCall] at h
  · obtain ⟨v, hv, h⟩ := ev_ok h
    exact Goes.val h hc (hev x (by simp [Op.operands]) _ hv) hs rfl
  · obtain ⟨v, hv, h⟩ := ev_ok h
    exact Goes.val h hc (hev x (by simp [Op.operands]) _ hv) hs rfl
  · obtain ⟨v, hv, h⟩ := ev_ok h
    have hC := hev c (by simp [Op.operands]) _ hv
    split at h
    · rename_i q
      have hC' : ev c = .bool (q.den env) := hC
      obtain ⟨cx', hc', h⟩ := branch_ok h hc
      split at h
      · rename_i hq
        obtain ⟨v, hv, h⟩ := ev_ok h
        refine Goes.val h hc' (hev a (by simp [Op.operands]) _ hv) hs ?_
        simp [execOp, hC', asBool, hq]
      · rename_i hq
        have hq' : q.den env = false := by simpa using hq
        obtain ⟨v, hv, h⟩ := ev_ok h
        refine Goes.val h hc' (hev b (by simp [Op.operands]) _ hv) hs ?_
        simp [execOp, hC', asBool, hq']
    · exact (runE_fail h).elim
  · obtain ⟨v, hv, h⟩ := ev_ok h
    have hX := hev x (by simp [Op.operands]) _ hv
    split at h
    · obtain ⟨A, hA, hXe⟩ := hX
      obtain ⟨A0, hA0, rfl⟩ := hA
      refine Goes.val h hc ⟨_, ⟨A0, hA0, rfl⟩, rfl⟩ hs ?_
      simp [execOp, hXe]
    · rename_i f a b
      obtain ⟨g, fs, cs, hg, h1, h2, hXe⟩ := hX
      refine Goes.val h hc ⟨g, fs, cs, hg, h1, h2, rfl⟩ hs ?_
      cases f with
      | func f => rw [show g = _ from hg] at hXe ⊢; simp [execOp, hXe]
      | yield l => obtain ⟨r', o', _, rfl⟩ := hg; simp [execOp, hXe]
    · obtain ⟨A, c, h1, h2, h3, hXe⟩ := hX
      refine Goes.val h hc ⟨A, c, h1, h2, h3, rfl⟩ hs ?_
      simp [execOp, hXe]
    · have hX' := hX
      refine Goes.val h hc hX' hs ?_
      obtain ⟨r', o', _, h0, ⟨_, A, c, hXe⟩ | ⟨c, _, hXe⟩⟩ := hX <;> simp [execOp, hXe]
    · have hX' := hX
      refine Goes.val h hc hX' hs ?_
      obtain ⟨r', c', _, h0, h1, h2, h3⟩ := hX
      by_cases hz : c' = 0
      · obtain ⟨A, hXe⟩ := h2 hz
        simp [execOp, hXe]
      · have hXe := h3 hz
        simp [execOp, hXe]
    · exact (runE_fail h).elim
  · obtain ⟨v, hv, h⟩ := ev_ok h
    obtain ⟨v2, hv2, h⟩ := ev_ok h
    obtain ⟨z0, Z, cx', s', h, hc', hh, hr, hrun⟩ := binS_ok (P := P) h hc hs (hev x (by simp [Op.operands]) _ hv) (hev y (by simp [Op.operands]) _ hv2)
    obtain ⟨z, h, hr⟩ := rwK_ok h hc' hr
    refine Goes.val h hc' hr (by rw [hh]; exact hs) (run_v ?_)
    obtain ⟨h1, h2⟩ := hrun x y
    simp only [Sem.run_bind, h1, Result.andThen_ok, h2]
  · obtain ⟨v, hv, h2⟩ := ev_ok h
    clear h
    have hX := hev x (by simp [Op.operands]) _ hv
    split at h2
    · rename_i kd e
      have hX' : ev x = .int kd (e.den env) := hX
      refine Goes.val h2 hc (V := .int kd (binI .sub kd 0 (e.den env))) ?_ hs (run_v ?_)
      · show _ = _
        rw [mkBin_ok hc]
        rfl
      · simp [Op.unary, hX', Op.intArith, binI]
    · rename_i kd e
      have hX' : ev x = .int kd (e.den env) := hX
      refine Goes.val h2 hc (V := .int kd (binI .xor kd (if kd.signed then -1 else kd.max) (e.den env))) ?_ hs (run_v ?_)
      · show _ = _
        rw [mkBin_ok hc]
        rfl
      · simp [Op.unary, hX', Op.intBits, binI]
    · rename_i b
      have hX' : ev x = .bool (b.den env) := hX
      refine Goes.val h2 hc (V := .bool (!b.den env)) ?_ hs (run_v ?_)
      · show _ = _
        rw [mkNeg_ok]
      · simp [Op.unary, hX']
    · exact (runE_fail h2).elim
  · obtain ⟨v, hv, h⟩ := ev_ok h
    have hX := hev x (by simp [Op.operands]) _ hv
    split at h
    · rename_i ds kd k1 e h1 h2
      have hX' : ev x = .int k1 (e.den env) := hX
      refine Goes.val h hc (V := .int kd (kd.wrap (e.den env))) ?_ hs (run_v ?_)
      · show _ = _
        rw [mkConv_ok hc]
      · simp [convert, run_underlying h1, run_underlying h2, hX', Conv.intToInt]
    · rename_i ds b h1 h2
      have hX' : ev x = .string b := hX
      refine Goes.val h hc (V := .string b) rfl hs (run_v ?_)
      simp [convert, run_underlying h1, run_underlying h2, hX']
    · exact (runE_fail h).elim
  · obtain ⟨v, hv, h⟩ := ev_ok h
    have hX := hev x (by simp [Op.operands]) _ hv
    split at h
    · exact (runE_fail h).elim
    · rename_i d hno hd
      refine Goes.val h hc (V := .iface t (ev x)) ⟨ev x, hX, rfl⟩ hs (run_v ?_)
      simp only [Instr.makeInterface, Sem.run_bind, run_underlying hd, Result.andThen_ok]
      first
        | rfl
        | (split
           · rename_i ms; exact absurd rfl (hno ms)
           · rfl)
    · exact (runE_fail h).elim
  · split at h
    · rename_i xs ys h1 h2
      have e1 := evalL_ok (env := env) (ρ := ρ) (ev := ev) (l := a.toList) (fun y hy => hev y (by simp [Op.operands] at hy ⊢; exact .inl hy)) h1
      have e2 := evalL_ok (env := env) (ρ := ρ) (ev := ev) (l := b.toList) (fun y hy => hev y (by simp [Op.operands] at hy ⊢; exact .inr hy)) h2
      refine Goes.val h hc (V := .func (.func f) (a.map ev) (b.map ev)) ⟨.func f, _, _, rfl, e1, e2, by rw [← Array.toList_map, ← Array.toList_map, Array.toArray_toList, Array.toArray_toList]⟩ hs (run_v ?_)
      rfl
    · exact (runE_fail h).elim
  · obtain ⟨v, hv, h⟩ := ev_ok h
    have hX := hev t (by simp [Op.operands]) _ hv
    split at h
    · rename_i l
      obtain ⟨vs, hvs, hXe⟩ := hX
      split at h
      · rename_i v hv
        obtain ⟨u, hu, hr⟩ := hvs.get hv
        refine Goes.val h hc hr hs (run_v ?_)
        simp [Instr.extract, hXe, hu]
      · exact (runE_fail h).elim
    · exact (runE_fail h).elim

theorem zeroSig_ok {env : Env} {ρ : Pl} : ∀ {z : List SV} {sig : List (Option IntKind)} {cs : List Value}, zeroSig z = some sig → RepL env ρ z cs → sig.length = z.length ∧ ∀ (j : Nat) (k : Option IntKind), sig[j]? = some k → cs[j]? = some (cellW k 0)
  | [], sig, cs, h, hr => by cases h; exact ⟨rfl, fun j k hj => by simp at hj⟩
  | x :: l, sig, cs, h, hr => by
      obtain ⟨V, us, hV, hus, rfl⟩ := hr
      unfold zeroSig at h
      split at h
      · cases ‹_ = []›
      · rename_i k l' heq
        cases heq
        rw [Option.map_eq_some_iff] at h
        obtain ⟨sg, hs, rfl⟩ := h
        obtain ⟨q1, q2⟩ := zeroSig_ok hs hus
        refine ⟨by simp [q1], fun j k hj => ?_⟩
        cases j with
        | zero => simp at hj; subst hj; rw [show V = _ from hV]; rfl
        | succ j => simpa using q2 j k (by simpa using hj)
      · rename_i l' heq
        cases heq
        rw [Option.map_eq_some_iff] at h
        obtain ⟨sg, hs, rfl⟩ := h
        obtain ⟨q1, q2⟩ := zeroSig_ok hs hus
        refine ⟨by simp [q1], fun j k hj => ?_⟩
        cases j with
        | zero => simp at hj; subst hj; rw [show V = _ from hV]; rfl
        | succ j => simpa using q2 j k (by simpa using hj)
      · cases h
theorem kind_zero (kd : IntKind) : kd.min ≤ 0 ∧ 0 ≤ kd.max := by cases kd <;> decide
theorem rowGet_zeros (m j n i : Nat) : rowGet m j (enc (List.replicate n 0)) (i : Int) = 0 := by
  simp only [rowGet, dec_enc, List.getD_eq_getElem?_getD, List.getElem?_replicate]
  split <;> rfl

theorem bigZ_ok {z : List SV} {n : Nat} {v : SV} (h : bigZ z n = some v) : repeatL z n = bigL v .nil n := by
  unfold bigZ at h
  cases hn : Nat.ble 64 n with
  | false => rw [hn, cond_false] at h; cases h
  | true =>
    rw [hn, cond_true] at h
    split at h
    · rename_i k r
      have key : ∀ x, x ∈ (SV.int k (.lit 0) :: r) → r.all (isZ k) = true → x = SV.int k (.lit 0) := by
        intro x hx ha
        rcases List.mem_cons.1 hx with rfl | hx
        · rfl
        · have := List.all_eq_true.1 ha x hx
          unfold isZ at this
          split at this
          · rw [of_decide_eq_true this]
          · cases this
      cases ha : r.all (isZ k) with
      | false => rw [ha, cond_false] at h; cases h
      | true =>
        rw [ha, cond_true] at h
        cases h
        unfold repeatL bigL
        refine List.map_congr_left fun i _ => ?_
        have hlt : i % (SV.int k (.lit 0) :: r).length < (SV.int k (.lit 0) :: r).length := Nat.mod_lt _ (by simp)
        rw [List.getElem?_eq_getElem hlt]
        exact key _ (List.getElem_mem hlt) ha
    · cases h

theorem aop_make (hc : cx.ok env) (hs : HS env ρ B s.h w) {t : TypeId} {l c : Operand}
    (hev : EvOK env ρ tm ev (Op.makeSlice t l c).operands.toList)
    (h : runE env (aop P tm cx ⟨dst, .makeSlice t l c, type, pos, after, guard⟩ k) s = some r) : Goes P env B r k ρ w (execOp ev ⟨dst, .makeSlice t l c, type, pos, after, guard⟩) := by
  simp only [aop, evT, aPick, aAlloc, aBox, aBuild, aBuildSlice, aLoad, aStore, aNilCheck, aBinOp, aUnOp, aConvert, aMakeInterface, aMakeFunc, aMakeSlice, aFieldAddr, aField, aIndexAddr, aIndex, aSlice, aSlice2, aSliceToArrayPointer, aExtract, aCall] at h
  split at h
  · rename_i e k1 n k2 m hu hl hcp
    have hL : ev l = .int k1 n := hev l (by simp [Op.operands]) _ hl
    have hC : ev c = .int k2 m := hev c (by simp [Op.operands]) _ hcp
    split at h
    · rename_i i z hi hz
      obtain ⟨it, v, hit, hiz, hzl⟩ := zeroL_ok hz
      rw [hi] at hit
      cases hit
      split at h
      · rename_i hcond
        obtain ⟨h0, h1, h2, h3, h4⟩ := hcond
        split at h
        · rename_i vb hvb
          refine Goes.new (f := fun nm => .slice (some (.c nm 0)) (.lit n) (some (.lit m))) (F := fun a => .slice (some a) n.toNat m.toNat) (ob := .cells (madeCells v.cells (m.toNat * i.size)) e) h hc hs rfl ?_ ?_ ?_
          · exact fun ρ' _ => ⟨rfl, _, (by rw [← bigZ_ok hvb]; exact repeatL_ok (ofL_ok hzl) h4 _), by simp⟩
          · intro ρ' nm hn
            exact ⟨some ⟨w.heap.size, 0, none⟩, m.toNat, ⟨_, ⟨_, _, hn, rfl⟩, rfl⟩, by simp [RepC, E.den], by simp [E.den]; omega, by simp [E.den]⟩
          · refine run_v ?_
            rw [hL, hC]
            exact run_make w t e i v hu hi hiz k1 k2 n m h0 h1 (by omega) (by omega)
        · rename_i hvb
          refine Goes.new (f := fun nm => .slice (some (.c nm 0)) (.lit n) (some (.lit m))) (F := fun a => .slice (some a) n.toNat m.toNat) (ob := .cells (madeCells v.cells (m.toNat * i.size)) e) h hc hs rfl ?_ ?_ ?_
          · exact fun ρ' _ => ⟨rfl, _, repeatL_ok (ofL_ok hzl) h4 _, by simp⟩
          · intro ρ' nm hn
            exact ⟨some ⟨w.heap.size, 0, none⟩, m.toNat, ⟨_, ⟨_, _, hn, rfl⟩, rfl⟩, by simp [RepC, E.den], by simp [E.den]; omega, by simp [E.den]⟩
          · refine run_v ?_
            rw [hL, hC]
            exact run_make w t e i v hu hi hiz k1 k2 n m h0 h1 (by omega) (by omega)
      · exact (runE_fail h).elim
    · exact (runE_fail h).elim
  · rename_i e k1 n k2 m _ hu hl hcp
    have hL : ev l = .int k1 (n.den env) := hev l (by simp [Op.operands]) _ hl
    have hC : ev c = .int k2 (m.den env) := hev c (by simp [Op.operands]) _ hcp
    split at h
    · rename_i i z hi hz
      obtain ⟨it, v, hit, hiz, hzl⟩ := zeroL_ok hz
      rw [hi] at hit
      cases hit
      split at h
      · rename_i sig hsig
        cases hb : (Nat.beq sig.length i.size && Nat.blt 0 sig.length) with
        | false => rw [hb] at h; exact (runE_fail h).elim
        | true =>
          rw [hb, cond_true] at h
          simp only [Bool.and_eq_true, beq_dec, blt_dec, decide_eq_true_eq] at hb
          obtain ⟨hb1, hb2⟩ := hb
          obtain ⟨g1, cx1, hc1, h⟩ := need_ok h hc
          obtain ⟨g2, cx2, hc2, h⟩ := need_ok h hc1
          obtain ⟨g3, cx3, hc3, h⟩ := need_ok h hc2
          rw [mkCmp_ok hc] at g1
          rw [mkCmp_ok hc1] at g2
          rw [mkCmp_ok hc2] at g3
          simp only [cmpI, E.den] at g1 g2 g3
          have g1 := of_decide_eq_true g1
          have g2 := of_decide_eq_true g2
          have g3 := of_decide_eq_true g3
          obtain ⟨hn, h⟩ := runE_new h
          obtain ⟨z1, z2⟩ := zeroSig_ok (env := env) (ρ := ρ) hsig (ofL_ok hzl)
          have hzlen : v.cells.size = sig.length := by have := RepL.length (ofL_ok (env := env) (ρ := ρ) hzl); simp at this; omega
          have hcode : (E.app 1003 [mkO2 .mul (.lit sig.length) n]).den env = enc (List.replicate (sig.length * (n.den env).toNat) 0) := by
            simp only [E.den, denL]
            rw [hs.rows _ _ (by omega) (by omega), rowOp_zeros, mkO2_ok]
            simp only [O2.ev, E.den]
            congr 2
            rw [Int.toNat_mul (Int.natCast_nonneg _) g1, Int.toNat_natCast]
          have hw : VecOK env sig (.app 1003 [mkO2 .mul (.lit sig.length) n]) n := by
            refine ⟨g1, hb2, by rw [hcode, dec_enc, List.length_replicate], fun a j kd _ _ => ?_⟩
            rw [hcode, rowGet_zeros]
            exact kind_zero kd
          have hbs : BS env ρ (some (.cells (madeCells v.cells ((m.den env).toNat * i.size)) e (0, 0))) (m.den env).toNat (.vec sig (.app 1003 [mkO2 .mul (.lit sig.length) n]) n e) := by
            have hsz : (madeCells v.cells ((m.den env).toNat * i.size)).size = (m.den env).toNat * i.size := by simp [madeCells]
            refine ⟨_, rfl, by rw [hsz, hb1]; exact Nat.le_refl _, by omega, fun a j k ha hjk => ?_⟩
            have hj : j < sig.length := (List.getElem?_eq_some_iff.1 hjk).1
            have hlt : sig.length * a + j < (m.den env).toNat * i.size := by
              have := Nat.mul_le_mul_left sig.length (show a + 1 ≤ (m.den env).toNat by omega)
              rw [Nat.mul_add, Nat.mul_one, Nat.mul_comm sig.length (m.den env).toNat] at this
              rw [← hb1]
              omega
            rw [hcode, rowGet_zeros]
            have e1 : (madeCells v.cells ((m.den env).toNat * i.size))[sig.length * a + j]? = some (v.cells[(sig.length * a + j) % v.cells.size]!) := by
              simp [madeCells, hlt]
            rw [e1, hzlen, Nat.mul_add_mod, Nat.mod_eq_of_lt hj]
            have := z2 j k hjk
            rw [Array.getElem?_toList] at this
            simp [getElem!_def, this]
          have hq : (m.den env).toNat ≤ 140737488355328 / (i.bytes + 1) := by omega
          have hq2 := (Nat.le_div_iff_mul_le (by omega)).1 hq
          rw [Nat.mul_add, Nat.mul_one] at hq2
          have hq3 : ((i.bytes : Int) * m.den env) ≤ 281474976710656 := by
            have e1 : (m.den env).toNat * i.bytes ≤ 281474976710656 := by omega
            have e2 : ((i.bytes : Int) * m.den env) = (((m.den env).toNat * i.bytes : Nat) : Int) := by
              rw [Int.natCast_mul, Int.mul_comm, show ((m.den env).toNat : Int) = m.den env by omega]
            rw [e2]
            omega
          have hrun := run_make w t e i v hu hi hiz k1 k2 (n.den env) (m.den env) g1 g2 hq3 (by omega)
          obtain ⟨hle, hρ, hs'⟩ := hs.allocO hn (v := .vec sig (.app 1003 [mkO2 .mul (.lit sig.length) n]) n e) rfl (m.den env).toNat (fun ρ' hle => hbs.mono hle) hw
          refine ⟨_, cx3, _, _, .slice (some ⟨w.heap.size, 0, none⟩) (n.den env).toNat (m.den env).toNat, _, h, hc3, hle, ?_, hs', (Below.refl _ _).alloc hs.size _, .inl (run_v ?_)⟩
          · refine ⟨_, _, hρ, g1, by omega, fun hz => ⟨some ⟨w.heap.size, 0, none⟩, ?_⟩, fun _ => rfl⟩
            rw [hz, show (n.den env).toNat = 0 by omega]
          · rw [hL, hC]
            exact hrun
      · exact (runE_fail h).elim
    · exact (runE_fail h).elim
  · exact (runE_fail h).elim

theorem aop_field (hc : cx.ok env) (hs : HS env ρ B s.h w) {op : Op} (hop : (∃ t x f, op = .fieldAddr t x f) ∨ (∃ t x f, op = .field t x f))
    (hev : EvOK env ρ tm ev op.operands.toList)
    (h : runE env (aop P tm cx ⟨dst, op, type, pos, after, guard⟩ k) s = some r) : Goes P env B r k ρ w (execOp ev ⟨dst, op, type, pos, after, guard⟩) := by
  rcases hop with ⟨t, x, f, rfl⟩ | ⟨t, x, f, rfl⟩ <;> simp only [aop, evT, aPick, aAlloc, aBox, aBuild, aBuildSlice, aLoad, aStore, aNilCheck, aBinOp, aUnOp, aConvert, aMakeInterface, aMakeFunc, aMakeSlice, aFieldAddr, aField, aIndexAddr, aIndex, aSlice, aSlice2, aSliceToArrayPointer, aExtract, aCall] at h
  · obtain ⟨v, hv, h⟩ := ev_ok h
    have hX := hev x (by simp [Op.operands]) _ hv
    split at h
    · rename_i a fs hu
      obtain ⟨A, hA, hXe⟩ := hX
      obtain ⟨A0, hA0, rfl⟩ := hA
      split at h
      · rename_i fd hfd
        split at h
        · rename_i n hn
          refine Goes.val h hc (V := .pointer (some (A0.add fd.offset))) ⟨_, ⟨_, SA.plus_ok hA0 _, rfl⟩, rfl⟩ hs (run_v ?_)
          simp [Instr.fieldAt, run_underlying hu, hfd, hXe, Instr.sureAddr, fieldPlace, run_sizeOf' hn]
        · exact (runE_fail h).elim
      · exact (runE_fail h).elim
    · exact (runE_fail h).elim
  · obtain ⟨v, hv, h⟩ := ev_ok h
    have hX := hev x (by simp [Op.operands]) _ hv
    split at h
    · rename_i l fs hu
      obtain ⟨vs, hvs, hXe⟩ := hX
      split at h
      · rename_i fd hfd
        split at h
        · rename_i n hagg hn
          split at h
          · rename_i r' hr'
            obtain ⟨rfl, hl⟩ := cut_ok hr'
            refine Goes.val h hc (V := .agg ((vs.drop fd.offset).take n).toArray) ⟨_, (hvs.drop _).take _, rfl⟩ hs (run_v ?_)
            simp [Instr.field, run_underlying hu, hfd, hXe, asAgg, part, run_isAgg' hagg, run_sizeOf' hn, List.extract_eq_take_drop]
          · exact (runE_fail h).elim
        · rename_i o1 hagg
          split at h
          · rename_i v hv
            obtain ⟨u, hu2, hr⟩ := hvs.get hv
            refine Goes.val h hc hr hs (run_v ?_)
            simp [Instr.field, run_underlying hu, hfd, hXe, asAgg, part, run_isAgg' hagg, hu2]
          · exact (runE_fail h).elim
        · exact (runE_fail h).elim
      · exact (runE_fail h).elim
    · exact (runE_fail h).elim

theorem aop_index (hc : cx.ok env) (hs : HS env ρ B s.h w) {op : Op} (hop : (∃ t x i, op = .indexAddr t x i) ∨ (∃ t x i, op = .index t x i))
    (hev : EvOK env ρ tm ev op.operands.toList)
    (h : runE env (aop P tm cx ⟨dst, op, type, pos, after, guard⟩ k) s = some r) : Goes P env B r k ρ w (execOp ev ⟨dst, op, type, pos, after, guard⟩) := by
  rcases hop with ⟨t, x, ix, rfl⟩ | ⟨t, x, ix, rfl⟩ <;> simp only [aop, evT, aPick, aAlloc, aBox, aBuild, aBuildSlice, aLoad, aStore, aNilCheck, aBinOp, aUnOp, aConvert, aMakeInterface, aMakeFunc, aMakeSlice, aFieldAddr, aField, aIndexAddr, aIndex, aSlice, aSlice2, aSliceToArrayPointer, aExtract, aCall] at h
  · obtain ⟨v, hv, h1⟩ := ev_ok h
    obtain ⟨v2, hv2, h2⟩ := ev_ok h1
    clear h h1
    revert h2
    intro h
    have hX := hev x (by simp [Op.operands]) _ hv
    have hI := hev ix (by simp [Op.operands]) _ hv2
    split at h
    · rename_i e a len cap kd i hu
      obtain ⟨A, c, hA, _, hlen0, hXe⟩ := hX
      obtain ⟨A0, hA0, rfl⟩ := hA
      have hI' : ev ix = .int kd (i.den env) := hI
      split at h
      · rename_i m hm _
        obtain ⟨h1, cx1, hc1, h⟩ := need_ok h hc
        obtain ⟨h2, cx2, hc2, h⟩ := need_ok h hc1
        rw [mkCmp_ok hc] at h1
        rw [mkCmp_ok hc1] at h2
        simp only [cmpI, decide_eq_true_eq, E.den, ge_iff_le] at h1 h2
        split at h
        · rename_i b hb
          refine Goes.val h hc2 (V := .pointer (some (A0.add ((i.den env).toNat * m)))) ⟨_, ⟨_, SA.elem_ok hb hA0 h1, rfl⟩, rfl⟩ hs (run_v ?_)
          have h3 : i.den env < ((len.den env).toNat : Int) := by omega
          have h4 : ¬ (max (len.den env) 0 ≤ i.den env) := by omega
          simp [Instr.indexAt, hXe, hI', asIntOf, run_underlying hu, h1, h3, h4, run_sizeOf' hm]
        · exact (runE_fail h).elim
      · exact (runE_fail h).elim
    · rename_i e b len kd i hu
      obtain ⟨r', o', hρ, hlen0, hX⟩ := hX
      have hI' : ev ix = .int kd (i.den env) := hI
      split at h
      · rename_i m hm
        obtain ⟨h1, cx1, hc1, h⟩ := need_ok h hc
        obtain ⟨h2, cx2, hc2, h⟩ := need_ok h hc1
        rw [mkCmp_ok hc] at h1
        rw [mkCmp_ok hc1] at h2
        simp only [cmpI, decide_eq_true_eq, E.den, ge_iff_le] at h1 h2
        rcases hX with ⟨hz, _⟩ | ⟨c, hcap, hXe⟩
        · omega
        split at h
        · rename_i b' hb
          refine Goes.val h hc2 (V := .pointer (some ((⟨r', o', none⟩ : Addr).add ((i.den env).toNat * m)))) ⟨_, ⟨_, SA.elem_ok hb (show RepA env ρ (.c b 0) ⟨r', o', none⟩ from ⟨r', o', hρ, rfl⟩) h1, rfl⟩, rfl⟩ hs (run_v ?_)
          have h3 : i.den env < ((len.den env).toNat : Int) := by omega
          have h4 : ¬ (max (len.den env) 0 ≤ i.den env) := by omega
          simp [Instr.indexAt, hXe, hI', asIntOf, run_underlying hu, h1, h3, h4, run_sizeOf' hm]
        · exact (runE_fail h).elim
      · exact (runE_fail h).elim
    · rename_i e b len kd i hu
      obtain ⟨r', c', hρ, hlen0, hlc, hX0, hX1⟩ := hX
      have hI' : ev ix = .int kd (i.den env) := hI
      split at h
      · rename_i m hm
        obtain ⟨h1, cx1, hc1, h⟩ := need_ok h hc
        obtain ⟨h2, cx2, hc2, h⟩ := need_ok h hc1
        rw [mkCmp_ok hc] at h1
        rw [mkCmp_ok hc1] at h2
        simp only [cmpI, decide_eq_true_eq, E.den, ge_iff_le] at h1 h2
        have hXe := hX1 (by omega)
        refine Goes.val h hc2 (V := .pointer (some ((⟨r', 0, none⟩ : Addr).add ((i.den env).toNat * m)))) ⟨_, ⟨_, ⟨r', c', hρ, h1, by rw [Addr.add']; simp [Nat.mul_comm]⟩, rfl⟩, rfl⟩ hs (run_v ?_)
        have h3 : i.den env < ((len.den env).toNat : Int) := by omega
        have h4 : ¬ (max (len.den env) 0 ≤ i.den env) := by omega
        simp [Instr.indexAt, hXe, hI', asIntOf, run_underlying hu, h1, h3, h4, run_sizeOf' hm]
      · exact (runE_fail h).elim
    · rename_i n e a kd i hu
      obtain ⟨A, hA, hXe⟩ := hX
      obtain ⟨A0, hA0, rfl⟩ := hA
      have hI' : ev ix = .int kd (i.den env) := hI
      split at h
      · rename_i m hm
        obtain ⟨h1, cx1, hc1, h⟩ := need_ok h hc
        obtain ⟨h2, cx2, hc2, h⟩ := need_ok h hc1
        rw [mkCmp_ok hc] at h1
        rw [mkCmp_ok hc1] at h2
        simp only [cmpI, decide_eq_true_eq, E.den, ge_iff_le] at h1 h2
        have h3 : i.den env < (n : Int) := of_decide_eq_true h2
        obtain ⟨cx3, j, hj, hjn, hc3, h⟩ := pinT_ok h hc2 h1 h3
        split at h
        · rename_i b hb
          refine Goes.val h hc3 (V := .pointer (some (A0.add ((i.den env).toNat * m)))) ⟨_, ⟨_, (by rw [hj]; exact SA.elem_ok hb hA0 (by simp [E.den])), rfl⟩, rfl⟩ hs (run_v ?_)
          simp [Instr.indexAt, hXe, hI', asIntOf, run_underlying hu, h1, h3, run_sizeOf' hm, Instr.sureAddr]
        · exact (runE_fail h).elim
      · exact (runE_fail h).elim
    · exact (runE_fail h).elim
  · obtain ⟨v, hv, h1⟩ := ev_ok h
    obtain ⟨v2, hv2, h2⟩ := ev_ok h1
    clear h h1
    revert h2
    intro h
    have hX := hev x (by simp [Op.operands]) _ hv
    have hI := hev ix (by simp [Op.operands]) _ hv2
    split at h
    · rename_i n e l kd i hu
      obtain ⟨vs, hvs, hXe⟩ := hX
      have hI' : ev ix = .int kd (i.den env) := hI
      split at h
      · rename_i m hagg hm
        obtain ⟨h1, cx1, hc1, h⟩ := need_ok h hc
        obtain ⟨h2, cx2, hc2, h⟩ := need_ok h hc1
        rw [mkCmp_ok hc] at h1
        rw [mkCmp_ok hc1] at h2
        simp only [cmpI, decide_eq_true_eq, E.den, ge_iff_le] at h1 h2
        have h3 : i.den env < (n : Int) := of_decide_eq_true h2
        obtain ⟨cx3, j, hj, hjn, hc3, h⟩ := pinT_ok h hc2 h1 h3
        split at h
        · rename_i r' hr'
          obtain ⟨rfl, hl⟩ := cut_ok hr'
          refine Goes.val h hc3 (V := .agg ((vs.drop (j * m)).take m).toArray) ⟨_, (hvs.drop _).take _, rfl⟩ hs (run_v ?_)
          have h4 : (i.den env).toNat = j := by omega
          simp [Instr.index, run_underlying hu, hXe, hI', asIntOf, h1, h3, h4, part, run_isAgg' hagg, run_sizeOf' hm, List.extract_eq_take_drop]
        · exact (runE_fail h).elim
      · rename_i m hagg hm
        obtain ⟨h1, cx1, hc1, h⟩ := need_ok h hc
        obtain ⟨h2, cx2, hc2, h⟩ := need_ok h hc1
        rw [mkCmp_ok hc] at h1
        rw [mkCmp_ok hc1] at h2
        simp only [cmpI, decide_eq_true_eq, E.den, ge_iff_le] at h1 h2
        have h3 : i.den env < (n : Int) := of_decide_eq_true h2
        obtain ⟨cx3, j, hj, hjn, hc3, h⟩ := pinT_ok h hc2 h1 h3
        split at h
        · rename_i v hv
          obtain ⟨u, hu2, hr⟩ := hvs.get hv
          refine Goes.val h hc3 hr hs (run_v ?_)
          have h4 : (i.den env).toNat = j := by omega
          simp [Instr.index, run_underlying hu, hXe, hI', asIntOf, h1, h3, h4, part, run_isAgg' hagg, run_sizeOf' hm, hu2]
        · exact (runE_fail h).elim
      · exact (runE_fail h).elim
    · rename_i str kd i hu
      have hX' : ev x = .string str := hX
      have hI' : ev ix = .int kd i := hI
      split at h
      · rename_i hin
        split at h
        · rename_i b hb
          refine Goes.val h hc (V := .int .u8 b.toNat) rfl hs (run_v ?_)
          simp [Instr.index, run_underlying hu, hX', hI', asIntOf, hin, hb]
        · exact (runE_fail h).elim
      · exact (runE_fail h).elim
    · exact (runE_fail h).elim

/-! ### append -/

theorem zeroCells_size (z : Array Value) (n : Nat) : (Builtin.zeroCells z n).size = n * z.size := by simp [Builtin.zeroCells]

/-- what a row that has been made anew holds -/
theorem grow_bs {env : Env} {ρ' : Pl} {L : List SV} {vs : List Value} {e size need : Nat} {z : Value} {G : Nat} {cur : Array Value} (hr : RepL env ρ' L vs) (hcur : cur = vs.toArray ++ Builtin.zeroCells z.cells (G - need)) (hlen : vs.length = need * size)
    (hz : z.cells.size = size) (hG : need ≤ G) : BS env ρ' (some (.cells cur e (0, 0))) G (.grow L e size) := by
  refine ⟨vs, cur, hr, rfl, ?_, ?_⟩
  · rw [hcur]; simp
  · rw [hcur, Array.size_append, zeroCells_size, hz]
    simp only [List.size_toArray, hlen]
    rw [← Nat.add_mul]
    exact Nat.mul_le_mul_right _ (by omega)

/-- a row is made anew -/
theorem Goes.regrown {f : Nat → SV} {s1 : St} {L : List SV} {e size n G : Nat} {W : World} {cur : Array Value} {sem : Sem Next} (hc : cx.ok env)
    (h : runE env (.new (.grow L e size) fun m => k (f m) cx) s1 = some r) (hs : HS env ρ B s1.h w) (hsz : w.heap.size = W.heap.size) (hk : ∀ k : Nat, W.heap[k]? = w.heap[k]?) (hos : Below B w W)
    (hb : ∀ ρ', ρ.le ρ' → BS env ρ' (some (.cells cur e (0, 0))) G (.grow L e size)) (hG : n ≤ G) (hf : f = fun m => .slice (some (.g m 0)) (.lit (n : Int)) none)
    (hrun : sem.run P w = .ok (.value (.slice (some ⟨w.heap.size, 0, none⟩) n G)) (W.alloc (.cells cur e (0, 0)))) : Goes P env B r k ρ w sem := by
  obtain ⟨hn, h2⟩ := runE_new h
  have hsW : HS env ρ B s1.h W := hs.later (fun k _ => hk k) (by omega)
  obtain ⟨hle, hρ, hs'⟩ := hsW.allocO hn (v := .grow L e size) rfl G hb
  rw [← hsz] at hle hρ hs'
  refine ⟨_, cx, _, _, _, _, h2, hc, hle, ?_, hs', hos.trans ((Below.refl _ _).alloc hsW.size _), .inl hrun⟩
  subst hf
  exact ⟨_, G, ⟨_, ⟨_, _, hρ, rfl⟩, rfl⟩, ⟨by simpa [E.den] using hG, fun b hb => by simp only [capOf, Option.some.injEq] at hb; subst hb; exact ⟨_, hρ⟩⟩, by simp [E.den], by simp [E.den]⟩

/-- a written row is made anew -/
theorem Goes.regrownV {s1 : St} {sig : List (Option IntKind)} {code N : E} {e n G : Nat} {cx0 : Ctx} {W : World} {cur : Array Value} {sem : Sem Next} (hc : cx0.ok env)
    (h : runE env (.new (.vec sig code N e) fun m => k (.vg m N) cx0) s1 = some r) (hs : HS env ρ B s1.h w) (hsz : w.heap.size = W.heap.size) (hk : ∀ k : Nat, W.heap[k]? = w.heap[k]?) (hos : Below B w W)
    (hb : ∀ ρ', ρ.le ρ' → BS env ρ' (some (.cells cur e (0, 0))) G (.vec sig code N e)) (hw : VecOK env sig code N) (hn0 : N.den env = (n : Int)) (hG : n ≤ G) (hG0 : 0 < n)
    (hrun : sem.run P w = .ok (.value (.slice (some ⟨w.heap.size, 0, none⟩) n G)) (W.alloc (.cells cur e (0, 0)))) : Goes P env B r k ρ w sem := by
  obtain ⟨hn, h2⟩ := runE_new h
  have hsW : HS env ρ B s1.h W := hs.later (fun k _ => hk k) (by omega)
  obtain ⟨hle, hρ, hs'⟩ := hsW.allocO hn (v := .vec sig code N e) rfl G hb hw
  rw [← hsz] at hle hρ hs'
  refine ⟨_, cx0, _, _, _, _, h2, hc, hle, ?_, hs', hos.trans ((Below.refl _ _).alloc hsW.size _), .inl hrun⟩
  exact ⟨_, G, hρ, by omega, by omega, fun hz => by omega, fun _ => by rw [hn0]; rfl⟩

theorem below_drew {B : Nat} (w : World) : Below B w w.drew := ⟨rfl, rfl, rfl, Nat.le_refl _, fun _ _ => rfl⟩

set_option maxHeartbeats 800000 in
theorem appN_ok (hc : cx.ok env) (hs : HS env ρ B s.h w) {t e : TypeId} {i : TypeInfo} {z : Value} (hu : P.underlying t = some (.slice e)) (hi : P.info? e = some i) (hz : i.zero = some z) (hzs : z.cells.size = i.size)
    {S : Value} {sv : SV} {l : List SV} {news : List Value} {n c : Nat} {A : Addr} (hS : Rep env ρ sv S) (hl : RepL env ρ l news) (hll : l.length = n * i.size) (hflat : ∀ u, u ∈ news → u.oneCell' = true) (hcells : CellsAt w A news)
    {sem : Sem Next} (hsem : ∀ V w', (Builtin.append_ #[t, t] type #[S, .slice (some A) n c]).run P w = .ok V w' → sem.run P w = .ok (.value V) w')
    (h : runE env (appN P cx e i.size i.bytes sv l n k) s = some r) : Goes P env B r k ρ w sem := by
  have hnl : news.length = n * i.size := by rw [hl.length, hll]
  have capge : ∀ need old, need ≤ grownCap w need old e := fun need old => grownCap_ge w need old e
  unfold appN at h
  split at h
  · -- a row without room, with a place
    rename_i a
    obtain ⟨A0, c0, ⟨A1, hA1, rfl⟩, hcap, _, rfl⟩ := hS
    have hc0 : c0 = 0 := hcap
    subst hc0
    simp only [beq_dec] at h
    by_cases hn : n = 0
    · subst hn
      simp only [decide_true, cond_true] at h
      have hnil : news = [] := List.eq_nil_of_length_eq_zero (by simpa using hnl)
      subst hnil
      refine Goes.val h hc (V := .slice (some A1) 0 0) ⟨_, 0, ⟨A1, hA1, rfl⟩, rfl, by simp [E.den], by simp [E.den]⟩ hs (hsem _ _ ?_)
      have hf := run_firstCells_some (P := P) w i.size 0 A 0 c [] (by simp) (by simp)
      simp [Builtin.append_, run_underlying hu, sizeOf, typeInfo, hi, Builtin.lenOf, hf, storeCells, E.den]
    · simp only [hn, decide_false, cond_false] at h
      cases hb : (Nat.ble (n * i.bytes) 140737488355328 && Nat.ble n 140737488355328) with
      | false => rw [hb] at h; exact (runE_fail h).elim
      | true =>
        rw [hb, cond_true] at h
        simp only [Bool.and_eq_true] at hb
        have hb1 := Nat.le_of_ble_eq_true hb.1
        have hb2 := Nat.le_of_ble_eq_true hb.2
        have hr := run_append_grow (P := P) w t type e i z hu hi hz A1 0 0 [] (by simp) (by simp) A n c news hnl hcells (by omega) (by omega) (growslice_fits (by omega) (by rw [Nat.zero_add]; exact hb1))
        simp only [Nat.zero_add, Array.empty_append] at hr
        exact Goes.regrown hc h hs (W := w.drew) rfl (fun _ => rfl) (below_drew w) (fun ρ' hle => grow_bs (z := z) (hl.mono hle) rfl hnl hzs (capge n 0)) (capge n 0) rfl (hsem _ _ (by simpa [E.den] using hr))
  · -- nil
    obtain ⟨A0, c0, hA0, hcap, _, rfl⟩ := hS
    rw [show A0 = none from hA0] at hsem
    have hc0 : c0 = 0 := hcap
    subst hc0
    simp only [beq_dec] at h
    by_cases hn : n = 0
    · subst hn
      simp only [decide_true, cond_true] at h
      have hnil : news = [] := List.eq_nil_of_length_eq_zero (by simpa using hnl)
      subst hnil
      refine Goes.val h hc (V := .slice none 0 0) ⟨_, 0, rfl, rfl, by simp [E.den], by simp [E.den]⟩ hs (hsem _ _ ?_)
      have hf := run_firstCells_some (P := P) w i.size 0 A 0 c [] (by simp) (by simp)
      simp [Builtin.append_, run_underlying hu, sizeOf, typeInfo, hi, Builtin.lenOf, hf, E.den]
    · simp only [hn, decide_false, cond_false] at h
      cases hb : (Nat.ble (n * i.bytes) 140737488355328 && Nat.ble n 140737488355328) with
      | false => rw [hb] at h; exact (runE_fail h).elim
      | true =>
        rw [hb, cond_true] at h
        simp only [Bool.and_eq_true] at hb
        have hb1 := Nat.le_of_ble_eq_true hb.1
        have hb2 := Nat.le_of_ble_eq_true hb.2
        have hr := run_append_nil (P := P) w t type e i z hu hi hz A n c news hnl hcells (by omega) (by omega) (by omega)
        exact Goes.regrown hc h hs (W := w.drew) rfl (fun _ => rfl) (below_drew w) (fun ρ' hle => grow_bs (z := z) (hl.mono hle) rfl hnl hzs (capge n 0)) (capge n 0) rfl (hsem _ _ (by simpa [E.den] using hr))
  · -- a row that grows
    rename_i b sl
    obtain ⟨A0, c0, ⟨A1, ⟨r0, o0, e0, rfl⟩, rfl⟩, hcap, hsl0, rfl⟩ := hS
    obtain ⟨hc1, hc2⟩ : RepC env ρ (some (.g b 0)) ((E.lit sl).den env).toNat c0 none := hcap
    obtain ⟨r1, e1⟩ := hc2 b rfl
    rw [e0] at e1
    cases e1
    simp only [E.den] at hc1 hsl0 hsem
    obtain ⟨blk, hg, _, h⟩ := runE_get h
    split at h
    · rename_i old e' m
      cases hb : (Nat.beq e e' && Nat.beq m i.size && Nat.beq old.length (sl.toNat * i.size) && Nat.ble ((sl.toNat + n) * i.bytes) 140737488355328 && Nat.ble (sl.toNat + n) 140737488355328) with
      | false => rw [hb] at h; exact (runE_fail h).elim
      | true =>
        rw [hb, cond_true] at h
        simp only [Bool.and_eq_true, beq_dec, decide_eq_true_eq] at hb
        obtain ⟨⟨⟨⟨he, hm⟩, hol⟩, hb1⟩, hb2⟩ := hb
        subst he
        subst hm
        have hb1 := Nat.le_of_ble_eq_true hb1
        have hb2 := Nat.le_of_ble_eq_true hb2
        obtain ⟨r2, o2, e2, hbs, hown, _⟩ := hs.at _ _ hg (fun _ => rfl)
        rw [e0] at e2
        cases e2
        obtain ⟨cs, cur, hr, hob, hpre, hcapc⟩ := hbs
        have hcl : cs.length = sl.toNat * i.size := by rw [hr.length, hol]
        obtain ⟨u, hu1, _, h⟩ := runE_set h
        have hh : ((s.touch b).put b .dead).h = s.h.set b .dead := by rw [St.put_h, St.touch_h]
        by_cases hroom : sl.toNat + n ≤ c0
        · -- in its place
          obtain ⟨hn, h⟩ := runE_new h
          rw [hh] at hn
          have hfit : sl.toNat * i.size + news.length ≤ cur.size := by
            rw [hnl, ← Nat.add_mul]
            exact Nat.le_trans (Nat.mul_le_mul_right _ hroom) hcapc
          have hrun := run_append_room (P := P) w t type e i hu hi r0 sl.toNat c0 cur hob A n c news hnl hcells hflat hroom hfit
          have hW := setRow_heap w r0 cur (cur.toList.take (sl.toNat * i.size) ++ news ++ cur.toList.drop (sl.toNat * i.size + news.length)).toArray e (0, 0) hob
          have hpre' : cur.toList.take (sl.toNat * i.size) = cs := by rw [← hcl]; exact hpre
          obtain ⟨hle, hρ, hs'⟩ := hs.regrow (n := ((s.touch b).put b .dead).nx) (w' := w.setRow r0 (cur.toList.take (sl.toNat * i.size) ++ news ++ cur.toList.drop (sl.toNat * i.size + news.length)).toArray) (v := .grow (old ++ l) e i.size) hg rfl rfl rfl e0 hn
            (by simp [World.setRow]) (fun k hk => setRow_other w r0 k _ hk) (fun ρ' hle => by
              rw [hW]
              refine ⟨cs ++ news, _, (hr.mono hle).append (hl.mono hle), rfl, ?_, ?_⟩
              · simp only
                rw [hpre']
                exact List.take_left
              · simp only [List.size_toArray, List.length_append, List.length_take, List.length_drop, Array.length_toList]
                have : sl.toNat * i.size ≤ cur.size := by omega
                omega)
          refine ⟨_, cx, _, _, .slice (some ⟨r0, 0, none⟩) (sl.toNat + n) c0, _, h, hc, hle, ?_, by simp only [St.add, hh]; exact hs', ?_, .inl (hsem _ _ hrun)⟩
          · exact ⟨_, c0, ⟨_, ⟨_, _, hρ, rfl⟩, rfl⟩, ⟨by simp only [E.den, Int.toNat_natCast]; exact hroom, fun b hb => by simp only [capOf, Option.some.injEq] at hb; subst hb; exact ⟨_, hρ⟩⟩, by simp [E.den]; omega, by simp [E.den]; omega⟩
          · exact ⟨rfl, rfl, rfl, by simp [World.setRow], fun k hk => setRow_other w r0 k _ (by have := hown rfl; omega)⟩
        · -- anew
          have holds : ∀ j v, cs[j]? = some v → w.cell? ((⟨r0, 0, none⟩ : Addr).add j) = some v := by
            intro j v hj
            rw [Addr.add', World.cell?, hob]
            simp only [Option.isSome_none, Bool.false_eq_true, if_false, Nat.zero_add]
            rw [← hpre, List.getElem?_take] at hj
            split at hj
            · rw [← Array.getElem?_toList]; exact hj
            · cases hj
          have hrun := run_append_grow (P := P) w t type e i z hu hi hz ⟨r0, 0, none⟩ sl.toNat c0 cs hcl holds A n c news hnl hcells (by omega) (by omega) (growslice_fits (by omega) hb1)
          have hs2 := hs.kill hg
          exact Goes.regrown hc h (by rw [hh]; exact hs2) (W := w.drew) rfl (fun _ => rfl) (below_drew w)
            (fun ρ' hle => grow_bs (z := z) (need := sl.toNat + n) ((hr.mono hle).append (hl.mono hle)) (by simp) (by rw [List.length_append, hcl, hnl, Nat.add_mul]) hzs (capge _ c0)) (capge _ c0) rfl (hsem _ _ hrun)
    · exact (runE_fail h).elim
  · -- a row of known room
    rename_i b sl sc _
    obtain ⟨A0, c0, ⟨A1, ⟨r0, o0, e0, rfl⟩, rfl⟩, hcap, hsl0, rfl⟩ := hS
    have hc0 : c0 = sc.toNat := hcap
    subst hc0
    simp only [E.den] at hsl0 hsem
    obtain ⟨blk, hg, _, h⟩ := runE_get h
    split at h
    · rename_i old e'
      obtain ⟨r2, o2, e2, hbs, hown, _⟩ := hs.at _ _ hg (fun _ => rfl)
      rw [e0] at e2
      cases e2
      obtain ⟨rfl, cs, hr, hob⟩ := hbs
      have hcsl : cs.length = old.length := hr.length
      cases hb : (Nat.beq e e' && Nat.ble ((sl.toNat + n) * i.size) old.length && Nat.ble (sl.toNat + n) sc.toNat) with
      | true =>
        rw [hb, cond_true] at h
        simp only [Bool.and_eq_true, beq_dec, decide_eq_true_eq] at hb
        obtain ⟨⟨he, hb1⟩, hb2⟩ := hb
        subst he
        have hb1 := Nat.le_of_ble_eq_true hb1
        have hb2 := Nat.le_of_ble_eq_true hb2
        rw [Nat.add_mul] at hb1
        obtain ⟨u, hu1, _, h⟩ := runE_set h
        have hrun := run_append_room (P := P) w t type e i hu hi r0 sl.toNat sc.toNat cs.toArray hob A n c news hnl hcells hflat hb2 (by rw [hnl]; simp; omega)
        have hW := setRow_heap w r0 cs.toArray (cs.toArray.toList.take (sl.toNat * i.size) ++ news ++ cs.toArray.toList.drop (sl.toNat * i.size + news.length)).toArray e (0, 0) hob
        refine ⟨_, cx, _, ρ, .slice (some ⟨r0, 0, none⟩) (sl.toNat + n) sc.toNat, _, h, hc, ρ.le_refl, ?_, ?_, ?_, .inl (hsem _ _ (by simpa using hrun))⟩
        · exact ⟨_, sc.toNat, ⟨_, ⟨_, _, e0, rfl⟩, rfl⟩, rfl, by simp [E.den]; omega, by simp [E.den]; omega⟩
        · rw [St.put_h, St.touch_h]
          refine hs.put hg rfl rfl e0 (by simp [World.setRow]) (fun k hk => setRow_other w r0 k _ hk) ?_
          rw [setRow_heap w r0 cs.toArray _ e (0, 0) hob]
          refine ⟨rfl, _, hr.setMany hl (by rw [hll]; omega), ?_⟩
          simp
        · exact ⟨rfl, rfl, rfl, by simp [World.setRow], fun k hk => setRow_other w r0 k _ (by have := hown rfl; omega)⟩
      | false =>
        rw [hb, cond_false] at h
        cases hb2 : (Nat.ble (sl.toNat * i.size) old.length && Nat.blt sc.toNat (sl.toNat + n) && Nat.ble ((sl.toNat + n) * i.bytes) 140737488355328 && Nat.ble (sl.toNat + n) 140737488355328) with
        | false => rw [hb2] at h; exact (runE_fail h).elim
        | true =>
          rw [hb2, cond_true] at h
          simp only [Bool.and_eq_true, blt_dec, decide_eq_true_eq] at hb2
          obtain ⟨⟨⟨h1, h2⟩, h3⟩, h4⟩ := hb2
          have h1 := Nat.le_of_ble_eq_true h1
          have h3 := Nat.le_of_ble_eq_true h3
          have h4 := Nat.le_of_ble_eq_true h4
          have hol : (cs.take (sl.toNat * i.size)).length = sl.toNat * i.size := by simp; omega
          have holds : ∀ j v, (cs.take (sl.toNat * i.size))[j]? = some v → w.cell? ((⟨r0, 0 + 0, none⟩ : Addr).add j) = some v := by
            intro j v hj
            rw [Addr.add', World.cell?, hob]
            simp only [Option.isSome_none, Bool.false_eq_true, if_false, Nat.zero_add]
            rw [List.getElem?_take] at hj
            split at hj
            · simpa using hj
            · cases hj
          have hrun := run_append_grow (P := P) w t type e i z hu hi hz ⟨r0, 0 + 0, none⟩ sl.toNat sc.toNat _ hol holds A n c news hnl hcells (by omega) (by omega) (growslice_fits (by omega) h3)
          exact Goes.regrown hc h (by rw [St.touch_h]; exact hs) (W := w.drew) rfl (fun _ => rfl) (below_drew w)
            (fun ρ' hle => grow_bs (z := z) (need := sl.toNat + n) (((hr.take _).mono hle).append (hl.mono hle)) (by simp) (by rw [List.length_append, hol, hnl, Nat.add_mul]) hzs (capge _ _)) (capge _ _) rfl (hsem _ _ hrun)
    · exact (runE_fail h).elim
  · -- a row that is written
    rename_i b len
    obtain ⟨r0, c0, e0, hlen0, hlc, hS0, hS1⟩ := hS
    obtain ⟨blk, hg, _, h0⟩ := runE_get h
    clear h
    revert h0
    intro h
    split at h
    · rename_i sig code N e'
      cases hb : (Nat.beq e e' && Nat.beq i.size sig.length && len.same N && Nat.beq n 1) with
      | false => rw [hb] at h; exact (runE_fail h).elim
      | true =>
        rw [hb, cond_true] at h
        simp only [Bool.and_eq_true, beq_dec, decide_eq_true_eq] at hb
        obtain ⟨⟨⟨he, hm⟩, hN⟩, hn1⟩ := hb
        subst he
        have := E.same_eq hN
        subst this
        subst hn1
        split at h
        · rename_i es hes
          obtain ⟨hlim, cx1, hc1, h⟩ := need_ok h hc
          obtain ⟨hrg, cx2, hc2, h⟩ := need_ok h hc1
          have hrg := cellNeeds_ok hc1 hrg
          rw [mkCmp_ok hc] at hlim
          simp only [cmpI, decide_eq_true_eq, E.den] at hlim
          have hlim := of_decide_eq_true hlim
          obtain ⟨u, hu1, _, h⟩ := runE_set h
          have hh : ((s.touch b).put b .dead).h = s.h.set b .dead := by rw [St.put_h, St.touch_h]
          have hw : VecOK env sig code len := hs.wf _ _ hg
          obtain ⟨es1, us1, hcell⟩ := cellsE_ok hes hl
          rw [Nat.one_mul] at hll hnl
          obtain ⟨hw', hcode, hp⟩ := hw.snoc hs.rows (by rw [es1, hll, hm]) (fun j kd hj hjk => hrg j kd hj (by rw [Nat.zero_add]; exact hjk))
          have hw1 := hw
          obtain ⟨_, hw2, hw3, hw4⟩ := hw1
          have hnew : ∀ (j : Nat), j < sig.length → ∃ k, sig[j]? = some k ∧ news[j]? = some (cellW k ((denL env es).getD j 0)) := by
            intro j hj
            obtain ⟨k', p1, p2⟩ := hcell j (by omega)
            exact ⟨k', by rw [Nat.zero_add] at p1; exact p1, p2⟩
          rw [hp] at hlim
          have hsl : ((len.den env).toNat : Int) = len.den env := by omega
          have hl1 : (len.den env).toNat + 1 ≤ 140737488355328 / (i.bytes + 1) := by omega
          have hl2 : ((len.den env).toNat + 1) * (i.bytes + 1) ≤ 140737488355328 := (Nat.le_div_iff_mul_le (by omega)).1 hl1
          rw [Nat.mul_add, Nat.mul_one] at hl2
          have hb1 : ((len.den env).toNat + 1) * i.bytes ≤ 140737488355328 := by omega
          have hb2 : (len.den env).toNat + 1 ≤ 140737488355328 := by omega
          have hp' : (mkO2 .add len (.lit 1)).den env = (((len.den env).toNat + 1 : Nat) : Int) := by rw [hp]; omega
          have hs2 := hs.kill hg
          by_cases hcz : c0 = 0
          · -- it has no place yet
            subst hcz
            obtain ⟨A0, rfl⟩ := hS0 rfl
            have hd0 : len.den env = 0 := by omega
            have hd1 : (len.den env).toNat = 0 := by omega
            have hb3 : i.bytes ≤ 140737488355328 := by rw [hd1] at hb1; omega
            have hbs : ∀ G, 1 ≤ G → ∀ ρ', ρ.le ρ' → BS env ρ' (some (.cells (news.toArray ++ Builtin.zeroCells z.cells (G - 1)) e (0, 0))) G (.vec sig (.app 1001 (code :: es)) (mkO2 .add len (.lit 1)) e) := by
              intro G hG ρ' hle
              refine vec_bs (cs := []) (news := news) (xs := denL env es) hlen0 hw3 hp hcode (by simp [hd1]) (by omega) (by simp) (fun i j k h1 => by omega) hnew (by omega) ?_
              rw [Array.size_append, zeroCells_size, hzs, ← hm]
              simp only [List.size_toArray, hnl]
              have : G * i.size = (G - 1) * i.size + i.size := by
                rw [← Nat.succ_mul, show (G - 1).succ = G by omega]
              omega
            cases A0 with
            | none =>
              have hr := run_append_nil (P := P) w t type e i z hu hi hz A 1 c news (by rw [Nat.one_mul]; exact hnl) hcells (by omega) (by omega) (by omega)
              exact Goes.regrownV (n := 1) hc2 h (by rw [hh]; exact hs2) (W := w.drew) rfl (fun _ => rfl) (below_drew w) (hbs _ (capge 1 0)) hw' (by rw [hp']; simp [hd1]) (capge 1 0) (by omega) (hsem _ _ (by simpa [E.den] using hr))
            | some A1 =>
              have hr := run_append_grow (P := P) w t type e i z hu hi hz A1 0 0 [] (by simp) (by simp) A 1 c news (by rw [Nat.one_mul]; exact hnl) hcells (by omega) (by omega) (growslice_fits (by omega) (by omega))
              simp only [Nat.zero_add, Array.empty_append] at hr
              exact Goes.regrownV (n := 1) hc2 h (by rw [hh]; exact hs2) (W := w.drew) rfl (fun _ => rfl) (below_drew w) (hbs _ (capge 1 0)) hw' (by rw [hp']; simp [hd1]) (capge 1 0) (by omega) (hsem _ _ (by simpa [E.den] using hr))
          · rw [hS1 hcz] at hsem
            have hvoid : (Blk.vec sig code len e).void env c0 = false := by
              simp only [Blk.void, Bool.and_eq_false_imp, beq_iff_eq]
              omega
            obtain ⟨⟨cur, hob, hcap, hNo, hcs⟩, hown, _⟩ := hs.at' hg e0 hvoid
            have hcsz : (len.den env).toNat * i.size ≤ cur.size := by
              refine Nat.le_trans ?_ hcap
              rw [← hm]
              exact Nat.mul_le_mul_right _ (by omega)
            obtain ⟨cs, hcsd⟩ : ∃ cs, cs = cur.toList.take ((len.den env).toNat * i.size) := ⟨_, rfl⟩
            have hcl : cs.length = (len.den env).toNat * i.size := by rw [hcsd]; simp; omega
            have hold : ∀ (i j : Nat) (k : Option IntKind), (i : Int) < len.den env → sig[j]? = some k → cs[sig.length * i + j]? = some (cellW k (rowGet sig.length j (code.den env) i)) := by
              intro a j k ha hjk
              have hj : j < sig.length := (List.getElem?_eq_some_iff.1 hjk).1
              have := Nat.mul_le_mul_left sig.length (show a + 1 ≤ (len.den env).toNat by omega)
              rw [Nat.mul_add, Nat.mul_one, Nat.mul_comm sig.length (len.den env).toNat, ← hm] at this
              rw [hcsd, List.getElem?_take, if_pos (by rw [← hm]; omega), Array.getElem?_toList]
              exact hcs a j k ha hjk
            by_cases hroom : (len.den env).toNat + 1 ≤ c0
            · -- in its place
              obtain ⟨hn, h⟩ := runE_new h
              rw [hh] at hn
              have hfit : (len.den env).toNat * i.size + news.length ≤ cur.size := by
                rw [hnl]
                have := Nat.mul_le_mul_right i.size hroom
                rw [Nat.add_mul, Nat.one_mul] at this
                rw [← hm] at hcap
                omega
              have hrun := run_append_room (P := P) w t type e i hu hi r0 (len.den env).toNat c0 cur hob A 1 c news (by rw [Nat.one_mul]; exact hnl) hcells hflat hroom hfit
              have hW := setRow_heap w r0 cur (cur.toList.take ((len.den env).toNat * i.size) ++ news ++ cur.toList.drop ((len.den env).toNat * i.size + news.length)).toArray e (0, 0) hob
              obtain ⟨hle, hρ, hs'⟩ := hs.regrowV (n := ((s.touch b).put b .dead).nx) (w' := w.setRow r0 (cur.toList.take ((len.den env).toNat * i.size) ++ news ++ cur.toList.drop ((len.den env).toNat * i.size + news.length)).toArray)
                (v := .vec sig (.app 1001 (code :: es)) (mkO2 .add len (.lit 1)) e) hg rfl hvoid rfl e0 hn
                (by simp [World.setRow]) (fun k hk => setRow_other w r0 k _ hk) (fun ρ' hle => by
                  rw [hW]
                  refine vec_bs (cs := cs) (news := news) (xs := denL env es) hlen0 hw3 hp hcode (by rw [hcl, hm]) (by omega) ?_ hold hnew hroom ?_
                  · simp only
                    rw [← hcsd]
                    rw [← List.length_append]
                    exact List.take_left
                  · simp only [List.size_toArray, List.length_append, List.length_take, List.length_drop, Array.length_toList]
                    omega) hw'
              refine ⟨_, cx2, _, _, .slice (some ⟨r0, 0, none⟩) ((len.den env).toNat + 1) c0, _, h, hc2, hle, ?_, by simp only [St.add, hh]; exact hs', ?_, .inl (hsem _ _ hrun)⟩
              · exact ⟨_, c0, hρ, by omega, by omega, fun hz' => absurd hz' hcz, fun _ => by rw [hp']; rfl⟩
              · exact ⟨rfl, rfl, rfl, by simp [World.setRow], fun k hk => setRow_other w r0 k _ (by have := hown rfl; omega)⟩
            · -- anew
              have holds : ∀ j v, cs[j]? = some v → w.cell? ((⟨r0, 0, none⟩ : Addr).add j) = some v := by
                intro j v hj
                rw [Addr.add', World.cell?, hob]
                simp only [Option.isSome_none, Bool.false_eq_true, if_false, Nat.zero_add]
                rw [hcsd, List.getElem?_take] at hj
                split at hj
                · rw [← Array.getElem?_toList]; exact hj
                · cases hj
              have hrun := run_append_grow (P := P) w t type e i z hu hi hz ⟨r0, 0, none⟩ (len.den env).toNat c0 cs hcl holds A 1 c news (by rw [Nat.one_mul]; exact hnl) hcells (by omega) (by omega) (growslice_fits (by omega) hb1)
              refine Goes.regrownV (n := (len.den env).toNat + 1) hc2 h (by rw [hh]; exact hs2) (W := w.drew) rfl (fun _ => rfl) (below_drew w) (G := grownCap w ((len.den env).toNat + 1) c0 e) (fun ρ' hle => ?_) hw' hp' (capge _ _) (by omega) (hsem _ _ hrun)
              refine vec_bs (cs := cs) (news := news) (xs := denL env es) hlen0 hw3 hp hcode (by rw [hcl, hm]) (by omega) ?_ hold hnew (capge _ _) ?_
              · rw [Array.toList_append, Array.toList_append, ← List.length_append]
                exact List.take_left
              · have := capge ((len.den env).toNat + 1) c0
                rw [Array.size_append, zeroCells_size, hzs, ← hm]
                rw [show (cs.toArray ++ news.toArray).size = (len.den env).toNat * i.size + i.size by simp; omega]
                have h3 : grownCap w ((len.den env).toNat + 1) c0 e * i.size = (grownCap w ((len.den env).toNat + 1) c0 e - ((len.den env).toNat + 1)) * i.size + ((len.den env).toNat + 1) * i.size := by
                  rw [← Nat.add_mul]
                  congr 1
                  omega
                rw [Nat.add_mul ((len.den env).toNat), Nat.one_mul] at h3
                omega
        · exact (runE_fail h).elim
    · exact (runE_fail h).elim
  · exact (runE_fail h).elim

theorem run_append_zero {t e ty : TypeId} {i : TypeInfo} (hu : P.underlying t = some (.slice e)) (hi : P.info? e = some i) (A A' : Option Addr) (n c c' : Nat) (hn : n ≤ c) (w : World) :
    (Builtin.append_ #[t, t] ty #[.slice A n c, .slice A' 0 c']).run P w = .ok (.slice A n c) w := by
  cases A <;> cases A' <;> simp [Builtin.append_, run_underlying hu, sizeOf, typeInfo, hi, Builtin.lenOf, Builtin.firstCells, hn, storeCells, loadCells, loadCellsFrom]

theorem appZ_ok (hc : cx.ok env) (hs : HS env ρ B s.h w) {t e : TypeId} {i : TypeInfo} (hu : P.underlying t = some (.slice e)) (hi : P.info? e = some i) {S X : Value} {sv : SV} (hS : Rep env ρ sv S) (hX : ∃ A c, X = .slice A 0 c)
    {sem : Sem Next} (hsem : ∀ V w', (Builtin.append_ #[t, t] type #[S, X]).run P w = .ok V w' → sem.run P w = .ok (.value V) w')
    (h : runE env (appZ sv cx k) s = some r) : Goes P env B r k ρ w sem := by
  obtain ⟨A', c', rfl⟩ := hX
  unfold appZ at h
  split at h
  · rename_i a n
    obtain ⟨A, c, hA, hcap, h0, rfl⟩ := hS
    exact Goes.val h hc ⟨A, c, hA, hcap, h0, rfl⟩ hs (hsem _ _ (run_append_zero hu hi _ _ _ _ _ hcap.1 w))
  · rename_i a n cc
    split at h
    · rename_i hcond
      obtain ⟨A, c, hA, hcap, h0, rfl⟩ := hS
      have hcap' : c = ((E.lit cc).den env).toNat := hcap
      refine Goes.val h hc ⟨A, c, hA, hcap, h0, rfl⟩ hs (hsem _ _ (run_append_zero hu hi _ _ _ _ _ ?_ w))
      rw [hcap']
      simp only [E.den]
      omega
    · exact (runE_fail h).elim
  · rename_i b len
    obtain ⟨r0, c0, e0, h1, h2, h3, h4⟩ := hS
    by_cases hz : c0 = 0
    · obtain ⟨A, rfl⟩ := h3 hz
      exact Goes.val h hc ⟨r0, c0, e0, h1, h2, h3, h4⟩ hs (hsem _ _ (run_append_zero hu hi _ _ _ _ _ (Nat.le_refl _) w))
    · have hv := h4 hz
      subst hv
      exact Goes.val h hc ⟨r0, c0, e0, h1, h2, h3, h4⟩ hs (hsem _ _ (run_append_zero hu hi _ _ _ _ _ (by omega) w))
  · exact (runE_fail h).elim

theorem litE_ok (hc : cx.ok env) (e : E) : (litE cx e).den env = e.den env := by
  unfold litE
  split
  · rfl
  · split
    · rename_i a b hb
      split
      · rename_i hab
        have := bnd_ok hc _ _ hb
        simp only [E.den] at this ⊢
        omega
      · rfl
    · rfl
theorem appT_ok (hc : cx.ok env) (hs : HS env ρ B s.h w) {t : TypeId} {S X : Value} {sv xv : SV} (hS : Rep env ρ sv S) (hX : Rep env ρ xv X)
    {sem : Sem Next} (hsem : ∀ V w', (Builtin.append_ #[t, t] type #[S, X]).run P w = .ok V w' → sem.run P w = .ok (.value V) w')
    (h : runE env (appT P cx t sv xv k) s = some r) : Goes P env B r k ρ w sem := by
  unfold appT at h
  split at h
  · rename_i e hu
    split at h
    · rename_i i z hi hz
      obtain ⟨it, v, hit, hiz, hzl⟩ := zeroL_ok hz
      rw [hi] at hit
      cases hit
      have hZ : RepL env ρ z v.cells.toList := ofL_ok hzl
      simp only [beq_dec] at h
      by_cases hsz : z.length = i.size
      · simp only [hsz, decide_true, cond_true] at h
        have hzs : v.cells.size = i.size := by have := hZ.length; simpa [hsz] using this
        split at h
        · rename_i a n cap
          obtain ⟨A0, c, ⟨A, hA, rfl⟩, _, hn0, rfl⟩ := hX
          obtain ⟨l, cs, cx', s', h, hc', hh, hr, hl, hcs⟩ := loadN_ok h hc hs hA
          cases hf : l.all SV.flat with
          | false => rw [hf] at h; exact (runE_fail h).elim
          | true =>
            rw [hf, cond_true] at h
            exact appN_ok hc' (by rw [hh]; exact hs) hu hi hiz hzs hS hr hl (hr.flat hf) hcs (by simpa [E.den] using hsem) h
        · obtain ⟨A0, c, hA, hcap, _, rfl⟩ := hX
          exact appZ_ok hc hs hu hi hS ⟨A0, c, rfl⟩ hsem h
        · obtain ⟨r0, o0, e0, _, hx⟩ := hX
          refine appZ_ok hc hs hu hi hS ?_ hsem h
          rcases hx with ⟨_, A, c, rfl⟩ | ⟨c, _, rfl⟩
          · exact ⟨A, c, rfl⟩
          · exact ⟨_, c, rfl⟩
        · rename_i b len _
          obtain ⟨r0, o0, e0, hl0, hx⟩ := hX
          split at h
          · rename_i n hn
            split at h
            · rename_i hpos
              have hlen : len.den env = n := by rw [← litE_ok hc len, hn]; rfl
              rcases hx with ⟨hz, _⟩ | ⟨c, hcle, rfl⟩
              · omega
              · have hA : RepA env ρ (.c b 0) ⟨r0, o0, none⟩ := ⟨r0, o0, e0, by simp⟩
                obtain ⟨l, cs, cx', s', h, hc', hh, hr, hl, hcs⟩ := loadN_ok h hc hs hA
                cases hf : l.all SV.flat with
                | false => rw [hf] at h; exact (runE_fail h).elim
                | true =>
                  rw [hf, cond_true] at h
                  exact appN_ok hc' (by rw [hh]; exact hs) hu hi hiz hzs hS hr hl (hr.flat hf) hcs (by simpa [hlen] using hsem) h
            · exact (runE_fail h).elim
          · exact (runE_fail h).elim
        · exact (runE_fail h).elim
      · simp only [hsz, decide_false, cond_false] at h
        exact (runE_fail h).elim
    · exact (runE_fail h).elim
  · exact (runE_fail h).elim

theorem aop_builtin (hc : cx.ok env) (hs : HS env ρ B s.h w) {c : Call}
    (hev : EvOK env ρ tm ev (Op.call c).operands.toList)
    (h : runE env (aop P tm cx ⟨dst, .call c, type, pos, after, guard⟩ k) s = some r) : Goes P env B r k ρ w (execOp ev ⟨dst, .call c, type, pos, after, guard⟩) := by
  simp only [aop, evT, aPick, aAlloc, aBox, aBuild, aBuildSlice, aLoad, aStore, aNilCheck, aBinOp, aUnOp, aConvert, aMakeInterface, aMakeFunc, aMakeSlice, aFieldAddr, aField, aIndexAddr, aIndex, aSlice, aSlice2, aSliceToArrayPointer, aExtract, aCall] at h
  have hargs : ∀ x, x ∈ c.args.toList → ∀ s, evalO tm x = some s → Rep env ρ s (ev x) := fun x hx s hs' => hev x (by simp [Op.operands, Call.operands] at hx ⊢; exact .inr hx) s hs'
  split at h
  · -- len
    rename_i hcal
    split at h
    · rename_i x t hx ht
      obtain ⟨v, hv, h⟩ := ev_ok h
      have hX := hargs x (by rw [hx]; simp) _ hv
      have hxa : c.args = #[x] := by rw [← Array.toArray_toList (xs := c.args), hx]
      have key : ∀ V w', (Builtin.len_ c.argTypes type #[ev x]).run P w = .ok V w' → (execOp ev ⟨dst, .call c, type, pos, after, guard⟩).run P w = .ok (.value V) w' := by
        intro V w' hV
        simp [execOp, Go.resolve, hcal, invoke, builtin, hxa, hV]
      split at h
      · rename_i e a len cap hu
        obtain ⟨A, cc, hA, _, hlen0, hXe⟩ := hX
        refine Goes.val h hc (V := .int .i64 (len.den env)) rfl hs (key _ _ ?_)
        have h5 : ((len.den env).toNat : Int) = len.den env := by omega
        simp [Builtin.len_, ht, run_underlying hu, hXe, goInt, h5]
      · rename_i e b len hu
        obtain ⟨r', o', _, hlen0, hX⟩ := hX
        refine Goes.val h hc (V := .int .i64 (len.den env)) (by simp only [Rep, litE_ok hc]) hs (key _ _ ?_)
        have h5 : ((len.den env).toNat : Int) = len.den env := by omega
        rcases hX with ⟨hz, A, cc, hXe⟩ | ⟨cc, _, hXe⟩
        · simp [Builtin.len_, ht, run_underlying hu, hXe, goInt, hz]
        · simp [Builtin.len_, ht, run_underlying hu, hXe, goInt, h5]
      · rename_i e b len hu
        obtain ⟨r', c', _, hlen0, hlc, hX0, hX1⟩ := hX
        refine Goes.val h hc (V := .int .i64 (len.den env)) rfl hs (key _ _ ?_)
        have h5 : ((len.den env).toNat : Int) = len.den env := by omega
        by_cases hz : c' = 0
        · obtain ⟨A, hXe⟩ := hX0 hz
          have h6 : len.den env = 0 := by omega
          simp [Builtin.len_, ht, run_underlying hu, hXe, goInt, h6]
        · have hXe := hX1 hz
          simp [Builtin.len_, ht, run_underlying hu, hXe, goInt, h5]
      · rename_i str hu
        have hX' : ev x = .string str := hX
        refine Goes.val h hc (V := .int .i64 str.size) rfl hs (key _ _ ?_)
        simp [Builtin.len_, ht, run_underlying hu, hX', goInt]
      · rename_i v n e hu
        refine Goes.val h hc (V := .int .i64 n) rfl hs (key _ _ ?_)
        simp [Builtin.len_, ht, run_underlying hu, goInt]
      · rename_i a b hu
        have hX' : ev x = .map none := hX
        refine Goes.val h hc (V := .int .i64 0) rfl hs (key _ _ ?_)
        simp [Builtin.len_, ht, run_underlying hu, hX', goInt]
      · exact (runE_fail h).elim
    · exact (runE_fail h).elim
  · -- cap
    rename_i hcal
    split at h
    · rename_i x t hx ht
      obtain ⟨v, hv, h⟩ := ev_ok h
      have hX := hargs x (by rw [hx]; simp) _ hv
      have hxa : c.args = #[x] := by rw [← Array.toArray_toList (xs := c.args), hx]
      split at h
      · rename_i e a len ce hu
        obtain ⟨A, cc, hA, hcc, hlen0, hXe⟩ := hX
        obtain ⟨h1, cx1, hc1, h⟩ := need_ok h hc
        rw [mkCmp_ok hc] at h1
        simp only [cmpI, decide_eq_true_eq, E.den, ge_iff_le] at h1
        have hcc' : cc = (ce.den env).toNat := hcc
        refine Goes.val h hc1 (V := .int .i64 (ce.den env)) rfl hs ?_
        have h5 : ((ce.den env).toNat : Int) = ce.den env := by omega
        simp [execOp, Go.resolve, hcal, invoke, builtin, hxa, Builtin.cap_, ht, run_underlying hu, hXe, goInt, hcc', h5]
      · exact (runE_fail h).elim
    · exact (runE_fail h).elim
  · -- append
    rename_i hcal
    split at h
    · rename_i x y t u hx ht
      have hxa : c.args = #[x, y] := by rw [← Array.toArray_toList (xs := c.args), hx]
      have hta : c.argTypes = #[t, u] := by rw [← Array.toArray_toList (xs := c.argTypes), ht]
      simp only [beq_dec] at h
      by_cases htu : t = u
      · subst htu
        simp only [decide_true, cond_true] at h
        obtain ⟨v, hv, h⟩ := ev_ok h
        obtain ⟨v2, hv2, h⟩ := ev_ok h
        have hX := hargs x (by rw [hx]; simp) _ hv
        have hY := hargs y (by rw [hx]; simp) _ hv2
        refine appT_ok (type := type) hc hs hX hY (fun V w' hV => ?_) h
        simp [execOp, Go.resolve, hcal, invoke, builtin, hxa, hta, hV]
      · simp only [htu, decide_false, cond_false] at h
        exact (runE_fail h).elim
    · exact (runE_fail h).elim
  · -- max
    rename_i hcal
    split at h
    · rename_i l hl
      have hL := evalL_ok (env := env) (ρ := ρ) (ev := ev) hargs hl
      split at h
      · rename_i kd e hm
        cases l with
        | nil => simp [mmS] at hm
        | cons x l =>
          obtain ⟨X, vs, hX, hvs, hXe⟩ := hL
          obtain ⟨Y, hY, hrun⟩ := mmS_ok (P := P) hc (.inl rfl) w l vs x X _ hvs hX hm ⟨_, _, rfl⟩
          refine Goes.val h hc hY hs ?_
          have hr2 : (List.foldlM Builtin.max2 X vs).run P w = .ok Y w := hrun
          simp [execOp, Go.resolve, hcal, invoke, builtin, Builtin.max_, hXe, hr2]
      · exact (runE_fail h).elim
    · exact (runE_fail h).elim
  · -- min
    rename_i hcal
    split at h
    · rename_i l hl
      have hL := evalL_ok (env := env) (ρ := ρ) (ev := ev) hargs hl
      split at h
      · rename_i kd e hm
        cases l with
        | nil => simp [mmS] at hm
        | cons x l =>
          obtain ⟨X, vs, hX, hvs, hXe⟩ := hL
          obtain ⟨Y, hY, hrun⟩ := mmS_ok (P := P) hc (.inr rfl) w l vs x X _ hvs hX hm ⟨_, _, rfl⟩
          refine Goes.val h hc hY hs ?_
          have hr2 : (List.foldlM Builtin.min2 X vs).run P w = .ok Y w := hrun
          simp [execOp, Go.resolve, hcal, invoke, builtin, Builtin.min_, hXe, hr2]
      · exact (runE_fail h).elim
    · exact (runE_fail h).elim
  · exact (runE_fail h).elim

theorem aop_toArray (hc : cx.ok env) (hs : HS env ρ B s.h w) {t : TypeId} {x : Operand} (hev : EvOK env ρ tm ev (Op.sliceToArrayPointer t x).operands.toList)
    (h : runE env (aop P tm cx ⟨dst, .sliceToArrayPointer t x, type, pos, after, guard⟩ k) s = some r) : Goes P env B r k ρ w (execOp ev ⟨dst, .sliceToArrayPointer t x, type, pos, after, guard⟩) := by
  simp only [aop, evT, aPick, aAlloc, aBox, aBuild, aBuildSlice, aLoad, aStore, aNilCheck, aBinOp, aUnOp, aConvert, aMakeInterface, aMakeFunc, aMakeSlice, aFieldAddr, aField, aIndexAddr, aIndex, aSlice, aSlice2, aSliceToArrayPointer, aExtract, aCall] at h
  obtain ⟨v, hv, h⟩ := ev_ok h
  have hX := hev x (by simp [Op.operands]) _ hv
  split at h
  · rename_i n e b len hu
    simp only [beq_dec] at h
    by_cases hn : n = 0
    · simp only [hn, decide_true, cond_true] at h
      exact (runE_fail h).elim
    simp only [hn, decide_false, cond_false] at h
    obtain ⟨h1, cx1, hc1, h⟩ := need_ok h hc
    rw [mkCmp_ok hc] at h1
    simp only [cmpI, decide_eq_true_eq, E.den] at h1
    have h1' := of_decide_eq_true h1
    obtain ⟨r', o', hρ, hlen0, ⟨hz, _⟩ | ⟨c, hcap, hXe⟩⟩ := hX
    · omega
    refine Goes.val h hc1 (V := .pointer (some ⟨r', o', none⟩)) ⟨_, ⟨⟨r', o', none⟩, ⟨r', o', hρ, rfl⟩, rfl⟩, rfl⟩ hs (run_v ?_)
    have h3 : ¬ ((len.den env).toNat < n) := by omega
    simp [Instr.arrayAt, hXe, run_underlying hu, h3]
  · rename_i n e a len cap hu
    obtain ⟨h1, cx1, hc1, h⟩ := need_ok h hc
    rw [mkCmp_ok hc] at h1
    simp only [cmpI, decide_eq_true_eq, E.den] at h1
    have h1' := of_decide_eq_true h1
    obtain ⟨A, c, hA, _, hlen0, hXe⟩ := hX
    obtain ⟨A0, hA0, rfl⟩ := hA
    refine Goes.val h hc1 (V := .pointer (some A0)) ⟨_, ⟨A0, hA0, rfl⟩, rfl⟩ hs (run_v ?_)
    have h3 : ¬ ((len.den env).toNat < n) := by omega
    simp [Instr.arrayAt, hXe, run_underlying hu, h3]
  · exact (runE_fail h).elim

/-- every operation of 'aop' -/
theorem aop_ok (hc : cx.ok env) (hs : HS env ρ B s.h w) {o : Oper} (hev : EvOK env ρ tm ev o.op.operands.toList)
    (h : runE env (aop P tm cx o k) s = some r) : Goes P env B r k ρ w (execOp ev o) := by
  obtain ⟨dst, op, type, pos, after, guard⟩ := o
  cases op
  case move x => exact aop_plain hc hs (.inl ⟨_, rfl⟩) hev h
  case assign x => exact aop_plain hc hs (.inr (.inl ⟨_, rfl⟩)) hev h
  case pick c a b => exact aop_plain hc hs (.inr (.inr (.inl ⟨_, _, _, rfl⟩))) hev h
  case nilCheck x => exact aop_plain hc hs (.inr (.inr (.inr (.inl ⟨_, rfl⟩)))) hev h
  case binOp o t x y u => exact aop_plain hc hs (.inr (.inr (.inr (.inr (.inl ⟨_, _, _, _, _, rfl⟩))))) hev h
  case unOp o t x => exact aop_plain hc hs (.inr (.inr (.inr (.inr (.inr (.inl ⟨_, _, _, rfl⟩)))))) hev h
  case convert a b x => exact aop_plain hc hs (.inr (.inr (.inr (.inr (.inr (.inr (.inl ⟨_, _, _, rfl⟩))))))) hev h
  case makeInterface t x => exact aop_plain hc hs (.inr (.inr (.inr (.inr (.inr (.inr (.inr (.inl ⟨_, _, rfl⟩)))))))) hev h
  case extract t i => exact aop_plain hc hs (.inr (.inr (.inr (.inr (.inr (.inr (.inr (.inr (.inr ⟨_, _, rfl⟩))))))))) hev h
  case load t a => exact aop_mem hc hs (.inl ⟨_, _, rfl⟩) hev h
  case store t a x => exact aop_mem hc hs (.inr (.inl ⟨_, _, _, rfl⟩)) hev h
  case alloc t => exact aop_mem hc hs (.inr (.inr (.inl ⟨_, rfl⟩))) hev h
  case box t x => exact aop_mem hc hs (.inr (.inr (.inr ⟨_, _, rfl⟩))) hev h
  case build t ps => exact aop_build hc hs hev h
  case buildSlice t n ps => exact aop_buildSlice hc hs hev h
  case makeSlice t l c => exact aop_make hc hs hev h
  case fieldAddr t x f => exact aop_field hc hs (.inl ⟨_, _, _, rfl⟩) hev h
  case field t x f => exact aop_field hc hs (.inr ⟨_, _, _, rfl⟩) hev h
  case indexAddr t x i => exact aop_index hc hs (.inl ⟨_, _, _, rfl⟩) hev h
  case index t x i => exact aop_index hc hs (.inr ⟨_, _, _, rfl⟩) hev h
  case sliceToArrayPointer t x => exact aop_toArray hc hs hev h
  case call c => exact aop_builtin hc hs hev h
  case makeFunc fn a b =>
    cases fn
    case func f => exact aop_plain hc hs (.inr (.inr (.inr (.inr (.inr (.inr (.inr (.inr (.inl ⟨_, _, _, rfl⟩))))))))) hev h
    all_goals (simp only [aop, evT, aPick, aAlloc, aBox, aBuild, aBuildSlice, aLoad, aStore, aNilCheck, aBinOp, aUnOp, aConvert, aMakeInterface, aMakeFunc, aMakeSlice, aFieldAddr, aField, aIndexAddr, aIndex, aSlice, aSlice2, aSliceToArrayPointer, aExtract, aCall] at h; exact (runE_fail h).elim)
  case slice t x lo hi mx =>
    cases mx with
    | none => exact aop_slice hc hs hev h
    | some m =>
      by_cases hq : ∃ kd kd', lo = none ∧ hi = some (.const (.int kd 0)) ∧ m = .const (.int kd' 0)
      · obtain ⟨kd, kd', rfl, rfl, rfl⟩ := hq
        exact aop_slice000 hc hs hev h
      · simp only [aop, evT, aPick, aAlloc, aBox, aBuild, aBuildSlice, aLoad, aStore, aNilCheck, aBinOp, aUnOp, aConvert, aMakeInterface, aMakeFunc, aMakeSlice, aFieldAddr, aField, aIndexAddr, aIndex, aSlice, aSlice2, aSliceToArrayPointer, aExtract, aCall] at h
        split at h <;> first
          | (rename_i heq; cases heq; done)
          | (rename_i heq; simp only [Op.slice.injEq, reduceCtorEq, and_false] at heq; done)
          | exact (runE_fail h).elim
          | (rename_i heq; simp only [Op.slice.injEq, Option.some.injEq] at heq; exact absurd ⟨_, _, heq.2.2.1, heq.2.2.2.1, heq.2.2.2.2⟩ hq)
  all_goals (simp only [aop, evT, aPick, aAlloc, aBox, aBuild, aBuildSlice, aLoad, aStore, aNilCheck, aBinOp, aUnOp, aConvert, aMakeInterface, aMakeFunc, aMakeSlice, aFieldAddr, aField, aIndexAddr, aIndex, aSlice, aSlice2, aSliceToArrayPointer, aExtract, aCall] at h; exact (runE_fail h).elim)
end

end Go.SX
