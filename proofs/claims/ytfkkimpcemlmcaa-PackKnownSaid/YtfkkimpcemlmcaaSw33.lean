/- Contracts of pairs: what a function's tree comes to is a function of its arguments; another tree that is seen to agree has the same contract.
Contracts of functions that get rows: slices that are read, beside numbers. -/
import Derived.Test.YtfkkimpcemlmcaaSw39
namespace Go.SX
open Go Go.RowKit
set_option linter.unusedVariables false
set_option linter.unusedSimpArgs false
set_option linter.unusedSectionVars false

/-! ### the numbers of a value -/

mutual
def SV.nums : SV → List E
  | .int _ e => [e]
  | .bool b => [b.toE]
  | .agg l => SV.numsL l
  | .tuple l => SV.numsL l
  | _ => []
def SV.numsL : List SV → List E
  | [] => []
  | v :: l => v.nums ++ SV.numsL l
end

mutual
/-- the same value with other numbers -/
def SV.fill : SV → List E → SV
  | .int k _, es => .int k (es.headD (.lit 0))
  | .bool _, es => .bool (.tst (es.headD (.lit 0)))
  | .agg l, es => .agg (SV.fillL l es)
  | .tuple l, es => .tuple (SV.fillL l es)
  | v, _ => v
def SV.fillL : List SV → List E → List SV
  | [], _ => []
  | v :: l, es => v.fill es :: SV.fillL l (es.drop v.nums.length)
end

mutual
/-- values of the same form, of integers and bools -/
def SV.form : SV → SV → Bool
  | .int k _, .int k' _ => decide (k = k')
  | .bool _, .bool _ => true
  | .agg l, .agg l' => SV.formL l l'
  | .tuple l, .tuple l' => SV.formL l l'
  | _, _ => false
def SV.formL : List SV → List SV → Bool
  | [], [] => true
  | v :: l, v' :: l' => v.form v' && SV.formL l l'
  | _, _ => false
end

mutual
theorem SV.form_len : ∀ {u v : SV}, u.form v = true → u.nums.length = v.nums.length
  | .int _ _, .int _ _, _ => rfl
  | .bool _, .bool _, _ => rfl
  | .agg l, .agg l', h => by simpa [SV.nums] using SV.formL_len (by simpa [SV.form] using h)
  | .tuple l, .tuple l', h => by simpa [SV.nums] using SV.formL_len (by simpa [SV.form] using h)
  | .int .., .bool _, h | .int .., .ptr _, h | .int .., .slice .., h | .int .., .func .., h | .int .., .nilFunc, h | .int .., .nilIface, h | .int .., .iface .., h | .int .., .str _, h | .int .., .nilMap, h | .int .., .agg _, h | .int .., .tuple _, h | .int .., .any, h | .int .., .vsl .., h | .int .., .vg .., h => by simp [SV.form] at h
  | .bool _, .int .., h | .bool _, .ptr _, h | .bool _, .slice .., h | .bool _, .func .., h | .bool _, .nilFunc, h | .bool _, .nilIface, h | .bool _, .iface .., h | .bool _, .str _, h | .bool _, .nilMap, h | .bool _, .agg _, h | .bool _, .tuple _, h | .bool _, .any, h | .bool _, .vsl .., h | .bool _, .vg .., h => by simp [SV.form] at h
  | .agg _, .int .., h | .agg _, .bool _, h | .agg _, .ptr _, h | .agg _, .slice .., h | .agg _, .func .., h | .agg _, .nilFunc, h | .agg _, .nilIface, h | .agg _, .iface .., h | .agg _, .str _, h | .agg _, .nilMap, h | .agg _, .tuple _, h | .agg _, .any, h | .agg _, .vsl .., h | .agg _, .vg .., h => by simp [SV.form] at h
  | .tuple _, .int .., h | .tuple _, .bool _, h | .tuple _, .ptr _, h | .tuple _, .slice .., h | .tuple _, .func .., h | .tuple _, .nilFunc, h | .tuple _, .nilIface, h | .tuple _, .iface .., h | .tuple _, .str _, h | .tuple _, .nilMap, h | .tuple _, .agg _, h | .tuple _, .any, h | .tuple _, .vsl .., h | .tuple _, .vg .., h => by simp [SV.form] at h
  | .ptr _, _, h | .slice .., _, h | .func .., _, h | .nilFunc, _, h | .nilIface, _, h | .iface .., _, h | .str _, _, h | .nilMap, _, h | .any, _, h | .vsl .., _, h | .vg .., _, h => by simp [SV.form] at h
theorem SV.formL_len : ∀ {u v : List SV}, SV.formL u v = true → (SV.numsL u).length = (SV.numsL v).length
  | [], [], _ => rfl
  | u :: l, v :: l', h => by
      simp only [SV.formL, Bool.and_eq_true] at h
      simp only [SV.numsL, List.length_append, SV.form_len h.1, SV.formL_len h.2]
  | [], _ :: _, h => by simp [SV.formL] at h
  | _ :: _, [], h => by simp [SV.formL] at h
end

theorem toE_tst (env : Env) (b : BE) (e : E) (h : b.toE.den env = e.den env) : b.den env = (BE.tst e).den env := by
  rw [toE_ok] at h
  simp only [BE.den, ← h]
  cases b.den env <;> rfl

mutual
/-- a value whose numbers are those of the expressions stands for what they make of its form -/
theorem SV.eqv_fill {env : Env} : ∀ {u v : SV} {es : List E}, u.form v = true → (∀ j, j < u.nums.length → (u.nums.getD j (.lit 0)).den env = (es.getD j (.lit 0)).den env) → SV.eqv env u (v.fill es)
  | .int k e, .int k' e', es, h, g => by
      have hk : k = k' := by simpa [SV.form] using h
      refine ⟨hk, ?_⟩
      have := g 0 (by simp [SV.nums])
      simp only [SV.nums, List.getD_cons_zero] at this
      rw [this]
      cases es <;> rfl
  | .bool b, .bool b', es, h, g => by
      have := g 0 (by simp [SV.nums])
      simp only [SV.nums, List.getD_cons_zero] at this
      simp only [SV.fill, SV.eqv]
      refine toE_tst env b _ ?_
      rw [this]
      cases es <;> rfl
  | .agg l, .agg l', es, h, g => by
      simp only [SV.fill, SV.eqv]
      exact SV.eqvL_fill (by simpa [SV.form] using h) (by simpa only [SV.nums] using g)
  | .tuple l, .tuple l', es, h, g => by
      simp only [SV.fill, SV.eqv]
      exact SV.eqvL_fill (by simpa [SV.form] using h) (by simpa only [SV.nums] using g)
  | .int .., .bool _, _, h, _ | .int .., .ptr _, _, h, _ | .int .., .slice .., _, h, _ | .int .., .func .., _, h, _ | .int .., .nilFunc, _, h, _ | .int .., .nilIface, _, h, _ | .int .., .iface .., _, h, _ | .int .., .str _, _, h, _ | .int .., .nilMap, _, h, _ | .int .., .agg _, _, h, _ | .int .., .tuple _, _, h, _ | .int .., .any, _, h, _ | .int .., .vsl .., _, h, _ | .int .., .vg .., _, h, _ => by simp [SV.form] at h
  | .bool _, .int .., _, h, _ | .bool _, .ptr _, _, h, _ | .bool _, .slice .., _, h, _ | .bool _, .func .., _, h, _ | .bool _, .nilFunc, _, h, _ | .bool _, .nilIface, _, h, _ | .bool _, .iface .., _, h, _ | .bool _, .str _, _, h, _ | .bool _, .nilMap, _, h, _ | .bool _, .agg _, _, h, _ | .bool _, .tuple _, _, h, _ | .bool _, .any, _, h, _ | .bool _, .vsl .., _, h, _ | .bool _, .vg .., _, h, _ => by simp [SV.form] at h
  | .agg _, .int .., _, h, _ | .agg _, .bool _, _, h, _ | .agg _, .ptr _, _, h, _ | .agg _, .slice .., _, h, _ | .agg _, .func .., _, h, _ | .agg _, .nilFunc, _, h, _ | .agg _, .nilIface, _, h, _ | .agg _, .iface .., _, h, _ | .agg _, .str _, _, h, _ | .agg _, .nilMap, _, h, _ | .agg _, .tuple _, _, h, _ | .agg _, .any, _, h, _ | .agg _, .vsl .., _, h, _ | .agg _, .vg .., _, h, _ => by simp [SV.form] at h
  | .tuple _, .int .., _, h, _ | .tuple _, .bool _, _, h, _ | .tuple _, .ptr _, _, h, _ | .tuple _, .slice .., _, h, _ | .tuple _, .func .., _, h, _ | .tuple _, .nilFunc, _, h, _ | .tuple _, .nilIface, _, h, _ | .tuple _, .iface .., _, h, _ | .tuple _, .str _, _, h, _ | .tuple _, .nilMap, _, h, _ | .tuple _, .agg _, _, h, _ | .tuple _, .any, _, h, _ | .tuple _, .vsl .., _, h, _ | .tuple _, .vg .., _, h, _ => by simp [SV.form] at h
  | .ptr _, _, _, h, _ | .slice .., _, _, h, _ | .func .., _, _, h, _ | .nilFunc, _, _, h, _ | .nilIface, _, _, h, _ | .iface .., _, _, h, _ | .str _, _, _, h, _ | .nilMap, _, _, h, _ | .any, _, _, h, _ | .vsl .., _, _, h, _ | .vg .., _, _, h, _ => by simp [SV.form] at h
theorem SV.eqvL_fill {env : Env} : ∀ {u v : List SV} {es : List E}, SV.formL u v = true → (∀ j, j < (SV.numsL u).length → ((SV.numsL u).getD j (.lit 0)).den env = (es.getD j (.lit 0)).den env) → SV.eqvL env u (SV.fillL v es)
  | [], [], es, _, _ => by simp only [SV.fillL, SV.eqvL]
  | u :: l, v :: l', es, h, g => by
      simp only [SV.formL, Bool.and_eq_true] at h
      simp only [SV.fillL, SV.eqvL]
      refine ⟨SV.eqv_fill h.1 fun j hj => ?_, SV.eqvL_fill h.2 fun j hj => ?_⟩
      · have := g j (by simp only [SV.numsL, List.length_append]; omega)
        rw [← this]
        simp only [SV.numsL, List.getD_eq_getElem?_getD, List.getElem?_append_left hj]
      · have := g (u.nums.length + j) (by simp only [SV.numsL, List.length_append]; omega)
        rw [SV.numsL] at this
        simp only [List.getD_eq_getElem?_getD] at this ⊢
        rw [List.getElem?_append_right (by omega), Nat.add_sub_cancel_left] at this
        rw [this, List.getElem?_drop, SV.form_len h.1]
  | [], _ :: _, _, h, _ => by simp [SV.formL] at h
  | _ :: _, [], _, h, _ => by simp [SV.formL] at h
end

/-! ### what a tree comes to -/

def VT.at (env : Env) : VT → SV
  | .leaf v => v
  | .ite c t e => bif c.den env then t.at env else e.at env
  | .need _ t => t.at env
  | .fail => .any
/-- no test that must hold; every leaf of the form -/
def VT.clean (s : SV) : VT → Bool
  | .leaf v => v.form s
  | .ite _ t e => t.clean s && e.clean s
  | _ => false
theorem VT.holds_at {env : Env} {s : SV} {Q : SV → Prop} : ∀ {t : VT}, t.clean s = true → Q (t.at env) → t.holds env Q
  | .leaf v, _, h => h
  | .ite c t e, hc, h => by
      simp only [VT.clean, Bool.and_eq_true] at hc
      simp only [VT.holds]
      refine ⟨fun hv => VT.holds_at hc.1 ?_, fun hv => VT.holds_at hc.2 ?_⟩ <;> simpa [VT.at, hv] using h
  | .need _ _, hc, _ => by simp [VT.clean] at hc
  | .fail, hc, _ => by simp [VT.clean] at hc
theorem VT.at_form {env : Env} {s : SV} : ∀ {t : VT}, t.clean s = true → (t.at env).form s = true
  | .leaf v, h => h
  | .ite c t e, h => by
      simp only [VT.clean, Bool.and_eq_true] at h
      simp only [VT.at]
      cases c.den env
      · exact VT.at_form h.2
      · exact VT.at_form h.1
  | .need _ _, hc => by simp [VT.clean] at hc
  | .fail, hc => by simp [VT.clean] at hc

/-- number j of what a tree comes to -/
noncomputable def VT.fnJ (t : VT) (fn : Nat → List Int → Int) (j : Nat) (a : List Int) : Int :=
  ((t.at (envOf a fn)).nums.getD j (.lit 0)).den (envOf a fn)
/-- the functions from K on give a tree's numbers -/
def TreeIs (fn : Nat → List Int → Int) (K n : Nat) (t : VT) : Prop := ∀ j a, j < n → fn (K + j) a = t.fnJ fn j a

def appE (K m : Nat) : List E := (List.range m).map fun j => .app K ((List.range 0).map E.var)
def varsE0 (n : Nat) : List E := (List.range n).map E.var
def appsE (K m n : Nat) : List E := (List.range m).map fun j => .app (K + j) (varsE0 n)
theorem denL_vars0 (xs : List Int) (fn : Nat → List Int → Int) : ∀ n, n = xs.length → denL (envOf xs fn) (varsE0 n) = xs := by
  intro n hn
  subst hn
  have key : ∀ (l : List Nat), denL (envOf xs fn) (l.map E.var) = l.map fun i => xs.getD i 0 := by
    intro l
    induction l with
    | nil => rfl
    | cons a l ih => simp only [List.map_cons, denL, ih]; rfl
  unfold varsE0
  rw [key]
  apply List.ext_getElem
  · simp
  · intro i h1 h2
    simp [List.getD_eq_getElem?_getD, List.getElem?_eq_getElem h2]
theorem appsE_getD (K m n j : Nat) (h : j < m) : (appsE K m n).getD j (.lit 0) = .app (K + j) (varsE0 n) := by
  simp [appsE, List.getD_eq_getElem?_getD, h]

/-! ### two trees that agree -/

/-- two expressions that are seen to be equal -/
def sameU (cx : Ctx) (a b : E) : Bool := a.same b || (resolveL cx (mkCmp cx .eql a b) == some true || resolveD cx (mkCmp cx .eql a b) == some true)
def sameArgs (cx : Ctx) : List E → List E → Bool
  | [], [] => true
  | a :: l, b :: l' => sameU cx a b && sameArgs cx l l'
  | _, _ => false
def sameApp (cx : Ctx) : E → E → Bool
  | .app f l, .app g l' => Nat.beq f g && sameArgs cx l l'
  | _, _ => false
theorem sameU_ok {env : Env} {cx : Ctx} (hc : cx.ok env) {a b : E} (h : sameU cx a b = true) : a.den env = b.den env := by
  simp only [sameU, Bool.or_eq_true, beq_iff_eq] at h
  rcases h with h1 | h1 | h1
  · rw [E.same_eq h1]
  · have := resolveL_ok hc h1
    rw [mkCmp_ok hc] at this
    simpa [cmpI] using this
  · have := resolveD_ok hc h1
    rw [mkCmp_ok hc] at this
    simpa [cmpI] using this
theorem sameArgs_ok {env : Env} {cx : Ctx} (hc : cx.ok env) : ∀ {l l' : List E}, sameArgs cx l l' = true → denL env l = denL env l'
  | [], [], _ => rfl
  | a :: l, b :: l', h => by
      simp only [sameArgs, Bool.and_eq_true] at h
      simp only [denL, sameU_ok hc h.1, sameArgs_ok hc h.2]
  | [], _ :: _, h => by simp [sameArgs] at h
  | _ :: _, [], h => by simp [sameArgs] at h
theorem sameApp_ok {env : Env} {cx : Ctx} (hc : cx.ok env) {a b : E} (h : sameApp cx a b = true) : a.den env = b.den env := by
  unfold sameApp at h
  split at h
  · simp only [Bool.and_eq_true, beq_dec, decide_eq_true_eq] at h
    simp only [E.den, h.1, sameArgs_ok hc h.2]
  · cases h
/-- the numbers of two leaves are the same, as far as it is seen -/
def numsSame (cx : Ctx) : List E → List E → Bool
  | [], [] => true
  | a :: l, b :: l' => (sameU cx a b || (sameApp cx a b || sameS cx a b)) && numsSame cx l l'
  | _, _ => false
theorem numsSame_ok {env : Env} {cx : Ctx} (hc : cx.ok env) : ∀ {l l' : List E}, numsSame cx l l' = true → l.length = l'.length ∧ ∀ j, (l.getD j (.lit 0)).den env = (l'.getD j (.lit 0)).den env
  | [], [], _ => ⟨rfl, fun j => rfl⟩
  | a :: l, b :: l', h => by
      simp only [numsSame, Bool.and_eq_true, Bool.or_eq_true] at h
      obtain ⟨e1, e2⟩ := numsSame_ok hc h.2
      refine ⟨by simp [e1], fun j => ?_⟩
      cases j with
      | zero =>
        simp only [List.getD_cons_zero]
        rcases h.1 with h1 | h1
        · exact sameU_ok hc h1
        · rcases h1 with h1 | h1
          · exact sameApp_ok hc h1
          · exact sameS_ok hc h1
      | succ j => simpa only [List.getD_cons_succ] using e2 j
  | [], _ :: _, h => by simp [numsSame] at h
  | _ :: _, [], h => by simp [numsSame] at h

/-- a leaf against a tree -/
def agreeL (u : SV) : Ctx → VT → Bool
  | cx, .leaf v => numsSame cx u.nums v.nums
  | cx, .ite c a b => match resolveJ cx c with
    | some true => agreeL u cx a
    | some false => agreeL u cx b
    | none => (deadC (assumeJ 50 cx c true) || agreeL u (assumeJ 50 cx c true) a) && (deadC (assumeJ 50 cx c false) || agreeL u (assumeJ 50 cx c false) b)
  | _, _ => false
def agree (t : VT) : Ctx → VT → Bool
  | cx, .leaf u => agreeL u cx t
  | cx, .ite c a b => (deadC (assumeJ 50 cx c true) || agree t (assumeJ 50 cx c true) a) && (deadC (assumeJ 50 cx c false) || agree t (assumeJ 50 cx c false) b)
  | _, _ => false

theorem agreeL_ok {env : Env} {u : SV} : ∀ {t : VT} {cx : Ctx}, cx.ok env → agreeL u cx t = true → u.nums.length = (t.at env).nums.length ∧ ∀ j, (u.nums.getD j (.lit 0)).den env = ((t.at env).nums.getD j (.lit 0)).den env
  | .leaf v, cx, hc, h => numsSame_ok hc h
  | .ite c a b, cx, hc, h => by
      simp only [agreeL] at h
      simp only [VT.at]
      split at h
      · rename_i hr; rw [resolveJ_ok hc hr]; exact agreeL_ok hc h
      · rename_i hr; rw [resolveJ_ok hc hr]; exact agreeL_ok hc h
      · simp only [Bool.and_eq_true, Bool.or_eq_true] at h
        cases hv : c.den env with
        | true =>
          have hc' := assumeJ_ok 50 hc hv
          exact agreeL_ok hc' (h.1.resolve_left fun hd => deadC_ok hc' hd)
        | false =>
          have hc' := assumeJ_ok 50 hc hv
          exact agreeL_ok hc' (h.2.resolve_left fun hd => deadC_ok hc' hd)
  | .need _ _, _, _, h => by simp [agreeL] at h
  | .fail, _, _, h => by simp [agreeL] at h
theorem agree_ok {env : Env} {t : VT} : ∀ {t' : VT} {cx : Ctx}, cx.ok env → agree t cx t' = true → (t'.at env).nums.length = (t.at env).nums.length ∧ ∀ j, ((t'.at env).nums.getD j (.lit 0)).den env = ((t.at env).nums.getD j (.lit 0)).den env
  | .leaf u, cx, hc, h => agreeL_ok hc h
  | .ite c a b, cx, hc, h => by
      simp only [agree, Bool.and_eq_true, Bool.or_eq_true] at h
      simp only [VT.at]
      cases hv : c.den env with
      | true =>
        have hc' := assumeJ_ok 50 hc hv
        exact agree_ok hc' (h.1.resolve_left fun hd => deadC_ok hc' hd)
      | false =>
        have hc' := assumeJ_ok 50 hc hv
        exact agree_ok hc' (h.2.resolve_left fun hd => deadC_ok hc' hd)
  | .need _ _, _, _, h => by simp [agree] at h
  | .fail, _, _, h => by simp [agree] at h

/-! ### the ranges of what a tree comes to -/

def bndT (j : Nat) : Ctx → VT → Option (Option (Int × Int))
  | cx, .leaf v => (bnd cx (v.nums.getD j (.lit 0))).map some
  | cx, .ite c a b =>
    let l := if deadC (assumeJ 50 cx c true) then some none else bndT j (assumeJ 50 cx c true) a
    let r := if deadC (assumeJ 50 cx c false) then some none else bndT j (assumeJ 50 cx c false) b
    match l, r with
    | some none, r => r
    | l, some none => l
    | some (some x), some (some y) => some (some (min x.1 y.1, max x.2 y.2))
    | _, _ => none
  | _, _ => none
theorem bndT_ok {env : Env} {j : Nat} : ∀ {t : VT} {cx : Ctx}, cx.ok env → ∀ o, bndT j cx t = some o → ∃ r, o = some r ∧ r.1 ≤ ((t.at env).nums.getD j (.lit 0)).den env ∧ ((t.at env).nums.getD j (.lit 0)).den env ≤ r.2
  | .leaf v, cx, hc, o, h => by
      simp only [bndT, Option.map_eq_some_iff] at h
      obtain ⟨r, h, rfl⟩ := h
      exact ⟨r, rfl, bnd_ok hc _ _ h⟩
  | .ite c a b, cx, hc, o, h => by
      simp only [bndT] at h
      generalize hl : (if deadC (assumeJ 50 cx c true) then some none else bndT j (assumeJ 50 cx c true) a) = l at h
      generalize hr : (if deadC (assumeJ 50 cx c false) then some none else bndT j (assumeJ 50 cx c false) b) = r at h
      simp only [VT.at]
      cases hv : c.den env with
      | true =>
        have hc' := assumeJ_ok 50 hc hv
        have hd : ¬ deadC (assumeJ 50 cx c true) = true := fun hd => deadC_ok hc' hd
        rw [if_neg hd] at hl
        have key := bndT_ok (j := j) hc' (t := a)
        simp only [cond_true]
        split at h
        · obtain ⟨_, h1, _⟩ := key _ hl; cases h1
        · rw [h] at hl; exact key _ hl
        · rename_i x y
          cases h
          obtain ⟨_, h1, h2, h3⟩ := key _ hl
          cases h1
          exact ⟨_, rfl, by simp only; omega, by simp only; omega⟩
        · cases h
      | false =>
        have hc' := assumeJ_ok 50 hc hv
        have hd : ¬ deadC (assumeJ 50 cx c false) = true := fun hd => deadC_ok hc' hd
        rw [if_neg hd] at hr
        have key := bndT_ok (j := j) hc' (t := b)
        simp only [cond_false]
        split at h
        · rw [h] at hr; exact key _ hr
        · obtain ⟨_, h1, _⟩ := key _ hr; cases h1
        · rename_i x y
          cases h
          obtain ⟨_, h1, h2, h3⟩ := key _ hr
          cases h1
          exact ⟨_, rfl, by simp only; omega, by simp only; omega⟩
        · cases h
  | .need _ _, _, _, _, h => by simp [bndT] at h
  | .fail, _, _, _, h => by simp [bndT] at h

/-! ### the contracts -/

/-- the ranges that are told of the numbers: each is seen -/
def rngsT (cx : Ctx) (t : VT) : List (Nat × Int × Int) → Bool
  | [] => true
  | (j, lo, hi) :: l => (match bndT j cx t with
    | some (some r) => decide (lo ≤ r.1) && decide (r.2 ≤ hi)
    | _ => false) && rngsT cx t l
theorem rngsT_ok {env : Env} {cx : Ctx} (hc : cx.ok env) {t : VT} : ∀ {l : List (Nat × Int × Int)}, rngsT cx t l = true → ∀ j lo hi, (j, lo, hi) ∈ l → lo ≤ ((t.at env).nums.getD j (.lit 0)).den env ∧ ((t.at env).nums.getD j (.lit 0)).den env ≤ hi
  | [], _, j, lo, hi, h => by cases h
  | (j', lo', hi') :: l, h, j, lo, hi, hm => by
      simp only [rngsT, Bool.and_eq_true] at h
      rcases List.mem_cons.1 hm with e | hm
      · cases e
        have h1 := h.1
        split at h1
        · rename_i r hr
          simp only [Bool.and_eq_true, decide_eq_true_eq] at h1
          obtain ⟨r', e, h2⟩ := bndT_ok hc (t := t) _ hr
          cases e
          omega
        · cases h1
      · exact rngsT_ok hc h.2 j lo hi hm

/-- the contract of a function that gives a tree's numbers -/
def pairFC (f : Nat) (sig : List (Bool × List (Option IntKind))) (pre : List BE) (s : SV) (K : Nat) (rs : List (Nat × Int × Int)) : FC :=
  ⟨f, sig, s.fill (appsE K s.nums.length (kindsAll sig).length), pre, [], rs.map fun r => (.app (K + r.1) (varsE0 (kindsAll sig).length), r.2.1, r.2.2)⟩

theorem wfAll_len {l : List (Bool × List (Option IntKind))} : ∀ {r : List (List Int)}, wfAll l r → r.flatten.length = (kindsAll l).length := by
  induction l with
  | nil => intro r h; rw [show r = [] from h]; rfl
  | cons p l ih =>
    intro r h
    obtain ⟨b, ks⟩ := p
    obtain ⟨xs, r', rfl, hw, _, h⟩ := h
    have hl : ∀ {ks : List (Option IntKind)} {xs : List Int}, wfL ks xs → xs.length = ks.length := by
      intro ks
      induction ks with
      | nil => intro xs h; rw [show xs = [] from h]; rfl
      | cons k ks ih => intro xs h; obtain ⟨x, xs', rfl, _, h⟩ := h; simp [ih h]
    simp only [List.flatten_cons, List.length_append, ih h, hl hw]
    simp [kindsAll]

theorem pair_leaf {fn : Nat → List Int → Int} {a : List Int} {s : SV} {K n : Nat} {t : VT} (hT : TreeIs fn K s.nums.length t) (hn : n = a.length) {u : SV}
    (hf : u.form s = true) (hu : ∀ j, (u.nums.getD j (.lit 0)).den (envOf a fn) = ((t.at (envOf a fn)).nums.getD j (.lit 0)).den (envOf a fn)) :
    u.eqv (envOf a fn) (s.fill (appsE K s.nums.length n)) := by
  refine SV.eqv_fill hf fun j hj => ?_
  rw [SV.form_len hf] at hj
  rw [appsE_getD _ _ _ _ hj, hu j]
  show _ = fn (K + j) (denL (envOf a fn) (varsE0 n))
  rw [denL_vars0 a fn n hn, hT j a hj]
  rfl

/-- of the function whose tree it is (t = t'), or of another one whose tree agrees -/
theorem pair_ok {P : Program} {fn : Nat → List Int → Int} {X : Par} {d n f K : Nat} {sig : List (Bool × List (Option IntKind))} {pre : List BE} {s : SV} {rs : List (Nat × Int × Int)} (t t' : VT)
    (hmix : P.follows .mixedOrders = true) (hX : ParOK P fn X) (hT : TreeIs fn K s.nums.length t) (hp : (pairFC f sig pre s K rs).v.plain = true) (hent : (entered P f).isSome = true)
    (ht : (run (callT P X n f (symAll sig 0) (ctxA sig pre d)) st0).vt = t')
    (hc : t'.clean s = true) (ha : agree t (ctxA sig pre d) t' = true) (hr : rngsT (ctxA sig pre d) t rs = true) (hl : (rs.all fun r => Nat.blt r.1 s.nums.length) = true) : (pairFC f sig pre s K rs).OK P fn := by
  refine FC.ok_num (X := X) (d := d) (n := n) (t := t') hmix hX hp hent ht fun r hw hpre => ?_
  have hcx : (ctxA sig pre d).ok (envOf r.flatten fn) := ctxA_ok hw hpre
  have hlen : r.flatten.length = (kindsAll sig).length := wfAll_len hw
  refine ⟨by simp [pairFC], ?_, ?_⟩
  · intro p hm
    simp only [pairFC, List.mem_map] at hm
    obtain ⟨⟨j, lo, hi⟩, hm, rfl⟩ := hm
    have h1 := rngsT_ok hcx hr j lo hi hm
    have hj : j < s.nums.length := by
      have := List.all_eq_true.1 hl _ hm
      simpa [Nat.blt_eq] using this
    show lo ≤ fn (K + j) (denL (envOf r.flatten fn) (varsE0 (kindsAll sig).length)) ∧ fn (K + j) (denL (envOf r.flatten fn) (varsE0 (kindsAll sig).length)) ≤ hi
    rw [denL_vars0 _ fn _ hlen.symm, hT j _ hj]
    exact h1
  · have h2 := agree_ok hcx ha
    exact VT.holds_at hc (pair_leaf hT hlen.symm (VT.at_form hc) h2.2)

/-! ### functions that give trees' numbers, one upon the other -/

/-- from K on, n functions are those of a tree -/
noncomputable def withTree (K n : Nat) (t : VT) (g : Nat → List Int → Int) : Nat → List Int → Int := fun k a => if K ≤ k ∧ k < K + n then t.fnJ (rowed g) (k - K) a else g k a

mutual
/-- no function from K on is used, but those of rows -/
def E.loK (K : Nat) : E → Bool
  | .lit _ => true
  | .var _ => true
  | .op _ a b => a.loK K && b.loK K
  | .bin _ _ a b => a.loK K && b.loK K
  | .conv _ a => a.loK K
  | .app f l => (Nat.blt f K || (Nat.ble 1000 f && Nat.blt f 5000)) && E.loKL K l
  | .ite c a b => c.loK K && a.loK K && b.loK K
  | .cmp _ a b => a.loK K && b.loK K
def E.loKL (K : Nat) : List E → Bool
  | [] => true
  | e :: l => e.loK K && E.loKL K l
end
def BE.loK (K : Nat) : BE → Bool
  | .lit _ => true
  | .cmp _ a b => a.loK K && b.loK K
  | .neg b => b.loK K
  | .and a b => a.loK K && b.loK K
  | .eqb a b => a.loK K && b.loK K
  | .tst e => e.loK K
def VT.loK (K : Nat) : VT → Bool
  | .leaf v => E.loKL K v.nums
  | .ite c t e => c.loK K && t.loK K && e.loK K
  | .need c t => c.loK K && t.loK K
  | .fail => true

/-- below K, and those of rows -/
def low (K k : Nat) : Prop := k < K ∨ (1000 ≤ k ∧ k < 5000)
def SameLow (K : Nat) (f g : Nat → List Int → Int) : Prop := ∀ k a, low K k → f k a = g k a

mutual
theorem E.loK_den {K : Nat} {f g : Nat → List Int → Int} {xs : List Int} (h : SameLow K f g) : ∀ {e : E}, e.loK K = true → e.den (envOf xs f) = e.den (envOf xs g)
  | .lit _, _ => rfl
  | .var _, _ => rfl
  | .op o a b, hb => by
      simp only [E.loK, Bool.and_eq_true] at hb
      simp only [E.den, E.loK_den h hb.1, E.loK_den h hb.2]
  | .bin o k a b, hb => by
      simp only [E.loK, Bool.and_eq_true] at hb
      simp only [E.den, E.loK_den h hb.1, E.loK_den h hb.2]
  | .conv k a, hb => by
      simp only [E.loK] at hb
      simp only [E.den, E.loK_den h hb]
  | .app k l, hb => by
      simp only [E.loK, Bool.and_eq_true, Bool.or_eq_true, Nat.blt_eq, Nat.ble_eq] at hb
      simp only [E.den, E.loKL_den h hb.2]
      exact h k _ hb.1
  | .ite c a b, hb => by
      simp only [E.loK, Bool.and_eq_true] at hb
      simp only [E.den, E.loK_den h hb.1.1, E.loK_den h hb.1.2, E.loK_den h hb.2]
  | .cmp o a b, hb => by
      simp only [E.loK, Bool.and_eq_true] at hb
      simp only [E.den, E.loK_den h hb.1, E.loK_den h hb.2]
theorem E.loKL_den {K : Nat} {f g : Nat → List Int → Int} {xs : List Int} (h : SameLow K f g) : ∀ {l : List E}, E.loKL K l = true → denL (envOf xs f) l = denL (envOf xs g) l
  | [], _ => rfl
  | e :: l, hb => by
      simp only [E.loKL, Bool.and_eq_true] at hb
      simp only [denL, E.loK_den h hb.1, E.loKL_den h hb.2]
end
theorem BE.loK_den {K : Nat} {f g : Nat → List Int → Int} {xs : List Int} (h : SameLow K f g) : ∀ {b : BE}, b.loK K = true → b.den (envOf xs f) = b.den (envOf xs g)
  | .lit _, _ => rfl
  | .cmp o a b, hb => by
      simp only [BE.loK, Bool.and_eq_true] at hb
      simp only [BE.den, E.loK_den h hb.1, E.loK_den h hb.2]
  | .neg b, hb => by
      simp only [BE.loK] at hb
      simp only [BE.den, BE.loK_den h hb]
  | .and a b, hb => by
      simp only [BE.loK, Bool.and_eq_true] at hb
      simp only [BE.den, BE.loK_den h hb.1, BE.loK_den h hb.2]
  | .eqb a b, hb => by
      simp only [BE.loK, Bool.and_eq_true] at hb
      simp only [BE.den, BE.loK_den h hb.1, BE.loK_den h hb.2]
  | .tst e, hb => by
      simp only [BE.loK] at hb
      simp only [BE.den, E.loK_den h hb]
theorem VT.loK_at {K : Nat} {f g : Nat → List Int → Int} {xs : List Int} (h : SameLow K f g) : ∀ {t : VT}, t.loK K = true → t.at (envOf xs f) = t.at (envOf xs g) ∧ E.loKL K (t.at (envOf xs g)).nums = true
  | .leaf v, hb => ⟨rfl, hb⟩
  | .ite c t e, hb => by
      simp only [VT.loK, Bool.and_eq_true] at hb
      simp only [VT.at, BE.loK_den h hb.1.1]
      cases c.den (envOf xs g)
      · exact VT.loK_at h hb.2
      · exact VT.loK_at h hb.1.2
  | .need c t, hb => by
      simp only [VT.loK, Bool.and_eq_true] at hb
      exact VT.loK_at (t := t) h hb.2
  | .fail, _ => ⟨rfl, rfl⟩
theorem loKL_get {K : Nat} : ∀ {l : List E} {j : Nat}, E.loKL K l = true → (l.getD j (.lit 0)).loK K = true
  | [], j, _ => by simp [List.getD_nil, E.loK]
  | e :: l, 0, h => by simp only [E.loKL, Bool.and_eq_true] at h; exact h.1
  | e :: l, j + 1, h => by simp only [E.loKL, Bool.and_eq_true] at h; rw [List.getD_cons_succ]; exact loKL_get (l := l) h.2
theorem VT.loK_fnJ {K : Nat} {f g : Nat → List Int → Int} (h : SameLow K f g) {t : VT} (hb : t.loK K = true) (j : Nat) (a : List Int) : t.fnJ f j a = t.fnJ g j a := by
  obtain ⟨h1, h2⟩ := VT.loK_at (xs := a) h hb
  unfold VT.fnJ
  rw [h1]
  exact E.loK_den h (loKL_get h2)

theorem rowed_high (f g : Nat → List Int → Int) (k : Nat) (a : List Int) (h1 : 1000 ≤ k) (h2 : k < 5000) : rowed f k a = rowed g k a := by
  rw [rowed_rows f k a h1 h2, rowed_rows g k a h1 h2]
theorem rowed_lo (f : Nat → List Int → Int) (k : Nat) (a : List Int) (h : k < 1000) : rowed f k a = f k a := by
  unfold rowed
  rw [if_neg (by omega)]
/-- what a function is below B: the tree's functions, and those beneath -/
theorem upto_tree {fn G : Nat → List Int → Int} {B K n : Nat} {t : VT} (h : SameLow B fn (rowed (withTree K n t G))) (hK : K + n ≤ B) (hB : B ≤ 1000) (hb : t.loK K = true) : TreeIs fn K n t ∧ SameLow K fn (rowed G) := by
  have h2 : SameLow K fn (rowed G) := by
    intro k a hk
    rw [h k a (by unfold low at *; omega)]
    rcases hk with hk | ⟨h1, h2⟩
    · rw [rowed_lo _ _ _ (by omega), rowed_lo _ _ _ (by omega)]
      unfold withTree
      rw [if_neg (by omega)]
    · exact rowed_high _ _ k a h1 h2
  refine ⟨fun j a hj => ?_, h2⟩
  rw [h _ a (.inl (by omega)), rowed_lo _ _ _ (by omega)]
  unfold withTree
  rw [if_pos ⟨by omega, by omega⟩, Nat.add_sub_cancel_left]
  exact (VT.loK_fnJ h2 hb j a).symm

/-- what all leaves are, the one that is reached is -/
def VT.allL (p : SV → Bool) : VT → Bool
  | .leaf v => p v
  | .ite _ t e => t.allL p && e.allL p
  | .need _ t => t.allL p
  | .fail => p .any
theorem VT.allL_at {p : SV → Bool} {env : Env} : ∀ {t : VT}, t.allL p = true → p (t.at env) = true
  | .leaf v, h => h
  | .ite c t e, h => by
      simp only [VT.allL, Bool.and_eq_true] at h
      simp only [VT.at]
      cases c.den env
      · exact VT.allL_at h.2
      · exact VT.allL_at h.1
  | .need c t, h => VT.allL_at (t := t) h
  | .fail, h => h
end Go.SX

namespace Go.SX
open Go Go.RowKit Go.WideShapes Go.ChangeShapes
set_option linter.unusedVariables false
set_option linter.unusedSimpArgs false
set_option linter.unusedSectionVars false

/-- a contract of a function over flat parameters and rows; false: a row that it doesn't get (so that the others have their numbers) -/
structure RC where
  f : Nat
  sh : List (Bool × PSh)
  v : SV
  pre : List BE := []
  facts : List BE := []
  rngs : Rngs := []

def selBy {α : Type} : List (Bool × PSh) → List α → List α
  | (true, _) :: s, x :: l => x :: selBy s l
  | (false, _) :: s, _ :: l => selBy s l
  | _, _ => []
def RC.shs (c : RC) : List PSh := c.sh.map (·.2)
def shN : List PSh → Nat
  | [] => 0
  | .flat _ ks :: l => ks.length + shN l
  | .row _ :: l => 1 + shN l
def varsFrom (i : Nat) : Nat → List E
  | 0 => []
  | n + 1 => .var i :: varsFrom (i + 1) n
/-- what holds of the numbers of such parameters -/
def shPre : List PSh → Nat → List BE
  | [], _ => []
  | .flat _ ks :: l, i => kindNeeds ks (varsFrom i ks.length) ++ shPre l (i + ks.length)
  | .row _ :: l, i => [.cmp .geq (.var i) (.lit 0), .cmp .leq (.var i) (.lit 9223372036854775807)] ++ shPre l (i + 1)

def rowArg : SV → Option (Nat × E)
  | .vsl b len => some (b, len)
  | _ => none
abbrev Arrs := List (Nat × List (Option IntKind) × Nat × E)
def rcM : List (Bool × PSh) → Nat → Nat → List SV → Asg → Option (Asg × Arrs)
  | [], _, _, [], l => some (l, [])
  | (true, .flat true ks) :: sh, i, b, v :: vs, l => match matchV 0 (.agg (symL ks i)) v l with
    | some l => rcM sh (i + ks.length) b vs l
    | none => none
  | (true, .flat false ks) :: sh, i, b, v :: vs, l => match matchV 0 ((symL ks i).getD 0 (.tuple [])) v l with
    | some l => rcM sh (i + ks.length) b vs l
    | none => none
  | (true, .row ks) :: sh, i, b, v :: vs, l => match rowArg v with
    | some q => bif Nat.beq q.1 b then (match putA i q.2 l with
      | some l => (match rcM sh (i + 1) (b + 1) vs l with
        | some p => some (p.1, (b, ks, rowF b, q.2) :: p.2)
        | none => none)
      | none => none) else none
    | none => none
  | (false, .row ks) :: sh, i, b, vs, l => (match putA i (.lit 0) l with
    | some l => rcM sh (i + 1) (b + 1) vs l
    | none => none)
  | _, _, _, _, _ => none

def RC.summ (c : RC) (es : List E) (arrs : Arrs) : Summ :=
  ⟨(shPre c.shs 0 ++ c.pre).map (BE.sub 0 (atL es)), c.v.sub 0 (atL es), c.facts.map (BE.sub 0 (atL es)), c.rngs.map fun p => (p.1.sub 0 (atL es), p.2), [], arrs⟩
def RC.entry (c : RC) (args : List SV) : Option Summ :=
  match rcM c.sh 0 0 args [] with
  | some (l, arrs) => bif asgIn 0 (shN c.shs) l then some (c.summ (asgL l 0 (shN c.shs)) arrs) else none
  | none => none
def RC.book (c : RC) (B : Book) : Book := fun f args cx => bif Nat.beq f c.f then (match c.entry args with
  | some s => some s
  | none => B f args cx) else B f args cx
def RC.par (c : RC) (X : Par) : Par := { X with book := c.book X.book }

/-- what is to be shown of it -/
structure RC.OK (P : Program) (fn : Nat → List Int → Int) (c : RC) : Prop where
  plain : c.v.plain = true
  ent : (entered P c.f).isSome = true
  calls : ∀ pv w, pvAll w c.shs pv → FnRows fn c.shs pv 0 → (∀ b, b ∈ c.pre → b.den (envOf (pvNums pv) fn) = true) →
    (∀ b, b ∈ c.facts → b.den (envOf (pvNums pv) fn) = true) ∧ (∀ e lo hi, (e, lo, hi) ∈ c.rngs → lo ≤ e.den (envOf (pvNums pv) fn) ∧ e.den (envOf (pvNums pv) fn) ≤ hi) ∧
    Calls P c.f (selBy c.sh (pvVals c.shs pv)).toArray w fun e w' => ∃ V, e = .returned V ∧ (∀ ρ, Rep (envOf (pvNums pv) fn) ρ c.v V) ∧ Below w.heap.size w w'

theorem varsFrom_len : ∀ (n i : Nat), (varsFrom i n).length = n
  | 0, _ => rfl
  | n + 1, i => by simp [varsFrom, varsFrom_len n (i + 1)]
theorem varsFrom_get {env : Env} : ∀ (n i j : Nat), j < n → (denL env (varsFrom i n)).getD j 0 = env.v (i + j)
  | 0, _, _, h => by omega
  | n + 1, i, 0, _ => by simp [varsFrom, denL, E.den]
  | n + 1, i, j + 1, h => by
      simp only [varsFrom, denL, List.getD_cons_succ]
      rw [varsFrom_get n (i + 1) j (by omega)]
      congr 1; omega

theorem rcM_le : ∀ {sh : List (Bool × PSh)} {i b : Nat} {vs : List SV} {l l' : Asg} {ar : Arrs}, rcM sh i b vs l = some (l', ar) → Asg.le l l'
  | [], i, b, [], l, l', ar, h => by cases h; exact Asg.le_refl _
  | [], i, b, _ :: _, l, l', ar, h => by simp [rcM] at h
  | (true, .flat true ks) :: sh, i, b, v :: vs, l, l', ar, h => by
      simp only [rcM] at h
      split at h
      · rename_i l1 h1
        exact Asg.le_trans (matchV_ok (env := ⟨fun _ => 0, fun _ _ => 0⟩) (env' := ⟨fun _ => 0, fun _ _ => 0⟩) ⟨rfl, fun _ _ => rfl⟩ h1).1 (rcM_le h)
      · cases h
  | (true, .flat false ks) :: sh, i, b, v :: vs, l, l', ar, h => by
      simp only [rcM] at h
      split at h
      · rename_i l1 h1
        exact Asg.le_trans (matchV_ok (env := ⟨fun _ => 0, fun _ _ => 0⟩) (env' := ⟨fun _ => 0, fun _ _ => 0⟩) ⟨rfl, fun _ _ => rfl⟩ h1).1 (rcM_le h)
      · cases h
  | (true, .flat true ks) :: sh, i, b, [], l, l', ar, h => by simp [rcM] at h
  | (true, .flat false ks) :: sh, i, b, [], l, l', ar, h => by simp [rcM] at h
  | (true, .row ks) :: sh, i, b, [], l, l', ar, h => by simp [rcM] at h
  | (true, .row ks) :: sh, i, b, v :: vs, l, l', ar, h => by
      simp only [rcM] at h
      split at h
      · rename_i q hq
        simp only [beq_dec] at h
        by_cases hb : q.1 = b
        · simp only [hb, decide_true, cond_true] at h
          split at h
          · rename_i l1 h1
            split at h
            · rename_i p h2
              cases h
              exact Asg.le_trans (putA_ok h1).1 (rcM_le h2)
            · cases h
          · cases h
        · simp only [hb, decide_false, cond_false] at h; cases h
      · cases h
  | (false, .flat _ _) :: sh, i, b, vs, l, l', ar, h => by simp [rcM] at h
  | (false, .row ks) :: sh, i, b, vs, l, l', ar, h => by
      simp only [rcM] at h
      split at h
      · rename_i l1 h1
        exact Asg.le_trans (putA_ok h1).1 (rcM_le h)
      · cases h

theorem kinds_wf {env : Env} {ks : List (Option IntKind)} {i : Nat} (h : ∀ b, b ∈ kindNeeds ks (varsFrom i ks.length) → b.den env = true) : wfL ks (denL env (varsFrom i ks.length)) :=
  kindNeeds_ok (varsFrom_len _ _) h

/-- the parameters' values, taken apart -/
theorem rcM_ok {env env' : Env} {ρ : Pl} {w : World} (hag : Agree 0 env env') : ∀ {sh : List (Bool × PSh)} {i b : Nat} {args : List SV} {vs : List Value} {l l' : Asg} {ar : Arrs},
    rcM sh i b args l = some (l', ar) → AsgOK env env' l' → RepL env ρ args vs → (sh.all fun p => match p.2 with | .flat a ks => a || Nat.beq ks.length 1 | .row _ => true) = true →
    (∀ be, be ∈ shPre (sh.map (·.2)) i → be.den env' = true) →
    (∀ b sig F N, (b, sig, F, N) ∈ ar → ∃ r o, ρ b = some (r, o) ∧ ((Blk.arr sig F [] N).void env o = false → BS env ρ (w.heap[r]?) o (.arr sig F [] N))) →
    ∃ pv, pvAll w (sh.map (·.2)) pv ∧ FnRows env'.f (sh.map (·.2)) pv b ∧ (pvNums pv).length = shN (sh.map (·.2)) ∧ (∀ j, j < (pvNums pv).length → env'.v (i + j) = (pvNums pv).getD j 0) ∧ selBy sh (pvVals (sh.map (·.2)) pv) = vs
  | [], i, b, [], vs, l, l', ar, h, hA, hr, hs, hp, har => ⟨[], rfl, trivial, rfl, (fun j hj => by simp [pvNums] at hj), by rw [show vs = [] from hr]; rfl⟩
  | [], i, b, _ :: _, vs, l, l', ar, h, hA, hr, hs, hp, har => by simp [rcM] at h
  | (true, .flat ag ks) :: sh, i, b, [], vs, l, l', ar, h, hA, hr, hs, hp, har => by cases ag <;> simp [rcM] at h
  | (true, .flat ag ks) :: sh, i, b, v :: args, vs, l, l', ar, h, hA, hr, hs, hp, har => by
      obtain ⟨V, vs', hV, hr', rfl⟩ := hr
      simp only [List.map_cons, shPre, List.mem_append] at hp
      simp only [List.all_cons, Bool.and_eq_true] at hs
      have hw := kinds_wf (env := env') (ks := ks) (i := i) fun be hm => hp be (.inl hm)
      have hlen : (denL env' (varsFrom i ks.length)).length = ks.length := by rw [length_denL, varsFrom_len]
      have key : ∀ (pat : SV), (∃ l1, matchV 0 pat v l = some l1 ∧ rcM sh (i + ks.length) b args l1 = some (l', ar)) → (∃ V0, Rep env' ρ pat V0 ∧ pat.plain = true ∧ V0 = PV.val (.flat ag ks) (.flat (denL env' (varsFrom i ks.length)))) →
          ∃ pv, pvAll w (.flat ag ks :: sh.map (·.2)) pv ∧ FnRows env'.f (.flat ag ks :: sh.map (·.2)) pv b ∧ (pvNums pv).length = shN (.flat ag ks :: sh.map (·.2)) ∧ (∀ j, j < (pvNums pv).length → env'.v (i + j) = (pvNums pv).getD j 0) ∧ selBy ((true, .flat ag ks) :: sh) (pvVals (.flat ag ks :: sh.map (·.2)) pv) = V :: vs' := by
        rintro pat ⟨l1, h1, h2⟩ ⟨V0, q1, q2, q3⟩
        have hle := rcM_le h2
        have hV' : Rep env' ρ pat V := (matchV_ok hag h1).2 (hA.mono hle) ρ V hV
        have e0 : V = V0 := Rep.det q2 hV' q1
        obtain ⟨pv, g1, g2, g3, g4, g5⟩ := rcM_ok hag h2 hA hr' hs.2 (fun be hm => hp be (.inr hm)) har
        refine ⟨.flat (denL env' (varsFrom i ks.length)) :: pv, ⟨_, _, rfl, ⟨hw, fun ha => ?_⟩, g1⟩, g2, ?_, ?_, ?_⟩
        · have := hs.1
          subst ha
          simpa [beq_dec] using this
        · simp only [pvNums, PV.nums, List.length_append, g3, hlen, shN]
        · intro j hj
          simp only [pvNums, PV.nums, List.length_append, hlen] at hj ⊢
          by_cases hjk : j < ks.length
          · rw [List.getD_eq_getElem?_getD, List.getElem?_append_left (by omega), ← List.getD_eq_getElem?_getD, varsFrom_get _ _ _ hjk]
          · have := g4 (j - ks.length) (by omega)
            rw [show i + ks.length + (j - ks.length) = i + j by omega] at this
            rw [this, List.getD_eq_getElem?_getD, List.getD_eq_getElem?_getD, List.getElem?_append_right (by omega), hlen]
        · simp only [pvVals, selBy, g5, e0, q3]
      have hsym : RepL env' ρ (symL ks i) (valsL ks (denL env' (varsFrom i ks.length))) := symL_rep hw (fun j hj => by rw [hlen] at hj; rw [varsFrom_get _ _ _ hj])
      cases ag with
      | true =>
        simp only [rcM] at h
        split at h
        · rename_i l1 h1
          exact key _ ⟨l1, h1, h⟩ ⟨_, ⟨_, hsym, rfl⟩, by simp only [SV.plain, symL_plain], rfl⟩
        · cases h
      | false =>
        simp only [rcM] at h
        have hl1 : ks.length = 1 := by simpa [beq_dec] using hs.1
        split at h
        · rename_i l1 h1
          refine key _ ⟨l1, h1, h⟩ ?_
          match ks, hl1, hsym, hlen with
          | [k], _, hsym, hlen =>
            obtain ⟨u, us, hu, _, e⟩ := hsym
            refine ⟨u, hu, ?_, ?_⟩
            · cases k <;> rfl
            · simp only [PV.val]
              rw [e]; rfl
        · cases h
  | (true, .row ks) :: sh, i, b, [], vs, l, l', ar, h, hA, hr, hs, hp, har => by simp [rcM] at h
  | (true, .row ks) :: sh, i, b, v :: args, vs, l, l', ar, h, hA, hr, hs, hp, har => by
      obtain ⟨V, vs', hV, hr', rfl⟩ := hr
      simp only [rcM] at h
      split at h
      case h_2 => cases h
      rename_i q hq
      simp only [beq_dec] at h
      by_cases hb : q.1 = b
      case neg => simp only [hb, decide_false, cond_false] at h; cases h
      simp only [hb, decide_true, cond_true] at h
      split at h
      case h_2 => cases h
      rename_i l1 h1
      split at h
      case h_2 => cases h
      rename_i p h2
      obtain ⟨l2, ar2⟩ := p
      cases h
      obtain ⟨b', len⟩ := q
      simp only at hb h1 har
      subst hb
      have hvv : v = .vsl b' len := by cases v <;> simp [rowArg] at hq; rw [hq.1, hq.2]
      subst hvv
      simp only [List.map_cons, shPre, List.mem_append] at hp
      simp only [List.all_cons, Bool.and_eq_true] at hs
      have hi : env'.v i = len.den env := hA i len (rcM_le h2 _ _ (putA_ok h1).2)
      have p1 := hp _ (.inl (List.mem_cons_self ..))
      have p2 := hp _ (.inl (List.mem_cons_of_mem _ (List.mem_cons_self ..)))
      simp only [BE.den, cmpI, E.den, decide_eq_true_eq, hi, ge_iff_le] at p1 p2
      obtain ⟨pv, g1, g2, g3, g4, g5⟩ := rcM_ok hag h2 hA hr' hs.2 (fun be hm => hp be (.inr hm)) (fun b s F N hm => har b s F N (List.mem_cons_of_mem _ hm))
      obtain ⟨r, o, hρ, h0, hX⟩ := hV
      obtain ⟨r', o', hρ', hbs⟩ := har b' ks (rowF b') len (List.mem_cons_self ..)
      rw [hρ] at hρ'
      cases hρ'
      let D : RowD := ⟨(len.den env).toNat, fun x j => env'.f (rowF b' + j) [(x : Int)]⟩
      have hD : (D.len : Int) = len.den env := by show ((len.den env).toNat : Int) = _; omega
      have hrow : RowIs w ks D V r o := by
        by_cases hz : len.den env = 0
        · left
          refine ⟨by show (len.den env).toNat = 0; omega, ?_⟩
          rcases hX with ⟨_, hA⟩ | ⟨c, _, e⟩
          · exact hA
          · exact ⟨_, c, by rw [e, hz]; rfl⟩
        · right
          rcases hX with ⟨hz', _⟩ | ⟨c, hc, e⟩
          · exact absurd hz' hz
          have hb0 := hbs (by simp only [Blk.void, beq_eq_false_iff_ne, ne_eq]; exact hz)
          obtain ⟨cs, t, fz, hob, _, hcs⟩ := hb0
          refine ⟨c, hc, e, (Array.getElem?_eq_some_iff.1 hob).1, cs, t, fz, hob, ?_⟩
          intro x j k hx hk
          have := hcs x j k (by rw [← hD]; exact_mod_cast hx) hk
          simp only [denL, List.nil_append] at this
          rw [← hag.1] at this
          exact this
      refine ⟨.row D V :: pv, ⟨_, _, rfl, ⟨by rw [hD]; exact p2, r, o, hrow⟩, g1⟩, ⟨fun x j _ _ => rfl, g2⟩, ?_, ?_, ?_⟩
      · simp only [pvNums, PV.nums, List.cons_append, List.nil_append, List.length_cons, g3, List.map_cons, shN]; omega
      · intro j hj
        simp only [pvNums, PV.nums, List.cons_append, List.nil_append, List.length_cons] at hj ⊢
        cases j with
        | zero => simp only [Nat.add_zero, List.getD_cons_zero, hi, hD]
        | succ j =>
          simp only [List.getD_cons_succ]
          rw [← g4 j (by omega), show i + 1 + j = i + (j + 1) by omega]
      · simp only [List.map_cons, pvVals, selBy, PV.val, g5]
  | (false, .flat _ _) :: sh, i, b, args, vs, l, l', ar, h, hA, hr, hs, hp, har => by simp [rcM] at h
  | (false, .row ks) :: sh, i, b, args, vs, l, l', ar, h, hA, hr, hs, hp, har => by
      simp only [rcM] at h
      split at h
      case h_2 => cases h
      rename_i l1 h1
      simp only [List.map_cons, shPre, List.mem_append] at hp
      simp only [List.all_cons, Bool.and_eq_true] at hs
      have hi : env'.v i = 0 := hA i (.lit 0) (rcM_le h _ _ (putA_ok h1).2)
      obtain ⟨pv, g1, g2, g3, g4, g5⟩ := rcM_ok hag h hA hr hs.2 (fun be hm => hp be (.inr hm)) har
      refine ⟨.row ⟨0, fun _ _ => 0⟩ (.slice none 0 0) :: pv, ⟨_, _, rfl, ⟨by simp, 0, 0, .inl ⟨rfl, none, 0, rfl⟩⟩, g1⟩, ⟨fun x j hx _ => absurd hx (Nat.not_lt_zero _), g2⟩, ?_, ?_, ?_⟩
      · simp only [pvNums, PV.nums, List.cons_append, List.nil_append, List.length_cons, g3, List.map_cons, shN]; omega
      · intro j hj
        simp only [pvNums, PV.nums, List.cons_append, List.nil_append, List.length_cons] at hj ⊢
        cases j with
        | zero => simp only [Nat.add_zero, List.getD_cons_zero, hi]; rfl
        | succ j =>
          simp only [List.getD_cons_succ]
          rw [← g4 j (by omega), show i + 1 + j = i + (j + 1) by omega]
      · simp only [List.map_cons, pvVals, selBy, g5]

theorem envOf_ext {env' : Env} {xs : List Int} {n : Nat} (hl : xs.length = n) (h1 : ∀ j, j < n → env'.v j = xs.getD j 0) (h2 : ∀ j, n ≤ j → env'.v j = 0) : envOf xs env'.f = env' := by
  cases env' with
  | mk v f =>
    simp only [envOf, Env.mk.injEq, and_true]
    funext j
    by_cases hj : j < n
    · exact (h1 j hj).symm
    · rw [show v j = 0 from h2 j (by omega)]
      simp only [List.getD_eq_getElem?_getD]
      rw [List.getElem?_eq_none (by omega)]; rfl

def RC.flatOK (c : RC) : Bool := c.sh.all fun p => match p.2 with | .flat a ks => a || Nat.beq ks.length 1 | .row _ => true

theorem RC.bookOK {P : Program} {fn : Nat → List Int → Int} {c : RC} (hc : c.OK P fn) (hs : c.flatOK = true) {B : Book} {env : Env} (he : env.f = fn) (hB : BookOK P env B) : BookOK P env (c.book B) := by
  intro f args cx sm hsm hcx hneeds ρ vs w ha hblks harrs
  simp only [RC.book, beq_dec] at hsm
  by_cases hf : f = c.f
  case neg => simp only [hf, decide_false, cond_false] at hsm; exact hB f args cx sm hsm hcx hneeds ρ vs w ha hblks harrs
  subst hf
  simp only [decide_true, cond_true] at hsm
  split at hsm
  case h_2 => exact hB _ args cx sm hsm hcx hneeds ρ vs w ha hblks harrs
  rename_i s hent
  cases hsm
  simp only [RC.entry] at hent
  split at hent
  case h_2 => cases hent
  rename_i l ar hm
  cases hin : asgIn 0 (shN c.shs) l with
  | false => rw [hin] at hent; cases hent
  | true =>
    rw [hin, cond_true] at hent
    cases hent
    generalize hes : asgL l 0 (shN c.shs) = es at hneeds harrs ⊢
    have hlen : es.length = shN c.shs := by rw [← hes]; exact length_asgL _ 0
    have hA := asg_upd (env := env) hin
    rw [hes] at hA
    have hag : Agree 0 env (env.upd 0 (denL env es)) := Env.agree env 0 _
    have hpre : ∀ be, be ∈ shPre c.shs 0 ++ c.pre → be.den (env.upd 0 (denL env es)) = true := fun be hm => by
      have := hneeds (be.sub 0 (atL es)) (List.mem_map.2 ⟨be, hm, rfl⟩)
      rwa [sub_at] at this
    obtain ⟨pv, g1, g2, g3, g4, g5⟩ := rcM_ok hag hm hA ha hs (fun be hm => hpre be (List.mem_append.2 (.inl hm))) harrs
    have hev : envOf (pvNums pv) fn = env.upd 0 (denL env es) := by
      have := envOf_ext (env' := env.upd 0 (denL env es)) (xs := pvNums pv) (n := shN c.shs) g3 (fun j hj => by
        have := g4 j (by rw [g3]; exact hj)
        rwa [Nat.zero_add] at this) (fun j hj => by
        simp only [Env.upd, Nat.not_lt_zero, if_false, Nat.sub_zero, List.getD_eq_getElem?_getD]
        rw [List.getElem?_eq_none (by rw [length_denL]; omega)]; rfl)
      rw [← he]
      exact this
    obtain ⟨q1, q2, q3⟩ := hc.calls pv w g1 (by rw [← he]; exact g2) (fun b hb => by rw [hev]; exact hpre b (List.mem_append.2 (.inr hb)))
    obtain ⟨⟨fn0, c0⟩, hent⟩ := Option.isSome_iff_exists.1 hc.ent
    obtain ⟨_, _, hcall⟩ := entered_ok hent vs.toArray w
    refine ⟨hcall, ?_, ?_, ?_⟩
    · intro b hb
      simp only [RC.summ, List.mem_map] at hb
      obtain ⟨b0, hb0, rfl⟩ := hb
      rw [sub_at, ← hev]
      exact q1 b0 hb0
    · intro e lo hi hb
      simp only [RC.summ, List.mem_map] at hb
      obtain ⟨⟨e0, r0⟩, hb0, e1⟩ := hb
      cases e1
      rw [subE_at, ← hev]
      exact q2 e0 _ _ hb0
    · rw [show selBy c.sh (pvVals c.shs pv) = vs from g5] at q3
      refine q3.mono ?_
      rintro e w' ⟨V, rfl, hV, hb⟩
      refine ⟨V, rfl, ?_, hb⟩
      have h1 := hV ρ
      rw [hev] at h1
      exact Rep.sub (env := env) (env' := env.upd 0 (denL env es)) rfl (fun i hi => by omega) (fun i hi => by rw [atL_den]; simp [Env.upd]) hc.plain h1

theorem RC.parOK {P : Program} {fn : Nat → List Int → Int} {c : RC} (hc : c.OK P fn) (hs : c.flatOK = true) {X : Par} (hX : ParOK P fn X) : ParOK P fn (c.par X) :=
  ⟨fun env he => RC.bookOK hc hs he (hX.book env he), hX.loops, hX.rows, hX.gen⟩

/-! ### proved by a run of the function's own -/

theorem selBy_rep {env : Env} {ρ : Pl} : ∀ {sh : List (Bool × PSh)} {as : List SV} {vs : List Value}, RepL env ρ as vs → RepL env ρ (selBy sh as) (selBy sh vs)
  | [], as, vs, h => by cases as <;> cases vs <;> rfl
  | (true, p) :: sh, [], vs, h => by rw [show vs = [] from h]; rfl
  | (false, p) :: sh, [], vs, h => by rw [show vs = [] from h]; rfl
  | (true, p) :: sh, a :: as, vs, h => by
      obtain ⟨v, vs', h1, h2, rfl⟩ := h
      exact ⟨v, selBy sh vs', h1, selBy_rep h2, rfl⟩
  | (false, p) :: sh, a :: as, vs, h => by
      obtain ⟨v, vs', h1, h2, rfl⟩ := h
      show RepL env ρ (selBy sh as) (selBy sh vs')
      exact selBy_rep h2

def rcArgs (sh : List (Bool × PSh)) : List SV := selBy sh (shArgs (sh.map (·.2)) 0 0)
def rcCtx (sh : List (Bool × PSh)) (pre : List BE) (d : Nat) : Ctx := assumeAll (shCtx (sh.map (·.2)) [] d) pre
def rcSt (sh : List (Bool × PSh)) : St := shSt (sh.map (·.2))

theorem RC.ctx_ok {sh : List (Bool × PSh)} {pre : List BE} {d : Nat} {w : World} {pv : List PV} {fn : Nat → List Int → Int} (hw : pvAll w (sh.map (·.2)) pv) (hp : ∀ b, b ∈ pre → b.den (envOf (pvNums pv) fn) = true) :
    (rcCtx sh pre d).ok (envOf (pvNums pv) fn) :=
  assumeAll_ok (show (shCtx (sh.map (·.2)) [] d).ok _ from ⟨shRngs_ok hw (fun j hj => by simp [envOf]), fun be v h => by simp [shCtx] at h⟩) hp

theorem RC.ok_num {P : Program} {fn : Nat → List Int → Int} {c : RC} {X : Par} {d n : Nat} {t : VT} (hmix : P.follows .mixedOrders = true) (hX : ParOK P fn X) (hp : c.v.plain = true) (hent : (entered P c.f).isSome = true)
    (ht : (run (callT P X n c.f (rcArgs c.sh) (rcCtx c.sh c.pre d)) (rcSt c.sh)).vt = t)
    (h : ∀ pv w, pvAll w c.shs pv → FnRows fn c.shs pv 0 → (∀ b, b ∈ c.pre → b.den (envOf (pvNums pv) fn) = true) →
      (∀ b, b ∈ c.facts → b.den (envOf (pvNums pv) fn) = true) ∧ (∀ p, p ∈ c.rngs → p.2.1 ≤ p.1.den (envOf (pvNums pv) fn) ∧ p.1.den (envOf (pvNums pv) fn) ≤ p.2.2) ∧
      t.holds (envOf (pvNums pv) fn) fun u => u.eqv (envOf (pvNums pv) fn) c.v) : c.OK P fn := by
  refine ⟨hp, hent, fun pv w hw hfn hpre => ?_⟩
  obtain ⟨h1, h2, h3⟩ := h pv w hw hfn hpre
  refine ⟨h1, fun e lo hi hm => h2 _ hm, ?_⟩
  rw [← ht] at h3
  obtain ⟨ρ, p3, p4⟩ := places 0 hw
  have hv : ∀ j, j < (pvNums pv).length → (envOf (pvNums pv) fn).v (0 + j) = (pvNums pv).getD j 0 := fun j hj => by simp [envOf]
  have hs : HS (envOf (pvNums pv) fn) ρ w.heap.size (shStore c.shs 0 0) w := by
    refine ⟨?_, ?_, ?_, Nat.le_refl _, ?_, hX.rows⟩
    · intro b v hg
      obtain ⟨r, o, e, ho, hb⟩ := shStore_blk hw p4 hfn hv b v hg
      exact ⟨r, o, e, fun hvd => ⟨(hb hvd).1, (fun h => by rw [ho] at h; cases h), fun _ => (hb hvd).2⟩⟩
    · intro b p e
      have := p3 b p e
      exact shStore_dom (by omega) (by omega)
    · intro b b' r o o' e e' hr hd hd'
      cases hg : (shStore c.shs 0 0).get b with
      | none =>
        have := p3 b _ e
        exact absurd hg (shStore_dom (by omega) (by omega))
      | some v =>
        rw [hg] at hd
        obtain ⟨r', o', e1, ho, hb⟩ := shStore_blk hw p4 hfn hv b v hg
        rw [e] at e1
        cases e1
        have := (hb hd.void).2
        omega
    · intro b v hg
      obtain ⟨r, o, e, ho, hb⟩ := shStore_blk hw p4 hfn hv b v hg
      cases v with
      | vec => cases ho
      | _ => exact trivial
  refine (calls_run hmix hX (env := envOf (pvNums pv) fn) rfl (RC.ctx_ok hw hpre) (selBy_rep (shArgs_rep hw p4 hv)) hs (PT.holds_vt h3)).mono ?_
  rintro e w' ⟨v, h', ρ', V, hq, rfl, hr, _, _, hb⟩
  exact ⟨V, rfl, fun ρ => Rep.eqv hq hr, hb⟩

theorem pvNums_len {w : World} : ∀ {sh : List PSh} {pv : List PV}, pvAll w sh pv → (pvNums pv).length = shN sh
  | [], pv, h => by rw [show pv = [] from h]; rfl
  | .flat ag ks :: sh, pv, h => by
      obtain ⟨p, l, rfl, h1, h2⟩ := h
      cases p with
      | row d v => exact h1.elim
      | flat xs => simp only [pvNums, PV.nums, List.length_append, pvNums_len h2, h1.1.length, shN]
  | .row ks :: sh, pv, h => by
      obtain ⟨p, l, rfl, h1, h2⟩ := h
      cases p with
      | flat xs => exact h1.elim
      | row d v => simp only [pvNums, PV.nums, List.cons_append, List.nil_append, List.length_cons, pvNums_len h2, shN]; omega

/-- the contract of a function that gives a tree's numbers -/
def pairRC (f : Nat) (sh : List (Bool × PSh)) (pre : List BE) (s : SV) (K : Nat) (rs : List (Nat × Int × Int)) : RC :=
  ⟨f, sh, s.fill (appsE K s.nums.length (shN (sh.map (·.2)))), pre, [], rs.map fun r => (.app (K + r.1) (varsE0 (shN (sh.map (·.2)))), r.2.1, r.2.2)⟩

theorem pairRC_ok {P : Program} {fn : Nat → List Int → Int} {X : Par} {d n f K : Nat} {sh : List (Bool × PSh)} {pre : List BE} {s : SV} {rs : List (Nat × Int × Int)} (t t' : VT)
    (hmix : P.follows .mixedOrders = true) (hX : ParOK P fn X) (hT : TreeIs fn K s.nums.length t) (hp : (pairRC f sh pre s K rs).v.plain = true) (hent : (entered P f).isSome = true)
    (ht : (run (callT P X n f (rcArgs sh) (rcCtx sh pre d)) (rcSt sh)).vt = t')
    (hc : t'.clean s = true) (ha : agree t (rcCtx sh pre d) t' = true) (hr : rngsT (rcCtx sh pre d) t rs = true) (hl : (rs.all fun r => Nat.blt r.1 s.nums.length) = true) : (pairRC f sh pre s K rs).OK P fn := by
  refine RC.ok_num (X := X) (d := d) (n := n) (t := t') hmix hX hp hent ht fun pv w hw hfn hpre => ?_
  have hcx : (rcCtx sh pre d).ok (envOf (pvNums pv) fn) := RC.ctx_ok hw hpre
  have hlen : (pvNums pv).length = shN (sh.map (·.2)) := pvNums_len hw
  refine ⟨by simp [pairRC], ?_, ?_⟩
  · intro p hm
    simp only [pairRC, List.mem_map] at hm
    obtain ⟨⟨j, lo, hi⟩, hm, rfl⟩ := hm
    have h1 := rngsT_ok hcx hr j lo hi hm
    have hj : j < s.nums.length := by
      have := List.all_eq_true.1 hl _ hm
      simpa [Nat.blt_eq] using this
    show lo ≤ fn (K + j) (denL (envOf (pvNums pv) fn) (varsE0 (shN (sh.map (·.2))))) ∧ fn (K + j) (denL (envOf (pvNums pv) fn) (varsE0 (shN (sh.map (·.2))))) ≤ hi
    rw [denL_vars0 _ fn _ hlen.symm, hT j _ hj]
    exact h1
  · have h2 := agree_ok hcx ha
    exact VT.holds_at hc (pair_leaf hT hlen.symm (VT.at_form hc) h2.2)
/-! ### functions that give trees' numbers, beside those of parameters' rows -/

mutual
/-- no function from K on is used, but those of rows -/
def E.loR (K : Nat) : E → Bool
  | .lit _ => true
  | .var _ => true
  | .op _ a b => a.loR K && b.loR K
  | .bin _ _ a b => a.loR K && b.loR K
  | .conv _ a => a.loR K
  | .app f l => (Nat.blt f K || Nat.ble 1000 f) && E.loRL K l
  | .ite c a b => c.loR K && a.loR K && b.loR K
  | .cmp _ a b => a.loR K && b.loR K
def E.loRL (K : Nat) : List E → Bool
  | [] => true
  | e :: l => e.loR K && E.loRL K l
end
def BE.loR (K : Nat) : BE → Bool
  | .lit _ => true
  | .cmp _ a b => a.loR K && b.loR K
  | .neg b => b.loR K
  | .and a b => a.loR K && b.loR K
  | .eqb a b => a.loR K && b.loR K
  | .tst e => e.loR K
def VT.loR (K : Nat) : VT → Bool
  | .leaf v => E.loRL K v.nums
  | .ite c t e => c.loR K && t.loR K && e.loR K
  | .need c t => c.loR K && t.loR K
  | .fail => true

/-- below K, and those of rows -/
def lowR (K k : Nat) : Prop := k < K ∨ 1000 ≤ k
def SameLowR (K : Nat) (f g : Nat → List Int → Int) : Prop := ∀ k a, lowR K k → f k a = g k a

mutual
theorem E.loR_den {K : Nat} {f g : Nat → List Int → Int} {xs : List Int} (h : SameLowR K f g) : ∀ {e : E}, e.loR K = true → e.den (envOf xs f) = e.den (envOf xs g)
  | .lit _, _ => rfl
  | .var _, _ => rfl
  | .op o a b, hb => by
      simp only [E.loR, Bool.and_eq_true] at hb
      simp only [E.den, E.loR_den h hb.1, E.loR_den h hb.2]
  | .bin o k a b, hb => by
      simp only [E.loR, Bool.and_eq_true] at hb
      simp only [E.den, E.loR_den h hb.1, E.loR_den h hb.2]
  | .conv k a, hb => by
      simp only [E.loR] at hb
      simp only [E.den, E.loR_den h hb]
  | .app k l, hb => by
      simp only [E.loR, Bool.and_eq_true, Bool.or_eq_true, Nat.blt_eq, Nat.ble_eq] at hb
      simp only [E.den, E.loRL_den h hb.2]
      exact h k _ hb.1
  | .ite c a b, hb => by
      simp only [E.loR, Bool.and_eq_true] at hb
      simp only [E.den, E.loR_den h hb.1.1, E.loR_den h hb.1.2, E.loR_den h hb.2]
  | .cmp o a b, hb => by
      simp only [E.loR, Bool.and_eq_true] at hb
      simp only [E.den, E.loR_den h hb.1, E.loR_den h hb.2]
theorem E.loRL_den {K : Nat} {f g : Nat → List Int → Int} {xs : List Int} (h : SameLowR K f g) : ∀ {l : List E}, E.loRL K l = true → denL (envOf xs f) l = denL (envOf xs g) l
  | [], _ => rfl
  | e :: l, hb => by
      simp only [E.loRL, Bool.and_eq_true] at hb
      simp only [denL, E.loR_den h hb.1, E.loRL_den h hb.2]
end
theorem BE.loR_den {K : Nat} {f g : Nat → List Int → Int} {xs : List Int} (h : SameLowR K f g) : ∀ {b : BE}, b.loR K = true → b.den (envOf xs f) = b.den (envOf xs g)
  | .lit _, _ => rfl
  | .cmp o a b, hb => by
      simp only [BE.loR, Bool.and_eq_true] at hb
      simp only [BE.den, E.loR_den h hb.1, E.loR_den h hb.2]
  | .neg b, hb => by
      simp only [BE.loR] at hb
      simp only [BE.den, BE.loR_den h hb]
  | .and a b, hb => by
      simp only [BE.loR, Bool.and_eq_true] at hb
      simp only [BE.den, BE.loR_den h hb.1, BE.loR_den h hb.2]
  | .eqb a b, hb => by
      simp only [BE.loR, Bool.and_eq_true] at hb
      simp only [BE.den, BE.loR_den h hb.1, BE.loR_den h hb.2]
  | .tst e, hb => by
      simp only [BE.loR] at hb
      simp only [BE.den, E.loR_den h hb]
theorem VT.loR_at {K : Nat} {f g : Nat → List Int → Int} {xs : List Int} (h : SameLowR K f g) : ∀ {t : VT}, t.loR K = true → t.at (envOf xs f) = t.at (envOf xs g) ∧ E.loRL K (t.at (envOf xs g)).nums = true
  | .leaf v, hb => ⟨rfl, hb⟩
  | .ite c t e, hb => by
      simp only [VT.loR, Bool.and_eq_true] at hb
      simp only [VT.at, BE.loR_den h hb.1.1]
      cases c.den (envOf xs g)
      · exact VT.loR_at h hb.2
      · exact VT.loR_at h hb.1.2
  | .need c t, hb => by
      simp only [VT.loR, Bool.and_eq_true] at hb
      exact VT.loR_at (t := t) h hb.2
  | .fail, _ => ⟨rfl, rfl⟩
theorem loRL_get {K : Nat} : ∀ {l : List E} {j : Nat}, E.loRL K l = true → (l.getD j (.lit 0)).loR K = true
  | [], j, _ => by simp [List.getD_nil, E.loR]
  | e :: l, 0, h => by simp only [E.loRL, Bool.and_eq_true] at h; exact h.1
  | e :: l, j + 1, h => by simp only [E.loRL, Bool.and_eq_true] at h; rw [List.getD_cons_succ]; exact loRL_get (l := l) h.2
theorem VT.loR_fnJ {K : Nat} {f g : Nat → List Int → Int} (h : SameLowR K f g) {t : VT} (hb : t.loR K = true) (j : Nat) (a : List Int) : t.fnJ f j a = t.fnJ g j a := by
  obtain ⟨h1, h2⟩ := VT.loR_at (xs := a) h hb
  unfold VT.fnJ
  rw [h1]
  exact E.loR_den h (loRL_get h2)

/-- what a function is below B: the tree's functions, and those beneath -/
theorem upto_treeR {fn G : Nat → List Int → Int} {B K n : Nat} {t : VT} (h : SameLowR B fn (rowed (withTree K n t G))) (hK : K + n ≤ B) (hB : B ≤ 1000) (hb : t.loR K = true) : TreeIs fn K n t ∧ SameLowR K fn (rowed G) := by
  have h2 : SameLowR K fn (rowed G) := by
    intro k a hk
    rw [h k a (by unfold lowR at *; omega)]
    by_cases h5 : 1000 ≤ k ∧ k < 5000
    · exact rowed_high _ _ k a h5.1 h5.2
    · unfold lowR at hk
      unfold rowed
      rw [if_neg h5, if_neg h5]
      unfold withTree
      rw [if_neg (by omega)]
  refine ⟨fun j a hj => ?_, h2⟩
  rw [h _ a (.inl (by omega)), rowed_lo _ _ _ (by omega)]
  unfold withTree
  rw [if_pos ⟨by omega, by omega⟩, Nat.add_sub_cancel_left]
  exact (VT.loR_fnJ h2 hb j a).symm


/-! ### a tree with other expressions in its comparisons, that are equal -/

def E.rw1 (ps : List (E × E)) (e : E) : E := match ps.find? (fun p => p.1.same e) with
  | some p => p.2
  | none => e
def BE.rwC (ps : List (E × E)) : BE → BE
  | .cmp o a b => .cmp o a (b.rw1 ps)
  | b => b
mutual
def SV.rwC (ps : List (E × E)) : SV → SV
  | .bool b => .bool (b.rwC ps)
  | .agg l => .agg (SV.rwCL ps l)
  | .tuple l => .tuple (SV.rwCL ps l)
  | v => v
def SV.rwCL (ps : List (E × E)) : List SV → List SV
  | [] => []
  | v :: l => v.rwC ps :: SV.rwCL ps l
end
def VT.rwC (ps : List (E × E)) : VT → VT
  | .leaf v => .leaf (v.rwC ps)
  | .ite c t e => .ite (c.rwC ps) (t.rwC ps) (e.rwC ps)
  | .need c t => .need c (t.rwC ps)
  | .fail => .fail
def PsOK (env : Env) (ps : List (E × E)) : Prop := ∀ p, p ∈ ps → p.1.den env = p.2.den env
theorem rw1_den {env : Env} {ps : List (E × E)} (h : PsOK env ps) (e : E) : (e.rw1 ps).den env = e.den env := by
  unfold E.rw1
  split
  · rename_i p hp
    have h1 := List.find?_some hp
    have h2 := h p (List.mem_of_find?_eq_some hp)
    rw [← h2, E.same_eq h1]
  · rfl
theorem rwC_den {env : Env} {ps : List (E × E)} (h : PsOK env ps) (b : BE) : (b.rwC ps).den env = b.den env := by
  cases b <;> simp only [BE.rwC, BE.den, rw1_den h]
mutual
theorem rwC_nums {env : Env} {ps : List (E × E)} (h : PsOK env ps) : ∀ (v : SV), denL env (v.rwC ps).nums = denL env v.nums
  | .bool b => by simp only [SV.rwC, SV.nums, denL, toE_ok, rwC_den h]
  | .agg l => by simp only [SV.rwC, SV.nums]; exact rwCL_nums h l
  | .tuple l => by simp only [SV.rwC, SV.nums]; exact rwCL_nums h l
  | .int .. | .ptr _ | .slice .. | .func .. | .nilFunc | .nilIface | .iface .. | .str _ | .nilMap | .any | .vsl .. | .vg .. => rfl
theorem rwCL_nums {env : Env} {ps : List (E × E)} (h : PsOK env ps) : ∀ (l : List SV), denL env (SV.numsL (SV.rwCL ps l)) = denL env (SV.numsL l)
  | [] => rfl
  | v :: l => by simp only [SV.rwCL, SV.numsL, denL_append, rwC_nums h v, rwCL_nums h l]
end
theorem rwC_at {env : Env} {ps : List (E × E)} (h : PsOK env ps) : ∀ (t : VT), (t.rwC ps).at env = (t.at env).rwC ps
  | .leaf v => rfl
  | .ite c t e => by
      simp only [VT.rwC, VT.at, rwC_den h, rwC_at h t, rwC_at h e]
      cases c.den env <;> rfl
  | .need c t => by simp only [VT.rwC, VT.at, rwC_at h t]
  | .fail => rfl
theorem denL_getD {env : Env} : ∀ (l : List E) (j : Nat), (l.getD j (.lit 0)).den env = (denL env l).getD j 0
  | [], j => by simp [denL, E.den]
  | e :: l, 0 => by simp [denL]
  | e :: l, j + 1 => by simp only [denL, List.getD_cons_succ]; exact denL_getD l j

/-- as pairRC_ok; the other tree agrees with this one when some expressions are put in the place of equal ones -/
theorem pairRC_ok2 {P : Program} {fn : Nat → List Int → Int} {X : Par} {d n f K : Nat} {sh : List (Bool × PSh)} {pre : List BE} {s : SV} (t t' : VT) (ps : List (E × E))
    (hmix : P.follows .mixedOrders = true) (hX : ParOK P fn X) (hT : TreeIs fn K s.nums.length t) (hp : (pairRC f sh pre s K []).v.plain = true) (hent : (entered P f).isSome = true)
    (ht : (run (callT P X n f (rcArgs sh) (rcCtx sh pre d)) (rcSt sh)).vt = t')
    (hc : t'.clean s = true) (ha : agree (t.rwC ps) (rcCtx sh pre d) t' = true) (hps : ∀ env, env.f = fn → PsOK env ps) : (pairRC f sh pre s K []).OK P fn := by
  refine RC.ok_num (X := X) (d := d) (n := n) (t := t') hmix hX hp hent ht fun pv w hw hfn hpre => ?_
  have hcx : (rcCtx sh pre d).ok (envOf (pvNums pv) fn) := RC.ctx_ok hw hpre
  have hlen : (pvNums pv).length = shN (sh.map (·.2)) := pvNums_len hw
  refine ⟨by simp [pairRC], by simp [pairRC], ?_⟩
  have h2 := agree_ok hcx ha
  refine VT.holds_at hc (pair_leaf hT hlen.symm (VT.at_form hc) fun j => ?_)
  rw [h2.2 j, rwC_at (hps _ rfl), denL_getD, rwC_nums (hps _ rfl), ← denL_getD]
end Go.SX
