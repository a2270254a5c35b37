/- Contracts of pairs: what a function's tree comes to is a function of its arguments; another tree that is seen to agree has the same contract. -/
import Derived.Test.YtjgkcgkhcdeadaaSw39
namespace Go.SX
open Go Go.RowKit
set_option linter.unusedVariables false
set_option linter.unusedSimpArgs false
set_option linter.unusedSectionVars false

/-! ### the numbers of a value -/

mutual
def SV.nums : SV → List E
  | .int _ e => [e]
  | .bool b => [b.toE]
  | .agg l => SV.numsL l
  | .tuple l => SV.numsL l
  | _ => []
def SV.numsL : List SV → List E
  | [] => []
  | v :: l => v.nums ++ SV.numsL l
end

mutual
/-- the same value with other numbers -/
def SV.fill : SV → List E → SV
  | .int k _, es => .int k (es.headD (.lit 0))
  | .bool _, es => .bool (.tst (es.headD (.lit 0)))
  | .agg l, es => .agg (SV.fillL l es)
  | .tuple l, es => .tuple (SV.fillL l es)
  | v, _ => v
def SV.fillL : List SV → List E → List SV
  | [], _ => []
  | v :: l, es => v.fill es :: SV.fillL l (es.drop v.nums.length)
end

mutual
/-- values of the same form, of integers and bools -/
def SV.form : SV → SV → Bool
  | .int k _, .int k' _ => decide (k = k')
  | .bool _, .bool _ => true
  | .agg l, .agg l' => SV.formL l l'
  | .tuple l, .tuple l' => SV.formL l l'
  | _, _ => false
def SV.formL : List SV → List SV → Bool
  | [], [] => true
  | v :: l, v' :: l' => v.form v' && SV.formL l l'
  | _, _ => false
end

mutual
theorem SV.form_len : ∀ {u v : SV}, u.form v = true → u.nums.length = v.nums.length
  | .int _ _, .int _ _, _ => rfl
  | .bool _, .bool _, _ => rfl
  | .agg l, .agg l', h => by simpa [SV.nums] using SV.formL_len (by simpa [SV.form] using h)
  | .tuple l, .tuple l', h => by simpa [SV.nums] using SV.formL_len (by simpa [SV.form] using h)
  | .int .., .bool _, h | .int .., .ptr _, h | .int .., .slice .., h | .int .., .func .., h | .int .., .nilFunc, h | .int .., .nilIface, h | .int .., .iface .., h | .int .., .str _, h | .int .., .nilMap, h | .int .., .agg _, h | .int .., .tuple _, h | .int .., .any, h | .int .., .vsl .., h | .int .., .vg .., h => by simp [SV.form] at h
  | .bool _, .int .., h | .bool _, .ptr _, h | .bool _, .slice .., h | .bool _, .func .., h | .bool _, .nilFunc, h | .bool _, .nilIface, h | .bool _, .iface .., h | .bool _, .str _, h | .bool _, .nilMap, h | .bool _, .agg _, h | .bool _, .tuple _, h | .bool _, .any, h | .bool _, .vsl .., h | .bool _, .vg .., h => by simp [SV.form] at h
  | .agg _, .int .., h | .agg _, .bool _, h | .agg _, .ptr _, h | .agg _, .slice .., h | .agg _, .func .., h | .agg _, .nilFunc, h | .agg _, .nilIface, h | .agg _, .iface .., h | .agg _, .str _, h | .agg _, .nilMap, h | .agg _, .tuple _, h | .agg _, .any, h | .agg _, .vsl .., h | .agg _, .vg .., h => by simp [SV.form] at h
  | .tuple _, .int .., h | .tuple _, .bool _, h | .tuple _, .ptr _, h | .tuple _, .slice .., h | .tuple _, .func .., h | .tuple _, .nilFunc, h | .tuple _, .nilIface, h | .tuple _, .iface .., h | .tuple _, .str _, h | .tuple _, .nilMap, h | .tuple _, .agg _, h | .tuple _, .any, h | .tuple _, .vsl .., h | .tuple _, .vg .., h => by simp [SV.form] at h
  | .ptr _, _, h | .slice .., _, h | .func .., _, h | .nilFunc, _, h | .nilIface, _, h | .iface .., _, h | .str _, _, h | .nilMap, _, h | .any, _, h | .vsl .., _, h | .vg .., _, h => by simp [SV.form] at h
theorem SV.formL_len : ∀ {u v : List SV}, SV.formL u v = true → (SV.numsL u).length = (SV.numsL v).length
  | [], [], _ => rfl
  | u :: l, v :: l', h => by
      simp only [SV.formL, Bool.and_eq_true] at h
      simp only [SV.numsL, List.length_append, SV.form_len h.1, SV.formL_len h.2]
  | [], _ :: _, h => by simp [SV.formL] at h
  | _ :: _, [], h => by simp [SV.formL] at h
end

theorem toE_tst (env : Env) (b : BE) (e : E) (h : b.toE.den env = e.den env) : b.den env = (BE.tst e).den env := by
  rw [toE_ok] at h
  simp only [BE.den, ← h]
  cases b.den env <;> rfl

mutual
/-- a value whose numbers are those of the expressions stands for what they make of its form -/
theorem SV.eqv_fill {env : Env} : ∀ {u v : SV} {es : List E}, u.form v = true → (∀ j, j < u.nums.length → (u.nums.getD j (.lit 0)).den env = (es.getD j (.lit 0)).den env) → SV.eqv env u (v.fill es)
  | .int k e, .int k' e', es, h, g => by
      have hk : k = k' := by simpa [SV.form] using h
      refine ⟨hk, ?_⟩
      have := g 0 (by simp [SV.nums])
      simp only [SV.nums, List.getD_cons_zero] at this
      rw [this]
      cases es <;> rfl
  | .bool b, .bool b', es, h, g => by
      have := g 0 (by simp [SV.nums])
      simp only [SV.nums, List.getD_cons_zero] at this
      simp only [SV.fill, SV.eqv]
      refine toE_tst env b _ ?_
      rw [this]
      cases es <;> rfl
  | .agg l, .agg l', es, h, g => by
      simp only [SV.fill, SV.eqv]
      exact SV.eqvL_fill (by simpa [SV.form] using h) (by simpa only [SV.nums] using g)
  | .tuple l, .tuple l', es, h, g => by
      simp only [SV.fill, SV.eqv]
      exact SV.eqvL_fill (by simpa [SV.form] using h) (by simpa only [SV.nums] using g)
  | .int .., .bool _, _, h, _ | .int .., .ptr _, _, h, _ | .int .., .slice .., _, h, _ | .int .., .func .., _, h, _ | .int .., .nilFunc, _, h, _ | .int .., .nilIface, _, h, _ | .int .., .iface .., _, h, _ | .int .., .str _, _, h, _ | .int .., .nilMap, _, h, _ | .int .., .agg _, _, h, _ | .int .., .tuple _, _, h, _ | .int .., .any, _, h, _ | .int .., .vsl .., _, h, _ | .int .., .vg .., _, h, _ => by simp [SV.form] at h
  | .bool _, .int .., _, h, _ | .bool _, .ptr _, _, h, _ | .bool _, .slice .., _, h, _ | .bool _, .func .., _, h, _ | .bool _, .nilFunc, _, h, _ | .bool _, .nilIface, _, h, _ | .bool _, .iface .., _, h, _ | .bool _, .str _, _, h, _ | .bool _, .nilMap, _, h, _ | .bool _, .agg _, _, h, _ | .bool _, .tuple _, _, h, _ | .bool _, .any, _, h, _ | .bool _, .vsl .., _, h, _ | .bool _, .vg .., _, h, _ => by simp [SV.form] at h
  | .agg _, .int .., _, h, _ | .agg _, .bool _, _, h, _ | .agg _, .ptr _, _, h, _ | .agg _, .slice .., _, h, _ | .agg _, .func .., _, h, _ | .agg _, .nilFunc, _, h, _ | .agg _, .nilIface, _, h, _ | .agg _, .iface .., _, h, _ | .agg _, .str _, _, h, _ | .agg _, .nilMap, _, h, _ | .agg _, .tuple _, _, h, _ | .agg _, .any, _, h, _ | .agg _, .vsl .., _, h, _ | .agg _, .vg .., _, h, _ => by simp [SV.form] at h
  | .tuple _, .int .., _, h, _ | .tuple _, .bool _, _, h, _ | .tuple _, .ptr _, _, h, _ | .tuple _, .slice .., _, h, _ | .tuple _, .func .., _, h, _ | .tuple _, .nilFunc, _, h, _ | .tuple _, .nilIface, _, h, _ | .tuple _, .iface .., _, h, _ | .tuple _, .str _, _, h, _ | .tuple _, .nilMap, _, h, _ | .tuple _, .agg _, _, h, _ | .tuple _, .any, _, h, _ | .tuple _, .vsl .., _, h, _ | .tuple _, .vg .., _, h, _ => by simp [SV.form] at h
  | .ptr _, _, _, h, _ | .slice .., _, _, h, _ | .func .., _, _, h, _ | .nilFunc, _, _, h, _ | .nilIface, _, _, h, _ | .iface .., _, _, h, _ | .str _, _, _, h, _ | .nilMap, _, _, h, _ | .any, _, _, h, _ | .vsl .., _, _, h, _ | .vg .., _, _, h, _ => by simp [SV.form] at h
theorem SV.eqvL_fill {env : Env} : ∀ {u v : List SV} {es : List E}, SV.formL u v = true → (∀ j, j < (SV.numsL u).length → ((SV.numsL u).getD j (.lit 0)).den env = (es.getD j (.lit 0)).den env) → SV.eqvL env u (SV.fillL v es)
  | [], [], es, _, _ => by simp only [SV.fillL, SV.eqvL]
  | u :: l, v :: l', es, h, g => by
      simp only [SV.formL, Bool.and_eq_true] at h
      simp only [SV.fillL, SV.eqvL]
      refine ⟨SV.eqv_fill h.1 fun j hj => ?_, SV.eqvL_fill h.2 fun j hj => ?_⟩
      · have := g j (by simp only [SV.numsL, List.length_append]; omega)
        rw [← this]
        simp only [SV.numsL, List.getD_eq_getElem?_getD, List.getElem?_append_left hj]
      · have := g (u.nums.length + j) (by simp only [SV.numsL, List.length_append]; omega)
        rw [SV.numsL] at this
        simp only [List.getD_eq_getElem?_getD] at this ⊢
        rw [List.getElem?_append_right (by omega), Nat.add_sub_cancel_left] at this
        rw [this, List.getElem?_drop, SV.form_len h.1]
  | [], _ :: _, _, h, _ => by simp [SV.formL] at h
  | _ :: _, [], _, h, _ => by simp [SV.formL] at h
end

/-! ### what a tree comes to -/

def VT.at (env : Env) : VT → SV
  | .leaf v => v
  | .ite c t e => bif c.den env then t.at env else e.at env
  | .need _ t => t.at env
  | .fail => .any
/-- no test that must hold; every leaf of the form -/
def VT.clean (s : SV) : VT → Bool
  | .leaf v => v.form s
  | .ite _ t e => t.clean s && e.clean s
  | _ => false
theorem VT.holds_at {env : Env} {s : SV} {Q : SV → Prop} : ∀ {t : VT}, t.clean s = true → Q (t.at env) → t.holds env Q
  | .leaf v, _, h => h
  | .ite c t e, hc, h => by
      simp only [VT.clean, Bool.and_eq_true] at hc
      simp only [VT.holds]
      refine ⟨fun hv => VT.holds_at hc.1 ?_, fun hv => VT.holds_at hc.2 ?_⟩ <;> simpa [VT.at, hv] using h
  | .need _ _, hc, _ => by simp [VT.clean] at hc
  | .fail, hc, _ => by simp [VT.clean] at hc
theorem VT.at_form {env : Env} {s : SV} : ∀ {t : VT}, t.clean s = true → (t.at env).form s = true
  | .leaf v, h => h
  | .ite c t e, h => by
      simp only [VT.clean, Bool.and_eq_true] at h
      simp only [VT.at]
      cases c.den env
      · exact VT.at_form h.2
      · exact VT.at_form h.1
  | .need _ _, hc => by simp [VT.clean] at hc
  | .fail, hc => by simp [VT.clean] at hc

/-- number j of what a tree comes to -/
noncomputable def VT.fnJ (t : VT) (fn : Nat → List Int → Int) (j : Nat) (a : List Int) : Int :=
  ((t.at (envOf a fn)).nums.getD j (.lit 0)).den (envOf a fn)
/-- the functions from K on give a tree's numbers -/
def TreeIs (fn : Nat → List Int → Int) (K n : Nat) (t : VT) : Prop := ∀ j a, j < n → fn (K + j) a = t.fnJ fn j a

def appE (K m : Nat) : List E := (List.range m).map fun j => .app K ((List.range 0).map E.var)
def varsE0 (n : Nat) : List E := (List.range n).map E.var
def appsE (K m n : Nat) : List E := (List.range m).map fun j => .app (K + j) (varsE0 n)
theorem denL_vars0 (xs : List Int) (fn : Nat → List Int → Int) : ∀ n, n = xs.length → denL (envOf xs fn) (varsE0 n) = xs := by
  intro n hn
  subst hn
  have key : ∀ (l : List Nat), denL (envOf xs fn) (l.map E.var) = l.map fun i => xs.getD i 0 := by
    intro l
    induction l with
    | nil => rfl
    | cons a l ih => simp only [List.map_cons, denL, ih]; rfl
  unfold varsE0
  rw [key]
  apply List.ext_getElem
  · simp
  · intro i h1 h2
    simp [List.getD_eq_getElem?_getD, List.getElem?_eq_getElem h2]
theorem appsE_getD (K m n j : Nat) (h : j < m) : (appsE K m n).getD j (.lit 0) = .app (K + j) (varsE0 n) := by
  simp [appsE, List.getD_eq_getElem?_getD, h]

/-! ### two trees that agree -/

/-- two expressions that are seen to be equal -/
def sameU (cx : Ctx) (a b : E) : Bool := a.same b || (resolveL cx (mkCmp cx .eql a b) == some true || resolveD cx (mkCmp cx .eql a b) == some true)
def sameArgs (cx : Ctx) : List E → List E → Bool
  | [], [] => true
  | a :: l, b :: l' => sameU cx a b && sameArgs cx l l'
  | _, _ => false
def sameApp (cx : Ctx) : E → E → Bool
  | .app f l, .app g l' => Nat.beq f g && sameArgs cx l l'
  | _, _ => false
theorem sameU_ok {env : Env} {cx : Ctx} (hc : cx.ok env) {a b : E} (h : sameU cx a b = true) : a.den env = b.den env := by
  simp only [sameU, Bool.or_eq_true, beq_iff_eq] at h
  rcases h with h1 | h1 | h1
  · rw [E.same_eq h1]
  · have := resolveL_ok hc h1
    rw [mkCmp_ok hc] at this
    simpa [cmpI] using this
  · have := resolveD_ok hc h1
    rw [mkCmp_ok hc] at this
    simpa [cmpI] using this
theorem sameArgs_ok {env : Env} {cx : Ctx} (hc : cx.ok env) : ∀ {l l' : List E}, sameArgs cx l l' = true → denL env l = denL env l'
  | [], [], _ => rfl
  | a :: l, b :: l', h => by
      simp only [sameArgs, Bool.and_eq_true] at h
      simp only [denL, sameU_ok hc h.1, sameArgs_ok hc h.2]
  | [], _ :: _, h => by simp [sameArgs] at h
  | _ :: _, [], h => by simp [sameArgs] at h
theorem sameApp_ok {env : Env} {cx : Ctx} (hc : cx.ok env) {a b : E} (h : sameApp cx a b = true) : a.den env = b.den env := by
  unfold sameApp at h
  split at h
  · simp only [Bool.and_eq_true, beq_dec, decide_eq_true_eq] at h
    simp only [E.den, h.1, sameArgs_ok hc h.2]
  · cases h
/-- the numbers of two leaves are the same, as far as it is seen -/
def numsSame (cx : Ctx) : List E → List E → Bool
  | [], [] => true
  | a :: l, b :: l' => (sameU cx a b || (sameApp cx a b || sameS cx a b)) && numsSame cx l l'
  | _, _ => false
theorem numsSame_ok {env : Env} {cx : Ctx} (hc : cx.ok env) : ∀ {l l' : List E}, numsSame cx l l' = true → l.length = l'.length ∧ ∀ j, (l.getD j (.lit 0)).den env = (l'.getD j (.lit 0)).den env
  | [], [], _ => ⟨rfl, fun j => rfl⟩
  | a :: l, b :: l', h => by
      simp only [numsSame, Bool.and_eq_true, Bool.or_eq_true] at h
      obtain ⟨e1, e2⟩ := numsSame_ok hc h.2
      refine ⟨by simp [e1], fun j => ?_⟩
      cases j with
      | zero =>
        simp only [List.getD_cons_zero]
        rcases h.1 with h1 | h1
        · exact sameU_ok hc h1
        · rcases h1 with h1 | h1
          · exact sameApp_ok hc h1
          · exact sameS_ok hc h1
      | succ j => simpa only [List.getD_cons_succ] using e2 j
  | [], _ :: _, h => by simp [numsSame] at h
  | _ :: _, [], h => by simp [numsSame] at h

/-- a leaf against a tree -/
def agreeL (u : SV) : Ctx → VT → Bool
  | cx, .leaf v => numsSame cx u.nums v.nums
  | cx, .ite c a b => match resolveJ cx c with
    | some true => agreeL u cx a
    | some false => agreeL u cx b
    | none => (deadC (assumeJ 50 cx c true) || agreeL u (assumeJ 50 cx c true) a) && (deadC (assumeJ 50 cx c false) || agreeL u (assumeJ 50 cx c false) b)
  | _, _ => false
def agree (t : VT) : Ctx → VT → Bool
  | cx, .leaf u => agreeL u cx t
  | cx, .ite c a b => (deadC (assumeJ 50 cx c true) || agree t (assumeJ 50 cx c true) a) && (deadC (assumeJ 50 cx c false) || agree t (assumeJ 50 cx c false) b)
  | _, _ => false

theorem agreeL_ok {env : Env} {u : SV} : ∀ {t : VT} {cx : Ctx}, cx.ok env → agreeL u cx t = true → u.nums.length = (t.at env).nums.length ∧ ∀ j, (u.nums.getD j (.lit 0)).den env = ((t.at env).nums.getD j (.lit 0)).den env
  | .leaf v, cx, hc, h => numsSame_ok hc h
  | .ite c a b, cx, hc, h => by
      simp only [agreeL] at h
      simp only [VT.at]
      split at h
      · rename_i hr; rw [resolveJ_ok hc hr]; exact agreeL_ok hc h
      · rename_i hr; rw [resolveJ_ok hc hr]; exact agreeL_ok hc h
      · simp only [Bool.and_eq_true, Bool.or_eq_true] at h
        cases hv : c.den env with
        | true =>
          have hc' := assumeJ_ok 50 hc hv
          exact agreeL_ok hc' (h.1.resolve_left fun hd => deadC_ok hc' hd)
        | false =>
          have hc' := assumeJ_ok 50 hc hv
          exact agreeL_ok hc' (h.2.resolve_left fun hd => deadC_ok hc' hd)
  | .need _ _, _, _, h => by simp [agreeL] at h
  | .fail, _, _, h => by simp [agreeL] at h
theorem agree_ok {env : Env} {t : VT} : ∀ {t' : VT} {cx : Ctx}, cx.ok env → agree t cx t' = true → (t'.at env).nums.length = (t.at env).nums.length ∧ ∀ j, ((t'.at env).nums.getD j (.lit 0)).den env = ((t.at env).nums.getD j (.lit 0)).den env
  | .leaf u, cx, hc, h => agreeL_ok hc h
  | .ite c a b, cx, hc, h => by
      simp only [agree, Bool.and_eq_true, Bool.or_eq_true] at h
      simp only [VT.at]
      cases hv : c.den env with
      | true =>
        have hc' := assumeJ_ok 50 hc hv
        exact agree_ok hc' (h.1.resolve_left fun hd => deadC_ok hc' hd)
      | false =>
        have hc' := assumeJ_ok 50 hc hv
        exact agree_ok hc' (h.2.resolve_left fun hd => deadC_ok hc' hd)
  | .need _ _, _, _, h => by simp [agree] at h
  | .fail, _, _, h => by simp [agree] at h

/-! ### the ranges of what a tree comes to -/

def bndT (j : Nat) : Ctx → VT → Option (Option (Int × Int))
  | cx, .leaf v => (bnd cx (v.nums.getD j (.lit 0))).map some
  | cx, .ite c a b =>
    let l := if deadC (assumeJ 50 cx c true) then some none else bndT j (assumeJ 50 cx c true) a
    let r := if deadC (assumeJ 50 cx c false) then some none else bndT j (assumeJ 50 cx c false) b
    match l, r with
    | some none, r => r
    | l, some none => l
    | some (some x), some (some y) => some (some (min x.1 y.1, max x.2 y.2))
    | _, _ => none
  | _, _ => none
theorem bndT_ok {env : Env} {j : Nat} : ∀ {t : VT} {cx : Ctx}, cx.ok env → ∀ o, bndT j cx t = some o → ∃ r, o = some r ∧ r.1 ≤ ((t.at env).nums.getD j (.lit 0)).den env ∧ ((t.at env).nums.getD j (.lit 0)).den env ≤ r.2
  | .leaf v, cx, hc, o, h => by
      simp only [bndT, Option.map_eq_some_iff] at h
      obtain ⟨r, h, rfl⟩ := h
      exact ⟨r, rfl, bnd_ok hc _ _ h⟩
  | .ite c a b, cx, hc, o, h => by
      simp only [bndT] at h
      generalize hl : (if deadC (assumeJ 50 cx c true) then some none else bndT j (assumeJ 50 cx c true) a) = l at h
      generalize hr : (if deadC (assumeJ 50 cx c false) then some none else bndT j (assumeJ 50 cx c false) b) = r at h
      simp only [VT.at]
      cases hv : c.den env with
      | true =>
        have hc' := assumeJ_ok 50 hc hv
        have hd : ¬ deadC (assumeJ 50 cx c true) = true := fun hd => deadC_ok hc' hd
        rw [if_neg hd] at hl
        have key := bndT_ok (j := j) hc' (t := a)
        simp only [cond_true]
        split at h
        · obtain ⟨_, h1, _⟩ := key _ hl; cases h1
        · rw [h] at hl; exact key _ hl
        · rename_i x y
          cases h
          obtain ⟨_, h1, h2, h3⟩ := key _ hl
          cases h1
          exact ⟨_, rfl, by simp only; omega, by simp only; omega⟩
        · cases h
      | false =>
        have hc' := assumeJ_ok 50 hc hv
        have hd : ¬ deadC (assumeJ 50 cx c false) = true := fun hd => deadC_ok hc' hd
        rw [if_neg hd] at hr
        have key := bndT_ok (j := j) hc' (t := b)
        simp only [cond_false]
        split at h
        · rw [h] at hr; exact key _ hr
        · obtain ⟨_, h1, _⟩ := key _ hr; cases h1
        · rename_i x y
          cases h
          obtain ⟨_, h1, h2, h3⟩ := key _ hr
          cases h1
          exact ⟨_, rfl, by simp only; omega, by simp only; omega⟩
        · cases h
  | .need _ _, _, _, _, h => by simp [bndT] at h
  | .fail, _, _, _, h => by simp [bndT] at h

/-! ### the contracts -/

/-- the ranges that are told of the numbers: each is seen -/
def rngsT (cx : Ctx) (t : VT) : List (Nat × Int × Int) → Bool
  | [] => true
  | (j, lo, hi) :: l => (match bndT j cx t with
    | some (some r) => decide (lo ≤ r.1) && decide (r.2 ≤ hi)
    | _ => false) && rngsT cx t l
theorem rngsT_ok {env : Env} {cx : Ctx} (hc : cx.ok env) {t : VT} : ∀ {l : List (Nat × Int × Int)}, rngsT cx t l = true → ∀ j lo hi, (j, lo, hi) ∈ l → lo ≤ ((t.at env).nums.getD j (.lit 0)).den env ∧ ((t.at env).nums.getD j (.lit 0)).den env ≤ hi
  | [], _, j, lo, hi, h => by cases h
  | (j', lo', hi') :: l, h, j, lo, hi, hm => by
      simp only [rngsT, Bool.and_eq_true] at h
      rcases List.mem_cons.1 hm with e | hm
      · cases e
        have h1 := h.1
        split at h1
        · rename_i r hr
          simp only [Bool.and_eq_true, decide_eq_true_eq] at h1
          obtain ⟨r', e, h2⟩ := bndT_ok hc (t := t) _ hr
          cases e
          omega
        · cases h1
      · exact rngsT_ok hc h.2 j lo hi hm

/-- the contract of a function that gives a tree's numbers -/
def pairFC (f : Nat) (sig : List (Bool × List (Option IntKind))) (pre : List BE) (s : SV) (K : Nat) (rs : List (Nat × Int × Int)) : FC :=
  ⟨f, sig, s.fill (appsE K s.nums.length (kindsAll sig).length), pre, [], rs.map fun r => (.app (K + r.1) (varsE0 (kindsAll sig).length), r.2.1, r.2.2)⟩

theorem wfAll_len {l : List (Bool × List (Option IntKind))} : ∀ {r : List (List Int)}, wfAll l r → r.flatten.length = (kindsAll l).length := by
  induction l with
  | nil => intro r h; rw [show r = [] from h]; rfl
  | cons p l ih =>
    intro r h
    obtain ⟨b, ks⟩ := p
    obtain ⟨xs, r', rfl, hw, _, h⟩ := h
    have hl : ∀ {ks : List (Option IntKind)} {xs : List Int}, wfL ks xs → xs.length = ks.length := by
      intro ks
      induction ks with
      | nil => intro xs h; rw [show xs = [] from h]; rfl
      | cons k ks ih => intro xs h; obtain ⟨x, xs', rfl, _, h⟩ := h; simp [ih h]
    simp only [List.flatten_cons, List.length_append, ih h, hl hw]
    simp [kindsAll]

theorem pair_leaf {fn : Nat → List Int → Int} {a : List Int} {s : SV} {K n : Nat} {t : VT} (hT : TreeIs fn K s.nums.length t) (hn : n = a.length) {u : SV}
    (hf : u.form s = true) (hu : ∀ j, (u.nums.getD j (.lit 0)).den (envOf a fn) = ((t.at (envOf a fn)).nums.getD j (.lit 0)).den (envOf a fn)) :
    u.eqv (envOf a fn) (s.fill (appsE K s.nums.length n)) := by
  refine SV.eqv_fill hf fun j hj => ?_
  rw [SV.form_len hf] at hj
  rw [appsE_getD _ _ _ _ hj, hu j]
  show _ = fn (K + j) (denL (envOf a fn) (varsE0 n))
  rw [denL_vars0 a fn n hn, hT j a hj]
  rfl

/-- of the function whose tree it is (t = t'), or of another one whose tree agrees -/
theorem pair_ok {P : Program} {fn : Nat → List Int → Int} {X : Par} {d n f K : Nat} {sig : List (Bool × List (Option IntKind))} {pre : List BE} {s : SV} {rs : List (Nat × Int × Int)} (t t' : VT)
    (hmix : P.follows .mixedOrders = true) (hX : ParOK P fn X) (hT : TreeIs fn K s.nums.length t) (hp : (pairFC f sig pre s K rs).v.plain = true) (hent : (entered P f).isSome = true)
    (ht : (run (callT P X n f (symAll sig 0) (ctxA sig pre d)) st0).vt = t')
    (hc : t'.clean s = true) (ha : agree t (ctxA sig pre d) t' = true) (hr : rngsT (ctxA sig pre d) t rs = true) (hl : (rs.all fun r => Nat.blt r.1 s.nums.length) = true) : (pairFC f sig pre s K rs).OK P fn := by
  refine FC.ok_num (X := X) (d := d) (n := n) (t := t') hmix hX hp hent ht fun r hw hpre => ?_
  have hcx : (ctxA sig pre d).ok (envOf r.flatten fn) := ctxA_ok hw hpre
  have hlen : r.flatten.length = (kindsAll sig).length := wfAll_len hw
  refine ⟨by simp [pairFC], ?_, ?_⟩
  · intro p hm
    simp only [pairFC, List.mem_map] at hm
    obtain ⟨⟨j, lo, hi⟩, hm, rfl⟩ := hm
    have h1 := rngsT_ok hcx hr j lo hi hm
    have hj : j < s.nums.length := by
      have := List.all_eq_true.1 hl _ hm
      simpa [Nat.blt_eq] using this
    show lo ≤ fn (K + j) (denL (envOf r.flatten fn) (varsE0 (kindsAll sig).length)) ∧ fn (K + j) (denL (envOf r.flatten fn) (varsE0 (kindsAll sig).length)) ≤ hi
    rw [denL_vars0 _ fn _ hlen.symm, hT j _ hj]
    exact h1
  · have h2 := agree_ok hcx ha
    exact VT.holds_at hc (pair_leaf hT hlen.symm (VT.at_form hc) h2.2)

/-! ### functions that give trees' numbers, one upon the other -/

/-- from K on, n functions are those of a tree -/
noncomputable def withTree (K n : Nat) (t : VT) (g : Nat → List Int → Int) : Nat → List Int → Int := fun k a => if K ≤ k ∧ k < K + n then t.fnJ (rowed g) (k - K) a else g k a

mutual
/-- no function from K on is used, but those of rows -/
def E.loK (K : Nat) : E → Bool
  | .lit _ => true
  | .var _ => true
  | .op _ a b => a.loK K && b.loK K
  | .bin _ _ a b => a.loK K && b.loK K
  | .conv _ a => a.loK K
  | .app f l => (Nat.blt f K || (Nat.ble 1000 f && Nat.blt f 5000)) && E.loKL K l
  | .ite c a b => c.loK K && a.loK K && b.loK K
  | .cmp _ a b => a.loK K && b.loK K
def E.loKL (K : Nat) : List E → Bool
  | [] => true
  | e :: l => e.loK K && E.loKL K l
end
def BE.loK (K : Nat) : BE → Bool
  | .lit _ => true
  | .cmp _ a b => a.loK K && b.loK K
  | .neg b => b.loK K
  | .and a b => a.loK K && b.loK K
  | .eqb a b => a.loK K && b.loK K
  | .tst e => e.loK K
def VT.loK (K : Nat) : VT → Bool
  | .leaf v => E.loKL K v.nums
  | .ite c t e => c.loK K && t.loK K && e.loK K
  | .need c t => c.loK K && t.loK K
  | .fail => true

/-- below K, and those of rows -/
def low (K k : Nat) : Prop := k < K ∨ (1000 ≤ k ∧ k < 5000)
def SameLow (K : Nat) (f g : Nat → List Int → Int) : Prop := ∀ k a, low K k → f k a = g k a

mutual
theorem E.loK_den {K : Nat} {f g : Nat → List Int → Int} {xs : List Int} (h : SameLow K f g) : ∀ {e : E}, e.loK K = true → e.den (envOf xs f) = e.den (envOf xs g)
  | .lit _, _ => rfl
  | .var _, _ => rfl
  | .op o a b, hb => by
      simp only [E.loK, Bool.and_eq_true] at hb
      simp only [E.den, E.loK_den h hb.1, E.loK_den h hb.2]
  | .bin o k a b, hb => by
      simp only [E.loK, Bool.and_eq_true] at hb
      simp only [E.den, E.loK_den h hb.1, E.loK_den h hb.2]
  | .conv k a, hb => by
      simp only [E.loK] at hb
      simp only [E.den, E.loK_den h hb]
  | .app k l, hb => by
      simp only [E.loK, Bool.and_eq_true, Bool.or_eq_true, Nat.blt_eq, Nat.ble_eq] at hb
      simp only [E.den, E.loKL_den h hb.2]
      exact h k _ hb.1
  | .ite c a b, hb => by
      simp only [E.loK, Bool.and_eq_true] at hb
      simp only [E.den, E.loK_den h hb.1.1, E.loK_den h hb.1.2, E.loK_den h hb.2]
  | .cmp o a b, hb => by
      simp only [E.loK, Bool.and_eq_true] at hb
      simp only [E.den, E.loK_den h hb.1, E.loK_den h hb.2]
theorem E.loKL_den {K : Nat} {f g : Nat → List Int → Int} {xs : List Int} (h : SameLow K f g) : ∀ {l : List E}, E.loKL K l = true → denL (envOf xs f) l = denL (envOf xs g) l
  | [], _ => rfl
  | e :: l, hb => by
      simp only [E.loKL, Bool.and_eq_true] at hb
      simp only [denL, E.loK_den h hb.1, E.loKL_den h hb.2]
end
theorem BE.loK_den {K : Nat} {f g : Nat → List Int → Int} {xs : List Int} (h : SameLow K f g) : ∀ {b : BE}, b.loK K = true → b.den (envOf xs f) = b.den (envOf xs g)
  | .lit _, _ => rfl
  | .cmp o a b, hb => by
      simp only [BE.loK, Bool.and_eq_true] at hb
      simp only [BE.den, E.loK_den h hb.1, E.loK_den h hb.2]
  | .neg b, hb => by
      simp only [BE.loK] at hb
      simp only [BE.den, BE.loK_den h hb]
  | .and a b, hb => by
      simp only [BE.loK, Bool.and_eq_true] at hb
      simp only [BE.den, BE.loK_den h hb.1, BE.loK_den h hb.2]
  | .eqb a b, hb => by
      simp only [BE.loK, Bool.and_eq_true] at hb
      simp only [BE.den, BE.loK_den h hb.1, BE.loK_den h hb.2]
  | .tst e, hb => by
      simp only [BE.loK] at hb
      simp only [BE.den, E.loK_den h hb]
theorem VT.loK_at {K : Nat} {f g : Nat → List Int → Int} {xs : List Int} (h : SameLow K f g) : ∀ {t : VT}, t.loK K = true → t.at (envOf xs f) = t.at (envOf xs g) ∧ E.loKL K (t.at (envOf xs g)).nums = true
  | .leaf v, hb => ⟨rfl, hb⟩
  | .ite c t e, hb => by
      simp only [VT.loK, Bool.and_eq_true] at hb
      simp only [VT.at, BE.loK_den h hb.1.1]
      cases c.den (envOf xs g)
      · exact VT.loK_at h hb.2
      · exact VT.loK_at h hb.1.2
  | .need c t, hb => by
      simp only [VT.loK, Bool.and_eq_true] at hb
      exact VT.loK_at (t := t) h hb.2
  | .fail, _ => ⟨rfl, rfl⟩
theorem loKL_get {K : Nat} : ∀ {l : List E} {j : Nat}, E.loKL K l = true → (l.getD j (.lit 0)).loK K = true
  | [], j, _ => by simp [List.getD_nil, E.loK]
  | e :: l, 0, h => by simp only [E.loKL, Bool.and_eq_true] at h; exact h.1
  | e :: l, j + 1, h => by simp only [E.loKL, Bool.and_eq_true] at h; rw [List.getD_cons_succ]; exact loKL_get (l := l) h.2
theorem VT.loK_fnJ {K : Nat} {f g : Nat → List Int → Int} (h : SameLow K f g) {t : VT} (hb : t.loK K = true) (j : Nat) (a : List Int) : t.fnJ f j a = t.fnJ g j a := by
  obtain ⟨h1, h2⟩ := VT.loK_at (xs := a) h hb
  unfold VT.fnJ
  rw [h1]
  exact E.loK_den h (loKL_get h2)

theorem rowed_high (f g : Nat → List Int → Int) (k : Nat) (a : List Int) (h1 : 1000 ≤ k) (h2 : k < 5000) : rowed f k a = rowed g k a := by
  rw [rowed_rows f k a h1 h2, rowed_rows g k a h1 h2]
theorem rowed_lo (f : Nat → List Int → Int) (k : Nat) (a : List Int) (h : k < 1000) : rowed f k a = f k a := by
  unfold rowed
  rw [if_neg (by omega)]
/-- what a function is below B: the tree's functions, and those beneath -/
theorem upto_tree {fn G : Nat → List Int → Int} {B K n : Nat} {t : VT} (h : SameLow B fn (rowed (withTree K n t G))) (hK : K + n ≤ B) (hB : B ≤ 1000) (hb : t.loK K = true) : TreeIs fn K n t ∧ SameLow K fn (rowed G) := by
  have h2 : SameLow K fn (rowed G) := by
    intro k a hk
    rw [h k a (by unfold low at *; omega)]
    rcases hk with hk | ⟨h1, h2⟩
    · rw [rowed_lo _ _ _ (by omega), rowed_lo _ _ _ (by omega)]
      unfold withTree
      rw [if_neg (by omega)]
    · exact rowed_high _ _ k a h1 h2
  refine ⟨fun j a hj => ?_, h2⟩
  rw [h _ a (.inl (by omega)), rowed_lo _ _ _ (by omega)]
  unfold withTree
  rw [if_pos ⟨by omega, by omega⟩, Nat.add_sub_cancel_left]
  exact (VT.loK_fnJ h2 hb j a).symm

/-- what all leaves are, the one that is reached is -/
def VT.allL (p : SV → Bool) : VT → Bool
  | .leaf v => p v
  | .ite _ t e => t.allL p && e.allL p
  | .need _ t => t.allL p
  | .fail => p .any
theorem VT.allL_at {p : SV → Bool} {env : Env} : ∀ {t : VT}, t.allL p = true → p (t.at env) = true
  | .leaf v, h => h
  | .ite c t e, h => by
      simp only [VT.allL, Bool.and_eq_true] at h
      simp only [VT.at]
      cases c.den env
      · exact VT.allL_at h.2
      · exact VT.allL_at h.1
  | .need c t, h => VT.allL_at (t := t) h
  | .fail, h => h
end Go.SX
