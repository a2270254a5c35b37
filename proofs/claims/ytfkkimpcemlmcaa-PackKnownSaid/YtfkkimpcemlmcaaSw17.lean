/- Arguments without memory: structs and arrays of integers and bools, opened to numbers.
Calls that are reckoned once and looked up then.
A run under facts that hold under tests on the way. -/
import Derived.Test.YtfkkimpcemlmcaaSw14
import Derived.OpenShut
import Derived.WideShapes
import Derived.RowKit
namespace Go.SX
open Go Go.RowKit Go.WideShapes Go.ChangeShapes
set_option linter.unusedVariables false
set_option linter.unusedSimpArgs false
set_option linter.unusedSectionVars false

mutual
/-- the kinds of the cells of a type; none: a bool -/
def flatK (P : Program) : Nat → TypeId → Option (List (Option IntKind))
  | 0, _ => none
  | n + 1, t => match P.underlying t with
    | some (.int k) => some [some k]
    | some .bool => some [none]
    | some (.struct fs) => flatFs P n fs.toList 0
    | some (.array m e) => match flatK P n e with
      | some ks => if ks.length = P.cellsOf e then some (List.replicate m ks).flatten else none
      | none => none
    | _ => none
def flatFs (P : Program) : Nat → List Field → Nat → Option (List (Option IntKind))
  | _, [], _ => some []
  | 0, _ :: _, _ => none
  | n + 1, f :: fs, off => match flatK P n f.type with
    | some ks => if f.offset = off ∧ ks.length = P.cellsOf f.type then (flatFs P n fs (off + ks.length)).map (ks ++ ·) else none
    | none => none
end

def FlatV : List (Option IntKind) → List Value → Prop
  | [], cs => cs = []
  | some k :: ks, cs => ∃ n cs', cs = .int k n :: cs' ∧ (Lit.int k n).wf = true ∧ FlatV ks cs'
  | none :: ks, cs => ∃ b cs', cs = .bool b :: cs' ∧ FlatV ks cs'

theorem FlatV.append : ∀ {ks ks' : List (Option IntKind)} {cs cs' : List Value}, FlatV ks cs → FlatV ks' cs' → FlatV (ks ++ ks') (cs ++ cs')
  | [], ks', cs, cs', h, h' => by rw [show cs = [] from h]; exact h'
  | some k :: ks, ks', cs, cs', h, h' => by obtain ⟨n, r, rfl, hw, h⟩ := h; exact ⟨n, r ++ cs', rfl, hw, h.append h'⟩
  | none :: ks, ks', cs, cs', h, h' => by obtain ⟨b, r, rfl, h⟩ := h; exact ⟨b, r ++ cs', rfl, h.append h'⟩
theorem FlatV.length : ∀ {ks : List (Option IntKind)} {cs : List Value}, FlatV ks cs → cs.length = ks.length
  | [], cs, h => by rw [show cs = [] from h]; rfl
  | some k :: ks, cs, h => by obtain ⟨n, r, rfl, hw, h⟩ := h; simp [h.length]
  | none :: ks, cs, h => by obtain ⟨b, r, rfl, h⟩ := h; simp [h.length]

section
variable {H : Type} {enc : TypeId × Value → H} {P : Program} {w : World} {base : Nat} {spare : Nat → Bool} {held : Bool}

mutual
theorem flatK_ok : ∀ (n : Nat) {t : TypeId} {ks : List (Option IntKind)} {fuel : Nat} {cs : List Value} {x : DataW H × List MemPlace}, flatK P n t = some ks → ks.length = P.cellsOf t → DataW.trod enc P w base spare held fuel t cs = some x → FlatV ks cs
  | 0, t, ks, fuel, cs, x, hk, hl, h => by simp [flatK] at hk
  | n + 1, t, ks, fuel, cs, x, hk, hl, h => by
      simp only [flatK] at hk
      split at hk
      · rename_i k hu
        cases hk
        obtain ⟨m, rfl, _, hw⟩ := DataW.trod_int hu h
        exact ⟨m, [], rfl, hw, rfl⟩
      · rename_i hu
        cases hk
        obtain ⟨b, rfl, _⟩ := DataW.trod_bool hu h
        exact ⟨b, [], rfl, rfl⟩
      · rename_i fs hu
        obtain ⟨xs, m, _, _, hlen, hxl, hf⟩ := DataW.trod_struct hu h
        have := flatFs_ok n (fs := fs.toList) (off := 0) (cs := cs) hk (by simpa [hl] using hlen) (m := m) (fun i f hi => by
          have := hf i f (by simpa using hi)
          have hlt : i < xs.length := by
            rw [hxl]
            obtain ⟨h1, _⟩ := Array.getElem?_eq_some_iff.1 (show fs[i]? = some f by simpa using hi)
            exact h1
          rw [List.getElem?_eq_getElem hlt] at this
          exact ⟨_, this⟩)
        simpa using this
      · rename_i m e hu
        split at hk
        · rename_i ks0 he
          split at hk
          · rename_i hle
            cases hk
            obtain ⟨xs, q, _, _, hlen, hxl, hf⟩ := DataW.trod_array hu h
            have key : ∀ (j : Nat) (off : Nat), off + j = m → FlatV (List.replicate j ks0).flatten (cs.drop (off * P.cellsOf e)) := by
              intro j
              induction j with
              | zero =>
                intro off ho
                have : cs.drop (off * P.cellsOf e) = [] := by
                  rw [List.drop_eq_nil_iff, hlen, ← hl]
                  simp [← ho, hle]
                rw [this]
                rfl
              | succ j ih =>
                intro off ho
                have h1 := hf off (by omega)
                rw [List.getElem?_eq_getElem (show off < xs.length by omega)] at h1
                have h2 := flatK_ok n he hle h1
                have h3 := ih (off + 1) (by omega)
                have e1 : cs.drop (off * P.cellsOf e) = (cs.drop (off * P.cellsOf e)).take (P.cellsOf e) ++ cs.drop ((off + 1) * P.cellsOf e) := by
                  rw [show (off + 1) * P.cellsOf e = off * P.cellsOf e + P.cellsOf e by rw [Nat.succ_mul], ← List.drop_drop, List.take_append_drop]
                rw [e1, List.replicate_succ, List.flatten_cons]
                exact h2.append h3
            have := key m 0 (by omega)
            simpa using this
          · cases hk
        · cases hk
      · cases hk
theorem flatFs_ok : ∀ (n : Nat) {fs : List Field} {off : Nat} {ks : List (Option IntKind)} {cs : List Value} {m : Nat}, flatFs P n fs off = some ks → cs.length = off + ks.length →
    (∀ (i : Nat) (f : Field), fs[i]? = some f → ∃ y, DataW.trod enc P w base spare held m f.type ((cs.drop f.offset).take (P.cellsOf f.type)) = some y) → FlatV ks (cs.drop off)
  | n, [], off, ks, cs, m, hk, hl, h => by
      simp only [flatFs, Option.some.injEq] at hk
      subst hk
      have : cs.drop off = [] := by rw [List.drop_eq_nil_iff]; simp at hl; omega
      rw [this]; rfl
  | 0, f :: fs, off, ks, cs, m, hk, hl, h => by simp [flatFs] at hk
  | n + 1, f :: fs, off, ks, cs, m, hk, hl, h => by
      simp only [flatFs] at hk
      split at hk
      · rename_i ks0 he
        split at hk
        · rename_i hc
          rw [Option.map_eq_some_iff] at hk
          obtain ⟨ks1, h1, rfl⟩ := hk
          obtain ⟨y, hy⟩ := h 0 f rfl
          have h2 := flatK_ok n he hc.2 hy
          have h3 := flatFs_ok n (cs := cs) (m := m) h1 (by rw [hl]; simp; omega) (fun i g hi => h (i + 1) g (by simpa using hi))
          have e1 : cs.drop off = (cs.drop f.offset).take (P.cellsOf f.type) ++ cs.drop (off + ks0.length) := by
            rw [hc.1, hc.2, ← List.drop_drop, List.take_append_drop]
          rw [e1]
          exact h2.append h3
        · cases hk
      · cases hk
end

/-- the numbers of cells: a bool is 1 or 0 -/
def cellV (k : Option IntKind) (x : Int) : Value := match k with
  | some k => .int k x
  | none => .bool (x != 0)
def valsL : List (Option IntKind) → List Int → List Value
  | [], _ => []
  | k :: ks, [] => cellV k 0 :: valsL ks []
  | k :: ks, x :: xs => cellV k x :: valsL ks xs
def wfL : List (Option IntKind) → List Int → Prop
  | [], xs => xs = []
  | k :: ks, xs => ∃ x xs', xs = x :: xs' ∧ (∀ k', k = some k' → (Lit.int k' x).wf = true) ∧ wfL ks xs'

theorem FlatV.numbers : ∀ {ks : List (Option IntKind)} {cs : List Value}, FlatV ks cs → ∃ xs, cs = valsL ks xs ∧ wfL ks xs
  | [], cs, h => ⟨[], h, rfl⟩
  | some k :: ks, cs, h => by
      obtain ⟨n, r, rfl, hw, h⟩ := h
      obtain ⟨xs, rfl, hx⟩ := h.numbers
      exact ⟨n :: xs, rfl, n, xs, rfl, fun k' e => by cases e; exact hw, hx⟩
  | none :: ks, cs, h => by
      obtain ⟨b, r, rfl, h⟩ := h
      obtain ⟨xs, rfl, hx⟩ := h.numbers
      refine ⟨(if b then 1 else 0) :: xs, ?_, _, xs, rfl, (fun k' e => by cases e), hx⟩
      cases b <;> rfl
theorem wfL.length : ∀ {ks : List (Option IntKind)} {xs : List Int}, wfL ks xs → xs.length = ks.length
  | [], xs, h => by rw [show xs = [] from h]; rfl
  | k :: ks, xs, h => by obtain ⟨x, xs', rfl, _, h⟩ := h; simp [h.length]

/-- a struct by value -/
theorem open_flat {r : Reach} {b0 : Nat} {t : TypeId} {fs : Array Field} {v : Value} {d : DataW H} {p : List MemPlace} (hs : P.underlying t = some (.struct fs)) (n : Nat) {ks : List (Option IntKind)} (hk : flatK P n t = some ks) (hl : ks.length = P.cellsOf t)
    (hv : Value.okWide P w r b0 t v) (h : DataW.Trod enc P w base spare held t v d p) : ∃ xs, v = .agg (valsL ks xs).toArray ∧ wfL ks xs := by
  obtain ⟨cs, rfl, hsz⟩ := okWide_struct hs hv
  obtain ⟨fuel, hf⟩ := h
  obtain ⟨xs, e, hx⟩ := (flatK_ok n hk hl hf).numbers
  refine ⟨xs, ?_, hx⟩
  rw [← e]
  simp [Value.cells]
/-- an array by value -/
theorem open_flatA {r : Reach} {b0 : Nat} {t e : TypeId} {m : Nat} {v : Value} {d : DataW H} {p : List MemPlace} (hs : P.underlying t = some (.array m e)) (n : Nat) {ks : List (Option IntKind)} (hk : flatK P n t = some ks) (hl : ks.length = P.cellsOf t)
    (hv : Value.okWide P w r b0 t v) (h : DataW.Trod enc P w base spare held t v d p) : ∃ xs, v = .agg (valsL ks xs).toArray ∧ wfL ks xs := by
  have hv' : ∃ cs, v = .agg cs := by
    unfold Value.okWide at hv
    rw [hs] at hv
    obtain ⟨cs, e, _⟩ := hv
    exact ⟨cs, e⟩
  obtain ⟨cs, rfl⟩ := hv'
  obtain ⟨fuel, hf⟩ := h
  obtain ⟨xs, e, hx⟩ := (flatK_ok n hk hl hf).numbers
  refine ⟨xs, ?_, hx⟩
  rw [← e]
  simp [Value.cells]
/-- an integer or a bool -/
theorem open_flat1 {r : Reach} {b0 : Nat} {t : TypeId} {v : Value} {d : DataW H} {p : List MemPlace} {k : Option IntKind} (hs : P.underlying t = some (match k with | some k => .int k | none => .bool))
    (hv : Value.okWide P w r b0 t v) (h : DataW.Trod enc P w base spare held t v d p) : ∃ xs, v = (valsL [k] xs).getD 0 undef ∧ wfL [k] xs := by
  cases k with
  | some k =>
    obtain ⟨n, rfl, _, _, hw⟩ := open_int hs hv h
    exact ⟨[n], rfl, n, [], rfl, fun k' e => by cases e; exact hw, rfl⟩
  | none =>
    obtain ⟨b, rfl, _, _⟩ := open_bool hs hv h
    refine ⟨[if b then 1 else 0], ?_, _, [], rfl, (fun k' e => by cases e), rfl⟩
    cases b <;> rfl
end

/-! ### symbols for the numbers -/

def symC (k : Option IntKind) (i : Nat) : SV := match k with
  | some k => .int k (.var i)
  | none => .bool (.tst (.var i))
def symL : List (Option IntKind) → Nat → List SV
  | [], _ => []
  | k :: ks, i => symC k i :: symL ks (i + 1)
def symB : List (Option IntKind) → Nat → List (E × Int × Int)
  | [], _ => []
  | some k :: ks, i => (.var i, k.min, k.max) :: symB ks (i + 1)
  | none :: ks, i => symB ks (i + 1)

theorem symL_rep {env : Env} {ρ : Pl} : ∀ {ks : List (Option IntKind)} {xs : List Int} {i : Nat}, wfL ks xs → (∀ j, j < xs.length → env.v (i + j) = xs.getD j 0) → RepL env ρ (symL ks i) (valsL ks xs)
  | [], xs, i, h, he => rfl
  | k :: ks, xs, i, h, he => by
      obtain ⟨x, xs', rfl, hw, h⟩ := h
      refine ⟨cellV k x, valsL ks xs', ?_, symL_rep h (fun j hj => by have := he (j + 1) (by simpa using hj); rw [show i + 1 + j = i + (j + 1) by omega, this]; simp), rfl⟩
      have h0 : env.v i = x := by simpa using he 0 (by simp)
      cases k with
      | some k => simp [symC, cellV, Rep, E.den, h0]
      | none => simp [symC, cellV, Rep, BE.den, E.den, h0]

theorem symB_ok {env : Env} : ∀ {ks : List (Option IntKind)} {xs : List Int} {i : Nat}, wfL ks xs → (∀ j, j < xs.length → env.v (i + j) = xs.getD j 0) → ∀ e lo hi, (e, lo, hi) ∈ symB ks i → lo ≤ e.den env ∧ e.den env ≤ hi
  | [], xs, i, h, he, e, lo, hi, hm => by simp [symB] at hm
  | k :: ks, xs, i, h, he, e, lo, hi, hm => by
      obtain ⟨x, xs', rfl, hw, h⟩ := h
      have h0 : env.v i = x := by simpa using he 0 (by simp)
      have ih := symB_ok (env := env) h (i := i + 1) (fun j hj => by have := he (j + 1) (by simpa using hj); rw [show i + 1 + j = i + (j + 1) by omega, this]; simp) e lo hi
      cases k with
      | none => exact ih hm
      | some k =>
        simp only [symB, List.mem_cons] at hm
        rcases hm with hm | hm
        · cases hm
          have := hw k rfl
          simp [Lit.wf] at this
          simp only [E.den, h0]
          exact this
        · exact ih hm

/-- all arguments: structs and arrays (true), single cells (false), in their order -/
def symAll : List (Bool × List (Option IntKind)) → Nat → List SV
  | [], _ => []
  | (true, ks) :: l, i => .agg (symL ks i) :: symAll l (i + ks.length)
  | (false, ks) :: l, i => (symL ks i).getD 0 (.tuple []) :: symAll l (i + ks.length)
def kindsAll : List (Bool × List (Option IntKind)) → List (Option IntKind)
  | [] => []
  | (_, ks) :: l => ks ++ kindsAll l
def valAll : List (Bool × List (Option IntKind)) → List (List Int) → List Value
  | [], _ => []
  | _ :: _, [] => []
  | (true, ks) :: l, xs :: r => .agg (valsL ks xs).toArray :: valAll l r
  | (false, ks) :: l, xs :: r => (valsL ks xs).getD 0 undef :: valAll l r
def wfAll : List (Bool × List (Option IntKind)) → List (List Int) → Prop
  | [], r => r = []
  | (b, ks) :: l, r => ∃ xs r', r = xs :: r' ∧ wfL ks xs ∧ (b = false → ks.length = 1) ∧ wfAll l r'

def envOf (xs : List Int) (f : Nat → List Int → Int) : Env := ⟨fun i => xs.getD i 0, f⟩
def ctxOf (l : List (Bool × List (Option IntKind))) : Ctx := ⟨symB (kindsAll l) 0, [], 5⟩

theorem wfL.append : ∀ {ks ks' : List (Option IntKind)} {xs xs' : List Int}, wfL ks xs → wfL ks' xs' → wfL (ks ++ ks') (xs ++ xs')
  | [], ks', xs, xs', h, h' => by rw [show xs = [] from h]; exact h'
  | k :: ks, ks', xs, xs', h, h' => by obtain ⟨x, r, rfl, hw, h⟩ := h; exact ⟨x, r ++ xs', rfl, hw, h.append h'⟩
theorem wfAll.kinds : ∀ {l : List (Bool × List (Option IntKind))} {r : List (List Int)}, wfAll l r → wfL (kindsAll l) r.flatten
  | [], r, h => by rw [show r = [] from h]; rfl
  | (b, ks) :: l, r, h => by obtain ⟨xs, r', rfl, h1, _, h2⟩ := h; exact h1.append h2.kinds

theorem symAll_rep {env : Env} {ρ : Pl} : ∀ {l : List (Bool × List (Option IntKind))} {r : List (List Int)} {i : Nat}, wfAll l r → (∀ j, j < r.flatten.length → env.v (i + j) = r.flatten.getD j 0) → RepL env ρ (symAll l i) (valAll l r)
  | [], r, i, h, he => by rw [show r = [] from h]; rfl
  | (b, ks) :: l, r, i, h, he => by
      obtain ⟨xs, r', rfl, h1, hb, h2⟩ := h
      have hlen := h1.length
      have hx : RepL env ρ (symL ks i) (valsL ks xs) := symL_rep h1 (fun j hj => by
        have := he j (by simp; omega)
        rw [this, List.flatten_cons]; simp only [List.getD_eq_getElem?_getD]; rw [List.getElem?_append_left hj])
      have hr := symAll_rep (env := env) (ρ := ρ) h2 (i := i + ks.length) (fun j hj => by
        have := he (xs.length + j) (by simp at hj ⊢; omega)
        rw [show i + ks.length + j = i + (xs.length + j) by omega, this, List.flatten_cons]
        simp only [List.getD_eq_getElem?_getD]
        rw [List.getElem?_append_right (by omega)]
        simp)
      cases b with
      | true => exact ⟨_, _, ⟨_, hx, rfl⟩, hr, rfl⟩
      | false =>
        refine ⟨_, _, ?_, hr, rfl⟩
        have h3 := hb rfl
        match ks, h3 with
        | [k], _ =>
          obtain ⟨v, vs', hv, _, e⟩ := hx
          rw [e]
          exact hv

theorem ctxOf_ok {l : List (Bool × List (Option IntKind))} {r : List (List Int)} {f : Nat → List Int → Int} (h : wfAll l r) : (ctxOf l).ok (envOf r.flatten f) :=
  ⟨symB_ok (i := 0) h.kinds (fun j hj => by simp [envOf]), by intro be v hm; simp [ctxOf] at hm⟩

/-- the ranges of the arguments, facts that are known of them, how many cases a test may be split in -/
def ctxF (l : List (Bool × List (Option IntKind))) (facts : List (BE × Bool)) (d : Nat) : Ctx := ⟨symB (kindsAll l) 0, facts, d⟩
theorem ctxF_ok {l : List (Bool × List (Option IntKind))} {r : List (List Int)} {f : Nat → List Int → Int} {facts : List (BE × Bool)} {d : Nat} (h : wfAll l r) (hf : ∀ be v, (be, v) ∈ facts → be.den (envOf r.flatten f) = v) :
    (ctxF l facts d).ok (envOf r.flatten f) := ⟨(ctxOf_ok h).b, hf⟩

theorem calls_facts {P : Program} {X : Par} {l : List (Bool × List (Option IntKind))} {r : List (List Int)} {fn : Nat → List Int → Int} {n f d : Nat} {w : World} {t : PT} {facts : List (BE × Bool)}
    (hmix : P.follows .mixedOrders = true) (hX : ParOK P fn X) (hw : wfAll l r) (hf : ∀ be v, (be, v) ∈ facts → be.den (envOf r.flatten fn) = v) (ht : run (callT P X n f (symAll l 0) (ctxF l facts d)) st0 = t)
    (h : t.holds (envOf r.flatten fn) fun v _ => yes (envOf r.flatten fn) v) :
    Calls P f (valAll l r).toArray w fun e w' => e = .returned (.bool true) ∧ Below w.heap.size w w' :=
  calls_yes0 hmix hX rfl (ctxF_ok hw hf) (symAll_rep hw (fun j hj => by simp [envOf])) ht h

/-- a law over such arguments: yes on every way -/
theorem calls_flat {P : Program} {X : Par} {l : List (Bool × List (Option IntKind))} {r : List (List Int)} {fn : Nat → List Int → Int} {n f : Nat} {w : World} {t : PT}
    (hmix : P.follows .mixedOrders = true) (hX : ParOK P fn X) (hw : wfAll l r) (ht : run (callT P X n f (symAll l 0) (ctxOf l)) st0 = t) (h : t.holds (envOf r.flatten fn) fun v _ => yes (envOf r.flatten fn) v) :
    Calls P f (valAll l r).toArray w fun e w' => e = .returned (.bool true) ∧ Below w.heap.size w w' :=
  calls_yes0 hmix hX rfl (ctxOf_ok hw) (symAll_rep hw (fun j hj => by simp [envOf])) ht h
end Go.SX

namespace Go.SX
open Go Go.RowKit
set_option linter.unusedVariables false
set_option linter.unusedSimpArgs false
set_option linter.unusedSectionVars false

def SA.inside (ns : List Nat) : SA → Bool
  | .c b _ => ns.any (Nat.beq b)
  | .s b _ _ _ => ns.any (Nat.beq b)
  | .g _ _ => false
  | .h _ _ _ _ => false
def optIn (ns : List Nat) : Option SA → Bool
  | none => true
  | some a => a.inside ns
mutual
def SV.within (ns : List Nat) : SV → Bool
  | .ptr a => optIn ns a
  | .slice a _ _ => optIn ns a
  | .func (.func _) x y => SV.withinL ns x && SV.withinL ns y
  | .func (.yield _) _ _ => false
  | .iface _ v => v.within ns
  | .agg l => SV.withinL ns l
  | .tuple l => SV.withinL ns l
  | .vsl b _ => ns.any (Nat.beq b)
  | .vg _ _ => false
  | _ => true
def SV.withinL (ns : List Nat) : List SV → Bool
  | [] => true
  | x :: l => x.within ns && SV.withinL ns l
end

theorem any_beq {ns : List Nat} {b : Nat} (h : ns.any (Nat.beq b) = true) : b ∈ ns := by
  rw [List.any_eq_true] at h
  obtain ⟨x, hx, hb⟩ := h
  rw [beq_dec, decide_eq_true_eq] at hb
  rw [hb]; exact hx

section
variable {env : Env} {ρ ρ' : Pl} {ns : List Nat}

theorem RepA.move (h : ∀ b, b ∈ ns → ρ' b = ρ b) {a : SA} {A : Addr} (hi : a.inside ns = true) (hr : RepA env ρ a A) : RepA env ρ' a A := by
  cases a with
  | c b off => obtain ⟨r, o, e, rfl⟩ := hr; exact ⟨r, o, (h b (any_beq hi)).trans e, rfl⟩
  | s b ix m off => obtain ⟨r, o, e, hn, rfl⟩ := hr; exact ⟨r, o, (h b (any_beq hi)).trans e, hn, rfl⟩
  | g b off => cases hi
  | h b ix m off => cases hi
theorem RepO.move (h : ∀ b, b ∈ ns → ρ' b = ρ b) {a : Option SA} {A : Option Addr} (hi : optIn ns a = true) (hr : RepO env ρ a A) : RepO env ρ' a A := by
  cases a with
  | none => exact hr
  | some a => obtain ⟨A', e, rfl⟩ := hr; exact ⟨A', e.move h hi, rfl⟩
theorem RepC.move {a : Option SA} {n c : Nat} {e : Option E} (hi : optIn ns a = true) (hr : RepC env ρ a n c e) : RepC env ρ' a n c e := by
  cases e with
  | some e => exact hr
  | none =>
    refine ⟨hr.1, fun b hb => ?_⟩
    cases a with
    | none => cases hb
    | some a => cases a with
      | c => cases hb
      | s => cases hb
      | g => cases hi
      | h => cases hi

mutual
theorem Rep.move (h : ∀ b, b ∈ ns → ρ' b = ρ b) : ∀ {s : SV} {v : Value}, s.within ns = true → Rep env ρ s v → Rep env ρ' s v
  | .int k e, v, _, hr => hr
  | .bool b, v, _, hr => hr
  | .ptr a, v, hi, hr => by obtain ⟨A, e, rfl⟩ := hr; exact ⟨A, e.move h hi, rfl⟩
  | .slice a len cap, v, hi, hr => by obtain ⟨A, c, e, e2, e3, rfl⟩ := hr; exact ⟨A, c, e.move h hi, e2.move hi, e3, rfl⟩
  | .func (.func f) first cap, v, hi, hr => by
      simp only [SV.within, Bool.and_eq_true] at hi
      obtain ⟨g, fs, cs, e, e1, e2, rfl⟩ := hr
      exact ⟨g, fs, cs, e, RepL.move h hi.1 e1, RepL.move h hi.2 e2, rfl⟩
  | .func (.yield f) first cap, v, hi, hr => by cases hi
  | .nilFunc, v, _, hr => hr
  | .nilIface, v, _, hr => hr
  | .iface t x, v, hi, hr => by obtain ⟨u, e, rfl⟩ := hr; exact ⟨u, Rep.move h (by simpa [SV.within] using hi) e, rfl⟩
  | .str s, v, _, hr => hr
  | .nilMap, v, _, hr => hr
  | .agg l, v, hi, hr => by obtain ⟨vs, e, rfl⟩ := hr; exact ⟨vs, RepL.move h (by simpa [SV.within] using hi) e, rfl⟩
  | .tuple l, v, hi, hr => by obtain ⟨vs, e, rfl⟩ := hr; exact ⟨vs, RepL.move h (by simpa [SV.within] using hi) e, rfl⟩
  | .any, v, _, hr => trivial
  | .vsl b len, v, hi, hr => by
      obtain ⟨r, o, e, hr⟩ := hr
      exact ⟨r, o, by rw [h b (any_beq (by simpa only [SV.within] using hi))]; exact e, hr⟩
  | .vg b len, v, hi, hr => by simp only [SV.within] at hi; cases hi
theorem RepL.move (h : ∀ b, b ∈ ns → ρ' b = ρ b) : ∀ {l : List SV} {vs : List Value}, SV.withinL ns l = true → RepL env ρ l vs → RepL env ρ' l vs
  | [], vs, _, hr => hr
  | s :: l, vs, hi, hr => by
      simp only [SV.withinL, Bool.and_eq_true] at hi
      obtain ⟨v, vs', e1, e2, rfl⟩ := hr
      exact ⟨v, vs', Rep.move h hi.1 e1, RepL.move h hi.2 e2, rfl⟩
end
end

/-- a call of closed arguments, the blocks that it reads, and its value -/
structure Memo where
  f : Nat
  args : List SV
  blks : List (Nat × List SV)
  v : SV

def storeOf : List (Nat × List SV) → T Blk
  | [] => .nil
  | (b, l) :: r => (storeOf r).set b (.ro l)

def Memo.names (m : Memo) : List Nat := m.blks.map (·.1)

def isLeaf (v : SV) : PT → Bool
  | .leaf (.val v' _) _ => v'.same v
  | _ => false

def Memo.yes (P : Program) (X : Par) (n nx : Nat) (m : Memo) : Bool :=
  (entered P m.f).isSome && SV.withinL m.names m.args && m.blks.all (fun p => SV.withinL m.names p.2) && m.v.within [] &&
    isLeaf m.v (run (callT P X n m.f m.args Ctx.none) ⟨storeOf m.blks, nx, 0, [], [], true⟩)

def Memo.book (m : Memo) (B : Book) : Book := fun f args cx =>
  bif Nat.beq f m.f && SV.sameL args m.args then some ⟨[], m.v, [], [], m.blks, []⟩ else B f args cx

theorem storeOf_get : ∀ {l : List (Nat × List SV)} {b : Nat} {x : Blk}, (storeOf l).get b = some x → ∃ y, x = .ro y ∧ (b, y) ∈ l
  | [], b, x, h => by cases h
  | (c, y) :: l, b, x, h => by
      simp only [storeOf, T.get_set] at h
      split at h
      · rename_i hbc; subst hbc; cases h; exact ⟨y, rfl, by simp⟩
      · obtain ⟨z, h1, h2⟩ := storeOf_get h; exact ⟨z, h1, by simp [h2]⟩
theorem storeOf_dom : ∀ {l : List (Nat × List SV)} {b : Nat}, b ∈ l.map (·.1) → (storeOf l).get b ≠ none
  | [], b, h => by simp at h
  | (c, y) :: l, b, h => by
      simp only [storeOf, T.get_set]
      split
      · simp
      · rename_i hbc
        simp only [List.map_cons, List.mem_cons] at h
        exact storeOf_dom (h.resolve_left hbc)

def Memo.par (m : Memo) (X : Par) : Par := { X with book := m.book X.book }
theorem Memo.ok {P : Program} {fn : Nat → List Int → Int} {X : Par} (hmix : P.follows .mixedOrders = true) (hX : ParOK P fn X) (m : Memo) {n nx : Nat} (h : m.yes P X n nx = true) : ParOK P fn (m.par X) := by
  refine ⟨fun env he => ?_, hX.loops, hX.rows, hX.gen⟩
  intro f args cx sm hsm hc hneeds ρ vs w ha hblks harrs
  simp only [Memo.par, Memo.book] at hsm
  cases hsame : (Nat.beq f m.f && SV.sameL args m.args) with
  | false =>
    rw [hsame, cond_false] at hsm
    exact hX.book env he f args cx sm hsm hc hneeds ρ vs w ha hblks harrs
  | true =>
    rw [hsame, cond_true] at hsm
    cases hsm
    simp only [Bool.and_eq_true, beq_dec, decide_eq_true_eq] at hsame
    obtain ⟨rfl, hargs⟩ := hsame
    rw [SV.sameL_eq hargs] at ha
    simp only [Memo.yes, Bool.and_eq_true] at h
    obtain ⟨⟨⟨⟨hent, hin⟩, hall⟩, hv⟩, hleaf⟩ := h
    obtain ⟨⟨fn, c⟩, hent⟩ := Option.isSome_iff_exists.1 hent
    obtain ⟨_, _, hcall⟩ := entered_ok hent vs.toArray w
    refine ⟨hcall, by simp, by simp, ?_⟩
    -- the names that are told, and no other
    let ρ0 : Pl := fun b => if b ∈ m.names then ρ b else none
    have hag : ∀ b, b ∈ m.names → ρ0 b = ρ b := fun b hb => if_pos hb
    have hlt : ∀ b r o, ρ0 b = some (r, o) → r < w.heap.size := by
      intro b r o e
      by_cases hb : b ∈ m.names
      · rw [hag b hb] at e
        obtain ⟨⟨b', l⟩, hm, rfl⟩ := List.mem_map.1 hb
        obtain ⟨r', o', e', hbs⟩ := hblks b' l hm
        rw [e] at e'
        cases e'
        obtain ⟨x, hx⟩ := hbs.some
        exact (Array.getElem?_eq_some_iff.1 hx).1
      · simp only [ρ0, hb, if_false] at e
        cases e
    have hs : HS env ρ0 w.heap.size (storeOf m.blks) w := by
      refine ⟨?_, ?_, ?_, Nat.le_refl _, (fun b v hg => by obtain ⟨y, rfl, _⟩ := storeOf_get hg; exact trivial), by rw [he]; exact hX.rows⟩
      · intro b v hg
        obtain ⟨y, rfl, hm⟩ := storeOf_get hg
        have hb : b ∈ m.names := List.mem_map.2 ⟨(b, y), hm, rfl⟩
        obtain ⟨r, o, e, hbs⟩ := hblks b y hm
        have e0 : ρ0 b = some (r, o) := (hag b hb).trans e
        refine ⟨r, o, e0, fun _ => ⟨?_, (fun h => by cases h), fun _ => hlt b r o e0⟩⟩
        obtain ⟨c, t, fz, cs, h1, h2, h3⟩ := hbs
        rw [List.all_eq_true] at hall
        exact ⟨c, t, fz, cs, h1, h2.move hag (hall (b, y) hm), h3⟩
      · intro b p e
        by_cases hb : b ∈ m.names
        · exact storeOf_dom hb
        · simp only [ρ0, hb, if_false] at e
          cases e
      · intro b b' r o o' e e' hr
        have := hlt b r o e
        omega
    have hr : (run (callT P X n m.f m.args Ctx.none) ⟨storeOf m.blks, nx, 0, [], [], true⟩).holds env fun x _ => x = m.v := by
      unfold isLeaf at hleaf
      split at hleaf
      · rename_i v' cx' s' heq
        rw [heq]
        exact SV.same_eq hleaf
      · cases hleaf
    refine (calls_run hmix hX he (Ctx.ok_none env) (ha.move hag hin) hs hr).mono ?_
    rintro e w' ⟨v, h', ρ', V, rfl, rfl, hV, _, _, hb⟩
    exact ⟨V, rfl, hV.move (ns := []) (by simp) hv, hb⟩
end Go.SX

namespace Go.SX
open Go Go.RowKit
set_option linter.unusedVariables false
set_option linter.unusedSimpArgs false

/-- tests with their answers, a test, its answer under those -/
abbrev Hyp := List (BE × Bool) × BE × Bool

def pathHas (path : List (BE × Bool)) (p : BE × Bool) : Bool :=
  match lookK p.1 path with
  | some v => v == p.2
  | none => false

def findH (path : List (BE × Bool)) (c : BE) : List Hyp → Option Bool
  | [] => none
  | (ps, b, v) :: l => bif b.same c && ps.all (pathHas path) then some v else findH path c l

def derive (hyps : List Hyp) (path : List (BE × Bool)) : BE → Option Bool
  | .lit b => some b
  | .neg b => (derive hyps path b).map (!·)
  | c => findH path c hyps

def bare : BE → Bool → BE × Bool
  | .neg b, v => bare b (!v)
  | b, v => (b, v)

def yes2 (hyps : List Hyp) : List (BE × Bool) → PT → Bool
  | path, .leaf o _ => match o.v with
    | .bool b => derive hyps path b == some true
    | _ => false
  | path, .ite c t e => match derive hyps path c with
    | some true => yes2 hyps path t
    | some false => yes2 hyps path e
    | none => yes2 hyps (bare c true :: path) t && yes2 hyps (bare c false :: path) e
  | path, .need c t => (derive hyps path c == some true) && yes2 hyps path t
  | _, .fail _ => false

def Hyps.hold (env : Env) (hyps : List Hyp) : Prop := ∀ ps b v, (ps, b, v) ∈ hyps → (∀ p, p ∈ ps → p.1.den env = p.2) → b.den env = v

variable {env : Env} {hyps : List Hyp}

theorem pathHas_ok {path : List (BE × Bool)} (hp : ∀ be v, (be, v) ∈ path → be.den env = v) {p : BE × Bool} (h : pathHas path p = true) : p.1.den env = p.2 := by
  unfold pathHas at h
  split at h
  · rename_i v hv
    rw [lookK_ok hp hv]
    simpa using h
  · cases h

theorem findH_ok {path : List (BE × Bool)} (hp : ∀ be v, (be, v) ∈ path → be.den env = v) {c : BE} : ∀ {l : List Hyp} {v : Bool}, (∀ ps b v, (ps, b, v) ∈ l → (∀ p, p ∈ ps → p.1.den env = p.2) → b.den env = v) → findH path c l = some v → c.den env = v
  | [], v, hl, h => by cases h
  | (ps, b, w) :: l, v, hl, h => by
      simp only [findH] at h
      cases hc : (b.same c && ps.all (pathHas path)) with
      | true =>
        rw [hc, cond_true] at h
        cases h
        simp only [Bool.and_eq_true] at hc
        rw [← BE.same_eq hc.1]
        exact hl ps b _ (by simp) (fun p hm => pathHas_ok hp (List.all_eq_true.1 hc.2 p hm))
      | false =>
        rw [hc, cond_false] at h
        exact findH_ok hp (fun ps b v hm => hl ps b v (by simp [hm])) h

theorem derive_ok (hh : Hyps.hold env hyps) {path : List (BE × Bool)} (hp : ∀ be v, (be, v) ∈ path → be.den env = v) : ∀ {c : BE} {v : Bool}, derive hyps path c = some v → c.den env = v
  | .lit b, v, h => by simp [derive] at h; simp [BE.den, h]
  | .neg b, v, h => by
      simp only [derive, Option.map_eq_some_iff] at h
      obtain ⟨w, hw, rfl⟩ := h
      simp [BE.den, derive_ok hh hp hw]
  | .cmp o a b, v, h => findH_ok hp hh h
  | .and a b, v, h => findH_ok hp hh h
  | .eqb a b, v, h => findH_ok hp hh h
  | .tst e, v, h => findH_ok hp hh h

theorem bare_ok : ∀ {c : BE} {v : Bool}, c.den env = v → (bare c v).1.den env = (bare c v).2
  | .neg b, v, h => by
      simp only [bare]
      exact bare_ok (by simp only [BE.den] at h; rw [← h]; simp)
  | .lit b, v, h => h
  | .cmp o a b, v, h => h
  | .and a b, v, h => h
  | .eqb a b, v, h => h
  | .tst e, v, h => h

theorem yes2_holds (hh : Hyps.hold env hyps) : ∀ {t : PT} {path : List (BE × Bool)}, (∀ be v, (be, v) ∈ path → be.den env = v) → yes2 hyps path t = true → t.holds env fun v _ => yes env v
  | .leaf o s, path, hp, h => by
      simp only [yes2] at h
      simp only [PT.holds]
      split at h
      · rename_i b e
        rw [e]
        exact derive_ok hh hp (by simpa using h)
      · cases h
  | .ite c t e, path, hp, h => by
      simp only [yes2] at h
      simp only [PT.holds]
      have ext : ∀ v, c.den env = v → ∀ be w, (be, w) ∈ bare c v :: path → be.den env = w := by
        intro v hv be w hm
        rcases List.mem_cons.1 hm with hm | hm
        · have := bare_ok hv
          rw [← hm] at this
          exact this
        · exact hp be w hm
      split at h
      · rename_i hd
        have := derive_ok hh hp hd
        exact ⟨fun _ => yes2_holds hh hp h, fun hc => by rw [this] at hc; cases hc⟩
      · rename_i hd
        have := derive_ok hh hp hd
        exact ⟨(fun hc => by rw [this] at hc; cases hc), fun _ => yes2_holds hh hp h⟩
      · simp only [Bool.and_eq_true] at h
        exact ⟨fun hc => yes2_holds hh (ext true hc) h.1, fun hc => yes2_holds hh (ext false hc) h.2⟩
  | .need c t, path, hp, h => by
      simp only [yes2, Bool.and_eq_true, beq_iff_eq] at h
      exact ⟨derive_ok hh hp h.1, yes2_holds hh hp h.2⟩
  | .fail _, path, hp, h => by cases h
end Go.SX
