/- Arguments that are slices of flat elements: rows of unknown length. -/
import Derived.Test.YtjgkcgkhcdeadaaSw25
import Derived.Deep.Slices
namespace Go.SX
open Go Go.RowKit Go.WideShapes Go.ChangeShapes
set_option linter.unusedVariables false
set_option linter.unusedSimpArgs false
set_option linter.unusedSectionVars false

/-- the shape of a parameter: a struct or an array (true) or one cell (false), flat; or a slice of flat elements -/
inductive PSh where
  | flat (agg : Bool) (ks : List (Option IntKind))
  | row (ks : List (Option IntKind))

structure RowD where
  len : Nat
  xs : Nat → Nat → Int

inductive PV where
  | flat (xs : List Int)
  | row (d : RowD) (v : Value)

/-- a slice value stands for a row that lies at r, o -/
def RowIs (w : World) (ks : List (Option IntKind)) (d : RowD) (v : Value) (r o : Nat) : Prop :=
  (d.len = 0 ∧ ∃ A c, v = .slice A 0 c) ∨ (∃ c, d.len ≤ c ∧ v = .slice (some ⟨r, o, none⟩) d.len c ∧ r < w.heap.size ∧ ∃ cs t fz, w.heap[r]? = some (.cells cs t fz) ∧
    ∀ (i j : Nat) (k : Option IntKind), i < d.len → ks[j]? = some k → cs[o + (ks.length * i + j)]? = some (cellW k (d.xs i j)) ∧ ∀ kd, k = some kd → kd.min ≤ d.xs i j ∧ d.xs i j ≤ kd.max)

def PV.val : PSh → PV → Value
  | .flat true ks, .flat xs => .agg (valsL ks xs).toArray
  | .flat false ks, .flat xs => (valsL ks xs).getD 0 undef
  | _, .row _ v => v
  | .row _, .flat _ => undef
def PV.ok (w : World) : PSh → PV → Prop
  | .flat b ks, .flat xs => wfL ks xs ∧ (b = false → ks.length = 1)
  | .row ks, .row d v => (d.len : Int) ≤ 9223372036854775807 ∧ ∃ r o, RowIs w ks d v r o
  | _, _ => False
def pvAll (w : World) : List PSh → List PV → Prop
  | [], l => l = []
  | s :: sh, l => ∃ p l', l = p :: l' ∧ p.ok w s ∧ pvAll w sh l'
def pvVals : List PSh → List PV → List Value
  | s :: sh, p :: l => p.val s :: pvVals sh l
  | _, _ => []
def PV.nums : PV → List Int
  | .flat xs => xs
  | .row d _ => [(d.len : Int)]
def pvNums : List PV → List Int
  | [] => []
  | p :: l => p.nums ++ pvNums l

def shArgs : List PSh → Nat → Nat → List SV
  | [], _, _ => []
  | .flat true ks :: l, i, b => .agg (symL ks i) :: shArgs l (i + ks.length) b
  | .flat false ks :: l, i, b => (symL ks i).getD 0 (.tuple []) :: shArgs l (i + ks.length) b
  | .row _ :: l, i, b => .vsl b (.var i) :: shArgs l (i + 1) (b + 1)
/-- the names of the functions that give a row's elements -/
def rowF (b : Nat) : Nat := 5000 + 100 * b
def shStore : List PSh → Nat → Nat → T Blk
  | [], _, _ => .nil
  | .flat _ ks :: l, i, b => shStore l (i + ks.length) b
  | .row ks :: l, i, b => (shStore l (i + 1) (b + 1)).set b (.arr ks (rowF b) [] (.var i))
def shRngs : List PSh → Nat → List (E × Int × Int)
  | [], _ => []
  | .flat _ ks :: l, i => symB ks i ++ shRngs l (i + ks.length)
  | .row _ :: l, i => (.var i, 0, 9223372036854775807) :: shRngs l (i + 1)
def shRows : List PSh → Nat
  | [] => 0
  | .flat _ _ :: l => shRows l
  | .row _ :: l => shRows l + 1
def shCtx (sh : List PSh) (facts : List (BE × Bool)) (d : Nat) : Ctx := ⟨shRngs sh 0, facts, d⟩
def shSt (sh : List PSh) : St := ⟨shStore sh 0 0, shRows sh, 0, [], [], true⟩

section
variable {H : Type} {enc : TypeId × Value → H} {P : Program} {w : World} {base : Nat} {spare : Nat → Bool} {held : Bool}

theorem valsL_get : ∀ {ks : List (Option IntKind)} {xs : List Int} {j : Nat} {k : Option IntKind}, wfL ks xs → ks[j]? = some k → (valsL ks xs)[j]? = some (cellW k (xs.getD j 0)) ∧ ∀ kd, k = some kd → kd.min ≤ xs.getD j 0 ∧ xs.getD j 0 ≤ kd.max
  | [], xs, j, k, h, hk => by simp at hk
  | q :: ks, xs, j, k, h, hk => by
      obtain ⟨x, xs', rfl, h1, h2⟩ := h
      cases j with
      | zero =>
        simp at hk
        subst hk
        refine ⟨by cases q <;> simp [valsL, cellV, cellW], fun kd e => ?_⟩
        simpa using wf_rng (h1 kd e)
      | succ j =>
        simp only [List.getElem?_cons_succ] at hk
        simpa [valsL] using valsL_get h2 hk

/-- a slice of flat elements -/
theorem open_row {r : Reach} {b0 : Nat} {t e : TypeId} {v : Value} {d : DataW H} {p : List MemPlace} (hs : P.underlying t = some (.slice e)) (n : Nat) {ks : List (Option IntKind)} (hk : flatK P n e = some ks) (hl : ks.length = P.cellsOf e) (hpos : ks.length ≠ 0)
    (hv : Value.okWide P w r b0 t v) (h : DataW.Trod enc P w base spare held t v d p) : ∃ D : RowD, (D.len : Int) ≤ 9223372036854775807 ∧ ∃ rr o, RowIs w ks D v rr o := by
  obtain ⟨a0, len0, cap0, rfl⟩ := okWide_slice hs hv
  obtain ⟨fuel, hf⟩ := h
  rcases Go.Deep.open_slice hs hf with ⟨e0, _⟩ | ⟨a, len, cap, m, fu, D, Pl, e0, hb, hlc, hm, hmm, _, hx⟩
  · simp [Value.cells] at e0
    obtain ⟨rfl, rfl, rfl⟩ := e0
    exact ⟨⟨0, fun _ _ => 0⟩, by simp, 0, 0, .inl ⟨rfl, none, 0, rfl⟩⟩
  · simp [Value.cells] at e0
    obtain ⟨rfl, rfl, rfl⟩ := e0
    unfold maxLen at hm
    by_cases hz : len0 = 0
    · subst hz
      exact ⟨⟨0, fun _ _ => 0⟩, by simp, 0, 0, .inl ⟨rfl, some a, cap0, rfl⟩⟩
    · have hlm : len0 ≤ m := by rw [hmm]; split <;> omega
      have each : ∀ i, i < len0 → ∃ xs : List Int, wfL ks xs ∧ ∀ j k, ks[j]? = some k → w.cell? ((a.add (i * P.cellsOf e)).add j) = some (cellW k (xs.getD j 0)) := by
        intro i hi
        obtain ⟨cs', h1, h2⟩ := hx i (by omega)
        obtain ⟨_, hlen, hcell⟩ := World.cells?_some h1
        obtain ⟨xs, e1, hw⟩ := (flatK_ok n hk hl h2).numbers
        refine ⟨xs, hw, fun j k hjk => ?_⟩
        have hj : j < ks.length := (List.getElem?_eq_some_iff.1 hjk).1
        rw [hcell j (by omega), e1]
        exact (valsL_get hw hjk).1
      obtain ⟨X, hX⟩ := Go.Deep.choose_lt each
      -- the block
      have k0 : ∃ k, ks[0]? = some k := by
        cases ks with
        | nil => exact absurd rfl hpos
        | cons q ks => exact ⟨q, rfl⟩
      obtain ⟨k0, hk0⟩ := k0
      have c0 := (hX 0 (by omega)).2 0 k0 hk0
      have a00 : (a.add (0 * P.cellsOf e)).add 0 = a := by simp [Addr.add]
      rw [a00] at c0
      unfold World.cell? at c0
      split at c0
      · rename_i cs t' fz hob
        split at c0
        · cases c0
        · rename_i hsp
          obtain ⟨ab, ao, asp⟩ := a
          have hsp' : asp = none := by simpa using hsp
          subst hsp'
          refine ⟨⟨len0, fun i j => (X i).getD j 0⟩, by simp only; omega, ab, ao, .inr ⟨cap0, hlc, rfl, (Array.getElem?_eq_some_iff.1 hob).1, cs, t', fz, hob, ?_⟩⟩
          intro i j k hi hjk
          obtain ⟨q1, q2⟩ := hX i hi
          refine ⟨?_, (valsL_get q1 hjk).2⟩
          have := q2 j k hjk
          rw [Addr.add', Addr.add'] at this
          unfold World.cell? at this
          rw [hob] at this
          simp only [Option.isSome_none, Bool.false_eq_true, if_false] at this
          rw [← this, hl]
          congr 1
          rw [Nat.mul_comm]; omega
      · cases c0
end

/-- the functions give the rows' elements -/
def FnRows (f : Nat → List Int → Int) : List PSh → List PV → Nat → Prop
  | .row ks :: sh, .row d _ :: l, b => (∀ i j, i < d.len → j < ks.length → f (rowF b + j) [(i : Int)] = d.xs i j) ∧ FnRows f sh l (b + 1)
  | .flat _ _ :: sh, _ :: l, b => FnRows f sh l b
  | _, _, _ => True
def PlRows (w : World) (ρ : Pl) : List PSh → List PV → Nat → Prop
  | .row ks :: sh, .row d v :: l, b => (∃ r o, ρ b = some (r, o) ∧ RowIs w ks d v r o) ∧ PlRows w ρ sh l (b + 1)
  | .flat _ _ :: sh, _ :: l, b => PlRows w ρ sh l b
  | _, _, _ => True
theorem PlRows.congr {w : World} {ρ ρ' : Pl} : ∀ {sh : List PSh} {l : List PV} {b : Nat}, (∀ n, b ≤ n → ρ' n = ρ n) → PlRows w ρ sh l b → PlRows w ρ' sh l b
  | [], _, _, _, _ => trivial
  | .row _ :: _, [], _, _, _ => trivial
  | .flat _ _ :: _, [], _, _, _ => trivial
  | .flat _ _ :: sh, p :: l, b, h, hp => PlRows.congr (sh := sh) (l := l) h hp
  | .row _ :: _, .flat _ :: _, _, _, _ => trivial
  | .row ks :: sh, .row d v :: l, b, h, hp => by
      obtain ⟨⟨r, o, e, hr⟩, h2⟩ := hp
      exact ⟨⟨r, o, by rw [h b (Nat.le_refl _)]; exact e, hr⟩, PlRows.congr (fun n hn => h n (by omega)) h2⟩

/-- places for the rows -/
theorem places {w : World} : ∀ {sh : List PSh} {l : List PV} (b : Nat), pvAll w sh l → ∃ ρ : Pl, (∀ n p, ρ n = some p → b ≤ n ∧ n < b + shRows sh) ∧ PlRows w ρ sh l b
  | [], l, b, h => ⟨fun _ => none, (fun n p e => by cases e), trivial⟩
  | .flat ag ks :: sh, l, b, h => by
      obtain ⟨p, l', rfl, _, h2⟩ := h
      obtain ⟨ρ, h3, h4⟩ := places b h2
      exact ⟨ρ, h3, h4⟩
  | .row ks :: sh, l, b, h => by
      obtain ⟨p, l', rfl, h1, h2⟩ := h
      obtain ⟨ρ, h3, h4⟩ := places (b + 1) h2
      cases p with
      | flat xs => exact h1.elim
      | row d v =>
        obtain ⟨_, r, o, hr⟩ := h1
        refine ⟨fun n => if n = b then some (r, o) else ρ n, ?_, ⟨r, o, by simp, hr⟩, h4.congr fun n hn => by simp only [if_neg (show ¬ n = b by omega)]⟩
        intro n q e
        simp only [shRows]
        dsimp only at e
        split at e
        · omega
        · have := h3 n q e; omega

theorem shRngs_ok {w : World} {env : Env} : ∀ {sh : List PSh} {l : List PV} {i : Nat}, pvAll w sh l → (∀ j, j < (pvNums l).length → env.v (i + j) = (pvNums l).getD j 0) → ∀ e lo hi, (e, lo, hi) ∈ shRngs sh i → lo ≤ e.den env ∧ e.den env ≤ hi
  | [], l, i, h, hv, e, lo, hi, hm => by simp [shRngs] at hm
  | .flat ag ks :: sh, l, i, h, hv, e, lo, hi, hm => by
      obtain ⟨p, l', rfl, h1, h2⟩ := h
      cases p with
      | row d v => exact h1.elim
      | flat xs =>
        obtain ⟨hw, _⟩ := h1
        have hlen := hw.length
        simp only [shRngs, List.mem_append] at hm
        simp only [pvNums, PV.nums, List.length_append] at hv
        rcases hm with hm | hm
        · refine symB_ok hw (fun j hj => ?_) e lo hi hm
          rw [hv j (by omega)]
          simp [List.getD, List.getElem?_append_left hj]
        · refine shRngs_ok h2 (fun j hj => ?_) e lo hi hm
          have := hv (ks.length + j) (by omega)
          rw [← hlen] at this ⊢
          rw [show i + xs.length + j = i + (xs.length + j) by omega, this]
          simp [List.getD, List.getElem?_append_right]
  | .row ks :: sh, l, i, h, hv, e, lo, hi, hm => by
      obtain ⟨p, l', rfl, h1, h2⟩ := h
      cases p with
      | flat xs => exact h1.elim
      | row d v =>
        simp only [shRngs, List.mem_cons] at hm
        simp only [pvNums, PV.nums, List.cons_append, List.nil_append, List.length_cons] at hv
        rcases hm with hm | hm
        · cases hm
          have := hv 0 (by omega)
          simp at this
          simp only [E.den, this]
          have := h1.1
          omega
        · refine shRngs_ok h2 (fun j hj => ?_) e lo hi hm
          have := hv (j + 1) (by omega)
          rw [show i + 1 + j = i + (j + 1) by omega, this]
          simp

theorem shArgs_rep {w : World} {env : Env} {ρ : Pl} : ∀ {sh : List PSh} {l : List PV} {i b : Nat}, pvAll w sh l → PlRows w ρ sh l b → (∀ j, j < (pvNums l).length → env.v (i + j) = (pvNums l).getD j 0) → RepL env ρ (shArgs sh i b) (pvVals sh l)
  | [], l, i, b, h, _, hv => by subst h; rfl
  | .flat ag ks :: sh, l, i, b, h, hp, hv => by
      obtain ⟨p, l', rfl, h1, h2⟩ := h
      cases p with
      | row d v => exact h1.elim
      | flat xs =>
        obtain ⟨hw, h1⟩ := h1
        have hlen := hw.length
        simp only [pvNums, PV.nums, List.length_append] at hv
        have ih := shArgs_rep (i := i + ks.length) h2 hp (fun j hj => by
          have := hv (ks.length + j) (by omega)
          rw [← hlen] at this ⊢
          rw [show i + xs.length + j = i + (xs.length + j) by omega, this]
          simp [List.getD, List.getElem?_append_right])
        have hs : RepL env ρ (symL ks i) (valsL ks xs) := symL_rep hw (fun j hj => by
          rw [hv j (by omega)]
          simp [List.getD, List.getElem?_append_left hj])
        cases ag with
        | true => exact ⟨_, _, ⟨_, hs, rfl⟩, ih, rfl⟩
        | false =>
          refine ⟨_, _, ?_, ih, rfl⟩
          have hl1 := h1 rfl
          match ks, xs, hl1, hlen, hs with
          | [k], [x], _, _, hs =>
            obtain ⟨u, us, hu, _, e⟩ := hs
            simp only [PV.val, valsL, List.getD_cons_zero, symL] at e ⊢
            cases e
            exact hu
  | .row ks :: sh, l, i, b, h, hp, hv => by
      obtain ⟨p, l', rfl, h1, h2⟩ := h
      cases p with
      | flat xs => exact h1.elim
      | row d v =>
        obtain ⟨⟨r, o, e, hr⟩, hp2⟩ := hp
        simp only [pvNums, PV.nums, List.cons_append, List.nil_append, List.length_cons] at hv
        have ih := shArgs_rep (i := i + 1) (b := b + 1) h2 hp2 (fun j hj => by
          have := hv (j + 1) (by omega)
          rw [show i + 1 + j = i + (j + 1) by omega, this]
          simp)
        have h0 : env.v i = (d.len : Int) := by have := hv 0 (by omega); simpa using this
        refine ⟨_, _, ?_, ih, rfl⟩
        refine ⟨r, o, e, by simp only [E.den, h0]; omega, ?_⟩
        simp only [E.den, h0, PV.val]
        rcases hr with ⟨hz, hA⟩ | ⟨c, hc, hv2, _⟩
        · exact .inl ⟨by omega, hA⟩
        · exact .inr ⟨c, by omega, by rw [hv2]; simp⟩

theorem shStore_blk {w : World} {env : Env} {ρ : Pl} : ∀ {sh : List PSh} {l : List PV} {i b : Nat}, pvAll w sh l → PlRows w ρ sh l b → FnRows env.f sh l b → (∀ j, j < (pvNums l).length → env.v (i + j) = (pvNums l).getD j 0) →
    ∀ n v, (shStore sh i b).get n = some v → ∃ r o, ρ n = some (r, o) ∧ v.own = false ∧ (v.void env o = false → BS env ρ (w.heap[r]?) o v ∧ r < w.heap.size)
  | [], l, i, b, h, _, _, hv, n, v, hg => by cases hg
  | .flat ag ks :: sh, l, i, b, h, hp, hf, hv, n, v, hg => by
      obtain ⟨p, l', rfl, h1, h2⟩ := h
      cases p with
      | row d v => exact h1.elim
      | flat xs =>
        have hlen := h1.1.length
        simp only [pvNums, PV.nums, List.length_append] at hv
        exact shStore_blk (i := i + ks.length) h2 hp hf (fun j hj => by
          have := hv (ks.length + j) (by omega)
          rw [← hlen] at this ⊢
          rw [show i + xs.length + j = i + (xs.length + j) by omega, this]
          simp [List.getD, List.getElem?_append_right]) n v hg
  | .row ks :: sh, l, i, b, h, hp, hf, hv, n, v, hg => by
      obtain ⟨p, l', rfl, h1, h2⟩ := h
      cases p with
      | flat xs => exact h1.elim
      | row d u =>
        obtain ⟨⟨r, o, e, hr⟩, hp2⟩ := hp
        obtain ⟨hf1, hf2⟩ := hf
        simp only [pvNums, PV.nums, List.cons_append, List.nil_append, List.length_cons] at hv
        have h0 : env.v i = (d.len : Int) := by have := hv 0 (by omega); simpa using this
        simp only [shStore] at hg
        rw [T.get_set] at hg
        split at hg
        · rename_i hn
          subst hn
          cases hg
          refine ⟨r, o, e, rfl, fun hvoid => ?_⟩
          simp only [Blk.void, E.den, h0, beq_eq_false_iff_ne, ne_eq] at hvoid
          rcases hr with ⟨hz, _⟩ | ⟨c, hc, hv2, hlt, cs, t, fz, hob, hcs⟩
          · exact absurd (by rw [hz]; rfl) hvoid
          · refine ⟨⟨cs, t, fz, hob, by simp only [E.den, h0]; omega, fun a j k ha hk => ?_⟩, hlt⟩
            simp only [E.den, h0] at ha
            have hj : j < ks.length := (List.getElem?_eq_some_iff.1 hk).1
            obtain ⟨q1, q2⟩ := hcs a j k (by omega) hk
            have := hf1 a j (by omega) hj
            simp only [denL, List.nil_append]
            rw [this]
            exact ⟨q1, q2⟩
        · exact shStore_blk (i := i + 1) (b := b + 1) h2 hp2 hf2 (fun j hj => by
            have := hv (j + 1) (by omega)
            rw [show i + 1 + j = i + (j + 1) by omega, this]
            simp) n v hg

theorem shStore_dom : ∀ {sh : List PSh} {i b n : Nat}, b ≤ n → n < b + shRows sh → (shStore sh i b).get n ≠ none
  | [], i, b, n, h1, h2 => by simp [shRows] at h2; omega
  | .flat ag ks :: sh, i, b, n, h1, h2 => shStore_dom (sh := sh) (i := i + ks.length) h1 h2
  | .row ks :: sh, i, b, n, h1, h2 => by
      simp only [shStore]
      rw [T.get_set]
      split
      · simp
      · exact shStore_dom (sh := sh) (i := i + 1) (by omega) (by simp only [shRows] at h2; omega)

/-- a law over such parameters: yes on every way -/
theorem calls_rows {P : Program} {X : Par} {sh : List PSh} {l : List PV} {fn : Nat → List Int → Int} {n f d : Nat} {w : World} {t : VT} {facts : List (BE × Bool)}
    (hmix : P.follows .mixedOrders = true) (hX : ParOK P fn X) (hw : pvAll w sh l) (hfn : FnRows fn sh l 0) (hf : ∀ be v, (be, v) ∈ facts → be.den (envOf (pvNums l) fn) = v)
    (ht : (run (callT P X n f (shArgs sh 0 0) (shCtx sh facts d)) (shSt sh)).vt = t) (h : t.holds (envOf (pvNums l) fn) fun v => yes (envOf (pvNums l) fn) v) :
    Calls P f (pvVals sh l).toArray w fun e w' => e = .returned (.bool true) ∧ Below w.heap.size w w' := by
  obtain ⟨ρ, h3, h4⟩ := places 0 hw
  have hv : ∀ j, j < (pvNums l).length → (envOf (pvNums l) fn).v (0 + j) = (pvNums l).getD j 0 := fun j hj => by simp [envOf]
  have hs : HS (envOf (pvNums l) fn) ρ w.heap.size (shStore sh 0 0) w := by
    refine ⟨?_, ?_, ?_, Nat.le_refl _, ?_, hX.rows⟩
    · intro b v hg
      obtain ⟨r, o, e, ho, hb⟩ := shStore_blk hw h4 hfn hv b v hg
      exact ⟨r, o, e, fun hvd => ⟨(hb hvd).1, (fun h => by rw [ho] at h; cases h), fun _ => (hb hvd).2⟩⟩
    · intro b p e
      have := h3 b p e
      exact shStore_dom (by omega) (by omega)
    · intro b b' r o o' e e' hr hd hd'
      cases hg : (shStore sh 0 0).get b with
      | none =>
        have := h3 b _ e
        exact absurd hg (shStore_dom (by omega) (by omega))
      | some v =>
        rw [hg] at hd
        obtain ⟨r', o', e1, ho, hb⟩ := shStore_blk hw h4 hfn hv b v hg
        rw [e] at e1
        cases e1
        have := (hb hd.void).2
        omega
    · intro b v hg
      obtain ⟨r, o, e, ho, hb⟩ := shStore_blk hw h4 hfn hv b v hg
      cases v with
      | vec => cases ho
      | _ => exact trivial
  subst ht
  exact calls_yes hmix hX rfl (show (shCtx sh facts d).ok _ from ⟨shRngs_ok hw hv, hf⟩) (shArgs_rep hw h4 hv) hs (PT.holds_vt h)
end Go.SX
