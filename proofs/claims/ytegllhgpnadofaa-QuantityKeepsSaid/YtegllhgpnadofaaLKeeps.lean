/- The law QuantityKeeps answers true for every input; no condition beyond the row's own. The call is reckoned in a store of named blocks (the texts Sx1 to Sx15), in every order that the model may draw. -/
import Derived.Test.YtegllhgpnadofaaRows
import Derived.WalkKit
import Derived.ProofKit
import Derived.OpenShut
import Derived.Below
import Derived.ChangeOld
import Derived.Test.YtegllhgpnadofaaSx15
import Derived.Test.YtegllhgpnadofaaQkp
namespace Go.Proofs.Ytegllhgpnadofaa.quantityKeeps
open Go.ChangeShapes Go.WideShapes Go.ChangeAt Go.RowKit
set_option linter.unusedVariables false
set_option linter.unusedSimpArgs false

theorem own : ownKnob Try.prog.godebug = none := by kernel_rfl
theorem laidOut : laidOutB Try.prog = true := by kernel_rfl
theorem mix : Try.prog.follows .mixedOrders = true := by kernel_rfl
def ks0 : List (Option IntKind) := [some .i16, some .i16, some .u16]
def ks1 : List (Option IntKind) := [some .i16, some .i16, some .u16]
def ks2 : List (Option IntKind) := [some .i16]
def ks3 : List (Option IntKind) := [some .u16]
def sig : List (Bool × List (Option IntKind)) := [(true, ks0), (true, ks1), (false, ks2), (false, ks3)]
def m1 : Go.SX.Memo := ⟨21, [], [], .bool (.lit true)⟩
set_option maxRecDepth 100000 in
theorem m1_yes : m1.yes Try.prog (qbook 75 80) 100000 1 = true := by kernel_rfl
def book : Go.SX.Book := m1.book (qbook 75 80)
def fn : Nat → List Int → Int := qfn
theorem bookOK (env : Go.SX.Env) (h : env.f = fn) : Go.SX.BookOK Try.prog env book := Go.SX.Memo.ok mix (qbook_ok env h) m1 m1_yes
open Go.SX in
def hiN (l n : E) : E := add l (sub zero (add n one))
open Go.SX in
def hiP (l n : E) : E := add l n
open Go.SX in
def at_ (l h a : E) : E := wadd l (.op .tmod a (add (sub h l) one))
open Go.SX in
def combo (p : List (BE × Bool)) (l : List Hyp) : List Hyp := l.map fun h => (p ++ h.1, h.2)
open Go.SX in
def cA : BE := .cmp .lss (.var 1) zero
open Go.SX in
def cB : BE := .cmp .lss (.var 4) zero
open Go.SX in
def side (hA hB : E) : List Hyp := qfacts (.var 0) hA (at_ (.var 0) hA (.var 2)) (.var 3) hB (at_ (.var 3) hB (.var 5)) (.var 6) (add (.var 7) one)
open Go.SX in
def hyps : List Hyp := combo [(cA, true), (cB, true)] (side (hiN (.var 0) (.var 1)) (hiN (.var 3) (.var 4))) ++ combo [(cA, true), (cB, false)] (side (hiN (.var 0) (.var 1)) (hiP (.var 3) (.var 4))) ++
  combo [(cA, false), (cB, true)] (side (hiP (.var 0) (.var 1)) (hiN (.var 3) (.var 4))) ++ combo [(cA, false), (cB, false)] (side (hiP (.var 0) (.var 1)) (hiP (.var 3) (.var 4)))
/-- what the call comes to -/
noncomputable def tree : Go.SX.PT := Go.SX.run (Go.SX.callT Try.prog book 100000 7 (Go.SX.symAll sig 0) (Go.SX.ctxOf sig)) Go.SX.st0
theorem tree_eq : Go.SX.run (Go.SX.callT Try.prog book 100000 7 (Go.SX.symAll sig 0) (Go.SX.ctxOf sig)) Go.SX.st0 = tree := rfl
attribute [irreducible] tree
set_option maxRecDepth 100000 in
theorem reckoned : Go.SX.yes2 hyps [] tree = true := by kernel_rfl
open Go.SX in
theorem combo_hold {env : Env} {p : List (BE × Bool)} {l : List Hyp} (h : (∀ q, q ∈ p → q.1.den env = q.2) → Hyps.hold env l) : Hyps.hold env (combo p l) := by
  intro ps b v hm hps
  simp only [combo, List.mem_map] at hm
  obtain ⟨⟨ps1, r1⟩, hm, he⟩ := hm
  cases he
  exact h (fun q hq => hps q (by simp [hq])) ps1 b v hm (fun q hq => hps q (by simp [hq]))
open Go.SX in
/-- the number that is chosen lies in its span -/
theorem at_in {l a q : Int} (hl : -40000 ≤ l) (hl2 : l ≤ 40000) (ha : 0 ≤ a) (hq : 1 ≤ q) (hq2 : q ≤ 40000) : l ≤ IntKind.i64.wrap (l + a.tmod q) ∧ IntKind.i64.wrap (l + a.tmod q) ≤ l + (q - 1) := by
  have h1 := Int.tmod_nonneg (a := a) q ha
  have h2 := Int.tmod_lt_of_pos a (show 0 < q by omega)
  rw [wr (by omega) (by omega)]
  omega
open Go.SX in
theorem main (xs0 xs1 xs2 xs3 : List Int) (w0 : wfL ks0 xs0) (w1 : wfL ks1 xs1) (w2 : wfL ks2 xs2) (w3 : wfL ks3 xs3) : tree.holds (envOf (List.flatten ([xs0, xs1, xs2, xs3] : List (List Int))) fn) fun v _ => yes (envOf (List.flatten ([xs0, xs1, xs2, xs3] : List (List Int))) fn) v := by
  obtain ⟨l1, _, rfl, h0, n1, _, rfl, h1, a1, _, rfl, h2, rfl⟩ := w0
  obtain ⟨l2, _, rfl, h3, n2, _, rfl, h4, a2, _, rfl, h5, rfl⟩ := w1
  obtain ⟨num, _, rfl, h6, rfl⟩ := w2
  obtain ⟨den, _, rfl, h7, rfl⟩ := w3
  have b0 := bounds_i16 (h0 _ rfl)
  have b1 := bounds_i16 (h1 _ rfl)
  have b2 := bounds_u16 (h2 _ rfl)
  have b3 := bounds_i16 (h3 _ rfl)
  have b4 := bounds_i16 (h4 _ rfl)
  have b5 := bounds_u16 (h5 _ rfl)
  have b6 := bounds_i16 (h6 _ rfl)
  have b7 := bounds_u16 (h7 _ rfl)
  refine yes2_holds (hyps := hyps) (path := []) ?_ (by simp) reckoned
  generalize henv : envOf (List.flatten ([[l1, n1, a1], [l2, n2, a2], [num], [den]] : List (List Int))) fn = env
  have hf : env.f = qfn := by rw [← henv]; rfl
  have e0 : (E.var 0).den env = l1 := by rw [← henv]; rfl
  have e1 : (E.var 1).den env = n1 := by rw [← henv]; rfl
  have e2 : (E.var 2).den env = a1 := by rw [← henv]; rfl
  have e3 : (E.var 3).den env = l2 := by rw [← henv]; rfl
  have e4 : (E.var 4).den env = n2 := by rw [← henv]; rfl
  have e5 : (E.var 5).den env = a2 := by rw [← henv]; rfl
  have e6 : (E.var 6).den env = num := by rw [← henv]; rfl
  have e7 : (E.var 7).den env = den := by rw [← henv]; rfl
  have eP : ∀ l n, (hiP l n).den env = l.den env + n.den env := fun l n => rfl
  have eN : ∀ l n, (hiN l n).den env = l.den env + (0 - (n.den env + 1)) := fun l n => rfl
  have eA : ∀ l h a, (at_ l h a).den env = IntKind.i64.wrap (l.den env + (a.den env).tmod (h.den env - l.den env + 1)) := fun l h a => rfl
  have eD : (add (.var 7) one).den env = (E.var 7).den env + 1 := rfl
  have cAe : cA.den env = decide ((E.var 1).den env < 0) := rfl
  have cBe : cB.den env = decide ((E.var 4).den env < 0) := rfl
  have okay : ∀ hA hB, (∃ q, 1 ≤ q ∧ q ≤ 40000 ∧ hA.den env = l1 + (q - 1)) → (∃ q, 1 ≤ q ∧ q ≤ 40000 ∧ hB.den env = l2 + (q - 1)) → Hyps.hold env (side hA hB) := by
    rintro hA hB ⟨q, q1, q2, hq⟩ ⟨r, r1, r2, hr⟩
    have k1 := at_in (l := l1) (a := a1) (q := q) (by omega) (by omega) (by omega) q1 q2
    have k2 := at_in (l := l2) (a := a2) (q := r) (by omega) (by omega) (by omega) r1 r2
    have g1 : (at_ (.var 0) hA (.var 2)).den env = IntKind.i64.wrap (l1 + a1.tmod q) := by rw [eA, e0, e2, hq, show l1 + (q - 1) - l1 + 1 = q by omega]
    have g2 : (at_ (.var 3) hB (.var 5)).den env = IntKind.i64.wrap (l2 + a2.tmod r) := by rw [eA, e3, e5, hr, show l2 + (r - 1) - l2 + 1 = r by omega]
    refine qfacts_hold hf ⟨?_, ?_, ?_, ?_, ?_, ?_, ?_, ?_, ?_, ?_, ?_, ?_⟩
    · rw [e0]; omega
    · rw [e0, g1]; exact k1.1
    · rw [g1, hq]; exact k1.2
    · rw [hq]; omega
    · rw [e3]; omega
    · rw [e3, g2]; exact k2.1
    · rw [g2, hr]; exact k2.2
    · rw [hr]; omega
    · rw [e6]; omega
    · rw [e6]; omega
    · rw [eD, e7]; omega
    · rw [eD, e7]; omega
  have neg : ∀ l n x y, l.den env = x → n.den env = y → y < 0 → -32768 ≤ y → ∃ q, 1 ≤ q ∧ q ≤ 40000 ∧ (hiN l n).den env = x + (q - 1) := by
    intro l n x y hl hn h1 h2
    exact ⟨-y, by omega, by omega, by rw [eN, hl, hn]; omega⟩
  have pos : ∀ l n x y, l.den env = x → n.den env = y → 0 ≤ y → y ≤ 32767 → ∃ q, 1 ≤ q ∧ q ≤ 40000 ∧ (hiP l n).den env = x + (q - 1) := by
    intro l n x y hl hn h1 h2
    exact ⟨y + 1, by omega, by omega, by rw [eP, hl, hn]; omega⟩
  intro ps b v hm
  simp only [hyps, List.mem_append] at hm
  rcases hm with ((hm | hm) | hm) | hm
  · refine combo_hold (fun hp => okay _ _ ?_ ?_) ps b v hm
    · have := hp (cA, true) (by simp); rw [cAe, e1, decide_eq_true_iff] at this; exact neg _ _ _ _ e0 e1 this (by omega)
    · have := hp (cB, true) (by simp); rw [cBe, e4, decide_eq_true_iff] at this; exact neg _ _ _ _ e3 e4 this (by omega)
  · refine combo_hold (fun hp => okay _ _ ?_ ?_) ps b v hm
    · have := hp (cA, true) (by simp); rw [cAe, e1, decide_eq_true_iff] at this; exact neg _ _ _ _ e0 e1 this (by omega)
    · have := hp (cB, false) (by simp); rw [cBe, e4, decide_eq_false_iff_not] at this; exact pos _ _ _ _ e3 e4 (by omega) (by omega)
  · refine combo_hold (fun hp => okay _ _ ?_ ?_) ps b v hm
    · have := hp (cA, false) (by simp); rw [cAe, e1, decide_eq_false_iff_not] at this; exact pos _ _ _ _ e0 e1 (by omega) (by omega)
    · have := hp (cB, true) (by simp); rw [cBe, e4, decide_eq_true_iff] at this; exact neg _ _ _ _ e3 e4 this (by omega)
  · refine combo_hold (fun hp => okay _ _ ?_ ?_) ps b v hm
    · have := hp (cA, false) (by simp); rw [cAe, e1, decide_eq_false_iff_not] at this; exact pos _ _ _ _ e0 e1 (by omega) (by omega)
    · have := hp (cB, false) (by simp); rw [cBe, e4, decide_eq_false_iff_not] at this; exact pos _ _ _ _ e3 e4 (by omega) (by omega)
theorem walk (xs0 : List Int) (xs1 : List Int) (xs2 : List Int) (xs3 : List Int) (w0 : Go.SX.wfL ks0 xs0) (w1 : Go.SX.wfL ks1 xs1) (w2 : Go.SX.wfL ks2 xs2) (w3 : Go.SX.wfL ks3 xs3) (w : World) :
    Calls Try.prog 7 #[.agg (Go.SX.valsL ks0 xs0).toArray, .agg (Go.SX.valsL ks1 xs1).toArray, (Go.SX.valsL ks2 xs2).getD 0 undef, (Go.SX.valsL ks3 xs3).getD 0 undef] w fun e w' => e = .returned (.bool true) ∧ Below w.heap.size w w' :=
  Go.SX.calls_flat (P := Try.prog) (Bk := book) (l := sig) (r := [xs0, xs1, xs2, xs3]) (fn := fn) (n := 100000) (f := 7) (w := w) (t := tree) mix (bookOK _ rfl) (⟨xs0, _, rfl, w0, (fun h => by cases h), ⟨xs1, _, rfl, w1, (fun h => by cases h), ⟨xs2, _, rfl, w2, (fun _ => rfl), ⟨xs3, _, rfl, w3, (fun _ => rfl), rfl⟩⟩⟩⟩) tree_eq (main xs0 xs1 xs2 xs3 w0 w1 w2 w3)

set_option maxRecDepth 100000 in
theorem lifted (os : Os) (started : os.Started) (H : Type) (enc : TypeId × Value → H) :
    ReturnsInHanded {} Try.checked os 7 .any (Rows.quantityKeepsSpec.pre6 enc Try.prog Try.f7 Rows.quantityKeepsRow.domain false) (Rows.quantityKeepsSpec.post enc Try.prog Try.f7 false true false false) := by
  refine returnsInHanded_of_change (C := Try.checked) own started (by kernel_rfl) Try.func7
    (ChangeSpec.witness6 (enc := enc) (C := Try.checked) false ⟨#[], #[.agg #[.int .i16 0, .int .i16 0, .int .u16 0], .agg #[.int .i16 0, .int .i16 0, .int .u16 0], .int .i16 0, .int .u16 0], []⟩ 8 (by kernel_rfl) (by kernel_rfl) (by kernel_rfl) (by kernel_rfl)) ?_
  intro W base args ds gs before hval0 hW hcnd _
  have hval : ∀ (j : Nat) t v, Try.f7.params[j]? = some t → args[j]? = some v → Value.okWide Try.prog W .any base t v := hval0
  have hW' := hW
  obtain ⟨p, q, hA0, hV, rfl, hfz, hnd⟩ := hW
  have hA : DataW.TrodAll enc Try.prog W 0 (fun _ => true) true Try.f7.params.toList args.toList ds p := hA0
  rw [Try.params7] at hA hval
  obtain ⟨v0, vs0, d0, ds0, p0, q0, hargs, rfl, rfl, h0, r0⟩ := trodAll_cons hA
  obtain ⟨v1, vs1, d1, ds1, p1, q1, rfl, rfl, rfl, h1, r1⟩ := trodAll_cons r0
  obtain ⟨v2, vs2, d2, ds2, p2, q2, rfl, rfl, rfl, h2, r2⟩ := trodAll_cons r1
  obtain ⟨v3, vs3, d3, ds3, p3, q3, rfl, rfl, rfl, h3, r3⟩ := trodAll_cons r2
  obtain ⟨rfl, rfl, rfl⟩ := trodAll_nil r3
  obtain rfl : args = #[v0, v1, v2, v3] := by cases args; simp_all
  obtain ⟨rfl, rfl⟩ := trodVars_none hV
  have k0 := h0
  have lt0 : ∀ x ∈ p0, x.block < W.heap.size := by obtain ⟨m, hm⟩ := k0; exact DataW.trod_lt m _ _ _ hm
  obtain ⟨xs0, rfl, w0⟩ := Go.SX.open_flat Try.underlying64 40 (ks := ks0) (by kernel_rfl) (by kernel_rfl) (hval 0 64 v0 rfl rfl) h0
  have k1 := h1
  have lt1 : ∀ x ∈ p1, x.block < W.heap.size := by obtain ⟨m, hm⟩ := k1; exact DataW.trod_lt m _ _ _ hm
  obtain ⟨xs1, rfl, w1⟩ := Go.SX.open_flat Try.underlying64 40 (ks := ks1) (by kernel_rfl) (by kernel_rfl) (hval 1 64 v1 rfl rfl) h1
  have k2 := h2
  have lt2 : ∀ x ∈ p2, x.block < W.heap.size := by obtain ⟨m, hm⟩ := k2; exact DataW.trod_lt m _ _ _ hm
  obtain ⟨xs2, rfl, w2⟩ := Go.SX.open_flat1 (k := some .i16) Try.underlying61 (hval 2 61 v2 rfl rfl) h2
  have k3 := h3
  have lt3 : ∀ x ∈ p3, x.block < W.heap.size := by obtain ⟨m, hm⟩ := k3; exact DataW.trod_lt m _ _ _ hm
  obtain ⟨xs3, rfl, w3⟩ := Go.SX.open_flat1 (k := some .u16) Try.underlying62 (hval 3 62 v3 rfl rfl) h3
  clear hA0 hval0
  refine (walk xs0 xs1 xs2 xs3 w0 w1 w2 w3 W).mono fun e W' ⟨he, bel⟩ => ?_
  subst he
  exact ⟨_, rfl, _, _, _, [], _, [], hW', trodAll_mk1 (shut_bool Try.underlying4 _), (trodAll_cons_mk (Below.trod laidOut (by kernel_rfl) (of_decide_eq_true (by kernel_rfl)) k0 bel lt0) (trodAll_cons_mk (Below.trod laidOut (by kernel_rfl) (of_decide_eq_true (by kernel_rfl)) k1 bel lt1) (trodAll_cons_mk (Below.trod laidOut (by kernel_rfl) (of_decide_eq_true (by kernel_rfl)) k2 bel lt2) (trodAll_cons_mk (Below.trod laidOut (by kernel_rfl) (of_decide_eq_true (by kernel_rfl)) k3 bel lt3) trodAll_mk0)))), rfl, bel.frame _, fun h => by cases h⟩

theorem over : Rows.quantityKeepsRow.holds Try.pinned (OpenSpec.ofChange Rows.quantityKeepsSpec) :=
  OpenClaim.holds_of_wide 7 Try.f7 rfl rfl rfl rfl rfl rfl rfl ⟨rfl, rfl, rfl, rfl, rfl⟩ rfl rfl rfl rfl rfl (by kernel_rfl) Try.func7 (by kernel_rfl)
    (of_decide_eq_true (by kernel_rfl)) (by unfold Func.isWrapper; first | (rw [if_pos (by decide +kernel)]; kernel_rfl) | (rw [if_neg (by decide +kernel)]; exact ⟨rfl, rfl⟩))
    (fun os started H enc _ => lifted os started H enc)

/-- THE STATEMENT -/
theorem proved : Rows.QuantityKeepsSaid := over
#print axioms proved
end Go.Proofs.Ytegllhgpnadofaa.quantityKeeps
