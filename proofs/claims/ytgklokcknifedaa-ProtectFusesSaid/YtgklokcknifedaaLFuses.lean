/- The law ProtectFuses answers true for every input: with currents that are greater in amount a fuse melts not later; with currents up to its rating it never does; no condition beyond the row's own. The call is reckoned in a store of named blocks (the texts Sw1 to Sw28), in every order that the model may draw. -/
import Derived.Test.YtgklokcknifedaaRows
import Derived.WalkKit
import Derived.ProofKit
import Derived.OpenShut
import Derived.Below
import Derived.ChangeOld
import Derived.Test.YtgklokcknifedaaSw40
import Derived.Test.YtgklokcknifedaaFc
namespace Go.Proofs.Ytgklokcknifedaa.protectFuses
open Go.ChangeShapes Go.WideShapes Go.ChangeAt Go.RowKit
set_option linter.unusedVariables false
set_option linter.unusedSimpArgs false

theorem own : ownKnob Try.prog.godebug = none := by kernel_rfl
theorem laidOut : laidOutB Try.prog = true := by kernel_rfl
theorem mix : Try.prog.follows .mixedOrders = true := by kernel_rfl
def ks0 : List (Option IntKind) := [some .u16]
def ks1 : List (Option IntKind) := [some .u32]
def ks2 : List (Option IntKind) := [some .i16]
def ks3 : List (Option IntKind) := [some .u8]
def sh : List Go.SX.PSh := [.flat false ks0, .flat false ks1, .row ks2, .row ks3]
/-- the functions of the loops, over those of the rows -/
noncomputable def fnL (g : Nat → List Int → Int) : Nat → List Int → Int := bfn g
noncomputable def fnP (pv : List Go.SX.PV) : Nat → List Int → Int := fnL (Go.SX.withRows (Go.SX.rowed fun _ _ => 0) sh pv)
theorem fnP_high (pv : List Go.SX.PV) (k : Nat) (a : List Int) (h : 1000 ≤ k) : fnP pv k a = Go.SX.withRows (Go.SX.rowed fun _ _ => 0) sh pv k a := bfn_high _ k a h
theorem fnP_rowFn (pv : List Go.SX.PV) : Go.SX.RowFn (fnP pv) := fun k a h1 h2 => by rw [fnP_high pv k a h1, Go.SX.withRows_low h2]; exact Go.SX.rowed_rows _ k a h1 h2
theorem fnP_rows (pv : List Go.SX.PV) : Go.SX.FnRows (fnP pv) sh pv 0 := Go.SX.rowVal_rows (by rfl) fun k a x hk hx => by
  rw [fnP_high pv k a (by unfold Go.SX.rowF at hk; omega)]
  unfold Go.SX.withRows; rw [hx]
def X : Go.SX.Par := XX
theorem XOK (pv : List Go.SX.PV) : Go.SX.ParOK Try.prog (fnP pv) X := XX_ok (good_of _ fun k a h1 h2 => by rw [Go.SX.withRows_low h2]; exact Go.SX.rowed_rows _ k a h1 h2)
def vt : Go.SX.VT := (.ite (.cmp .eql (.app 30 [(.lit 0), (.app 22 [(.lit 0), (.app 1000 []), (.app 1000 []), (.app 1000 []), (.var 0), (.var 1), (.var 2), (.var 3)]), (.app 21 [(.lit 0), (.app 1000 []), (.app 1000 []), (.app 1000 []), (.var 0), (.var 1), (.var 2), (.var 3)])]) (.lit 0)) (.ite (.cmp .eql (.app 40 [(.lit 0), (.lit 0), (.app 22 [(.lit 0), (.app 1000 []), (.app 1000 []), (.app 1000 []), (.var 0), (.var 1), (.var 2), (.var 3)]), (.app 21 [(.lit 0), (.app 1000 []), (.app 1000 []), (.app 1000 []), (.var 0), (.var 1), (.var 2), (.var 3)]), (.var 0), (.op .add (.lit 1) (.var 1))]) (.lit 0)) (.ite (.cmp .eql (.app 30 [(.lit 0), (.app 23 [(.lit 0), (.app 1000 []), (.app 1000 []), (.app 1000 []), (.var 0), (.var 1), (.var 2), (.var 3)]), (.app 21 [(.lit 0), (.app 1000 []), (.app 1000 []), (.app 1000 []), (.var 0), (.var 1), (.var 2), (.var 3)])]) (.lit 0)) (.ite (.cmp .eql (.app 40 [(.lit 0), (.lit 0), (.app 23 [(.lit 0), (.app 1000 []), (.app 1000 []), (.app 1000 []), (.var 0), (.var 1), (.var 2), (.var 3)]), (.app 21 [(.lit 0), (.app 1000 []), (.app 1000 []), (.app 1000 []), (.var 0), (.var 1), (.var 2), (.var 3)]), (.var 0), (.op .add (.lit 1) (.var 1))]) (.lit 0)) (.ite (.cmp .eql (.app 30 [(.lit 0), (.app 24 [(.lit 0), (.app 1000 []), (.app 1000 []), (.app 1000 []), (.var 0), (.var 1), (.var 2), (.var 3)]), (.app 21 [(.lit 0), (.app 1000 []), (.app 1000 []), (.app 1000 []), (.var 0), (.var 1), (.var 2), (.var 3)])]) (.lit 0)) (.ite (.cmp .eql (.app 40 [(.lit 0), (.lit 0), (.app 24 [(.lit 0), (.app 1000 []), (.app 1000 []), (.app 1000 []), (.var 0), (.var 1), (.var 2), (.var 3)]), (.app 21 [(.lit 0), (.app 1000 []), (.app 1000 []), (.app 1000 []), (.var 0), (.var 1), (.var 2), (.var 3)]), (.var 0), (.op .add (.lit 1) (.var 1))]) (.lit 0)) (.leaf (.bool (.lit true))) (.leaf (.bool (.lit false)))) (.leaf (.bool (.lit false)))) (.ite (.cmp .eql (.app 30 [(.lit 0), (.app 24 [(.lit 0), (.app 1000 []), (.app 1000 []), (.app 1000 []), (.var 0), (.var 1), (.var 2), (.var 3)]), (.app 21 [(.lit 0), (.app 1000 []), (.app 1000 []), (.app 1000 []), (.var 0), (.var 1), (.var 2), (.var 3)])]) (.lit 0)) (.ite (.cmp .eql (.app 40 [(.lit 0), (.lit 0), (.app 24 [(.lit 0), (.app 1000 []), (.app 1000 []), (.app 1000 []), (.var 0), (.var 1), (.var 2), (.var 3)]), (.app 21 [(.lit 0), (.app 1000 []), (.app 1000 []), (.app 1000 []), (.var 0), (.var 1), (.var 2), (.var 3)]), (.var 0), (.op .add (.lit 1) (.var 1))]) (.lit 0)) (.leaf (.bool (.lit true))) (.leaf (.bool (.lit false)))) (.leaf (.bool (.lit false))))) (.ite (.cmp .eql (.app 30 [(.lit 0), (.app 24 [(.lit 0), (.app 1000 []), (.app 1000 []), (.app 1000 []), (.var 0), (.var 1), (.var 2), (.var 3)]), (.app 21 [(.lit 0), (.app 1000 []), (.app 1000 []), (.app 1000 []), (.var 0), (.var 1), (.var 2), (.var 3)])]) (.lit 0)) (.ite (.cmp .eql (.app 40 [(.lit 0), (.lit 0), (.app 24 [(.lit 0), (.app 1000 []), (.app 1000 []), (.app 1000 []), (.var 0), (.var 1), (.var 2), (.var 3)]), (.app 21 [(.lit 0), (.app 1000 []), (.app 1000 []), (.app 1000 []), (.var 0), (.var 1), (.var 2), (.var 3)]), (.var 0), (.op .add (.lit 1) (.var 1))]) (.lit 0)) (.leaf (.bool (.lit false))) (.leaf (.bool (.lit false)))) (.leaf (.bool (.lit false))))) (.ite (.cmp .eql (.app 30 [(.lit 0), (.app 23 [(.lit 0), (.app 1000 []), (.app 1000 []), (.app 1000 []), (.var 0), (.var 1), (.var 2), (.var 3)]), (.app 21 [(.lit 0), (.app 1000 []), (.app 1000 []), (.app 1000 []), (.var 0), (.var 1), (.var 2), (.var 3)])]) (.lit 0)) (.ite (.cmp .eql (.app 40 [(.lit 0), (.lit 0), (.app 23 [(.lit 0), (.app 1000 []), (.app 1000 []), (.app 1000 []), (.var 0), (.var 1), (.var 2), (.var 3)]), (.app 21 [(.lit 0), (.app 1000 []), (.app 1000 []), (.app 1000 []), (.var 0), (.var 1), (.var 2), (.var 3)]), (.var 0), (.op .add (.lit 1) (.var 1))]) (.lit 0)) (.ite (.cmp .eql (.app 30 [(.lit 0), (.app 24 [(.lit 0), (.app 1000 []), (.app 1000 []), (.app 1000 []), (.var 0), (.var 1), (.var 2), (.var 3)]), (.app 21 [(.lit 0), (.app 1000 []), (.app 1000 []), (.app 1000 []), (.var 0), (.var 1), (.var 2), (.var 3)])]) (.lit 0)) (.ite (.cmp .eql (.app 40 [(.lit 0), (.lit 0), (.app 24 [(.lit 0), (.app 1000 []), (.app 1000 []), (.app 1000 []), (.var 0), (.var 1), (.var 2), (.var 3)]), (.app 21 [(.lit 0), (.app 1000 []), (.app 1000 []), (.app 1000 []), (.var 0), (.var 1), (.var 2), (.var 3)]), (.var 0), (.op .add (.lit 1) (.var 1))]) (.lit 0)) (.leaf (.bool (.lit false))) (.leaf (.bool (.lit false)))) (.leaf (.bool (.lit false)))) (.ite (.cmp .eql (.app 30 [(.lit 0), (.app 24 [(.lit 0), (.app 1000 []), (.app 1000 []), (.app 1000 []), (.var 0), (.var 1), (.var 2), (.var 3)]), (.app 21 [(.lit 0), (.app 1000 []), (.app 1000 []), (.app 1000 []), (.var 0), (.var 1), (.var 2), (.var 3)])]) (.lit 0)) (.ite (.cmp .eql (.app 40 [(.lit 0), (.lit 0), (.app 24 [(.lit 0), (.app 1000 []), (.app 1000 []), (.app 1000 []), (.var 0), (.var 1), (.var 2), (.var 3)]), (.app 21 [(.lit 0), (.app 1000 []), (.app 1000 []), (.app 1000 []), (.var 0), (.var 1), (.var 2), (.var 3)]), (.var 0), (.op .add (.lit 1) (.var 1))]) (.lit 0)) (.ite (.cmp .leq (.app 41 [(.lit 0), (.lit 0), (.app 23 [(.lit 0), (.app 1000 []), (.app 1000 []), (.app 1000 []), (.var 0), (.var 1), (.var 2), (.var 3)]), (.app 21 [(.lit 0), (.app 1000 []), (.app 1000 []), (.app 1000 []), (.var 0), (.var 1), (.var 2), (.var 3)]), (.var 0), (.op .add (.lit 1) (.var 1))]) (.app 41 [(.lit 0), (.lit 0), (.app 22 [(.lit 0), (.app 1000 []), (.app 1000 []), (.app 1000 []), (.var 0), (.var 1), (.var 2), (.var 3)]), (.app 21 [(.lit 0), (.app 1000 []), (.app 1000 []), (.app 1000 []), (.var 0), (.var 1), (.var 2), (.var 3)]), (.var 0), (.op .add (.lit 1) (.var 1))])) (.leaf (.bool (.lit true))) (.leaf (.bool (.lit false)))) (.leaf (.bool (.lit false)))) (.leaf (.bool (.lit false))))) (.ite (.cmp .eql (.app 30 [(.lit 0), (.app 24 [(.lit 0), (.app 1000 []), (.app 1000 []), (.app 1000 []), (.var 0), (.var 1), (.var 2), (.var 3)]), (.app 21 [(.lit 0), (.app 1000 []), (.app 1000 []), (.app 1000 []), (.var 0), (.var 1), (.var 2), (.var 3)])]) (.lit 0)) (.ite (.cmp .eql (.app 40 [(.lit 0), (.lit 0), (.app 24 [(.lit 0), (.app 1000 []), (.app 1000 []), (.app 1000 []), (.var 0), (.var 1), (.var 2), (.var 3)]), (.app 21 [(.lit 0), (.app 1000 []), (.app 1000 []), (.app 1000 []), (.var 0), (.var 1), (.var 2), (.var 3)]), (.var 0), (.op .add (.lit 1) (.var 1))]) (.lit 0)) (.leaf (.bool (.lit false))) (.leaf (.bool (.lit false)))) (.leaf (.bool (.lit false)))))) (.ite (.cmp .eql (.app 30 [(.lit 0), (.app 23 [(.lit 0), (.app 1000 []), (.app 1000 []), (.app 1000 []), (.var 0), (.var 1), (.var 2), (.var 3)]), (.app 21 [(.lit 0), (.app 1000 []), (.app 1000 []), (.app 1000 []), (.var 0), (.var 1), (.var 2), (.var 3)])]) (.lit 0)) (.ite (.cmp .eql (.app 40 [(.lit 0), (.lit 0), (.app 23 [(.lit 0), (.app 1000 []), (.app 1000 []), (.app 1000 []), (.var 0), (.var 1), (.var 2), (.var 3)]), (.app 21 [(.lit 0), (.app 1000 []), (.app 1000 []), (.app 1000 []), (.var 0), (.var 1), (.var 2), (.var 3)]), (.var 0), (.op .add (.lit 1) (.var 1))]) (.lit 0)) (.ite (.cmp .eql (.app 30 [(.lit 0), (.app 24 [(.lit 0), (.app 1000 []), (.app 1000 []), (.app 1000 []), (.var 0), (.var 1), (.var 2), (.var 3)]), (.app 21 [(.lit 0), (.app 1000 []), (.app 1000 []), (.app 1000 []), (.var 0), (.var 1), (.var 2), (.var 3)])]) (.lit 0)) (.ite (.cmp .eql (.app 40 [(.lit 0), (.lit 0), (.app 24 [(.lit 0), (.app 1000 []), (.app 1000 []), (.app 1000 []), (.var 0), (.var 1), (.var 2), (.var 3)]), (.app 21 [(.lit 0), (.app 1000 []), (.app 1000 []), (.app 1000 []), (.var 0), (.var 1), (.var 2), (.var 3)]), (.var 0), (.op .add (.lit 1) (.var 1))]) (.lit 0)) (.leaf (.bool (.lit false))) (.leaf (.bool (.lit false)))) (.leaf (.bool (.lit false)))) (.ite (.cmp .eql (.app 30 [(.lit 0), (.app 24 [(.lit 0), (.app 1000 []), (.app 1000 []), (.app 1000 []), (.var 0), (.var 1), (.var 2), (.var 3)]), (.app 21 [(.lit 0), (.app 1000 []), (.app 1000 []), (.app 1000 []), (.var 0), (.var 1), (.var 2), (.var 3)])]) (.lit 0)) (.ite (.cmp .eql (.app 40 [(.lit 0), (.lit 0), (.app 24 [(.lit 0), (.app 1000 []), (.app 1000 []), (.app 1000 []), (.var 0), (.var 1), (.var 2), (.var 3)]), (.app 21 [(.lit 0), (.app 1000 []), (.app 1000 []), (.app 1000 []), (.var 0), (.var 1), (.var 2), (.var 3)]), (.var 0), (.op .add (.lit 1) (.var 1))]) (.lit 0)) (.leaf (.bool (.lit false))) (.leaf (.bool (.lit false)))) (.leaf (.bool (.lit false))))) (.ite (.cmp .eql (.app 30 [(.lit 0), (.app 24 [(.lit 0), (.app 1000 []), (.app 1000 []), (.app 1000 []), (.var 0), (.var 1), (.var 2), (.var 3)]), (.app 21 [(.lit 0), (.app 1000 []), (.app 1000 []), (.app 1000 []), (.var 0), (.var 1), (.var 2), (.var 3)])]) (.lit 0)) (.ite (.cmp .eql (.app 40 [(.lit 0), (.lit 0), (.app 24 [(.lit 0), (.app 1000 []), (.app 1000 []), (.app 1000 []), (.var 0), (.var 1), (.var 2), (.var 3)]), (.app 21 [(.lit 0), (.app 1000 []), (.app 1000 []), (.app 1000 []), (.var 0), (.var 1), (.var 2), (.var 3)]), (.var 0), (.op .add (.lit 1) (.var 1))]) (.lit 0)) (.leaf (.bool (.lit false))) (.leaf (.bool (.lit false)))) (.leaf (.bool (.lit false))))))
set_option maxRecDepth 100000 in
theorem tree_vt : (Go.SX.run (Go.SX.callT Try.prog X 100000 3 (Go.SX.shArgs sh 0 0) (Go.SX.shCtx sh [] 0)) (Go.SX.shSt sh)).vt = vt := by kernel_rfl
open Go.SX in
theorem main (pv : List Go.SX.PV) (w : World) (hw : Go.SX.pvAll w sh pv) : vt.holds (Go.SX.envOf (Go.SX.pvNums pv) (fnP pv)) fun v => Go.SX.yes (Go.SX.envOf (Go.SX.pvNums pv) (fnP pv)) v := by
  obtain ⟨p0, _, rfl, g0, p1, _, rfl, g1, p2, _, rfl, g2, p3, _, rfl, g3, e⟩ := hw
  rw [show _ = ([] : List PV) from e]
  obtain ⟨R, rfl, hR⟩ := flatI g0
  obtain ⟨m, rfl, hm⟩ := flatI g1
  cases p2 with
  | flat xs => exact g2.elim
  | row D2 v2 =>
    cases p3 with
    | flat xs => exact g3.elim
    | row D3 v3 =>
      have hf := fnP_rows [.flat [R], .flat [m], .row D2 v2, .row D3 v3]
      obtain ⟨f2, f3, _⟩ := hf
      obtain ⟨_, r2, o2, i2⟩ := g2
      obtain ⟨_, r3, o3, i3⟩ := g3
      refine core (fn := fnP [.flat [R], .flat [m], .row D2 v2, .row D3 v3]) (R := R) (m := m) (ln := D2.len) (mo := D3.len) (good_of _ fun k a h1 h2 => by rw [Go.SX.withRows_low h2]; exact Go.SX.rowed_rows _ k a h1 h2) hR hm (fun i hi => ?_) (fun i hi => ?_) vt rfl
      · have hi' : i < D2.len := by omega
        have e0 := f2 i 0 hi' (by decide)
        rw [show fnP [.flat [R], .flat [m], .row D2 v2, .row D3 v3] 5000 [(i : Int)] = D2.xs i 0 from e0]
        rcases i2 with ⟨hz, _⟩ | ⟨c, hc, _, _, cs, t, fz, _, hcs⟩
        · omega
        · exact (hcs i 0 (some .i16) hi' rfl).2 .i16 rfl
      · have hi' : i < D3.len := by omega
        have e0 := f3 i 0 hi' (by decide)
        rw [show fnP [.flat [R], .flat [m], .row D2 v2, .row D3 v3] 5100 [(i : Int)] = D3.xs i 0 from e0]
        rcases i3 with ⟨hz, _⟩ | ⟨c, hc, _, _, cs, t, fz, _, hcs⟩
        · omega
        · exact (hcs i 0 (some .u8) hi' rfl).2 .u8 rfl

theorem walkAll (pv : List Go.SX.PV) (w : World) (hw : Go.SX.pvAll w sh pv) : Calls Try.prog 3 (Go.SX.pvVals sh pv).toArray w fun e w' => e = .returned (.bool true) ∧ Below w.heap.size w w' :=
  Go.SX.calls_rows (fn := fnP pv) mix (XOK pv) hw (fnP_rows pv) (by simp) tree_vt (main pv w hw)
theorem walk (w : World) (xs0 : List Int) (xs1 : List Int) (v2 : Value) (D2 : Go.SX.RowD) (v3 : Value) (D3 : Go.SX.RowD) (w0 : Go.SX.wfL ks0 xs0) (w1 : Go.SX.wfL ks1 xs1) (l2 : (D2.len : Int) ≤ 9223372036854775807) (w2 : ∃ r o, Go.SX.RowIs w ks2 D2 v2 r o) (l3 : (D3.len : Int) ≤ 9223372036854775807) (w3 : ∃ r o, Go.SX.RowIs w ks3 D3 v3 r o) :
    Calls Try.prog 3 #[(Go.SX.valsL ks0 xs0).getD 0 undef, (Go.SX.valsL ks1 xs1).getD 0 undef, v2, v3] w fun e w' => e = .returned (.bool true) ∧ Below w.heap.size w w' :=
  walkAll [.flat xs0, .flat xs1, .row D2 v2, .row D3 v3] w ⟨_, _, rfl, ⟨w0, (fun _ => rfl)⟩, ⟨_, _, rfl, ⟨w1, (fun _ => rfl)⟩, ⟨_, _, rfl, ⟨l2, w2⟩, ⟨_, _, rfl, ⟨l3, w3⟩, rfl⟩⟩⟩⟩

set_option maxRecDepth 100000 in
theorem lifted (os : Os) (started : os.Started) (H : Type) (enc : TypeId × Value → H) :
    ReturnsInHanded {} Try.checked os 3 .any (Rows.protectFusesSpec.pre6 enc Try.prog Try.f3 Rows.protectFusesRow.domain false) (Rows.protectFusesSpec.post enc Try.prog Try.f3 false true false false) := by
  refine returnsInHanded_of_change (C := Try.checked) own started (by kernel_rfl) Try.func3
    (ChangeSpec.witness6 (enc := enc) (C := Try.checked) false ⟨#[], #[.int .u16 0, .int .u32 0, .slice none 0 0, .slice none 0 0], []⟩ 8 (by kernel_rfl) (by kernel_rfl) (by kernel_rfl) (by kernel_rfl)) ?_
  intro W base args ds gs before hval0 hW hcnd _
  have hval : ∀ (j : Nat) t v, Try.f3.params[j]? = some t → args[j]? = some v → Value.okWide Try.prog W .any base t v := hval0
  have hW' := hW
  obtain ⟨p, q, hA0, hV, rfl, hfz, hnd⟩ := hW
  have hA : DataW.TrodAll enc Try.prog W 0 (fun _ => true) true Try.f3.params.toList args.toList ds p := hA0
  rw [Try.params3] at hA hval
  obtain ⟨v0, vs0, d0, ds0, p0, q0, hargs, rfl, rfl, h0, r0⟩ := trodAll_cons hA
  obtain ⟨v1, vs1, d1, ds1, p1, q1, rfl, rfl, rfl, h1, r1⟩ := trodAll_cons r0
  obtain ⟨v2, vs2, d2, ds2, p2, q2, rfl, rfl, rfl, h2, r2⟩ := trodAll_cons r1
  obtain ⟨v3, vs3, d3, ds3, p3, q3, rfl, rfl, rfl, h3, r3⟩ := trodAll_cons r2
  obtain ⟨rfl, rfl, rfl⟩ := trodAll_nil r3
  obtain rfl : args = #[v0, v1, v2, v3] := by cases args; simp_all
  obtain ⟨rfl, rfl⟩ := trodVars_none hV
  have k0 := h0
  have lt0 : ∀ x ∈ p0, x.block < W.heap.size := by obtain ⟨m, hm⟩ := k0; exact DataW.trod_lt m _ _ _ hm
  obtain ⟨xs0, rfl, w0⟩ := Go.SX.open_flat1 (k := some .u16) Try.underlying22 (hval 0 22 v0 rfl rfl) h0
  have k1 := h1
  have lt1 : ∀ x ∈ p1, x.block < W.heap.size := by obtain ⟨m, hm⟩ := k1; exact DataW.trod_lt m _ _ _ hm
  obtain ⟨xs1, rfl, w1⟩ := Go.SX.open_flat1 (k := some .u32) Try.underlying23 (hval 1 23 v1 rfl rfl) h1
  have k2 := h2
  have lt2 : ∀ x ∈ p2, x.block < W.heap.size := by obtain ⟨m, hm⟩ := k2; exact DataW.trod_lt m _ _ _ hm
  obtain ⟨D2, l2, w2⟩ := Go.SX.open_row Try.underlying24 40 (ks := ks2) (by kernel_rfl) (by kernel_rfl) (by decide) (hval 2 24 v2 rfl rfl) h2
  have k3 := h3
  have lt3 : ∀ x ∈ p3, x.block < W.heap.size := by obtain ⟨m, hm⟩ := k3; exact DataW.trod_lt m _ _ _ hm
  obtain ⟨D3, l3, w3⟩ := Go.SX.open_row Try.underlying25 40 (ks := ks3) (by kernel_rfl) (by kernel_rfl) (by decide) (hval 3 25 v3 rfl rfl) h3
  clear hA0 hval0
  refine (walk W xs0 xs1 v2 D2 v3 D3 w0 w1 l2 w2 l3 w3).mono fun e W' ⟨he, bel⟩ => ?_
  subst he
  exact ⟨_, rfl, _, _, _, [], _, [], hW', trodAll_mk1 (shut_bool Try.underlying4 _), (trodAll_cons_mk (Below.trod laidOut (by kernel_rfl) (of_decide_eq_true (by kernel_rfl)) k0 bel lt0) (trodAll_cons_mk (Below.trod laidOut (by kernel_rfl) (of_decide_eq_true (by kernel_rfl)) k1 bel lt1) (trodAll_cons_mk (Below.trod laidOut (by kernel_rfl) (of_decide_eq_true (by kernel_rfl)) k2 bel lt2) (trodAll_cons_mk (Below.trod laidOut (by kernel_rfl) (of_decide_eq_true (by kernel_rfl)) k3 bel lt3) trodAll_mk0)))), rfl, bel.frame _, fun h => by cases h⟩

theorem over : Rows.protectFusesRow.holds Try.pinned (OpenSpec.ofChange Rows.protectFusesSpec) :=
  OpenClaim.holds_of_wide 3 Try.f3 rfl rfl rfl rfl rfl rfl rfl ⟨rfl, rfl, rfl, rfl, rfl⟩ rfl rfl rfl rfl rfl (by kernel_rfl) Try.func3 (by kernel_rfl)
    (of_decide_eq_true (by kernel_rfl)) (by unfold Func.isWrapper; first | (rw [if_pos (by decide +kernel)]; kernel_rfl) | (rw [if_neg (by decide +kernel)]; exact ⟨rfl, rfl⟩))
    (fun os started H enc _ => lifted os started H enc)

/-- THE STATEMENT -/
theorem proved : Rows.ProtectFusesSaid := over
#print axioms proved
end Go.Proofs.Ytgklokcknifedaa.protectFuses
