/- The law DriveShares answers true for every input: the shares have the sum that is wanted, if it is possible, and otherwise all that is possible; none is above its greatest torque; and no other sharing has a lesser greatest share; no condition beyond the row's own. The call is reckoned in a store of named blocks (the texts Sw1 to Sw28), in every order that the model may draw. -/
import Derived.Test.YtpedboeggmffnaaRows
import Derived.WalkKit
import Derived.ProofKit
import Derived.OpenShut
import Derived.Below
import Derived.ChangeOld
import Derived.Test.YtpedboeggmffnaaSw40
import Derived.Test.YtpedboeggmffnaaBg
namespace Go.Proofs.Ytpedboeggmffnaa.driveShares
open Go.ChangeShapes Go.WideShapes Go.ChangeAt Go.RowKit
set_option linter.unusedVariables false
set_option linter.unusedSimpArgs false

theorem own : ownKnob Try.prog.godebug = none := by kernel_rfl
theorem laidOut : laidOutB Try.prog = true := by kernel_rfl
theorem mix : Try.prog.follows .mixedOrders = true := by kernel_rfl
def ks0 : List (Option IntKind) := [some .i64]
def ks1 : List (Option IntKind) := [some .i64]
def ks2 : List (Option IntKind) := [some .i64]
def sh : List Go.SX.PSh := [.flat false ks0, .row ks1, .flat false ks2]
/-- the functions of the loops, over those of the rows -/
noncomputable def fnL (g : Nat → List Int → Int) : Nat → List Int → Int := lfn g
noncomputable def fnP (pv : List Go.SX.PV) : Nat → List Int → Int := fnL (Go.SX.withRows (Go.SX.rowed fun _ _ => 0) sh pv)
theorem fnP_high (pv : List Go.SX.PV) (k : Nat) (a : List Int) (h : 1000 ≤ k) : fnP pv k a = Go.SX.withRows (Go.SX.rowed fun _ _ => 0) sh pv k a := lfn_high _ k a h
theorem fnP_rowFn (pv : List Go.SX.PV) : Go.SX.RowFn (fnP pv) := fun k a h1 h2 => by rw [fnP_high pv k a h1, Go.SX.withRows_low h2]; exact Go.SX.rowed_rows _ k a h1 h2
theorem fnP_rows (pv : List Go.SX.PV) : Go.SX.FnRows (fnP pv) sh pv 0 := Go.SX.rowVal_rows (by rfl) fun k a x hk hx => by
  rw [fnP_high pv k a (by unfold Go.SX.rowF at hk; omega)]
  unfold Go.SX.withRows; rw [hx]
theorem law_ways {fn : Nat → List Int → Int} (h : Good fn) (t ln lv : Int) : Go.SX.WaysP (fun cx => ∃ X, Go.SX.ParOK Try.prog fn X ∧ (Go.SX.run (Go.SX.callT Try.prog X 100000 4 (Go.SX.shArgs sh 0 0) cx) (Go.SX.shSt sh)).vt.holds (Go.SX.envOf [t, ln, lv] fn) fun v => Go.SX.yes (Go.SX.envOf [t, ln, lv] fn) v) (Go.SX.shCtx sh [] 0) :=
  (.split (.cmp .lss (.var 1) (.lit 1)) (.one ⟨knFC.par Go.SX.noPar, Go.SX.FC.parOK (kn_ok h) rfl (Go.SX.noPar_ok _ h.l.rows), Go.SX.VT.allYes_holds (by kernel_rfl)⟩) (.split (.cmp .lss (.var 1) (.lit 2)) (.one ⟨XM 1, XM1_ok h, holds_eq (u := vs1) (by kernel_rfl) (main1 h _ _ _)⟩) (.split (.cmp .lss (.var 1) (.lit 3)) (.one ⟨XM 2, XM2_ok h, holds_eq (u := vs2) (by kernel_rfl) (main2 h _ _ _)⟩) (.split (.cmp .lss (.var 1) (.lit 4)) (.one ⟨XM 3, XM3_ok h, holds_eq (u := vs3) (by kernel_rfl) (main3 h _ _ _)⟩) (.split (.cmp .lss (.var 1) (.lit 5)) (.one ⟨XM 4, XM4_ok h, holds_eq (u := vs4) (by kernel_rfl) (main4 h _ _ _)⟩) (.split (.cmp .lss (.var 1) (.lit 6)) (.one ⟨XM 5, XM5_ok h, holds_eq (u := vs5) (by kernel_rfl) (main5 h _ _ _)⟩) (.split (.cmp .lss (.var 1) (.lit 7)) (.one ⟨XM 6, XM6_ok h, holds_eq (u := vs6) (by kernel_rfl) (main6 h _ _ _)⟩) (.split (.cmp .lss (.var 1) (.lit 8)) (.one ⟨XM 7, XM7_ok h, holds_eq (u := vs7) (by kernel_rfl) (main7 h _ _ _)⟩) (.split (.cmp .lss (.var 1) (.lit 9)) (.one ⟨XM 8, XM8_ok h, holds_eq (u := vs8) (by kernel_rfl) (main8 h _ _ _)⟩) (.one ⟨knFC.par Go.SX.noPar, Go.SX.FC.parOK (kn_ok h) rfl (Go.SX.noPar_ok _ h.l.rows), Go.SX.VT.allYes_holds (by kernel_rfl)⟩))))))))))
theorem walkAll (pv : List Go.SX.PV) (w : World) (hw : Go.SX.pvAll w sh pv) : Calls Try.prog 4 (Go.SX.pvVals sh pv).toArray w fun e w' => e = .returned (.bool true) ∧ Below w.heap.size w w' := by
  refine calls_waysH (fn := fnP pv) (n := 100000) (d := 0) mix hw (fnP_rows pv) ?_
  have hg : Good (fnP pv) := (good_of _ fun k a h1 h2 => by rw [Go.SX.withRows_low h2]; exact Go.SX.rowed_rows _ k a h1 h2)
  generalize fnP pv = fn at hg
  obtain ⟨p0, _, rfl, g0, p1, _, rfl, g1, p2, _, rfl, g2, e⟩ := hw
  rw [show _ = ([] : List Go.SX.PV) from e]
  obtain ⟨t, rfl, _⟩ := Go.SX.flatI g0
  obtain ⟨lv, rfl, _⟩ := Go.SX.flatI g2
  cases p1 with
  | flat xs => exact g1.elim
  | row D v => exact law_ways hg t D.len lv
theorem walk (w : World) (xs0 : List Int) (v1 : Value) (D1 : Go.SX.RowD) (xs2 : List Int) (w0 : Go.SX.wfL ks0 xs0) (l1 : (D1.len : Int) ≤ 9223372036854775807) (w1 : ∃ r o, Go.SX.RowIs w ks1 D1 v1 r o) (w2 : Go.SX.wfL ks2 xs2) :
    Calls Try.prog 4 #[(Go.SX.valsL ks0 xs0).getD 0 undef, v1, (Go.SX.valsL ks2 xs2).getD 0 undef] w fun e w' => e = .returned (.bool true) ∧ Below w.heap.size w w' :=
  walkAll [.flat xs0, .row D1 v1, .flat xs2] w ⟨_, _, rfl, ⟨w0, (fun _ => rfl)⟩, ⟨_, _, rfl, ⟨l1, w1⟩, ⟨_, _, rfl, ⟨w2, (fun _ => rfl)⟩, rfl⟩⟩⟩

set_option maxRecDepth 100000 in
theorem lifted (os : Os) (started : os.Started) (H : Type) (enc : TypeId × Value → H) :
    ReturnsInHanded {} Try.checked os 4 .any (Rows.driveSharesSpec.pre6 enc Try.prog Try.f4 Rows.driveSharesRow.domain false) (Rows.driveSharesSpec.post enc Try.prog Try.f4 false true false false) := by
  refine returnsInHanded_of_change (C := Try.checked) own started (by kernel_rfl) Try.func4
    (ChangeSpec.witness6 (enc := enc) (C := Try.checked) false ⟨#[], #[.int .i64 0, .slice none 0 0, .int .i64 0], []⟩ 8 (by kernel_rfl) (by kernel_rfl) (by kernel_rfl) (by kernel_rfl)) ?_
  intro W base args ds gs before hval0 hW hcnd _
  have hval : ∀ (j : Nat) t v, Try.f4.params[j]? = some t → args[j]? = some v → Value.okWide Try.prog W .any base t v := hval0
  have hW' := hW
  obtain ⟨p, q, hA0, hV, rfl, hfz, hnd⟩ := hW
  have hA : DataW.TrodAll enc Try.prog W 0 (fun _ => true) true Try.f4.params.toList args.toList ds p := hA0
  rw [Try.params4] at hA hval
  obtain ⟨v0, vs0, d0, ds0, p0, q0, hargs, rfl, rfl, h0, r0⟩ := trodAll_cons hA
  obtain ⟨v1, vs1, d1, ds1, p1, q1, rfl, rfl, rfl, h1, r1⟩ := trodAll_cons r0
  obtain ⟨v2, vs2, d2, ds2, p2, q2, rfl, rfl, rfl, h2, r2⟩ := trodAll_cons r1
  obtain ⟨rfl, rfl, rfl⟩ := trodAll_nil r2
  obtain rfl : args = #[v0, v1, v2] := by cases args; simp_all
  obtain ⟨rfl, rfl⟩ := trodVars_none hV
  have k0 := h0
  have lt0 : ∀ x ∈ p0, x.block < W.heap.size := by obtain ⟨m, hm⟩ := k0; exact DataW.trod_lt m _ _ _ hm
  obtain ⟨xs0, rfl, w0⟩ := Go.SX.open_flat1 (k := some .i64) Try.underlying2 (hval 0 2 v0 rfl rfl) h0
  have k1 := h1
  have lt1 : ∀ x ∈ p1, x.block < W.heap.size := by obtain ⟨m, hm⟩ := k1; exact DataW.trod_lt m _ _ _ hm
  obtain ⟨D1, l1, w1⟩ := Go.SX.open_row Try.underlying24 40 (ks := ks1) (by kernel_rfl) (by kernel_rfl) (by decide) (hval 1 24 v1 rfl rfl) h1
  have k2 := h2
  have lt2 : ∀ x ∈ p2, x.block < W.heap.size := by obtain ⟨m, hm⟩ := k2; exact DataW.trod_lt m _ _ _ hm
  obtain ⟨xs2, rfl, w2⟩ := Go.SX.open_flat1 (k := some .i64) Try.underlying2 (hval 2 2 v2 rfl rfl) h2
  clear hA0 hval0
  refine (walk W xs0 v1 D1 xs2 w0 l1 w1 w2).mono fun e W' ⟨he, bel⟩ => ?_
  subst he
  exact ⟨_, rfl, _, _, _, [], _, [], hW', trodAll_mk1 (shut_bool Try.underlying4 _), (trodAll_cons_mk (Below.trod laidOut (by kernel_rfl) (of_decide_eq_true (by kernel_rfl)) k0 bel lt0) (trodAll_cons_mk (Below.trod laidOut (by kernel_rfl) (of_decide_eq_true (by kernel_rfl)) k1 bel lt1) (trodAll_cons_mk (Below.trod laidOut (by kernel_rfl) (of_decide_eq_true (by kernel_rfl)) k2 bel lt2) trodAll_mk0))), rfl, bel.frame _, fun h => by cases h⟩

theorem over : Rows.driveSharesRow.holds Try.pinned (OpenSpec.ofChange Rows.driveSharesSpec) :=
  OpenClaim.holds_of_wide 4 Try.f4 rfl rfl rfl rfl rfl rfl rfl ⟨rfl, rfl, rfl, rfl, rfl⟩ rfl rfl rfl rfl rfl (by kernel_rfl) Try.func4 (by kernel_rfl)
    (of_decide_eq_true (by kernel_rfl)) (by unfold Func.isWrapper; first | (rw [if_pos (by decide +kernel)]; kernel_rfl) | (rw [if_neg (by decide +kernel)]; exact ⟨rfl, rfl⟩))
    (fun os started H enc _ => lifted os started H enc)

/-- THE STATEMENT -/
theorem proved : Rows.DriveSharesSaid := over
#print axioms proved
end Go.Proofs.Ytpedboeggmffnaa.driveShares
