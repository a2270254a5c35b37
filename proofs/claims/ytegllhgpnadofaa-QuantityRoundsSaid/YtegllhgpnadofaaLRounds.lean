/- The law QuantityRounds answers true, whatever the three numbers: for every input, with no condition (the row's own form: Floor, Ceil, Round and Point of package quantity give what the reference gives). -/
import Derived.Test.YtegllhgpnadofaaRows
import Derived.WalkKit
import Derived.ProofKit
import Derived.OpenShut
import Derived.Below
import Derived.ChangeOld
import Derived.Test.YtegllhgpnadofaaRrd
import Derived.Test.YtegllhgpnadofaaWrk
namespace Go.Proofs.Ytegllhgpnadofaa.quantityRounds
open Go.ChangeShapes Go.WideShapes Go.ChangeAt Go.RowKit
set_option linter.unusedVariables false      -- a walk need not use every 'w<i>' (that an integer argument fits its kind)

theorem own : ownKnob Try.prog.godebug = none := by kernel_rfl

set_option maxRecDepth 100000 in
set_option maxHeartbeats 2000000 in
theorem walk (a0 : Int) (a1 : Int) (a2 : Int) (w : World) :
    Calls Try.prog 3 #[.int .i64 a0, .int .i64 a1, .int .i64 a2] w fun e w' => e = .returned (.bool true) ∧ Below w.heap.size w w' := by
  have A1 := Lib.hid (fun W => Floor_any a0 a1 a2 W)
  have A2 := Lib.hid (fun W => rFloor_any a0 a1 a2 W)
  have B1 := Lib.hid (fun W => Ceil_any a0 a1 a2 W)
  have B2 := Lib.hid (fun W => rCeil_any a0 a1 a2 W)
  have C1 := Lib.hid (fun W => Round_any a0 a1 a2 W)
  have C2 := Lib.hid (fun W => rRound_any a0 a1 a2 W)
  have D1 := Lib.hid (fun W => Point_any a0 W)
  have D2 := Lib.hid (fun W => rPoint_any a0 W)
  rw [QM.rnd_F] at A1
  rw [QM.rnd_C] at B1
  rw [QM.rnd_R] at C1
  generalize QM.rnd QM.dn a0 a1 a2 = p at *
  generalize QM.rnd QM.up a0 a1 a2 = q at *
  generalize QM.rnd QM.rr a0 a1 a2 = r at *
  generalize (if QM.isQ a0 = true then a0 else 0) = u at *
  generalize (if QM.isQ a0 = true then (0 : Int) else 2) = v at *
  go_enter Try.func3, Try.ntmps3
  go_wp2_with fail
  refine (A1.out _).mono ?_
  rintro e w1 ⟨rfl, hb1⟩
  have hs1 := hb1.size
  go_wp2_with fail
  refine (A2.out _).mono ?_
  rintro e w' ⟨rfl, rfl⟩
  go_wp2_with fail
  refine (B1.out _).mono ?_
  rintro e w2 ⟨rfl, hb2⟩
  have hs2 := hb2.size
  go_wp2_with fail
  refine (B2.out _).mono ?_
  rintro e w' ⟨rfl, rfl⟩
  go_wp2_with fail
  refine (C1.out _).mono ?_
  rintro e w3 ⟨rfl, hb3⟩
  have hs3 := hb3.size
  go_wp2_with fail
  refine (C2.out _).mono ?_
  rintro e w' ⟨rfl, rfl⟩
  go_wp2_with fail
  refine (D1.out _).mono ?_
  rintro e w4 ⟨rfl, hb4⟩
  have hs4 := hb4.size
  go_wp2_with fail
  refine (D2.out _).mono ?_
  rintro e w5 ⟨rfl, hb5⟩
  obtain ⟨hc5, hf5⟩ := bcell hb5
  have hlt : w4.heap.size < w5.heap.size := by have := hb5.size; simp at this; omega
  have t0 : w5.cell? ⟨w4.heap.size, 0, none⟩ = some (.int .i64 u) := by rw [hc5 _ _ (by simp)]; simp
  have t1 : w5.cell? ⟨w4.heap.size, 1, none⟩ = some (.int .i64 u) := by rw [hc5 _ _ (by simp)]; simp
  clear hc5 hf5
  go_wp2_with fail
  refine (works_any _).mono ?_
  rintro e w6 ⟨rfl, hb6⟩
  go_wp2_with fail
  go_ret
  exact ⟨rfl, by repeat (first | exact Below.refl _ _ | assumption | refine Below.trans ?_ (hb6.mono (by first | (simp; done) | omega | (simp; omega))) | refine Below.trans ?_ (hb5.mono (by first | (simp; done) | omega | (simp; omega))) | refine Below.trans ?_ (hb4.mono (by first | (simp; done) | omega | (simp; omega))) | refine Below.trans ?_ (hb3.mono (by first | (simp; done) | omega | (simp; omega))) | refine Below.trans ?_ (hb2.mono (by first | (simp; done) | omega | (simp; omega))) | refine Below.trans ?_ (hb1.mono (by first | (simp; done) | omega | (simp; omega))) | refine Below.drew ?_ | refine below_drewN ?_ _ | refine Below.setCell ?_ (by first | (simp; done) | omega | (simp; omega)) _ | refine Below.alloc ?_ (by first | (simp; done) | omega | (simp; omega)) _)⟩

/-! ### THE ROW's STEP: WRITTEN OUT: LEAVE IT -/
set_option maxRecDepth 100000 in
theorem lifted (os : Os) (started : os.Started) (H : Type) (enc : TypeId × Value → H) :
    ReturnsInHanded {} Try.checked os 3 .any (Rows.quantityRoundsSpec.pre6 enc Try.prog Try.f3 Rows.quantityRoundsRow.domain false) (Rows.quantityRoundsSpec.post enc Try.prog Try.f3 false true false false) := by
  refine returnsInHanded_of_change (C := Try.checked) own started (by kernel_rfl) Try.func3
    (ChangeSpec.witness6 (enc := enc) (C := Try.checked) false ⟨#[], #[.int .i64 0, .int .i64 0, .int .i64 0], []⟩ 8 (by kernel_rfl) (by kernel_rfl) (by kernel_rfl) (by kernel_rfl)) ?_
  intro W base args ds gs before hval0 hW hcnd _
  have hval : ∀ (j : Nat) t v, Try.f3.params[j]? = some t → args[j]? = some v → Value.okWide Try.prog W .any base t v := hval0
  have hW' := hW
  obtain ⟨p, q, hA0, hV, rfl, hfz, hnd⟩ := hW
  have hA : DataW.TrodAll enc Try.prog W 0 (fun _ => true) true Try.f3.params.toList args.toList ds p := hA0
  rw [Try.params3] at hA hval
  obtain ⟨v0, vs0, d0, ds0, p0, q0, hargs, rfl, rfl, h0, r0⟩ := trodAll_cons hA
  obtain ⟨v1, vs1, d1, ds1, p1, q1, rfl, rfl, rfl, h1, r1⟩ := trodAll_cons r0
  obtain ⟨v2, vs2, d2, ds2, p2, q2, rfl, rfl, rfl, h2, r2⟩ := trodAll_cons r1
  obtain ⟨rfl, rfl, rfl⟩ := trodAll_nil r2
  obtain rfl : args = #[v0, v1, v2] := by cases args; simp_all
  obtain ⟨rfl, rfl⟩ := trodVars_none hV
  obtain ⟨a0, rfl, rfl, rfl, w0⟩ := open_int Try.underlying2 (hval 0 2 v0 rfl rfl) h0
  obtain ⟨a1, rfl, rfl, rfl, w1⟩ := open_int Try.underlying2 (hval 1 2 v1 rfl rfl) h1
  obtain ⟨a2, rfl, rfl, rfl, w2⟩ := open_int Try.underlying2 (hval 2 2 v2 rfl rfl) h2
  clear hA0 hval0
  simp only [List.append_nil] at hW'
  refine (walk a0 a1 a2 W).mono fun e W' ⟨he, bel⟩ => ?_
  subst he
  exact ⟨_, rfl, _, _, _, [], _, [], hW', trodAll_mk1 (shut_bool Try.underlying4 _), (trodAll_cons_mk (shut_int Try.underlying2 w0) (trodAll_cons_mk (shut_int Try.underlying2 w1) (trodAll_cons_mk (shut_int Try.underlying2 w2) trodAll_mk0))), rfl, bel.frame _, fun h => by cases h⟩

theorem over : Rows.quantityRoundsRow.holds Try.pinned (OpenSpec.ofChange Rows.quantityRoundsSpec) :=
  OpenClaim.holds_of_wide 3 Try.f3 rfl rfl rfl rfl rfl rfl rfl ⟨rfl, rfl, rfl, rfl, rfl⟩ rfl rfl rfl rfl rfl (by kernel_rfl) Try.func3 (by kernel_rfl)
    (of_decide_eq_true (by kernel_rfl)) (by unfold Func.isWrapper; first | (rw [if_pos (by decide +kernel)]; kernel_rfl) | (rw [if_neg (by decide +kernel)]; exact ⟨rfl, rfl⟩))
    (fun os started H enc _ => lifted os started H enc)

/-- ████ THE STATEMENT ████ -/
theorem proved : Rows.QuantityRoundsSaid :=
  over
#print axioms proved
end Go.Proofs.Ytegllhgpnadofaa.quantityRounds
