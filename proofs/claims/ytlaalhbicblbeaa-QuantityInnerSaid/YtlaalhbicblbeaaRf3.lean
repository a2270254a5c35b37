/- The contracts of the reference's corners, Scale and Mul. -/
import Derived.Test.YtlaalhbicblbeaaRf2
namespace Go.Proofs.Ytlaalhbicblbeaa
open Go.RowKit
def cornP (al ah bl bh d : Int) : Int × Int × Int := QM.sp (min (min (min (min 1152921504606846976 (QM.dn al bl d)) (QM.dn al bh d)) (QM.dn ah bl d)) (QM.dn ah bh d)) (max (max (max (max (-1152921504606846976) (QM.up al bl d)) (QM.up al bh d)) (QM.up ah bl d)) (QM.up ah bh d))
theorem farlo {x y : Int} (h : QM.Cl x y) : QM.Cl (min 1152921504606846976 x) y := by unfold QM.Cl at *; omega
theorem farhi {x y : Int} (h : QM.Cl x y) : QM.Cl (max (-1152921504606846976) x) y := by unfold QM.Cl at *; omega
theorem corn_eq {al ah bl bh d : Int} (hd : 0 < d) : cornP al ah bl bh d = QM.sp (loF (QM.vF al bl d) [(al, bh, d), (ah, bl, d), (ah, bh, d)]) (hiF (QM.vC al bl d) [(al, bh, d), (ah, bl, d), (ah, bh, d)]) := by
  have D : ∀ x y, QM.Cl (QM.dn x y d) (QM.vF x y d) := fun x y => (QM.dn_cl hd).trans (QM.vF_cl hd).symm
  have U : ∀ x y, QM.Cl (QM.up x y d) (QM.vC x y d) := fun x y => (QM.up_cl hd).trans (QM.vC_cl hd).symm
  exact QM.Cl.sp ((((farlo (D al bl)).min (D al bh)).min (D ah bl)).min (D ah bh)) ((((farhi (U al bl)).max (U al bh)).max (U ah bl)).max (U ah bh))
theorem corn_eq1 {al ah n d : Int} (hd : 0 < d) : cornP al ah n n d = QM.sp (loF (QM.vF al n d) [(ah, n, d)]) (hiF (QM.vC al n d) [(ah, n, d)]) := by
  rw [corn_eq hd]
  unfold loF hiF
  simp only [List.foldl_cons, List.foldl_nil]
  congr 1
  · rw [Int.min_self, Int.min_assoc, Int.min_self]
  · rw [Int.max_self, Int.max_assoc, Int.max_self]
theorem dn_b {x n d : Int} (hd : d ≠ 0) : -1152921504606846977 ≤ QM.dn x n d ∧ QM.dn x n d ≤ 1152921504606846977 := QM.dn_bd hd
theorem up_b {x n d : Int} (hd : d ≠ 0) : -1152921504606846977 ≤ QM.up x n d ∧ QM.up x n d ≤ 1152921504606846977 := by
  have := QM.dn_bd (x := -x) (n := n) hd
  unfold QM.up; omega
set_option maxRecDepth 100000 in
set_option maxHeartbeats 8000000 in
/-- 'corners' -/
theorem corners_any (al ah bl bh d : Int) (w : World) (x1 : -1099511627776 ≤ al) (x2 : al ≤ ah) (x3 : ah ≤ 1099511627776) (x4 : -1099511627776 ≤ bl) (x5 : bl ≤ bh) (x6 : bh ≤ 1099511627776) (z1 : 1 ≤ d) (z2 : d ≤ 1099511627776) :
    Calls Try.prog 107 #[.agg #[.int .i64 al, .int .i64 ah], .agg #[.int .i64 bl, .int .i64 bh], .int .i64 d] w fun e w' => e = .returned (.tuple #[.agg #[.int .i64 (cornP al ah bl bh d).1, .int .i64 (cornP al ah bl bh d).2.1], .int .i64 (cornP al ah bl bh d).2.2]) ∧ Below w.heap.size w w' := by
  obtain ⟨D1, hD1⟩ : ∃ D, QM.dn al bl d = D := ⟨_, rfl⟩
  obtain ⟨U1, hU1⟩ : ∃ U, QM.up al bl d = U := ⟨_, rfl⟩
  have KD1 := Lib.hid (fun W => Down_any al bl d W (by omega) (by omega) (by omega) (by omega) (by omega) (by omega) (by omega))
  have KU1 := Lib.hid (fun W => Up_any al bl d W (by omega) (by omega) (by omega) (by omega) (by omega) (by omega) (by omega))
  rw [hD1] at KD1
  rw [hU1] at KU1
  obtain ⟨D2, hD2⟩ : ∃ D, QM.dn al bh d = D := ⟨_, rfl⟩
  obtain ⟨U2, hU2⟩ : ∃ U, QM.up al bh d = U := ⟨_, rfl⟩
  have KD2 := Lib.hid (fun W => Down_any al bh d W (by omega) (by omega) (by omega) (by omega) (by omega) (by omega) (by omega))
  have KU2 := Lib.hid (fun W => Up_any al bh d W (by omega) (by omega) (by omega) (by omega) (by omega) (by omega) (by omega))
  rw [hD2] at KD2
  rw [hU2] at KU2
  obtain ⟨D3, hD3⟩ : ∃ D, QM.dn ah bl d = D := ⟨_, rfl⟩
  obtain ⟨U3, hU3⟩ : ∃ U, QM.up ah bl d = U := ⟨_, rfl⟩
  have KD3 := Lib.hid (fun W => Down_any ah bl d W (by omega) (by omega) (by omega) (by omega) (by omega) (by omega) (by omega))
  have KU3 := Lib.hid (fun W => Up_any ah bl d W (by omega) (by omega) (by omega) (by omega) (by omega) (by omega) (by omega))
  rw [hD3] at KD3
  rw [hU3] at KU3
  obtain ⟨D4, hD4⟩ : ∃ D, QM.dn ah bh d = D := ⟨_, rfl⟩
  obtain ⟨U4, hU4⟩ : ∃ U, QM.up ah bh d = U := ⟨_, rfl⟩
  have KD4 := Lib.hid (fun W => Down_any ah bh d W (by omega) (by omega) (by omega) (by omega) (by omega) (by omega) (by omega))
  have KU4 := Lib.hid (fun W => Up_any ah bh d W (by omega) (by omega) (by omega) (by omega) (by omega) (by omega) (by omega))
  rw [hD4] at KD4
  rw [hU4] at KU4
  obtain ⟨P, hP⟩ : ∃ P, cornP al ah bl bh d = P := ⟨_, rfl⟩
  rw [hP]
  unfold cornP at hP
  rw [hD1, hD2, hD3, hD4, hU1, hU2, hU3, hU4] at hP
  have HP := Lib.hid hP
  clear hP hD1 hD2 hD3 hD4 hU1 hU2 hU3 hU4 x1 x2 x3 x4 x5 x6 z1 z2
  go_enter Try.func107, Try.ntmps107
  go_wp2_with fail
  refine wp_loop_rounds 3 ?_
  rw [rounds_succ]
  go_wp2_with fail
  refine wp_loop_rounds 3 ?_
  rw [rounds_succ]
  go_wp2_with fail
  refine (KD1.out _).mono ?_
  rintro e w' ⟨rfl, rfl⟩
  go_wp2_with fail
  refine (KU1.out _).mono ?_
  rintro e w' ⟨rfl, rfl⟩
  go_wp2_with fail
  generalize hm1 : min (1152921504606846976 : Int) D1 = m1
  generalize hM1 : max (-1152921504606846976 : Int) U1 = M1
  have Hm1 := Lib.hid hm1
  have HM1 := Lib.hid hM1
  clear hm1 hM1
  rw [rounds_succ]
  go_wp2_with fail
  refine (KD2.out _).mono ?_
  rintro e w' ⟨rfl, rfl⟩
  go_wp2_with fail
  refine (KU2.out _).mono ?_
  rintro e w' ⟨rfl, rfl⟩
  go_wp2_with fail
  generalize hm2 : min m1 D2 = m2
  generalize hM2 : max M1 U2 = M2
  have Hm2 := Lib.hid hm2
  have HM2 := Lib.hid hM2
  clear hm2 hM2
  rw [rounds_succ]
  go_wp2_with fail
  rw [rounds_succ]
  go_wp2_with fail
  refine wp_loop_rounds 3 ?_
  rw [rounds_succ]
  go_wp2_with fail
  refine (KD3.out _).mono ?_
  rintro e w' ⟨rfl, rfl⟩
  go_wp2_with fail
  refine (KU3.out _).mono ?_
  rintro e w' ⟨rfl, rfl⟩
  go_wp2_with fail
  generalize hm3 : min m2 D3 = m3
  generalize hM3 : max M2 U3 = M3
  have Hm3 := Lib.hid hm3
  have HM3 := Lib.hid hM3
  clear hm3 hM3
  rw [rounds_succ]
  go_wp2_with fail
  refine (KD4.out _).mono ?_
  rintro e w' ⟨rfl, rfl⟩
  go_wp2_with fail
  refine (KU4.out _).mono ?_
  rintro e w' ⟨rfl, rfl⟩
  go_wp2_with fail
  generalize hm4 : min m3 D4 = m4
  generalize hM4 : max M3 U4 = M4
  have Hm4 := Lib.hid hm4
  have HM4 := Lib.hid hM4
  clear hm4 hM4
  rw [rounds_succ]
  go_wp2_with fail
  rw [rounds_succ]
  go_wp2_with fail
  have HQ : QM.sp m4 M4 = P := by rw [← Hm4.out, ← HM4.out, ← Hm3.out, ← HM3.out, ← Hm2.out, ← HM2.out, ← Hm1.out, ← HM1.out]; exact HP.out
  refine (rspan_e _ _ P HQ _).mono ?_
  rintro e w' ⟨rfl, rfl⟩
  clear HQ
  go_wp2_with fail
  exact bodyPost_ret (v := .tuple #[.agg #[.int .i64 P.1, .int .i64 P.2.1], .int .i64 P.2.2]) (by simp [results, Try.results107, go_sem]) rfl ⟨rfl, by repeat (first | exact Below.refl _ _ | refine Below.setCell ?_ (by first | (simp; done) | omega | (simp; omega)) _ | refine Below.alloc ?_ (by first | (simp; done) | omega | (simp; omega)) _)⟩
end Go.Proofs.Ytlaalhbicblbeaa
