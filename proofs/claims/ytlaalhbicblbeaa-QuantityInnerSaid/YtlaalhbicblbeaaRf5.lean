/- The contracts of the reference's check and Check. -/
import Derived.Test.YtlaalhbicblbeaaRf4
namespace Go.Proofs.Ytlaalhbicblbeaa
open Go.RowKit
set_option maxRecDepth 100000 in
set_option maxHeartbeats 1000000 in
/-- the reference's 'check', over any list of spans -/
theorem rcheck_any (L : List (Int × Int)) (b off cap : Nat) (w : World) (hL : SpanRow w b off L) (hb : b < w.heap.size) (hn : L.length ≤ 1000000000000) :
    Calls Try.prog 116 #[.slice (some ⟨b, off, none⟩) L.length cap] w fun e w' => e = .returned (.int .i64 (chkL L)) ∧ Below w.heap.size w w' := by
  obtain ⟨n, hn'⟩ : ∃ n : Nat, n = L.length := ⟨_, rfl⟩
  rw [← hn'] at hn ⊢
  have HN := Lib.hid hn'
  clear hn'
  have HL := Lib.hid hL
  clear hL
  go_enter Try.func116, Try.ntmps116
  go_wp2_with fail
  go_loopw [3] (fun i wr => ∃ k : Nat, k ≤ n ∧ i = .int .i64 k ∧ allV (L.take k) = true ∧ Below w.heap.size w wr) (fun i _ => n - (intOf i).toNat)
  case atStart => exact ⟨0, Nat.zero_le _, rfl, by simp [allV], Below.refl _ _⟩
  case round =>
    obtain ⟨k, hk, rfl, hV, hB⟩ := hrel
    have HV := Lib.hid hV
    clear hV
    by_cases hlt : k < n
    · have hR := (HL.out.keep hB hb) k (by have := HN.out; omega)
      obtain ⟨hc1, hc2⟩ := hR
      have hstep := allV_step L k (by have := HN.out; omega)
      rw [HV.out, Bool.true_and] at hstep
      have hbad := allV_bad L k (by have := HN.out; omega)
      obtain ⟨lo, hlo⟩ : ∃ lo : Int, lo = (L.getD k (0, 0)).1 := ⟨_, rfl⟩
      obtain ⟨hi, hhi⟩ : ∃ hi : Int, hi = (L.getD k (0, 0)).2 := ⟨_, rfl⟩
      rw [← hlo] at hc1 hstep hbad
      rw [← hhi] at hc2 hstep hbad
      have hsz := hB.size
      cases hv : QM.vld lo hi
      · have HX := Lib.hid (hbad hv)
        have V1 := Lib.hid hv
        clear hstep hbad hlo hhi hv
        go_wp2_with fail
        refine (Valid_x _ _ _ V1.out _).mono ?_
        rintro e w' ⟨rfl, rfl⟩
        go_wp2_with fail
        go_ret
        exact ⟨by unfold chkL; rw [HX.out]; rfl, hB.alloc hsz _⟩
      · rw [hv] at hstep
        have HX := Lib.hid hstep
        have V1 := Lib.hid hv
        clear hstep hbad hlo hhi hv
        go_wp2_with fail
        refine (Valid_x _ _ _ V1.out _).mono ?_
        rintro e w' ⟨rfl, rfl⟩
        go_wp2_with fail
        go_roundw
        case rel => exact ⟨k + 1, by omega, by go_num, HX.out, hB.alloc hsz _⟩
        case measure => simp [intOf]; omega
    · have hk' : k = n := by omega
      have HX := Lib.hid hk'
      clear hk'
      go_wp2_with fail
      go_ret
      exact ⟨by unfold chkL; rw [show L = L.take k by rw [HX.out, HN.out, List.take_length], HV.out]; rfl, hB⟩
theorem chkL1 (lo hi : Int) : chkL [(lo, hi)] = QM.chk lo hi := by unfold chkL QM.chk allV; simp
set_option maxRecDepth 100000 in
set_option maxHeartbeats 1000000 in
/-- the reference's 'Check' -/
theorem rCheck_any (lo hi : Int) (w : World) : Calls Try.prog 88 #[.agg #[.int .i64 lo, .int .i64 hi]] w fun e w' => e = .returned (.int .i64 (QM.chk lo hi)) ∧ Below w.heap.size w w' := by
  have K : ∀ (b cap : Nat) (W : World), W.cell? ⟨b, 0, none⟩ = some (.int .i64 lo) → W.cell? ⟨b, 1, none⟩ = some (.int .i64 hi) → b < W.heap.size → Calls Try.prog 116 #[.slice (some ⟨b, 0, none⟩) 1 cap] W fun e w' => e = .returned (.int .i64 (QM.chk lo hi)) ∧ Below W.heap.size W w' := by
    intro b cap W h0 h1 hb
    rw [← chkL1]
    refine rcheck_any [(lo, hi)] b 0 cap W ?_ hb (by simp)
    intro i hi'
    simp only [List.length_cons, List.length_nil] at hi'
    match i, hi' with
    | 0, _ => exact ⟨h0, h1⟩
  have KK := Lib.hid K
  clear K
  generalize QM.chk lo hi = c at *
  go_enter Try.func88, Try.ntmps88
  go_wp2_with fail
  refine (KK.out _ _ _ (by first | (simp; done) | (simp [go_sem]; done) | (go_simp; done)) (by first | (simp; done) | (simp [go_sem]; done) | (go_simp; done)) (by first | (simp; done) | (simp [go_sem]; done) | (go_simp; done))).mono ?_
  rintro e w2 ⟨rfl, hb2⟩
  go_wp2_with fail
  go_ret
  exact ⟨rfl, by repeat (first | exact Below.refl _ _ | refine Below.trans ?_ (hb2.mono (by first | (simp; done) | omega | (simp; omega))) | refine Below.alloc ?_ (by first | (simp; done) | omega | (simp; omega)) _)⟩
end Go.Proofs.Ytlaalhbicblbeaa
