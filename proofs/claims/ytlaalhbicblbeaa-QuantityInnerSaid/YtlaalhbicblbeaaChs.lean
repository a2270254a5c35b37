/- The contract of checkSpans, over any list of spans. -/
import Derived.Test.YtlaalhbicblbeaaChk
namespace Go.Proofs.Ytlaalhbicblbeaa
open Go.RowKit
/-- a row of spans in memory -/
def SpanRow (w : World) (b off : Nat) (L : List (Int × Int)) : Prop := ∀ i, i < L.length → w.cell? ⟨b, off + i * 2, none⟩ = some (.int .i64 (L.getD i (0, 0)).1) ∧ w.cell? ⟨b, off + i * 2 + 1, none⟩ = some (.int .i64 (L.getD i (0, 0)).2)
def allV (L : List (Int × Int)) : Bool := L.all fun p => QM.vld p.1 p.2
def chkL (L : List (Int × Int)) : Int := if allV L = true then 0 else 2
theorem allV_step (L : List (Int × Int)) (k : Nat) (h : k < L.length) : allV (L.take (k + 1)) = (allV (L.take k) && QM.vld (L.getD k (0, 0)).1 (L.getD k (0, 0)).2) := by
  unfold allV
  rw [List.take_succ_eq_append_getElem h, List.all_append]
  simp [List.getD, List.getElem?_eq_getElem h]
theorem allV_bad (L : List (Int × Int)) (k : Nat) (h : k < L.length) (hv : QM.vld (L.getD k (0, 0)).1 (L.getD k (0, 0)).2 = false) : allV L = false := by
  unfold allV
  rw [List.all_eq_false]
  refine ⟨L.getD k (0, 0), ?_, by rw [hv]; simp⟩
  simp [List.getD, List.getElem?_eq_getElem h]
theorem SpanRow.keep {w w' : World} {b off : Nat} {L : List (Int × Int)} (h : SpanRow w b off L) {B : Nat} (hb : Below B w w') (hB : b < B) : SpanRow w' b off L := fun i hi =>
  ⟨(hb.cell (p := ⟨b, _, none⟩) hB).trans (h i hi).1, (hb.cell (p := ⟨b, _, none⟩) hB).trans (h i hi).2⟩
set_option maxRecDepth 100000 in
set_option maxHeartbeats 1000000 in
theorem checkSpans_any (L : List (Int × Int)) (b off cap : Nat) (w : World) (hL : SpanRow w b off L) (hb : b < w.heap.size) (hn : L.length ≤ 1000000000000) :
    Calls Try.prog 100 #[.slice (some ⟨b, off, none⟩) L.length cap] w fun e w' => e = .returned (.int .i64 (chkL L)) ∧ Below w.heap.size w w' := by
  obtain ⟨n, hn'⟩ : ∃ n : Nat, n = L.length := ⟨_, rfl⟩
  rw [← hn'] at hn ⊢
  have HN := Lib.hid hn'
  clear hn'
  have HL := Lib.hid hL
  clear hL
  go_enter Try.func100, Try.ntmps100
  go_wp2_with fail
  go_loopw [8] (fun i wr => ∃ k : Nat, k ≤ n ∧ i = .int .i64 k ∧ allV (L.take k) = true ∧ Below w.heap.size w wr) (fun i _ => n - (intOf i).toNat)
  case atStart => exact ⟨0, Nat.zero_le _, rfl, by simp [allV], Below.refl _ _⟩
  case round =>
    obtain ⟨k, hk, rfl, hV, hB⟩ := hrel
    have HV := Lib.hid hV
    clear hV
    by_cases hlt : k < n
    · have hR := (HL.out.keep hB hb) k (by have := HN.out; omega)
      obtain ⟨hc1, hc2⟩ := hR
      have hstep := allV_step L k (by have := HN.out; omega)
      rw [HV.out, Bool.true_and] at hstep
      have hbad := allV_bad L k (by have := HN.out; omega)
      obtain ⟨lo, hlo⟩ : ∃ lo : Int, lo = (L.getD k (0, 0)).1 := ⟨_, rfl⟩
      obtain ⟨hi, hhi⟩ : ∃ hi : Int, hi = (L.getD k (0, 0)).2 := ⟨_, rfl⟩
      rw [← hlo] at hc1 hstep hbad
      rw [← hhi] at hc2 hstep hbad
      have KC := Lib.hid (fun W => Check_any lo hi W)
      have hsz := hB.size
      cases hv : QM.vld lo hi
      · have HX := Lib.hid (hbad hv)
        have hck : QM.chk lo hi = 2 := by unfold QM.chk; rw [hv]; rfl
        rw [hck] at KC
        clear hstep hbad hlo hhi hck hv
        go_wp2_with fail
        refine (KC.out _).mono ?_
        rintro e w' ⟨rfl, hb1⟩
        go_wp2_with fail
        go_ret
        exact ⟨by unfold chkL; rw [HX.out]; rfl, by repeat (first | exact Below.refl _ _ | assumption | refine Below.trans ?_ (hb1.mono (by first | (simp; done) | omega | (simp; omega))) | refine Below.setCell ?_ (by first | (simp; done) | omega | (simp; omega)) _ | refine Below.alloc ?_ (by first | (simp; done) | omega | (simp; omega)) _)⟩
      · rw [hv] at hstep
        have HX := Lib.hid hstep
        have hck : QM.chk lo hi = 0 := by unfold QM.chk; rw [hv]; rfl
        rw [hck] at KC
        clear hstep hbad hlo hhi hck hv
        go_wp2_with fail
        refine (KC.out _).mono ?_
        rintro e w' ⟨rfl, hb1⟩
        go_wp2_with fail
        go_roundw
        case rel => exact ⟨k + 1, by omega, by go_num, HX.out, by repeat (first | exact Below.refl _ _ | assumption | refine Below.trans ?_ (hb1.mono (by first | (simp; done) | omega | (simp; omega))) | refine Below.setCell ?_ (by first | (simp; done) | omega | (simp; omega)) _ | refine Below.alloc ?_ (by first | (simp; done) | omega | (simp; omega)) _)⟩
        case measure => simp [intOf]; omega
    · have hk' : k = n := by omega
      have HX := Lib.hid hk'
      clear hk'
      go_wp2_with fail
      go_ret
      exact ⟨by unfold chkL; rw [show L = L.take k by rw [HX.out, HN.out, List.take_length], HV.out]; rfl, hB⟩
end Go.Proofs.Ytlaalhbicblbeaa
