/- The contract of spanOf, over any list of ratios. -/
import Derived.Test.YtlaalhbicblbeaaChk
import Derived.Deep.CutRange
namespace Go.Proofs.Ytlaalhbicblbeaa
open Go.RowKit
abbrev Rat3 := Int × Int × Int
def RatOk (p : Rat3) : Prop := -9000000000000 ≤ p.1 ∧ p.1 ≤ 9000000000000 ∧ -9000000000000 ≤ p.2.1 ∧ p.2.1 ≤ 9000000000000 ∧ 1 ≤ p.2.2 ∧ p.2.2 ≤ 9000000000000
/-- a row of ratios in memory -/
def RatRow (w : World) (b off : Nat) (L : List Rat3) : Prop := ∀ i, i < L.length → w.cell? ⟨b, off + i * 3, none⟩ = some (.int .i64 (L.getD i (0, 0, 0)).1) ∧ w.cell? ⟨b, off + i * 3 + 1, none⟩ = some (.int .i64 (L.getD i (0, 0, 0)).2.1) ∧ w.cell? ⟨b, off + i * 3 + 1 + 1, none⟩ = some (.int .i64 (L.getD i (0, 0, 0)).2.2)
theorem RatRow.keep {w w' : World} {b off : Nat} {L : List Rat3} (h : RatRow w b off L) {B : Nat} (hb : Below B w w') (hB : b < B) : RatRow w' b off L := fun i hi =>
  ⟨(hb.cell (p := ⟨b, _, none⟩) hB).trans (h i hi).1, (hb.cell (p := ⟨b, _, none⟩) hB).trans (h i hi).2.1, (hb.cell (p := ⟨b, _, none⟩) hB).trans (h i hi).2.2⟩
def loF (F : Int) (L : List Rat3) : Int := L.foldl (fun m p => min m (QM.vF p.1 p.2.1 p.2.2)) F
def hiF (F : Int) (L : List Rat3) : Int := L.foldl (fun m p => max m (QM.vC p.1 p.2.1 p.2.2)) F
theorem loF_step (F : Int) (L : List Rat3) (k : Nat) (h : k < L.length) : loF F (L.take (k + 1)) = min (loF F (L.take k)) (QM.vF (L.getD k (0, 0, 0)).1 (L.getD k (0, 0, 0)).2.1 (L.getD k (0, 0, 0)).2.2) := by
  unfold loF
  rw [List.take_succ_eq_append_getElem h, List.foldl_append]
  simp [List.getD, List.getElem?_eq_getElem h]
theorem hiF_step (F : Int) (L : List Rat3) (k : Nat) (h : k < L.length) : hiF F (L.take (k + 1)) = max (hiF F (L.take k)) (QM.vC (L.getD k (0, 0, 0)).1 (L.getD k (0, 0, 0)).2.1 (L.getD k (0, 0, 0)).2.2) := by
  unfold hiF
  rw [List.take_succ_eq_append_getElem h, List.foldl_append]
  simp [List.getD, List.getElem?_eq_getElem h]
theorem getD_mem (L : List Rat3) (k : Nat) (h : k < L.length) : L.getD k (0, 0, 0) ∈ L := by
  simp [List.getD, List.getElem?_eq_getElem h]
theorem floor_ok (p : Rat3) (h : RatOk p) (W : World) : Calls Try.prog 75 #[.agg #[.int .i64 p.1, .int .i64 p.2.1, .int .i64 p.2.2]] W fun e w' => e = .returned (.int .i64 (QM.vF p.1 p.2.1 p.2.2)) ∧ Below W.heap.size W w' :=
  floor_any _ _ _ W h.1 h.2.1 h.2.2.1 h.2.2.2.1 h.2.2.2.2.1 h.2.2.2.2.2
theorem ceil_ok (p : Rat3) (h : RatOk p) (W : World) : Calls Try.prog 80 #[.agg #[.int .i64 p.1, .int .i64 p.2.1, .int .i64 p.2.2]] W fun e w' => e = .returned (.int .i64 (QM.vC p.1 p.2.1 p.2.2)) ∧ Below W.heap.size W w' :=
  ceil_any _ _ _ W h.1 h.2.1 h.2.2.1 h.2.2.2.1 h.2.2.2.2.1 h.2.2.2.2.2
set_option maxRecDepth 100000 in
set_option maxHeartbeats 2000000 in
theorem spanOf_any (a c d : Int) (L : List Rat3) (b off cap : Nat) (w : World) (hf : RatOk (a, c, d)) (hL : RatRow w b off L) (hO : ∀ p ∈ L, RatOk p) (hb : b < w.heap.size) (hn : L.length ≤ 1000000000000) :
    Calls Try.prog 106 #[.agg #[.int .i64 a, .int .i64 c, .int .i64 d], .slice (some ⟨b, off, none⟩) L.length cap] w fun e w' => e = .returned (.tuple #[.agg #[.int .i64 (QM.sp (loF (QM.vF a c d) L) (hiF (QM.vC a c d) L)).1, .int .i64 (QM.sp (loF (QM.vF a c d) L) (hiF (QM.vC a c d) L)).2.1], .int .i64 (QM.sp (loF (QM.vF a c d) L) (hiF (QM.vC a c d) L)).2.2]) ∧ Below w.heap.size w w' := by
  obtain ⟨n, hn'⟩ : ∃ n : Nat, n = L.length := ⟨_, rfl⟩
  rw [← hn'] at hn ⊢
  have HN := Lib.hid hn'
  clear hn'
  have HL := Lib.hid hL
  have HO := Lib.hid hO
  have K1 := Lib.hid (floor_ok (a, c, d) hf)
  have K2 := Lib.hid (ceil_ok (a, c, d) hf)
  simp only at K1 K2
  clear hL hO hf
  generalize QM.vF a c d = F at *
  generalize QM.vC a c d = C at *
  go_enter Try.func106, Try.ntmps106
  go_upto_region 1 with fail
  go_cut [6, 7] (fun s6 s7 wx => s6 = .int .i64 F ∧ s7 = .int .i64 C ∧ Below (w.heap.size + 2) ((w.alloc (.cells #[.int .i64 a, .int .i64 c, .int .i64 d] 88)).alloc (.cells #[.int .i64 0, .int .i64 0] 26)) wx)
  case first =>
    go_region_held3 (fun w' => w'.cell? ⟨w.heap.size, 0, none⟩ = some (.int .i64 a) ∧ w'.cell? ⟨w.heap.size, 1, none⟩ = some (.int .i64 c) ∧ w'.cell? ⟨w.heap.size, 2, none⟩ = some (.int .i64 d)) (first | exact ⟨s1, s2, s3⟩ | exact ⟨t1, t2, t3⟩ | go_keep)
      (first
        | (go_at_call 75; refine (K1.out _).mono ?_; rintro e w1 ⟨rfl, hb1⟩; have s1 : w1.cell? ⟨w.heap.size, 0, none⟩ = some (.int .i64 a) := (by rw [(bcell hb1).1 _ _ (by first | (simp; done) | (simp; omega) | (have := hb2.size; (try simp at this); omega))]; first | exact t1 | (simp; done)); have s2 : w1.cell? ⟨w.heap.size, 1, none⟩ = some (.int .i64 c) := (by rw [(bcell hb1).1 _ _ (by first | (simp; done) | (simp; omega) | (have := hb2.size; (try simp at this); omega))]; first | exact t2 | (simp; done)); have s3 : w1.cell? ⟨w.heap.size, 2, none⟩ = some (.int .i64 d) := (by rw [(bcell hb1).1 _ _ (by first | (simp; done) | (simp; omega) | (have := hb2.size; (try simp at this); omega))]; first | exact t3 | (simp; done)))
        | (go_at_call 80; refine (K2.out _).mono ?_; rintro e w2 ⟨rfl, hb2⟩; have t1 : w2.cell? ⟨w.heap.size, 0, none⟩ = some (.int .i64 a) := (by rw [(bcell hb2).1 _ _ (by first | (simp; done) | (simp; omega) | (have := hb1.size; (try simp at this); omega))]; first | exact s1 | (simp; done)); have t2 : w2.cell? ⟨w.heap.size, 1, none⟩ = some (.int .i64 c) := (by rw [(bcell hb2).1 _ _ (by first | (simp; done) | (simp; omega) | (have := hb1.size; (try simp at this); omega))]; first | exact s2 | (simp; done)); have t3 : w2.cell? ⟨w.heap.size, 2, none⟩ = some (.int .i64 d) := (by rw [(bcell hb2).1 _ _ (by first | (simp; done) | (simp; omega) | (have := hb1.size; (try simp at this); omega))]; first | exact s3 | (simp; done))))
    all_goals go_wp2_with fail
    all_goals go_meet
    all_goals exact ⟨rfl, rfl, by repeat (first | exact Below.refl _ _ | assumption | refine Below.trans ?_ (hb2.mono (by first | (simp; done) | omega | (simp; omega) | (have := hb1.size; (try simp at this); omega))) | refine Below.trans ?_ (hb1.mono (by first | (simp; done) | omega | (simp; omega) | (have := hb2.size; (try simp at this); omega))) | refine Below.drew ?_ | refine Below.setCell ?_ (by first | (simp; done) | omega | (simp; omega)) _ | refine Below.alloc ?_ (by first | (simp; done) | omega | (simp; omega)) _)⟩
  case rest =>
    obtain ⟨rfl, rfl, hB0⟩ := hcut
    go_wp2_with fail
    go_loopw [6, 7, 16] (fun u v i wr => ∃ k : Nat, k ≤ n ∧ i = .int .i64 k ∧ u = .int .i64 (loF F (L.take k)) ∧ v = .int .i64 (hiF C (L.take k)) ∧ Below (w.heap.size + 2) ((w.alloc (.cells #[.int .i64 a, .int .i64 c, .int .i64 d] 88)).alloc (.cells #[.int .i64 0, .int .i64 0] 26)) wr) (fun _ _ i _ => n - (intOf i).toNat)
    case atStart => exact ⟨0, Nat.zero_le _, rfl, rfl, rfl, hB0⟩
    case round =>
      clear hB0
      obtain ⟨k, hk, rfl, rfl, rfl, hB⟩ := hrel
      have hsz := hB.size
      simp only [World.size_alloc] at hsz
      by_cases hlt : k < n
      · have hkl : k < L.length := by have := HN.out; omega
        have hW : RatRow ((w.alloc (.cells #[.int .i64 a, .int .i64 c, .int .i64 d] 88)).alloc (.cells #[.int .i64 0, .int .i64 0] 26)) b off L := HL.out.keep (((Below.refl _ _).alloc (Nat.le_refl _) _).alloc (by simp) _) hb
        obtain ⟨hc1, hc2, hc3⟩ := (hW.keep hB (by omega)) k hkl
        have HS1 := loF_step F L k hkl
        have HS2 := hiF_step C L k hkl
        have hok := HO.out _ (getD_mem L k hkl)
        have KF := Lib.hid (floor_ok _ hok)
        have KC := Lib.hid (ceil_ok _ hok)
        obtain ⟨x, hx⟩ : ∃ x : Int, x = (L.getD k (0, 0, 0)).1 := ⟨_, rfl⟩
        obtain ⟨y, hy⟩ : ∃ y : Int, y = (L.getD k (0, 0, 0)).2.1 := ⟨_, rfl⟩
        obtain ⟨z, hz⟩ : ∃ z : Int, z = (L.getD k (0, 0, 0)).2.2 := ⟨_, rfl⟩
        rw [← hx] at hc1 KF KC HS1 HS2
        rw [← hy] at hc2 KF KC HS1 HS2
        rw [← hz] at hc3 KF KC HS1 HS2
        clear hx hy hz hok hW
        generalize QM.vF x y z = f1 at *
        generalize QM.vC x y z = c1 at *
        generalize loF F (L.take k) = lo at *
        generalize hiF C (L.take k) = hi at *
        have HS1' := Lib.hid HS1
        have HS2' := Lib.hid HS2
        clear HS1 HS2
        go_upto_region 5 with fail
        go_region_held3 (fun w' => w'.cell? ⟨wr.heap.size, 0, none⟩ = some (.int .i64 x) ∧ w'.cell? ⟨wr.heap.size, 1, none⟩ = some (.int .i64 y) ∧ w'.cell? ⟨wr.heap.size, 2, none⟩ = some (.int .i64 z)) (first | exact ⟨s1, s2, s3⟩ | exact ⟨t1, t2, t3⟩ | go_keep)
          (first
            | (go_at_call 75; refine (KF.out _).mono ?_; rintro e w1 ⟨rfl, hb1⟩; have s1 : w1.cell? ⟨wr.heap.size, 0, none⟩ = some (.int .i64 x) := (by rw [(bcell hb1).1 _ _ (by first | (simp; done) | (simp; omega) | (have := hb1.size; (try simp at this); omega) | (have := hb2.size; (try simp at this); omega) | omega)]; first | exact t1 | (simp; done)); have s2 : w1.cell? ⟨wr.heap.size, 1, none⟩ = some (.int .i64 y) := (by rw [(bcell hb1).1 _ _ (by first | (simp; done) | (simp; omega) | (have := hb1.size; (try simp at this); omega) | (have := hb2.size; (try simp at this); omega) | omega)]; first | exact t2 | (simp; done)); have s3 : w1.cell? ⟨wr.heap.size, 2, none⟩ = some (.int .i64 z) := (by rw [(bcell hb1).1 _ _ (by first | (simp; done) | (simp; omega) | (have := hb1.size; (try simp at this); omega) | (have := hb2.size; (try simp at this); omega) | omega)]; first | exact t3 | (simp; done)))
            | (go_at_call 80; refine (KC.out _).mono ?_; rintro e w2 ⟨rfl, hb2⟩; have t1 : w2.cell? ⟨wr.heap.size, 0, none⟩ = some (.int .i64 x) := (by rw [(bcell hb2).1 _ _ (by first | (simp; done) | (simp; omega) | (have := hb1.size; (try simp at this); omega) | (have := hb2.size; (try simp at this); omega) | omega)]; first | exact s1 | (simp; done)); have t2 : w2.cell? ⟨wr.heap.size, 1, none⟩ = some (.int .i64 y) := (by rw [(bcell hb2).1 _ _ (by first | (simp; done) | (simp; omega) | (have := hb1.size; (try simp at this); omega) | (have := hb2.size; (try simp at this); omega) | omega)]; first | exact s2 | (simp; done)); have t3 : w2.cell? ⟨wr.heap.size, 2, none⟩ = some (.int .i64 z) := (by rw [(bcell hb2).1 _ _ (by first | (simp; done) | (simp; omega) | (have := hb1.size; (try simp at this); omega) | (have := hb2.size; (try simp at this); omega) | omega)]; first | exact s3 | (simp; done))))
        all_goals go_wp2_with fail
        all_goals go_roundw
        all_goals first | exact ⟨k + 1, by omega, by go_num, by rw [HS1'.out], by rw [HS2'.out], by repeat (first | exact Below.refl _ _ | assumption | refine Below.trans ?_ (hb2.mono (by first | (simp; done) | omega | (simp; omega) | (have := hb1.size; (try simp at this); omega))) | refine Below.trans ?_ (hb1.mono (by first | (simp; done) | omega | (simp; omega) | (have := hb2.size; (try simp at this); omega))) | refine Below.drew ?_ | refine below_drewN ?_ _ | refine Below.setCell ?_ (by first | (simp; done) | omega | (simp; omega)) _ | refine Below.alloc ?_ (by first | (simp; done) | omega | (simp; omega)) _)⟩ | (simp [intOf]; omega)
      · have hk' : k = n := by omega
        have HX := Lib.hid hk'
        clear hk'
        have r0 : wr.cell? ⟨w.heap.size + 1, 0, none⟩ = some (.int .i64 0) := by rw [hB.cell (p := ⟨w.heap.size + 1, 0, none⟩) (by simp)]; simp
        have r1 : wr.cell? ⟨w.heap.size + 1, 1, none⟩ = some (.int .i64 0) := by rw [hB.cell (p := ⟨w.heap.size + 1, 1, none⟩) (by simp)]; simp
        have r2 : ∀ o, wr.frozen? ⟨w.heap.size + 1, o, none⟩ = false := by intro o; rw [hB.frozen (p := ⟨w.heap.size + 1, o, none⟩) (by simp)]; simp
        have hsz' : w.heap.size + 1 < wr.heap.size := by omega
        have hB' : Below w.heap.size w wr := (((Below.refl _ w).alloc (Nat.le_refl _) (.cells #[.int .i64 a, .int .i64 c, .int .i64 d] 88)).alloc (by simp) (.cells #[.int .i64 0, .int .i64 0] 26)).trans (hB.mono (by omega))
        have e1 : loF F (L.take k) = loF F L := by rw [HX.out, HN.out, List.take_length]
        have e2 : hiF C (L.take k) = hiF C L := by rw [HX.out, HN.out, List.take_length]
        rw [e1, e2]
        clear e1 e2 hB
        have KL := Lib.hid (fun W => limitedSpan_any (loF F L) (hiF C L) W)
        obtain ⟨P, hP⟩ : ∃ P : Int × Int × Int, P = QM.sp (loF F L) (hiF C L) := ⟨_, rfl⟩
        rw [← hP] at KL
        have HP := Lib.hid hP
        clear hP
        generalize loF F L = lo at KL ⊢
        generalize hiF C L = hi at KL ⊢
        go_wp2_with fail
        refine (KL.out _).mono ?_
        rintro e w3 ⟨rfl, hb1⟩
        obtain ⟨hc1, hf1⟩ := bcell hb1
        have q0 : w3.cell? ⟨w.heap.size + 1, 0, none⟩ = some (.int .i64 0) := by rw [hc1 _ _ hsz', r0]
        have q1 : w3.cell? ⟨w.heap.size + 1, 1, none⟩ = some (.int .i64 0) := by rw [hc1 _ _ hsz', r1]
        have q2 : ∀ o, w3.frozen? ⟨w.heap.size + 1, o, none⟩ = false := by intro o; rw [hf1 _ _ hsz', r2]
        clear hc1 hf1 r0 r1 r2
        go_wp2_with fail
        exact bodyPost_ret (v := .tuple #[.agg #[.int .i64 P.1, .int .i64 P.2.1], .int .i64 P.2.2]) (by simp [results, Try.results106, go_sem, q0, q1]) rfl ⟨by rw [HP.out], by repeat (first | exact Below.refl _ _ | assumption | refine Below.trans ?_ (hb2.mono (by first | (simp; done) | omega | (simp; omega) | (have := hb1.size; (try simp at this); omega))) | refine Below.trans ?_ (hb1.mono (by first | (simp; done) | omega | (simp; omega) | (have := hb2.size; (try simp at this); omega))) | refine Below.drew ?_ | refine below_drewN ?_ _ | refine Below.setCell ?_ (by first | (simp; done) | omega | (simp; omega)) _ | refine Below.alloc ?_ (by first | (simp; done) | omega | (simp; omega)) _)⟩
end Go.Proofs.Ytlaalhbicblbeaa
