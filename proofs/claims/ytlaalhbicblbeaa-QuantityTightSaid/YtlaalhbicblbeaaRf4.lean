/- The contracts of the reference's Scale, Mul and Clip. -/
import Derived.Test.YtlaalhbicblbeaaRf3
namespace Go.Proofs.Ytlaalhbicblbeaa
open Go.RowKit
theorem corners_e (al ah bl bh d : Int) (P : Int × Int × Int) (h : cornP al ah bl bh d = P) (x : (-1099511627776 ≤ al ∧ al ≤ ah ∧ ah ≤ 1099511627776) ∧ (-1099511627776 ≤ bl ∧ bl ≤ bh ∧ bh ≤ 1099511627776) ∧ 1 ≤ d ∧ d ≤ 1099511627776) (w : World) :
    Calls Try.prog 107 #[.agg #[.int .i64 al, .int .i64 ah], .agg #[.int .i64 bl, .int .i64 bh], .int .i64 d] w fun e w' => e = .returned (.tuple #[.agg #[.int .i64 P.1, .int .i64 P.2.1], .int .i64 P.2.2]) ∧ Below w.heap.size w w' := by
  rw [← h]; exact corners_any al ah bl bh d w x.1.1 x.1.2.1 x.1.2.2 x.2.1.1 x.2.1.2.1 x.2.1.2.2 x.2.2.1 x.2.2.2
set_option maxRecDepth 100000 in
set_option maxHeartbeats 1000000 in
/-- the reference's 'Scale' -/
theorem rScale_any (lo hi n d : Int) (w : World) : Calls Try.prog 90 #[.agg #[.int .i64 lo, .int .i64 hi], .int .i64 n, .int .i64 d] w fun e w' => e = .returned (.tuple #[.agg #[.int .i64 (scaleP lo hi n d).1, .int .i64 (scaleP lo hi n d).2.1], .int .i64 (scaleP lo hi n d).2.2]) ∧ Below w.heap.size w w' := by
  cases v1 : QM.vld lo hi
  · have hP : scaleP lo hi n d = (0, 0, 2) := if_neg (by rw [v1]; simp)
    rw [hP]
    have V1 := Lib.hid v1
    have V2 := Lib.hid v1
    clear v1 hP
    go_enter Try.func90, Try.ntmps90
    go_wp2_with (go_at_call 102; refine (Valid_x _ _ _ (by first | exact V1.out | exact V2.out) _).mono ?_; rintro e w' ⟨rfl, rfl⟩)
    exact bodyPost_ret (v := .tuple #[.agg #[.int .i64 (0), .int .i64 (0)], .int .i64 (2)]) (by simp [results, Try.results90, go_sem]) rfl ⟨rfl, by repeat (first | exact Below.refl _ _ | refine Below.setCell ?_ (by first | (simp; done) | omega | (simp; omega)) _ | refine Below.alloc ?_ (by first | (simp; done) | omega | (simp; omega)) _)⟩
  · obtain ⟨x1, x2, x3⟩ := QM.vld_iff.1 v1
    have V1 := Lib.hid v1
    have V2 := Lib.hid v1
    cases h1 : QM.isQ n
    · have hP : scaleP lo hi n d = (0, 0, 2) := if_neg (by rw [h1]; simp)
      rw [hP]
      have H1 := Lib.hid h1
      have H2 := Lib.hid h1
      clear v1 hP h1
      go_enter Try.func90, Try.ntmps90
      go_wp2_with (first | (go_at_call 102; refine (Valid_x _ _ _ (by first | exact V1.out | exact V2.out) _).mono ?_; rintro e w' ⟨rfl, rfl⟩) | (go_at_call 76; refine (Is_eq _ _ _ (by first | exact H1.out | exact H2.out)).mono ?_; rintro e w' ⟨rfl, rfl⟩))
      exact bodyPost_ret (v := .tuple #[.agg #[.int .i64 (0), .int .i64 (0)], .int .i64 (2)]) (by simp [results, Try.results90, go_sem]) rfl ⟨rfl, by repeat (first | exact Below.refl _ _ | refine Below.setCell ?_ (by first | (simp; done) | omega | (simp; omega)) _ | refine Below.alloc ?_ (by first | (simp; done) | omega | (simp; omega)) _)⟩
    · cases h3 : QM.isD d
      · have hP : scaleP lo hi n d = (0, 0, 2) := if_neg (by rw [h3]; simp)
        rw [hP]
        have H1 := Lib.hid h1
        have H2 := Lib.hid h1
        have H3 := Lib.hid h3
        clear v1 hP h1 h3
        go_enter Try.func90, Try.ntmps90
        go_wp2_with (first | (go_at_call 102; refine (Valid_x _ _ _ (by first | exact V1.out | exact V2.out) _).mono ?_; rintro e w' ⟨rfl, rfl⟩) | (go_at_call 76; refine (Is_eq _ _ _ (by first | exact H1.out | exact H2.out)).mono ?_; rintro e w' ⟨rfl, rfl⟩) | (go_at_call 77; refine (den_eq _ _ _ H3.out).mono ?_; rintro e w' ⟨rfl, rfl⟩))
        exact bodyPost_ret (v := .tuple #[.agg #[.int .i64 (0), .int .i64 (0)], .int .i64 (2)]) (by simp [results, Try.results90, go_sem]) rfl ⟨rfl, by repeat (first | exact Below.refl _ _ | refine Below.setCell ?_ (by first | (simp; done) | omega | (simp; omega)) _ | refine Below.alloc ?_ (by first | (simp; done) | omega | (simp; omega)) _)⟩
      · obtain ⟨y1, y2⟩ := QM.isQ_bd h1
        obtain ⟨z1, z2⟩ := QM.isD_bd h3
        obtain ⟨P, hPP⟩ : ∃ P, cornP lo hi n n d = P := ⟨_, rfl⟩
        have hP : scaleP lo hi n d = P := by rw [← hPP, corn_eq1 (by omega)]; exact if_pos ⟨v1, h1, h3⟩
        rw [hP]
        have KC := Lib.hid (fun W => corners_e lo hi n n d P hPP ⟨⟨x1, x2, x3⟩, ⟨y1, Int.le_refl _, y2⟩, z1, z2⟩ W)
        have H1 := Lib.hid h1
        have H2 := Lib.hid h1
        have H3 := Lib.hid h3
        clear v1 hP hPP h1 h3
        go_enter Try.func90, Try.ntmps90
        go_wp2_with (first | (go_at_call 102; refine (Valid_x _ _ _ (by first | exact V1.out | exact V2.out) _).mono ?_; rintro e w' ⟨rfl, rfl⟩) | (go_at_call 76; refine (Is_eq _ _ _ (by first | exact H1.out | exact H2.out)).mono ?_; rintro e w' ⟨rfl, rfl⟩) | (go_at_call 77; refine (den_eq _ _ _ H3.out).mono ?_; rintro e w' ⟨rfl, rfl⟩))
        refine (KC.out _).mono ?_
        rintro e w2 ⟨rfl, hb2⟩
        have q0 : w2.cell? ⟨w.heap.size + 1, 0, none⟩ = some (.int .i64 0) := by rw [hb2.cell (p := ⟨w.heap.size + 1, 0, none⟩) (by first | (simp; done) | (simp; omega))]; simp [go_sem]
        have q1 : w2.cell? ⟨w.heap.size + 1, 1, none⟩ = some (.int .i64 0) := by rw [hb2.cell (p := ⟨w.heap.size + 1, 1, none⟩) (by first | (simp; done) | (simp; omega))]; simp [go_sem]
        have q2 : ∀ o, w2.frozen? ⟨w.heap.size + 1, o, none⟩ = false := by intro o; rw [hb2.frozen (p := ⟨w.heap.size + 1, o, none⟩) (by first | (simp; done) | (simp; omega))]; simp [go_sem]
        go_wp2_with fail
        exact bodyPost_ret (v := .tuple #[.agg #[.int .i64 P.1, .int .i64 P.2.1], .int .i64 P.2.2]) (by simp [results, Try.results90, go_sem, q0, q1]) rfl ⟨rfl, by repeat (first | exact Below.refl _ _ | refine Below.trans ?_ (hb2.mono (by first | (simp; done) | omega | (simp; omega))) | refine Below.setCell ?_ (by first | (simp; done) | omega | (simp; omega)) _ | refine Below.alloc ?_ (by first | (simp; done) | omega | (simp; omega)) _)⟩
set_option maxRecDepth 100000 in
set_option maxHeartbeats 1000000 in
/-- the reference's 'Mul' -/
theorem rMul_any (al ah bl bh d : Int) (w : World) : Calls Try.prog 30 #[.agg #[.int .i64 al, .int .i64 ah], .agg #[.int .i64 bl, .int .i64 bh], .int .i64 d] w fun e w' => e = .returned (.tuple #[.agg #[.int .i64 (mulP al ah bl bh d).1, .int .i64 (mulP al ah bl bh d).2.1], .int .i64 (mulP al ah bl bh d).2.2]) ∧ Below w.heap.size w w' := by
  cases v1 : QM.vld al ah
  · have hP : mulP al ah bl bh d = (0, 0, 2) := if_neg (by rw [allV2, v1]; simp)
    rw [hP]
    have V1 := Lib.hid v1
    have V2 := Lib.hid v1
    clear v1 hP
    go_enter Try.func30, Try.ntmps30
    go_wp2_with (go_at_call 102; refine (Valid_x _ _ _ (by first | exact V1.out | exact V2.out) _).mono ?_; rintro e w' ⟨rfl, rfl⟩)
    exact bodyPost_ret (v := .tuple #[.agg #[.int .i64 (0), .int .i64 (0)], .int .i64 (2)]) (by simp [results, Try.results30, go_sem]) rfl ⟨rfl, by repeat (first | exact Below.refl _ _ | refine Below.setCell ?_ (by first | (simp; done) | omega | (simp; omega)) _ | refine Below.alloc ?_ (by first | (simp; done) | omega | (simp; omega)) _)⟩
  · cases v2 : QM.vld bl bh
    · have hP : mulP al ah bl bh d = (0, 0, 2) := if_neg (by rw [allV2, v2]; simp)
      rw [hP]
      have V1 := Lib.hid v1
      have V2 := Lib.hid v2
      clear v1 v2 hP
      go_enter Try.func30, Try.ntmps30
      go_wp2_with (go_at_call 102; refine (Valid_x _ _ _ (by first | exact V1.out | exact V2.out) _).mono ?_; rintro e w' ⟨rfl, rfl⟩)
      exact bodyPost_ret (v := .tuple #[.agg #[.int .i64 (0), .int .i64 (0)], .int .i64 (2)]) (by simp [results, Try.results30, go_sem]) rfl ⟨rfl, by repeat (first | exact Below.refl _ _ | refine Below.setCell ?_ (by first | (simp; done) | omega | (simp; omega)) _ | refine Below.alloc ?_ (by first | (simp; done) | omega | (simp; omega)) _)⟩
    · have hv : allV [(al, ah), (bl, bh)] = true := by rw [allV2, v1, v2]; rfl
      obtain ⟨⟨x1, x2, x3⟩, ⟨x4, x5, x6⟩⟩ := allV2_bd hv
      have V1 := Lib.hid v1
      have V2 := Lib.hid v2
      cases h3 : QM.isD d
      · have hP : mulP al ah bl bh d = (0, 0, 2) := if_neg (by rw [h3]; simp)
        rw [hP]
        have H3 := Lib.hid h3
        clear v1 v2 hv hP h3
        go_enter Try.func30, Try.ntmps30
        go_wp2_with (first | (go_at_call 102; refine (Valid_x _ _ _ (by first | exact V1.out | exact V2.out) _).mono ?_; rintro e w' ⟨rfl, rfl⟩) | (go_at_call 77; refine (den_eq _ _ _ H3.out).mono ?_; rintro e w' ⟨rfl, rfl⟩))
        exact bodyPost_ret (v := .tuple #[.agg #[.int .i64 (0), .int .i64 (0)], .int .i64 (2)]) (by simp [results, Try.results30, go_sem]) rfl ⟨rfl, by repeat (first | exact Below.refl _ _ | refine Below.setCell ?_ (by first | (simp; done) | omega | (simp; omega)) _ | refine Below.alloc ?_ (by first | (simp; done) | omega | (simp; omega)) _)⟩
      · obtain ⟨z1, z2⟩ := QM.isD_bd h3
        obtain ⟨P, hPP⟩ : ∃ P, cornP al ah bl bh d = P := ⟨_, rfl⟩
        have hP : mulP al ah bl bh d = P := by rw [← hPP, corn_eq (by omega)]; exact if_pos ⟨hv, h3⟩
        rw [hP]
        have KC := Lib.hid (fun W => corners_e al ah bl bh d P hPP ⟨⟨x1, x2, x3⟩, ⟨x4, x5, x6⟩, z1, z2⟩ W)
        have H3 := Lib.hid h3
        clear v1 v2 hv hP hPP h3
        go_enter Try.func30, Try.ntmps30
        go_wp2_with (first | (go_at_call 102; refine (Valid_x _ _ _ (by first | exact V1.out | exact V2.out) _).mono ?_; rintro e w' ⟨rfl, rfl⟩) | (go_at_call 77; refine (den_eq _ _ _ H3.out).mono ?_; rintro e w' ⟨rfl, rfl⟩))
        refine (KC.out _).mono ?_
        rintro e w2 ⟨rfl, hb2⟩
        have q0 : w2.cell? ⟨w.heap.size + 2, 0, none⟩ = some (.int .i64 0) := by rw [hb2.cell (p := ⟨w.heap.size + 2, 0, none⟩) (by first | (simp; done) | (simp; omega))]; simp [go_sem]
        have q1 : w2.cell? ⟨w.heap.size + 2, 1, none⟩ = some (.int .i64 0) := by rw [hb2.cell (p := ⟨w.heap.size + 2, 1, none⟩) (by first | (simp; done) | (simp; omega))]; simp [go_sem]
        have q2 : ∀ o, w2.frozen? ⟨w.heap.size + 2, o, none⟩ = false := by intro o; rw [hb2.frozen (p := ⟨w.heap.size + 2, o, none⟩) (by first | (simp; done) | (simp; omega))]; simp [go_sem]
        go_wp2_with fail
        exact bodyPost_ret (v := .tuple #[.agg #[.int .i64 P.1, .int .i64 P.2.1], .int .i64 P.2.2]) (by simp [results, Try.results30, go_sem, q0, q1]) rfl ⟨rfl, by repeat (first | exact Below.refl _ _ | refine Below.trans ?_ (hb2.mono (by first | (simp; done) | omega | (simp; omega))) | refine Below.setCell ?_ (by first | (simp; done) | omega | (simp; omega)) _ | refine Below.alloc ?_ (by first | (simp; done) | omega | (simp; omega)) _)⟩
set_option maxRecDepth 100000 in
set_option maxHeartbeats 1000000 in
/-- the reference's 'Clip' -/
theorem rClip_any (lo hi a b : Int) (w : World) : Calls Try.prog 95 #[.agg #[.int .i64 lo, .int .i64 hi], .int .i64 a, .int .i64 b] w fun e w' => e = .returned (.tuple #[.agg #[.int .i64 (clipP lo hi a b).1, .int .i64 (clipP lo hi a b).2.1], .int .i64 (clipP lo hi a b).2.2]) ∧ Below w.heap.size w w' := by
  cases v1 : QM.vld lo hi
  · have hP : clipP lo hi a b = (0, 0, 2) := if_neg (by rw [allV2, v1]; simp)
    rw [hP]
    have V1 := Lib.hid v1
    have V2 := Lib.hid v1
    clear v1 hP
    go_enter Try.func95, Try.ntmps95
    go_wp2_with (go_at_call 102; refine (Valid_x _ _ _ (by first | exact V1.out | exact V2.out) _).mono ?_; rintro e w' ⟨rfl, rfl⟩)
    exact bodyPost_ret (v := .tuple #[.agg #[.int .i64 (0), .int .i64 (0)], .int .i64 (2)]) (by simp [results, Try.results95, go_sem]) rfl ⟨rfl, by repeat (first | exact Below.refl _ _ | refine Below.setCell ?_ (by first | (simp; done) | omega | (simp; omega)) _ | refine Below.alloc ?_ (by first | (simp; done) | omega | (simp; omega)) _)⟩
  · obtain ⟨x1, x2, x3⟩ := QM.vld_iff.1 v1
    have V1 := Lib.hid v1
    have V2 := Lib.hid v1
    cases h1 : QM.isQ a
    · have hP : clipP lo hi a b = (0, 0, 2) := if_neg (by rw [allV2]; unfold QM.vld; rw [h1]; simp)
      rw [hP]
      have H1 := Lib.hid h1
      have H2 := Lib.hid h1
      clear v1 hP h1
      go_enter Try.func95, Try.ntmps95
      go_wp2_with (first | (go_at_call 102; refine (Valid_x _ _ _ (by first | exact V1.out | exact V2.out) _).mono ?_; rintro e w' ⟨rfl, rfl⟩) | (go_at_call 76; refine (Is_eq _ _ _ (by first | exact H1.out | exact H2.out)).mono ?_; rintro e w' ⟨rfl, rfl⟩))
      exact bodyPost_ret (v := .tuple #[.agg #[.int .i64 (0), .int .i64 (0)], .int .i64 (2)]) (by simp [results, Try.results95, go_sem]) rfl ⟨rfl, by repeat (first | exact Below.refl _ _ | refine Below.setCell ?_ (by first | (simp; done) | omega | (simp; omega)) _ | refine Below.alloc ?_ (by first | (simp; done) | omega | (simp; omega)) _)⟩
    · cases h2 : QM.isQ b
      · have hP : clipP lo hi a b = (0, 0, 2) := if_neg (by rw [allV2]; unfold QM.vld; rw [h2]; simp)
        rw [hP]
        have H1 := Lib.hid h1
        have H2 := Lib.hid h2
        clear v1 hP h1 h2
        go_enter Try.func95, Try.ntmps95
        go_wp2_with (first | (go_at_call 102; refine (Valid_x _ _ _ (by first | exact V1.out | exact V2.out) _).mono ?_; rintro e w' ⟨rfl, rfl⟩) | (go_at_call 76; refine (Is_eq _ _ _ (by first | exact H1.out | exact H2.out)).mono ?_; rintro e w' ⟨rfl, rfl⟩))
        exact bodyPost_ret (v := .tuple #[.agg #[.int .i64 (0), .int .i64 (0)], .int .i64 (2)]) (by simp [results, Try.results95, go_sem]) rfl ⟨rfl, by repeat (first | exact Below.refl _ _ | refine Below.setCell ?_ (by first | (simp; done) | omega | (simp; omega)) _ | refine Below.alloc ?_ (by first | (simp; done) | omega | (simp; omega)) _)⟩
      · by_cases hab : a ≤ b
        · have hP : clipP lo hi a b = (min (max lo a) b, min (max hi a) b, 0) := if_pos (by rw [allV2, v1]; unfold QM.vld; rw [h1, h2]; simpa using hab)
          rw [hP]
          have H1 := Lib.hid h1
          have H2 := Lib.hid h2
          clear v1 hP h1 h2
          go_enter Try.func95, Try.ntmps95
          go_wp2_with (first | (go_at_call 102; refine (Valid_x _ _ _ (by first | exact V1.out | exact V2.out) _).mono ?_; rintro e w' ⟨rfl, rfl⟩) | (go_at_call 76; refine (Is_eq _ _ _ (by first | exact H1.out | exact H2.out)).mono ?_; rintro e w' ⟨rfl, rfl⟩))
          exact bodyPost_ret (v := .tuple #[.agg #[.int .i64 (min (max lo a) b), .int .i64 (min (max hi a) b)], .int .i64 (0)]) (by simp [results, Try.results95, go_sem]) rfl ⟨rfl, by repeat (first | exact Below.refl _ _ | refine Below.setCell ?_ (by first | (simp; done) | omega | (simp; omega)) _ | refine Below.alloc ?_ (by first | (simp; done) | omega | (simp; omega)) _)⟩
        · have hP : clipP lo hi a b = (0, 0, 2) := if_neg (by rw [allV2]; unfold QM.vld; simp [hab])
          rw [hP]
          have H1 := Lib.hid h1
          have H2 := Lib.hid h2
          clear v1 hP h1 h2
          go_enter Try.func95, Try.ntmps95
          go_wp2_with (first | (go_at_call 102; refine (Valid_x _ _ _ (by first | exact V1.out | exact V2.out) _).mono ?_; rintro e w' ⟨rfl, rfl⟩) | (go_at_call 76; refine (Is_eq _ _ _ (by first | exact H1.out | exact H2.out)).mono ?_; rintro e w' ⟨rfl, rfl⟩))
          exact bodyPost_ret (v := .tuple #[.agg #[.int .i64 (0), .int .i64 (0)], .int .i64 (2)]) (by simp [results, Try.results95, go_sem]) rfl ⟨rfl, by repeat (first | exact Below.refl _ _ | refine Below.setCell ?_ (by first | (simp; done) | omega | (simp; omega)) _ | refine Below.alloc ?_ (by first | (simp; done) | omega | (simp; omega)) _)⟩
end Go.Proofs.Ytlaalhbicblbeaa
