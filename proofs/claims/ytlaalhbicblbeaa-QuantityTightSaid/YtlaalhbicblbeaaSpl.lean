/- The contract of (ratio).split: the number rounded down (brought to about 2^62 beyond that), and the rest. -/
import Derived.Test.YtlaalhbicblbeaaDvd
import Derived.Test.YtlaalhbicblbeaaQm
import Derived.Deep.RegionHeld3
import Derived.Deep.RegionWith
namespace Go.Proofs.Ytlaalhbicblbeaa
open Go.RowKit
theorem bcell {W w1 : World} (hb : Below W.heap.size W w1) : (∀ b o, b < W.heap.size → w1.cell? ⟨b, o, none⟩ = W.cell? ⟨b, o, none⟩) ∧ (∀ b o, b < W.heap.size → w1.frozen? ⟨b, o, none⟩ = W.frozen? ⟨b, o, none⟩) :=
  ⟨fun b o h => hb.cell (p := ⟨b, o, none⟩) h, fun b o h => hb.frozen (p := ⟨b, o, none⟩) h⟩

theorem split_math (P d h l q0 q1 r : Nat) (hd : 0 < d) (hh : h = P / 18446744073709551616) (hl : l = P % 18446744073709551616) (h0 : q0 = h / d) (h1 : q1 = (h % d * 18446744073709551616 + l) / d) (hr : r = (h % d * 18446744073709551616 + l) % d) :
    q0 * 18446744073709551616 + q1 = P / d ∧ r = P % d := by
  have hP : h * 18446744073709551616 + l = P := by have := Nat.div_add_mod P 18446744073709551616; omega
  have hm : h - q0 * d = h % d := by
    have := Nat.div_add_mod h d
    rw [← h0, Nat.mul_comm] at this
    omega
  rw [← hm] at h1 hr
  obtain ⟨a, b⟩ := KM.two_digits_aux h l d q0 q1 18446744073709551616 hd h0 h1
  rw [hP] at a b
  refine ⟨a, ?_⟩
  rw [← b, hr]
  have := Nat.div_add_mod ((h - q0 * d) * 18446744073709551616 + l) d
  rw [← h1, Nat.mul_comm] at this
  omega
theorem keep_set {w : World} {p q : Addr} {v x : Value} (hne : q.block ≠ p.block) (h : w.cell? q = some x) : (w.setCell p v).cell? q = some x := by
  rw [← h]; exact World.cell?_of_block (w := w) (Below.heap_setCell w p v q.block hne)
theorem set_set {w : World} {g : Nat} {v0 v1 x1 : Value} (h1 : w.cell? ⟨g, 1, none⟩ = some x1) : ((w.setCell ⟨g, 0, none⟩ v0).setCell ⟨g, 1, none⟩ v1).cell? ⟨g, 1, none⟩ = some v1 := by
  refine World.cell?_setCell_same' _ _ _ ?_
  have : (w.setCell ⟨g, 0, none⟩ v0).cell? ⟨g, 1, none⟩ = w.cell? ⟨g, 1, none⟩ := by
    apply World.cell?_setCell_other
    simp
  rw [this, h1]; rfl
theorem keep_alloc {w : World} {q : Addr} {x : Value} {o : Obj} (h : w.cell? q = some x) : (w.alloc o).cell? q = some x := by
  refine Eq.trans ?_ h
  apply World.cell?_alloc_old
  first | exact World.new_ne w q h | exact (World.new_ne w q h).symm
set_option maxRecDepth 100000 in
set_option maxHeartbeats 2000000 in
theorem split_any (a b den : Int) (w : World) (ha : -9000000000000 ≤ a) (ha2 : a ≤ 9000000000000) (hb : -9000000000000 ≤ b) (hb2 : b ≤ 9000000000000) (hd : 1 ≤ den) (hd2 : den ≤ 9000000000000) :
    Calls Try.prog 129 #[.agg #[.int .i64 a, .int .i64 b, .int .i64 den]] w fun e w' => e = .returned (.tuple #[.int .i64 (QM.sW a b den), .int .i64 (a * b % den)]) ∧ Below w.heap.size w w' := by
  obtain ⟨d, rfl⟩ := Int.eq_ofNat_of_zero_le (show 0 ≤ den by omega)
  obtain ⟨P, hP⟩ : ∃ P : Nat, P = a.natAbs * b.natAbs := ⟨_, rfl⟩
  obtain ⟨h, hh⟩ : ∃ h : Nat, h = P / 18446744073709551616 := ⟨_, rfl⟩
  obtain ⟨l, hl⟩ : ∃ l : Nat, l = P % 18446744073709551616 := ⟨_, rfl⟩
  obtain ⟨q0, hq0⟩ : ∃ q0 : Nat, q0 = h / d := ⟨_, rfl⟩
  obtain ⟨q1, hq1⟩ : ∃ q1 : Nat, q1 = (h % d * 18446744073709551616 + l) / d := ⟨_, rfl⟩
  obtain ⟨r, hr⟩ : ∃ r : Nat, r = (h % d * 18446744073709551616 + l) % d := ⟨_, rfl⟩
  have C1 : ∀ W, Calls Try.prog 132 #[.int .i64 a, .int .i64 b] W fun e w' => e = .returned (.agg #[.int .u64 h, .int .u64 l]) ∧ Below W.heap.size W w' := by
    intro W
    have := product_any a b W ha ha2 hb hb2
    rw [← hP, ← hh, ← hl] at this
    exact this
  have C2 : ∀ W, Calls Try.prog 133 #[.agg #[.int .u64 h, .int .u64 l], .int .i64 d] W fun e w' => e = .returned (.tuple #[.agg #[.int .u64 q0, .int .u64 q1], .int .i64 r]) ∧ Below W.heap.size W w' := by
    intro W
    have hPb : P ≤ 81000000000000000000000000 := by rw [hP]; exact Nat.mul_le_mul (show a.natAbs ≤ 9000000000000 by omega) (show b.natAbs ≤ 9000000000000 by omega)
    have := divide_any h l d W (by omega) (by omega) (by omega) (by omega)
    rw [← hq0, ← hq1, ← hr] at this
    exact this
  have K1 := Lib.hid C1
  have K2 := Lib.hid C2
  clear C1 C2
  have HP := Lib.hid hP
  have Hh := Lib.hid hh
  have Hl := Lib.hid hl
  have Hq0 := Lib.hid hq0
  have Hq1 := Lib.hid hq1
  have Hr := Lib.hid hr
  clear hP hh hl hq0 hq1 hr
  go_enter Try.func129, Try.ntmps129
  go_upto_region 1 with fail
  go_cut [4, 5] (fun s4 s5 wx => ∃ g : Nat, s4 = .pointer (some ⟨g, 0, none⟩) ∧ w.heap.size < g ∧ s5 = .int .i64 r ∧ wx.cell? ⟨g, 0, none⟩ = some (.int .u64 q0) ∧ wx.cell? ⟨g, 1, none⟩ = some (.int .u64 q1) ∧ wx.frozen? ⟨g, 0, none⟩ = false ∧ wx.frozen? ⟨g, 1, none⟩ = false ∧ wx.cell? ⟨w.heap.size, 0, none⟩ = some (.int .i64 a) ∧ wx.cell? ⟨w.heap.size, 1, none⟩ = some (.int .i64 b) ∧ wx.cell? ⟨w.heap.size, 2, none⟩ = some (.int .i64 d) ∧ Below w.heap.size w wx)
  case first =>
    go_region_held3 (fun w' => w'.cell? ⟨w.heap.size, 0, none⟩ = some (.int .i64 a) ∧ w'.cell? ⟨w.heap.size, 1, none⟩ = some (.int .i64 b) ∧ w'.cell? ⟨w.heap.size, 2, none⟩ = some (.int .i64 d)) (first | exact ⟨s1, s2, s3⟩ | exact ⟨t1, t2, t3⟩ | exact ⟨keep_set (by first | (simp; done) | (simp; omega)) (keep_set (by first | (simp; done) | (simp; omega)) t1), keep_set (by first | (simp; done) | (simp; omega)) (keep_set (by first | (simp; done) | (simp; omega)) t2), keep_set (by first | (simp; done) | (simp; omega)) (keep_set (by first | (simp; done) | (simp; omega)) t3)⟩ | exact ⟨keep_alloc s1, keep_alloc s2, keep_alloc s3⟩ | exact ⟨keep_alloc t1, keep_alloc t2, keep_alloc t3⟩ | go_keep)
    (first
      | (go_at_call 132; refine (K1.out _).mono ?_; rintro e w1 ⟨rfl, hb1⟩; obtain ⟨hc1, hf1⟩ := bcell hb1; have hs1 := hb1.size; (try simp at hs1); have hz1 : w.heap.size < w1.heap.size := (by have := hb1.size; (try simp at this); omega); (try (have hz1' : w.heap.size + 1 < w1.heap.size := (by omega))); have s1 : w1.cell? ⟨w.heap.size, 0, none⟩ = some (.int .i64 a) := (by rw [hc1 _ _ (by simp; try omega)]; simp); have s2 : w1.cell? ⟨w.heap.size, 1, none⟩ = some (.int .i64 b) := (by rw [hc1 _ _ (by simp; try omega)]; simp); have s3 : w1.cell? ⟨w.heap.size, 2, none⟩ = some (.int .i64 d) := (by rw [hc1 _ _ (by simp; try omega)]; simp))
      | (go_at_call 133; refine (K2.out _).mono ?_; rintro e w2 ⟨rfl, hb2⟩; obtain ⟨hc2, hf2⟩ := bcell hb2; have hs2 := hb2.size; (try simp at hs2); have hz2 : w.heap.size < w2.heap.size := (by have := hb2.size; (try simp at this); omega); have hne3 : ¬ w.heap.size = w2.heap.size := (by omega); have hne4 : ¬ w2.heap.size = w.heap.size := (by omega); have t1 : w2.cell? ⟨w.heap.size, 0, none⟩ = some (.int .i64 a) := (by rw [hc2 _ _ (by (try simp); omega)]; first | exact s1 | exact keep_alloc s1); have t2 : w2.cell? ⟨w.heap.size, 1, none⟩ = some (.int .i64 b) := (by rw [hc2 _ _ (by (try simp); omega)]; first | exact s2 | exact keep_alloc s2); have t3 : w2.cell? ⟨w.heap.size, 2, none⟩ = some (.int .i64 d) := (by rw [hc2 _ _ (by (try simp); omega)]; first | exact s3 | exact keep_alloc s3)))
    all_goals (go_wp2_with fail)
    all_goals go_meet
    all_goals refine ⟨_, rfl, by first | (simp; done) | omega, rfl, ?_, ?_, ?_, ?_, by first | exact keep_alloc t1 | exact keep_set (by first | (simp; done) | (simp; omega)) (keep_set (by first | (simp; done) | (simp; omega)) t1), by first | exact keep_alloc t2 | exact keep_set (by first | (simp; done) | (simp; omega)) (keep_set (by first | (simp; done) | (simp; omega)) t2), by first | exact keep_alloc t3 | exact keep_set (by first | (simp; done) | (simp; omega)) (keep_set (by first | (simp; done) | (simp; omega)) t3), ?_⟩
    all_goals first | (simp; done) | (go_simp; done) | (repeat (first | exact Below.refl _ _ | refine Below.drew ?_ | refine Below.setCell ?_ (by first | (simp; done) | omega | (simp; omega)) _ | refine Below.alloc ?_ (by first | (simp; done) | omega | (simp; omega)) _ | refine Below.trans ?_ (hb2.mono (by first | (simp; done) | omega | (simp; omega))) | refine Below.trans ?_ (hb1.mono (by first | (simp; done) | omega | (simp; omega)))))
  case rest =>
    obtain ⟨g, rfl, hg, rfl, cg0, cg1, fg0, fg1, ca, cb, cd, hB⟩ := hcut
    obtain ⟨w2, hw2⟩ : ∃ w2 : World, w2 = wc := ⟨_, rfl⟩
    subst hw2
    have hg1 : ¬ g = w.heap.size := by omega
    have hg2 : ¬ w.heap.size = g := by omega
    have hM := split_math P d h l q0 q1 r (by omega) Hh.out Hl.out Hq0.out Hq1.out Hr.out
    have hW : -4611686018427387905 ≤ QM.sW a b d ∧ QM.sW a b d ≤ 4611686018427387904 := QM.sW_bd a b d
    obtain ⟨K, hK⟩ : ∃ K : Nat, K = min (P / d) 4611686018427387904 := ⟨_, rfl⟩
    have hq1b : (q1 : Int) ≤ 18446744073709551615 := by
      have hPb : P ≤ 81000000000000000000000000 := by rw [HP.out]; exact Nat.mul_le_mul (show a.natAbs ≤ 9000000000000 by omega) (show b.natAbs ≤ 9000000000000 by omega)
      have h1 := Hq1.out
      have h2 : h % d < d := Nat.mod_lt _ (by omega)
      have h3 : q1 < 18446744073709551616 := by
        rw [h1, Nat.div_lt_iff_lt_mul (by omega)]
        have : (h % d + 1) * 18446744073709551616 ≤ d * 18446744073709551616 := Nat.mul_le_mul_right _ h2
        have := Hl.out
        omega
      omega
    have hrd : (r : Int) < d := by have := Nat.mod_lt P (show 0 < d by omega); omega
    have HV : (decide (a < 0) = decide (b < 0) → QM.sW a b d = K ∧ a * b % d = r) ∧ (decide (a < 0) ≠ decide (b < 0) → r = 0 → QM.sW a b d = -(K : Int) ∧ a * b % d = 0) ∧ (decide (a < 0) ≠ decide (b < 0) → r ≠ 0 → QM.sW a b d = -(K : Int) - 1 ∧ a * b % d = (d : Int) - r) := by
      have eq : QM.qN a b d = P / d := by unfold QM.qN; rw [HP.out, Int.natAbs_natCast]
      have er : QM.rN a b d = r := by unfold QM.rN; rw [hM.2, HP.out, Int.natAbs_natCast]
      refine ⟨fun e => ?_, fun e h0 => ?_, fun e h0 => ?_⟩
      · rw [QM.sR_pos (by omega) e, er]
        unfold QM.sW
        rw [if_pos e, eq, hK]
        omega
      · rw [QM.sR_neg (by omega) e, er, if_pos h0]
        unfold QM.sW
        rw [if_neg e, er, if_pos h0, eq, hK]
        omega
      · rw [QM.sR_neg (by omega) e, er, if_neg h0]
        unfold QM.sW
        rw [if_neg e, er, if_neg h0, eq, hK]
        omega
    have HVV := Lib.hid HV
    have hKq : (0 < q0 ∨ 4611686018427387904 < q1 → (K : Int) = 4611686018427387904) ∧ (q0 = 0 → q1 ≤ 4611686018427387904 → K = q1) := by
      have := hM.1
      constructor
      · intro h; omega
      · intro h h'; omega
    have HK := Lib.hid hKq
    have hKb : (K : Int) ≤ 4611686018427387904 := by omega
    clear hM hK HV hKq HP Hh Hl Hq0 Hq1 Hr K1 K2 hW
    go_upto_region 2 with fail
    go_cut [24] (fun s wx => s = .bool (decide (0 < q0 ∨ 4611686018427387904 < q1)) ∧ wx = w2)
    case first =>
      by_cases c0 : (0 : Int) < q0
      · go_wp2_with fail
        go_meet
        exact ⟨by simp; omega, rfl⟩
      · have c0' : q0 = 0 := by omega
        subst c0'
        by_cases c1 : (4611686018427387904 : Int) < q1
        · go_wp2_with fail
          go_meet
          exact ⟨by simp; omega, rfl⟩
        · go_wp2_with fail
          go_meet
          exact ⟨by simp; omega, rfl⟩
    case rest =>
      obtain ⟨rfl, hw3⟩ := hcut
      subst hw3
      go_upto_if 24 with fail
      go_cut [] (fun wx => wx.cell? ⟨g, 1, none⟩ = some (.int .u64 K) ∧ wx.cell? ⟨w.heap.size, 0, none⟩ = some (.int .i64 a) ∧ wx.cell? ⟨w.heap.size, 1, none⟩ = some (.int .i64 b) ∧ wx.cell? ⟨w.heap.size, 2, none⟩ = some (.int .i64 d) ∧ Below w.heap.size w wx)
      case first =>
        by_cases hc : 0 < q0 ∨ 4611686018427387904 < q1
        · have hcd : decide (0 < q0 ∨ 4611686018427387904 < q1) = true := by simp [hc]
          have hk := HK.out.1 hc
          have Hk := Lib.hid hk
          rw [hcd]
          clear hk hc hcd
          go_wp2_with fail
          go_meet
          refine ⟨?_, keep_set (by first | (simp; done) | omega | (simp; omega)) (keep_set (by first | (simp; done) | omega | (simp; omega)) ca), keep_set (by first | (simp; done) | omega | (simp; omega)) (keep_set (by first | (simp; done) | omega | (simp; omega)) cb), keep_set (by first | (simp; done) | omega | (simp; omega)) (keep_set (by first | (simp; done) | omega | (simp; omega)) cd), (hB.setCell (p := ⟨g, 0, none⟩) (Nat.le_of_lt hg) _).setCell (p := ⟨g, 1, none⟩) (Nat.le_of_lt hg) _⟩
          rw [Hk.out]
          exact set_set cg1
        · have hcd : decide (0 < q0 ∨ 4611686018427387904 < q1) = false := by simp [hc]
          have hk := HK.out.2 (by omega) (by omega)
          subst hk
          rw [hcd]
          clear hc hcd
          go_wp2_with fail
          go_meet
          exact ⟨cg1, ca, cb, cd, hB⟩
      case rest =>
        obtain ⟨ck, ca, cb, cd, hB⟩ := hcut
        obtain ⟨w3, hw3⟩ : ∃ w3 : World, w3 = wc := ⟨_, rfl⟩
        subst hw3
        clear cg0 cg1 fg0 fg1
        by_cases sa : a < 0
        · by_cases sb : b < 0
          · have hv := HVV.out.1 (by simp [sa, sb])
            have Hv := Lib.hid hv
            clear hv
            go_wp2_with fail
            go_ret2
            exact ⟨by rw [Hv.out.1, Hv.out.2]; rfl, hB⟩
          · by_cases hr : r = 0
            · have hv := HVV.out.2.1 (by simp [sa, sb]) hr
              have Hv := Lib.hid hv
              clear hv
              subst hr
              go_wp2_with fail
              go_ret2
              exact ⟨by rw [Hv.out.1, Hv.out.2]; rfl, hB⟩
            · have hv := HVV.out.2.2 (by simp [sa, sb]) hr
              have Hv := Lib.hid hv
              clear hv
              go_wp2_with fail
              go_quiet (fail)
              go_wp2_with fail
              go_ret2
              exact ⟨by rw [Hv.out.1, Hv.out.2]; rfl, below_drewN hB _⟩
        · by_cases sb : b < 0
          · by_cases hr : r = 0
            · have hv := HVV.out.2.1 (by simp [sa, sb]) hr
              have Hv := Lib.hid hv
              clear hv
              subst hr
              go_wp2_with fail
              go_ret2
              exact ⟨by rw [Hv.out.1, Hv.out.2]; rfl, hB⟩
            · have hv := HVV.out.2.2 (by simp [sa, sb]) hr
              have Hv := Lib.hid hv
              clear hv
              go_wp2_with fail
              go_quiet (fail)
              go_wp2_with fail
              go_ret2
              exact ⟨by rw [Hv.out.1, Hv.out.2]; rfl, below_drewN hB _⟩
          · have hv := HVV.out.1 (by simp [sa, sb])
            have Hv := Lib.hid hv
            clear hv
            go_wp2_with fail
            go_ret2
            exact ⟨by rw [Hv.out.1, Hv.out.2]; rfl, hB⟩
end Go.Proofs.Ytlaalhbicblbeaa
