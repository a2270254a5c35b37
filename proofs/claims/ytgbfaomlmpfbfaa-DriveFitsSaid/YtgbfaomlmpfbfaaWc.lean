/- The greatest possible current of a span: the program halves, the recursion taken level by level. -/
import Derived.Test.YtgbfaomlmpfbfaaWb
namespace Go.Proofs.Ytgbfaomlmpfbfaa
open Go Go.SX Go.RowKit WK
set_option linter.unusedVariables false
set_option linter.unusedSimpArgs false
set_option maxRecDepth 100000
theorem ne0F : ((0 : Int) != 0) = false := by decide
theorem ne0T : ((1 : Int) != 0) = true := by decide
theorem sqD {R K L F w m b p z : Int} (hb : 0 ≤ b ∧ b ≤ 2000) (h : Has R K L F w m b p z) : 0 ≤ waD R K L F w m b p z * waD R K L F w m b p z ∧ waD R K L F w m b p z * waD R K L F w m b p z ≤ 4000000 := by
  have := has_bd h
  unfold waD
  generalize wHi R K L F w m b p z = x at *
  have e : x * x = (0 - x) * (0 - x) := by rw [Int.zero_sub, Int.neg_mul_neg]
  rw [e]
  have a := Int.mul_le_mul (show 0 - x ≤ 2000 by omega) (show 0 - x ≤ 2000 by omega) (by omega) (by decide)
  have c := Int.mul_nonneg (show 0 ≤ 0 - x by omega) (show 0 ≤ 0 - x by omega)
  omega
theorem st_hold {fn : Nat → List Int → Int} (h : GoodF fn) (k : Int) {R K L F c d e f g i w m b p z : Int} (hr : (0 ≤ R ∧ R ≤ 1048576) ∧ (1 ≤ K ∧ K ≤ 4194304) ∧ (1 ≤ L ∧ L ≤ 4194304) ∧ (0 ≤ F ∧ F ≤ 4194304) ∧ (-16384 ≤ w ∧ w ≤ 16384) ∧ (0 ≤ m ∧ m ≤ 1073741824) ∧ (0 ≤ b ∧ b ≤ 2000) ∧ (0 ≤ p ∧ p ≤ 2000) ∧ (0 ≤ z ∧ z ≤ 2000) ∧ p ≤ z) (hk : z ≤ p + (2 * k + 1)) (hk0 : 0 ≤ k) :
    (stT k).holds (envOf [R, K, L, F, c, d, e, f, g, i, w, m, b, p, z] fn) fun u => u.eqv (envOf [R, K, L, F, c, d, e, f, g, i, w, m, b, p, z] fn) (stFC 0).v := by
  obtain ⟨hR, hK, hL, hF, hw, hm, hb, hp, hz, hpz⟩ := hr
  simp only [stT, stFC, f9, VT.holds, SV.eqv, SV.eqvL, tstB, den_lit, den_var, den_ite, den_cmp, den_cmpB, den_tst, den_tstF, den_negT, den_negF, den_andT, den_andF, lssT, leqT, gtrT, geqT, eqlT, neqT, lssF, leqF, gtrF, geqF, eqlF, neqF, den_app, den_nilL, den_consL, den_add, den_sub, den_mul, den_tdiv, den_tmod, den_mx, den_mn, den_blit, den_bin, binI, env_v, env_f, List.flatten_cons, List.flatten_nil, List.append_nil, List.cons_append, List.nil_append, List.getD_cons_zero, List.getD_cons_succ, List.getD_nil, q5 h, q6 h, q7 h, q8 h, q9 h, true_and, and_true, bne_iff_ne, bne_eq_false_iff_eq, ne_eq]
  rw [Int.tdiv_eq_ediv_of_nonneg (show 0 ≤ p + z by omega)]
  have pp : 0 ≤ p * p ∧ p * p ≤ 4000000 := ⟨Int.mul_nonneg hp.1 hp.1, by have := Int.mul_le_mul hp.2 hp.2 hp.1 (by decide); omega⟩
  refine ⟨fun h1 => ?_, fun h1 => ⟨fun h2 => ?_, fun h2 => ⟨fun h3 => ?_, fun h3 => ⟨by omega, by omega, by omega, fun h4 => ?_, fun h4 => ⟨by omega, by omega, ?_⟩⟩⟩⟩⟩
  · obtain ⟨a1, a2, a3⟩ := stH_none (top_cut (R := R) (K := K) (L := L) (F := F) (w := w) (m := m) (b := b) (l := p) (h := z) hm.1 hp.1 hb.1 (by omega) (.inl (waH_no.1 h1)))
    rw [a1, a2, a3]
    exact ⟨rfl, rfl, rfl⟩
  · have hH := waH_iff.1 h1
    have sq := sqD hb hH
    rw [wrap_i64 (n := waD R K L F w m b p z * waD R K L F w m b p z) (by omega) (by omega), wrap_i64 (by omega) (by omega)] at h2
    obtain ⟨a1, a2, a3⟩ := stH_none (top_cut (R := R) (K := K) (L := L) (F := F) (w := w) (m := m) (b := b) (l := p) (h := z) hm.1 hp.1 hb.1 (by omega) (.inr h2))
    rw [a1, a2, a3]
    exact ⟨rfl, rfl, rfl⟩
  · have hH := waH_iff.1 h1
    have sq := sqD hb hH
    rw [wrap_i64 (n := waD R K L F w m b p z * waD R K L F w m b p z) (by omega) (by omega), wrap_i64 (by omega) (by omega)] at h2
    subst h3
    have e : top R K L F w m b p p = some p := by
      rw [top_one, if_pos ⟨hH, by unfold waD at h2; omega⟩]
    obtain ⟨a1, a2, a3⟩ := stH_some e
    rw [a1, a2, a3]
    exact ⟨rfl, rfl, rfl⟩
  · have sp := top_split (R := R) (K := K) (L := L) (F := F) (w := w) (m := m) (b := b) (l := p) (h := z) (c := (p + z) / 2) (by omega) (by omega)
    cases e : top R K L F w m b ((p + z) / 2 + 1) z with
    | none => exact absurd (stH_none e).1 h4
    | some x =>
      rw [e] at sp
      obtain ⟨a1, a2, a3⟩ := stH_some e
      obtain ⟨b1, b2, b3⟩ := stH_some (sp : top R K L F w m b p z = some x)
      rw [a2, a3, b1, b2, b3]
      exact ⟨rfl, rfl, rfl⟩
  · have sp := top_split (R := R) (K := K) (L := L) (F := F) (w := w) (m := m) (b := b) (l := p) (h := z) (c := (p + z) / 2) (by omega) (by omega)
    cases e : top R K L F w m b ((p + z) / 2 + 1) z with
    | some x => exact absurd h4 (by rw [(stH_some e).1]; decide)
    | none =>
      rw [e] at sp
      obtain ⟨b1, b2, b3⟩ := st_same (sp : top R K L F w m b p z = top R K L F w m b p ((p + z) / 2))
      rw [b1, b2, b3]
      exact ⟨rfl, rfl, rfl⟩
theorem st_hold0 {fn : Nat → List Int → Int} (h : GoodF fn) {R K L F c d e f g i w m b p z : Int} (hr : (0 ≤ R ∧ R ≤ 1048576) ∧ (1 ≤ K ∧ K ≤ 4194304) ∧ (1 ≤ L ∧ L ≤ 4194304) ∧ (0 ≤ F ∧ F ≤ 4194304) ∧ (-16384 ≤ w ∧ w ≤ 16384) ∧ (0 ≤ m ∧ m ≤ 1073741824) ∧ (0 ≤ b ∧ b ≤ 2000) ∧ (0 ≤ p ∧ p ≤ 2000) ∧ (0 ≤ z ∧ z ≤ 2000) ∧ p ≤ z) (hk : z ≤ p + 0) :
    stT0.holds (envOf [R, K, L, F, c, d, e, f, g, i, w, m, b, p, z] fn) fun u => u.eqv (envOf [R, K, L, F, c, d, e, f, g, i, w, m, b, p, z] fn) (stFC 0).v := by
  obtain ⟨hR, hK, hL, hF, hw, hm, hb, hp, hz, hpz⟩ := hr
  obtain rfl : z = p := by omega
  simp only [stT0, stFC, f9, VT.holds, SV.eqv, SV.eqvL, tstB, den_lit, den_var, den_ite, den_cmp, den_cmpB, den_tst, den_tstF, den_negT, den_negF, den_andT, den_andF, lssT, leqT, gtrT, geqT, eqlT, neqT, lssF, leqF, gtrF, geqF, eqlF, neqF, den_app, den_nilL, den_consL, den_add, den_sub, den_mul, den_tdiv, den_tmod, den_mx, den_mn, den_blit, den_bin, binI, env_v, env_f, List.flatten_cons, List.flatten_nil, List.append_nil, List.cons_append, List.nil_append, List.getD_cons_zero, List.getD_cons_succ, List.getD_nil, q5 h, q6 h, q7 h, q8 h, q9 h, true_and, and_true, bne_iff_ne, bne_eq_false_iff_eq, ne_eq]
  have pp : 0 ≤ z * z ∧ z * z ≤ 4000000 := ⟨Int.mul_nonneg hp.1 hp.1, by have := Int.mul_le_mul hp.2 hp.2 hp.1 (by decide); omega⟩
  refine ⟨fun h1 => ?_, fun h1 => ⟨fun h2 => ?_, fun h2 => ?_⟩⟩
  · obtain ⟨a1, a2, a3⟩ := stH_none (top_cut (R := R) (K := K) (L := L) (F := F) (w := w) (m := m) (b := b) (l := z) (h := z) hm.1 hp.1 hb.1 (by omega) (.inl (waH_no.1 h1)))
    rw [a1, a2, a3]
    exact ⟨rfl, rfl, rfl⟩
  · have hH := waH_iff.1 h1
    have sq := sqD hb hH
    rw [wrap_i64 (n := waD R K L F w m b z z * waD R K L F w m b z z) (by omega) (by omega), wrap_i64 (by omega) (by omega)] at h2
    obtain ⟨a1, a2, a3⟩ := stH_none (top_cut (R := R) (K := K) (L := L) (F := F) (w := w) (m := m) (b := b) (l := z) (h := z) hm.1 hp.1 hb.1 (by omega) (.inr h2))
    rw [a1, a2, a3]
    exact ⟨rfl, rfl, rfl⟩
  · have hH := waH_iff.1 h1
    have sq := sqD hb hH
    rw [wrap_i64 (n := waD R K L F w m b z z * waD R K L F w m b z z) (by omega) (by omega), wrap_i64 (by omega) (by omega)] at h2
    have e : top R K L F w m b z z = some z := by
      rw [top_one, if_pos ⟨hH, by unfold waD at h2; omega⟩]
    obtain ⟨a1, a2, a3⟩ := stH_some e
    rw [a1, a2, a3]
    exact ⟨rfl, rfl, rfl⟩
/-- a level, by its tree -/
theorem st_level {fn : Nat → List Int → Int} (h : GoodF fn) {X : Par} {k : Int} {t : VT} (hX : ParOK Try.prog fn X)
    (ht : (run (callT Try.prog X 100000 28 (symAll [sF, sp2] 0) (ctxA [sF, sp2] (stP k) 0)) st0).vt = t) (hent : (entered Try.prog 28).isSome = true)
    (hh : ∀ {R K L F c d e f g i w m b p z : Int}, (0 ≤ R ∧ R ≤ 1048576) ∧ (1 ≤ K ∧ K ≤ 4194304) ∧ (1 ≤ L ∧ L ≤ 4194304) ∧ (0 ≤ F ∧ F ≤ 4194304) ∧ (-16384 ≤ w ∧ w ≤ 16384) ∧ (0 ≤ m ∧ m ≤ 1073741824) ∧ (0 ≤ b ∧ b ≤ 2000) ∧ (0 ≤ p ∧ p ≤ 2000) ∧ (0 ≤ z ∧ z ≤ 2000) ∧ p ≤ z → z ≤ p + k → t.holds (envOf [R, K, L, F, c, d, e, f, g, i, w, m, b, p, z] fn) fun u => u.eqv (envOf [R, K, L, F, c, d, e, f, g, i, w, m, b, p, z] fn) (stFC 0).v) : (stFC k).OK Try.prog fn := by
  refine FC.ok_num (X := X) (d := 0) (n := 100000) (t := t) mixD hX rfl hent ht fun r hw hpre => ?_
  obtain ⟨xs0, r0, rfl, w0, _, hw0⟩ := hw
  obtain ⟨xs1, r1, rfl, w1, _, hw1⟩ := hw0
  obtain rfl : r1 = [] := hw1
  obtain ⟨R, K, L, F, c, d, e, f, g, i, w, m, b, rfl, hR, hK, hL, hF, hc, hd, he, hf, hg, hi, hw, hm, hb⟩ := wfI13 w0
  obtain ⟨p, z, rfl, hp, hz⟩ := wfI2 w1
  clear w0 w1
  replace hpre : ∀ x, x ∈ stP k → x.den _ = true := hpre
  simp only [stP, fiP, moP, bet, List.mem_append, List.mem_cons, List.not_mem_nil, or_false, forall_eq_or_imp, forall_eq, or_imp, forall_and, den_lit, den_var, den_ite, den_cmp, den_cmpB, den_tst, den_tstF, den_negT, den_negF, den_andT, den_andF, lssT, leqT, gtrT, geqT, eqlT, neqT, lssF, leqF, gtrF, geqF, eqlF, neqF, den_app, den_nilL, den_consL, den_add, den_sub, den_mul, den_tdiv, den_tmod, den_mx, den_mn, den_blit, den_bin, binI, env_v, env_f, List.flatten_cons, List.flatten_nil, List.append_nil, List.cons_append, List.nil_append, List.getD_cons_zero, List.getD_cons_succ, List.getD_nil] at hpre
  clear hR hK hL hF hc hd he hf hg hi hw hm hb hp hz
  refine ⟨by simp [stFC], ?_, hh (by omega) (by omega)⟩
  intro x hm
  have B := st_bd (R := R) (K := K) (L := L) (F := F) (w := w) (m := m) (b := b) (l := p) (h := z) (by omega) (by omega) (by omega)
  simp only [stFC, List.mem_cons, List.not_mem_nil, or_false] at hm
  rcases hm with rfl | rfl | rfl <;> simp only [f9, den_lit, den_var, den_ite, den_cmp, den_cmpB, den_tst, den_tstF, den_negT, den_negF, den_andT, den_andF, lssT, leqT, gtrT, geqT, eqlT, neqT, lssF, leqF, gtrF, geqF, eqlF, neqF, den_app, den_nilL, den_consL, den_add, den_sub, den_mul, den_tdiv, den_tmod, den_mx, den_mn, den_blit, den_bin, binI, env_v, env_f, List.flatten_cons, List.flatten_nil, List.append_nil, List.cons_append, List.nil_append, List.getD_cons_zero, List.getD_cons_succ, List.getD_nil, q7 h, q8 h, q9 h] <;> omega
theorem st0_ok {fn : Nat → List Int → Int} (h : GoodF fn) : (stFC 0).OK Try.prog fn := st_level h (t := stT0) (X2_ok h) (by kernel_rfl) (by kernel_rfl) fun hr hk => st_hold0 h hr hk
theorem st1_ok {fn : Nat → List Int → Int} (h : GoodF fn) : (stFC 1).OK Try.prog fn := st_level h (X := parIf isNew (stFC 0) X2) (t := stT 0) (parIf_ok (st0_ok h) rfl (X2_ok h)) (by kernel_rfl) (by kernel_rfl) fun hr hk => st_hold h 0 hr (by omega) (by decide)
theorem st3_ok {fn : Nat → List Int → Int} (h : GoodF fn) : (stFC 3).OK Try.prog fn := st_level h (X := parIf isNew (stFC 1) X2) (t := stT 1) (parIf_ok (st1_ok h) rfl (X2_ok h)) (by kernel_rfl) (by kernel_rfl) fun hr hk => st_hold h 1 hr (by omega) (by decide)
theorem st7_ok {fn : Nat → List Int → Int} (h : GoodF fn) : (stFC 7).OK Try.prog fn := st_level h (X := parIf isNew (stFC 3) X2) (t := stT 3) (parIf_ok (st3_ok h) rfl (X2_ok h)) (by kernel_rfl) (by kernel_rfl) fun hr hk => st_hold h 3 hr (by omega) (by decide)
theorem st15_ok {fn : Nat → List Int → Int} (h : GoodF fn) : (stFC 15).OK Try.prog fn := st_level h (X := parIf isNew (stFC 7) X2) (t := stT 7) (parIf_ok (st7_ok h) rfl (X2_ok h)) (by kernel_rfl) (by kernel_rfl) fun hr hk => st_hold h 7 hr (by omega) (by decide)
theorem st31_ok {fn : Nat → List Int → Int} (h : GoodF fn) : (stFC 31).OK Try.prog fn := st_level h (X := parIf isNew (stFC 15) X2) (t := stT 15) (parIf_ok (st15_ok h) rfl (X2_ok h)) (by kernel_rfl) (by kernel_rfl) fun hr hk => st_hold h 15 hr (by omega) (by decide)
theorem st63_ok {fn : Nat → List Int → Int} (h : GoodF fn) : (stFC 63).OK Try.prog fn := st_level h (X := parIf isNew (stFC 31) X2) (t := stT 31) (parIf_ok (st31_ok h) rfl (X2_ok h)) (by kernel_rfl) (by kernel_rfl) fun hr hk => st_hold h 31 hr (by omega) (by decide)
theorem st127_ok {fn : Nat → List Int → Int} (h : GoodF fn) : (stFC 127).OK Try.prog fn := st_level h (X := parIf isNew (stFC 63) X2) (t := stT 63) (parIf_ok (st63_ok h) rfl (X2_ok h)) (by kernel_rfl) (by kernel_rfl) fun hr hk => st_hold h 63 hr (by omega) (by decide)
theorem st255_ok {fn : Nat → List Int → Int} (h : GoodF fn) : (stFC 255).OK Try.prog fn := st_level h (X := parIf isNew (stFC 127) X2) (t := stT 127) (parIf_ok (st127_ok h) rfl (X2_ok h)) (by kernel_rfl) (by kernel_rfl) fun hr hk => st_hold h 127 hr (by omega) (by decide)
theorem st511_ok {fn : Nat → List Int → Int} (h : GoodF fn) : (stFC 511).OK Try.prog fn := st_level h (X := parIf isNew (stFC 255) X2) (t := stT 255) (parIf_ok (st255_ok h) rfl (X2_ok h)) (by kernel_rfl) (by kernel_rfl) fun hr hk => st_hold h 255 hr (by omega) (by decide)
theorem st1023_ok {fn : Nat → List Int → Int} (h : GoodF fn) : (stFC 1023).OK Try.prog fn := st_level h (X := parIf isNew (stFC 511) X2) (t := stT 511) (parIf_ok (st511_ok h) rfl (X2_ok h)) (by kernel_rfl) (by kernel_rfl) fun hr hk => st_hold h 511 hr (by omega) (by decide)
theorem st2047_ok {fn : Nat → List Int → Int} (h : GoodF fn) : (stFC 2047).OK Try.prog fn := st_level h (X := parIf isNew (stFC 1023) X2) (t := stT 1023) (parIf_ok (st1023_ok h) rfl (X2_ok h)) (by kernel_rfl) (by kernel_rfl) fun hr hk => st_hold h 1023 hr (by omega) (by decide)
def X4 : Par := (stFC 2047).par X2
theorem X4_ok {fn : Nat → List Int → Int} (h : GoodF fn) : ParOK Try.prog fn X4 := FC.parOK (st2047_ok h) rfl (X2_ok h)
end Go.Proofs.Ytgbfaomlmpfbfaa
