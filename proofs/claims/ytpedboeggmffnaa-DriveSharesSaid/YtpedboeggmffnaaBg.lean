/- Shares that are wanted: no other sharing has a lesser greatest share. A law way by way, each with what its tree asks. -/
import Derived.Test.YtpedboeggmffnaaBe
import Derived.Test.YtpedboeggmffnaaBf
namespace Go.Proofs.Ytpedboeggmffnaa
open Go Go.SX Go.RowKit
set_option linter.unusedVariables false
set_option linter.unusedSimpArgs false
set_option maxRecDepth 100000
theorem share_less {m x : Nat → Int} {n : Nat} {t lv : Int} (hS : IsShare m n t x) (h : ∃ i, i < n ∧ lv < x i) : sumF (fun i => min (m i) lv) n < sumF x n := by
  obtain ⟨L, hL⟩ := hS.lv
  obtain ⟨i, hi, hx⟩ := h
  have h1 := (hL i hi).2
  refine sumF_lt (fun j hj => ?_) ⟨i, hi, ?_⟩
  · have := (hL j hj).1
    show min (m j) lv ≤ x j
    omega
  · show min (m i) lv < x i
    omega
open Go.WideShapes Go.ChangeShapes in
theorem calls_waysH {P : Program} {sh : List PSh} {l : List PV} {fn : Nat → List Int → Int} {n f d : Nat} {w : World} (hmix : P.follows .mixedOrders = true) (hw : pvAll w sh l) (hfn : FnRows fn sh l 0)
    (hy : WaysP (fun cx => ∃ X, ParOK P fn X ∧ (run (callT P X n f (shArgs sh 0 0) cx) (shSt sh)).vt.holds (envOf (pvNums l) fn) fun v => yes (envOf (pvNums l) fn) v) (shCtx sh [] d)) :
    Calls P f (pvVals sh l).toArray w fun e w' => e = .returned (.bool true) ∧ Below w.heap.size w w' := by
  have hv : ∀ j, j < (pvNums l).length → (envOf (pvNums l) fn).v (0 + j) = (pvNums l).getD j 0 := fun j hj => by simp [envOf]
  obtain ⟨cx, hcx, X, hX, h⟩ := hy.at (env := envOf (pvNums l) fn) (show (shCtx sh [] d).ok _ from ⟨shRngs_ok hw hv, fun be v h => by simp [shCtx] at h⟩)
  obtain ⟨ρ, h3, h4⟩ := places 0 hw
  have hs : HS (envOf (pvNums l) fn) ρ w.heap.size (shStore sh 0 0) w := by
    refine ⟨?_, ?_, ?_, Nat.le_refl _, ?_, hX.rows⟩
    · intro b v hg
      obtain ⟨r, o, e, ho, hb⟩ := shStore_blk hw h4 hfn hv b v hg
      exact ⟨r, o, e, fun hvd => ⟨(hb hvd).1, (fun h => by rw [ho] at h; cases h), fun _ => (hb hvd).2⟩⟩
    · intro b p e
      have := h3 b p e
      exact shStore_dom (by omega) (by omega)
    · intro b b' r o o' e e' hr hd hd'
      cases hg : (shStore sh 0 0).get b with
      | none =>
        have := h3 b _ e
        exact absurd hg (shStore_dom (by omega) (by omega))
      | some v =>
        rw [hg] at hd
        obtain ⟨r', o', e1, ho, hb⟩ := shStore_blk hw h4 hfn hv b v hg
        rw [e] at e1
        cases e1
        have := (hb hd.void).2
        omega
    · intro b v hg
      obtain ⟨r, o, e, ho, hb⟩ := shStore_blk hw h4 hfn hv b v hg
      cases v with
      | vec => cases ho
      | _ => exact trivial
  exact calls_yes hmix hX rfl hcx (shArgs_rep hw h4 hv) hs (PT.holds_vt h)
theorem holds_eq {env : Env} {Q : SV → Prop} {t u : VT} (h : t = u) (hh : u.holds env Q) : t.holds env Q := h ▸ hh
def XM (n : Nat) : Par := (shpW 8 n).par (knFC.par noPar)
theorem XM1_ok {fn : Nat → List Int → Int} (h : Good fn) : ParOK Try.prog fn (XM 1) := WC.parOK (p8x1_ok h) (by kernel_rfl) (FC.parOK (kn_ok h) rfl (noPar_ok _ h.l.rows))
theorem XM2_ok {fn : Nat → List Int → Int} (h : Good fn) : ParOK Try.prog fn (XM 2) := WC.parOK (p8x2_ok h) (by kernel_rfl) (FC.parOK (kn_ok h) rfl (noPar_ok _ h.l.rows))
theorem XM3_ok {fn : Nat → List Int → Int} (h : Good fn) : ParOK Try.prog fn (XM 3) := WC.parOK (p8x3_ok h) (by kernel_rfl) (FC.parOK (kn_ok h) rfl (noPar_ok _ h.l.rows))
theorem XM4_ok {fn : Nat → List Int → Int} (h : Good fn) : ParOK Try.prog fn (XM 4) := WC.parOK (p8x4_ok h) (by kernel_rfl) (FC.parOK (kn_ok h) rfl (noPar_ok _ h.l.rows))
theorem XM5_ok {fn : Nat → List Int → Int} (h : Good fn) : ParOK Try.prog fn (XM 5) := WC.parOK (p8x5_ok h) (by kernel_rfl) (FC.parOK (kn_ok h) rfl (noPar_ok _ h.l.rows))
theorem XM6_ok {fn : Nat → List Int → Int} (h : Good fn) : ParOK Try.prog fn (XM 6) := WC.parOK (p8x6_ok h) (by kernel_rfl) (FC.parOK (kn_ok h) rfl (noPar_ok _ h.l.rows))
theorem XM7_ok {fn : Nat → List Int → Int} (h : Good fn) : ParOK Try.prog fn (XM 7) := WC.parOK (p8x7_ok h) (by kernel_rfl) (FC.parOK (kn_ok h) rfl (noPar_ok _ h.l.rows))
theorem XM8_ok {fn : Nat → List Int → Int} (h : Good fn) : ParOK Try.prog fn (XM 8) := WC.parOK (p8x8_ok h) (by kernel_rfl) (FC.parOK (kn_ok h) rfl (noPar_ok _ h.l.rows))
theorem mx1 {x0 z : Int} (h : z < x0) : z < x0 := by omega
theorem mx2 {x0 x1 z : Int} (h : z < (max x0 x1)) : z < x0 ∨ z < x1 := by omega
theorem mx3 {x0 x1 x2 z : Int} (h : z < (max (max x0 x1) x2)) : z < x0 ∨ z < x1 ∨ z < x2 := by omega
theorem mx4 {x0 x1 x2 x3 z : Int} (h : z < (max (max (max x0 x1) x2) x3)) : z < x0 ∨ z < x1 ∨ z < x2 ∨ z < x3 := by omega
theorem mx5 {x0 x1 x2 x3 x4 z : Int} (h : z < (max (max (max (max x0 x1) x2) x3) x4)) : z < x0 ∨ z < x1 ∨ z < x2 ∨ z < x3 ∨ z < x4 := by omega
theorem mx6 {x0 x1 x2 x3 x4 x5 z : Int} (h : z < (max (max (max (max (max x0 x1) x2) x3) x4) x5)) : z < x0 ∨ z < x1 ∨ z < x2 ∨ z < x3 ∨ z < x4 ∨ z < x5 := by omega
theorem mx7 {x0 x1 x2 x3 x4 x5 x6 z : Int} (h : z < (max (max (max (max (max (max x0 x1) x2) x3) x4) x5) x6)) : z < x0 ∨ z < x1 ∨ z < x2 ∨ z < x3 ∨ z < x4 ∨ z < x5 ∨ z < x6 := by omega
theorem mx8 {x0 x1 x2 x3 x4 x5 x6 x7 z : Int} (h : z < (max (max (max (max (max (max (max x0 x1) x2) x3) x4) x5) x6) x7)) : z < x0 ∨ z < x1 ∨ z < x2 ∨ z < x3 ∨ z < x4 ∨ z < x5 ∨ z < x6 ∨ z < x7 := by omega
theorem yesLit (env : Env) (x : Bool) : yes env (.bool (.lit x)) = (x = true) := rfl
def vs1 : VT := (.ite (.cmp .neq (.app 112 [(.var 0)]) (.lit 0)) (.ite (.cmp .eql (.app 112 [(.var 0)]) (.lit 3)) (.leaf (.bool (.lit true))) (.leaf (.bool (.lit false)))) (.ite (.cmp .neq (.app 111 [(.var 0)]) (.lit 1)) (.leaf (.bool (.lit false))) (.ite (.cmp .lss (.app 1200 [(.app 110 [(.var 0)]), (.lit 0)]) (.lit 0)) (.leaf (.bool (.lit false))) (.ite (.cmp .gtr (.app 1200 [(.app 110 [(.var 0)]), (.lit 0)]) (.app 5000 [(.lit 0)])) (.leaf (.bool (.lit false))) (.ite (.cmp .neq (.op .add (.lit 0) (.app 1200 [(.app 110 [(.var 0)]), (.lit 0)])) (.op .mn (.var 0) (.op .add (.lit 0) (.app 5000 [(.lit 0)])))) (.leaf (.bool (.lit false))) (.ite (.cmp .lss (.var 2) (.lit 0)) (.leaf (.bool (.lit true))) (.ite (.cmp .geq (.var 2) (.app 1200 [(.app 110 [(.var 0)]), (.lit 0)])) (.leaf (.bool (.lit true))) (.ite (.cmp .lss (.op .add (.lit 0) (.op .mn (.app 5000 [(.lit 0)]) (.var 2))) (.op .add (.lit 0) (.app 1200 [(.app 110 [(.var 0)]), (.lit 0)]))) (.leaf (.bool (.lit true))) (.leaf (.bool (.lit false)))))))))))
theorem main1 {fn : Nat → List Int → Int} (h : Good fn) (t ln lv : Int) : vs1.holds (envOf [t, ln, lv] fn) fun v => yes (envOf [t, ln, lv] fn) v := by
  simp only [vs1, VT.holds, yesLit, den_lit, den_var, den_ite, den_cmp, den_cmpB, den_tst, den_tstF, den_negT, den_negF, den_andT, den_andF, lssT, leqT, gtrT, geqT, eqlT, neqT, lssF, leqF, gtrF, geqF, eqlF, neqF, den_app, den_nilL, den_consL, den_add, den_sub, den_mul, den_tdiv, den_tmod, den_mx, den_mn, den_blit, den_bin, binI, env_v, env_f, List.flatten_cons, List.flatten_nil, List.append_nil, List.cons_append, List.nil_append, List.getD_cons_zero, List.getD_cons_succ, List.getD_nil]
  rcases sh_val h.l (K := 110) (n := 1) h.t1 t with e | ⟨e0, e1, x, hS, hx⟩
  · replace e : fn 112 [t] = 3 := e
    simp only [e]
    exact ⟨fun _ => ⟨fun _ => trivial, fun h => absurd rfl h⟩, fun h => absurd h (by decide)⟩
  · replace e0 : fn 112 [t] = 0 := e0
    replace e1 : fn 111 [t] = 1 := e1
    have g0 : fn 1200 [fn 110 [t], 0] = x 0 := hx 0 (by decide)
    have k0 : fn 5000 [0] = mOf fn 0 := rfl
    have b0 := hS.x0 0 (by decide)
    have c0 := hS.m0 0 (by decide)
    have less : ∀ z : Int, z < x 0 → sumF (fun i => min (mOf fn i) z) 1 < sumF x 1 := fun z hz => share_less hS (by
      rcases hz with hz
      exact ⟨0, by decide, hz⟩
    )
    have sm := hS.sum
    have less := less lv
    simp only [sumF] at sm less
    simp only [e0, e1, g0, k0]
    clear hx hS g0 k0 e0 e1
    generalize x 0 = x0 at *
    generalize mOf fn 0 = m0 at *
    have less2 := fun (z : lv < x0) => less (mx1 z)
    clear less
    have d : ∀ m, 0 ≤ m → (0 ≤ lv → 0 ≤ min m lv) ∧ min m lv ≤ m := fun m hm => by omega
    have d0 := d m0 c0.1
    generalize min m0 lv = y0 at *
    clear d
    refine ⟨fun h => absurd rfl h, fun _ => ⟨fun h => absurd rfl h, fun _ => ?_⟩⟩
    by_cases hlv : 0 ≤ lv
    · replace d0 : 0 ≤ y0 ∧ y0 ≤ m0 := ⟨d0.1 hlv, d0.2⟩
      try simp (disch := omega) only [wrap_i64]
      generalize min t (0 + m0 ) = mn at *
      repeat' (first | apply And.intro | intro _)
      all_goals first | trivial | omega
    · clear less2 d0
      try simp (disch := omega) only [wrap_i64]
      generalize min t (0 + m0 ) = mn at *
      repeat' (first | apply And.intro | intro _)
      all_goals first | trivial | omega
def vs2 : VT := (.ite (.cmp .neq (.app 122 [(.var 0)]) (.lit 0)) (.ite (.cmp .eql (.app 122 [(.var 0)]) (.lit 3)) (.leaf (.bool (.lit true))) (.leaf (.bool (.lit false)))) (.ite (.cmp .neq (.app 121 [(.var 0)]) (.lit 2)) (.leaf (.bool (.lit false))) (.ite (.cmp .lss (.app 1200 [(.app 120 [(.var 0)]), (.lit 0)]) (.lit 0)) (.leaf (.bool (.lit false))) (.ite (.cmp .gtr (.app 1200 [(.app 120 [(.var 0)]), (.lit 0)]) (.app 5000 [(.lit 0)])) (.leaf (.bool (.lit false))) (.ite (.cmp .lss (.app 1200 [(.app 120 [(.var 0)]), (.lit 1)]) (.lit 0)) (.leaf (.bool (.lit false))) (.ite (.cmp .gtr (.app 1200 [(.app 120 [(.var 0)]), (.lit 1)]) (.app 5000 [(.lit 1)])) (.leaf (.bool (.lit false))) (.ite (.cmp .neq (.bin .add .i64 (.op .add (.lit 0) (.app 1200 [(.app 120 [(.var 0)]), (.lit 0)])) (.app 1200 [(.app 120 [(.var 0)]), (.lit 1)])) (.op .mn (.var 0) (.bin .add .i64 (.op .add (.lit 0) (.app 5000 [(.lit 0)])) (.app 5000 [(.lit 1)])))) (.leaf (.bool (.lit false))) (.ite (.cmp .lss (.var 2) (.lit 0)) (.leaf (.bool (.lit true))) (.ite (.cmp .geq (.var 2) (.op .mx (.app 1200 [(.app 120 [(.var 0)]), (.lit 0)]) (.app 1200 [(.app 120 [(.var 0)]), (.lit 1)]))) (.leaf (.bool (.lit true))) (.ite (.cmp .lss (.bin .add .i64 (.op .add (.lit 0) (.op .mn (.app 5000 [(.lit 0)]) (.var 2))) (.op .mn (.app 5000 [(.lit 1)]) (.var 2))) (.bin .add .i64 (.op .add (.lit 0) (.app 1200 [(.app 120 [(.var 0)]), (.lit 0)])) (.app 1200 [(.app 120 [(.var 0)]), (.lit 1)]))) (.leaf (.bool (.lit true))) (.leaf (.bool (.lit false)))))))))))))
theorem main2 {fn : Nat → List Int → Int} (h : Good fn) (t ln lv : Int) : vs2.holds (envOf [t, ln, lv] fn) fun v => yes (envOf [t, ln, lv] fn) v := by
  simp only [vs2, VT.holds, yesLit, den_lit, den_var, den_ite, den_cmp, den_cmpB, den_tst, den_tstF, den_negT, den_negF, den_andT, den_andF, lssT, leqT, gtrT, geqT, eqlT, neqT, lssF, leqF, gtrF, geqF, eqlF, neqF, den_app, den_nilL, den_consL, den_add, den_sub, den_mul, den_tdiv, den_tmod, den_mx, den_mn, den_blit, den_bin, binI, env_v, env_f, List.flatten_cons, List.flatten_nil, List.append_nil, List.cons_append, List.nil_append, List.getD_cons_zero, List.getD_cons_succ, List.getD_nil]
  rcases sh_val h.l (K := 120) (n := 2) h.t2 t with e | ⟨e0, e1, x, hS, hx⟩
  · replace e : fn 122 [t] = 3 := e
    simp only [e]
    exact ⟨fun _ => ⟨fun _ => trivial, fun h => absurd rfl h⟩, fun h => absurd h (by decide)⟩
  · replace e0 : fn 122 [t] = 0 := e0
    replace e1 : fn 121 [t] = 2 := e1
    have g0 : fn 1200 [fn 120 [t], 0] = x 0 := hx 0 (by decide)
    have k0 : fn 5000 [0] = mOf fn 0 := rfl
    have b0 := hS.x0 0 (by decide)
    have c0 := hS.m0 0 (by decide)
    have g1 : fn 1200 [fn 120 [t], 1] = x 1 := hx 1 (by decide)
    have k1 : fn 5000 [1] = mOf fn 1 := rfl
    have b1 := hS.x0 1 (by decide)
    have c1 := hS.m0 1 (by decide)
    have less : ∀ z : Int, z < x 0 ∨ z < x 1 → sumF (fun i => min (mOf fn i) z) 2 < sumF x 2 := fun z hz => share_less hS (by
      rcases hz with hz | hz
      · exact ⟨0, by decide, hz⟩
      · exact ⟨1, by decide, hz⟩
    )
    have sm := hS.sum
    have less := less lv
    simp only [sumF] at sm less
    simp only [e0, e1, g0, k0, g1, k1]
    clear hx hS g0 k0 g1 k1 e0 e1
    generalize x 0 = x0 at *
    generalize mOf fn 0 = m0 at *
    generalize x 1 = x1 at *
    generalize mOf fn 1 = m1 at *
    have less2 := fun (z : lv < (max x0 x1)) => less (mx2 z)
    clear less
    have d : ∀ m, 0 ≤ m → (0 ≤ lv → 0 ≤ min m lv) ∧ min m lv ≤ m := fun m hm => by omega
    have d0 := d m0 c0.1
    generalize min m0 lv = y0 at *
    have d1 := d m1 c1.1
    generalize min m1 lv = y1 at *
    generalize max x0 x1 = mx at *
    clear d
    refine ⟨fun h => absurd rfl h, fun _ => ⟨fun h => absurd rfl h, fun _ => ?_⟩⟩
    by_cases hlv : 0 ≤ lv
    · replace d0 : 0 ≤ y0 ∧ y0 ≤ m0 := ⟨d0.1 hlv, d0.2⟩; replace d1 : 0 ≤ y1 ∧ y1 ≤ m1 := ⟨d1.1 hlv, d1.2⟩
      try simp (disch := omega) only [wrap_i64]
      generalize min t (0 + m0 + m1 ) = mn at *
      repeat' (first | apply And.intro | intro _)
      all_goals first | trivial | omega
    · clear less2 d0 d1
      try simp (disch := omega) only [wrap_i64]
      generalize min t (0 + m0 + m1 ) = mn at *
      repeat' (first | apply And.intro | intro _)
      all_goals first | trivial | omega
def vs3 : VT := (.ite (.cmp .neq (.app 132 [(.var 0)]) (.lit 0)) (.ite (.cmp .eql (.app 132 [(.var 0)]) (.lit 3)) (.leaf (.bool (.lit true))) (.leaf (.bool (.lit false)))) (.ite (.cmp .neq (.app 131 [(.var 0)]) (.lit 3)) (.leaf (.bool (.lit false))) (.ite (.cmp .lss (.app 1200 [(.app 130 [(.var 0)]), (.lit 0)]) (.lit 0)) (.leaf (.bool (.lit false))) (.ite (.cmp .gtr (.app 1200 [(.app 130 [(.var 0)]), (.lit 0)]) (.app 5000 [(.lit 0)])) (.leaf (.bool (.lit false))) (.ite (.cmp .lss (.app 1200 [(.app 130 [(.var 0)]), (.lit 1)]) (.lit 0)) (.leaf (.bool (.lit false))) (.ite (.cmp .gtr (.app 1200 [(.app 130 [(.var 0)]), (.lit 1)]) (.app 5000 [(.lit 1)])) (.leaf (.bool (.lit false))) (.ite (.cmp .lss (.app 1200 [(.app 130 [(.var 0)]), (.lit 2)]) (.lit 0)) (.leaf (.bool (.lit false))) (.ite (.cmp .gtr (.app 1200 [(.app 130 [(.var 0)]), (.lit 2)]) (.app 5000 [(.lit 2)])) (.leaf (.bool (.lit false))) (.ite (.cmp .neq (.bin .add .i64 (.bin .add .i64 (.op .add (.lit 0) (.app 1200 [(.app 130 [(.var 0)]), (.lit 0)])) (.app 1200 [(.app 130 [(.var 0)]), (.lit 1)])) (.app 1200 [(.app 130 [(.var 0)]), (.lit 2)])) (.op .mn (.var 0) (.bin .add .i64 (.bin .add .i64 (.op .add (.lit 0) (.app 5000 [(.lit 0)])) (.app 5000 [(.lit 1)])) (.app 5000 [(.lit 2)])))) (.leaf (.bool (.lit false))) (.ite (.cmp .lss (.var 2) (.lit 0)) (.leaf (.bool (.lit true))) (.ite (.cmp .geq (.var 2) (.op .mx (.op .mx (.app 1200 [(.app 130 [(.var 0)]), (.lit 0)]) (.app 1200 [(.app 130 [(.var 0)]), (.lit 1)])) (.app 1200 [(.app 130 [(.var 0)]), (.lit 2)]))) (.leaf (.bool (.lit true))) (.ite (.cmp .lss (.bin .add .i64 (.bin .add .i64 (.op .add (.lit 0) (.op .mn (.app 5000 [(.lit 0)]) (.var 2))) (.op .mn (.app 5000 [(.lit 1)]) (.var 2))) (.op .mn (.app 5000 [(.lit 2)]) (.var 2))) (.bin .add .i64 (.bin .add .i64 (.op .add (.lit 0) (.app 1200 [(.app 130 [(.var 0)]), (.lit 0)])) (.app 1200 [(.app 130 [(.var 0)]), (.lit 1)])) (.app 1200 [(.app 130 [(.var 0)]), (.lit 2)]))) (.leaf (.bool (.lit true))) (.leaf (.bool (.lit false)))))))))))))))
theorem main3 {fn : Nat → List Int → Int} (h : Good fn) (t ln lv : Int) : vs3.holds (envOf [t, ln, lv] fn) fun v => yes (envOf [t, ln, lv] fn) v := by
  simp only [vs3, VT.holds, yesLit, den_lit, den_var, den_ite, den_cmp, den_cmpB, den_tst, den_tstF, den_negT, den_negF, den_andT, den_andF, lssT, leqT, gtrT, geqT, eqlT, neqT, lssF, leqF, gtrF, geqF, eqlF, neqF, den_app, den_nilL, den_consL, den_add, den_sub, den_mul, den_tdiv, den_tmod, den_mx, den_mn, den_blit, den_bin, binI, env_v, env_f, List.flatten_cons, List.flatten_nil, List.append_nil, List.cons_append, List.nil_append, List.getD_cons_zero, List.getD_cons_succ, List.getD_nil]
  rcases sh_val h.l (K := 130) (n := 3) h.t3 t with e | ⟨e0, e1, x, hS, hx⟩
  · replace e : fn 132 [t] = 3 := e
    simp only [e]
    exact ⟨fun _ => ⟨fun _ => trivial, fun h => absurd rfl h⟩, fun h => absurd h (by decide)⟩
  · replace e0 : fn 132 [t] = 0 := e0
    replace e1 : fn 131 [t] = 3 := e1
    have g0 : fn 1200 [fn 130 [t], 0] = x 0 := hx 0 (by decide)
    have k0 : fn 5000 [0] = mOf fn 0 := rfl
    have b0 := hS.x0 0 (by decide)
    have c0 := hS.m0 0 (by decide)
    have g1 : fn 1200 [fn 130 [t], 1] = x 1 := hx 1 (by decide)
    have k1 : fn 5000 [1] = mOf fn 1 := rfl
    have b1 := hS.x0 1 (by decide)
    have c1 := hS.m0 1 (by decide)
    have g2 : fn 1200 [fn 130 [t], 2] = x 2 := hx 2 (by decide)
    have k2 : fn 5000 [2] = mOf fn 2 := rfl
    have b2 := hS.x0 2 (by decide)
    have c2 := hS.m0 2 (by decide)
    have less : ∀ z : Int, z < x 0 ∨ z < x 1 ∨ z < x 2 → sumF (fun i => min (mOf fn i) z) 3 < sumF x 3 := fun z hz => share_less hS (by
      rcases hz with hz | hz | hz
      · exact ⟨0, by decide, hz⟩
      · exact ⟨1, by decide, hz⟩
      · exact ⟨2, by decide, hz⟩
    )
    have sm := hS.sum
    have less := less lv
    simp only [sumF] at sm less
    simp only [e0, e1, g0, k0, g1, k1, g2, k2]
    clear hx hS g0 k0 g1 k1 g2 k2 e0 e1
    generalize x 0 = x0 at *
    generalize mOf fn 0 = m0 at *
    generalize x 1 = x1 at *
    generalize mOf fn 1 = m1 at *
    generalize x 2 = x2 at *
    generalize mOf fn 2 = m2 at *
    have less2 := fun (z : lv < (max (max x0 x1) x2)) => less (mx3 z)
    clear less
    have d : ∀ m, 0 ≤ m → (0 ≤ lv → 0 ≤ min m lv) ∧ min m lv ≤ m := fun m hm => by omega
    have d0 := d m0 c0.1
    generalize min m0 lv = y0 at *
    have d1 := d m1 c1.1
    generalize min m1 lv = y1 at *
    have d2 := d m2 c2.1
    generalize min m2 lv = y2 at *
    generalize max (max x0 x1) x2 = mx at *
    clear d
    refine ⟨fun h => absurd rfl h, fun _ => ⟨fun h => absurd rfl h, fun _ => ?_⟩⟩
    by_cases hlv : 0 ≤ lv
    · replace d0 : 0 ≤ y0 ∧ y0 ≤ m0 := ⟨d0.1 hlv, d0.2⟩; replace d1 : 0 ≤ y1 ∧ y1 ≤ m1 := ⟨d1.1 hlv, d1.2⟩; replace d2 : 0 ≤ y2 ∧ y2 ≤ m2 := ⟨d2.1 hlv, d2.2⟩
      try simp (disch := omega) only [wrap_i64]
      generalize min t (0 + m0 + m1 + m2 ) = mn at *
      repeat' (first | apply And.intro | intro _)
      all_goals first | trivial | omega
    · clear less2 d0 d1 d2
      try simp (disch := omega) only [wrap_i64]
      generalize min t (0 + m0 + m1 + m2 ) = mn at *
      repeat' (first | apply And.intro | intro _)
      all_goals first | trivial | omega
def vs4 : VT := (.ite (.cmp .neq (.app 142 [(.var 0)]) (.lit 0)) (.ite (.cmp .eql (.app 142 [(.var 0)]) (.lit 3)) (.leaf (.bool (.lit true))) (.leaf (.bool (.lit false)))) (.ite (.cmp .neq (.app 141 [(.var 0)]) (.lit 4)) (.leaf (.bool (.lit false))) (.ite (.cmp .lss (.app 1200 [(.app 140 [(.var 0)]), (.lit 0)]) (.lit 0)) (.leaf (.bool (.lit false))) (.ite (.cmp .gtr (.app 1200 [(.app 140 [(.var 0)]), (.lit 0)]) (.app 5000 [(.lit 0)])) (.leaf (.bool (.lit false))) (.ite (.cmp .lss (.app 1200 [(.app 140 [(.var 0)]), (.lit 1)]) (.lit 0)) (.leaf (.bool (.lit false))) (.ite (.cmp .gtr (.app 1200 [(.app 140 [(.var 0)]), (.lit 1)]) (.app 5000 [(.lit 1)])) (.leaf (.bool (.lit false))) (.ite (.cmp .lss (.app 1200 [(.app 140 [(.var 0)]), (.lit 2)]) (.lit 0)) (.leaf (.bool (.lit false))) (.ite (.cmp .gtr (.app 1200 [(.app 140 [(.var 0)]), (.lit 2)]) (.app 5000 [(.lit 2)])) (.leaf (.bool (.lit false))) (.ite (.cmp .lss (.app 1200 [(.app 140 [(.var 0)]), (.lit 3)]) (.lit 0)) (.leaf (.bool (.lit false))) (.ite (.cmp .gtr (.app 1200 [(.app 140 [(.var 0)]), (.lit 3)]) (.app 5000 [(.lit 3)])) (.leaf (.bool (.lit false))) (.ite (.cmp .neq (.bin .add .i64 (.bin .add .i64 (.bin .add .i64 (.op .add (.lit 0) (.app 1200 [(.app 140 [(.var 0)]), (.lit 0)])) (.app 1200 [(.app 140 [(.var 0)]), (.lit 1)])) (.app 1200 [(.app 140 [(.var 0)]), (.lit 2)])) (.app 1200 [(.app 140 [(.var 0)]), (.lit 3)])) (.op .mn (.var 0) (.bin .add .i64 (.bin .add .i64 (.bin .add .i64 (.op .add (.lit 0) (.app 5000 [(.lit 0)])) (.app 5000 [(.lit 1)])) (.app 5000 [(.lit 2)])) (.app 5000 [(.lit 3)])))) (.leaf (.bool (.lit false))) (.ite (.cmp .lss (.var 2) (.lit 0)) (.leaf (.bool (.lit true))) (.ite (.cmp .geq (.var 2) (.op .mx (.op .mx (.op .mx (.app 1200 [(.app 140 [(.var 0)]), (.lit 0)]) (.app 1200 [(.app 140 [(.var 0)]), (.lit 1)])) (.app 1200 [(.app 140 [(.var 0)]), (.lit 2)])) (.app 1200 [(.app 140 [(.var 0)]), (.lit 3)]))) (.leaf (.bool (.lit true))) (.ite (.cmp .lss (.bin .add .i64 (.bin .add .i64 (.bin .add .i64 (.op .add (.lit 0) (.op .mn (.app 5000 [(.lit 0)]) (.var 2))) (.op .mn (.app 5000 [(.lit 1)]) (.var 2))) (.op .mn (.app 5000 [(.lit 2)]) (.var 2))) (.op .mn (.app 5000 [(.lit 3)]) (.var 2))) (.bin .add .i64 (.bin .add .i64 (.bin .add .i64 (.op .add (.lit 0) (.app 1200 [(.app 140 [(.var 0)]), (.lit 0)])) (.app 1200 [(.app 140 [(.var 0)]), (.lit 1)])) (.app 1200 [(.app 140 [(.var 0)]), (.lit 2)])) (.app 1200 [(.app 140 [(.var 0)]), (.lit 3)]))) (.leaf (.bool (.lit true))) (.leaf (.bool (.lit false)))))))))))))))))
theorem main4 {fn : Nat → List Int → Int} (h : Good fn) (t ln lv : Int) : vs4.holds (envOf [t, ln, lv] fn) fun v => yes (envOf [t, ln, lv] fn) v := by
  simp only [vs4, VT.holds, yesLit, den_lit, den_var, den_ite, den_cmp, den_cmpB, den_tst, den_tstF, den_negT, den_negF, den_andT, den_andF, lssT, leqT, gtrT, geqT, eqlT, neqT, lssF, leqF, gtrF, geqF, eqlF, neqF, den_app, den_nilL, den_consL, den_add, den_sub, den_mul, den_tdiv, den_tmod, den_mx, den_mn, den_blit, den_bin, binI, env_v, env_f, List.flatten_cons, List.flatten_nil, List.append_nil, List.cons_append, List.nil_append, List.getD_cons_zero, List.getD_cons_succ, List.getD_nil]
  rcases sh_val h.l (K := 140) (n := 4) h.t4 t with e | ⟨e0, e1, x, hS, hx⟩
  · replace e : fn 142 [t] = 3 := e
    simp only [e]
    exact ⟨fun _ => ⟨fun _ => trivial, fun h => absurd rfl h⟩, fun h => absurd h (by decide)⟩
  · replace e0 : fn 142 [t] = 0 := e0
    replace e1 : fn 141 [t] = 4 := e1
    have g0 : fn 1200 [fn 140 [t], 0] = x 0 := hx 0 (by decide)
    have k0 : fn 5000 [0] = mOf fn 0 := rfl
    have b0 := hS.x0 0 (by decide)
    have c0 := hS.m0 0 (by decide)
    have g1 : fn 1200 [fn 140 [t], 1] = x 1 := hx 1 (by decide)
    have k1 : fn 5000 [1] = mOf fn 1 := rfl
    have b1 := hS.x0 1 (by decide)
    have c1 := hS.m0 1 (by decide)
    have g2 : fn 1200 [fn 140 [t], 2] = x 2 := hx 2 (by decide)
    have k2 : fn 5000 [2] = mOf fn 2 := rfl
    have b2 := hS.x0 2 (by decide)
    have c2 := hS.m0 2 (by decide)
    have g3 : fn 1200 [fn 140 [t], 3] = x 3 := hx 3 (by decide)
    have k3 : fn 5000 [3] = mOf fn 3 := rfl
    have b3 := hS.x0 3 (by decide)
    have c3 := hS.m0 3 (by decide)
    have less : ∀ z : Int, z < x 0 ∨ z < x 1 ∨ z < x 2 ∨ z < x 3 → sumF (fun i => min (mOf fn i) z) 4 < sumF x 4 := fun z hz => share_less hS (by
      rcases hz with hz | hz | hz | hz
      · exact ⟨0, by decide, hz⟩
      · exact ⟨1, by decide, hz⟩
      · exact ⟨2, by decide, hz⟩
      · exact ⟨3, by decide, hz⟩
    )
    have sm := hS.sum
    have less := less lv
    simp only [sumF] at sm less
    simp only [e0, e1, g0, k0, g1, k1, g2, k2, g3, k3]
    clear hx hS g0 k0 g1 k1 g2 k2 g3 k3 e0 e1
    generalize x 0 = x0 at *
    generalize mOf fn 0 = m0 at *
    generalize x 1 = x1 at *
    generalize mOf fn 1 = m1 at *
    generalize x 2 = x2 at *
    generalize mOf fn 2 = m2 at *
    generalize x 3 = x3 at *
    generalize mOf fn 3 = m3 at *
    have less2 := fun (z : lv < (max (max (max x0 x1) x2) x3)) => less (mx4 z)
    clear less
    have d : ∀ m, 0 ≤ m → (0 ≤ lv → 0 ≤ min m lv) ∧ min m lv ≤ m := fun m hm => by omega
    have d0 := d m0 c0.1
    generalize min m0 lv = y0 at *
    have d1 := d m1 c1.1
    generalize min m1 lv = y1 at *
    have d2 := d m2 c2.1
    generalize min m2 lv = y2 at *
    have d3 := d m3 c3.1
    generalize min m3 lv = y3 at *
    generalize max (max (max x0 x1) x2) x3 = mx at *
    clear d
    refine ⟨fun h => absurd rfl h, fun _ => ⟨fun h => absurd rfl h, fun _ => ?_⟩⟩
    by_cases hlv : 0 ≤ lv
    · replace d0 : 0 ≤ y0 ∧ y0 ≤ m0 := ⟨d0.1 hlv, d0.2⟩; replace d1 : 0 ≤ y1 ∧ y1 ≤ m1 := ⟨d1.1 hlv, d1.2⟩; replace d2 : 0 ≤ y2 ∧ y2 ≤ m2 := ⟨d2.1 hlv, d2.2⟩; replace d3 : 0 ≤ y3 ∧ y3 ≤ m3 := ⟨d3.1 hlv, d3.2⟩
      try simp (disch := omega) only [wrap_i64]
      generalize min t (0 + m0 + m1 + m2 + m3 ) = mn at *
      repeat' (first | apply And.intro | intro _)
      all_goals first | trivial | omega
    · clear less2 d0 d1 d2 d3
      try simp (disch := omega) only [wrap_i64]
      generalize min t (0 + m0 + m1 + m2 + m3 ) = mn at *
      repeat' (first | apply And.intro | intro _)
      all_goals first | trivial | omega
def vs5 : VT := (.ite (.cmp .neq (.app 152 [(.var 0)]) (.lit 0)) (.ite (.cmp .eql (.app 152 [(.var 0)]) (.lit 3)) (.leaf (.bool (.lit true))) (.leaf (.bool (.lit false)))) (.ite (.cmp .neq (.app 151 [(.var 0)]) (.lit 5)) (.leaf (.bool (.lit false))) (.ite (.cmp .lss (.app 1200 [(.app 150 [(.var 0)]), (.lit 0)]) (.lit 0)) (.leaf (.bool (.lit false))) (.ite (.cmp .gtr (.app 1200 [(.app 150 [(.var 0)]), (.lit 0)]) (.app 5000 [(.lit 0)])) (.leaf (.bool (.lit false))) (.ite (.cmp .lss (.app 1200 [(.app 150 [(.var 0)]), (.lit 1)]) (.lit 0)) (.leaf (.bool (.lit false))) (.ite (.cmp .gtr (.app 1200 [(.app 150 [(.var 0)]), (.lit 1)]) (.app 5000 [(.lit 1)])) (.leaf (.bool (.lit false))) (.ite (.cmp .lss (.app 1200 [(.app 150 [(.var 0)]), (.lit 2)]) (.lit 0)) (.leaf (.bool (.lit false))) (.ite (.cmp .gtr (.app 1200 [(.app 150 [(.var 0)]), (.lit 2)]) (.app 5000 [(.lit 2)])) (.leaf (.bool (.lit false))) (.ite (.cmp .lss (.app 1200 [(.app 150 [(.var 0)]), (.lit 3)]) (.lit 0)) (.leaf (.bool (.lit false))) (.ite (.cmp .gtr (.app 1200 [(.app 150 [(.var 0)]), (.lit 3)]) (.app 5000 [(.lit 3)])) (.leaf (.bool (.lit false))) (.ite (.cmp .lss (.app 1200 [(.app 150 [(.var 0)]), (.lit 4)]) (.lit 0)) (.leaf (.bool (.lit false))) (.ite (.cmp .gtr (.app 1200 [(.app 150 [(.var 0)]), (.lit 4)]) (.app 5000 [(.lit 4)])) (.leaf (.bool (.lit false))) (.ite (.cmp .neq (.bin .add .i64 (.bin .add .i64 (.bin .add .i64 (.bin .add .i64 (.op .add (.lit 0) (.app 1200 [(.app 150 [(.var 0)]), (.lit 0)])) (.app 1200 [(.app 150 [(.var 0)]), (.lit 1)])) (.app 1200 [(.app 150 [(.var 0)]), (.lit 2)])) (.app 1200 [(.app 150 [(.var 0)]), (.lit 3)])) (.app 1200 [(.app 150 [(.var 0)]), (.lit 4)])) (.op .mn (.var 0) (.bin .add .i64 (.bin .add .i64 (.bin .add .i64 (.bin .add .i64 (.op .add (.lit 0) (.app 5000 [(.lit 0)])) (.app 5000 [(.lit 1)])) (.app 5000 [(.lit 2)])) (.app 5000 [(.lit 3)])) (.app 5000 [(.lit 4)])))) (.leaf (.bool (.lit false))) (.ite (.cmp .lss (.var 2) (.lit 0)) (.leaf (.bool (.lit true))) (.ite (.cmp .geq (.var 2) (.op .mx (.op .mx (.op .mx (.op .mx (.app 1200 [(.app 150 [(.var 0)]), (.lit 0)]) (.app 1200 [(.app 150 [(.var 0)]), (.lit 1)])) (.app 1200 [(.app 150 [(.var 0)]), (.lit 2)])) (.app 1200 [(.app 150 [(.var 0)]), (.lit 3)])) (.app 1200 [(.app 150 [(.var 0)]), (.lit 4)]))) (.leaf (.bool (.lit true))) (.ite (.cmp .lss (.bin .add .i64 (.bin .add .i64 (.bin .add .i64 (.bin .add .i64 (.op .add (.lit 0) (.op .mn (.app 5000 [(.lit 0)]) (.var 2))) (.op .mn (.app 5000 [(.lit 1)]) (.var 2))) (.op .mn (.app 5000 [(.lit 2)]) (.var 2))) (.op .mn (.app 5000 [(.lit 3)]) (.var 2))) (.op .mn (.app 5000 [(.lit 4)]) (.var 2))) (.bin .add .i64 (.bin .add .i64 (.bin .add .i64 (.bin .add .i64 (.op .add (.lit 0) (.app 1200 [(.app 150 [(.var 0)]), (.lit 0)])) (.app 1200 [(.app 150 [(.var 0)]), (.lit 1)])) (.app 1200 [(.app 150 [(.var 0)]), (.lit 2)])) (.app 1200 [(.app 150 [(.var 0)]), (.lit 3)])) (.app 1200 [(.app 150 [(.var 0)]), (.lit 4)]))) (.leaf (.bool (.lit true))) (.leaf (.bool (.lit false)))))))))))))))))))
theorem main5 {fn : Nat → List Int → Int} (h : Good fn) (t ln lv : Int) : vs5.holds (envOf [t, ln, lv] fn) fun v => yes (envOf [t, ln, lv] fn) v := by
  simp only [vs5, VT.holds, yesLit, den_lit, den_var, den_ite, den_cmp, den_cmpB, den_tst, den_tstF, den_negT, den_negF, den_andT, den_andF, lssT, leqT, gtrT, geqT, eqlT, neqT, lssF, leqF, gtrF, geqF, eqlF, neqF, den_app, den_nilL, den_consL, den_add, den_sub, den_mul, den_tdiv, den_tmod, den_mx, den_mn, den_blit, den_bin, binI, env_v, env_f, List.flatten_cons, List.flatten_nil, List.append_nil, List.cons_append, List.nil_append, List.getD_cons_zero, List.getD_cons_succ, List.getD_nil]
  rcases sh_val h.l (K := 150) (n := 5) h.t5 t with e | ⟨e0, e1, x, hS, hx⟩
  · replace e : fn 152 [t] = 3 := e
    simp only [e]
    exact ⟨fun _ => ⟨fun _ => trivial, fun h => absurd rfl h⟩, fun h => absurd h (by decide)⟩
  · replace e0 : fn 152 [t] = 0 := e0
    replace e1 : fn 151 [t] = 5 := e1
    have g0 : fn 1200 [fn 150 [t], 0] = x 0 := hx 0 (by decide)
    have k0 : fn 5000 [0] = mOf fn 0 := rfl
    have b0 := hS.x0 0 (by decide)
    have c0 := hS.m0 0 (by decide)
    have g1 : fn 1200 [fn 150 [t], 1] = x 1 := hx 1 (by decide)
    have k1 : fn 5000 [1] = mOf fn 1 := rfl
    have b1 := hS.x0 1 (by decide)
    have c1 := hS.m0 1 (by decide)
    have g2 : fn 1200 [fn 150 [t], 2] = x 2 := hx 2 (by decide)
    have k2 : fn 5000 [2] = mOf fn 2 := rfl
    have b2 := hS.x0 2 (by decide)
    have c2 := hS.m0 2 (by decide)
    have g3 : fn 1200 [fn 150 [t], 3] = x 3 := hx 3 (by decide)
    have k3 : fn 5000 [3] = mOf fn 3 := rfl
    have b3 := hS.x0 3 (by decide)
    have c3 := hS.m0 3 (by decide)
    have g4 : fn 1200 [fn 150 [t], 4] = x 4 := hx 4 (by decide)
    have k4 : fn 5000 [4] = mOf fn 4 := rfl
    have b4 := hS.x0 4 (by decide)
    have c4 := hS.m0 4 (by decide)
    have less : ∀ z : Int, z < x 0 ∨ z < x 1 ∨ z < x 2 ∨ z < x 3 ∨ z < x 4 → sumF (fun i => min (mOf fn i) z) 5 < sumF x 5 := fun z hz => share_less hS (by
      rcases hz with hz | hz | hz | hz | hz
      · exact ⟨0, by decide, hz⟩
      · exact ⟨1, by decide, hz⟩
      · exact ⟨2, by decide, hz⟩
      · exact ⟨3, by decide, hz⟩
      · exact ⟨4, by decide, hz⟩
    )
    have sm := hS.sum
    have less := less lv
    simp only [sumF] at sm less
    simp only [e0, e1, g0, k0, g1, k1, g2, k2, g3, k3, g4, k4]
    clear hx hS g0 k0 g1 k1 g2 k2 g3 k3 g4 k4 e0 e1
    generalize x 0 = x0 at *
    generalize mOf fn 0 = m0 at *
    generalize x 1 = x1 at *
    generalize mOf fn 1 = m1 at *
    generalize x 2 = x2 at *
    generalize mOf fn 2 = m2 at *
    generalize x 3 = x3 at *
    generalize mOf fn 3 = m3 at *
    generalize x 4 = x4 at *
    generalize mOf fn 4 = m4 at *
    have less2 := fun (z : lv < (max (max (max (max x0 x1) x2) x3) x4)) => less (mx5 z)
    clear less
    have d : ∀ m, 0 ≤ m → (0 ≤ lv → 0 ≤ min m lv) ∧ min m lv ≤ m := fun m hm => by omega
    have d0 := d m0 c0.1
    generalize min m0 lv = y0 at *
    have d1 := d m1 c1.1
    generalize min m1 lv = y1 at *
    have d2 := d m2 c2.1
    generalize min m2 lv = y2 at *
    have d3 := d m3 c3.1
    generalize min m3 lv = y3 at *
    have d4 := d m4 c4.1
    generalize min m4 lv = y4 at *
    generalize max (max (max (max x0 x1) x2) x3) x4 = mx at *
    clear d
    refine ⟨fun h => absurd rfl h, fun _ => ⟨fun h => absurd rfl h, fun _ => ?_⟩⟩
    by_cases hlv : 0 ≤ lv
    · replace d0 : 0 ≤ y0 ∧ y0 ≤ m0 := ⟨d0.1 hlv, d0.2⟩; replace d1 : 0 ≤ y1 ∧ y1 ≤ m1 := ⟨d1.1 hlv, d1.2⟩; replace d2 : 0 ≤ y2 ∧ y2 ≤ m2 := ⟨d2.1 hlv, d2.2⟩; replace d3 : 0 ≤ y3 ∧ y3 ≤ m3 := ⟨d3.1 hlv, d3.2⟩; replace d4 : 0 ≤ y4 ∧ y4 ≤ m4 := ⟨d4.1 hlv, d4.2⟩
      try simp (disch := omega) only [wrap_i64]
      generalize min t (0 + m0 + m1 + m2 + m3 + m4 ) = mn at *
      repeat' (first | apply And.intro | intro _)
      all_goals first | trivial | omega
    · clear less2 d0 d1 d2 d3 d4
      try simp (disch := omega) only [wrap_i64]
      generalize min t (0 + m0 + m1 + m2 + m3 + m4 ) = mn at *
      repeat' (first | apply And.intro | intro _)
      all_goals first | trivial | omega
def vs6 : VT := (.ite (.cmp .neq (.app 162 [(.var 0)]) (.lit 0)) (.ite (.cmp .eql (.app 162 [(.var 0)]) (.lit 3)) (.leaf (.bool (.lit true))) (.leaf (.bool (.lit false)))) (.ite (.cmp .neq (.app 161 [(.var 0)]) (.lit 6)) (.leaf (.bool (.lit false))) (.ite (.cmp .lss (.app 1200 [(.app 160 [(.var 0)]), (.lit 0)]) (.lit 0)) (.leaf (.bool (.lit false))) (.ite (.cmp .gtr (.app 1200 [(.app 160 [(.var 0)]), (.lit 0)]) (.app 5000 [(.lit 0)])) (.leaf (.bool (.lit false))) (.ite (.cmp .lss (.app 1200 [(.app 160 [(.var 0)]), (.lit 1)]) (.lit 0)) (.leaf (.bool (.lit false))) (.ite (.cmp .gtr (.app 1200 [(.app 160 [(.var 0)]), (.lit 1)]) (.app 5000 [(.lit 1)])) (.leaf (.bool (.lit false))) (.ite (.cmp .lss (.app 1200 [(.app 160 [(.var 0)]), (.lit 2)]) (.lit 0)) (.leaf (.bool (.lit false))) (.ite (.cmp .gtr (.app 1200 [(.app 160 [(.var 0)]), (.lit 2)]) (.app 5000 [(.lit 2)])) (.leaf (.bool (.lit false))) (.ite (.cmp .lss (.app 1200 [(.app 160 [(.var 0)]), (.lit 3)]) (.lit 0)) (.leaf (.bool (.lit false))) (.ite (.cmp .gtr (.app 1200 [(.app 160 [(.var 0)]), (.lit 3)]) (.app 5000 [(.lit 3)])) (.leaf (.bool (.lit false))) (.ite (.cmp .lss (.app 1200 [(.app 160 [(.var 0)]), (.lit 4)]) (.lit 0)) (.leaf (.bool (.lit false))) (.ite (.cmp .gtr (.app 1200 [(.app 160 [(.var 0)]), (.lit 4)]) (.app 5000 [(.lit 4)])) (.leaf (.bool (.lit false))) (.ite (.cmp .lss (.app 1200 [(.app 160 [(.var 0)]), (.lit 5)]) (.lit 0)) (.leaf (.bool (.lit false))) (.ite (.cmp .gtr (.app 1200 [(.app 160 [(.var 0)]), (.lit 5)]) (.app 5000 [(.lit 5)])) (.leaf (.bool (.lit false))) (.ite (.cmp .neq (.bin .add .i64 (.bin .add .i64 (.bin .add .i64 (.bin .add .i64 (.bin .add .i64 (.op .add (.lit 0) (.app 1200 [(.app 160 [(.var 0)]), (.lit 0)])) (.app 1200 [(.app 160 [(.var 0)]), (.lit 1)])) (.app 1200 [(.app 160 [(.var 0)]), (.lit 2)])) (.app 1200 [(.app 160 [(.var 0)]), (.lit 3)])) (.app 1200 [(.app 160 [(.var 0)]), (.lit 4)])) (.app 1200 [(.app 160 [(.var 0)]), (.lit 5)])) (.op .mn (.var 0) (.bin .add .i64 (.bin .add .i64 (.bin .add .i64 (.bin .add .i64 (.bin .add .i64 (.op .add (.lit 0) (.app 5000 [(.lit 0)])) (.app 5000 [(.lit 1)])) (.app 5000 [(.lit 2)])) (.app 5000 [(.lit 3)])) (.app 5000 [(.lit 4)])) (.app 5000 [(.lit 5)])))) (.leaf (.bool (.lit false))) (.ite (.cmp .lss (.var 2) (.lit 0)) (.leaf (.bool (.lit true))) (.ite (.cmp .geq (.var 2) (.op .mx (.op .mx (.op .mx (.op .mx (.op .mx (.app 1200 [(.app 160 [(.var 0)]), (.lit 0)]) (.app 1200 [(.app 160 [(.var 0)]), (.lit 1)])) (.app 1200 [(.app 160 [(.var 0)]), (.lit 2)])) (.app 1200 [(.app 160 [(.var 0)]), (.lit 3)])) (.app 1200 [(.app 160 [(.var 0)]), (.lit 4)])) (.app 1200 [(.app 160 [(.var 0)]), (.lit 5)]))) (.leaf (.bool (.lit true))) (.ite (.cmp .lss (.bin .add .i64 (.bin .add .i64 (.bin .add .i64 (.bin .add .i64 (.bin .add .i64 (.op .add (.lit 0) (.op .mn (.app 5000 [(.lit 0)]) (.var 2))) (.op .mn (.app 5000 [(.lit 1)]) (.var 2))) (.op .mn (.app 5000 [(.lit 2)]) (.var 2))) (.op .mn (.app 5000 [(.lit 3)]) (.var 2))) (.op .mn (.app 5000 [(.lit 4)]) (.var 2))) (.op .mn (.app 5000 [(.lit 5)]) (.var 2))) (.bin .add .i64 (.bin .add .i64 (.bin .add .i64 (.bin .add .i64 (.bin .add .i64 (.op .add (.lit 0) (.app 1200 [(.app 160 [(.var 0)]), (.lit 0)])) (.app 1200 [(.app 160 [(.var 0)]), (.lit 1)])) (.app 1200 [(.app 160 [(.var 0)]), (.lit 2)])) (.app 1200 [(.app 160 [(.var 0)]), (.lit 3)])) (.app 1200 [(.app 160 [(.var 0)]), (.lit 4)])) (.app 1200 [(.app 160 [(.var 0)]), (.lit 5)]))) (.leaf (.bool (.lit true))) (.leaf (.bool (.lit false)))))))))))))))))))))
theorem main6 {fn : Nat → List Int → Int} (h : Good fn) (t ln lv : Int) : vs6.holds (envOf [t, ln, lv] fn) fun v => yes (envOf [t, ln, lv] fn) v := by
  simp only [vs6, VT.holds, yesLit, den_lit, den_var, den_ite, den_cmp, den_cmpB, den_tst, den_tstF, den_negT, den_negF, den_andT, den_andF, lssT, leqT, gtrT, geqT, eqlT, neqT, lssF, leqF, gtrF, geqF, eqlF, neqF, den_app, den_nilL, den_consL, den_add, den_sub, den_mul, den_tdiv, den_tmod, den_mx, den_mn, den_blit, den_bin, binI, env_v, env_f, List.flatten_cons, List.flatten_nil, List.append_nil, List.cons_append, List.nil_append, List.getD_cons_zero, List.getD_cons_succ, List.getD_nil]
  rcases sh_val h.l (K := 160) (n := 6) h.t6 t with e | ⟨e0, e1, x, hS, hx⟩
  · replace e : fn 162 [t] = 3 := e
    simp only [e]
    exact ⟨fun _ => ⟨fun _ => trivial, fun h => absurd rfl h⟩, fun h => absurd h (by decide)⟩
  · replace e0 : fn 162 [t] = 0 := e0
    replace e1 : fn 161 [t] = 6 := e1
    have g0 : fn 1200 [fn 160 [t], 0] = x 0 := hx 0 (by decide)
    have k0 : fn 5000 [0] = mOf fn 0 := rfl
    have b0 := hS.x0 0 (by decide)
    have c0 := hS.m0 0 (by decide)
    have g1 : fn 1200 [fn 160 [t], 1] = x 1 := hx 1 (by decide)
    have k1 : fn 5000 [1] = mOf fn 1 := rfl
    have b1 := hS.x0 1 (by decide)
    have c1 := hS.m0 1 (by decide)
    have g2 : fn 1200 [fn 160 [t], 2] = x 2 := hx 2 (by decide)
    have k2 : fn 5000 [2] = mOf fn 2 := rfl
    have b2 := hS.x0 2 (by decide)
    have c2 := hS.m0 2 (by decide)
    have g3 : fn 1200 [fn 160 [t], 3] = x 3 := hx 3 (by decide)
    have k3 : fn 5000 [3] = mOf fn 3 := rfl
    have b3 := hS.x0 3 (by decide)
    have c3 := hS.m0 3 (by decide)
    have g4 : fn 1200 [fn 160 [t], 4] = x 4 := hx 4 (by decide)
    have k4 : fn 5000 [4] = mOf fn 4 := rfl
    have b4 := hS.x0 4 (by decide)
    have c4 := hS.m0 4 (by decide)
    have g5 : fn 1200 [fn 160 [t], 5] = x 5 := hx 5 (by decide)
    have k5 : fn 5000 [5] = mOf fn 5 := rfl
    have b5 := hS.x0 5 (by decide)
    have c5 := hS.m0 5 (by decide)
    have less : ∀ z : Int, z < x 0 ∨ z < x 1 ∨ z < x 2 ∨ z < x 3 ∨ z < x 4 ∨ z < x 5 → sumF (fun i => min (mOf fn i) z) 6 < sumF x 6 := fun z hz => share_less hS (by
      rcases hz with hz | hz | hz | hz | hz | hz
      · exact ⟨0, by decide, hz⟩
      · exact ⟨1, by decide, hz⟩
      · exact ⟨2, by decide, hz⟩
      · exact ⟨3, by decide, hz⟩
      · exact ⟨4, by decide, hz⟩
      · exact ⟨5, by decide, hz⟩
    )
    have sm := hS.sum
    have less := less lv
    simp only [sumF] at sm less
    simp only [e0, e1, g0, k0, g1, k1, g2, k2, g3, k3, g4, k4, g5, k5]
    clear hx hS g0 k0 g1 k1 g2 k2 g3 k3 g4 k4 g5 k5 e0 e1
    generalize x 0 = x0 at *
    generalize mOf fn 0 = m0 at *
    generalize x 1 = x1 at *
    generalize mOf fn 1 = m1 at *
    generalize x 2 = x2 at *
    generalize mOf fn 2 = m2 at *
    generalize x 3 = x3 at *
    generalize mOf fn 3 = m3 at *
    generalize x 4 = x4 at *
    generalize mOf fn 4 = m4 at *
    generalize x 5 = x5 at *
    generalize mOf fn 5 = m5 at *
    have less2 := fun (z : lv < (max (max (max (max (max x0 x1) x2) x3) x4) x5)) => less (mx6 z)
    clear less
    have d : ∀ m, 0 ≤ m → (0 ≤ lv → 0 ≤ min m lv) ∧ min m lv ≤ m := fun m hm => by omega
    have d0 := d m0 c0.1
    generalize min m0 lv = y0 at *
    have d1 := d m1 c1.1
    generalize min m1 lv = y1 at *
    have d2 := d m2 c2.1
    generalize min m2 lv = y2 at *
    have d3 := d m3 c3.1
    generalize min m3 lv = y3 at *
    have d4 := d m4 c4.1
    generalize min m4 lv = y4 at *
    have d5 := d m5 c5.1
    generalize min m5 lv = y5 at *
    generalize max (max (max (max (max x0 x1) x2) x3) x4) x5 = mx at *
    clear d
    refine ⟨fun h => absurd rfl h, fun _ => ⟨fun h => absurd rfl h, fun _ => ?_⟩⟩
    by_cases hlv : 0 ≤ lv
    · replace d0 : 0 ≤ y0 ∧ y0 ≤ m0 := ⟨d0.1 hlv, d0.2⟩; replace d1 : 0 ≤ y1 ∧ y1 ≤ m1 := ⟨d1.1 hlv, d1.2⟩; replace d2 : 0 ≤ y2 ∧ y2 ≤ m2 := ⟨d2.1 hlv, d2.2⟩; replace d3 : 0 ≤ y3 ∧ y3 ≤ m3 := ⟨d3.1 hlv, d3.2⟩; replace d4 : 0 ≤ y4 ∧ y4 ≤ m4 := ⟨d4.1 hlv, d4.2⟩; replace d5 : 0 ≤ y5 ∧ y5 ≤ m5 := ⟨d5.1 hlv, d5.2⟩
      try simp (disch := omega) only [wrap_i64]
      generalize min t (0 + m0 + m1 + m2 + m3 + m4 + m5 ) = mn at *
      repeat' (first | apply And.intro | intro _)
      all_goals first | trivial | omega
    · clear less2 d0 d1 d2 d3 d4 d5
      try simp (disch := omega) only [wrap_i64]
      generalize min t (0 + m0 + m1 + m2 + m3 + m4 + m5 ) = mn at *
      repeat' (first | apply And.intro | intro _)
      all_goals first | trivial | omega
def vs7 : VT := (.ite (.cmp .neq (.app 172 [(.var 0)]) (.lit 0)) (.ite (.cmp .eql (.app 172 [(.var 0)]) (.lit 3)) (.leaf (.bool (.lit true))) (.leaf (.bool (.lit false)))) (.ite (.cmp .neq (.app 171 [(.var 0)]) (.lit 7)) (.leaf (.bool (.lit false))) (.ite (.cmp .lss (.app 1200 [(.app 170 [(.var 0)]), (.lit 0)]) (.lit 0)) (.leaf (.bool (.lit false))) (.ite (.cmp .gtr (.app 1200 [(.app 170 [(.var 0)]), (.lit 0)]) (.app 5000 [(.lit 0)])) (.leaf (.bool (.lit false))) (.ite (.cmp .lss (.app 1200 [(.app 170 [(.var 0)]), (.lit 1)]) (.lit 0)) (.leaf (.bool (.lit false))) (.ite (.cmp .gtr (.app 1200 [(.app 170 [(.var 0)]), (.lit 1)]) (.app 5000 [(.lit 1)])) (.leaf (.bool (.lit false))) (.ite (.cmp .lss (.app 1200 [(.app 170 [(.var 0)]), (.lit 2)]) (.lit 0)) (.leaf (.bool (.lit false))) (.ite (.cmp .gtr (.app 1200 [(.app 170 [(.var 0)]), (.lit 2)]) (.app 5000 [(.lit 2)])) (.leaf (.bool (.lit false))) (.ite (.cmp .lss (.app 1200 [(.app 170 [(.var 0)]), (.lit 3)]) (.lit 0)) (.leaf (.bool (.lit false))) (.ite (.cmp .gtr (.app 1200 [(.app 170 [(.var 0)]), (.lit 3)]) (.app 5000 [(.lit 3)])) (.leaf (.bool (.lit false))) (.ite (.cmp .lss (.app 1200 [(.app 170 [(.var 0)]), (.lit 4)]) (.lit 0)) (.leaf (.bool (.lit false))) (.ite (.cmp .gtr (.app 1200 [(.app 170 [(.var 0)]), (.lit 4)]) (.app 5000 [(.lit 4)])) (.leaf (.bool (.lit false))) (.ite (.cmp .lss (.app 1200 [(.app 170 [(.var 0)]), (.lit 5)]) (.lit 0)) (.leaf (.bool (.lit false))) (.ite (.cmp .gtr (.app 1200 [(.app 170 [(.var 0)]), (.lit 5)]) (.app 5000 [(.lit 5)])) (.leaf (.bool (.lit false))) (.ite (.cmp .lss (.app 1200 [(.app 170 [(.var 0)]), (.lit 6)]) (.lit 0)) (.leaf (.bool (.lit false))) (.ite (.cmp .gtr (.app 1200 [(.app 170 [(.var 0)]), (.lit 6)]) (.app 5000 [(.lit 6)])) (.leaf (.bool (.lit false))) (.ite (.cmp .neq (.bin .add .i64 (.bin .add .i64 (.bin .add .i64 (.bin .add .i64 (.bin .add .i64 (.bin .add .i64 (.op .add (.lit 0) (.app 1200 [(.app 170 [(.var 0)]), (.lit 0)])) (.app 1200 [(.app 170 [(.var 0)]), (.lit 1)])) (.app 1200 [(.app 170 [(.var 0)]), (.lit 2)])) (.app 1200 [(.app 170 [(.var 0)]), (.lit 3)])) (.app 1200 [(.app 170 [(.var 0)]), (.lit 4)])) (.app 1200 [(.app 170 [(.var 0)]), (.lit 5)])) (.app 1200 [(.app 170 [(.var 0)]), (.lit 6)])) (.op .mn (.var 0) (.bin .add .i64 (.bin .add .i64 (.bin .add .i64 (.bin .add .i64 (.bin .add .i64 (.bin .add .i64 (.op .add (.lit 0) (.app 5000 [(.lit 0)])) (.app 5000 [(.lit 1)])) (.app 5000 [(.lit 2)])) (.app 5000 [(.lit 3)])) (.app 5000 [(.lit 4)])) (.app 5000 [(.lit 5)])) (.app 5000 [(.lit 6)])))) (.leaf (.bool (.lit false))) (.ite (.cmp .lss (.var 2) (.lit 0)) (.leaf (.bool (.lit true))) (.ite (.cmp .geq (.var 2) (.op .mx (.op .mx (.op .mx (.op .mx (.op .mx (.op .mx (.app 1200 [(.app 170 [(.var 0)]), (.lit 0)]) (.app 1200 [(.app 170 [(.var 0)]), (.lit 1)])) (.app 1200 [(.app 170 [(.var 0)]), (.lit 2)])) (.app 1200 [(.app 170 [(.var 0)]), (.lit 3)])) (.app 1200 [(.app 170 [(.var 0)]), (.lit 4)])) (.app 1200 [(.app 170 [(.var 0)]), (.lit 5)])) (.app 1200 [(.app 170 [(.var 0)]), (.lit 6)]))) (.leaf (.bool (.lit true))) (.ite (.cmp .lss (.bin .add .i64 (.bin .add .i64 (.bin .add .i64 (.bin .add .i64 (.bin .add .i64 (.bin .add .i64 (.op .add (.lit 0) (.op .mn (.app 5000 [(.lit 0)]) (.var 2))) (.op .mn (.app 5000 [(.lit 1)]) (.var 2))) (.op .mn (.app 5000 [(.lit 2)]) (.var 2))) (.op .mn (.app 5000 [(.lit 3)]) (.var 2))) (.op .mn (.app 5000 [(.lit 4)]) (.var 2))) (.op .mn (.app 5000 [(.lit 5)]) (.var 2))) (.op .mn (.app 5000 [(.lit 6)]) (.var 2))) (.bin .add .i64 (.bin .add .i64 (.bin .add .i64 (.bin .add .i64 (.bin .add .i64 (.bin .add .i64 (.op .add (.lit 0) (.app 1200 [(.app 170 [(.var 0)]), (.lit 0)])) (.app 1200 [(.app 170 [(.var 0)]), (.lit 1)])) (.app 1200 [(.app 170 [(.var 0)]), (.lit 2)])) (.app 1200 [(.app 170 [(.var 0)]), (.lit 3)])) (.app 1200 [(.app 170 [(.var 0)]), (.lit 4)])) (.app 1200 [(.app 170 [(.var 0)]), (.lit 5)])) (.app 1200 [(.app 170 [(.var 0)]), (.lit 6)]))) (.leaf (.bool (.lit true))) (.leaf (.bool (.lit false)))))))))))))))))))))))
theorem main7 {fn : Nat → List Int → Int} (h : Good fn) (t ln lv : Int) : vs7.holds (envOf [t, ln, lv] fn) fun v => yes (envOf [t, ln, lv] fn) v := by
  simp only [vs7, VT.holds, yesLit, den_lit, den_var, den_ite, den_cmp, den_cmpB, den_tst, den_tstF, den_negT, den_negF, den_andT, den_andF, lssT, leqT, gtrT, geqT, eqlT, neqT, lssF, leqF, gtrF, geqF, eqlF, neqF, den_app, den_nilL, den_consL, den_add, den_sub, den_mul, den_tdiv, den_tmod, den_mx, den_mn, den_blit, den_bin, binI, env_v, env_f, List.flatten_cons, List.flatten_nil, List.append_nil, List.cons_append, List.nil_append, List.getD_cons_zero, List.getD_cons_succ, List.getD_nil]
  rcases sh_val h.l (K := 170) (n := 7) h.t7 t with e | ⟨e0, e1, x, hS, hx⟩
  · replace e : fn 172 [t] = 3 := e
    simp only [e]
    exact ⟨fun _ => ⟨fun _ => trivial, fun h => absurd rfl h⟩, fun h => absurd h (by decide)⟩
  · replace e0 : fn 172 [t] = 0 := e0
    replace e1 : fn 171 [t] = 7 := e1
    have g0 : fn 1200 [fn 170 [t], 0] = x 0 := hx 0 (by decide)
    have k0 : fn 5000 [0] = mOf fn 0 := rfl
    have b0 := hS.x0 0 (by decide)
    have c0 := hS.m0 0 (by decide)
    have g1 : fn 1200 [fn 170 [t], 1] = x 1 := hx 1 (by decide)
    have k1 : fn 5000 [1] = mOf fn 1 := rfl
    have b1 := hS.x0 1 (by decide)
    have c1 := hS.m0 1 (by decide)
    have g2 : fn 1200 [fn 170 [t], 2] = x 2 := hx 2 (by decide)
    have k2 : fn 5000 [2] = mOf fn 2 := rfl
    have b2 := hS.x0 2 (by decide)
    have c2 := hS.m0 2 (by decide)
    have g3 : fn 1200 [fn 170 [t], 3] = x 3 := hx 3 (by decide)
    have k3 : fn 5000 [3] = mOf fn 3 := rfl
    have b3 := hS.x0 3 (by decide)
    have c3 := hS.m0 3 (by decide)
    have g4 : fn 1200 [fn 170 [t], 4] = x 4 := hx 4 (by decide)
    have k4 : fn 5000 [4] = mOf fn 4 := rfl
    have b4 := hS.x0 4 (by decide)
    have c4 := hS.m0 4 (by decide)
    have g5 : fn 1200 [fn 170 [t], 5] = x 5 := hx 5 (by decide)
    have k5 : fn 5000 [5] = mOf fn 5 := rfl
    have b5 := hS.x0 5 (by decide)
    have c5 := hS.m0 5 (by decide)
    have g6 : fn 1200 [fn 170 [t], 6] = x 6 := hx 6 (by decide)
    have k6 : fn 5000 [6] = mOf fn 6 := rfl
    have b6 := hS.x0 6 (by decide)
    have c6 := hS.m0 6 (by decide)
    have less : ∀ z : Int, z < x 0 ∨ z < x 1 ∨ z < x 2 ∨ z < x 3 ∨ z < x 4 ∨ z < x 5 ∨ z < x 6 → sumF (fun i => min (mOf fn i) z) 7 < sumF x 7 := fun z hz => share_less hS (by
      rcases hz with hz | hz | hz | hz | hz | hz | hz
      · exact ⟨0, by decide, hz⟩
      · exact ⟨1, by decide, hz⟩
      · exact ⟨2, by decide, hz⟩
      · exact ⟨3, by decide, hz⟩
      · exact ⟨4, by decide, hz⟩
      · exact ⟨5, by decide, hz⟩
      · exact ⟨6, by decide, hz⟩
    )
    have sm := hS.sum
    have less := less lv
    simp only [sumF] at sm less
    simp only [e0, e1, g0, k0, g1, k1, g2, k2, g3, k3, g4, k4, g5, k5, g6, k6]
    clear hx hS g0 k0 g1 k1 g2 k2 g3 k3 g4 k4 g5 k5 g6 k6 e0 e1
    generalize x 0 = x0 at *
    generalize mOf fn 0 = m0 at *
    generalize x 1 = x1 at *
    generalize mOf fn 1 = m1 at *
    generalize x 2 = x2 at *
    generalize mOf fn 2 = m2 at *
    generalize x 3 = x3 at *
    generalize mOf fn 3 = m3 at *
    generalize x 4 = x4 at *
    generalize mOf fn 4 = m4 at *
    generalize x 5 = x5 at *
    generalize mOf fn 5 = m5 at *
    generalize x 6 = x6 at *
    generalize mOf fn 6 = m6 at *
    have less2 := fun (z : lv < (max (max (max (max (max (max x0 x1) x2) x3) x4) x5) x6)) => less (mx7 z)
    clear less
    have d : ∀ m, 0 ≤ m → (0 ≤ lv → 0 ≤ min m lv) ∧ min m lv ≤ m := fun m hm => by omega
    have d0 := d m0 c0.1
    generalize min m0 lv = y0 at *
    have d1 := d m1 c1.1
    generalize min m1 lv = y1 at *
    have d2 := d m2 c2.1
    generalize min m2 lv = y2 at *
    have d3 := d m3 c3.1
    generalize min m3 lv = y3 at *
    have d4 := d m4 c4.1
    generalize min m4 lv = y4 at *
    have d5 := d m5 c5.1
    generalize min m5 lv = y5 at *
    have d6 := d m6 c6.1
    generalize min m6 lv = y6 at *
    generalize max (max (max (max (max (max x0 x1) x2) x3) x4) x5) x6 = mx at *
    clear d
    refine ⟨fun h => absurd rfl h, fun _ => ⟨fun h => absurd rfl h, fun _ => ?_⟩⟩
    by_cases hlv : 0 ≤ lv
    · replace d0 : 0 ≤ y0 ∧ y0 ≤ m0 := ⟨d0.1 hlv, d0.2⟩; replace d1 : 0 ≤ y1 ∧ y1 ≤ m1 := ⟨d1.1 hlv, d1.2⟩; replace d2 : 0 ≤ y2 ∧ y2 ≤ m2 := ⟨d2.1 hlv, d2.2⟩; replace d3 : 0 ≤ y3 ∧ y3 ≤ m3 := ⟨d3.1 hlv, d3.2⟩; replace d4 : 0 ≤ y4 ∧ y4 ≤ m4 := ⟨d4.1 hlv, d4.2⟩; replace d5 : 0 ≤ y5 ∧ y5 ≤ m5 := ⟨d5.1 hlv, d5.2⟩; replace d6 : 0 ≤ y6 ∧ y6 ≤ m6 := ⟨d6.1 hlv, d6.2⟩
      try simp (disch := omega) only [wrap_i64]
      generalize min t (0 + m0 + m1 + m2 + m3 + m4 + m5 + m6 ) = mn at *
      repeat' (first | apply And.intro | intro _)
      all_goals first | trivial | omega
    · clear less2 d0 d1 d2 d3 d4 d5 d6
      try simp (disch := omega) only [wrap_i64]
      generalize min t (0 + m0 + m1 + m2 + m3 + m4 + m5 + m6 ) = mn at *
      repeat' (first | apply And.intro | intro _)
      all_goals first | trivial | omega
def vs8 : VT := (.ite (.cmp .neq (.app 182 [(.var 0)]) (.lit 0)) (.ite (.cmp .eql (.app 182 [(.var 0)]) (.lit 3)) (.leaf (.bool (.lit true))) (.leaf (.bool (.lit false)))) (.ite (.cmp .neq (.app 181 [(.var 0)]) (.lit 8)) (.leaf (.bool (.lit false))) (.ite (.cmp .lss (.app 1200 [(.app 180 [(.var 0)]), (.lit 0)]) (.lit 0)) (.leaf (.bool (.lit false))) (.ite (.cmp .gtr (.app 1200 [(.app 180 [(.var 0)]), (.lit 0)]) (.app 5000 [(.lit 0)])) (.leaf (.bool (.lit false))) (.ite (.cmp .lss (.app 1200 [(.app 180 [(.var 0)]), (.lit 1)]) (.lit 0)) (.leaf (.bool (.lit false))) (.ite (.cmp .gtr (.app 1200 [(.app 180 [(.var 0)]), (.lit 1)]) (.app 5000 [(.lit 1)])) (.leaf (.bool (.lit false))) (.ite (.cmp .lss (.app 1200 [(.app 180 [(.var 0)]), (.lit 2)]) (.lit 0)) (.leaf (.bool (.lit false))) (.ite (.cmp .gtr (.app 1200 [(.app 180 [(.var 0)]), (.lit 2)]) (.app 5000 [(.lit 2)])) (.leaf (.bool (.lit false))) (.ite (.cmp .lss (.app 1200 [(.app 180 [(.var 0)]), (.lit 3)]) (.lit 0)) (.leaf (.bool (.lit false))) (.ite (.cmp .gtr (.app 1200 [(.app 180 [(.var 0)]), (.lit 3)]) (.app 5000 [(.lit 3)])) (.leaf (.bool (.lit false))) (.ite (.cmp .lss (.app 1200 [(.app 180 [(.var 0)]), (.lit 4)]) (.lit 0)) (.leaf (.bool (.lit false))) (.ite (.cmp .gtr (.app 1200 [(.app 180 [(.var 0)]), (.lit 4)]) (.app 5000 [(.lit 4)])) (.leaf (.bool (.lit false))) (.ite (.cmp .lss (.app 1200 [(.app 180 [(.var 0)]), (.lit 5)]) (.lit 0)) (.leaf (.bool (.lit false))) (.ite (.cmp .gtr (.app 1200 [(.app 180 [(.var 0)]), (.lit 5)]) (.app 5000 [(.lit 5)])) (.leaf (.bool (.lit false))) (.ite (.cmp .lss (.app 1200 [(.app 180 [(.var 0)]), (.lit 6)]) (.lit 0)) (.leaf (.bool (.lit false))) (.ite (.cmp .gtr (.app 1200 [(.app 180 [(.var 0)]), (.lit 6)]) (.app 5000 [(.lit 6)])) (.leaf (.bool (.lit false))) (.ite (.cmp .lss (.app 1200 [(.app 180 [(.var 0)]), (.lit 7)]) (.lit 0)) (.leaf (.bool (.lit false))) (.ite (.cmp .gtr (.app 1200 [(.app 180 [(.var 0)]), (.lit 7)]) (.app 5000 [(.lit 7)])) (.leaf (.bool (.lit false))) (.ite (.cmp .neq (.bin .add .i64 (.bin .add .i64 (.bin .add .i64 (.bin .add .i64 (.bin .add .i64 (.bin .add .i64 (.bin .add .i64 (.op .add (.lit 0) (.app 1200 [(.app 180 [(.var 0)]), (.lit 0)])) (.app 1200 [(.app 180 [(.var 0)]), (.lit 1)])) (.app 1200 [(.app 180 [(.var 0)]), (.lit 2)])) (.app 1200 [(.app 180 [(.var 0)]), (.lit 3)])) (.app 1200 [(.app 180 [(.var 0)]), (.lit 4)])) (.app 1200 [(.app 180 [(.var 0)]), (.lit 5)])) (.app 1200 [(.app 180 [(.var 0)]), (.lit 6)])) (.app 1200 [(.app 180 [(.var 0)]), (.lit 7)])) (.op .mn (.var 0) (.bin .add .i64 (.bin .add .i64 (.bin .add .i64 (.bin .add .i64 (.bin .add .i64 (.bin .add .i64 (.bin .add .i64 (.op .add (.lit 0) (.app 5000 [(.lit 0)])) (.app 5000 [(.lit 1)])) (.app 5000 [(.lit 2)])) (.app 5000 [(.lit 3)])) (.app 5000 [(.lit 4)])) (.app 5000 [(.lit 5)])) (.app 5000 [(.lit 6)])) (.app 5000 [(.lit 7)])))) (.leaf (.bool (.lit false))) (.ite (.cmp .lss (.var 2) (.lit 0)) (.leaf (.bool (.lit true))) (.ite (.cmp .geq (.var 2) (.op .mx (.op .mx (.op .mx (.op .mx (.op .mx (.op .mx (.op .mx (.app 1200 [(.app 180 [(.var 0)]), (.lit 0)]) (.app 1200 [(.app 180 [(.var 0)]), (.lit 1)])) (.app 1200 [(.app 180 [(.var 0)]), (.lit 2)])) (.app 1200 [(.app 180 [(.var 0)]), (.lit 3)])) (.app 1200 [(.app 180 [(.var 0)]), (.lit 4)])) (.app 1200 [(.app 180 [(.var 0)]), (.lit 5)])) (.app 1200 [(.app 180 [(.var 0)]), (.lit 6)])) (.app 1200 [(.app 180 [(.var 0)]), (.lit 7)]))) (.leaf (.bool (.lit true))) (.ite (.cmp .lss (.bin .add .i64 (.bin .add .i64 (.bin .add .i64 (.bin .add .i64 (.bin .add .i64 (.bin .add .i64 (.bin .add .i64 (.op .add (.lit 0) (.op .mn (.app 5000 [(.lit 0)]) (.var 2))) (.op .mn (.app 5000 [(.lit 1)]) (.var 2))) (.op .mn (.app 5000 [(.lit 2)]) (.var 2))) (.op .mn (.app 5000 [(.lit 3)]) (.var 2))) (.op .mn (.app 5000 [(.lit 4)]) (.var 2))) (.op .mn (.app 5000 [(.lit 5)]) (.var 2))) (.op .mn (.app 5000 [(.lit 6)]) (.var 2))) (.op .mn (.app 5000 [(.lit 7)]) (.var 2))) (.bin .add .i64 (.bin .add .i64 (.bin .add .i64 (.bin .add .i64 (.bin .add .i64 (.bin .add .i64 (.bin .add .i64 (.op .add (.lit 0) (.app 1200 [(.app 180 [(.var 0)]), (.lit 0)])) (.app 1200 [(.app 180 [(.var 0)]), (.lit 1)])) (.app 1200 [(.app 180 [(.var 0)]), (.lit 2)])) (.app 1200 [(.app 180 [(.var 0)]), (.lit 3)])) (.app 1200 [(.app 180 [(.var 0)]), (.lit 4)])) (.app 1200 [(.app 180 [(.var 0)]), (.lit 5)])) (.app 1200 [(.app 180 [(.var 0)]), (.lit 6)])) (.app 1200 [(.app 180 [(.var 0)]), (.lit 7)]))) (.leaf (.bool (.lit true))) (.leaf (.bool (.lit false)))))))))))))))))))))))))
theorem main8 {fn : Nat → List Int → Int} (h : Good fn) (t ln lv : Int) : vs8.holds (envOf [t, ln, lv] fn) fun v => yes (envOf [t, ln, lv] fn) v := by
  simp only [vs8, VT.holds, yesLit, den_lit, den_var, den_ite, den_cmp, den_cmpB, den_tst, den_tstF, den_negT, den_negF, den_andT, den_andF, lssT, leqT, gtrT, geqT, eqlT, neqT, lssF, leqF, gtrF, geqF, eqlF, neqF, den_app, den_nilL, den_consL, den_add, den_sub, den_mul, den_tdiv, den_tmod, den_mx, den_mn, den_blit, den_bin, binI, env_v, env_f, List.flatten_cons, List.flatten_nil, List.append_nil, List.cons_append, List.nil_append, List.getD_cons_zero, List.getD_cons_succ, List.getD_nil]
  rcases sh_val h.l (K := 180) (n := 8) h.t8 t with e | ⟨e0, e1, x, hS, hx⟩
  · replace e : fn 182 [t] = 3 := e
    simp only [e]
    exact ⟨fun _ => ⟨fun _ => trivial, fun h => absurd rfl h⟩, fun h => absurd h (by decide)⟩
  · replace e0 : fn 182 [t] = 0 := e0
    replace e1 : fn 181 [t] = 8 := e1
    have g0 : fn 1200 [fn 180 [t], 0] = x 0 := hx 0 (by decide)
    have k0 : fn 5000 [0] = mOf fn 0 := rfl
    have b0 := hS.x0 0 (by decide)
    have c0 := hS.m0 0 (by decide)
    have g1 : fn 1200 [fn 180 [t], 1] = x 1 := hx 1 (by decide)
    have k1 : fn 5000 [1] = mOf fn 1 := rfl
    have b1 := hS.x0 1 (by decide)
    have c1 := hS.m0 1 (by decide)
    have g2 : fn 1200 [fn 180 [t], 2] = x 2 := hx 2 (by decide)
    have k2 : fn 5000 [2] = mOf fn 2 := rfl
    have b2 := hS.x0 2 (by decide)
    have c2 := hS.m0 2 (by decide)
    have g3 : fn 1200 [fn 180 [t], 3] = x 3 := hx 3 (by decide)
    have k3 : fn 5000 [3] = mOf fn 3 := rfl
    have b3 := hS.x0 3 (by decide)
    have c3 := hS.m0 3 (by decide)
    have g4 : fn 1200 [fn 180 [t], 4] = x 4 := hx 4 (by decide)
    have k4 : fn 5000 [4] = mOf fn 4 := rfl
    have b4 := hS.x0 4 (by decide)
    have c4 := hS.m0 4 (by decide)
    have g5 : fn 1200 [fn 180 [t], 5] = x 5 := hx 5 (by decide)
    have k5 : fn 5000 [5] = mOf fn 5 := rfl
    have b5 := hS.x0 5 (by decide)
    have c5 := hS.m0 5 (by decide)
    have g6 : fn 1200 [fn 180 [t], 6] = x 6 := hx 6 (by decide)
    have k6 : fn 5000 [6] = mOf fn 6 := rfl
    have b6 := hS.x0 6 (by decide)
    have c6 := hS.m0 6 (by decide)
    have g7 : fn 1200 [fn 180 [t], 7] = x 7 := hx 7 (by decide)
    have k7 : fn 5000 [7] = mOf fn 7 := rfl
    have b7 := hS.x0 7 (by decide)
    have c7 := hS.m0 7 (by decide)
    have less : ∀ z : Int, z < x 0 ∨ z < x 1 ∨ z < x 2 ∨ z < x 3 ∨ z < x 4 ∨ z < x 5 ∨ z < x 6 ∨ z < x 7 → sumF (fun i => min (mOf fn i) z) 8 < sumF x 8 := fun z hz => share_less hS (by
      rcases hz with hz | hz | hz | hz | hz | hz | hz | hz
      · exact ⟨0, by decide, hz⟩
      · exact ⟨1, by decide, hz⟩
      · exact ⟨2, by decide, hz⟩
      · exact ⟨3, by decide, hz⟩
      · exact ⟨4, by decide, hz⟩
      · exact ⟨5, by decide, hz⟩
      · exact ⟨6, by decide, hz⟩
      · exact ⟨7, by decide, hz⟩
    )
    have sm := hS.sum
    have less := less lv
    simp only [sumF] at sm less
    simp only [e0, e1, g0, k0, g1, k1, g2, k2, g3, k3, g4, k4, g5, k5, g6, k6, g7, k7]
    clear hx hS g0 k0 g1 k1 g2 k2 g3 k3 g4 k4 g5 k5 g6 k6 g7 k7 e0 e1
    generalize x 0 = x0 at *
    generalize mOf fn 0 = m0 at *
    generalize x 1 = x1 at *
    generalize mOf fn 1 = m1 at *
    generalize x 2 = x2 at *
    generalize mOf fn 2 = m2 at *
    generalize x 3 = x3 at *
    generalize mOf fn 3 = m3 at *
    generalize x 4 = x4 at *
    generalize mOf fn 4 = m4 at *
    generalize x 5 = x5 at *
    generalize mOf fn 5 = m5 at *
    generalize x 6 = x6 at *
    generalize mOf fn 6 = m6 at *
    generalize x 7 = x7 at *
    generalize mOf fn 7 = m7 at *
    have less2 := fun (z : lv < (max (max (max (max (max (max (max x0 x1) x2) x3) x4) x5) x6) x7)) => less (mx8 z)
    clear less
    have d : ∀ m, 0 ≤ m → (0 ≤ lv → 0 ≤ min m lv) ∧ min m lv ≤ m := fun m hm => by omega
    have d0 := d m0 c0.1
    generalize min m0 lv = y0 at *
    have d1 := d m1 c1.1
    generalize min m1 lv = y1 at *
    have d2 := d m2 c2.1
    generalize min m2 lv = y2 at *
    have d3 := d m3 c3.1
    generalize min m3 lv = y3 at *
    have d4 := d m4 c4.1
    generalize min m4 lv = y4 at *
    have d5 := d m5 c5.1
    generalize min m5 lv = y5 at *
    have d6 := d m6 c6.1
    generalize min m6 lv = y6 at *
    have d7 := d m7 c7.1
    generalize min m7 lv = y7 at *
    generalize max (max (max (max (max (max (max x0 x1) x2) x3) x4) x5) x6) x7 = mx at *
    clear d
    refine ⟨fun h => absurd rfl h, fun _ => ⟨fun h => absurd rfl h, fun _ => ?_⟩⟩
    by_cases hlv : 0 ≤ lv
    · replace d0 : 0 ≤ y0 ∧ y0 ≤ m0 := ⟨d0.1 hlv, d0.2⟩; replace d1 : 0 ≤ y1 ∧ y1 ≤ m1 := ⟨d1.1 hlv, d1.2⟩; replace d2 : 0 ≤ y2 ∧ y2 ≤ m2 := ⟨d2.1 hlv, d2.2⟩; replace d3 : 0 ≤ y3 ∧ y3 ≤ m3 := ⟨d3.1 hlv, d3.2⟩; replace d4 : 0 ≤ y4 ∧ y4 ≤ m4 := ⟨d4.1 hlv, d4.2⟩; replace d5 : 0 ≤ y5 ∧ y5 ≤ m5 := ⟨d5.1 hlv, d5.2⟩; replace d6 : 0 ≤ y6 ∧ y6 ≤ m6 := ⟨d6.1 hlv, d6.2⟩; replace d7 : 0 ≤ y7 ∧ y7 ≤ m7 := ⟨d7.1 hlv, d7.2⟩
      try simp (disch := omega) only [wrap_i64]
      generalize min t (0 + m0 + m1 + m2 + m3 + m4 + m5 + m6 + m7 ) = mn at *
      repeat' (first | apply And.intro | intro _)
      all_goals first | trivial | omega
    · clear less2 d0 d1 d2 d3 d4 d5 d6 d7
      try simp (disch := omega) only [wrap_i64]
      generalize min t (0 + m0 + m1 + m2 + m3 + m4 + m5 + m6 + m7 ) = mn at *
      repeat' (first | apply And.intro | intro _)
      all_goals first | trivial | omega
end Go.Proofs.Ytpedboeggmffnaa
