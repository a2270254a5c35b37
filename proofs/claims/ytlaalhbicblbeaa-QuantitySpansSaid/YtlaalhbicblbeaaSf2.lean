/- The reference's Square and Div return what the program's do: plain arithmetic, and their contracts. -/
import Derived.Test.YtlaalhbicblbeaaSfc
namespace Go.Proofs.Ytlaalhbicblbeaa
open Go Go.SX Go.RowKit
set_option linter.unusedVariables false
set_option linter.unusedSimpArgs false
namespace QM
theorem dn_flip {x n d : Int} (hd : d < 0) : dn x n d = dn (-x) n (-d) := by
  unfold dn
  rw [Int.natAbs_neg, Int.natAbs_neg]
  have h1 : decide (d < 0) = true := by simp; omega
  have h2 : decide (-d < 0) = false := by simp; omega
  rw [h1, h2]
  by_cases h0 : x = 0
  · subst h0
    have e1 : wq ((0 : Int).natAbs : Int) (n.natAbs : Int) (d.natAbs : Int) = 0 := by unfold wq; simp
    have e2 : wr ((0 : Int).natAbs : Int) (n.natAbs : Int) (d.natAbs : Int) = 0 := by unfold wr; simp
    rw [e1, e2]
    simp
  · have h3 : decide (-x < 0) = !decide (x < 0) := by
      rw [Bool.eq_iff_iff]; simp; omega
    rw [h3]
    cases decide (x < 0) <;> cases decide (n < 0) <;> simp
theorem Cl_far {x : Int} (h : -1152921504606846977 ≤ x ∧ x ≤ 1152921504606846977) : Cl (min 1152921504606846976 x) x := by unfold Cl; omega
theorem Cl_near {x : Int} (h : -1152921504606846977 ≤ x ∧ x ≤ 1152921504606846977) : Cl (max (-1152921504606846976) x) x := by unfold Cl; omega
theorem F_dn {x n d : Int} (hd : 0 < d) : Cl (vF x n d) (dn x n d) := (vF_cl hd).trans (dn_cl hd).symm
theorem C_up {x n d : Int} (hd : 0 < d) : Cl (vC x n d) (-dn (-x) n d) := (vC_cl hd).trans (up_cl hd).symm
end QM
def rdv (al ah bl bh n : Int) : Int × Int × Int := QM.sp (min (min (min (min 1152921504606846976 (QM.dn al n bl)) (QM.dn al n bh)) (QM.dn ah n bl)) (QM.dn ah n bh)) (max (max (max (max (-1152921504606846976) (-QM.dn (-al) n bl)) (-QM.dn (-al) n bh)) (-QM.dn (-ah) n bl)) (-QM.dn (-ah) n bh))
theorem rdv_pos {al ah bl bh n : Int} (h1 : 0 < bl) (h2 : 0 < bh) : divQ al ah bl bh n = rdv al ah bl bh n := by
  unfold divQ rdv loF hiF
  simp only [List.foldl_cons, List.foldl_nil]
  have g : ∀ x, -1152921504606846977 ≤ -QM.dn (-x) n bl ∧ -QM.dn (-x) n bl ≤ 1152921504606846977 := fun x => by
    have := QM.dn_bd (x := -x) (n := n) (d := bl) (by omega); omega
  refine QM.Cl.sp ?_ ?_
  · exact (((((QM.F_dn h1).trans (QM.Cl_far (QM.dn_bd (by omega))).symm).min (QM.F_dn h2)).min (QM.F_dn h1)).min (QM.F_dn h2))
  · exact (((((QM.C_up h1).trans (QM.Cl_near (g al)).symm).max (QM.C_up h2)).max (QM.C_up h1)).max (QM.C_up h2))
theorem divQ_rev (al ah bl bh n : Int) : divQ (-ah) (-al) (-bh) (-bl) n = QM.sp (loF (QM.vF (-al) n (-bl)) [(-al, n, -bh), (-ah, n, -bl), (-ah, n, -bh)]) (hiF (QM.vC (-al) n (-bl)) [(-al, n, -bh), (-ah, n, -bl), (-ah, n, -bh)]) := by
  unfold divQ loF hiF
  simp only [List.foldl_cons, List.foldl_nil]
  generalize QM.vF (-al) n (-bl) = a
  generalize QM.vF (-al) n (-bh) = b
  generalize QM.vF (-ah) n (-bl) = c
  generalize QM.vF (-ah) n (-bh) = d
  generalize QM.vC (-al) n (-bl) = a'
  generalize QM.vC (-al) n (-bh) = b'
  generalize QM.vC (-ah) n (-bl) = c'
  generalize QM.vC (-ah) n (-bh) = d'
  rw [show min (min (min d c) b) a = min (min (min a b) c) d by omega, show max (max (max d' c') b') a' = max (max (max a' b') c') d' by omega]
theorem rdv_neg {al ah bl bh n : Int} (h1 : bl < 0) (h2 : bh < 0) : divQ (-ah) (-al) (-bh) (-bl) n = rdv al ah bl bh n := by
  have := rdv_pos (al := -al) (ah := -ah) (bl := -bl) (bh := -bh) (n := n) (by omega) (by omega)
  rw [divQ_rev]
  unfold divQ at this
  rw [this]
  unfold rdv
  rw [QM.dn_flip (x := al) h1, QM.dn_flip (x := al) h2, QM.dn_flip (x := ah) h1, QM.dn_flip (x := ah) h2, QM.dn_flip (x := -al) h1, QM.dn_flip (x := -al) h2, QM.dn_flip (x := -ah) h1, QM.dn_flip (x := -ah) h2]
def divRP (al ah bl bh n : Int) : Int × Int × Int := if (QM.vld al ah = true ∧ QM.vld bl bh = true) ∧ QM.isQ n = true then (if bl ≤ 0 ∧ 0 ≤ bh then (0, 0, 9) else rdv al ah bl bh n) else (0, 0, 2)
theorem div_eq (al ah bl bh n : Int) : divP al ah bl bh n = divRP al ah bl bh n := by
  unfold divP divRP allV
  simp only [List.all_cons, List.all_nil, Bool.and_true, Bool.and_eq_true, decide_eq_true_eq]
  by_cases h : (QM.vld al ah = true ∧ QM.vld bl bh = true) ∧ QM.isQ n = true
  · rw [if_pos h, if_pos h]
    have hb := QM.vld_iff.1 h.1.2
    by_cases h2 : bl ≤ 0 ∧ 0 ≤ bh
    · rw [if_pos h2, if_pos h2]
    · rw [if_neg h2, if_neg h2]
      by_cases h3 : bh < 0
      · rw [if_pos h3]; exact rdv_neg (by omega) h3
      · rw [if_neg h3]; exact rdv_pos (by omega) (by omega)
  · rw [if_neg h, if_neg h]
def sqRP (lo hi d : Int) : Int × Int × Int := if QM.vld lo hi = true ∧ QM.isD d = true then QM.sp (if lo ≤ 0 ∧ 0 ≤ hi then 0 else min (QM.dn lo lo d) (QM.dn hi hi d)) (max (-QM.dn (-lo) lo d) (-QM.dn (-hi) hi d)) else (0, 0, 2)
theorem square_eq (lo hi d : Int) : squareP lo hi d = sqRP lo hi d := by
  by_cases h : QM.vld lo hi = true ∧ QM.isD d = true
  · rw [sq_eq h.1 h.2]
    unfold sqRP rsqP QM.up
    rw [if_pos h]
    simp only [Bool.and_eq_true, decide_eq_true_eq]
  · unfold squareP sqRP
    rw [if_neg h, if_neg h]

theorem sfn_dn (a b d : Int) : sfn 3 [a, b, d] = QM.dn a b d := rfl
theorem sfn_sq0 (a b c : Int) : sfn 180 [a, b, c] = (squareP a b c).1 := rfl
theorem sfn_sq1 (a b c : Int) : sfn 181 [a, b, c] = (squareP a b c).2.1 := rfl
theorem sfn_sq2 (a b c : Int) : sfn 182 [a, b, c] = (squareP a b c).2.2 := rfl
theorem sfn_dv0 (a b c d e : Int) : sfn 130 [a, b, c, d, e] = (divP a b c d e).1 := rfl
theorem sfn_dv1 (a b c d e : Int) : sfn 131 [a, b, c, d, e] = (divP a b c d e).2.1 := rfl
theorem sfn_dv2 (a b c d e : Int) : sfn 132 [a, b, c, d, e] = (divP a b c d e).2.2 := rfl
theorem noPar_ok (fn : Nat → List Int → Int) : ParOK Try.prog fn noPar := ⟨fun env _ => noBook_ok _ _, fun env _ f i g h => by cases h⟩
def dnPar : Par := downFC.par noPar
theorem dnPar_ok : ParOK Try.prog sfn dnPar := FC.parOK (downFC_ok fun _ _ _ => rfl) rfl (noPar_ok sfn)
theorem leaf_sp {env : Env} {e1 e2 e3 a1 a2 a3 : E} (h1 : e1.den env = a1.den env) (h2 : e2.den env = a2.den env) (h3 : e3.den env = a3.den env) : ∀ ρ ρ' V, Rep env ρ (.tuple [.agg [.int .i64 e1, .int .i64 e2], .int .i64 e3]) V → Rep env ρ' (.tuple [.agg [.int .i64 a1, .int .i64 a2], .int .i64 a3]) V := by
  rintro ρ ρ' V ⟨vs, ⟨v, r, ⟨us, ⟨u1, q1, f1, ⟨u2, q2, f2, f3, rfl⟩, rfl⟩, rfl⟩, ⟨u3, q3, g1, g2, rfl⟩, rfl⟩, rfl⟩
  refine ⟨_, ⟨_, _, ⟨_, ⟨u1, _, ?_, ⟨u2, _, ?_, f3, rfl⟩, rfl⟩, rfl⟩, ⟨u3, _, ?_, g2, rfl⟩, rfl⟩, rfl⟩
  · rw [show u1 = _ from f1, h1]; rfl
  · rw [show u2 = _ from f2, h2]; rfl
  · rw [show u3 = _ from g1, h3]; rfl
/-- each way of a tree leads to a result with these numbers -/
def spHolds (env : Env) (a1 a2 a3 : E) : VT → Prop
  | .leaf (.tuple [.agg [.int .i64 e1, .int .i64 e2], .int .i64 e3]) => e1.den env = a1.den env ∧ e2.den env = a2.den env ∧ e3.den env = a3.den env
  | .ite c t e => (c.den env = true → spHolds env a1 a2 a3 t) ∧ (c.den env = false → spHolds env a1 a2 a3 e)
  | _ => False
theorem spHolds_ok {env : Env} {a1 a2 a3 : E} : ∀ {t : VT}, spHolds env a1 a2 a3 t → t.holds env fun u => ∀ ρ ρ' V, Rep env ρ u V → Rep env ρ' (.tuple [.agg [.int .i64 a1, .int .i64 a2], .int .i64 a3]) V
  | .ite c t e, h => ⟨fun hc => spHolds_ok (h.1 hc), fun hc => spHolds_ok (h.2 hc)⟩
  | .leaf u, h => by
      unfold spHolds at h
      split at h
      · rename_i e1 e2 e3 heq
        cases heq
        exact leaf_sp h.1 h.2.1 h.2.2
      · rename_i heq; cases heq
      · cases h
  | .need c t, h => by cases h
  | .fail, h => by cases h
def squareVT : VT := (.ite (.cmp .geq (.var 0) (.lit (-1099511627776))) (.ite (.cmp .leq (.var 0) (.lit 1099511627776)) (.ite (.cmp .geq (.var 1) (.lit (-1099511627776))) (.ite (.cmp .leq (.var 1) (.lit 1099511627776)) (.ite (.neg (.cmp .leq (.var 0) (.var 1))) (.leaf (.tuple [(.agg [(.int .i64 (.lit 0)), (.int .i64 (.lit 0))]), (.int .i64 (.lit 2))])) (.ite (.cmp .geq (.var 2) (.lit 1)) (.ite (.neg (.cmp .leq (.var 2) (.lit 1099511627776))) (.leaf (.tuple [(.agg [(.int .i64 (.lit 0)), (.int .i64 (.lit 0))]), (.int .i64 (.lit 2))])) (.ite (.cmp .leq (.var 0) (.lit 0)) (.ite (.cmp .geq (.var 1) (.lit 0)) (.ite (.cmp .geq (.op .mx (.op .sub (.lit 0) (.app 3 [(.op .sub (.lit 0) (.var 0)), (.var 0), (.var 2)])) (.op .sub (.lit 0) (.app 3 [(.op .sub (.lit 0) (.var 1)), (.var 1), (.var 2)]))) (.lit (-1099511627776))) (.ite (.neg (.cmp .leq (.op .mx (.op .sub (.lit 0) (.app 3 [(.op .sub (.lit 0) (.var 0)), (.var 0), (.var 2)])) (.op .sub (.lit 0) (.app 3 [(.op .sub (.lit 0) (.var 1)), (.var 1), (.var 2)]))) (.lit 1099511627776))) (.leaf (.tuple [(.agg [(.int .i64 (.lit 0)), (.int .i64 (.lit 0))]), (.int .i64 (.lit 4))])) (.leaf (.tuple [(.agg [(.int .i64 (.lit 0)), (.int .i64 (.op .mx (.op .sub (.lit 0) (.app 3 [(.op .sub (.lit 0) (.var 0)), (.var 0), (.var 2)])) (.op .sub (.lit 0) (.app 3 [(.op .sub (.lit 0) (.var 1)), (.var 1), (.var 2)]))))]), (.int .i64 (.lit 0))]))) (.leaf (.tuple [(.agg [(.int .i64 (.lit 0)), (.int .i64 (.lit 0))]), (.int .i64 (.lit 4))]))) (.ite (.cmp .geq (.op .mn (.app 3 [(.var 0), (.var 0), (.var 2)]) (.app 3 [(.var 1), (.var 1), (.var 2)])) (.lit (-1099511627776))) (.ite (.neg (.cmp .leq (.op .mn (.app 3 [(.var 0), (.var 0), (.var 2)]) (.app 3 [(.var 1), (.var 1), (.var 2)])) (.lit 1099511627776))) (.leaf (.tuple [(.agg [(.int .i64 (.lit 0)), (.int .i64 (.lit 0))]), (.int .i64 (.lit 4))])) (.ite (.cmp .geq (.op .mx (.op .sub (.lit 0) (.app 3 [(.op .sub (.lit 0) (.var 0)), (.var 0), (.var 2)])) (.op .sub (.lit 0) (.app 3 [(.op .sub (.lit 0) (.var 1)), (.var 1), (.var 2)]))) (.lit (-1099511627776))) (.ite (.neg (.cmp .leq (.op .mx (.op .sub (.lit 0) (.app 3 [(.op .sub (.lit 0) (.var 0)), (.var 0), (.var 2)])) (.op .sub (.lit 0) (.app 3 [(.op .sub (.lit 0) (.var 1)), (.var 1), (.var 2)]))) (.lit 1099511627776))) (.leaf (.tuple [(.agg [(.int .i64 (.lit 0)), (.int .i64 (.lit 0))]), (.int .i64 (.lit 4))])) (.leaf (.tuple [(.agg [(.int .i64 (.op .mn (.app 3 [(.var 0), (.var 0), (.var 2)]) (.app 3 [(.var 1), (.var 1), (.var 2)]))), (.int .i64 (.op .mx (.op .sub (.lit 0) (.app 3 [(.op .sub (.lit 0) (.var 0)), (.var 0), (.var 2)])) (.op .sub (.lit 0) (.app 3 [(.op .sub (.lit 0) (.var 1)), (.var 1), (.var 2)]))))]), (.int .i64 (.lit 0))]))) (.leaf (.tuple [(.agg [(.int .i64 (.lit 0)), (.int .i64 (.lit 0))]), (.int .i64 (.lit 4))])))) (.leaf (.tuple [(.agg [(.int .i64 (.lit 0)), (.int .i64 (.lit 0))]), (.int .i64 (.lit 4))])))) (.ite (.cmp .geq (.op .mn (.app 3 [(.var 0), (.var 0), (.var 2)]) (.app 3 [(.var 1), (.var 1), (.var 2)])) (.lit (-1099511627776))) (.ite (.neg (.cmp .leq (.op .mn (.app 3 [(.var 0), (.var 0), (.var 2)]) (.app 3 [(.var 1), (.var 1), (.var 2)])) (.lit 1099511627776))) (.leaf (.tuple [(.agg [(.int .i64 (.lit 0)), (.int .i64 (.lit 0))]), (.int .i64 (.lit 4))])) (.ite (.cmp .geq (.op .mx (.op .sub (.lit 0) (.app 3 [(.op .sub (.lit 0) (.var 0)), (.var 0), (.var 2)])) (.op .sub (.lit 0) (.app 3 [(.op .sub (.lit 0) (.var 1)), (.var 1), (.var 2)]))) (.lit (-1099511627776))) (.ite (.neg (.cmp .leq (.op .mx (.op .sub (.lit 0) (.app 3 [(.op .sub (.lit 0) (.var 0)), (.var 0), (.var 2)])) (.op .sub (.lit 0) (.app 3 [(.op .sub (.lit 0) (.var 1)), (.var 1), (.var 2)]))) (.lit 1099511627776))) (.leaf (.tuple [(.agg [(.int .i64 (.lit 0)), (.int .i64 (.lit 0))]), (.int .i64 (.lit 4))])) (.leaf (.tuple [(.agg [(.int .i64 (.op .mn (.app 3 [(.var 0), (.var 0), (.var 2)]) (.app 3 [(.var 1), (.var 1), (.var 2)]))), (.int .i64 (.op .mx (.op .sub (.lit 0) (.app 3 [(.op .sub (.lit 0) (.var 0)), (.var 0), (.var 2)])) (.op .sub (.lit 0) (.app 3 [(.op .sub (.lit 0) (.var 1)), (.var 1), (.var 2)]))))]), (.int .i64 (.lit 0))]))) (.leaf (.tuple [(.agg [(.int .i64 (.lit 0)), (.int .i64 (.lit 0))]), (.int .i64 (.lit 4))])))) (.leaf (.tuple [(.agg [(.int .i64 (.lit 0)), (.int .i64 (.lit 0))]), (.int .i64 (.lit 4))]))))) (.leaf (.tuple [(.agg [(.int .i64 (.lit 0)), (.int .i64 (.lit 0))]), (.int .i64 (.lit 2))])))) (.leaf (.tuple [(.agg [(.int .i64 (.lit 0)), (.int .i64 (.lit 0))]), (.int .i64 (.lit 2))]))) (.leaf (.tuple [(.agg [(.int .i64 (.lit 0)), (.int .i64 (.lit 0))]), (.int .i64 (.lit 2))]))) (.leaf (.tuple [(.agg [(.int .i64 (.lit 0)), (.int .i64 (.lit 0))]), (.int .i64 (.lit 2))]))) (.leaf (.tuple [(.agg [(.int .i64 (.lit 0)), (.int .i64 (.lit 0))]), (.int .i64 (.lit 2))])))
def squareRFC : FC := ⟨91, [(true, [some .i64, some .i64]), (false, [some .i64])], squareV, [], [], []⟩
theorem square_un (a b c : Int) : squareP a b c = sqRP a b c := square_eq a b c
set_option maxRecDepth 100000 in
set_option maxHeartbeats 4000000 in
theorem squareRFC_ok : squareRFC.OK Try.prog sfn := by
  refine FC.ok_run (X := dnPar) (d := 5) (n := 100000) (t := squareVT) mixedS dnPar_ok rfl (by kernel_rfl) (by kernel_rfl) fun r hr _ => ?_
  obtain ⟨xs0, r0, rfl, hw0, _, xs1, r1, rfl, hw1, _, er⟩ := hr
  obtain ⟨a, b, rfl⟩ := wl2 hw0
  obtain ⟨c, rfl⟩ := wl1 hw1
  rw [show r1 = [] from er]
  refine ⟨fun be hm => by simp [squareRFC] at hm, fun e0 lo hi hm => by simp [squareRFC] at hm, ?_⟩
  refine spHolds_ok ?_
  clear hw0 hw1
  simp only [squareVT, spHolds, den_ite, den_tst, den_tstF, den_cmp, den_cmpB, den_negT, den_negF, den_andT, den_andF, lssT, leqT, gtrT, geqT, eqlT, neqT, lssF, leqF, gtrF, geqF, eqlF, neqF, den_lit, den_var, den_app, den_nilL, den_consL, den_add, den_sub, den_mx, den_mn, env_v, env_f, List.flatten_cons, List.flatten_nil, List.append_nil, List.cons_append, List.nil_append, List.getD_cons_zero, List.getD_cons_succ, sfn_dn, sfn_sq0, sfn_sq1, sfn_sq2, sfn_dv0, sfn_dv1, sfn_dv2, square_un, sqRP, QM.sp, QM.vld, QM.isQ, QM.isD, rdv, Bool.and_eq_true, decide_eq_true_eq, Int.zero_sub]
  repeat' (first | apply And.intro | intro _)
  all_goals grind
def divVT : VT := (.ite (.cmp .geq (.var 0) (.lit (-1099511627776))) (.ite (.cmp .leq (.var 0) (.lit 1099511627776)) (.ite (.cmp .geq (.var 1) (.lit (-1099511627776))) (.ite (.cmp .leq (.var 1) (.lit 1099511627776)) (.ite (.neg (.cmp .leq (.var 0) (.var 1))) (.leaf (.tuple [(.agg [(.int .i64 (.lit 0)), (.int .i64 (.lit 0))]), (.int .i64 (.lit 2))])) (.ite (.cmp .geq (.var 2) (.lit (-1099511627776))) (.ite (.cmp .leq (.var 2) (.lit 1099511627776)) (.ite (.cmp .geq (.var 3) (.lit (-1099511627776))) (.ite (.cmp .leq (.var 3) (.lit 1099511627776)) (.ite (.neg (.cmp .leq (.var 2) (.var 3))) (.leaf (.tuple [(.agg [(.int .i64 (.lit 0)), (.int .i64 (.lit 0))]), (.int .i64 (.lit 2))])) (.ite (.cmp .geq (.var 4) (.lit (-1099511627776))) (.ite (.neg (.cmp .leq (.var 4) (.lit 1099511627776))) (.leaf (.tuple [(.agg [(.int .i64 (.lit 0)), (.int .i64 (.lit 0))]), (.int .i64 (.lit 2))])) (.ite (.cmp .leq (.var 2) (.lit 0)) (.ite (.cmp .geq (.var 3) (.lit 0)) (.leaf (.tuple [(.agg [(.int .i64 (.lit 0)), (.int .i64 (.lit 0))]), (.int .i64 (.lit 9))])) (.ite (.cmp .geq (.op .mn (.op .mn (.op .mn (.op .mn (.lit 1152921504606846976) (.app 3 [(.var 0), (.var 4), (.var 2)])) (.app 3 [(.var 0), (.var 4), (.var 3)])) (.app 3 [(.var 1), (.var 4), (.var 2)])) (.app 3 [(.var 1), (.var 4), (.var 3)])) (.lit (-1099511627776))) (.ite (.neg (.cmp .leq (.op .mn (.op .mn (.op .mn (.op .mn (.lit 1152921504606846976) (.app 3 [(.var 0), (.var 4), (.var 2)])) (.app 3 [(.var 0), (.var 4), (.var 3)])) (.app 3 [(.var 1), (.var 4), (.var 2)])) (.app 3 [(.var 1), (.var 4), (.var 3)])) (.lit 1099511627776))) (.leaf (.tuple [(.agg [(.int .i64 (.lit 0)), (.int .i64 (.lit 0))]), (.int .i64 (.lit 4))])) (.ite (.cmp .geq (.op .mx (.op .mx (.op .mx (.op .mx (.lit (-1152921504606846976)) (.op .sub (.lit 0) (.app 3 [(.op .sub (.lit 0) (.var 0)), (.var 4), (.var 2)]))) (.op .sub (.lit 0) (.app 3 [(.op .sub (.lit 0) (.var 0)), (.var 4), (.var 3)]))) (.op .sub (.lit 0) (.app 3 [(.op .sub (.lit 0) (.var 1)), (.var 4), (.var 2)]))) (.op .sub (.lit 0) (.app 3 [(.op .sub (.lit 0) (.var 1)), (.var 4), (.var 3)]))) (.lit (-1099511627776))) (.ite (.neg (.cmp .leq (.op .mx (.op .mx (.op .mx (.op .mx (.lit (-1152921504606846976)) (.op .sub (.lit 0) (.app 3 [(.op .sub (.lit 0) (.var 0)), (.var 4), (.var 2)]))) (.op .sub (.lit 0) (.app 3 [(.op .sub (.lit 0) (.var 0)), (.var 4), (.var 3)]))) (.op .sub (.lit 0) (.app 3 [(.op .sub (.lit 0) (.var 1)), (.var 4), (.var 2)]))) (.op .sub (.lit 0) (.app 3 [(.op .sub (.lit 0) (.var 1)), (.var 4), (.var 3)]))) (.lit 1099511627776))) (.leaf (.tuple [(.agg [(.int .i64 (.lit 0)), (.int .i64 (.lit 0))]), (.int .i64 (.lit 4))])) (.leaf (.tuple [(.agg [(.int .i64 (.op .mn (.op .mn (.op .mn (.op .mn (.lit 1152921504606846976) (.app 3 [(.var 0), (.var 4), (.var 2)])) (.app 3 [(.var 0), (.var 4), (.var 3)])) (.app 3 [(.var 1), (.var 4), (.var 2)])) (.app 3 [(.var 1), (.var 4), (.var 3)]))), (.int .i64 (.op .mx (.op .mx (.op .mx (.op .mx (.lit (-1152921504606846976)) (.op .sub (.lit 0) (.app 3 [(.op .sub (.lit 0) (.var 0)), (.var 4), (.var 2)]))) (.op .sub (.lit 0) (.app 3 [(.op .sub (.lit 0) (.var 0)), (.var 4), (.var 3)]))) (.op .sub (.lit 0) (.app 3 [(.op .sub (.lit 0) (.var 1)), (.var 4), (.var 2)]))) (.op .sub (.lit 0) (.app 3 [(.op .sub (.lit 0) (.var 1)), (.var 4), (.var 3)]))))]), (.int .i64 (.lit 0))]))) (.leaf (.tuple [(.agg [(.int .i64 (.lit 0)), (.int .i64 (.lit 0))]), (.int .i64 (.lit 4))])))) (.leaf (.tuple [(.agg [(.int .i64 (.lit 0)), (.int .i64 (.lit 0))]), (.int .i64 (.lit 4))])))) (.ite (.cmp .geq (.op .mn (.op .mn (.op .mn (.op .mn (.lit 1152921504606846976) (.app 3 [(.var 0), (.var 4), (.var 2)])) (.app 3 [(.var 0), (.var 4), (.var 3)])) (.app 3 [(.var 1), (.var 4), (.var 2)])) (.app 3 [(.var 1), (.var 4), (.var 3)])) (.lit (-1099511627776))) (.ite (.neg (.cmp .leq (.op .mn (.op .mn (.op .mn (.op .mn (.lit 1152921504606846976) (.app 3 [(.var 0), (.var 4), (.var 2)])) (.app 3 [(.var 0), (.var 4), (.var 3)])) (.app 3 [(.var 1), (.var 4), (.var 2)])) (.app 3 [(.var 1), (.var 4), (.var 3)])) (.lit 1099511627776))) (.leaf (.tuple [(.agg [(.int .i64 (.lit 0)), (.int .i64 (.lit 0))]), (.int .i64 (.lit 4))])) (.ite (.cmp .geq (.op .mx (.op .mx (.op .mx (.op .mx (.lit (-1152921504606846976)) (.op .sub (.lit 0) (.app 3 [(.op .sub (.lit 0) (.var 0)), (.var 4), (.var 2)]))) (.op .sub (.lit 0) (.app 3 [(.op .sub (.lit 0) (.var 0)), (.var 4), (.var 3)]))) (.op .sub (.lit 0) (.app 3 [(.op .sub (.lit 0) (.var 1)), (.var 4), (.var 2)]))) (.op .sub (.lit 0) (.app 3 [(.op .sub (.lit 0) (.var 1)), (.var 4), (.var 3)]))) (.lit (-1099511627776))) (.ite (.neg (.cmp .leq (.op .mx (.op .mx (.op .mx (.op .mx (.lit (-1152921504606846976)) (.op .sub (.lit 0) (.app 3 [(.op .sub (.lit 0) (.var 0)), (.var 4), (.var 2)]))) (.op .sub (.lit 0) (.app 3 [(.op .sub (.lit 0) (.var 0)), (.var 4), (.var 3)]))) (.op .sub (.lit 0) (.app 3 [(.op .sub (.lit 0) (.var 1)), (.var 4), (.var 2)]))) (.op .sub (.lit 0) (.app 3 [(.op .sub (.lit 0) (.var 1)), (.var 4), (.var 3)]))) (.lit 1099511627776))) (.leaf (.tuple [(.agg [(.int .i64 (.lit 0)), (.int .i64 (.lit 0))]), (.int .i64 (.lit 4))])) (.leaf (.tuple [(.agg [(.int .i64 (.op .mn (.op .mn (.op .mn (.op .mn (.lit 1152921504606846976) (.app 3 [(.var 0), (.var 4), (.var 2)])) (.app 3 [(.var 0), (.var 4), (.var 3)])) (.app 3 [(.var 1), (.var 4), (.var 2)])) (.app 3 [(.var 1), (.var 4), (.var 3)]))), (.int .i64 (.op .mx (.op .mx (.op .mx (.op .mx (.lit (-1152921504606846976)) (.op .sub (.lit 0) (.app 3 [(.op .sub (.lit 0) (.var 0)), (.var 4), (.var 2)]))) (.op .sub (.lit 0) (.app 3 [(.op .sub (.lit 0) (.var 0)), (.var 4), (.var 3)]))) (.op .sub (.lit 0) (.app 3 [(.op .sub (.lit 0) (.var 1)), (.var 4), (.var 2)]))) (.op .sub (.lit 0) (.app 3 [(.op .sub (.lit 0) (.var 1)), (.var 4), (.var 3)]))))]), (.int .i64 (.lit 0))]))) (.leaf (.tuple [(.agg [(.int .i64 (.lit 0)), (.int .i64 (.lit 0))]), (.int .i64 (.lit 4))])))) (.leaf (.tuple [(.agg [(.int .i64 (.lit 0)), (.int .i64 (.lit 0))]), (.int .i64 (.lit 4))]))))) (.leaf (.tuple [(.agg [(.int .i64 (.lit 0)), (.int .i64 (.lit 0))]), (.int .i64 (.lit 2))])))) (.leaf (.tuple [(.agg [(.int .i64 (.lit 0)), (.int .i64 (.lit 0))]), (.int .i64 (.lit 2))]))) (.leaf (.tuple [(.agg [(.int .i64 (.lit 0)), (.int .i64 (.lit 0))]), (.int .i64 (.lit 2))]))) (.leaf (.tuple [(.agg [(.int .i64 (.lit 0)), (.int .i64 (.lit 0))]), (.int .i64 (.lit 2))]))) (.leaf (.tuple [(.agg [(.int .i64 (.lit 0)), (.int .i64 (.lit 0))]), (.int .i64 (.lit 2))])))) (.leaf (.tuple [(.agg [(.int .i64 (.lit 0)), (.int .i64 (.lit 0))]), (.int .i64 (.lit 2))]))) (.leaf (.tuple [(.agg [(.int .i64 (.lit 0)), (.int .i64 (.lit 0))]), (.int .i64 (.lit 2))]))) (.leaf (.tuple [(.agg [(.int .i64 (.lit 0)), (.int .i64 (.lit 0))]), (.int .i64 (.lit 2))]))) (.leaf (.tuple [(.agg [(.int .i64 (.lit 0)), (.int .i64 (.lit 0))]), (.int .i64 (.lit 2))])))
def divRFC : FC := ⟨32, [(true, [some .i64, some .i64]), (true, [some .i64, some .i64]), (false, [some .i64])], divV, [], [], []⟩
theorem div_un (a b c d e : Int) : divP a b c d e = divRP a b c d e := div_eq a b c d e
set_option maxRecDepth 100000 in
set_option maxHeartbeats 4000000 in
theorem divRFC_ok : divRFC.OK Try.prog sfn := by
  refine FC.ok_run (X := dnPar) (d := 5) (n := 100000) (t := divVT) mixedS dnPar_ok rfl (by kernel_rfl) (by kernel_rfl) fun r hr _ => ?_
  obtain ⟨xs0, r0, rfl, hw0, _, xs1, r1, rfl, hw1, _, xs2, r2, rfl, hw2, _, er⟩ := hr
  obtain ⟨a, b, rfl⟩ := wl2 hw0
  obtain ⟨c, d, rfl⟩ := wl2 hw1
  obtain ⟨e, rfl⟩ := wl1 hw2
  rw [show r2 = [] from er]
  refine ⟨fun be hm => by simp [divRFC] at hm, fun e0 lo hi hm => by simp [divRFC] at hm, ?_⟩
  refine spHolds_ok ?_
  clear hw0 hw1
  simp only [divVT, spHolds, den_ite, den_tst, den_tstF, den_cmp, den_cmpB, den_negT, den_negF, den_andT, den_andF, lssT, leqT, gtrT, geqT, eqlT, neqT, lssF, leqF, gtrF, geqF, eqlF, neqF, den_lit, den_var, den_app, den_nilL, den_consL, den_add, den_sub, den_mx, den_mn, env_v, env_f, List.flatten_cons, List.flatten_nil, List.append_nil, List.cons_append, List.nil_append, List.getD_cons_zero, List.getD_cons_succ, sfn_dn, sfn_sq0, sfn_sq1, sfn_sq2, sfn_dv0, sfn_dv1, sfn_dv2, div_un, divRP, QM.sp, QM.vld, QM.isQ, QM.isD, rdv, Bool.and_eq_true, decide_eq_true_eq, Int.zero_sub]
  repeat' (first | apply And.intro | intro _)
  all_goals grind
end Go.Proofs.Ytlaalhbicblbeaa
