/- The trees of Shares, the functions that they give; contracts of Blend. -/
import Derived.Test.YtpedboeggmffnaaBa
namespace Go.Proofs.Ytpedboeggmffnaa
open Go Go.SX Go.RowKit
set_option linter.unusedVariables false
set_option linter.unusedSimpArgs false
set_option maxRecDepth 100000
def shB : List PSh := [fl, .flat true [some .i64, some .i64], fl, fl, rw]
def shpW (f n : Nat) : WC := pairWC f shS (preN n) outS (100 + 10 * n) [0] [(1, 0, n), (2, 0, 3)]
def outOf (d l h k : Int) : Prop := (-68719476736 ≤ d ∧ d ≤ 68719476736) ∧ (-68719476736 ≤ l ∧ l ≤ 68719476736) ∧ (-68719476736 ≤ h ∧ h ≤ 68719476736) ∧ (0 ≤ k ∧ k ≤ 68719476736)
instance (d l h k : Int) : Decidable (outOf d l h k) := by unfold outOf; infer_instance
def okSp (l h : Int) : Prop := l ≤ 0 ∧ 0 ≤ h
instance (l h : Int) : Decidable (okSp l h) := by unfold okSp; infer_instance
def blA (d l h k : Int) : Int := if outOf d l h k then (if okSp l h then min (max d l) h else 0) else 0
def blB (d l h k : Int) : Int := if outOf d l h k then (if okSp l h then min (max (min (max d l) h - d) 0) k else 0) else 0
def blE (d l h k : Int) : Int := if outOf d l h k then (if okSp l h then 0 else 2) else 3
noncomputable def bf2 (g : Nat → List Int → Int) : Nat → List Int → Int := fun k a => match k, a with
  | 90, [d, l, h, k] => blA d l h k
  | 91, [d, l, h, k] => blB d l h k
  | 92, [d, l, h, k] => blE d l h k
  | k, a => bfn g k a
noncomputable def lfn (g : Nat → List Int → Int) : Nat → List Int → Int := (withTree 180 3 (shV 8) (withTree 170 3 (shV 7) (withTree 160 3 (shV 6) (withTree 150 3 (shV 5) (withTree 140 3 (shV 4) (withTree 130 3 (shV 3) (withTree 120 3 (shV 2) (withTree 110 3 (shV 1) (bf2 g)))))))))
theorem lfn_high (g : Nat → List Int → Int) (k : Nat) (a : List Int) (h : 1000 ≤ k) : lfn g k a = g k a := by
  unfold lfn withTree
  repeat rw [if_neg (by omega)]
  unfold bf2
  split
  · omega
  · omega
  · omega
  · unfold bfn
    split
    · omega
    · omega
    · omega
    · rfl
structure Good (fn : Nat → List Int → Int) : Prop where
  l : GoodL fn
  t1 : TreeIs fn 110 3 (shV 1)
  t2 : TreeIs fn 120 3 (shV 2)
  t3 : TreeIs fn 130 3 (shV 3)
  t4 : TreeIs fn 140 3 (shV 4)
  t5 : TreeIs fn 150 3 (shV 5)
  t6 : TreeIs fn 160 3 (shV 6)
  t7 : TreeIs fn 170 3 (shV 7)
  t8 : TreeIs fn 180 3 (shV 8)
  a : ∀ d l h k, fn 90 [d, l, h, k] = blA d l h k
  b : ∀ d l h k, fn 91 [d, l, h, k] = blB d l h k
  e : ∀ d l h k, fn 92 [d, l, h, k] = blE d l h k
theorem good_of (g : Nat → List Int → Int) (hg : RowFn g) : Good (lfn g) := by
  have h9 : SameLowR 1000 (lfn g) (rowed (lfn g)) := fun k a hk => by
    by_cases h : 1000 ≤ k ∧ k < 5000
    · rw [lfn_high g k a h.1, hg k a h.1 h.2, rowed_rows _ k a h.1 h.2]
    · unfold rowed; rw [if_neg h]
  obtain ⟨a8, h8⟩ := upto_treeR (K := 180) (n := 3) (t := shV 8) h9 (by decide) (by decide) (by kernel_rfl)
  obtain ⟨a7, h7⟩ := upto_treeR (K := 170) (n := 3) (t := shV 7) h8 (by decide) (by decide) (by kernel_rfl)
  obtain ⟨a6, h6⟩ := upto_treeR (K := 160) (n := 3) (t := shV 6) h7 (by decide) (by decide) (by kernel_rfl)
  obtain ⟨a5, h5⟩ := upto_treeR (K := 150) (n := 3) (t := shV 5) h6 (by decide) (by decide) (by kernel_rfl)
  obtain ⟨a4, h4⟩ := upto_treeR (K := 140) (n := 3) (t := shV 4) h5 (by decide) (by decide) (by kernel_rfl)
  obtain ⟨a3, h3⟩ := upto_treeR (K := 130) (n := 3) (t := shV 3) h4 (by decide) (by decide) (by kernel_rfl)
  obtain ⟨a2, h2⟩ := upto_treeR (K := 120) (n := 3) (t := shV 2) h3 (by decide) (by decide) (by kernel_rfl)
  obtain ⟨a1, h1⟩ := upto_treeR (K := 110) (n := 3) (t := shV 1) h2 (by decide) (by decide) (by kernel_rfl)
  have key : ∀ k a, k < 110 → lfn g k a = bf2 g k a := fun k a hk => by
    rw [h1 k a (.inl hk), rowed_lo _ k a (by omega)]
  have hm : mOf (lfn g) = mOf g := by
    funext i
    exact lfn_high g 5000 _ (by decide)
  refine ⟨⟨fun k a h1 h2 => by rw [lfn_high g k a h1]; exact hg k a h1 h2, fun x y t n => ?_, fun x y t n => ?_, fun t n => ?_⟩, a1, a2, a3, a4, a5, a6, a7, a8, fun d l h k => ?_, fun d l h k => ?_, fun d l h k => ?_⟩
  · rw [key _ _ (by decide)]; rfl
  · rw [key _ _ (by decide), hm]; rfl
  · rw [key _ _ (by decide), hm]; rfl
  · rw [key _ _ (by decide)]; rfl
  · rw [key _ _ (by decide)]; rfl
  · rw [key _ _ (by decide)]; rfl
def v4 : List E := [.var 0, .var 1, .var 2, .var 3]
def blFC (f : Nat) : FC := ⟨f, [sI, sp2, sI], .tuple [.int .i64 (.app 90 v4), .int .i64 (.app 91 v4), .int .i64 (.app 92 v4)], [], [], []⟩
def knFC : FC := ⟨5, [], .bool (.lit true), [], [], []⟩
theorem kn_ok {fn : Nat → List Int → Int} (h : Good fn) : knFC.OK Try.prog fn := by
  refine FC.ok_eqv (X := noPar) (d := 1) (n := 100000) (t := .leaf (.bool (.lit true))) mixB (noPar_ok fn h.l.rows) rfl (by kernel_rfl) (by kernel_rfl) fun r hw _ => ⟨by simp [knFC], by simp [knFC], ?_⟩
  exact rfl
theorem wfI1 {xs : List Int} (h : wfL [some .i64] xs) : ∃ x : Int, xs = [x] := by
  obtain ⟨x, _, rfl, _, e⟩ := h
  rw [show _ = ([] : List Int) from e]
  exact ⟨x, rfl⟩
theorem wfI2 {xs : List Int} (h : wfL [some .i64, some .i64] xs) : ∃ x y : Int, xs = [x, y] := by
  obtain ⟨x, _, rfl, _, y, _, rfl, _, e⟩ := h
  rw [show _ = ([] : List Int) from e]
  exact ⟨x, y, rfl⟩
def bl6T : VT := (.ite (.cmp .leq (.lit (-68719476736)) (.var 0)) (.ite (.neg (.cmp .leq (.var 0) (.lit 68719476736))) (.leaf (.tuple [(.int .i64 (.lit 0)), (.int .i64 (.lit 0)), (.int .i64 (.lit 3))])) (.ite (.cmp .leq (.lit (-68719476736)) (.var 1)) (.ite (.neg (.cmp .leq (.var 1) (.lit 68719476736))) (.leaf (.tuple [(.int .i64 (.lit 0)), (.int .i64 (.lit 0)), (.int .i64 (.lit 3))])) (.ite (.cmp .leq (.lit (-68719476736)) (.var 2)) (.ite (.neg (.cmp .leq (.var 2) (.lit 68719476736))) (.leaf (.tuple [(.int .i64 (.lit 0)), (.int .i64 (.lit 0)), (.int .i64 (.lit 3))])) (.ite (.cmp .leq (.lit 0) (.var 3)) (.ite (.neg (.cmp .leq (.var 3) (.lit 68719476736))) (.leaf (.tuple [(.int .i64 (.lit 0)), (.int .i64 (.lit 0)), (.int .i64 (.lit 3))])) (.ite (.cmp .gtr (.var 1) (.lit 0)) (.leaf (.tuple [(.int .i64 (.lit 0)), (.int .i64 (.lit 0)), (.int .i64 (.lit 2))])) (.ite (.cmp .lss (.var 2) (.lit 0)) (.leaf (.tuple [(.int .i64 (.lit 0)), (.int .i64 (.lit 0)), (.int .i64 (.lit 2))])) (.leaf (.tuple [(.int .i64 (.op .mn (.op .mx (.var 0) (.var 1)) (.var 2))), (.int .i64 (.op .mn (.op .mx (.op .sub (.op .mn (.op .mx (.var 0) (.var 1)) (.var 2)) (.var 0)) (.lit 0)) (.var 3))), (.int .i64 (.lit 0))]))))) (.leaf (.tuple [(.int .i64 (.lit 0)), (.int .i64 (.lit 0)), (.int .i64 (.lit 3))])))) (.leaf (.tuple [(.int .i64 (.lit 0)), (.int .i64 (.lit 0)), (.int .i64 (.lit 3))])))) (.leaf (.tuple [(.int .i64 (.lit 0)), (.int .i64 (.lit 0)), (.int .i64 (.lit 3))])))) (.leaf (.tuple [(.int .i64 (.lit 0)), (.int .i64 (.lit 0)), (.int .i64 (.lit 3))])))
theorem bl6_ok {fn : Nat → List Int → Int} (h : Good fn) : (blFC 6).OK Try.prog fn := by
  refine FC.ok_num (X := noPar) (d := 0) (n := 100000) (t := bl6T) mixB (noPar_ok fn h.l.rows) rfl (by kernel_rfl) (by kernel_rfl) fun r hw hpre => ?_
  obtain ⟨xs0, r0, rfl, w0, _, hw0⟩ := hw
  obtain ⟨xs1, r1, rfl, w1, _, hw1⟩ := hw0
  obtain ⟨xs2, r2, rfl, w2, _, hw2⟩ := hw1
  obtain rfl : r2 = [] := hw2
  obtain ⟨d, rfl⟩ := wfI1 w0
  obtain ⟨l, u, rfl⟩ := wfI2 w1
  obtain ⟨k, rfl⟩ := wfI1 w2
  refine ⟨by simp [blFC], by simp [blFC], ?_⟩
  clear w0 w1 w2 hpre
  simp only [bl6T, blFC, v4, VT.holds, SV.eqv, SV.eqvL, den_lit, den_var, den_ite, den_cmp, den_cmpB, den_tst, den_tstF, den_negT, den_negF, den_andT, den_andF, lssT, leqT, gtrT, geqT, eqlT, neqT, lssF, leqF, gtrF, geqF, eqlF, neqF, den_app, den_nilL, den_consL, den_add, den_sub, den_mul, den_tdiv, den_tmod, den_mx, den_mn, den_blit, den_bin, binI, env_v, env_f, List.flatten_cons, List.flatten_nil, List.append_nil, List.cons_append, List.nil_append, List.getD_cons_zero, List.getD_cons_succ, List.getD_nil, h.a, h.b, h.e, true_and, and_true]
  unfold blA blB blE
  by_cases hO : outOf d l u k
  case neg =>
    simp only [if_neg hO]
    unfold outOf at hO
    repeat' (first | apply And.intro | intro _)
    all_goals first | trivial | rfl | omega
  simp only [if_pos hO]
  unfold outOf at hO
  by_cases hS : okSp l u
  · simp only [if_pos hS]
    unfold okSp at hS
    repeat' (first | apply And.intro | intro _)
    all_goals first | trivial | rfl | omega
  · simp only [if_neg hS]
    unfold okSp at hS
    repeat' (first | apply And.intro | intro _)
    all_goals first | trivial | rfl | omega
def bl7T : VT := (.ite (.cmp .geq (.var 0) (.lit (-68719476736))) (.ite (.neg (.cmp .leq (.var 0) (.lit 68719476736))) (.leaf (.tuple [(.int .i64 (.lit 0)), (.int .i64 (.lit 0)), (.int .i64 (.lit 3))])) (.ite (.cmp .geq (.var 1) (.lit (-68719476736))) (.ite (.neg (.cmp .leq (.var 1) (.lit 68719476736))) (.leaf (.tuple [(.int .i64 (.lit 0)), (.int .i64 (.lit 0)), (.int .i64 (.lit 3))])) (.ite (.cmp .geq (.var 2) (.lit (-68719476736))) (.ite (.neg (.cmp .leq (.var 2) (.lit 68719476736))) (.leaf (.tuple [(.int .i64 (.lit 0)), (.int .i64 (.lit 0)), (.int .i64 (.lit 3))])) (.ite (.cmp .lss (.var 3) (.lit 0)) (.leaf (.tuple [(.int .i64 (.lit 0)), (.int .i64 (.lit 0)), (.int .i64 (.lit 3))])) (.ite (.neg (.cmp .leq (.var 3) (.lit 68719476736))) (.leaf (.tuple [(.int .i64 (.lit 0)), (.int .i64 (.lit 0)), (.int .i64 (.lit 3))])) (.ite (.cmp .gtr (.var 1) (.lit 0)) (.leaf (.tuple [(.int .i64 (.lit 0)), (.int .i64 (.lit 0)), (.int .i64 (.lit 2))])) (.ite (.cmp .lss (.var 2) (.lit 0)) (.leaf (.tuple [(.int .i64 (.lit 0)), (.int .i64 (.lit 0)), (.int .i64 (.lit 2))])) (.ite (.cmp .geq (.var 0) (.lit 0)) (.leaf (.tuple [(.int .i64 (.op .mn (.var 0) (.var 2))), (.int .i64 (.lit 0)), (.int .i64 (.lit 0))])) (.leaf (.tuple [(.int .i64 (.op .mx (.var 0) (.var 1))), (.int .i64 (.op .mn (.var 3) (.op .sub (.op .mx (.var 0) (.var 1)) (.var 0)))), (.int .i64 (.lit 0))])))))))) (.leaf (.tuple [(.int .i64 (.lit 0)), (.int .i64 (.lit 0)), (.int .i64 (.lit 3))])))) (.leaf (.tuple [(.int .i64 (.lit 0)), (.int .i64 (.lit 0)), (.int .i64 (.lit 3))])))) (.leaf (.tuple [(.int .i64 (.lit 0)), (.int .i64 (.lit 0)), (.int .i64 (.lit 3))])))
theorem bl7_ok {fn : Nat → List Int → Int} (h : Good fn) : (blFC 7).OK Try.prog fn := by
  refine FC.ok_num (X := noPar) (d := 0) (n := 100000) (t := bl7T) mixB (noPar_ok fn h.l.rows) rfl (by kernel_rfl) (by kernel_rfl) fun r hw hpre => ?_
  obtain ⟨xs0, r0, rfl, w0, _, hw0⟩ := hw
  obtain ⟨xs1, r1, rfl, w1, _, hw1⟩ := hw0
  obtain ⟨xs2, r2, rfl, w2, _, hw2⟩ := hw1
  obtain rfl : r2 = [] := hw2
  obtain ⟨d, rfl⟩ := wfI1 w0
  obtain ⟨l, u, rfl⟩ := wfI2 w1
  obtain ⟨k, rfl⟩ := wfI1 w2
  refine ⟨by simp [blFC], by simp [blFC], ?_⟩
  clear w0 w1 w2 hpre
  simp only [bl7T, blFC, v4, VT.holds, SV.eqv, SV.eqvL, den_lit, den_var, den_ite, den_cmp, den_cmpB, den_tst, den_tstF, den_negT, den_negF, den_andT, den_andF, lssT, leqT, gtrT, geqT, eqlT, neqT, lssF, leqF, gtrF, geqF, eqlF, neqF, den_app, den_nilL, den_consL, den_add, den_sub, den_mul, den_tdiv, den_tmod, den_mx, den_mn, den_blit, den_bin, binI, env_v, env_f, List.flatten_cons, List.flatten_nil, List.append_nil, List.cons_append, List.nil_append, List.getD_cons_zero, List.getD_cons_succ, List.getD_nil, h.a, h.b, h.e, true_and, and_true]
  unfold blA blB blE
  by_cases hO : outOf d l u k
  case neg =>
    simp only [if_neg hO]
    unfold outOf at hO
    repeat' (first | apply And.intro | intro _)
    all_goals first | trivial | rfl | omega
  simp only [if_pos hO]
  unfold outOf at hO
  by_cases hS : okSp l u
  · simp only [if_pos hS]
    unfold okSp at hS
    repeat' (first | apply And.intro | intro _)
    all_goals first | trivial | rfl | omega
  · simp only [if_neg hS]
    unfold okSp at hS
    repeat' (first | apply And.intro | intro _)
    all_goals first | trivial | rfl | omega
theorem sh_rngs : rngsT (rcCtx shS (preN 1) 0) ((shV 1).ren (atL (selE [0]))) [(1, 0, 1), (2, 0, 3)] = true ∧ rngsT (rcCtx shS (preN 2) 0) ((shV 2).ren (atL (selE [0]))) [(1, 0, 2), (2, 0, 3)] = true ∧ rngsT (rcCtx shS (preN 3) 0) ((shV 3).ren (atL (selE [0]))) [(1, 0, 3), (2, 0, 3)] = true ∧ rngsT (rcCtx shS (preN 4) 0) ((shV 4).ren (atL (selE [0]))) [(1, 0, 4), (2, 0, 3)] = true ∧ rngsT (rcCtx shS (preN 5) 0) ((shV 5).ren (atL (selE [0]))) [(1, 0, 5), (2, 0, 3)] = true ∧ rngsT (rcCtx shS (preN 6) 0) ((shV 6).ren (atL (selE [0]))) [(1, 0, 6), (2, 0, 3)] = true ∧ rngsT (rcCtx shS (preN 7) 0) ((shV 7).ren (atL (selE [0]))) [(1, 0, 7), (2, 0, 3)] = true ∧ rngsT (rcCtx shS (preN 8) 0) ((shV 8).ren (atL (selE [0]))) [(1, 0, 8), (2, 0, 3)] = true := ⟨by kernel_rfl, by kernel_rfl, by kernel_rfl, by kernel_rfl, by kernel_rfl, by kernel_rfl, by kernel_rfl, by kernel_rfl⟩
end Go.Proofs.Ytpedboeggmffnaa
