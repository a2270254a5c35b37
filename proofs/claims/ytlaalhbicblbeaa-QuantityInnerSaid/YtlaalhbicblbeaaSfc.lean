/- The functions of spans, of the program and of the reference: each pair returns one value. -/
import Derived.Test.YtlaalhbicblbeaaDfc
import Derived.Test.YtlaalhbicblbeaaOp1
import Derived.Test.YtlaalhbicblbeaaOp2
import Derived.Test.YtlaalhbicblbeaaOp3
import Derived.Test.YtlaalhbicblbeaaOp4
import Derived.Test.YtlaalhbicblbeaaOp5
import Derived.Test.YtlaalhbicblbeaaRf2
import Derived.Test.YtlaalhbicblbeaaRf3
import Derived.Test.YtlaalhbicblbeaaRf4
import Derived.Test.YtlaalhbicblbeaaRf5
import Derived.Test.YtlaalhbicblbeaaRf6
import Derived.Test.YtlaalhbicblbeaaMul
namespace Go.Proofs.Ytlaalhbicblbeaa
open Go Go.SX Go.RowKit
set_option linter.unusedVariables false
set_option linter.unusedSimpArgs false
theorem mixedS : Try.prog.follows .mixedOrders = true := by kernel_rfl
def hasB (lo hi x : Int) : Bool := QM.vld lo hi && (decide (lo ≤ x) && decide (x ≤ hi))
def bI (b : Bool) : Int := if b = true then 1 else 0
def spI (p : Int × Int × Int) : Nat → Int
  | 0 => p.1
  | 1 => p.2.1
  | _ => p.2.2
def prI (p : Int × Int) : Nat → Int
  | 0 => p.1
  | _ => p.2
/-- the upper end of the law's small span -/
def hiS (a b : Int) : Int := if b < 0 then a + (0 - (b + 1)) else a + b
/-- what the names of functions stand for -/
def sfn : Nat → List Int → Int
  | 3, [a, b, d] => QM.dn a b d
  | 10, [a, b] => hiS a b
  | 100, [a, b, c, d] => spI (addP a b c d) 0
  | 101, [a, b, c, d] => spI (addP a b c d) 1
  | 102, [a, b, c, d] => spI (addP a b c d) 2
  | 110, [a, b, c, d] => spI (subP a b c d) 0
  | 111, [a, b, c, d] => spI (subP a b c d) 1
  | 112, [a, b, c, d] => spI (subP a b c d) 2
  | 120, [a, b, c, d, e] => spI (mulP a b c d e) 0
  | 121, [a, b, c, d, e] => spI (mulP a b c d e) 1
  | 122, [a, b, c, d, e] => spI (mulP a b c d e) 2
  | 130, [a, b, c, d, e] => spI (divP a b c d e) 0
  | 131, [a, b, c, d, e] => spI (divP a b c d e) 1
  | 132, [a, b, c, d, e] => spI (divP a b c d e) 2
  | 140, [a, b, c, d] => spI (meetP a b c d) 0
  | 141, [a, b, c, d] => spI (meetP a b c d) 1
  | 142, [a, b, c, d] => spI (meetP a b c d) 2
  | 150, [a, b, c, d] => spI (hullP a b c d) 0
  | 151, [a, b, c, d] => spI (hullP a b c d) 1
  | 152, [a, b, c, d] => spI (hullP a b c d) 2
  | 160, [a, b, c, d] => bI (insideB a b c d)
  | 170, [a, b, c, d] => spI (scaleP a b c d) 0
  | 171, [a, b, c, d] => spI (scaleP a b c d) 1
  | 172, [a, b, c, d] => spI (scaleP a b c d) 2
  | 180, [a, b, c] => spI (squareP a b c) 0
  | 181, [a, b, c] => spI (squareP a b c) 1
  | 182, [a, b, c] => spI (squareP a b c) 2
  | 190, [a, b] => spI (negP a b) 0
  | 191, [a, b] => spI (negP a b) 1
  | 192, [a, b] => spI (negP a b) 2
  | 200, [a, b] => QM.chk a b
  | 210, [a, b, c] => bI (hasB a b c)
  | 220, [a, b, c] => spI (growP a b c) 0
  | 221, [a, b, c] => spI (growP a b c) 1
  | 222, [a, b, c] => spI (growP a b c) 2
  | 230, [a, b, c, d] => spI (clipP a b c d) 0
  | 231, [a, b, c, d] => spI (clipP a b c d) 1
  | 232, [a, b, c, d] => spI (clipP a b c d) 2
  | 240, [a, b] => prI (widthP a b) 0
  | 241, [a, b] => prI (widthP a b) 1
  | 250, [a, b] => prI (middleP a b) 0
  | 251, [a, b] => prI (middleP a b) 1
  | _, _ => 0
theorem wl2 {xs : List Int} (h : wfL [some .i64, some .i64] xs) : ∃ a b, xs = [a, b] := by
  obtain ⟨a, _, rfl, _, b, _, rfl, _, e⟩ := h
  rw [show _ = ([] : List Int) from e]
  exact ⟨a, b, rfl⟩
theorem wl1 {xs : List Int} (h : wfL [some .i64] xs) : ∃ a, xs = [a] := by
  obtain ⟨a, _, rfl, _, e⟩ := h
  rw [show _ = ([] : List Int) from e]
  exact ⟨a, rfl⟩
theorem tst_bI {env : Env} {e : E} {b : Bool} (h : e.den env = bI b) : (BE.tst e).den env = b := by
  simp only [BE.den, h]; cases b <;> rfl
theorem inside_ref (al ah bl bh : Int) : (QM.vld al ah && QM.vld bl bh && decide (bl ≤ al) && decide (ah ≤ bh)) = insideB al ah bl bh := by
  unfold insideB allV QM.vld
  simp only [List.all_cons, List.all_nil, Bool.and_true]
  rw [Bool.eq_iff_iff]
  simp only [Bool.and_eq_true, decide_eq_true_eq]
  constructor <;> intro h <;> simp [h] <;> omega
def addV : SV := .tuple [.agg [.int .i64 (.app 100 [.var 0, .var 1, .var 2, .var 3]), .int .i64 (.app 101 [.var 0, .var 1, .var 2, .var 3])], .int .i64 (.app 102 [.var 0, .var 1, .var 2, .var 3])]
def addFC : FC := ⟨25, [(true, [some .i64, some .i64]), (true, [some .i64, some .i64])], addV, [], [], []⟩
theorem addFC_ok : addFC.OK Try.prog sfn := by
  refine ⟨rfl, by kernel_rfl, fun r hr _ => ?_⟩
  obtain ⟨xs0, r0, rfl, hw0, _, xs1, r1, rfl, hw1, _, er⟩ := hr
  obtain ⟨a, b, rfl⟩ := wl2 hw0
  obtain ⟨c, d, rfl⟩ := wl2 hw1
  rw [show r1 = [] from er]
  refine ⟨fun be hm => by simp [addFC] at hm, fun e0 lo hi hm => by simp [addFC] at hm, fun w => (Add_any a b c d w).mono ?_⟩
  rintro e0 w' ⟨rfl, hb⟩
  refine ⟨_, rfl, fun ρ => ?_, hb⟩
  exact ⟨_, ⟨_, _, ⟨_, ⟨_, _, rfl, ⟨_, _, rfl, rfl, rfl⟩, rfl⟩, rfl⟩, ⟨_, _, rfl, rfl, rfl⟩, rfl⟩, rfl⟩
def addRFC : FC := ⟨26, [(true, [some .i64, some .i64]), (true, [some .i64, some .i64])], addV, [], [], []⟩
theorem addRFC_ok : addRFC.OK Try.prog sfn := by
  refine ⟨rfl, by kernel_rfl, fun r hr _ => ?_⟩
  obtain ⟨xs0, r0, rfl, hw0, _, xs1, r1, rfl, hw1, _, er⟩ := hr
  obtain ⟨a, b, rfl⟩ := wl2 hw0
  obtain ⟨c, d, rfl⟩ := wl2 hw1
  rw [show r1 = [] from er]
  refine ⟨fun be hm => by simp [addRFC] at hm, fun e0 lo hi hm => by simp [addRFC] at hm, fun w => (rAdd_any a b c d w).mono ?_⟩
  rintro e0 w' ⟨rfl, hb⟩
  refine ⟨_, rfl, fun ρ => ?_, hb⟩
  exact ⟨_, ⟨_, _, ⟨_, ⟨_, _, rfl, ⟨_, _, rfl, rfl, rfl⟩, rfl⟩, rfl⟩, ⟨_, _, rfl, rfl, rfl⟩, rfl⟩, rfl⟩
def subV : SV := .tuple [.agg [.int .i64 (.app 110 [.var 0, .var 1, .var 2, .var 3]), .int .i64 (.app 111 [.var 0, .var 1, .var 2, .var 3])], .int .i64 (.app 112 [.var 0, .var 1, .var 2, .var 3])]
def subFC : FC := ⟨27, [(true, [some .i64, some .i64]), (true, [some .i64, some .i64])], subV, [], [], []⟩
theorem subFC_ok : subFC.OK Try.prog sfn := by
  refine ⟨rfl, by kernel_rfl, fun r hr _ => ?_⟩
  obtain ⟨xs0, r0, rfl, hw0, _, xs1, r1, rfl, hw1, _, er⟩ := hr
  obtain ⟨a, b, rfl⟩ := wl2 hw0
  obtain ⟨c, d, rfl⟩ := wl2 hw1
  rw [show r1 = [] from er]
  refine ⟨fun be hm => by simp [subFC] at hm, fun e0 lo hi hm => by simp [subFC] at hm, fun w => (Sub_any a b c d w).mono ?_⟩
  rintro e0 w' ⟨rfl, hb⟩
  refine ⟨_, rfl, fun ρ => ?_, hb⟩
  exact ⟨_, ⟨_, _, ⟨_, ⟨_, _, rfl, ⟨_, _, rfl, rfl, rfl⟩, rfl⟩, rfl⟩, ⟨_, _, rfl, rfl, rfl⟩, rfl⟩, rfl⟩
def subRFC : FC := ⟨28, [(true, [some .i64, some .i64]), (true, [some .i64, some .i64])], subV, [], [], []⟩
theorem subRFC_ok : subRFC.OK Try.prog sfn := by
  refine ⟨rfl, by kernel_rfl, fun r hr _ => ?_⟩
  obtain ⟨xs0, r0, rfl, hw0, _, xs1, r1, rfl, hw1, _, er⟩ := hr
  obtain ⟨a, b, rfl⟩ := wl2 hw0
  obtain ⟨c, d, rfl⟩ := wl2 hw1
  rw [show r1 = [] from er]
  refine ⟨fun be hm => by simp [subRFC] at hm, fun e0 lo hi hm => by simp [subRFC] at hm, fun w => (rSub_any a b c d w).mono ?_⟩
  rintro e0 w' ⟨rfl, hb⟩
  refine ⟨_, rfl, fun ρ => ?_, hb⟩
  exact ⟨_, ⟨_, _, ⟨_, ⟨_, _, rfl, ⟨_, _, rfl, rfl, rfl⟩, rfl⟩, rfl⟩, ⟨_, _, rfl, rfl, rfl⟩, rfl⟩, rfl⟩
def mulV : SV := .tuple [.agg [.int .i64 (.app 120 [.var 0, .var 1, .var 2, .var 3, .var 4]), .int .i64 (.app 121 [.var 0, .var 1, .var 2, .var 3, .var 4])], .int .i64 (.app 122 [.var 0, .var 1, .var 2, .var 3, .var 4])]
def mulFC : FC := ⟨29, [(true, [some .i64, some .i64]), (true, [some .i64, some .i64]), (false, [some .i64])], mulV, [], [], []⟩
theorem mulFC_ok : mulFC.OK Try.prog sfn := by
  refine ⟨rfl, by kernel_rfl, fun r hr _ => ?_⟩
  obtain ⟨xs0, r0, rfl, hw0, _, xs1, r1, rfl, hw1, _, xs2, r2, rfl, hw2, _, er⟩ := hr
  obtain ⟨a, b, rfl⟩ := wl2 hw0
  obtain ⟨c, d, rfl⟩ := wl2 hw1
  obtain ⟨e, rfl⟩ := wl1 hw2
  rw [show r2 = [] from er]
  refine ⟨fun be hm => by simp [mulFC] at hm, fun e0 lo hi hm => by simp [mulFC] at hm, fun w => (Mul_any a b c d e w).mono ?_⟩
  rintro e0 w' ⟨rfl, hb⟩
  refine ⟨_, rfl, fun ρ => ?_, hb⟩
  exact ⟨_, ⟨_, _, ⟨_, ⟨_, _, rfl, ⟨_, _, rfl, rfl, rfl⟩, rfl⟩, rfl⟩, ⟨_, _, rfl, rfl, rfl⟩, rfl⟩, rfl⟩
def mulRFC : FC := ⟨30, [(true, [some .i64, some .i64]), (true, [some .i64, some .i64]), (false, [some .i64])], mulV, [], [], []⟩
theorem mulRFC_ok : mulRFC.OK Try.prog sfn := by
  refine ⟨rfl, by kernel_rfl, fun r hr _ => ?_⟩
  obtain ⟨xs0, r0, rfl, hw0, _, xs1, r1, rfl, hw1, _, xs2, r2, rfl, hw2, _, er⟩ := hr
  obtain ⟨a, b, rfl⟩ := wl2 hw0
  obtain ⟨c, d, rfl⟩ := wl2 hw1
  obtain ⟨e, rfl⟩ := wl1 hw2
  rw [show r2 = [] from er]
  refine ⟨fun be hm => by simp [mulRFC] at hm, fun e0 lo hi hm => by simp [mulRFC] at hm, fun w => (rMul_any a b c d e w).mono ?_⟩
  rintro e0 w' ⟨rfl, hb⟩
  refine ⟨_, rfl, fun ρ => ?_, hb⟩
  exact ⟨_, ⟨_, _, ⟨_, ⟨_, _, rfl, ⟨_, _, rfl, rfl, rfl⟩, rfl⟩, rfl⟩, ⟨_, _, rfl, rfl, rfl⟩, rfl⟩, rfl⟩
def divV : SV := .tuple [.agg [.int .i64 (.app 130 [.var 0, .var 1, .var 2, .var 3, .var 4]), .int .i64 (.app 131 [.var 0, .var 1, .var 2, .var 3, .var 4])], .int .i64 (.app 132 [.var 0, .var 1, .var 2, .var 3, .var 4])]
def divFC : FC := ⟨31, [(true, [some .i64, some .i64]), (true, [some .i64, some .i64]), (false, [some .i64])], divV, [], [], []⟩
theorem divFC_ok : divFC.OK Try.prog sfn := by
  refine ⟨rfl, by kernel_rfl, fun r hr _ => ?_⟩
  obtain ⟨xs0, r0, rfl, hw0, _, xs1, r1, rfl, hw1, _, xs2, r2, rfl, hw2, _, er⟩ := hr
  obtain ⟨a, b, rfl⟩ := wl2 hw0
  obtain ⟨c, d, rfl⟩ := wl2 hw1
  obtain ⟨e, rfl⟩ := wl1 hw2
  rw [show r2 = [] from er]
  refine ⟨fun be hm => by simp [divFC] at hm, fun e0 lo hi hm => by simp [divFC] at hm, fun w => (Div_any a b c d e w).mono ?_⟩
  rintro e0 w' ⟨rfl, hb⟩
  refine ⟨_, rfl, fun ρ => ?_, hb⟩
  exact ⟨_, ⟨_, _, ⟨_, ⟨_, _, rfl, ⟨_, _, rfl, rfl, rfl⟩, rfl⟩, rfl⟩, ⟨_, _, rfl, rfl, rfl⟩, rfl⟩, rfl⟩
def meetV : SV := .tuple [.agg [.int .i64 (.app 140 [.var 0, .var 1, .var 2, .var 3]), .int .i64 (.app 141 [.var 0, .var 1, .var 2, .var 3])], .int .i64 (.app 142 [.var 0, .var 1, .var 2, .var 3])]
def meetFC : FC := ⟨33, [(true, [some .i64, some .i64]), (true, [some .i64, some .i64])], meetV, [], [], []⟩
theorem meetFC_ok : meetFC.OK Try.prog sfn := by
  refine ⟨rfl, by kernel_rfl, fun r hr _ => ?_⟩
  obtain ⟨xs0, r0, rfl, hw0, _, xs1, r1, rfl, hw1, _, er⟩ := hr
  obtain ⟨a, b, rfl⟩ := wl2 hw0
  obtain ⟨c, d, rfl⟩ := wl2 hw1
  rw [show r1 = [] from er]
  refine ⟨fun be hm => by simp [meetFC] at hm, fun e0 lo hi hm => by simp [meetFC] at hm, fun w => (Meet_any a b c d w).mono ?_⟩
  rintro e0 w' ⟨rfl, hb⟩
  refine ⟨_, rfl, fun ρ => ?_, hb⟩
  exact ⟨_, ⟨_, _, ⟨_, ⟨_, _, rfl, ⟨_, _, rfl, rfl, rfl⟩, rfl⟩, rfl⟩, ⟨_, _, rfl, rfl, rfl⟩, rfl⟩, rfl⟩
def meetRFC : FC := ⟨34, [(true, [some .i64, some .i64]), (true, [some .i64, some .i64])], meetV, [], [], []⟩
theorem meetRFC_ok : meetRFC.OK Try.prog sfn := by
  refine ⟨rfl, by kernel_rfl, fun r hr _ => ?_⟩
  obtain ⟨xs0, r0, rfl, hw0, _, xs1, r1, rfl, hw1, _, er⟩ := hr
  obtain ⟨a, b, rfl⟩ := wl2 hw0
  obtain ⟨c, d, rfl⟩ := wl2 hw1
  rw [show r1 = [] from er]
  refine ⟨fun be hm => by simp [meetRFC] at hm, fun e0 lo hi hm => by simp [meetRFC] at hm, fun w => (rMeet_any a b c d w).mono ?_⟩
  rintro e0 w' ⟨rfl, hb⟩
  refine ⟨_, rfl, fun ρ => ?_, hb⟩
  exact ⟨_, ⟨_, _, ⟨_, ⟨_, _, rfl, ⟨_, _, rfl, rfl, rfl⟩, rfl⟩, rfl⟩, ⟨_, _, rfl, rfl, rfl⟩, rfl⟩, rfl⟩
def hullV : SV := .tuple [.agg [.int .i64 (.app 150 [.var 0, .var 1, .var 2, .var 3]), .int .i64 (.app 151 [.var 0, .var 1, .var 2, .var 3])], .int .i64 (.app 152 [.var 0, .var 1, .var 2, .var 3])]
def hullFC : FC := ⟨35, [(true, [some .i64, some .i64]), (true, [some .i64, some .i64])], hullV, [], [], []⟩
theorem hullFC_ok : hullFC.OK Try.prog sfn := by
  refine ⟨rfl, by kernel_rfl, fun r hr _ => ?_⟩
  obtain ⟨xs0, r0, rfl, hw0, _, xs1, r1, rfl, hw1, _, er⟩ := hr
  obtain ⟨a, b, rfl⟩ := wl2 hw0
  obtain ⟨c, d, rfl⟩ := wl2 hw1
  rw [show r1 = [] from er]
  refine ⟨fun be hm => by simp [hullFC] at hm, fun e0 lo hi hm => by simp [hullFC] at hm, fun w => (Hull_any a b c d w).mono ?_⟩
  rintro e0 w' ⟨rfl, hb⟩
  refine ⟨_, rfl, fun ρ => ?_, hb⟩
  exact ⟨_, ⟨_, _, ⟨_, ⟨_, _, rfl, ⟨_, _, rfl, rfl, rfl⟩, rfl⟩, rfl⟩, ⟨_, _, rfl, rfl, rfl⟩, rfl⟩, rfl⟩
def hullRFC : FC := ⟨36, [(true, [some .i64, some .i64]), (true, [some .i64, some .i64])], hullV, [], [], []⟩
theorem hullRFC_ok : hullRFC.OK Try.prog sfn := by
  refine ⟨rfl, by kernel_rfl, fun r hr _ => ?_⟩
  obtain ⟨xs0, r0, rfl, hw0, _, xs1, r1, rfl, hw1, _, er⟩ := hr
  obtain ⟨a, b, rfl⟩ := wl2 hw0
  obtain ⟨c, d, rfl⟩ := wl2 hw1
  rw [show r1 = [] from er]
  refine ⟨fun be hm => by simp [hullRFC] at hm, fun e0 lo hi hm => by simp [hullRFC] at hm, fun w => (rHull_any a b c d w).mono ?_⟩
  rintro e0 w' ⟨rfl, hb⟩
  refine ⟨_, rfl, fun ρ => ?_, hb⟩
  exact ⟨_, ⟨_, _, ⟨_, ⟨_, _, rfl, ⟨_, _, rfl, rfl, rfl⟩, rfl⟩, rfl⟩, ⟨_, _, rfl, rfl, rfl⟩, rfl⟩, rfl⟩
def insideV : SV := .bool (.tst (.app 160 [.var 0, .var 1, .var 2, .var 3]))
def insideFC : FC := ⟨23, [(true, [some .i64, some .i64]), (true, [some .i64, some .i64])], insideV, [], [], []⟩
theorem insideFC_ok : insideFC.OK Try.prog sfn := by
  refine ⟨rfl, by kernel_rfl, fun r hr _ => ?_⟩
  obtain ⟨xs0, r0, rfl, hw0, _, xs1, r1, rfl, hw1, _, er⟩ := hr
  obtain ⟨a, b, rfl⟩ := wl2 hw0
  obtain ⟨c, d, rfl⟩ := wl2 hw1
  rw [show r1 = [] from er]
  refine ⟨fun be hm => by simp [insideFC] at hm, fun e0 lo hi hm => by simp [insideFC] at hm, fun w => (Inside_any a b c d w).mono ?_⟩
  rintro e0 w' ⟨rfl, hb⟩
  refine ⟨_, rfl, fun ρ => ?_, hb⟩
  exact congrArg Value.bool (tst_bI (b := insideB a b c d) rfl).symm
def insideRFC : FC := ⟨24, [(true, [some .i64, some .i64]), (true, [some .i64, some .i64])], insideV, [], [], []⟩
theorem insideRFC_ok : insideRFC.OK Try.prog sfn := by
  refine ⟨rfl, by kernel_rfl, fun r hr _ => ?_⟩
  obtain ⟨xs0, r0, rfl, hw0, _, xs1, r1, rfl, hw1, _, er⟩ := hr
  obtain ⟨a, b, rfl⟩ := wl2 hw0
  obtain ⟨c, d, rfl⟩ := wl2 hw1
  rw [show r1 = [] from er]
  refine ⟨fun be hm => by simp [insideRFC] at hm, fun e0 lo hi hm => by simp [insideRFC] at hm, fun w => (rInside_any a b c d w).mono ?_⟩
  rintro e0 w' ⟨rfl, hb⟩
  refine ⟨_, rfl, fun ρ => ?_, hb⟩
  rw [inside_ref]
  exact congrArg Value.bool (tst_bI (b := insideB a b c d) rfl).symm
def scaleV : SV := .tuple [.agg [.int .i64 (.app 170 [.var 0, .var 1, .var 2, .var 3]), .int .i64 (.app 171 [.var 0, .var 1, .var 2, .var 3])], .int .i64 (.app 172 [.var 0, .var 1, .var 2, .var 3])]
def scaleFC : FC := ⟨64, [(true, [some .i64, some .i64]), (false, [some .i64]), (false, [some .i64])], scaleV, [], [], []⟩
theorem scaleFC_ok : scaleFC.OK Try.prog sfn := by
  refine ⟨rfl, by kernel_rfl, fun r hr _ => ?_⟩
  obtain ⟨xs0, r0, rfl, hw0, _, xs1, r1, rfl, hw1, _, xs2, r2, rfl, hw2, _, er⟩ := hr
  obtain ⟨a, b, rfl⟩ := wl2 hw0
  obtain ⟨c, rfl⟩ := wl1 hw1
  obtain ⟨d, rfl⟩ := wl1 hw2
  rw [show r2 = [] from er]
  refine ⟨fun be hm => by simp [scaleFC] at hm, fun e0 lo hi hm => by simp [scaleFC] at hm, fun w => (Scale_any a b c d w).mono ?_⟩
  rintro e0 w' ⟨rfl, hb⟩
  refine ⟨_, rfl, fun ρ => ?_, hb⟩
  exact ⟨_, ⟨_, _, ⟨_, ⟨_, _, rfl, ⟨_, _, rfl, rfl, rfl⟩, rfl⟩, rfl⟩, ⟨_, _, rfl, rfl, rfl⟩, rfl⟩, rfl⟩
def scaleRFC : FC := ⟨90, [(true, [some .i64, some .i64]), (false, [some .i64]), (false, [some .i64])], scaleV, [], [], []⟩
theorem scaleRFC_ok : scaleRFC.OK Try.prog sfn := by
  refine ⟨rfl, by kernel_rfl, fun r hr _ => ?_⟩
  obtain ⟨xs0, r0, rfl, hw0, _, xs1, r1, rfl, hw1, _, xs2, r2, rfl, hw2, _, er⟩ := hr
  obtain ⟨a, b, rfl⟩ := wl2 hw0
  obtain ⟨c, rfl⟩ := wl1 hw1
  obtain ⟨d, rfl⟩ := wl1 hw2
  rw [show r2 = [] from er]
  refine ⟨fun be hm => by simp [scaleRFC] at hm, fun e0 lo hi hm => by simp [scaleRFC] at hm, fun w => (rScale_any a b c d w).mono ?_⟩
  rintro e0 w' ⟨rfl, hb⟩
  refine ⟨_, rfl, fun ρ => ?_, hb⟩
  exact ⟨_, ⟨_, _, ⟨_, ⟨_, _, rfl, ⟨_, _, rfl, rfl, rfl⟩, rfl⟩, rfl⟩, ⟨_, _, rfl, rfl, rfl⟩, rfl⟩, rfl⟩
def squareV : SV := .tuple [.agg [.int .i64 (.app 180 [.var 0, .var 1, .var 2]), .int .i64 (.app 181 [.var 0, .var 1, .var 2])], .int .i64 (.app 182 [.var 0, .var 1, .var 2])]
def squareFC : FC := ⟨65, [(true, [some .i64, some .i64]), (false, [some .i64])], squareV, [], [], []⟩
theorem squareFC_ok : squareFC.OK Try.prog sfn := by
  refine ⟨rfl, by kernel_rfl, fun r hr _ => ?_⟩
  obtain ⟨xs0, r0, rfl, hw0, _, xs1, r1, rfl, hw1, _, er⟩ := hr
  obtain ⟨a, b, rfl⟩ := wl2 hw0
  obtain ⟨c, rfl⟩ := wl1 hw1
  rw [show r1 = [] from er]
  refine ⟨fun be hm => by simp [squareFC] at hm, fun e0 lo hi hm => by simp [squareFC] at hm, fun w => (Square_any a b c w).mono ?_⟩
  rintro e0 w' ⟨rfl, hb⟩
  refine ⟨_, rfl, fun ρ => ?_, hb⟩
  exact ⟨_, ⟨_, _, ⟨_, ⟨_, _, rfl, ⟨_, _, rfl, rfl, rfl⟩, rfl⟩, rfl⟩, ⟨_, _, rfl, rfl, rfl⟩, rfl⟩, rfl⟩
def negV : SV := .tuple [.agg [.int .i64 (.app 190 [.var 0, .var 1]), .int .i64 (.app 191 [.var 0, .var 1])], .int .i64 (.app 192 [.var 0, .var 1])]
def negFC : FC := ⟨66, [(true, [some .i64, some .i64])], negV, [], [], []⟩
theorem negFC_ok : negFC.OK Try.prog sfn := by
  refine ⟨rfl, by kernel_rfl, fun r hr _ => ?_⟩
  obtain ⟨xs0, r0, rfl, hw0, _, er⟩ := hr
  obtain ⟨a, b, rfl⟩ := wl2 hw0
  rw [show r0 = [] from er]
  refine ⟨fun be hm => by simp [negFC] at hm, fun e0 lo hi hm => by simp [negFC] at hm, fun w => (Neg_any a b w).mono ?_⟩
  rintro e0 w' ⟨rfl, hb⟩
  refine ⟨_, rfl, fun ρ => ?_, hb⟩
  exact ⟨_, ⟨_, _, ⟨_, ⟨_, _, rfl, ⟨_, _, rfl, rfl, rfl⟩, rfl⟩, rfl⟩, ⟨_, _, rfl, rfl, rfl⟩, rfl⟩, rfl⟩
def negRFC : FC := ⟨86, [(true, [some .i64, some .i64])], negV, [], [], []⟩
theorem negRFC_ok : negRFC.OK Try.prog sfn := by
  refine ⟨rfl, by kernel_rfl, fun r hr _ => ?_⟩
  obtain ⟨xs0, r0, rfl, hw0, _, er⟩ := hr
  obtain ⟨a, b, rfl⟩ := wl2 hw0
  rw [show r0 = [] from er]
  refine ⟨fun be hm => by simp [negRFC] at hm, fun e0 lo hi hm => by simp [negRFC] at hm, fun w => (rNeg_any a b w).mono ?_⟩
  rintro e0 w' ⟨rfl, hb⟩
  refine ⟨_, rfl, fun ρ => ?_, hb⟩
  exact ⟨_, ⟨_, _, ⟨_, ⟨_, _, rfl, ⟨_, _, rfl, rfl, rfl⟩, rfl⟩, rfl⟩, ⟨_, _, rfl, rfl, rfl⟩, rfl⟩, rfl⟩
def checkV : SV := .int .i64 (.app 200 [.var 0, .var 1])
def checkFC : FC := ⟨87, [(true, [some .i64, some .i64])], checkV, [], [], []⟩
theorem checkFC_ok : checkFC.OK Try.prog sfn := by
  refine ⟨rfl, by kernel_rfl, fun r hr _ => ?_⟩
  obtain ⟨xs0, r0, rfl, hw0, _, er⟩ := hr
  obtain ⟨a, b, rfl⟩ := wl2 hw0
  rw [show r0 = [] from er]
  refine ⟨fun be hm => by simp [checkFC] at hm, fun e0 lo hi hm => by simp [checkFC] at hm, fun w => (Check_any a b w).mono ?_⟩
  rintro e0 w' ⟨rfl, hb⟩
  refine ⟨_, rfl, fun ρ => ?_, hb⟩
  exact rfl
def checkRFC : FC := ⟨88, [(true, [some .i64, some .i64])], checkV, [], [], []⟩
theorem checkRFC_ok : checkRFC.OK Try.prog sfn := by
  refine ⟨rfl, by kernel_rfl, fun r hr _ => ?_⟩
  obtain ⟨xs0, r0, rfl, hw0, _, er⟩ := hr
  obtain ⟨a, b, rfl⟩ := wl2 hw0
  rw [show r0 = [] from er]
  refine ⟨fun be hm => by simp [checkRFC] at hm, fun e0 lo hi hm => by simp [checkRFC] at hm, fun w => (rCheck_any a b w).mono ?_⟩
  rintro e0 w' ⟨rfl, hb⟩
  refine ⟨_, rfl, fun ρ => ?_, hb⟩
  exact rfl
def hasV : SV := .bool (.tst (.app 210 [.var 0, .var 1, .var 2]))
def hasFC : FC := ⟨69, [(true, [some .i64, some .i64]), (false, [some .i64])], hasV, [], [], []⟩
theorem hasFC_ok : hasFC.OK Try.prog sfn := by
  refine ⟨rfl, by kernel_rfl, fun r hr _ => ?_⟩
  obtain ⟨xs0, r0, rfl, hw0, _, xs1, r1, rfl, hw1, _, er⟩ := hr
  obtain ⟨a, b, rfl⟩ := wl2 hw0
  obtain ⟨c, rfl⟩ := wl1 hw1
  rw [show r1 = [] from er]
  refine ⟨fun be hm => by simp [hasFC] at hm, fun e0 lo hi hm => by simp [hasFC] at hm, fun w => (Has_any a b c w).mono ?_⟩
  rintro e0 w' ⟨rfl, hb⟩
  refine ⟨_, rfl, fun ρ => ?_, hb⟩
  exact congrArg Value.bool (tst_bI (b := hasB a b c) rfl).symm
def hasRFC : FC := ⟨89, [(true, [some .i64, some .i64]), (false, [some .i64])], hasV, [], [], []⟩
theorem hasRFC_ok : hasRFC.OK Try.prog sfn := by
  refine ⟨rfl, by kernel_rfl, fun r hr _ => ?_⟩
  obtain ⟨xs0, r0, rfl, hw0, _, xs1, r1, rfl, hw1, _, er⟩ := hr
  obtain ⟨a, b, rfl⟩ := wl2 hw0
  obtain ⟨c, rfl⟩ := wl1 hw1
  rw [show r1 = [] from er]
  refine ⟨fun be hm => by simp [hasRFC] at hm, fun e0 lo hi hm => by simp [hasRFC] at hm, fun w => (rHas_any a b c w).mono ?_⟩
  rintro e0 w' ⟨rfl, hb⟩
  refine ⟨_, rfl, fun ρ => ?_, hb⟩
  exact congrArg Value.bool (tst_bI (b := hasB a b c) rfl).symm
def growV : SV := .tuple [.agg [.int .i64 (.app 220 [.var 0, .var 1, .var 2]), .int .i64 (.app 221 [.var 0, .var 1, .var 2])], .int .i64 (.app 222 [.var 0, .var 1, .var 2])]
def growFC : FC := ⟨92, [(true, [some .i64, some .i64]), (false, [some .i64])], growV, [], [], []⟩
theorem growFC_ok : growFC.OK Try.prog sfn := by
  refine ⟨rfl, by kernel_rfl, fun r hr _ => ?_⟩
  obtain ⟨xs0, r0, rfl, hw0, _, xs1, r1, rfl, hw1, _, er⟩ := hr
  obtain ⟨a, b, rfl⟩ := wl2 hw0
  obtain ⟨c, rfl⟩ := wl1 hw1
  rw [show r1 = [] from er]
  refine ⟨fun be hm => by simp [growFC] at hm, fun e0 lo hi hm => by simp [growFC] at hm, fun w => (Grow_any a b c w).mono ?_⟩
  rintro e0 w' ⟨rfl, hb⟩
  refine ⟨_, rfl, fun ρ => ?_, hb⟩
  exact ⟨_, ⟨_, _, ⟨_, ⟨_, _, rfl, ⟨_, _, rfl, rfl, rfl⟩, rfl⟩, rfl⟩, ⟨_, _, rfl, rfl, rfl⟩, rfl⟩, rfl⟩
def growRFC : FC := ⟨93, [(true, [some .i64, some .i64]), (false, [some .i64])], growV, [], [], []⟩
theorem growRFC_ok : growRFC.OK Try.prog sfn := by
  refine ⟨rfl, by kernel_rfl, fun r hr _ => ?_⟩
  obtain ⟨xs0, r0, rfl, hw0, _, xs1, r1, rfl, hw1, _, er⟩ := hr
  obtain ⟨a, b, rfl⟩ := wl2 hw0
  obtain ⟨c, rfl⟩ := wl1 hw1
  rw [show r1 = [] from er]
  refine ⟨fun be hm => by simp [growRFC] at hm, fun e0 lo hi hm => by simp [growRFC] at hm, fun w => (rGrow_any a b c w).mono ?_⟩
  rintro e0 w' ⟨rfl, hb⟩
  refine ⟨_, rfl, fun ρ => ?_, hb⟩
  exact ⟨_, ⟨_, _, ⟨_, ⟨_, _, rfl, ⟨_, _, rfl, rfl, rfl⟩, rfl⟩, rfl⟩, ⟨_, _, rfl, rfl, rfl⟩, rfl⟩, rfl⟩
def clipV : SV := .tuple [.agg [.int .i64 (.app 230 [.var 0, .var 1, .var 2, .var 3]), .int .i64 (.app 231 [.var 0, .var 1, .var 2, .var 3])], .int .i64 (.app 232 [.var 0, .var 1, .var 2, .var 3])]
def clipFC : FC := ⟨94, [(true, [some .i64, some .i64]), (false, [some .i64]), (false, [some .i64])], clipV, [], [], []⟩
theorem clipFC_ok : clipFC.OK Try.prog sfn := by
  refine ⟨rfl, by kernel_rfl, fun r hr _ => ?_⟩
  obtain ⟨xs0, r0, rfl, hw0, _, xs1, r1, rfl, hw1, _, xs2, r2, rfl, hw2, _, er⟩ := hr
  obtain ⟨a, b, rfl⟩ := wl2 hw0
  obtain ⟨c, rfl⟩ := wl1 hw1
  obtain ⟨d, rfl⟩ := wl1 hw2
  rw [show r2 = [] from er]
  refine ⟨fun be hm => by simp [clipFC] at hm, fun e0 lo hi hm => by simp [clipFC] at hm, fun w => (Clip_any a b c d w).mono ?_⟩
  rintro e0 w' ⟨rfl, hb⟩
  refine ⟨_, rfl, fun ρ => ?_, hb⟩
  exact ⟨_, ⟨_, _, ⟨_, ⟨_, _, rfl, ⟨_, _, rfl, rfl, rfl⟩, rfl⟩, rfl⟩, ⟨_, _, rfl, rfl, rfl⟩, rfl⟩, rfl⟩
def clipRFC : FC := ⟨95, [(true, [some .i64, some .i64]), (false, [some .i64]), (false, [some .i64])], clipV, [], [], []⟩
theorem clipRFC_ok : clipRFC.OK Try.prog sfn := by
  refine ⟨rfl, by kernel_rfl, fun r hr _ => ?_⟩
  obtain ⟨xs0, r0, rfl, hw0, _, xs1, r1, rfl, hw1, _, xs2, r2, rfl, hw2, _, er⟩ := hr
  obtain ⟨a, b, rfl⟩ := wl2 hw0
  obtain ⟨c, rfl⟩ := wl1 hw1
  obtain ⟨d, rfl⟩ := wl1 hw2
  rw [show r2 = [] from er]
  refine ⟨fun be hm => by simp [clipRFC] at hm, fun e0 lo hi hm => by simp [clipRFC] at hm, fun w => (rClip_any a b c d w).mono ?_⟩
  rintro e0 w' ⟨rfl, hb⟩
  refine ⟨_, rfl, fun ρ => ?_, hb⟩
  exact ⟨_, ⟨_, _, ⟨_, ⟨_, _, rfl, ⟨_, _, rfl, rfl, rfl⟩, rfl⟩, rfl⟩, ⟨_, _, rfl, rfl, rfl⟩, rfl⟩, rfl⟩
def widthV : SV := .tuple [.int .i64 (.app 240 [.var 0, .var 1]), .int .i64 (.app 241 [.var 0, .var 1])]
def widthFC : FC := ⟨96, [(true, [some .i64, some .i64])], widthV, [], [], []⟩
theorem widthFC_ok : widthFC.OK Try.prog sfn := by
  refine ⟨rfl, by kernel_rfl, fun r hr _ => ?_⟩
  obtain ⟨xs0, r0, rfl, hw0, _, er⟩ := hr
  obtain ⟨a, b, rfl⟩ := wl2 hw0
  rw [show r0 = [] from er]
  refine ⟨fun be hm => by simp [widthFC] at hm, fun e0 lo hi hm => by simp [widthFC] at hm, fun w => (Width_any a b w).mono ?_⟩
  rintro e0 w' ⟨rfl, hb⟩
  refine ⟨_, rfl, fun ρ => ?_, hb⟩
  exact ⟨_, ⟨_, _, rfl, ⟨_, _, rfl, rfl, rfl⟩, rfl⟩, rfl⟩
def widthRFC : FC := ⟨97, [(true, [some .i64, some .i64])], widthV, [], [], []⟩
theorem widthRFC_ok : widthRFC.OK Try.prog sfn := by
  refine ⟨rfl, by kernel_rfl, fun r hr _ => ?_⟩
  obtain ⟨xs0, r0, rfl, hw0, _, er⟩ := hr
  obtain ⟨a, b, rfl⟩ := wl2 hw0
  rw [show r0 = [] from er]
  refine ⟨fun be hm => by simp [widthRFC] at hm, fun e0 lo hi hm => by simp [widthRFC] at hm, fun w => (rWidth_any a b w).mono ?_⟩
  rintro e0 w' ⟨rfl, hb⟩
  refine ⟨_, rfl, fun ρ => ?_, hb⟩
  exact ⟨_, ⟨_, _, rfl, ⟨_, _, rfl, rfl, rfl⟩, rfl⟩, rfl⟩
def middleV : SV := .tuple [.int .i64 (.app 250 [.var 0, .var 1]), .int .i64 (.app 251 [.var 0, .var 1])]
def middleFC : FC := ⟨98, [(true, [some .i64, some .i64])], middleV, [], [], []⟩
theorem middleFC_ok : middleFC.OK Try.prog sfn := by
  refine ⟨rfl, by kernel_rfl, fun r hr _ => ?_⟩
  obtain ⟨xs0, r0, rfl, hw0, _, er⟩ := hr
  obtain ⟨a, b, rfl⟩ := wl2 hw0
  rw [show r0 = [] from er]
  refine ⟨fun be hm => by simp [middleFC] at hm, fun e0 lo hi hm => by simp [middleFC] at hm, fun w => (Middle_any a b w).mono ?_⟩
  rintro e0 w' ⟨rfl, hb⟩
  refine ⟨_, rfl, fun ρ => ?_, hb⟩
  exact ⟨_, ⟨_, _, rfl, ⟨_, _, rfl, rfl, rfl⟩, rfl⟩, rfl⟩
def middleRFC : FC := ⟨99, [(true, [some .i64, some .i64])], middleV, [], [], []⟩
theorem middleRFC_ok : middleRFC.OK Try.prog sfn := by
  refine ⟨rfl, by kernel_rfl, fun r hr _ => ?_⟩
  obtain ⟨xs0, r0, rfl, hw0, _, er⟩ := hr
  obtain ⟨a, b, rfl⟩ := wl2 hw0
  rw [show r0 = [] from er]
  refine ⟨fun be hm => by simp [middleRFC] at hm, fun e0 lo hi hm => by simp [middleRFC] at hm, fun w => (rMiddle_any a b w).mono ?_⟩
  rintro e0 w' ⟨rfl, hb⟩
  refine ⟨_, rfl, fun ρ => ?_, hb⟩
  exact ⟨_, ⟨_, _, rfl, ⟨_, _, rfl, rfl, rfl⟩, rfl⟩, rfl⟩
end Go.Proofs.Ytlaalhbicblbeaa
