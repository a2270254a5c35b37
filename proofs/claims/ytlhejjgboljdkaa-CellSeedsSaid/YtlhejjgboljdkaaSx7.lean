/- Every operation that calls no function of the program. -/
import Derived.Test.YtlhejjgboljdkaaSx6
namespace Go.SX
open Go Go.RowKit
set_option linter.unusedVariables false
set_option linter.unusedSimpArgs false
set_option linter.unusedSectionVars false

section
variable {P : Program} {env : Env} {ρ : Pl} {B : Nat} {cx : Ctx} {tm : T SV} {k : SV → Ctx → Tree} {s : St} {r : Out × St} {w : World} {ev : Operand → Value}
  {dst : Option Tmp} {type : TypeId} {pos : String} {after : Array Edge} {guard : Option (Nat × Bool)}

theorem aop_mem (hc : cx.ok env) (hs : HS env ρ B s.h w) {op : Op} (hop : (∃ t a, op = .load t a) ∨ (∃ t a x, op = .store t a x) ∨ (∃ t, op = .alloc t) ∨ (∃ t x, op = .box t x))
    (hev : EvOK env ρ tm ev op.operands.toList)
    (h : runE env (aop P tm cx ⟨dst, op, type, pos, after, guard⟩ k) s = some r) : Goes P env B r k ρ w (execOp ev ⟨dst, op, type, pos, after, guard⟩) := by
  rcases hop with ⟨t, a, rfl⟩ | ⟨t, a, x, rfl⟩ | ⟨t, rfl⟩ | ⟨t, x, rfl⟩
  · -- load
    simp only [aop] at h
    obtain ⟨v, hv, h⟩ := ev_ok h
    have hX := hev a (by simp [Op.operands]) _ hv
    split at h
    · rename_i a0
      obtain ⟨A, hA, hXe⟩ := hX
      obtain ⟨A0, hA0, rfl⟩ := hA
      obtain ⟨v, V, cx', s', h, hc', hh, hr, hrun⟩ := loadT_ok (P := P) h hc hs hA0
      refine Goes.val h hc' hr (by rw [hh]; exact hs) (run_v ?_)
      rw [hXe]
      simp only [Instr.loadAt, Instr.sureAddr, Sem.run_bind, Sem.run_pure, Result.andThen_ok, hrun]
    · exact (runE_fail h).elim
  · -- store
    simp only [aop] at h
    obtain ⟨v, hv, h⟩ := ev_ok h
    have hX := hev a (by simp [Op.operands]) _ hv
    split at h
    · rename_i a0
      obtain ⟨A, hA, hXe⟩ := hX
      obtain ⟨A0, hA0, rfl⟩ := hA
      obtain ⟨v, hv2, h⟩ := ev_ok h
      have hY := hev x (by simp [Op.operands]) _ hv2
      obtain ⟨s', w', h, hs', hb, hrun⟩ := storeT_ok (P := P) h hs hA0 hY
      refine ⟨_, cx, s', ρ, undef, w', h, hc, ρ.le_refl, ⟨[], rfl, rfl⟩, hs', hb, .inr ⟨?_, rfl⟩⟩
      simp only [execOp, Instr.storeAt, hXe, Instr.sureAddr, Sem.run_bind, Sem.run_pure, Result.andThen_ok, hrun]
    · exact (runE_fail h).elim
  · -- alloc
    simp only [aop] at h
    split at h
    · rename_i l hl
      obtain ⟨i, v, hi, hz, hzl⟩ := zeroL_ok hl
      refine Goes.new (f := fun n => .ptr (some (.c n 0))) (F := fun a => .pointer (some a)) (ob := .cells v.cells t) h hc hs rfl ?_ ?_ ?_
      · exact fun ρ' _ => ⟨rfl, v.cells.toList, ofL_ok hzl, by simp⟩
      · exact fun ρ' n hn => ⟨_, ⟨_, ⟨_, _, hn, rfl⟩, rfl⟩, rfl⟩
      · refine run_v ?_
        simp [Instr.alloc, zeroValue, typeInfo, hi, hz, newVar, newRow]
    · exact (runE_fail h).elim
  · -- box
    simp only [aop] at h
    obtain ⟨v, hv, h⟩ := ev_ok h
    have hX := hev x (by simp [Op.operands]) _ hv
    split at h
    · refine Goes.new (f := fun n => .ptr (some (.c n 0))) (F := fun a => .pointer (some a)) (ob := .cells (ev x).cells t) h hc hs rfl ?_ ?_ ?_
      · exact fun ρ' hle => ⟨rfl, (ev x).cells.toList, (hX.mono hle).cellsL, by simp⟩
      · exact fun ρ' n hn => ⟨_, ⟨_, ⟨_, _, hn, rfl⟩, rfl⟩, rfl⟩
      · refine run_v ?_
        simp [Instr.box, newVar, newRow]
    · exact (runE_fail h).elim

theorem aop_plain (hc : cx.ok env) (hs : HS env ρ B s.h w) {op : Op}
    (hop : (∃ x, op = .move x) ∨ (∃ x, op = .assign x) ∨ (∃ c a b, op = .pick c a b) ∨ (∃ x, op = .nilCheck x) ∨ (∃ o t x y u, op = .binOp o t x y u) ∨ (∃ o t x, op = .unOp o t x) ∨
      (∃ a b x, op = .convert a b x) ∨ (∃ t x, op = .makeInterface t x) ∨ (∃ f a b, op = .makeFunc (.func f) a b) ∨ (∃ t i, op = .extract t i))
    (hev : EvOK env ρ tm ev op.operands.toList)
    (h : runE env (aop P tm cx ⟨dst, op, type, pos, after, guard⟩ k) s = some r) : Goes P env B r k ρ w (execOp ev ⟨dst, op, type, pos, after, guard⟩) := by
  rcases hop with ⟨x, rfl⟩ | ⟨x, rfl⟩ | ⟨c, a, b, rfl⟩ | ⟨x, rfl⟩ | ⟨o, t, x, y, u, rfl⟩ | ⟨o, t, x, rfl⟩ | ⟨a, b, x, rfl⟩ | ⟨t, x, rfl⟩ | ⟨f, a, b, rfl⟩ | ⟨t, i, rfl⟩ <;> simp only [aop] at h
  · obtain ⟨v, hv, h⟩ := ev_ok h
    exact Goes.val h hc (hev x (by simp [Op.operands]) _ hv) hs rfl
  · obtain ⟨v, hv, h⟩ := ev_ok h
    exact Goes.val h hc (hev x (by simp [Op.operands]) _ hv) hs rfl
  · obtain ⟨v, hv, h⟩ := ev_ok h
    have hC := hev c (by simp [Op.operands]) _ hv
    split at h
    · rename_i q
      have hC' : ev c = .bool (q.den env) := hC
      obtain ⟨cx', hc', h⟩ := branch_ok h hc
      split at h
      · rename_i hq
        obtain ⟨v, hv, h⟩ := ev_ok h
        refine Goes.val h hc' (hev a (by simp [Op.operands]) _ hv) hs ?_
        simp [execOp, hC', asBool, hq]
      · rename_i hq
        have hq' : q.den env = false := by simpa using hq
        obtain ⟨v, hv, h⟩ := ev_ok h
        refine Goes.val h hc' (hev b (by simp [Op.operands]) _ hv) hs ?_
        simp [execOp, hC', asBool, hq']
    · exact (runE_fail h).elim
  · obtain ⟨v, hv, h⟩ := ev_ok h
    have hX := hev x (by simp [Op.operands]) _ hv
    split at h
    · obtain ⟨A, hA, hXe⟩ := hX
      obtain ⟨A0, hA0, rfl⟩ := hA
      refine Goes.val h hc ⟨_, ⟨A0, hA0, rfl⟩, rfl⟩ hs ?_
      simp [execOp, hXe]
    · rename_i f a b
      obtain ⟨g, fs, cs, hg, h1, h2, hXe⟩ := hX
      refine Goes.val h hc ⟨g, fs, cs, hg, h1, h2, rfl⟩ hs ?_
      cases f with
      | func f => rw [show g = _ from hg] at hXe ⊢; simp [execOp, hXe]
      | yield l => obtain ⟨r', o', _, rfl⟩ := hg; simp [execOp, hXe]
    · obtain ⟨A, c, h1, h2, h3, hXe⟩ := hX
      refine Goes.val h hc ⟨A, c, h1, h2, h3, rfl⟩ hs ?_
      simp [execOp, hXe]
    · exact (runE_fail h).elim
  · obtain ⟨v, hv, h⟩ := ev_ok h
    obtain ⟨v2, hv2, h⟩ := ev_ok h
    obtain ⟨z, Z, cx', s', h, hc', hh, hr, hrun⟩ := binS_ok (P := P) h hc hs (hev x (by simp [Op.operands]) _ hv) (hev y (by simp [Op.operands]) _ hv2)
    refine Goes.val h hc' hr (by rw [hh]; exact hs) (run_v ?_)
    obtain ⟨h1, h2⟩ := hrun x y
    simp only [Sem.run_bind, h1, Result.andThen_ok, h2]
  · obtain ⟨v, hv, h2⟩ := ev_ok h
    clear h
    have hX := hev x (by simp [Op.operands]) _ hv
    split at h2
    · rename_i kd e
      have hX' : ev x = .int kd (e.den env) := hX
      refine Goes.val h2 hc (V := .int kd (binI .sub kd 0 (e.den env))) ?_ hs (run_v ?_)
      · show _ = _
        rw [mkBin_ok hc]
        rfl
      · simp [Op.unary, hX', Op.intArith, binI]
    · rename_i kd e
      have hX' : ev x = .int kd (e.den env) := hX
      refine Goes.val h2 hc (V := .int kd (binI .xor kd (if kd.signed then -1 else kd.max) (e.den env))) ?_ hs (run_v ?_)
      · show _ = _
        rw [mkBin_ok hc]
        rfl
      · simp [Op.unary, hX', Op.intBits, binI]
    · rename_i b
      have hX' : ev x = .bool (b.den env) := hX
      refine Goes.val h2 hc (V := .bool (!b.den env)) ?_ hs (run_v ?_)
      · show _ = _
        rw [mkNeg_ok]
      · simp [Op.unary, hX']
    · exact (runE_fail h2).elim
  · obtain ⟨v, hv, h⟩ := ev_ok h
    have hX := hev x (by simp [Op.operands]) _ hv
    split at h
    · rename_i ds kd k1 e h1 h2
      have hX' : ev x = .int k1 (e.den env) := hX
      refine Goes.val h hc (V := .int kd (kd.wrap (e.den env))) ?_ hs (run_v ?_)
      · show _ = _
        rw [mkConv_ok hc]
      · simp [convert, run_underlying h1, run_underlying h2, hX', Conv.intToInt]
    · rename_i ds b h1 h2
      have hX' : ev x = .string b := hX
      refine Goes.val h hc (V := .string b) rfl hs (run_v ?_)
      simp [convert, run_underlying h1, run_underlying h2, hX']
    · exact (runE_fail h).elim
  · obtain ⟨v, hv, h⟩ := ev_ok h
    have hX := hev x (by simp [Op.operands]) _ hv
    split at h
    · exact (runE_fail h).elim
    · rename_i d hno hd
      refine Goes.val h hc (V := .iface t (ev x)) ⟨ev x, hX, rfl⟩ hs (run_v ?_)
      simp only [Instr.makeInterface, Sem.run_bind, run_underlying hd, Result.andThen_ok]
      first
        | rfl
        | (split
           · rename_i ms; exact absurd rfl (hno ms)
           · rfl)
    · exact (runE_fail h).elim
  · split at h
    · rename_i xs ys h1 h2
      have e1 := evalL_ok (env := env) (ρ := ρ) (ev := ev) (l := a.toList) (fun y hy => hev y (by simp [Op.operands] at hy ⊢; exact .inl hy)) h1
      have e2 := evalL_ok (env := env) (ρ := ρ) (ev := ev) (l := b.toList) (fun y hy => hev y (by simp [Op.operands] at hy ⊢; exact .inr hy)) h2
      refine Goes.val h hc (V := .func (.func f) (a.map ev) (b.map ev)) ⟨.func f, _, _, rfl, e1, e2, by rw [← Array.toList_map, ← Array.toList_map, Array.toArray_toList, Array.toArray_toList]⟩ hs (run_v ?_)
      rfl
    · exact (runE_fail h).elim
  · obtain ⟨v, hv, h⟩ := ev_ok h
    have hX := hev t (by simp [Op.operands]) _ hv
    split at h
    · rename_i l
      obtain ⟨vs, hvs, hXe⟩ := hX
      split at h
      · rename_i v hv
        obtain ⟨u, hu, hr⟩ := hvs.get hv
        refine Goes.val h hc hr hs (run_v ?_)
        simp [Instr.extract, hXe, hu]
      · exact (runE_fail h).elim
    · exact (runE_fail h).elim

theorem aop_make (hc : cx.ok env) (hs : HS env ρ B s.h w) {t : TypeId} {l c : Operand}
    (hev : EvOK env ρ tm ev (Op.makeSlice t l c).operands.toList)
    (h : runE env (aop P tm cx ⟨dst, .makeSlice t l c, type, pos, after, guard⟩ k) s = some r) : Goes P env B r k ρ w (execOp ev ⟨dst, .makeSlice t l c, type, pos, after, guard⟩) := by
  simp only [aop] at h
  split at h
  · rename_i e k1 n k2 m hu hl hcp
    have hL : ev l = .int k1 n := hev l (by simp [Op.operands]) _ hl
    have hC : ev c = .int k2 m := hev c (by simp [Op.operands]) _ hcp
    split at h
    · rename_i i z hi hz
      obtain ⟨it, v, hit, hiz, hzl⟩ := zeroL_ok hz
      rw [hi] at hit
      cases hit
      split at h
      · rename_i hcond
        obtain ⟨h0, h1, h2, h3, h4⟩ := hcond
        refine Goes.new (f := fun nm => .slice (some (.c nm 0)) (.lit n) (some (.lit m))) (F := fun a => .slice (some a) n.toNat m.toNat) (ob := .cells (madeCells v.cells (m.toNat * i.size)) e) h hc hs rfl ?_ ?_ ?_
        · exact fun ρ' _ => ⟨rfl, _, repeatL_ok (ofL_ok hzl) h4 _, by simp⟩
        · intro ρ' nm hn
          exact ⟨some ⟨w.heap.size, 0, none⟩, m.toNat, ⟨_, ⟨_, _, hn, rfl⟩, rfl⟩, by simp [RepC, E.den], by simp [E.den]; omega, by simp [E.den]⟩
        · refine run_v ?_
          rw [hL, hC]
          exact run_make w t e i v hu hi hiz k1 k2 n m h0 h1 (by omega) (by omega)
      · exact (runE_fail h).elim
    · exact (runE_fail h).elim
  · exact (runE_fail h).elim

theorem aop_field (hc : cx.ok env) (hs : HS env ρ B s.h w) {op : Op} (hop : (∃ t x f, op = .fieldAddr t x f) ∨ (∃ t x f, op = .field t x f))
    (hev : EvOK env ρ tm ev op.operands.toList)
    (h : runE env (aop P tm cx ⟨dst, op, type, pos, after, guard⟩ k) s = some r) : Goes P env B r k ρ w (execOp ev ⟨dst, op, type, pos, after, guard⟩) := by
  rcases hop with ⟨t, x, f, rfl⟩ | ⟨t, x, f, rfl⟩ <;> simp only [aop] at h
  · obtain ⟨v, hv, h⟩ := ev_ok h
    have hX := hev x (by simp [Op.operands]) _ hv
    split at h
    · rename_i a fs hu
      obtain ⟨A, hA, hXe⟩ := hX
      obtain ⟨A0, hA0, rfl⟩ := hA
      split at h
      · rename_i fd hfd
        split at h
        · rename_i n hn
          refine Goes.val h hc (V := .pointer (some (A0.add fd.offset))) ⟨_, ⟨_, SA.plus_ok hA0 _, rfl⟩, rfl⟩ hs (run_v ?_)
          simp [Instr.fieldAt, run_underlying hu, hfd, hXe, Instr.sureAddr, fieldPlace, run_sizeOf' hn]
        · exact (runE_fail h).elim
      · exact (runE_fail h).elim
    · exact (runE_fail h).elim
  · obtain ⟨v, hv, h⟩ := ev_ok h
    have hX := hev x (by simp [Op.operands]) _ hv
    split at h
    · rename_i l fs hu
      obtain ⟨vs, hvs, hXe⟩ := hX
      split at h
      · rename_i fd hfd
        split at h
        · rename_i n hagg hn
          split at h
          · rename_i r' hr'
            obtain ⟨rfl, hl⟩ := cut_ok hr'
            refine Goes.val h hc (V := .agg ((vs.drop fd.offset).take n).toArray) ⟨_, (hvs.drop _).take _, rfl⟩ hs (run_v ?_)
            simp [Instr.field, run_underlying hu, hfd, hXe, asAgg, part, run_isAgg' hagg, run_sizeOf' hn, List.extract_eq_take_drop]
          · exact (runE_fail h).elim
        · rename_i o1 hagg
          split at h
          · rename_i v hv
            obtain ⟨u, hu2, hr⟩ := hvs.get hv
            refine Goes.val h hc hr hs (run_v ?_)
            simp [Instr.field, run_underlying hu, hfd, hXe, asAgg, part, run_isAgg' hagg, hu2]
          · exact (runE_fail h).elim
        · exact (runE_fail h).elim
      · exact (runE_fail h).elim
    · exact (runE_fail h).elim

theorem aop_index (hc : cx.ok env) (hs : HS env ρ B s.h w) {op : Op} (hop : (∃ t x i, op = .indexAddr t x i) ∨ (∃ t x i, op = .index t x i))
    (hev : EvOK env ρ tm ev op.operands.toList)
    (h : runE env (aop P tm cx ⟨dst, op, type, pos, after, guard⟩ k) s = some r) : Goes P env B r k ρ w (execOp ev ⟨dst, op, type, pos, after, guard⟩) := by
  rcases hop with ⟨t, x, ix, rfl⟩ | ⟨t, x, ix, rfl⟩ <;> simp only [aop] at h
  · obtain ⟨v, hv, h1⟩ := ev_ok h
    obtain ⟨v2, hv2, h2⟩ := ev_ok h1
    clear h h1
    revert h2
    intro h
    have hX := hev x (by simp [Op.operands]) _ hv
    have hI := hev ix (by simp [Op.operands]) _ hv2
    split at h
    · rename_i e a len cap kd i hu
      obtain ⟨A, c, hA, _, hlen0, hXe⟩ := hX
      obtain ⟨A0, hA0, rfl⟩ := hA
      have hI' : ev ix = .int kd (i.den env) := hI
      split at h
      · rename_i m hm
        obtain ⟨h1, cx1, hc1, h⟩ := need_ok h hc
        obtain ⟨h2, cx2, hc2, h⟩ := need_ok h hc1
        rw [mkCmp_ok hc] at h1
        rw [mkCmp_ok hc1] at h2
        simp only [cmpI, decide_eq_true_eq, E.den, ge_iff_le] at h1 h2
        split at h
        · rename_i b hb
          refine Goes.val h hc2 (V := .pointer (some (A0.add ((i.den env).toNat * m)))) ⟨_, ⟨_, SA.elem_ok hb hA0 h1, rfl⟩, rfl⟩ hs (run_v ?_)
          have h3 : i.den env < ((len.den env).toNat : Int) := by omega
          have h4 : ¬ (max (len.den env) 0 ≤ i.den env) := by omega
          simp [Instr.indexAt, hXe, hI', asIntOf, run_underlying hu, h1, h3, h4, run_sizeOf' hm]
        · exact (runE_fail h).elim
      · exact (runE_fail h).elim
    · rename_i n e a kd i hu
      obtain ⟨A, hA, hXe⟩ := hX
      obtain ⟨A0, hA0, rfl⟩ := hA
      have hI' : ev ix = .int kd (i.den env) := hI
      split at h
      · rename_i m hm
        obtain ⟨h1, cx1, hc1, h⟩ := need_ok h hc
        obtain ⟨h2, cx2, hc2, h⟩ := need_ok h hc1
        rw [mkCmp_ok hc] at h1
        rw [mkCmp_ok hc1] at h2
        simp only [cmpI, decide_eq_true_eq, E.den, ge_iff_le] at h1 h2
        split at h
        · rename_i b hb
          refine Goes.val h hc2 (V := .pointer (some (A0.add ((i.den env).toNat * m)))) ⟨_, ⟨_, SA.elem_ok hb hA0 h1, rfl⟩, rfl⟩ hs (run_v ?_)
          have h3 : i.den env < (n : Int) := of_decide_eq_true h2
          simp [Instr.indexAt, hXe, hI', asIntOf, run_underlying hu, h1, h3, run_sizeOf' hm, Instr.sureAddr]
        · exact (runE_fail h).elim
      · exact (runE_fail h).elim
    · exact (runE_fail h).elim
  · obtain ⟨v, hv, h1⟩ := ev_ok h
    obtain ⟨v2, hv2, h2⟩ := ev_ok h1
    clear h h1
    revert h2
    intro h
    have hX := hev x (by simp [Op.operands]) _ hv
    have hI := hev ix (by simp [Op.operands]) _ hv2
    split at h
    · rename_i n e l kd i hu
      obtain ⟨vs, hvs, hXe⟩ := hX
      have hI' : ev ix = .int kd i := hI
      split at h
      · rename_i m hagg hm
        split at h
        · rename_i hin
          split at h
          · rename_i r' hr'
            obtain ⟨rfl, hl⟩ := cut_ok hr'
            refine Goes.val h hc (V := .agg ((vs.drop (i.toNat * m)).take m).toArray) ⟨_, (hvs.drop _).take _, rfl⟩ hs (run_v ?_)
            simp [Instr.index, run_underlying hu, hXe, hI', asIntOf, hin.1, hin.2, part, run_isAgg' hagg, run_sizeOf' hm, List.extract_eq_take_drop]
          · exact (runE_fail h).elim
        · exact (runE_fail h).elim
      · rename_i m hagg hm
        split at h
        · rename_i hin
          split at h
          · rename_i v hv
            obtain ⟨u, hu2, hr⟩ := hvs.get hv
            refine Goes.val h hc hr hs (run_v ?_)
            simp [Instr.index, run_underlying hu, hXe, hI', asIntOf, hin.1, hin.2, part, run_isAgg' hagg, run_sizeOf' hm, hu2]
          · exact (runE_fail h).elim
        · exact (runE_fail h).elim
      · exact (runE_fail h).elim
    · rename_i str kd i hu
      have hX' : ev x = .string str := hX
      have hI' : ev ix = .int kd i := hI
      split at h
      · rename_i hin
        split at h
        · rename_i b hb
          refine Goes.val h hc (V := .int .u8 b.toNat) rfl hs (run_v ?_)
          simp [Instr.index, run_underlying hu, hX', hI', asIntOf, hin, hb]
        · exact (runE_fail h).elim
      · exact (runE_fail h).elim
    · exact (runE_fail h).elim

theorem aop_builtin (hc : cx.ok env) (hs : HS env ρ B s.h w) {c : Call}
    (hev : EvOK env ρ tm ev (Op.call c).operands.toList)
    (h : runE env (aop P tm cx ⟨dst, .call c, type, pos, after, guard⟩ k) s = some r) : Goes P env B r k ρ w (execOp ev ⟨dst, .call c, type, pos, after, guard⟩) := by
  simp only [aop] at h
  have hargs : ∀ x, x ∈ c.args.toList → ∀ s, evalO tm x = some s → Rep env ρ s (ev x) := fun x hx s hs' => hev x (by simp [Op.operands, Call.operands] at hx ⊢; exact .inr hx) s hs'
  split at h
  · -- len
    rename_i hcal
    split at h
    · rename_i x t hx ht
      obtain ⟨v, hv, h⟩ := ev_ok h
      have hX := hargs x (by rw [hx]; simp) _ hv
      have hxa : c.args = #[x] := by rw [← Array.toArray_toList (xs := c.args), hx]
      have key : ∀ V w', (Builtin.len_ c.argTypes type #[ev x]).run P w = .ok V w' → (execOp ev ⟨dst, .call c, type, pos, after, guard⟩).run P w = .ok (.value V) w' := by
        intro V w' hV
        simp [execOp, Go.resolve, hcal, invoke, builtin, hxa, hV]
      split at h
      · rename_i e a len cap hu
        obtain ⟨A, cc, hA, _, hlen0, hXe⟩ := hX
        refine Goes.val h hc (V := .int .i64 (len.den env)) rfl hs (key _ _ ?_)
        have h5 : ((len.den env).toNat : Int) = len.den env := by omega
        simp [Builtin.len_, ht, run_underlying hu, hXe, goInt, h5]
      · rename_i str hu
        have hX' : ev x = .string str := hX
        refine Goes.val h hc (V := .int .i64 str.size) rfl hs (key _ _ ?_)
        simp [Builtin.len_, ht, run_underlying hu, hX', goInt]
      · rename_i v n e hu
        refine Goes.val h hc (V := .int .i64 n) rfl hs (key _ _ ?_)
        simp [Builtin.len_, ht, run_underlying hu, goInt]
      · rename_i a b hu
        have hX' : ev x = .map none := hX
        refine Goes.val h hc (V := .int .i64 0) rfl hs (key _ _ ?_)
        simp [Builtin.len_, ht, run_underlying hu, hX', goInt]
      · exact (runE_fail h).elim
    · exact (runE_fail h).elim
  · -- cap
    rename_i hcal
    split at h
    · rename_i x t hx ht
      obtain ⟨v, hv, h⟩ := ev_ok h
      have hX := hargs x (by rw [hx]; simp) _ hv
      have hxa : c.args = #[x] := by rw [← Array.toArray_toList (xs := c.args), hx]
      split at h
      · rename_i e a len ce hu
        obtain ⟨A, cc, hA, hcc, hlen0, hXe⟩ := hX
        obtain ⟨h1, cx1, hc1, h⟩ := need_ok h hc
        rw [mkCmp_ok hc] at h1
        simp only [cmpI, decide_eq_true_eq, E.den, ge_iff_le] at h1
        have hcc' : cc = (ce.den env).toNat := hcc
        refine Goes.val h hc1 (V := .int .i64 (ce.den env)) rfl hs ?_
        have h5 : ((ce.den env).toNat : Int) = ce.den env := by omega
        simp [execOp, Go.resolve, hcal, invoke, builtin, hxa, Builtin.cap_, ht, run_underlying hu, hXe, goInt, hcc', h5]
      · exact (runE_fail h).elim
    · exact (runE_fail h).elim
  · -- max
    rename_i hcal
    split at h
    · rename_i l hl
      have hL := evalL_ok (env := env) (ρ := ρ) (ev := ev) hargs hl
      split at h
      · rename_i kd e hm
        cases l with
        | nil => simp [mmS] at hm
        | cons x l =>
          obtain ⟨X, vs, hX, hvs, hXe⟩ := hL
          obtain ⟨Y, hY, hrun⟩ := mmS_ok (P := P) hc (.inl rfl) w l vs x X _ hvs hX hm ⟨_, _, rfl⟩
          refine Goes.val h hc hY hs ?_
          have hr2 : (List.foldlM Builtin.max2 X vs).run P w = .ok Y w := hrun
          simp [execOp, Go.resolve, hcal, invoke, builtin, Builtin.max_, hXe, hr2]
      · exact (runE_fail h).elim
    · exact (runE_fail h).elim
  · -- min
    rename_i hcal
    split at h
    · rename_i l hl
      have hL := evalL_ok (env := env) (ρ := ρ) (ev := ev) hargs hl
      split at h
      · rename_i kd e hm
        cases l with
        | nil => simp [mmS] at hm
        | cons x l =>
          obtain ⟨X, vs, hX, hvs, hXe⟩ := hL
          obtain ⟨Y, hY, hrun⟩ := mmS_ok (P := P) hc (.inr rfl) w l vs x X _ hvs hX hm ⟨_, _, rfl⟩
          refine Goes.val h hc hY hs ?_
          have hr2 : (List.foldlM Builtin.min2 X vs).run P w = .ok Y w := hrun
          simp [execOp, Go.resolve, hcal, invoke, builtin, Builtin.min_, hXe, hr2]
      · exact (runE_fail h).elim
    · exact (runE_fail h).elim
  · exact (runE_fail h).elim

/-- every operation of 'aop' -/
theorem aop_ok (hc : cx.ok env) (hs : HS env ρ B s.h w) {o : Oper} (hev : EvOK env ρ tm ev o.op.operands.toList)
    (h : runE env (aop P tm cx o k) s = some r) : Goes P env B r k ρ w (execOp ev o) := by
  obtain ⟨dst, op, type, pos, after, guard⟩ := o
  cases op
  case move x => exact aop_plain hc hs (.inl ⟨_, rfl⟩) hev h
  case assign x => exact aop_plain hc hs (.inr (.inl ⟨_, rfl⟩)) hev h
  case pick c a b => exact aop_plain hc hs (.inr (.inr (.inl ⟨_, _, _, rfl⟩))) hev h
  case nilCheck x => exact aop_plain hc hs (.inr (.inr (.inr (.inl ⟨_, rfl⟩)))) hev h
  case binOp o t x y u => exact aop_plain hc hs (.inr (.inr (.inr (.inr (.inl ⟨_, _, _, _, _, rfl⟩))))) hev h
  case unOp o t x => exact aop_plain hc hs (.inr (.inr (.inr (.inr (.inr (.inl ⟨_, _, _, rfl⟩)))))) hev h
  case convert a b x => exact aop_plain hc hs (.inr (.inr (.inr (.inr (.inr (.inr (.inl ⟨_, _, _, rfl⟩))))))) hev h
  case makeInterface t x => exact aop_plain hc hs (.inr (.inr (.inr (.inr (.inr (.inr (.inr (.inl ⟨_, _, rfl⟩)))))))) hev h
  case extract t i => exact aop_plain hc hs (.inr (.inr (.inr (.inr (.inr (.inr (.inr (.inr (.inr ⟨_, _, rfl⟩))))))))) hev h
  case load t a => exact aop_mem hc hs (.inl ⟨_, _, rfl⟩) hev h
  case store t a x => exact aop_mem hc hs (.inr (.inl ⟨_, _, _, rfl⟩)) hev h
  case alloc t => exact aop_mem hc hs (.inr (.inr (.inl ⟨_, rfl⟩))) hev h
  case box t x => exact aop_mem hc hs (.inr (.inr (.inr ⟨_, _, rfl⟩))) hev h
  case build t ps => exact aop_build hc hs hev h
  case buildSlice t n ps => exact aop_buildSlice hc hs hev h
  case makeSlice t l c => exact aop_make hc hs hev h
  case fieldAddr t x f => exact aop_field hc hs (.inl ⟨_, _, _, rfl⟩) hev h
  case field t x f => exact aop_field hc hs (.inr ⟨_, _, _, rfl⟩) hev h
  case indexAddr t x i => exact aop_index hc hs (.inl ⟨_, _, _, rfl⟩) hev h
  case index t x i => exact aop_index hc hs (.inr ⟨_, _, _, rfl⟩) hev h
  case call c => exact aop_builtin hc hs hev h
  case makeFunc fn a b =>
    cases fn
    case func f => exact aop_plain hc hs (.inr (.inr (.inr (.inr (.inr (.inr (.inr (.inr (.inl ⟨_, _, _, rfl⟩))))))))) hev h
    all_goals (simp only [aop] at h; exact (runE_fail h).elim)
  case slice t x lo hi mx =>
    cases mx with
    | none => exact aop_slice hc hs hev h
    | some m => simp only [aop] at h; exact (runE_fail h).elim
  all_goals (simp only [aop] at h; exact (runE_fail h).elim)
end

end Go.SX
