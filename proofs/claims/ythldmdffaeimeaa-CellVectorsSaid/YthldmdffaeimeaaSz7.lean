/- Every operation that calls no function of the program. -/
import Derived.Test.YthldmdffaeimeaaSz6
namespace Go.SX
open Go Go.RowKit
set_option linter.unusedVariables false
set_option linter.unusedSimpArgs false
set_option linter.unusedSectionVars false

section
variable {P : Program} {env : Env} {ρ : Pl} {B : Nat} {cx : Ctx} {tm : T SV} {k : SV → Ctx → Tree} {s : St} {r : Out × St} {w : World} {ev : Operand → Value}
  {dst : Option Tmp} {type : TypeId} {pos : String} {after : Array Edge} {guard : Option (Nat × Bool)}

theorem aop_mem (hc : cx.ok env) (hs : HS env ρ B s.h w) {op : Op} (hop : (∃ t a, op = .load t a) ∨ (∃ t a x, op = .store t a x) ∨ (∃ t, op = .alloc t) ∨ (∃ t x, op = .box t x))
    (hev : EvOK env ρ tm ev op.operands.toList)
    (h : runE env (aop P tm cx ⟨dst, op, type, pos, after, guard⟩ k) s = some r) : Goes P env B r k ρ w (execOp ev ⟨dst, op, type, pos, after, guard⟩) := by
  rcases hop with ⟨t, a, rfl⟩ | ⟨t, a, x, rfl⟩ | ⟨t, rfl⟩ | ⟨t, x, rfl⟩
  · -- load
    simp only [aop] at h
    obtain ⟨v, hv, h⟩ := ev_ok h
    have hX := hev a (by simp [Op.operands]) _ hv
    split at h
    · rename_i a0
      obtain ⟨A, hA, hXe⟩ := hX
      obtain ⟨A0, hA0, rfl⟩ := hA
      obtain ⟨v, V, cx', s', h, hc', hh, hr, hrun⟩ := loadT_ok (P := P) h hc hs hA0
      refine Goes.val h hc' hr (by rw [hh]; exact hs) (run_v ?_)
      rw [hXe]
      simp only [Instr.loadAt, Instr.sureAddr, Sem.run_bind, Sem.run_pure, Result.andThen_ok, hrun]
    · exact (runE_fail h).elim
  · -- store
    simp only [aop] at h
    obtain ⟨v, hv, h⟩ := ev_ok h
    have hX := hev a (by simp [Op.operands]) _ hv
    split at h
    · rename_i a0
      obtain ⟨A, hA, hXe⟩ := hX
      obtain ⟨A0, hA0, rfl⟩ := hA
      obtain ⟨v, hv2, h⟩ := ev_ok h
      have hY := hev x (by simp [Op.operands]) _ hv2
      obtain ⟨s', w', h, hs', hb, hrun⟩ := storeT_ok (P := P) h hs hA0 hY
      refine ⟨_, cx, s', ρ, undef, w', h, hc, ρ.le_refl, ⟨[], rfl, rfl⟩, hs', hb, .inr ⟨?_, rfl⟩⟩
      simp only [execOp, Instr.storeAt, hXe, Instr.sureAddr, Sem.run_bind, Sem.run_pure, Result.andThen_ok, hrun]
    · exact (runE_fail h).elim
  · -- alloc
    simp only [aop] at h
    split at h
    · rename_i l hl
      obtain ⟨i, v, hi, hz, hzl⟩ := zeroL_ok hl
      refine Goes.new (f := fun n => .ptr (some (.c n 0))) (F := fun a => .pointer (some a)) (ob := .cells v.cells t) h hc hs rfl ?_ ?_ ?_
      · exact fun ρ' _ => ⟨rfl, v.cells.toList, ofL_ok hzl, by simp⟩
      · exact fun ρ' n hn => ⟨_, ⟨_, ⟨_, _, hn, rfl⟩, rfl⟩, rfl⟩
      · refine run_v ?_
        simp [Instr.alloc, zeroValue, typeInfo, hi, hz, newVar, newRow]
    · exact (runE_fail h).elim
  · -- box
    simp only [aop] at h
    obtain ⟨v, hv, h⟩ := ev_ok h
    have hX := hev x (by simp [Op.operands]) _ hv
    split at h
    · rename_i hfl
      refine Goes.new (f := fun n => .ptr (some (.c n 0))) (F := fun a => .pointer (some a)) (ob := .cells (ev x).cells t) h hc hs rfl ?_ ?_ ?_
      · exact fun ρ' hle => ⟨rfl, (ev x).cells.toList, (hX.mono hle).cellsL (SV.isAny_of hfl), by simp⟩
      · exact fun ρ' n hn => ⟨_, ⟨_, ⟨_, _, hn, rfl⟩, rfl⟩, rfl⟩
      · refine run_v ?_
        simp [Instr.box, newVar, newRow]
    · exact (runE_fail h).elim

theorem aop_plain (hc : cx.ok env) (hs : HS env ρ B s.h w) {op : Op}
    (hop : (∃ x, op = .move x) ∨ (∃ x, op = .assign x) ∨ (∃ c a b, op = .pick c a b) ∨ (∃ x, op = .nilCheck x) ∨ (∃ o t x y u, op = .binOp o t x y u) ∨ (∃ o t x, op = .unOp o t x) ∨
      (∃ a b x, op = .convert a b x) ∨ (∃ t x, op = .makeInterface t x) ∨ (∃ f a b, op = .makeFunc (.func f) a b) ∨ (∃ t i, op = .extract t i))
    (hev : EvOK env ρ tm ev op.operands.toList)
    (h : runE env (aop P tm cx ⟨dst, op, type, pos, after, guard⟩ k) s = some r) : Goes P env B r k ρ w (execOp ev ⟨dst, op, type, pos, after, guard⟩) := by
  rcases hop with ⟨x, rfl⟩ | ⟨x, rfl⟩ | ⟨c, a, b, rfl⟩ | ⟨x, rfl⟩ | ⟨o, t, x, y, u, rfl⟩ | ⟨o, t, x, rfl⟩ | ⟨a, b, x, rfl⟩ | ⟨t, x, rfl⟩ | ⟨f, a, b, rfl⟩ | ⟨t, i, rfl⟩ <;> simp only [aop] at h
  · obtain ⟨v, hv, h⟩ := ev_ok h
    exact Goes.val h hc (hev x (by simp [Op.operands]) _ hv) hs rfl
  · obtain ⟨v, hv, h⟩ := ev_ok h
    exact Goes.val h hc (hev x (by simp [Op.operands]) _ hv) hs rfl
  · obtain ⟨v, hv, h⟩ := ev_ok h
    have hC := hev c (by simp [Op.operands]) _ hv
    split at h
    · rename_i q
      have hC' : ev c = .bool (q.den env) := hC
      obtain ⟨cx', hc', h⟩ := branch_ok h hc
      split at h
      · rename_i hq
        obtain ⟨v, hv, h⟩ := ev_ok h
        refine Goes.val h hc' (hev a (by simp [Op.operands]) _ hv) hs ?_
        simp [execOp, hC', asBool, hq]
      · rename_i hq
        have hq' : q.den env = false := by simpa using hq
        obtain ⟨v, hv, h⟩ := ev_ok h
        refine Goes.val h hc' (hev b (by simp [Op.operands]) _ hv) hs ?_
        simp [execOp, hC', asBool, hq']
    · exact (runE_fail h).elim
  · obtain ⟨v, hv, h⟩ := ev_ok h
    have hX := hev x (by simp [Op.operands]) _ hv
    split at h
    · obtain ⟨A, hA, hXe⟩ := hX
      obtain ⟨A0, hA0, rfl⟩ := hA
      refine Goes.val h hc ⟨_, ⟨A0, hA0, rfl⟩, rfl⟩ hs ?_
      simp [execOp, hXe]
    · rename_i f a b
      obtain ⟨g, fs, cs, hg, h1, h2, hXe⟩ := hX
      refine Goes.val h hc ⟨g, fs, cs, hg, h1, h2, rfl⟩ hs ?_
      cases f with
      | func f => rw [show g = _ from hg] at hXe ⊢; simp [execOp, hXe]
      | yield l => obtain ⟨r', o', _, rfl⟩ := hg; simp [execOp, hXe]
    · obtain ⟨A, c, h1, h2, h3, hXe⟩ := hX
      refine Goes.val h hc ⟨A, c, h1, h2, h3, rfl⟩ hs ?_
      simp [execOp, hXe]
    · have hX' := hX
      refine Goes.val h hc hX' hs ?_
      obtain ⟨r', o', _, h0, ⟨_, A, c, hXe⟩ | ⟨c, _, hXe⟩⟩ := hX <;> simp [execOp, hXe]
    · exact (runE_fail h).elim
  · obtain ⟨v, hv, h⟩ := ev_ok h
    obtain ⟨v2, hv2, h⟩ := ev_ok h
    obtain ⟨z, Z, cx', s', h, hc', hh, hr, hrun⟩ := binS_ok (P := P) h hc hs (hev x (by simp [Op.operands]) _ hv) (hev y (by simp [Op.operands]) _ hv2)
    refine Goes.val h hc' hr (by rw [hh]; exact hs) (run_v ?_)
    obtain ⟨h1, h2⟩ := hrun x y
    simp only [Sem.run_bind, h1, Result.andThen_ok, h2]
  · obtain ⟨v, hv, h2⟩ := ev_ok h
    clear h
    have hX := hev x (by simp [Op.operands]) _ hv
    split at h2
    · rename_i kd e
      have hX' : ev x = .int kd (e.den env) := hX
      refine Goes.val h2 hc (V := .int kd (binI .sub kd 0 (e.den env))) ?_ hs (run_v ?_)
      · show _ = _
        rw [mkBin_ok hc]
        rfl
      · simp [Op.unary, hX', Op.intArith, binI]
    · rename_i kd e
      have hX' : ev x = .int kd (e.den env) := hX
      refine Goes.val h2 hc (V := .int kd (binI .xor kd (if kd.signed then -1 else kd.max) (e.den env))) ?_ hs (run_v ?_)
      · show _ = _
        rw [mkBin_ok hc]
        rfl
      · simp [Op.unary, hX', Op.intBits, binI]
    · rename_i b
      have hX' : ev x = .bool (b.den env) := hX
      refine Goes.val h2 hc (V := .bool (!b.den env)) ?_ hs (run_v ?_)
      · show _ = _
        rw [mkNeg_ok]
      · simp [Op.unary, hX']
    · exact (runE_fail h2).elim
  · obtain ⟨v, hv, h⟩ := ev_ok h
    have hX := hev x (by simp [Op.operands]) _ hv
    split at h
    · rename_i ds kd k1 e h1 h2
      have hX' : ev x = .int k1 (e.den env) := hX
      refine Goes.val h hc (V := .int kd (kd.wrap (e.den env))) ?_ hs (run_v ?_)
      · show _ = _
        rw [mkConv_ok hc]
      · simp [convert, run_underlying h1, run_underlying h2, hX', Conv.intToInt]
    · rename_i ds b h1 h2
      have hX' : ev x = .string b := hX
      refine Goes.val h hc (V := .string b) rfl hs (run_v ?_)
      simp [convert, run_underlying h1, run_underlying h2, hX']
    · exact (runE_fail h).elim
  · obtain ⟨v, hv, h⟩ := ev_ok h
    have hX := hev x (by simp [Op.operands]) _ hv
    split at h
    · exact (runE_fail h).elim
    · rename_i d hno hd
      refine Goes.val h hc (V := .iface t (ev x)) ⟨ev x, hX, rfl⟩ hs (run_v ?_)
      simp only [Instr.makeInterface, Sem.run_bind, run_underlying hd, Result.andThen_ok]
      first
        | rfl
        | (split
           · rename_i ms; exact absurd rfl (hno ms)
           · rfl)
    · exact (runE_fail h).elim
  · split at h
    · rename_i xs ys h1 h2
      have e1 := evalL_ok (env := env) (ρ := ρ) (ev := ev) (l := a.toList) (fun y hy => hev y (by simp [Op.operands] at hy ⊢; exact .inl hy)) h1
      have e2 := evalL_ok (env := env) (ρ := ρ) (ev := ev) (l := b.toList) (fun y hy => hev y (by simp [Op.operands] at hy ⊢; exact .inr hy)) h2
      refine Goes.val h hc (V := .func (.func f) (a.map ev) (b.map ev)) ⟨.func f, _, _, rfl, e1, e2, by rw [← Array.toList_map, ← Array.toList_map, Array.toArray_toList, Array.toArray_toList]⟩ hs (run_v ?_)
      rfl
    · exact (runE_fail h).elim
  · obtain ⟨v, hv, h⟩ := ev_ok h
    have hX := hev t (by simp [Op.operands]) _ hv
    split at h
    · rename_i l
      obtain ⟨vs, hvs, hXe⟩ := hX
      split at h
      · rename_i v hv
        obtain ⟨u, hu, hr⟩ := hvs.get hv
        refine Goes.val h hc hr hs (run_v ?_)
        simp [Instr.extract, hXe, hu]
      · exact (runE_fail h).elim
    · exact (runE_fail h).elim

theorem aop_make (hc : cx.ok env) (hs : HS env ρ B s.h w) {t : TypeId} {l c : Operand}
    (hev : EvOK env ρ tm ev (Op.makeSlice t l c).operands.toList)
    (h : runE env (aop P tm cx ⟨dst, .makeSlice t l c, type, pos, after, guard⟩ k) s = some r) : Goes P env B r k ρ w (execOp ev ⟨dst, .makeSlice t l c, type, pos, after, guard⟩) := by
  simp only [aop] at h
  split at h
  · rename_i e k1 n k2 m hu hl hcp
    have hL : ev l = .int k1 n := hev l (by simp [Op.operands]) _ hl
    have hC : ev c = .int k2 m := hev c (by simp [Op.operands]) _ hcp
    split at h
    · rename_i i z hi hz
      obtain ⟨it, v, hit, hiz, hzl⟩ := zeroL_ok hz
      rw [hi] at hit
      cases hit
      split at h
      · rename_i hcond
        obtain ⟨h0, h1, h2, h3, h4⟩ := hcond
        refine Goes.new (f := fun nm => .slice (some (.c nm 0)) (.lit n) (some (.lit m))) (F := fun a => .slice (some a) n.toNat m.toNat) (ob := .cells (madeCells v.cells (m.toNat * i.size)) e) h hc hs rfl ?_ ?_ ?_
        · exact fun ρ' _ => ⟨rfl, _, repeatL_ok (ofL_ok hzl) h4 _, by simp⟩
        · intro ρ' nm hn
          exact ⟨some ⟨w.heap.size, 0, none⟩, m.toNat, ⟨_, ⟨_, _, hn, rfl⟩, rfl⟩, by simp [RepC, E.den], by simp [E.den]; omega, by simp [E.den]⟩
        · refine run_v ?_
          rw [hL, hC]
          exact run_make w t e i v hu hi hiz k1 k2 n m h0 h1 (by omega) (by omega)
      · exact (runE_fail h).elim
    · exact (runE_fail h).elim
  · exact (runE_fail h).elim

theorem aop_field (hc : cx.ok env) (hs : HS env ρ B s.h w) {op : Op} (hop : (∃ t x f, op = .fieldAddr t x f) ∨ (∃ t x f, op = .field t x f))
    (hev : EvOK env ρ tm ev op.operands.toList)
    (h : runE env (aop P tm cx ⟨dst, op, type, pos, after, guard⟩ k) s = some r) : Goes P env B r k ρ w (execOp ev ⟨dst, op, type, pos, after, guard⟩) := by
  rcases hop with ⟨t, x, f, rfl⟩ | ⟨t, x, f, rfl⟩ <;> simp only [aop] at h
  · obtain ⟨v, hv, h⟩ := ev_ok h
    have hX := hev x (by simp [Op.operands]) _ hv
    split at h
    · rename_i a fs hu
      obtain ⟨A, hA, hXe⟩ := hX
      obtain ⟨A0, hA0, rfl⟩ := hA
      split at h
      · rename_i fd hfd
        split at h
        · rename_i n hn
          refine Goes.val h hc (V := .pointer (some (A0.add fd.offset))) ⟨_, ⟨_, SA.plus_ok hA0 _, rfl⟩, rfl⟩ hs (run_v ?_)
          simp [Instr.fieldAt, run_underlying hu, hfd, hXe, Instr.sureAddr, fieldPlace, run_sizeOf' hn]
        · exact (runE_fail h).elim
      · exact (runE_fail h).elim
    · exact (runE_fail h).elim
  · obtain ⟨v, hv, h⟩ := ev_ok h
    have hX := hev x (by simp [Op.operands]) _ hv
    split at h
    · rename_i l fs hu
      obtain ⟨vs, hvs, hXe⟩ := hX
      split at h
      · rename_i fd hfd
        split at h
        · rename_i n hagg hn
          split at h
          · rename_i r' hr'
            obtain ⟨rfl, hl⟩ := cut_ok hr'
            refine Goes.val h hc (V := .agg ((vs.drop fd.offset).take n).toArray) ⟨_, (hvs.drop _).take _, rfl⟩ hs (run_v ?_)
            simp [Instr.field, run_underlying hu, hfd, hXe, asAgg, part, run_isAgg' hagg, run_sizeOf' hn, List.extract_eq_take_drop]
          · exact (runE_fail h).elim
        · rename_i o1 hagg
          split at h
          · rename_i v hv
            obtain ⟨u, hu2, hr⟩ := hvs.get hv
            refine Goes.val h hc hr hs (run_v ?_)
            simp [Instr.field, run_underlying hu, hfd, hXe, asAgg, part, run_isAgg' hagg, hu2]
          · exact (runE_fail h).elim
        · exact (runE_fail h).elim
      · exact (runE_fail h).elim
    · exact (runE_fail h).elim

theorem aop_index (hc : cx.ok env) (hs : HS env ρ B s.h w) {op : Op} (hop : (∃ t x i, op = .indexAddr t x i) ∨ (∃ t x i, op = .index t x i))
    (hev : EvOK env ρ tm ev op.operands.toList)
    (h : runE env (aop P tm cx ⟨dst, op, type, pos, after, guard⟩ k) s = some r) : Goes P env B r k ρ w (execOp ev ⟨dst, op, type, pos, after, guard⟩) := by
  rcases hop with ⟨t, x, ix, rfl⟩ | ⟨t, x, ix, rfl⟩ <;> simp only [aop] at h
  · obtain ⟨v, hv, h1⟩ := ev_ok h
    obtain ⟨v2, hv2, h2⟩ := ev_ok h1
    clear h h1
    revert h2
    intro h
    have hX := hev x (by simp [Op.operands]) _ hv
    have hI := hev ix (by simp [Op.operands]) _ hv2
    split at h
    · rename_i e a len cap kd i hu
      obtain ⟨A, c, hA, _, hlen0, hXe⟩ := hX
      obtain ⟨A0, hA0, rfl⟩ := hA
      have hI' : ev ix = .int kd (i.den env) := hI
      split at h
      · rename_i m hm _
        obtain ⟨h1, cx1, hc1, h⟩ := need_ok h hc
        obtain ⟨h2, cx2, hc2, h⟩ := need_ok h hc1
        rw [mkCmp_ok hc] at h1
        rw [mkCmp_ok hc1] at h2
        simp only [cmpI, decide_eq_true_eq, E.den, ge_iff_le] at h1 h2
        split at h
        · rename_i b hb
          refine Goes.val h hc2 (V := .pointer (some (A0.add ((i.den env).toNat * m)))) ⟨_, ⟨_, SA.elem_ok hb hA0 h1, rfl⟩, rfl⟩ hs (run_v ?_)
          have h3 : i.den env < ((len.den env).toNat : Int) := by omega
          have h4 : ¬ (max (len.den env) 0 ≤ i.den env) := by omega
          simp [Instr.indexAt, hXe, hI', asIntOf, run_underlying hu, h1, h3, h4, run_sizeOf' hm]
        · exact (runE_fail h).elim
      · exact (runE_fail h).elim
    · rename_i e b len kd i hu
      obtain ⟨r', o', hρ, hlen0, hX⟩ := hX
      have hI' : ev ix = .int kd (i.den env) := hI
      split at h
      · rename_i m hm
        obtain ⟨h1, cx1, hc1, h⟩ := need_ok h hc
        obtain ⟨h2, cx2, hc2, h⟩ := need_ok h hc1
        rw [mkCmp_ok hc] at h1
        rw [mkCmp_ok hc1] at h2
        simp only [cmpI, decide_eq_true_eq, E.den, ge_iff_le] at h1 h2
        rcases hX with ⟨hz, _⟩ | ⟨c, hcap, hXe⟩
        · omega
        split at h
        · rename_i b' hb
          refine Goes.val h hc2 (V := .pointer (some ((⟨r', o', none⟩ : Addr).add ((i.den env).toNat * m)))) ⟨_, ⟨_, SA.elem_ok hb (show RepA env ρ (.c b 0) ⟨r', o', none⟩ from ⟨r', o', hρ, rfl⟩) h1, rfl⟩, rfl⟩ hs (run_v ?_)
          have h3 : i.den env < ((len.den env).toNat : Int) := by omega
          have h4 : ¬ (max (len.den env) 0 ≤ i.den env) := by omega
          simp [Instr.indexAt, hXe, hI', asIntOf, run_underlying hu, h1, h3, h4, run_sizeOf' hm]
        · exact (runE_fail h).elim
      · exact (runE_fail h).elim
    · rename_i n e a kd i hu
      obtain ⟨A, hA, hXe⟩ := hX
      obtain ⟨A0, hA0, rfl⟩ := hA
      have hI' : ev ix = .int kd (i.den env) := hI
      split at h
      · rename_i m hm
        obtain ⟨h1, cx1, hc1, h⟩ := need_ok h hc
        obtain ⟨h2, cx2, hc2, h⟩ := need_ok h hc1
        rw [mkCmp_ok hc] at h1
        rw [mkCmp_ok hc1] at h2
        simp only [cmpI, decide_eq_true_eq, E.den, ge_iff_le] at h1 h2
        split at h
        · rename_i b hb
          refine Goes.val h hc2 (V := .pointer (some (A0.add ((i.den env).toNat * m)))) ⟨_, ⟨_, SA.elem_ok hb hA0 h1, rfl⟩, rfl⟩ hs (run_v ?_)
          have h3 : i.den env < (n : Int) := of_decide_eq_true h2
          simp [Instr.indexAt, hXe, hI', asIntOf, run_underlying hu, h1, h3, run_sizeOf' hm, Instr.sureAddr]
        · exact (runE_fail h).elim
      · exact (runE_fail h).elim
    · exact (runE_fail h).elim
  · obtain ⟨v, hv, h1⟩ := ev_ok h
    obtain ⟨v2, hv2, h2⟩ := ev_ok h1
    clear h h1
    revert h2
    intro h
    have hX := hev x (by simp [Op.operands]) _ hv
    have hI := hev ix (by simp [Op.operands]) _ hv2
    split at h
    · rename_i n e l kd i hu
      obtain ⟨vs, hvs, hXe⟩ := hX
      have hI' : ev ix = .int kd i := hI
      split at h
      · rename_i m hagg hm
        split at h
        · rename_i hin
          split at h
          · rename_i r' hr'
            obtain ⟨rfl, hl⟩ := cut_ok hr'
            refine Goes.val h hc (V := .agg ((vs.drop (i.toNat * m)).take m).toArray) ⟨_, (hvs.drop _).take _, rfl⟩ hs (run_v ?_)
            simp [Instr.index, run_underlying hu, hXe, hI', asIntOf, hin.1, hin.2, part, run_isAgg' hagg, run_sizeOf' hm, List.extract_eq_take_drop]
          · exact (runE_fail h).elim
        · exact (runE_fail h).elim
      · rename_i m hagg hm
        split at h
        · rename_i hin
          split at h
          · rename_i v hv
            obtain ⟨u, hu2, hr⟩ := hvs.get hv
            refine Goes.val h hc hr hs (run_v ?_)
            simp [Instr.index, run_underlying hu, hXe, hI', asIntOf, hin.1, hin.2, part, run_isAgg' hagg, run_sizeOf' hm, hu2]
          · exact (runE_fail h).elim
        · exact (runE_fail h).elim
      · exact (runE_fail h).elim
    · rename_i str kd i hu
      have hX' : ev x = .string str := hX
      have hI' : ev ix = .int kd i := hI
      split at h
      · rename_i hin
        split at h
        · rename_i b hb
          refine Goes.val h hc (V := .int .u8 b.toNat) rfl hs (run_v ?_)
          simp [Instr.index, run_underlying hu, hX', hI', asIntOf, hin, hb]
        · exact (runE_fail h).elim
      · exact (runE_fail h).elim
    · exact (runE_fail h).elim

/-! ### append -/

theorem zeroCells_size (z : Array Value) (n : Nat) : (Builtin.zeroCells z n).size = n * z.size := by simp [Builtin.zeroCells]

/-- what a row that has been made anew holds -/
theorem grow_bs {env : Env} {ρ' : Pl} {L : List SV} {vs : List Value} {e size need : Nat} {z : Value} {G : Nat} {cur : Array Value} (hr : RepL env ρ' L vs) (hcur : cur = vs.toArray ++ Builtin.zeroCells z.cells (G - need)) (hlen : vs.length = need * size)
    (hz : z.cells.size = size) (hG : need ≤ G) : BS env ρ' (some (.cells cur e (0, 0))) G (.grow L e size) := by
  refine ⟨vs, cur, hr, rfl, ?_, ?_⟩
  · rw [hcur]; simp
  · rw [hcur, Array.size_append, zeroCells_size, hz]
    simp only [List.size_toArray, hlen]
    rw [← Nat.add_mul]
    exact Nat.mul_le_mul_right _ (by omega)

/-- a row is made anew -/
theorem Goes.regrown {f : Nat → SV} {s1 : St} {L : List SV} {e size n G : Nat} {W : World} {cur : Array Value} {sem : Sem Next} (hc : cx.ok env)
    (h : runE env (.new (.grow L e size) fun m => k (f m) cx) s1 = some r) (hs : HS env ρ B s1.h w) (hsz : w.heap.size = W.heap.size) (hk : ∀ k : Nat, W.heap[k]? = w.heap[k]?) (hos : Below B w W)
    (hb : ∀ ρ', ρ.le ρ' → BS env ρ' (some (.cells cur e (0, 0))) G (.grow L e size)) (hG : n ≤ G) (hf : f = fun m => .slice (some (.g m 0)) (.lit (n : Int)) none)
    (hrun : sem.run P w = .ok (.value (.slice (some ⟨w.heap.size, 0, none⟩) n G)) (W.alloc (.cells cur e (0, 0)))) : Goes P env B r k ρ w sem := by
  obtain ⟨hn, h2⟩ := runE_new h
  have hsW : HS env ρ B s1.h W := hs.later (fun k _ => hk k) (by omega)
  obtain ⟨hle, hρ, hs'⟩ := hsW.allocO hn (v := .grow L e size) rfl G hb
  rw [← hsz] at hle hρ hs'
  refine ⟨_, cx, _, _, _, _, h2, hc, hle, ?_, hs', hos.trans ((Below.refl _ _).alloc hsW.size _), .inl hrun⟩
  subst hf
  exact ⟨_, G, ⟨_, ⟨_, _, hρ, rfl⟩, rfl⟩, ⟨by simpa [E.den] using hG, fun b hb => by simp only [capOf, Option.some.injEq] at hb; subst hb; exact ⟨_, hρ⟩⟩, by simp [E.den], by simp [E.den]⟩

theorem below_drew {B : Nat} (w : World) : Below B w w.drew := ⟨rfl, rfl, rfl, Nat.le_refl _, fun _ _ => rfl⟩

set_option maxHeartbeats 800000 in
theorem appN_ok (hc : cx.ok env) (hs : HS env ρ B s.h w) {t e : TypeId} {i : TypeInfo} {z : Value} (hu : P.underlying t = some (.slice e)) (hi : P.info? e = some i) (hz : i.zero = some z) (hzs : z.cells.size = i.size)
    {S : Value} {sv : SV} {l : List SV} {news : List Value} {n c : Nat} {A : Addr} (hS : Rep env ρ sv S) (hl : RepL env ρ l news) (hll : l.length = n * i.size) (hflat : ∀ u, u ∈ news → u.oneCell' = true) (hcells : CellsAt w A news)
    {sem : Sem Next} (hsem : ∀ V w', (Builtin.append_ #[t, t] type #[S, .slice (some A) n c]).run P w = .ok V w' → sem.run P w = .ok (.value V) w')
    (h : runE env (appN P cx e i.size i.bytes sv l n k) s = some r) : Goes P env B r k ρ w sem := by
  have hnl : news.length = n * i.size := by rw [hl.length, hll]
  have capge : ∀ need old, need ≤ grownCap w need old e := fun need old => grownCap_ge w need old e
  unfold appN at h
  split at h
  · -- a row without room, with a place
    rename_i a
    obtain ⟨A0, c0, ⟨A1, hA1, rfl⟩, hcap, _, rfl⟩ := hS
    have hc0 : c0 = 0 := hcap
    subst hc0
    simp only [beq_dec] at h
    by_cases hn : n = 0
    · subst hn
      simp only [decide_true, cond_true] at h
      have hnil : news = [] := List.eq_nil_of_length_eq_zero (by simpa using hnl)
      subst hnil
      refine Goes.val h hc (V := .slice (some A1) 0 0) ⟨_, 0, ⟨A1, hA1, rfl⟩, rfl, by simp [E.den], by simp [E.den]⟩ hs (hsem _ _ ?_)
      have hf := run_firstCells_some (P := P) w i.size 0 A 0 c [] (by simp) (by simp)
      simp [Builtin.append_, run_underlying hu, sizeOf, typeInfo, hi, Builtin.lenOf, hf, storeCells, E.den]
    · simp only [hn, decide_false, cond_false] at h
      cases hb : (Nat.ble (n * i.bytes) 140737488355328 && Nat.ble n 140737488355328) with
      | false => rw [hb] at h; exact (runE_fail h).elim
      | true =>
        rw [hb, cond_true] at h
        simp only [Bool.and_eq_true] at hb
        have hb1 := Nat.le_of_ble_eq_true hb.1
        have hb2 := Nat.le_of_ble_eq_true hb.2
        have hr := run_append_grow (P := P) w t type e i z hu hi hz A1 0 0 [] (by simp) (by simp) A n c news hnl hcells (by omega) (by omega) (growslice_fits (by omega) (by rw [Nat.zero_add]; exact hb1))
        simp only [Nat.zero_add, Array.empty_append] at hr
        exact Goes.regrown hc h hs (W := w.drew) rfl (fun _ => rfl) (below_drew w) (fun ρ' hle => grow_bs (z := z) (hl.mono hle) rfl hnl hzs (capge n 0)) (capge n 0) rfl (hsem _ _ (by simpa [E.den] using hr))
  · -- nil
    obtain ⟨A0, c0, hA0, hcap, _, rfl⟩ := hS
    rw [show A0 = none from hA0] at hsem
    have hc0 : c0 = 0 := hcap
    subst hc0
    simp only [beq_dec] at h
    by_cases hn : n = 0
    · subst hn
      simp only [decide_true, cond_true] at h
      have hnil : news = [] := List.eq_nil_of_length_eq_zero (by simpa using hnl)
      subst hnil
      refine Goes.val h hc (V := .slice none 0 0) ⟨_, 0, rfl, rfl, by simp [E.den], by simp [E.den]⟩ hs (hsem _ _ ?_)
      have hf := run_firstCells_some (P := P) w i.size 0 A 0 c [] (by simp) (by simp)
      simp [Builtin.append_, run_underlying hu, sizeOf, typeInfo, hi, Builtin.lenOf, hf, E.den]
    · simp only [hn, decide_false, cond_false] at h
      cases hb : (Nat.ble (n * i.bytes) 140737488355328 && Nat.ble n 140737488355328) with
      | false => rw [hb] at h; exact (runE_fail h).elim
      | true =>
        rw [hb, cond_true] at h
        simp only [Bool.and_eq_true] at hb
        have hb1 := Nat.le_of_ble_eq_true hb.1
        have hb2 := Nat.le_of_ble_eq_true hb.2
        have hr := run_append_nil (P := P) w t type e i z hu hi hz A n c news hnl hcells (by omega) (by omega) (by omega)
        exact Goes.regrown hc h hs (W := w.drew) rfl (fun _ => rfl) (below_drew w) (fun ρ' hle => grow_bs (z := z) (hl.mono hle) rfl hnl hzs (capge n 0)) (capge n 0) rfl (hsem _ _ (by simpa [E.den] using hr))
  · -- a row that grows
    rename_i b sl
    obtain ⟨A0, c0, ⟨A1, ⟨r0, o0, e0, rfl⟩, rfl⟩, hcap, hsl0, rfl⟩ := hS
    obtain ⟨hc1, hc2⟩ : RepC env ρ (some (.g b 0)) ((E.lit sl).den env).toNat c0 none := hcap
    obtain ⟨r1, e1⟩ := hc2 b rfl
    rw [e0] at e1
    cases e1
    simp only [E.den] at hc1 hsl0 hsem
    obtain ⟨blk, hg, _, h⟩ := runE_get h
    split at h
    · rename_i old e' m
      cases hb : (Nat.beq e e' && Nat.beq m i.size && Nat.beq old.length (sl.toNat * i.size) && Nat.ble ((sl.toNat + n) * i.bytes) 140737488355328 && Nat.ble (sl.toNat + n) 140737488355328) with
      | false => rw [hb] at h; exact (runE_fail h).elim
      | true =>
        rw [hb, cond_true] at h
        simp only [Bool.and_eq_true, beq_dec, decide_eq_true_eq] at hb
        obtain ⟨⟨⟨⟨he, hm⟩, hol⟩, hb1⟩, hb2⟩ := hb
        subst he
        subst hm
        have hb1 := Nat.le_of_ble_eq_true hb1
        have hb2 := Nat.le_of_ble_eq_true hb2
        obtain ⟨r2, o2, e2, hbs, hown, _⟩ := hs.at _ _ hg rfl
        rw [e0] at e2
        cases e2
        obtain ⟨cs, cur, hr, hob, hpre, hcapc⟩ := hbs
        have hcl : cs.length = sl.toNat * i.size := by rw [hr.length, hol]
        obtain ⟨u, hu1, _, h⟩ := runE_set h
        have hh : ((s.touch b).put b .dead).h = s.h.set b .dead := by rw [St.put_h, St.touch_h]
        by_cases hroom : sl.toNat + n ≤ c0
        · -- in its place
          obtain ⟨hn, h⟩ := runE_new h
          rw [hh] at hn
          have hfit : sl.toNat * i.size + news.length ≤ cur.size := by
            rw [hnl, ← Nat.add_mul]
            exact Nat.le_trans (Nat.mul_le_mul_right _ hroom) hcapc
          have hrun := run_append_room (P := P) w t type e i hu hi r0 sl.toNat c0 cur hob A n c news hnl hcells hflat hroom hfit
          have hW := setRow_heap w r0 cur (cur.toList.take (sl.toNat * i.size) ++ news ++ cur.toList.drop (sl.toNat * i.size + news.length)).toArray e (0, 0) hob
          have hpre' : cur.toList.take (sl.toNat * i.size) = cs := by rw [← hcl]; exact hpre
          obtain ⟨hle, hρ, hs'⟩ := hs.regrow (n := ((s.touch b).put b .dead).nx) (w' := w.setRow r0 (cur.toList.take (sl.toNat * i.size) ++ news ++ cur.toList.drop (sl.toNat * i.size + news.length)).toArray) (v := .grow (old ++ l) e i.size) hg rfl rfl rfl e0 hn
            (by simp [World.setRow]) (fun k hk => setRow_other w r0 k _ hk) (fun ρ' hle => by
              rw [hW]
              refine ⟨cs ++ news, _, (hr.mono hle).append (hl.mono hle), rfl, ?_, ?_⟩
              · simp only
                rw [hpre']
                exact List.take_left
              · simp only [List.size_toArray, List.length_append, List.length_take, List.length_drop, Array.length_toList]
                have : sl.toNat * i.size ≤ cur.size := by omega
                omega)
          refine ⟨_, cx, _, _, .slice (some ⟨r0, 0, none⟩) (sl.toNat + n) c0, _, h, hc, hle, ?_, by simp only [St.add, hh]; exact hs', ?_, .inl (hsem _ _ hrun)⟩
          · exact ⟨_, c0, ⟨_, ⟨_, _, hρ, rfl⟩, rfl⟩, ⟨by simp only [E.den, Int.toNat_natCast]; exact hroom, fun b hb => by simp only [capOf, Option.some.injEq] at hb; subst hb; exact ⟨_, hρ⟩⟩, by simp [E.den]; omega, by simp [E.den]; omega⟩
          · exact ⟨rfl, rfl, rfl, by simp [World.setRow], fun k hk => setRow_other w r0 k _ (by have := hown rfl; omega)⟩
        · -- anew
          have holds : ∀ j v, cs[j]? = some v → w.cell? ((⟨r0, 0, none⟩ : Addr).add j) = some v := by
            intro j v hj
            rw [Addr.add', World.cell?, hob]
            simp only [Option.isSome_none, Bool.false_eq_true, if_false, Nat.zero_add]
            rw [← hpre, List.getElem?_take] at hj
            split at hj
            · rw [← Array.getElem?_toList]; exact hj
            · cases hj
          have hrun := run_append_grow (P := P) w t type e i z hu hi hz ⟨r0, 0, none⟩ sl.toNat c0 cs hcl holds A n c news hnl hcells (by omega) (by omega) (growslice_fits (by omega) hb1)
          have hs2 := hs.kill hg rfl
          exact Goes.regrown hc h (by rw [hh]; exact hs2) (W := w.drew) rfl (fun _ => rfl) (below_drew w)
            (fun ρ' hle => grow_bs (z := z) (need := sl.toNat + n) ((hr.mono hle).append (hl.mono hle)) (by simp) (by rw [List.length_append, hcl, hnl, Nat.add_mul]) hzs (capge _ c0)) (capge _ c0) rfl (hsem _ _ hrun)
    · exact (runE_fail h).elim
  · -- a row of known room
    rename_i b sl sc _
    obtain ⟨A0, c0, ⟨A1, ⟨r0, o0, e0, rfl⟩, rfl⟩, hcap, hsl0, rfl⟩ := hS
    have hc0 : c0 = sc.toNat := hcap
    subst hc0
    simp only [E.den] at hsl0 hsem
    obtain ⟨blk, hg, _, h⟩ := runE_get h
    split at h
    · rename_i old e'
      obtain ⟨r2, o2, e2, hbs, hown, _⟩ := hs.at _ _ hg rfl
      rw [e0] at e2
      cases e2
      obtain ⟨rfl, cs, hr, hob⟩ := hbs
      have hcsl : cs.length = old.length := hr.length
      cases hb : (Nat.beq e e' && Nat.ble ((sl.toNat + n) * i.size) old.length && Nat.ble (sl.toNat + n) sc.toNat) with
      | true =>
        rw [hb, cond_true] at h
        simp only [Bool.and_eq_true, beq_dec, decide_eq_true_eq] at hb
        obtain ⟨⟨he, hb1⟩, hb2⟩ := hb
        subst he
        have hb1 := Nat.le_of_ble_eq_true hb1
        have hb2 := Nat.le_of_ble_eq_true hb2
        rw [Nat.add_mul] at hb1
        obtain ⟨u, hu1, _, h⟩ := runE_set h
        have hrun := run_append_room (P := P) w t type e i hu hi r0 sl.toNat sc.toNat cs.toArray hob A n c news hnl hcells hflat hb2 (by rw [hnl]; simp; omega)
        have hW := setRow_heap w r0 cs.toArray (cs.toArray.toList.take (sl.toNat * i.size) ++ news ++ cs.toArray.toList.drop (sl.toNat * i.size + news.length)).toArray e (0, 0) hob
        refine ⟨_, cx, _, ρ, .slice (some ⟨r0, 0, none⟩) (sl.toNat + n) sc.toNat, _, h, hc, ρ.le_refl, ?_, ?_, ?_, .inl (hsem _ _ (by simpa using hrun))⟩
        · exact ⟨_, sc.toNat, ⟨_, ⟨_, _, e0, rfl⟩, rfl⟩, rfl, by simp [E.den]; omega, by simp [E.den]; omega⟩
        · rw [St.put_h, St.touch_h]
          refine hs.put hg rfl rfl e0 (by simp [World.setRow]) (fun k hk => setRow_other w r0 k _ hk) ?_
          rw [setRow_heap w r0 cs.toArray _ e (0, 0) hob]
          refine ⟨rfl, _, hr.setMany hl (by rw [hll]; omega), ?_⟩
          simp
        · exact ⟨rfl, rfl, rfl, by simp [World.setRow], fun k hk => setRow_other w r0 k _ (by have := hown rfl; omega)⟩
      | false =>
        rw [hb, cond_false] at h
        cases hb2 : (Nat.ble (sl.toNat * i.size) old.length && Nat.blt sc.toNat (sl.toNat + n) && Nat.ble ((sl.toNat + n) * i.bytes) 140737488355328 && Nat.ble (sl.toNat + n) 140737488355328) with
        | false => rw [hb2] at h; exact (runE_fail h).elim
        | true =>
          rw [hb2, cond_true] at h
          simp only [Bool.and_eq_true, blt_dec, decide_eq_true_eq] at hb2
          obtain ⟨⟨⟨h1, h2⟩, h3⟩, h4⟩ := hb2
          have h1 := Nat.le_of_ble_eq_true h1
          have h3 := Nat.le_of_ble_eq_true h3
          have h4 := Nat.le_of_ble_eq_true h4
          have hol : (cs.take (sl.toNat * i.size)).length = sl.toNat * i.size := by simp; omega
          have holds : ∀ j v, (cs.take (sl.toNat * i.size))[j]? = some v → w.cell? ((⟨r0, 0 + 0, none⟩ : Addr).add j) = some v := by
            intro j v hj
            rw [Addr.add', World.cell?, hob]
            simp only [Option.isSome_none, Bool.false_eq_true, if_false, Nat.zero_add]
            rw [List.getElem?_take] at hj
            split at hj
            · simpa using hj
            · cases hj
          have hrun := run_append_grow (P := P) w t type e i z hu hi hz ⟨r0, 0 + 0, none⟩ sl.toNat sc.toNat _ hol holds A n c news hnl hcells (by omega) (by omega) (growslice_fits (by omega) h3)
          exact Goes.regrown hc h (by rw [St.touch_h]; exact hs) (W := w.drew) rfl (fun _ => rfl) (below_drew w)
            (fun ρ' hle => grow_bs (z := z) (need := sl.toNat + n) (((hr.take _).mono hle).append (hl.mono hle)) (by simp) (by rw [List.length_append, hol, hnl, Nat.add_mul]) hzs (capge _ _)) (capge _ _) rfl (hsem _ _ hrun)
    · exact (runE_fail h).elim
  · exact (runE_fail h).elim

theorem appT_ok (hc : cx.ok env) (hs : HS env ρ B s.h w) {t : TypeId} {S X : Value} {sv xv : SV} (hS : Rep env ρ sv S) (hX : Rep env ρ xv X)
    {sem : Sem Next} (hsem : ∀ V w', (Builtin.append_ #[t, t] type #[S, X]).run P w = .ok V w' → sem.run P w = .ok (.value V) w')
    (h : runE env (appT P cx t sv xv k) s = some r) : Goes P env B r k ρ w sem := by
  unfold appT at h
  split at h
  · rename_i e hu
    split at h
    · rename_i i z hi hz
      obtain ⟨it, v, hit, hiz, hzl⟩ := zeroL_ok hz
      rw [hi] at hit
      cases hit
      have hZ : RepL env ρ z v.cells.toList := ofL_ok hzl
      simp only [beq_dec] at h
      by_cases hsz : z.length = i.size
      · simp only [hsz, decide_true, cond_true] at h
        have hzs : v.cells.size = i.size := by have := hZ.length; simpa [hsz] using this
        split at h
        · rename_i a n cap
          obtain ⟨A0, c, ⟨A, hA, rfl⟩, _, hn0, rfl⟩ := hX
          obtain ⟨l, cs, cx', s', h, hc', hh, hr, hl, hcs⟩ := loadN_ok h hc hs hA
          cases hf : l.all SV.flat with
          | false => rw [hf] at h; exact (runE_fail h).elim
          | true =>
            rw [hf, cond_true] at h
            exact appN_ok hc' (by rw [hh]; exact hs) hu hi hiz hzs hS hr hl (hr.flat hf) hcs (by simpa [E.den] using hsem) h
        · obtain ⟨A0, c, hA, hcap, _, rfl⟩ := hX
          rw [show A0 = none from hA, show c = 0 from hcap] at hsem
          split at h
          · obtain ⟨A1, c1, hA1, hcap1, _, rfl⟩ := hS
            rw [show A1 = none from hA1, show c1 = 0 from hcap1] at hsem
            refine Goes.val h hc (V := .slice none 0 0) ⟨_, 0, rfl, rfl, by simp [E.den], by simp [E.den]⟩ hs (hsem _ _ ?_)
            simp [Builtin.append_, run_underlying hu, sizeOf, typeInfo, hi, Builtin.lenOf, Builtin.firstCells, E.den]
          · exact (runE_fail h).elim
        · exact (runE_fail h).elim
      · simp only [hsz, decide_false, cond_false] at h
        exact (runE_fail h).elim
    · exact (runE_fail h).elim
  · exact (runE_fail h).elim

theorem aop_builtin (hc : cx.ok env) (hs : HS env ρ B s.h w) {c : Call}
    (hev : EvOK env ρ tm ev (Op.call c).operands.toList)
    (h : runE env (aop P tm cx ⟨dst, .call c, type, pos, after, guard⟩ k) s = some r) : Goes P env B r k ρ w (execOp ev ⟨dst, .call c, type, pos, after, guard⟩) := by
  simp only [aop] at h
  have hargs : ∀ x, x ∈ c.args.toList → ∀ s, evalO tm x = some s → Rep env ρ s (ev x) := fun x hx s hs' => hev x (by simp [Op.operands, Call.operands] at hx ⊢; exact .inr hx) s hs'
  split at h
  · -- len
    rename_i hcal
    split at h
    · rename_i x t hx ht
      obtain ⟨v, hv, h⟩ := ev_ok h
      have hX := hargs x (by rw [hx]; simp) _ hv
      have hxa : c.args = #[x] := by rw [← Array.toArray_toList (xs := c.args), hx]
      have key : ∀ V w', (Builtin.len_ c.argTypes type #[ev x]).run P w = .ok V w' → (execOp ev ⟨dst, .call c, type, pos, after, guard⟩).run P w = .ok (.value V) w' := by
        intro V w' hV
        simp [execOp, Go.resolve, hcal, invoke, builtin, hxa, hV]
      split at h
      · rename_i e a len cap hu
        obtain ⟨A, cc, hA, _, hlen0, hXe⟩ := hX
        refine Goes.val h hc (V := .int .i64 (len.den env)) rfl hs (key _ _ ?_)
        have h5 : ((len.den env).toNat : Int) = len.den env := by omega
        simp [Builtin.len_, ht, run_underlying hu, hXe, goInt, h5]
      · rename_i e b len hu
        obtain ⟨r', o', _, hlen0, hX⟩ := hX
        refine Goes.val h hc (V := .int .i64 (len.den env)) rfl hs (key _ _ ?_)
        have h5 : ((len.den env).toNat : Int) = len.den env := by omega
        rcases hX with ⟨hz, A, cc, hXe⟩ | ⟨cc, _, hXe⟩
        · simp [Builtin.len_, ht, run_underlying hu, hXe, goInt, hz]
        · simp [Builtin.len_, ht, run_underlying hu, hXe, goInt, h5]
      · rename_i str hu
        have hX' : ev x = .string str := hX
        refine Goes.val h hc (V := .int .i64 str.size) rfl hs (key _ _ ?_)
        simp [Builtin.len_, ht, run_underlying hu, hX', goInt]
      · rename_i v n e hu
        refine Goes.val h hc (V := .int .i64 n) rfl hs (key _ _ ?_)
        simp [Builtin.len_, ht, run_underlying hu, goInt]
      · rename_i a b hu
        have hX' : ev x = .map none := hX
        refine Goes.val h hc (V := .int .i64 0) rfl hs (key _ _ ?_)
        simp [Builtin.len_, ht, run_underlying hu, hX', goInt]
      · exact (runE_fail h).elim
    · exact (runE_fail h).elim
  · -- cap
    rename_i hcal
    split at h
    · rename_i x t hx ht
      obtain ⟨v, hv, h⟩ := ev_ok h
      have hX := hargs x (by rw [hx]; simp) _ hv
      have hxa : c.args = #[x] := by rw [← Array.toArray_toList (xs := c.args), hx]
      split at h
      · rename_i e a len ce hu
        obtain ⟨A, cc, hA, hcc, hlen0, hXe⟩ := hX
        obtain ⟨h1, cx1, hc1, h⟩ := need_ok h hc
        rw [mkCmp_ok hc] at h1
        simp only [cmpI, decide_eq_true_eq, E.den, ge_iff_le] at h1
        have hcc' : cc = (ce.den env).toNat := hcc
        refine Goes.val h hc1 (V := .int .i64 (ce.den env)) rfl hs ?_
        have h5 : ((ce.den env).toNat : Int) = ce.den env := by omega
        simp [execOp, Go.resolve, hcal, invoke, builtin, hxa, Builtin.cap_, ht, run_underlying hu, hXe, goInt, hcc', h5]
      · exact (runE_fail h).elim
    · exact (runE_fail h).elim
  · -- append
    rename_i hcal
    split at h
    · rename_i x y t u hx ht
      have hxa : c.args = #[x, y] := by rw [← Array.toArray_toList (xs := c.args), hx]
      have hta : c.argTypes = #[t, u] := by rw [← Array.toArray_toList (xs := c.argTypes), ht]
      simp only [beq_dec] at h
      by_cases htu : t = u
      · subst htu
        simp only [decide_true, cond_true] at h
        obtain ⟨v, hv, h⟩ := ev_ok h
        obtain ⟨v2, hv2, h⟩ := ev_ok h
        have hX := hargs x (by rw [hx]; simp) _ hv
        have hY := hargs y (by rw [hx]; simp) _ hv2
        refine appT_ok (type := type) hc hs hX hY (fun V w' hV => ?_) h
        simp [execOp, Go.resolve, hcal, invoke, builtin, hxa, hta, hV]
      · simp only [htu, decide_false, cond_false] at h
        exact (runE_fail h).elim
    · exact (runE_fail h).elim
  · -- max
    rename_i hcal
    split at h
    · rename_i l hl
      have hL := evalL_ok (env := env) (ρ := ρ) (ev := ev) hargs hl
      split at h
      · rename_i kd e hm
        cases l with
        | nil => simp [mmS] at hm
        | cons x l =>
          obtain ⟨X, vs, hX, hvs, hXe⟩ := hL
          obtain ⟨Y, hY, hrun⟩ := mmS_ok (P := P) hc (.inl rfl) w l vs x X _ hvs hX hm ⟨_, _, rfl⟩
          refine Goes.val h hc hY hs ?_
          have hr2 : (List.foldlM Builtin.max2 X vs).run P w = .ok Y w := hrun
          simp [execOp, Go.resolve, hcal, invoke, builtin, Builtin.max_, hXe, hr2]
      · exact (runE_fail h).elim
    · exact (runE_fail h).elim
  · -- min
    rename_i hcal
    split at h
    · rename_i l hl
      have hL := evalL_ok (env := env) (ρ := ρ) (ev := ev) hargs hl
      split at h
      · rename_i kd e hm
        cases l with
        | nil => simp [mmS] at hm
        | cons x l =>
          obtain ⟨X, vs, hX, hvs, hXe⟩ := hL
          obtain ⟨Y, hY, hrun⟩ := mmS_ok (P := P) hc (.inr rfl) w l vs x X _ hvs hX hm ⟨_, _, rfl⟩
          refine Goes.val h hc hY hs ?_
          have hr2 : (List.foldlM Builtin.min2 X vs).run P w = .ok Y w := hrun
          simp [execOp, Go.resolve, hcal, invoke, builtin, Builtin.min_, hXe, hr2]
      · exact (runE_fail h).elim
    · exact (runE_fail h).elim
  · exact (runE_fail h).elim

/-- every operation of 'aop' -/
theorem aop_ok (hc : cx.ok env) (hs : HS env ρ B s.h w) {o : Oper} (hev : EvOK env ρ tm ev o.op.operands.toList)
    (h : runE env (aop P tm cx o k) s = some r) : Goes P env B r k ρ w (execOp ev o) := by
  obtain ⟨dst, op, type, pos, after, guard⟩ := o
  cases op
  case move x => exact aop_plain hc hs (.inl ⟨_, rfl⟩) hev h
  case assign x => exact aop_plain hc hs (.inr (.inl ⟨_, rfl⟩)) hev h
  case pick c a b => exact aop_plain hc hs (.inr (.inr (.inl ⟨_, _, _, rfl⟩))) hev h
  case nilCheck x => exact aop_plain hc hs (.inr (.inr (.inr (.inl ⟨_, rfl⟩)))) hev h
  case binOp o t x y u => exact aop_plain hc hs (.inr (.inr (.inr (.inr (.inl ⟨_, _, _, _, _, rfl⟩))))) hev h
  case unOp o t x => exact aop_plain hc hs (.inr (.inr (.inr (.inr (.inr (.inl ⟨_, _, _, rfl⟩)))))) hev h
  case convert a b x => exact aop_plain hc hs (.inr (.inr (.inr (.inr (.inr (.inr (.inl ⟨_, _, _, rfl⟩))))))) hev h
  case makeInterface t x => exact aop_plain hc hs (.inr (.inr (.inr (.inr (.inr (.inr (.inr (.inl ⟨_, _, rfl⟩)))))))) hev h
  case extract t i => exact aop_plain hc hs (.inr (.inr (.inr (.inr (.inr (.inr (.inr (.inr (.inr ⟨_, _, rfl⟩))))))))) hev h
  case load t a => exact aop_mem hc hs (.inl ⟨_, _, rfl⟩) hev h
  case store t a x => exact aop_mem hc hs (.inr (.inl ⟨_, _, _, rfl⟩)) hev h
  case alloc t => exact aop_mem hc hs (.inr (.inr (.inl ⟨_, rfl⟩))) hev h
  case box t x => exact aop_mem hc hs (.inr (.inr (.inr ⟨_, _, rfl⟩))) hev h
  case build t ps => exact aop_build hc hs hev h
  case buildSlice t n ps => exact aop_buildSlice hc hs hev h
  case makeSlice t l c => exact aop_make hc hs hev h
  case fieldAddr t x f => exact aop_field hc hs (.inl ⟨_, _, _, rfl⟩) hev h
  case field t x f => exact aop_field hc hs (.inr ⟨_, _, _, rfl⟩) hev h
  case indexAddr t x i => exact aop_index hc hs (.inl ⟨_, _, _, rfl⟩) hev h
  case index t x i => exact aop_index hc hs (.inr ⟨_, _, _, rfl⟩) hev h
  case call c => exact aop_builtin hc hs hev h
  case makeFunc fn a b =>
    cases fn
    case func f => exact aop_plain hc hs (.inr (.inr (.inr (.inr (.inr (.inr (.inr (.inr (.inl ⟨_, _, _, rfl⟩))))))))) hev h
    all_goals (simp only [aop] at h; exact (runE_fail h).elim)
  case slice t x lo hi mx =>
    cases mx with
    | none => exact aop_slice hc hs hev h
    | some m =>
      by_cases hq : ∃ kd kd', lo = none ∧ hi = some (.const (.int kd 0)) ∧ m = .const (.int kd' 0)
      · obtain ⟨kd, kd', rfl, rfl, rfl⟩ := hq
        exact aop_slice000 hc hs hev h
      · unfold aop at h
        split at h <;> first
          | (rename_i heq; cases heq; done)
          | (rename_i heq; simp only [Op.slice.injEq, reduceCtorEq, and_false] at heq; done)
          | exact (runE_fail h).elim
          | (rename_i heq; simp only [Op.slice.injEq, Option.some.injEq] at heq; exact absurd ⟨_, _, heq.2.2.1, heq.2.2.2.1, heq.2.2.2.2⟩ hq)
  all_goals (simp only [aop] at h; exact (runE_fail h).elim)
end

end Go.SX
