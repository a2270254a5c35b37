/- A post's loop over leases: its meaning is what its rounds come to. -/
import Derived.Test.YtlbmeamjgdgbmaaSw42
import Derived.Test.YtlbmeamjgdgbmaaChecked
namespace Go.Proofs.Ytlbmeamjgdgbmaa.posts
open Go Go.SX Go.RowKit
set_option linter.unusedVariables false
set_option linter.unusedSimpArgs false
set_option maxRecDepth 100000
set_option maxHeartbeats 4000000
def lo64 : Int := -9223372036854775808
def hi64 : Int := 9223372036854775807
def r64 : Int × Int := (lo64, hi64)
def vI (n : Nat) : SV := .int .i64 (.var n)
def blkAt (tm : T SV) (t : Nat) : Option Nat := match tm.get t with | some (.ptr (some (.c b 0))) => some b | _ => none
def loopP (x y : Nat) (ct : CT) : LC := ⟨2, 5, [(7, vI 2)], [(x, [.ptr (some (.c x 0)), vI 3, vI 4, vI 5, vI 6]), (y, [vI 3, vI 4, vI 5, vI 6])], [0, 1, 4, 5, 6], [(0, 50)], [],
  [⟨.exit 0, 4, [], [(x, [.ptr (some (.c x 0)), vI 2, vI 3, vI 4, vI 5]), (y, [vI 2, vI 3, vI 4, vI 5])], []⟩], ct, [], 20, [], [], [.var 0, .var 1], []⟩
def loopsP (a : CT) : LBook := fun f i => if f == 5 && i == 6 then some (fun tm s => (blkAt tm 5).bind fun x => (blkAt tm 6).map fun y => loopP x y a) else none
def wkFC : FC := ⟨8, [], .bool (.lit true), [], [], []⟩
def XP (a : CT) : Par := wkFC.par { noPar with loops := loopsP a }
def ctP : CT := (.ite (.cmp .lss (.var 2) (.var 0)) (.ite (.cmp .lss (.var 2) (.lit 50)) (.ite (.cmp .leq (.lit 1099511627776) (.var 3)) (.ite (.cmp .geq (.var 1) (.var 6)) (.ite (.cmp .geq (.bin .sub .i64 (.app 5003 [(.var 2)]) (.lit 1)) (.var 6)) (.ite (.cmp .leq (.app 5000 [(.var 2)]) (.var 3)) (.again [(.op .add (.var 2) (.lit 1)), (.var 3), (.var 4), (.var 5), (.var 6)]) (.again [(.op .add (.var 2) (.lit 1)), (.app 5000 [(.var 2)]), (.app 5001 [(.var 2)]), (.app 5002 [(.var 2)]), (.app 5003 [(.var 2)])])) (.ite (.cmp .leq (.app 5000 [(.var 2)]) (.var 3)) (.again [(.op .add (.var 2) (.lit 1)), (.var 3), (.var 4), (.var 5), (.var 6)]) (.again [(.op .add (.var 2) (.lit 1)), (.app 5000 [(.var 2)]), (.app 5001 [(.var 2)]), (.app 5002 [(.var 2)]), (.app 5003 [(.var 2)])]))) (.ite (.cmp .geq (.bin .sub .i64 (.app 5003 [(.var 2)]) (.lit 1)) (.var 6)) (.ite (.cmp .leq (.app 5000 [(.var 2)]) (.var 3)) (.again [(.op .add (.var 2) (.lit 1)), (.var 3), (.var 4), (.var 5), (.var 6)]) (.again [(.op .add (.var 2) (.lit 1)), (.app 5000 [(.var 2)]), (.app 5001 [(.var 2)]), (.app 5002 [(.var 2)]), (.app 5003 [(.var 2)])])) (.ite (.cmp .leq (.app 5000 [(.var 2)]) (.var 3)) (.again [(.op .add (.var 2) (.lit 1)), (.var 3), (.var 4), (.var 5), (.var 6)]) (.again [(.op .add (.var 2) (.lit 1)), (.app 5000 [(.var 2)]), (.app 5001 [(.var 2)]), (.app 5002 [(.var 2)]), (.app 5003 [(.var 2)])])))) (.ite (.cmp .geq (.var 1) (.var 6)) (.ite (.cmp .geq (.bin .sub .i64 (.app 5003 [(.var 2)]) (.lit 1)) (.var 6)) (.ite (.cmp .leq (.app 5000 [(.var 2)]) (.var 3)) (.again [(.op .add (.var 2) (.lit 1)), (.var 3), (.var 4), (.var 5), (.var 6)]) (.again [(.op .add (.var 2) (.lit 1)), (.app 5000 [(.var 2)]), (.app 5001 [(.var 2)]), (.app 5002 [(.var 2)]), (.app 5003 [(.var 2)])])) (.ite (.cmp .leq (.app 5000 [(.var 2)]) (.var 3)) (.again [(.op .add (.var 2) (.lit 1)), (.var 3), (.var 4), (.var 5), (.var 6)]) (.again [(.op .add (.var 2) (.lit 1)), (.app 5000 [(.var 2)]), (.app 5001 [(.var 2)]), (.app 5002 [(.var 2)]), (.app 5003 [(.var 2)])]))) (.ite (.cmp .geq (.bin .sub .i64 (.app 5003 [(.var 2)]) (.lit 1)) (.var 6)) (.ite (.cmp .leq (.app 5000 [(.var 2)]) (.var 3)) (.again [(.op .add (.var 2) (.lit 1)), (.var 3), (.var 4), (.var 5), (.var 6)]) (.again [(.op .add (.var 2) (.lit 1)), (.app 5000 [(.var 2)]), (.app 5001 [(.var 2)]), (.app 5002 [(.var 2)]), (.app 5003 [(.var 2)])])) (.ite (.cmp .leq (.app 5000 [(.var 2)]) (.var 3)) (.again [(.op .add (.var 2) (.lit 1)), (.var 3), (.var 4), (.var 5), (.var 6)]) (.again [(.op .add (.var 2) (.lit 1)), (.app 5000 [(.var 2)]), (.app 5001 [(.var 2)]), (.app 5002 [(.var 2)]), (.app 5003 [(.var 2)])]))))) (.exit 0 [(.var 3), (.var 4), (.var 5), (.var 6)])) (.exit 0 [(.var 3), (.var 4), (.var 5), (.var 6)]))
def XX : Par := XP ctP
def meanP : Mean := ⟨20, 5, 4, ctP, fun es xs => (50 - xs.getD 0 0).toNat + 1⟩
theorem mixP : Try.prog.follows .mixedOrders = true := by kernel_rfl
theorem step {env : Env} (x y : Nat) : ∀ xs, xs.length = (loopP x y ctP).n → HeadOK env (loopP x y ctP) xs → StepOK env (loopP x y ctP) meanP xs := by
  intro xs hl hh
  obtain ⟨i, a, b, c, d, rfl⟩ : ∃ i a b c d, xs = [i, a, b, c, d] := by
    match xs, hl with
    | [i, a, b, c, d], _ => exact ⟨i, a, b, c, d, rfl⟩
  rw [headOK_iff] at hh
  have hi : 0 ≤ i ∧ i ≤ 50 := hh.1.1
  have v2 : (env.upd 2 [i, a, b, c, d]).v 2 = i := rfl
  have hd : ∀ j e1 e2 e3 e4, 0 ≤ j → j ≤ 50 → HeadOK env (loopP x y ctP) [j, e1, e2, e3, e4] := fun j e1 e2 e3 e4 h1 h2 => by
    rw [headOK_iff]; exact ⟨⟨⟨h1, h2⟩, trivial⟩, trivial⟩
  have ag : ∀ e1 e2 e3 e4, i < 50 → ([i + 1, e1, e2, e3, e4] : List Int).length = 5 ∧ HeadOK env (loopP x y ctP) [i + 1, e1, e2, e3, e4] ∧ (50 - (i + 1)).toNat + 1 < (50 - i).toNat + 1 := fun e1 e2 e3 e4 h => ⟨rfl, hd _ _ _ _ _ (by omega) (by omega), by omega⟩
  have ex : (0 : Nat) < (loopP x y ctP).exits.length ∧ 0 < (50 - i).toNat + 1 := ⟨Nat.zero_lt_one, by omega⟩
  refine StepOK.of ?_
  show CT.step (env.upd 2 [i, a, b, c, d]) (fun xs' => xs'.length = 5 ∧ HeadOK env (loopP x y ctP) xs' ∧ (50 - xs'.getD 0 0).toNat + 1 < (50 - i).toNat + 1) (fun j ys => j < (loopP x y ctP).exits.length ∧ 0 < (50 - i).toNat + 1) ctP
  simp only [ctP, CT.step, den_lit, den_var, den_ite, den_cmp, den_cmpB, den_tst, den_tstF, den_negT, den_negF, den_andT, den_andF, lssT, leqT, gtrT, geqT, eqlT, neqT, lssF, leqF, gtrF, geqF, eqlF, neqF, den_app, den_nilL, den_consL, den_add, den_sub, den_mul, den_tdiv, den_tmod, den_mx, den_mn, den_blit, den_bin, binI, v2]
  refine ⟨fun h1 => ⟨fun h2 => ?_, fun _ => ex⟩, fun _ => ex⟩
  refine ⟨fun _ => ⟨fun _ => ⟨fun _ => ⟨fun _ => ?_, fun _ => ?_⟩, fun _ => ⟨fun _ => ?_, fun _ => ?_⟩⟩, fun _ => ⟨fun _ => ⟨fun _ => ?_, fun _ => ?_⟩, fun _ => ⟨fun _ => ?_, fun _ => ?_⟩⟩⟩,
    fun _ => ⟨fun _ => ⟨fun _ => ⟨fun _ => ?_, fun _ => ?_⟩, fun _ => ⟨fun _ => ?_, fun _ => ?_⟩⟩, fun _ => ⟨fun _ => ⟨fun _ => ?_, fun _ => ?_⟩, fun _ => ⟨fun _ => ?_, fun _ => ?_⟩⟩⟩⟩ <;> exact ag _ _ _ _ h2
theorem wk_ok {fn : Nat → List Int → Int} (h : RowFn fn) : wkFC.OK Try.prog fn := by
  refine FC.ok_eqv (X := noPar) (d := 1) (n := 100000) (t := .leaf (.bool (.lit true))) mixP (noPar_ok fn h) rfl (by kernel_rfl) (by kernel_rfl) fun r hw _ => ⟨by simp [wkFC], by simp [wkFC], ?_⟩
  exact rfl
theorem XX_ok {g : Nat → List Int → Int} (hr : RowFn (withLoop meanP g)) : ParOK Try.prog (withLoop meanP g) XX := FC.parOK (wk_ok hr) rfl
  ⟨fun env _ => noBook_ok _ _, (by
    intro env he f i q hq tm s L hL
    have hm : ∀ x y, (loopP x y ctP).Means meanP env.f g := fun x y => by
      rw [he]
      refine ⟨rfl, rfl, rfl, rfl, fun _ _ _ _ => rfl, ⟨fun k => Nat.ble 1000 k, by decide, fun k a h => withLoop_high (by decide) (Nat.le_of_ble_eq_true h)⟩, ?_⟩
      intro z hz
      simp only [loopP, List.mem_singleton] at hz
      subst hz
      exact Nat.le_refl 4
    simp only [loopsP] at hq
    split at hq
    · cases hq
      simp only [Option.map_eq_some_iff, Option.bind_eq_some_iff] at hL
      obtain ⟨x, _, y, _, rfl⟩ := hL
      exact loopOK_iter (hm x y) (step x y) fun xs j ys _ _ _ _ _ => ⟨fun b hb => absurd hb (by simp [loopP]), fun e lo hi hb => absurd hb (by simp [loopP])⟩
    · cases hq), hr, fun env _ => noGen_ok _ _⟩
end Go.Proofs.Ytlbmeamjgdgbmaa.posts
