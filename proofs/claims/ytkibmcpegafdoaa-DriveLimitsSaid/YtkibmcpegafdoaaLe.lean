/- A contract over rows, of the limiter. -/
import Derived.Test.YtkibmcpegafdoaaLa
namespace Go.Proofs.Ytkibmcpegafdoaa
open Go Go.SX Go.RowKit DR
set_option linter.unusedVariables false
set_option linter.unusedSimpArgs false
set_option maxRecDepth 100000
theorem hoPs_ok (env : Env) : PsOK env hoPs := by
  intro p hm
  simp only [hoPs, List.mem_cons, List.not_mem_nil, or_false] at hm
  rcases hm with rfl | rfl
  · simp only [den_lit, den_var, den_ite, den_cmp, den_cmpB, den_tst, den_tstF, den_negT, den_negF, den_andT, den_andF, lssT, leqT, gtrT, geqT, eqlT, neqT, lssF, leqF, gtrF, geqF, eqlF, neqF, den_app, den_nilL, den_consL, den_add, den_sub, den_mul, den_tdiv, den_tmod, den_mx, den_mn, den_blit, den_bin, binI]
    first
      | (refine congrArg (fun z : Int => z * env.v 5) ?_; omega)
      | (refine congrArg (fun z : Int => IntKind.i64.wrap (z * env.v 5)) ?_; omega)
  · simp only [den_lit, den_var, den_ite, den_cmp, den_cmpB, den_tst, den_tstF, den_negT, den_negF, den_andT, den_andF, lssT, leqT, gtrT, geqT, eqlT, neqT, lssF, leqF, gtrF, geqF, eqlF, neqF, den_app, den_nilL, den_consL, den_add, den_sub, den_mul, den_tdiv, den_tmod, den_mx, den_mn, den_blit, den_bin, binI]
    first
      | (refine congrArg (fun z : Int => z * env.v 5) ?_; omega)
      | (refine congrArg (fun z : Int => IntKind.i64.wrap (z * env.v 5)) ?_; omega)
theorem ho21_ok {fn : Nat → List Int → Int} (h : GoodB fn) (hT : TreeIs fn 130 2 ro18T) (hA : TreeIs fn 150 2 ho22T) : (pairRC 21 hoSh [] formHo 150 []).OK Try.prog fn :=
  pairRC_ok2 (X := Xa) (d := 0) (n := 100000) ho22T ho21T hoPs mixD (Xa_ok h hT) hA (by kernel_rfl) (by kernel_rfl) (by kernel_rfl) (by kernel_rfl) (by kernel_rfl) fun env _ => hoPs_ok env
end Go.Proofs.Ytkibmcpegafdoaa
