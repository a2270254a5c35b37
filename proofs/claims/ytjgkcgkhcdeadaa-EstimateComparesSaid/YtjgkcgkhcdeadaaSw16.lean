/- Calls that are reckoned once and looked up then. -/
import Derived.Test.YtjgkcgkhcdeadaaSw15
namespace Go.SX
open Go Go.RowKit
set_option linter.unusedVariables false
set_option linter.unusedSimpArgs false
set_option linter.unusedSectionVars false

def SA.inside (ns : List Nat) : SA → Bool
  | .c b _ => ns.any (Nat.beq b)
  | .s b _ _ _ => ns.any (Nat.beq b)
  | .g _ _ => false
  | .h _ _ _ _ => false
def optIn (ns : List Nat) : Option SA → Bool
  | none => true
  | some a => a.inside ns
mutual
def SV.within (ns : List Nat) : SV → Bool
  | .ptr a => optIn ns a
  | .slice a _ _ => optIn ns a
  | .func (.func _) x y => SV.withinL ns x && SV.withinL ns y
  | .func (.yield _) _ _ => false
  | .iface _ v => v.within ns
  | .agg l => SV.withinL ns l
  | .tuple l => SV.withinL ns l
  | .vsl b _ => ns.any (Nat.beq b)
  | .vg _ _ => false
  | _ => true
def SV.withinL (ns : List Nat) : List SV → Bool
  | [] => true
  | x :: l => x.within ns && SV.withinL ns l
end

theorem any_beq {ns : List Nat} {b : Nat} (h : ns.any (Nat.beq b) = true) : b ∈ ns := by
  rw [List.any_eq_true] at h
  obtain ⟨x, hx, hb⟩ := h
  rw [beq_dec, decide_eq_true_eq] at hb
  rw [hb]; exact hx

section
variable {env : Env} {ρ ρ' : Pl} {ns : List Nat}

theorem RepA.move (h : ∀ b, b ∈ ns → ρ' b = ρ b) {a : SA} {A : Addr} (hi : a.inside ns = true) (hr : RepA env ρ a A) : RepA env ρ' a A := by
  cases a with
  | c b off => obtain ⟨r, o, e, rfl⟩ := hr; exact ⟨r, o, (h b (any_beq hi)).trans e, rfl⟩
  | s b ix m off => obtain ⟨r, o, e, hn, rfl⟩ := hr; exact ⟨r, o, (h b (any_beq hi)).trans e, hn, rfl⟩
  | g b off => cases hi
  | h b ix m off => cases hi
theorem RepO.move (h : ∀ b, b ∈ ns → ρ' b = ρ b) {a : Option SA} {A : Option Addr} (hi : optIn ns a = true) (hr : RepO env ρ a A) : RepO env ρ' a A := by
  cases a with
  | none => exact hr
  | some a => obtain ⟨A', e, rfl⟩ := hr; exact ⟨A', e.move h hi, rfl⟩
theorem RepC.move {a : Option SA} {n c : Nat} {e : Option E} (hi : optIn ns a = true) (hr : RepC env ρ a n c e) : RepC env ρ' a n c e := by
  cases e with
  | some e => exact hr
  | none =>
    refine ⟨hr.1, fun b hb => ?_⟩
    cases a with
    | none => cases hb
    | some a => cases a with
      | c => cases hb
      | s => cases hb
      | g => cases hi
      | h => cases hi

mutual
theorem Rep.move (h : ∀ b, b ∈ ns → ρ' b = ρ b) : ∀ {s : SV} {v : Value}, s.within ns = true → Rep env ρ s v → Rep env ρ' s v
  | .int k e, v, _, hr => hr
  | .bool b, v, _, hr => hr
  | .ptr a, v, hi, hr => by obtain ⟨A, e, rfl⟩ := hr; exact ⟨A, e.move h hi, rfl⟩
  | .slice a len cap, v, hi, hr => by obtain ⟨A, c, e, e2, e3, rfl⟩ := hr; exact ⟨A, c, e.move h hi, e2.move hi, e3, rfl⟩
  | .func (.func f) first cap, v, hi, hr => by
      simp only [SV.within, Bool.and_eq_true] at hi
      obtain ⟨g, fs, cs, e, e1, e2, rfl⟩ := hr
      exact ⟨g, fs, cs, e, RepL.move h hi.1 e1, RepL.move h hi.2 e2, rfl⟩
  | .func (.yield f) first cap, v, hi, hr => by cases hi
  | .nilFunc, v, _, hr => hr
  | .nilIface, v, _, hr => hr
  | .iface t x, v, hi, hr => by obtain ⟨u, e, rfl⟩ := hr; exact ⟨u, Rep.move h (by simpa [SV.within] using hi) e, rfl⟩
  | .str s, v, _, hr => hr
  | .nilMap, v, _, hr => hr
  | .agg l, v, hi, hr => by obtain ⟨vs, e, rfl⟩ := hr; exact ⟨vs, RepL.move h (by simpa [SV.within] using hi) e, rfl⟩
  | .tuple l, v, hi, hr => by obtain ⟨vs, e, rfl⟩ := hr; exact ⟨vs, RepL.move h (by simpa [SV.within] using hi) e, rfl⟩
  | .any, v, _, hr => trivial
  | .vsl b len, v, hi, hr => by
      obtain ⟨r, o, e, hr⟩ := hr
      exact ⟨r, o, by rw [h b (any_beq (by simpa only [SV.within] using hi))]; exact e, hr⟩
  | .vg b len, v, hi, hr => by simp only [SV.within] at hi; cases hi
theorem RepL.move (h : ∀ b, b ∈ ns → ρ' b = ρ b) : ∀ {l : List SV} {vs : List Value}, SV.withinL ns l = true → RepL env ρ l vs → RepL env ρ' l vs
  | [], vs, _, hr => hr
  | s :: l, vs, hi, hr => by
      simp only [SV.withinL, Bool.and_eq_true] at hi
      obtain ⟨v, vs', e1, e2, rfl⟩ := hr
      exact ⟨v, vs', Rep.move h hi.1 e1, RepL.move h hi.2 e2, rfl⟩
end
end

/-- a call of closed arguments, the blocks that it reads, and its value -/
structure Memo where
  f : Nat
  args : List SV
  blks : List (Nat × List SV)
  v : SV

def storeOf : List (Nat × List SV) → T Blk
  | [] => .nil
  | (b, l) :: r => (storeOf r).set b (.ro l)

def Memo.names (m : Memo) : List Nat := m.blks.map (·.1)

def isLeaf (v : SV) : PT → Bool
  | .leaf (.val v' _) _ => v'.same v
  | _ => false

def Memo.yes (P : Program) (X : Par) (n nx : Nat) (m : Memo) : Bool :=
  (entered P m.f).isSome && SV.withinL m.names m.args && m.blks.all (fun p => SV.withinL m.names p.2) && m.v.within [] &&
    isLeaf m.v (run (callT P X n m.f m.args Ctx.none) ⟨storeOf m.blks, nx, 0, [], [], true⟩)

def Memo.book (m : Memo) (B : Book) : Book := fun f args cx =>
  bif Nat.beq f m.f && SV.sameL args m.args then some ⟨[], m.v, [], [], m.blks, []⟩ else B f args cx

theorem storeOf_get : ∀ {l : List (Nat × List SV)} {b : Nat} {x : Blk}, (storeOf l).get b = some x → ∃ y, x = .ro y ∧ (b, y) ∈ l
  | [], b, x, h => by cases h
  | (c, y) :: l, b, x, h => by
      simp only [storeOf, T.get_set] at h
      split at h
      · rename_i hbc; subst hbc; cases h; exact ⟨y, rfl, by simp⟩
      · obtain ⟨z, h1, h2⟩ := storeOf_get h; exact ⟨z, h1, by simp [h2]⟩
theorem storeOf_dom : ∀ {l : List (Nat × List SV)} {b : Nat}, b ∈ l.map (·.1) → (storeOf l).get b ≠ none
  | [], b, h => by simp at h
  | (c, y) :: l, b, h => by
      simp only [storeOf, T.get_set]
      split
      · simp
      · rename_i hbc
        simp only [List.map_cons, List.mem_cons] at h
        exact storeOf_dom (h.resolve_left hbc)

def Memo.par (m : Memo) (X : Par) : Par := { X with book := m.book X.book }
theorem Memo.ok {P : Program} {fn : Nat → List Int → Int} {X : Par} (hmix : P.follows .mixedOrders = true) (hX : ParOK P fn X) (m : Memo) {n nx : Nat} (h : m.yes P X n nx = true) : ParOK P fn (m.par X) := by
  refine ⟨fun env he => ?_, hX.loops, hX.rows, hX.gen⟩
  intro f args cx sm hsm hc hneeds ρ vs w ha hblks harrs
  simp only [Memo.par, Memo.book] at hsm
  cases hsame : (Nat.beq f m.f && SV.sameL args m.args) with
  | false =>
    rw [hsame, cond_false] at hsm
    exact hX.book env he f args cx sm hsm hc hneeds ρ vs w ha hblks harrs
  | true =>
    rw [hsame, cond_true] at hsm
    cases hsm
    simp only [Bool.and_eq_true, beq_dec, decide_eq_true_eq] at hsame
    obtain ⟨rfl, hargs⟩ := hsame
    rw [SV.sameL_eq hargs] at ha
    simp only [Memo.yes, Bool.and_eq_true] at h
    obtain ⟨⟨⟨⟨hent, hin⟩, hall⟩, hv⟩, hleaf⟩ := h
    obtain ⟨⟨fn, c⟩, hent⟩ := Option.isSome_iff_exists.1 hent
    obtain ⟨_, _, hcall⟩ := entered_ok hent vs.toArray w
    refine ⟨hcall, by simp, by simp, ?_⟩
    -- the names that are told, and no other
    let ρ0 : Pl := fun b => if b ∈ m.names then ρ b else none
    have hag : ∀ b, b ∈ m.names → ρ0 b = ρ b := fun b hb => if_pos hb
    have hlt : ∀ b r o, ρ0 b = some (r, o) → r < w.heap.size := by
      intro b r o e
      by_cases hb : b ∈ m.names
      · rw [hag b hb] at e
        obtain ⟨⟨b', l⟩, hm, rfl⟩ := List.mem_map.1 hb
        obtain ⟨r', o', e', hbs⟩ := hblks b' l hm
        rw [e] at e'
        cases e'
        obtain ⟨x, hx⟩ := hbs.some
        exact (Array.getElem?_eq_some_iff.1 hx).1
      · simp only [ρ0, hb, if_false] at e
        cases e
    have hs : HS env ρ0 w.heap.size (storeOf m.blks) w := by
      refine ⟨?_, ?_, ?_, Nat.le_refl _, (fun b v hg => by obtain ⟨y, rfl, _⟩ := storeOf_get hg; exact trivial), by rw [he]; exact hX.rows⟩
      · intro b v hg
        obtain ⟨y, rfl, hm⟩ := storeOf_get hg
        have hb : b ∈ m.names := List.mem_map.2 ⟨(b, y), hm, rfl⟩
        obtain ⟨r, o, e, hbs⟩ := hblks b y hm
        have e0 : ρ0 b = some (r, o) := (hag b hb).trans e
        refine ⟨r, o, e0, fun _ => ⟨?_, (fun h => by cases h), fun _ => hlt b r o e0⟩⟩
        obtain ⟨c, t, fz, cs, h1, h2, h3⟩ := hbs
        rw [List.all_eq_true] at hall
        exact ⟨c, t, fz, cs, h1, h2.move hag (hall (b, y) hm), h3⟩
      · intro b p e
        by_cases hb : b ∈ m.names
        · exact storeOf_dom hb
        · simp only [ρ0, hb, if_false] at e
          cases e
      · intro b b' r o o' e e' hr
        have := hlt b r o e
        omega
    have hr : (run (callT P X n m.f m.args Ctx.none) ⟨storeOf m.blks, nx, 0, [], [], true⟩).holds env fun x _ => x = m.v := by
      unfold isLeaf at hleaf
      split at hleaf
      · rename_i v' cx' s' heq
        rw [heq]
        exact SV.same_eq hleaf
      · cases hleaf
    refine (calls_run hmix hX he (Ctx.ok_none env) (ha.move hag hin) hs hr).mono ?_
    rintro e w' ⟨v, h', ρ', V, rfl, rfl, hV, _, _, hb⟩
    exact ⟨V, rfl, hV.move (ns := []) (by simp) hv, hb⟩
end Go.SX
