/- Contracts of functions that return rows: proved by a run of the function's own. -/
import Derived.Test.YtjgkcgkhcdeadaaSw35
namespace Go.SX
open Go Go.RowKit Go.WideShapes Go.ChangeShapes
set_option linter.unusedVariables false
set_option linter.unusedSimpArgs false
set_option linter.unusedSectionVars false

/-! ### rows among the values of a leaf -/

def repSig (sig : List (Option IntKind)) (n : Nat) : List (Option IntKind) := (List.replicate n sig).flatten
theorem repSig_get {sig : List (Option IntKind)} : ∀ {n i j : Nat}, i < n → j < sig.length → (repSig sig n)[sig.length * i + j]? = sig[j]?
  | 0, i, j, h, _ => by omega
  | n + 1, 0, j, h, hj => by simp [repSig, List.replicate_succ, List.getElem?_append_left hj]
  | n + 1, i + 1, j, h, hj => by
      have := repSig_get (sig := sig) (n := n) (i := i) (j := j) (by omega) hj
      simp only [repSig, List.replicate_succ, List.flatten_cons] at this ⊢
      rw [List.getElem?_append_right (by rw [Nat.mul_succ]; omega), ← this]
      congr 1
      rw [Nat.mul_succ]; omega
def isLitT : BE → Bool
  | .lit true => true
  | _ => false
theorem isLitT_eq {b : BE} (h : isLitT b = true) : b = .lit true := by
  unfold isLitT at h
  split at h
  · rfl
  · cases h
/-- the codes of cells, if all are seen to fit -/
def codeOf (cx : Ctx) (sig : List (Option IntKind)) (n : Nat) (l : List SV) : Option (List E) :=
  match cellsE (repSig sig n) 0 l with
  | some es => bif isLitT (cellNeeds cx (repSig sig n) 0 es) then some es else none
  | none => none

/-- the code and the length of a row, and its name if it has one -/
def rowNums (h : T Blk) (cx : Ctx) (sig : List (Option IntKind)) (ty : TypeId) : SV → Option (E × E × Option Nat)
  | .slice none (.lit 0) (some (.lit 0)) => some (.app 1000 [], .lit 0, none)
  | .slice (some (.g m 0)) (.lit n) none => (match h.get m with
    | some (.grow l ty' sz) => bif (Nat.beq ty' ty && Nat.beq sz sig.length) && (Nat.beq l.length (sig.length * n.toNat) && decide (0 ≤ n)) then (codeOf cx sig n.toNat l).map fun es => (.app 1000 es, .lit n, some m) else none
    | _ => none)
  | .slice (some (.c m 0)) (.lit n) (some (.lit c)) => (match h.get m with
    | some (.cells l ty') => bif (Nat.beq ty' ty && Nat.ble (sig.length * c.toNat) l.length) && (decide (0 ≤ n) && decide (n ≤ c)) then (codeOf cx sig n.toNat (l.take (sig.length * n.toNat))).map fun es => (.app 1000 es, .lit n, some m) else none
    | _ => none)
  | .vg m len => (match h.get m with
    | some (.vec sig' code N ty') => if sig' = sig ∧ ty' = ty ∧ len.same N = true then some (code, N, some m) else none
    | _ => none)
  | _ => none

def openO (h : T Blk) (cx : Ctx) : List OC → List SV → List Nat → Option (List E)
  | [], [], _ => some []
  | .num s :: r, v :: vs, used => bif v.form s then (openO h cx r vs used).map (v.nums ++ ·) else none
  | .row sig ty :: r, v :: vs, used => match rowNums h cx sig ty v with
    | some (c, n, m) => (match addRn 0 m used with
      | some used' => bif Nat.blt 0 sig.length then (openO h cx r vs used').map (c :: n :: ·) else none
      | none => none)
    | none => none
  | _, _, _ => none
def unOne : List OC → SV → Option (List SV)
  | [_], v => some [v]
  | _, .tuple l => some l
  | _, _ => none
def numV (es : List E) : SV := .agg (es.map (.int .i64 ·))
def PT.vtO (outs : List OC) : PT → VT
  | .leaf (.val v cx) s => (match unOne outs v with
    | some vs => (match openO s.h cx outs vs [] with
      | some es => .leaf (numV es)
      | none => .fail)
    | none => .fail)
  | .leaf _ _ => .fail
  | .ite c t e => .ite c (t.vtO outs) (e.vtO outs)
  | .need c t => .need c (t.vtO outs)
  | .fail _ => .fail

theorem numV_nums (es : List E) : (numV es).nums = es := by
  simp only [numV, SV.nums]
  induction es with
  | nil => rfl
  | cons e es ih => simp only [List.map_cons, SV.numsL, SV.nums, ih]; rfl

/-! ### they are right -/

theorem codeOf_ok {env : Env} {cx : Ctx} (hc : cx.ok env) {ρ : Pl} {sig : List (Option IntKind)} {n : Nat} {l : List SV} {es : List E} (h : codeOf cx sig n l = some es) {us : List Value} (hr : RepL env ρ l us) (hl : l.length = sig.length * n) :
    es.length = sig.length * n ∧ us.length = sig.length * n ∧ ∀ (i j : Nat) (k : Option IntKind), i < n → sig[j]? = some k → us[sig.length * i + j]? = some (cellW k ((denL env es).getD (sig.length * i + j) 0)) ∧
      ∀ kd, k = some kd → kd.min ≤ (denL env es).getD (sig.length * i + j) 0 ∧ (denL env es).getD (sig.length * i + j) 0 ≤ kd.max := by
  unfold codeOf at h
  split at h
  case h_2 => cases h
  rename_i es' he
  cases hb : isLitT (cellNeeds cx (repSig sig n) 0 es') with
  | false => rw [hb, cond_false] at h; cases h
  | true =>
    rw [hb, cond_true] at h
    cases h
    obtain ⟨q1, q2, q3⟩ := cellsE_ok he hr
    refine ⟨by rw [q1, hl], by rw [q2, hl], fun i j k hi hj => ?_⟩
    have hjl : j < sig.length := (List.getElem?_eq_some_iff.1 hj).1
    have hlt : sig.length * i + j < l.length := by
      rw [hl]
      have : sig.length * (i + 1) ≤ sig.length * n := Nat.mul_le_mul_left _ hi
      rw [Nat.mul_succ] at this
      omega
    obtain ⟨k', p1, p2⟩ := q3 _ hlt
    rw [Nat.zero_add, repSig_get hi hjl, hj] at p1
    cases p1
    refine ⟨p2, fun kd hk => ?_⟩
    subst hk
    exact cellNeeds_ok hc (by rw [isLitT_eq hb]; rfl) (sig.length * i + j) kd (by rw [q1]; exact hlt) (by rw [Nat.zero_add, repSig_get hi hjl, hj])

theorem rowGet_enc (m j : Nat) (l : List Int) (i : Int) : rowGet m j (enc l) i = l.getD (m * i.toNat + j) 0 := by unfold rowGet; rw [dec_enc]

theorem rowNum_lit {env : Env} (hrow : RowFn env.f) {w : World} {B : Nat} {sig : List (Option IntKind)} {ty : TypeId} {es : List E} {n r c : Nat} (hpos : 0 < sig.length) (hl : es.length = sig.length * n)
    (hrng : ∀ (i j : Nat) (kd : IntKind), i < n → sig[j]? = some (some kd) → kd.min ≤ (denL env es).getD (sig.length * i + j) 0 ∧ (denL env es).getD (sig.length * i + j) 0 ≤ kd.max)
    (hobj : ¬ (c = 0 ∧ n = 0) → (∃ cur, w.heap[r]? = some (.cells cur ty (0, 0)) ∧ c * sig.length ≤ cur.size ∧ n ≤ c ∧ ∀ (i j : Nat) (k : Option IntKind), i < n → sig[j]? = some k → cur[sig.length * i + j]? = some (cellW k ((denL env es).getD (sig.length * i + j) 0))) ∧ B ≤ r) :
    RowNum w B sig ty ((E.app 1000 es).den env) ((E.lit (n : Nat)).den env) r c := by
  have hcode : (E.app 1000 es).den env = enc (denL env es) := by
    show env.f 1000 (denL env es) = _
    rw [hrow 1000 _ (by omega) (by omega)]
    exact rowOp_lit _
  intro env' e1 e2 h1 h2
  rw [hcode] at h1
  simp only [E.den] at h2
  refine ⟨⟨?_, hpos, ?_, ?_⟩, fun hv => ?_⟩
  · rw [h2]; omega
  · rw [h1, h2, dec_enc, length_denL, hl]; simp
  · intro i j kd hi hj
    rw [h2] at hi
    rw [h1, rowGet_enc]
    exact hrng i j kd (by omega) hj
  · have hnv : ¬ (c = 0 ∧ n = 0) := by
      simp only [rowBlk, Blk.void, h2] at hv
      rintro ⟨rfl, rfl⟩
      simp at hv
    obtain ⟨⟨cur, p1, p2, p3, p4⟩, hB⟩ := hobj hnv
    refine ⟨⟨cur, p1, p2, by rw [h2]; omega, fun i j k hi hj => ?_⟩, hB⟩
    rw [h2] at hi
    rw [h1, rowGet_enc]
    exact p4 i j k (by omega) hj

theorem rowNums_ok {env : Env} {cx : Ctx} (hc : cx.ok env) {ρ : Pl} {B : Nat} {h : T Blk} {w : World} (hs : HS env ρ B h w) {sig : List (Option IntKind)} {ty : TypeId} {v : SV} {e1 e2 : E} {m : Option Nat} (hpos : 0 < sig.length)
    (hn : rowNums h cx sig ty v = some (e1, e2, m)) {V : Value} (hv : Rep env ρ v V) :
    ∃ r c, RowNum w B sig ty (e1.den env) (e2.den env) r c ∧ (∀ (env' : Env) (ρ' : Pl) nb e, ρ' nb = some (r, c) → e.den env' = e2.den env → Rep env' ρ' (.vg nb e) V) ∧
      (m = none → voidN c (e2.den env)) ∧ ∀ b, m = some b → ∃ o, ρ b = some (r, o) ∧ (¬ voidN c (e2.den env) → Solid env o (h.get b)) := by
  unfold rowNums at hn
  split at hn
  · -- nil
    cases hn
    obtain ⟨A, c0, hA, hcap, _, rfl⟩ := hv
    have hA' : A = none := hA
    have hc0 : c0 = 0 := by simpa [RepC, E.den] using hcap
    subst hA' hc0
    refine ⟨0, 0, ?_, ?_, fun _ => ⟨rfl, rfl⟩, fun b hb => by cases hb⟩
    · have := rowNum_lit (env := env) hs.rows (w := w) (B := B) (sig := sig) (ty := ty) (es := []) (n := 0) (r := 0) (c := 0) hpos (by simp) (fun i j kd hi => by omega) (fun hh => absurd ⟨rfl, rfl⟩ hh)
      exact this
    · intro env' ρ' nb e hp he
      have he : e.den env' = 0 := he
      refine ⟨0, 0, hp, by omega, by rw [he]; exact Int.le_refl _, fun _ => ⟨none, by simp [E.den]⟩, fun h => absurd rfl h⟩
  · -- a row that grew
    rename_i b n
    split at hn
    case h_2 => cases hn
    rename_i l ty' sz hg
    cases hb : ((Nat.beq ty' ty && Nat.beq sz sig.length) && (Nat.beq l.length (sig.length * n.toNat) && decide (0 ≤ n))) with
    | false => rw [hb, cond_false] at hn; cases hn
    | true =>
      rw [hb, cond_true] at hn
      simp only [Bool.and_eq_true, beq_dec, decide_eq_true_eq] at hb
      obtain ⟨⟨rfl, hsz⟩, hl, hn0⟩ := hb
      rw [Option.map_eq_some_iff] at hn
      obtain ⟨es, hes, e⟩ := hn
      cases e
      obtain ⟨A, c, hA, hcap, _, rfl⟩ := hv
      obtain ⟨A', ⟨r0, o0, e0, rfl⟩, rfl⟩ := hA
      obtain ⟨hnc, hcp⟩ := hcap
      obtain ⟨r1, e1⟩ := hcp b rfl
      obtain ⟨hbs, hown, _⟩ := hs.at' hg e1 rfl
      rw [e0] at e1
      cases e1
      obtain ⟨cs, cur, hrep, hob, htake, hroom⟩ := hbs
      obtain ⟨q1, q2, q3⟩ := codeOf_ok hc hes hrep hl
      obtain ⟨nn, rfl⟩ : ∃ nn : Nat, n = nn := ⟨n.toNat, by omega⟩
      simp only [Int.toNat_natCast] at q1 q2 q3 hl
      have hnc' : nn ≤ c := by simpa [E.den] using hnc
      refine ⟨r0, c, ?_, ?_, (fun hm => by cases hm), ?_⟩
      · refine rowNum_lit hs.rows hpos q1 (fun i j kd hi hj => (q3 i j _ hi hj).2 kd rfl) (fun _ => ⟨⟨cur, hob, ?_, hnc', fun i j k hi hj => ?_⟩, hown rfl⟩)
        · rw [← hsz]; exact hroom
        · have h1 := (q3 i j k hi hj).1
          rw [← htake, List.getElem?_take] at h1
          split at h1
          · rw [← h1, Array.getElem?_toList]
          · cases h1
      · intro env' ρ' nb e hp he
        refine ⟨r0, c, hp, ?_, ?_, ?_, ?_⟩
        · rw [he]; simp only [E.den]; omega
        · rw [he]; simp only [E.den]; omega
        · intro hc0
          subst hc0
          have : nn = 0 := by omega
          subst this
          exact ⟨_, rfl⟩
        · intro _
          rw [he]
      · intro b' hb'
        cases hb'
        exact ⟨c, e0, fun _ => by rw [hg]; exact Solid.of rfl⟩
  · -- plain cells
    rename_i b n cc
    split at hn
    case h_2 => cases hn
    rename_i l ty' hg
    cases hb : ((Nat.beq ty' ty && Nat.ble (sig.length * cc.toNat) l.length) && (decide (0 ≤ n) && decide (n ≤ cc))) with
    | false => rw [hb, cond_false] at hn; cases hn
    | true =>
      rw [hb, cond_true] at hn
      simp only [Bool.and_eq_true, beq_dec, decide_eq_true_eq, Nat.ble_eq] at hb
      obtain ⟨⟨rfl, hroom⟩, hn0, hnc⟩ := hb
      rw [Option.map_eq_some_iff] at hn
      obtain ⟨es, hes, e⟩ := hn
      cases e
      obtain ⟨A, c, hA, hcap, _, rfl⟩ := hv
      obtain ⟨A', ⟨r0, o0, e0, rfl⟩, rfl⟩ := hA
      have hcc : c = cc.toNat := by simpa [RepC, E.den] using hcap
      obtain ⟨hbs, hown, _⟩ := hs.at' hg e0 rfl
      obtain ⟨ho, cs, hrep, hob⟩ := hbs
      subst ho
      have hlen := hrep.length
      obtain ⟨nn, rfl⟩ : ∃ nn : Nat, n = nn := ⟨n.toNat, by omega⟩
      obtain ⟨cn, rfl⟩ : ∃ cn : Nat, cc = cn := ⟨cc.toNat, by omega⟩
      simp only [Int.toNat_natCast] at hcc hroom hes
      subst hcc
      have hnc' : nn ≤ c := by omega
      have hmul : sig.length * nn ≤ sig.length * c := Nat.mul_le_mul_left _ hnc'
      have htk : RepL env ρ (l.take (sig.length * nn)) (cs.take (sig.length * nn)) := hrep.take _
      obtain ⟨q1, q2, q3⟩ := codeOf_ok hc hes htk (by simp; omega)
      refine ⟨r0, c, ?_, ?_, (fun hm => by cases hm), ?_⟩
      · refine rowNum_lit hs.rows hpos q1 (fun i j kd hi hj => (q3 i j _ hi hj).2 kd rfl) (fun _ => ⟨⟨_, hob, ?_, hnc', fun i j k hi hj => ?_⟩, hown rfl⟩)
        · simp only [List.size_toArray]; rw [hlen, Nat.mul_comm]; omega
        · have h1 := (q3 i j k hi hj).1
          rw [List.getElem?_take] at h1
          split at h1
          · simpa using h1
          · cases h1
      · intro env' ρ' nb e hp he
        refine ⟨r0, c, hp, ?_, ?_, ?_, ?_⟩
        · rw [he]; simp only [E.den]; omega
        · rw [he]; simp only [E.den]; omega
        · intro hc0
          subst hc0
          have : nn = 0 := by omega
          subst this
          exact ⟨_, rfl⟩
        · intro _
          rw [he]
      · intro b' hb'
        cases hb'
        exact ⟨0, e0, fun _ => by rw [hg]; exact Solid.of rfl⟩
  · -- a row with a name
    rename_i b len
    split at hn
    case h_2 => cases hn
    rename_i sig' code N ty' hg
    split at hn
    case isFalse => cases hn
    rename_i hcond
    obtain ⟨rfl, rfl, h3⟩ := hcond
    cases hn
    have hNN := E.same_eq h3
    subst hNN
    obtain ⟨r, c, e, hbl⟩ := hs.blk _ _ hg
    have hw : VecOK env sig' e1 len := hs.wf _ _ hg
    obtain ⟨r', c', e', k1, k2, k3, k4⟩ := hv
    rw [e] at e'
    cases e'
    refine ⟨r, c, ?_, ?_, (fun hm => by cases hm), ?_⟩
    · intro env' f1 f2 h1 h2
      have hvd : (rowBlk ⟨sig', ty', f1, f2⟩).void env' c = (Blk.vec sig' e1 len ty').void env c := by simp only [rowBlk, Blk.void, h2]
      refine ⟨?_, fun hv => ?_⟩
      · unfold VecOK at hw ⊢
        rw [h1, h2]
        exact hw
      · rw [hvd] at hv
        obtain ⟨⟨cur, q1, q2, q3, q4⟩, hown, _⟩ := hbl hv
        refine ⟨⟨cur, q1, q2, by rw [h2]; exact q3, ?_⟩, hown rfl⟩
        rw [h1, h2]; exact q4
    · intro env' ρ' nb f hp he
      refine ⟨r, c, hp, by rw [he]; exact k1, by rw [he]; exact k2, fun hc0 => ?_, fun hc0 => ?_⟩
      · obtain ⟨A, hA⟩ := k3 hc0
        exact ⟨A, hA⟩
      · rw [he]; exact k4 hc0
    · intro b' hb'
      cases hb'
      refine ⟨c, e, fun hv => ?_⟩
      rw [hg]
      refine Solid.of ?_
      simp only [Blk.void, Bool.and_eq_false_iff, beq_eq_false_iff_ne, ne_eq]
      unfold voidN at hv
      omega
  · cases hn
mutual
/-- the same value under another environment: the numbers of a form are what the first one says -/
theorem Rep.fill2 {env env' : Env} {ρ ρ' : Pl} : ∀ {u v : SV} {es : List E} {V : Value}, u.form v = true → (∀ j, j < u.nums.length → (es.getD j (.lit 0)).den env' = (u.nums.getD j (.lit 0)).den env) → Rep env ρ u V → Rep env' ρ' (v.fill es) V
  | .int k e, .int k' e', es, V, h, g, hr => by
      have hk : k = k' := by simpa [SV.form] using h
      subst hk
      have := g 0 (by simp [SV.nums])
      simp only [SV.nums, List.getD_cons_zero] at this
      have hr : V = .int k (e.den env) := hr
      show V = .int k _
      rw [hr, ← this]
      cases es <;> rfl
  | .bool b, .bool b', es, V, h, g, hr => by
      have := g 0 (by simp [SV.nums])
      simp only [SV.nums, List.getD_cons_zero] at this
      have hr : V = .bool (b.den env) := hr
      show V = .bool ((es.headD (.lit 0)).den env' != 0)
      rw [show es.headD (.lit 0) = es.getD 0 (.lit 0) by cases es <;> rfl, this, toE_ok, hr]
      cases b.den env <;> rfl
  | .agg l, .agg l', es, V, h, g, hr => by
      obtain ⟨vs, hr, rfl⟩ := hr
      exact ⟨vs, RepL.fill2 (by simpa [SV.form] using h) (by simpa only [SV.nums] using g) hr, rfl⟩
  | .tuple l, .tuple l', es, V, h, g, hr => by
      obtain ⟨vs, hr, rfl⟩ := hr
      exact ⟨vs, RepL.fill2 (by simpa [SV.form] using h) (by simpa only [SV.nums] using g) hr, rfl⟩
  | .int .., .bool _, _, _, h, _, _ | .int .., .ptr _, _, _, h, _, _ | .int .., .slice .., _, _, h, _, _ | .int .., .func .., _, _, h, _, _ | .int .., .nilFunc, _, _, h, _, _ | .int .., .nilIface, _, _, h, _, _ | .int .., .iface .., _, _, h, _, _ | .int .., .str _, _, _, h, _, _ | .int .., .nilMap, _, _, h, _, _ | .int .., .agg _, _, _, h, _, _ | .int .., .tuple _, _, _, h, _, _ | .int .., .any, _, _, h, _, _ | .int .., .vsl .., _, _, h, _, _ | .int .., .vg .., _, _, h, _, _ => by simp [SV.form] at h
  | .bool _, .int .., _, _, h, _, _ | .bool _, .ptr _, _, _, h, _, _ | .bool _, .slice .., _, _, h, _, _ | .bool _, .func .., _, _, h, _, _ | .bool _, .nilFunc, _, _, h, _, _ | .bool _, .nilIface, _, _, h, _, _ | .bool _, .iface .., _, _, h, _, _ | .bool _, .str _, _, _, h, _, _ | .bool _, .nilMap, _, _, h, _, _ | .bool _, .agg _, _, _, h, _, _ | .bool _, .tuple _, _, _, h, _, _ | .bool _, .any, _, _, h, _, _ | .bool _, .vsl .., _, _, h, _, _ | .bool _, .vg .., _, _, h, _, _ => by simp [SV.form] at h
  | .agg _, .int .., _, _, h, _, _ | .agg _, .bool _, _, _, h, _, _ | .agg _, .ptr _, _, _, h, _, _ | .agg _, .slice .., _, _, h, _, _ | .agg _, .func .., _, _, h, _, _ | .agg _, .nilFunc, _, _, h, _, _ | .agg _, .nilIface, _, _, h, _, _ | .agg _, .iface .., _, _, h, _, _ | .agg _, .str _, _, _, h, _, _ | .agg _, .nilMap, _, _, h, _, _ | .agg _, .tuple _, _, _, h, _, _ | .agg _, .any, _, _, h, _, _ | .agg _, .vsl .., _, _, h, _, _ | .agg _, .vg .., _, _, h, _, _ => by simp [SV.form] at h
  | .tuple _, .int .., _, _, h, _, _ | .tuple _, .bool _, _, _, h, _, _ | .tuple _, .ptr _, _, _, h, _, _ | .tuple _, .slice .., _, _, h, _, _ | .tuple _, .func .., _, _, h, _, _ | .tuple _, .nilFunc, _, _, h, _, _ | .tuple _, .nilIface, _, _, h, _, _ | .tuple _, .iface .., _, _, h, _, _ | .tuple _, .str _, _, _, h, _, _ | .tuple _, .nilMap, _, _, h, _, _ | .tuple _, .agg _, _, _, h, _, _ | .tuple _, .any, _, _, h, _, _ | .tuple _, .vsl .., _, _, h, _, _ | .tuple _, .vg .., _, _, h, _, _ => by simp [SV.form] at h
  | .ptr _, _, _, _, h, _, _ | .slice .., _, _, _, h, _, _ | .func .., _, _, _, h, _, _ | .nilFunc, _, _, _, h, _, _ | .nilIface, _, _, _, h, _, _ | .iface .., _, _, _, h, _, _ | .str _, _, _, _, h, _, _ | .nilMap, _, _, _, h, _, _ | .any, _, _, _, h, _, _ | .vsl .., _, _, _, h, _, _ | .vg .., _, _, _, h, _, _ => by simp [SV.form] at h
theorem RepL.fill2 {env env' : Env} {ρ ρ' : Pl} : ∀ {u v : List SV} {es : List E} {vs : List Value}, SV.formL u v = true → (∀ j, j < (SV.numsL u).length → (es.getD j (.lit 0)).den env' = ((SV.numsL u).getD j (.lit 0)).den env) → RepL env ρ u vs → RepL env' ρ' (SV.fillL v es) vs
  | [], [], es, vs, _, _, hr => by rw [show vs = [] from hr]; rfl
  | u :: l, v :: l', es, vs, h, g, hr => by
      simp only [SV.formL, Bool.and_eq_true] at h
      obtain ⟨x, xs, h1, h2, rfl⟩ := hr
      have hl := SV.form_len h.1
      simp only [SV.fillL]
      refine ⟨x, xs, Rep.fill2 h.1 (fun j hj => ?_) h1, RepL.fill2 h.2 (fun j hj => ?_) h2, rfl⟩
      · have := g j (by simp only [SV.numsL, List.length_append]; omega)
        rw [this]
        simp only [SV.numsL, List.getD_eq_getElem?_getD, List.getElem?_append_left hj]
      · have := g (u.nums.length + j) (by simp only [SV.numsL, List.length_append]; omega)
        simp only [SV.numsL, List.getD_eq_getElem?_getD] at this ⊢
        rw [List.getElem?_append_right (by omega), Nat.add_sub_cancel_left] at this
        rw [← this, List.getElem?_drop, hl]
  | [], _ :: _, _, _, h, _, _ => by simp [SV.formL] at h
  | _ :: _, [], _, _, h, _, _ => by simp [SV.formL] at h
end

theorem openO_ok {env : Env} {cx : Ctx} (hc : cx.ok env) {ρ : Pl} {B : Nat} {h : T Blk} {w : World} (hs : HS env ρ B h w) : ∀ {outs : List OC} {vs : List SV} {used : List Nat} {es : List E} {us : List Value} {xs : Nat → Int},
    openO h cx outs vs used = some es → RepL env ρ vs us → (∀ j, j < ocN outs → (es.getD j (.lit 0)).den env = xs j) →
      OutIs w B outs xs (fun q => ∀ b o, b ∈ used → ρ b = some (q, o) → ¬ Solid env o (h.get b)) us
  | [], [], used, es, us, xs, ho, hr, hx => by rw [show us = [] from hr]; rfl
  | [], _ :: _, used, es, us, xs, ho, hr, hx => by simp [openO] at ho
  | .num _ :: _, [], used, es, us, xs, ho, hr, hx => by simp [openO] at ho
  | .row _ _ :: _, [], used, es, us, xs, ho, hr, hx => by simp [openO] at ho
  | .num s :: l, v :: vs, used, es, us, xs, ho, hr, hx => by
      obtain ⟨V, us', hV, hr', rfl⟩ := hr
      simp only [openO] at ho
      cases hf : v.form s with
      | false => rw [hf, cond_false] at ho; cases ho
      | true =>
        rw [hf, cond_true, Option.map_eq_some_iff] at ho
        obtain ⟨es', ho, rfl⟩ := ho
        have hl := SV.form_len hf
        refine ⟨V, us', rfl, fun env' ρ' es2 h2 => ?_, openO_ok hc hs ho hr' fun j hj => ?_⟩
        · refine Rep.fill2 (u := v) hf (fun j hj => ?_) hV
          rw [h2 j (by omega), ← hx j (by simp only [ocN, OC.n]; omega)]
          simp only [List.getD_eq_getElem?_getD, List.getElem?_append_left hj]
        · have := hx (s.nums.length + j) (by simp only [ocN, OC.n]; omega)
          rw [← this]
          simp only [List.getD_eq_getElem?_getD]
          rw [List.getElem?_append_right (by omega)]
          congr 3
          omega
  | .row sig ty :: l, v :: vs, used, es, us, xs, ho, hr, hx => by
      obtain ⟨V, us', hV, hr', rfl⟩ := hr
      simp only [openO] at ho
      split at ho
      case h_2 => cases ho
      rename_i e1 e2 m hn
      split at ho
      case h_2 => cases ho
      rename_i used' hu
      cases hp : Nat.blt 0 sig.length with
      | false => rw [hp, cond_false] at ho; cases ho
      | true =>
        rw [hp, cond_true, Option.map_eq_some_iff] at ho
        obtain ⟨es', ho, rfl⟩ := ho
        have hpos := blt_lt hp
        obtain ⟨r, c, h1, h2, h3, h4⟩ := rowNums_ok hc hs hpos hn hV
        have x0 : e1.den env = xs 0 := hx 0 (by simp only [ocN, OC.n]; omega)
        have x1 : e2.den env = xs 1 := hx 1 (by simp only [ocN, OC.n]; omega)
        rw [x0, x1] at h1
        rw [x1] at h3 h4
        have ih := openO_ok (xs := fun j => xs (2 + j)) hc hs ho hr' fun j hj => by
          have := hx (2 + j) (by simp only [ocN, OC.n]; omega)
          rw [← this]
          simp [List.getD_eq_getElem?_getD, show 2 + j = j + 1 + 1 by omega]
        have hr : ¬ voidN c (xs 1) → B ≤ r := fun hv => ((h1 ⟨fun _ => 0, fun _ _ => 0⟩ (.lit (xs 0)) (.lit (xs 1)) rfl rfl).2 ((void_iff rfl).2 hv)).2
        refine ⟨V, us', r, c, rfl, h1, (fun env' ρ' nb e hq he => h2 env' ρ' nb e hq (by rw [he, x1])), fun hv b o hb hρ hsol => ?_, ?_⟩
        · rcases addRn_ok hu with ⟨rfl, _⟩ | ⟨b0, rfl, rfl, _, hnb⟩
          · exact hv (h3 rfl)
          · obtain ⟨o0, e0, hs0⟩ := h4 b0 rfl
            have := hs.inj b b0 r o o0 hρ e0 (hr hv) hsol (hs0 hv)
            subst this
            exact hnb hb
        · refine ih.le (Nat.le_refl _) fun q hq hf => ⟨fun b o hb => ?_, fun hv he => ?_⟩
          · rcases addRn_ok hu with ⟨_, rfl⟩ | ⟨b0, _, rfl, _, _⟩
            · exact hf b o hb
            · exact hf b o (by simp [hb])
          · subst he
            rcases addRn_ok hu with ⟨rfl, _⟩ | ⟨b0, rfl, rfl, _, hnb⟩
            · exact hv (h3 rfl)
            · obtain ⟨o0, e0, hs0⟩ := h4 b0 rfl
              exact hf b0 o0 (by simp) e0 (hs0 hv)

/-! ### a run that tells the context at its ends -/

def PT.holdsO (env : Env) (Q : Out → T Blk → Prop) : PT → Prop
  | .leaf o s => Q o s.h
  | .ite c t e => (c.den env = true → t.holdsO env Q) ∧ (c.den env = false → e.holdsO env Q)
  | .need c t => c.den env = true ∧ t.holdsO env Q
  | .fail _ => False
theorem PT.holdsO_at {env : Env} {Q : Out → T Blk → Prop} : ∀ {t : PT}, t.holdsO env Q → ∃ o s, t.at env = some (o, s) ∧ Q o s.h
  | .leaf o s, h => ⟨o, s, rfl, h⟩
  | .ite c t e, h => by
      simp only [PT.at]
      cases hc : c.den env with
      | true => simpa using PT.holdsO_at (h.1 hc)
      | false => simpa using PT.holdsO_at (h.2 hc)
  | .need c t, h => by
      simp only [PT.at, h.1, if_true]
      exact PT.holdsO_at h.2
  | .fail _, h => h.elim
theorem PT.holdsO_vt {env : Env} {outs : List OC} {Q : List E → Prop} : ∀ {t : PT}, (t.vtO outs).holds env (fun u => Q u.nums) → t.holdsO env fun o h => ∃ v cx vs es, o = .val v cx ∧ unOne outs v = some vs ∧ openO h cx outs vs [] = some es ∧ Q es
  | .leaf (.val v cx) s, h => by
      simp only [PT.vtO] at h
      split at h
      · rename_i vs hv
        split at h
        · rename_i es he
          refine ⟨v, cx, vs, es, rfl, hv, he, ?_⟩
          have h : Q (numV es).nums := h
          rwa [numV_nums] at h
        · exact h.elim
      · exact h.elim
  | .leaf (.tms _ _) s, h => h.elim
  | .ite c t e, h => ⟨fun hc => PT.holdsO_vt (h.1 hc), fun hc => PT.holdsO_vt (h.2 hc)⟩
  | .need c t, h => ⟨h.1, PT.holdsO_vt h.2⟩
  | .fail _, h => h

theorem calls_runO {P : Program} {X : Par} {env : Env} {fn : Nat → List Int → Int} (hmix : P.follows .mixedOrders = true) (hX : ParOK P fn X) (he : env.f = fn) {n f : Nat} {args : List SV} {vs : List Value} {cx : Ctx} {h0 : T Blk} {nx : Nat} {ρ : Pl} {w : World} {Q : Out → T Blk → Prop}
    (hc : cx.ok env) (ha : RepL env ρ args vs) (hs : HS env ρ w.heap.size h0 w) (h : (run (callT P X n f args cx) ⟨h0, nx, 0, [], [], true⟩).holdsO env Q) :
    Calls P f vs.toArray w fun e w' => ∃ v cx' h' ρ' V, Q (.val v cx') h' ∧ cx'.ok env ∧ e = .returned V ∧ Rep env ρ' v V ∧ ρ.le ρ' ∧ HS env ρ' w.heap.size h' w' ∧ Below w.heap.size w w' := by
  obtain ⟨o, s, hat, hq⟩ := PT.holdsO_at h
  have hrun : runE env (callT P X n f args cx) ⟨h0, nx, 0, [], [], true⟩ = some (o, s) := hat
  intro cs
  obtain ⟨v, cx', s', ρ', V, w', fr', g1, g2, g3, g4, g5, g6, g7, g8, g9, g10⟩ := ((exec_ok (B := w.heap.size) hmix hX n env he).2).call f args cx _ _ _ hrun hc ρ vs w ha hs cs
  simp only [runE, run, PT.at, Option.some.injEq, Prod.mk.injEq] at g1
  obtain ⟨rfl, rfl⟩ := g1
  exact ⟨.returned V, w', fr', ⟨v, cx', s'.h, ρ', V, hq, g2, rfl, g4, g3, g5, g6⟩, g8, g9, g10⟩

theorem unOne_ok {env : Env} {ρ : Pl} {outs : List OC} {v : SV} {vs : List SV} {V : Value} (h : unOne outs v = some vs) (hv : Rep env ρ v V) (hl : outs.length ≠ 1 → vs.length ≠ 1) : ∃ us, RepL env ρ vs us ∧ V = oneV us := by
  unfold unOne at h
  split at h
  · cases h
    exact ⟨[V], ⟨V, [], hv, rfl, rfl⟩, rfl⟩
  · rename_i hne
    cases h
    obtain ⟨us, hr, rfl⟩ := hv
    refine ⟨us, hr, ?_⟩
    have h1 := hr.length
    match us with
    | [] => rfl
    | [u] =>
      exfalso
      refine hl (fun hl => ?_) (by simpa using h1.symm)
      match outs, hl with
      | [x], _ => exact hne x rfl
    | a :: b :: l => rfl
  · cases h

theorem openO_len {h : T Blk} {cx : Ctx} : ∀ {outs : List OC} {vs : List SV} {used : List Nat} {es : List E}, openO h cx outs vs used = some es → vs.length = outs.length ∧ es.length = ocN outs
  | [], [], used, es, ho => by simp only [openO] at ho; cases ho; exact ⟨rfl, rfl⟩
  | [], _ :: _, used, es, ho => by simp [openO] at ho
  | .num _ :: _, [], used, es, ho => by simp [openO] at ho
  | .row _ _ :: _, [], used, es, ho => by simp [openO] at ho
  | .num s :: l, v :: vs, used, es, ho => by
      simp only [openO] at ho
      cases hf : v.form s with
      | false => rw [hf, cond_false] at ho; cases ho
      | true =>
        rw [hf, cond_true, Option.map_eq_some_iff] at ho
        obtain ⟨es', ho, rfl⟩ := ho
        obtain ⟨h1, h2⟩ := openO_len ho
        have hl := SV.form_len hf
        simp only [List.length_cons, List.length_append, ocN, OC.n, h1, h2, hl]
        exact ⟨trivial, trivial⟩
  | .row sig ty :: l, v :: vs, used, es, ho => by
      simp only [openO] at ho
      split at ho
      case h_2 => cases ho
      split at ho
      case h_2 => cases ho
      cases hp : Nat.blt 0 sig.length with
      | false => rw [hp, cond_false] at ho; cases ho
      | true =>
        rw [hp, cond_true, Option.map_eq_some_iff] at ho
        obtain ⟨es', ho, rfl⟩ := ho
        obtain ⟨h1, h2⟩ := openO_len ho
        simp only [List.length_cons, ocN, OC.n, h1, h2]
        exact ⟨trivial, by omega⟩

theorem WC.ok_runC {P : Program} {fn : Nat → List Int → Int} {c : WC} {X : Par} {n : Nat} (hmix : P.follows .mixedOrders = true) (hX : ParOK P fn X) (hent : (entered P c.f).isSome = true)
    (h : ∀ pv w, pvAll w c.shs pv → FnRows fn c.shs pv 0 → (∀ b, b ∈ c.pre → b.den (envOf (pvNums pv) fn) = true) →
      (∀ b, b ∈ c.facts → b.den (envOf (pvNums pv) fn) = true) ∧ (∀ p, p ∈ c.rngs → p.2.1 ≤ p.1.den (envOf (pvNums pv) fn) ∧ p.1.den (envOf (pvNums pv) fn) ≤ p.2.2) ∧
      ∃ cx : Ctx, cx.ok (envOf (pvNums pv) fn) ∧ ((run (callT P X n c.f (rcArgs c.sh) cx) (rcSt c.sh)).vtO c.outs).holds (envOf (pvNums pv) fn) fun u => ∀ j, j < ocN c.outs → (u.nums.getD j (.lit 0)).den (envOf (pvNums pv) fn) = fn (c.K + j) (selV c.sel (envOf (pvNums pv) fn))) : c.OK P fn := by
  refine ⟨hent, fun pv w hw hfn hpre => ?_⟩
  obtain ⟨h1, h2, cx0, hcx0, h3⟩ := h pv w hw hfn hpre
  refine ⟨h1, fun e lo hi hm => h2 _ hm, ?_⟩
  obtain ⟨ρ, p3, p4⟩ := places 0 hw
  have hv : ∀ j, j < (pvNums pv).length → (envOf (pvNums pv) fn).v (0 + j) = (pvNums pv).getD j 0 := fun j hj => by simp [envOf]
  have hs : HS (envOf (pvNums pv) fn) ρ w.heap.size (shStore c.shs 0 0) w := by
    refine ⟨?_, ?_, ?_, Nat.le_refl _, ?_, hX.rows⟩
    · intro b v hg
      obtain ⟨r, o, e, ho, hb⟩ := shStore_blk hw p4 hfn hv b v hg
      exact ⟨r, o, e, fun hvd => ⟨(hb hvd).1, (fun h => by rw [ho] at h; cases h), fun _ => (hb hvd).2⟩⟩
    · intro b p e
      have := p3 b p e
      exact shStore_dom (by omega) (by omega)
    · intro b b' r o o' e e' hr hd hd'
      cases hg : (shStore c.shs 0 0).get b with
      | none =>
        have := p3 b _ e
        exact absurd hg (shStore_dom (by omega) (by omega))
      | some v =>
        rw [hg] at hd
        obtain ⟨r', o', e1, ho, hb⟩ := shStore_blk hw p4 hfn hv b v hg
        rw [e] at e1
        cases e1
        have := (hb hd.void).2
        omega
    · intro b v hg
      obtain ⟨r, o, e, ho, hb⟩ := shStore_blk hw p4 hfn hv b v hg
      cases v with
      | vec => cases ho
      | _ => exact trivial
  refine (calls_runO hmix hX (env := envOf (pvNums pv) fn) rfl hcx0 (selBy_rep (shArgs_rep hw p4 hv)) hs (PT.holdsO_vt (Q := fun es => ∀ j, j < ocN c.outs → (es.getD j (.lit 0)).den (envOf (pvNums pv) fn) = fn (c.K + j) (selV c.sel (envOf (pvNums pv) fn))) h3)).mono ?_
  rintro e w' ⟨v, cx', h', ρ', V, ⟨v', cx2, vs, es, e1, hun, hop, hq⟩, hcx, rfl, hr, _, hs', hb⟩
  cases e1
  obtain ⟨us, hru, rfl⟩ := unOne_ok hun hr (fun hne => by rw [(openO_len hop).1]; exact hne)
  exact ⟨us, rfl, (openO_ok hcx hs' hop hru hq).le (Nat.le_refl _) (fun _ _ _ => trivial), hb⟩
theorem WC.ok_run {P : Program} {fn : Nat → List Int → Int} {c : WC} {X : Par} {d n : Nat} {t : VT} (hmix : P.follows .mixedOrders = true) (hX : ParOK P fn X) (hent : (entered P c.f).isSome = true)
    (ht : (run (callT P X n c.f (rcArgs c.sh) (rcCtx c.sh c.pre d)) (rcSt c.sh)).vtO c.outs = t)
    (h : ∀ pv w, pvAll w c.shs pv → FnRows fn c.shs pv 0 → (∀ b, b ∈ c.pre → b.den (envOf (pvNums pv) fn) = true) →
      (∀ b, b ∈ c.facts → b.den (envOf (pvNums pv) fn) = true) ∧ (∀ p, p ∈ c.rngs → p.2.1 ≤ p.1.den (envOf (pvNums pv) fn) ∧ p.1.den (envOf (pvNums pv) fn) ≤ p.2.2) ∧
      t.holds (envOf (pvNums pv) fn) fun u => ∀ j, j < ocN c.outs → (u.nums.getD j (.lit 0)).den (envOf (pvNums pv) fn) = fn (c.K + j) (selV c.sel (envOf (pvNums pv) fn))) : c.OK P fn :=
  WC.ok_runC (X := X) (n := n) hmix hX hent fun pv w hw hfn hpre =>
    let ⟨h1, h2, h3⟩ := h pv w hw hfn hpre
    ⟨h1, h2, rcCtx c.sh c.pre d, RC.ctx_ok hw hpre, by rw [ht]; exact h3⟩

end Go.SX
