/- rows: At. -/
import Derived.Test.YtggapcfjcdafpaaGreatGb21
import Derived.Test.YtggapcfjcdafpaaGreatGb08
import Derived.Shelf.SlSorted.Search
import Derived.Shelf.Lay
import Derived.Ground.SlsoProg
namespace Go.Proofs.YtggapcfjcdafpaaGreat
open Go.RowKit
set_option linter.unusedVariables false
set_option linter.unusedSimpArgs false

theorem aR_eq (L : List RW.Row) (k r : Int) : RW.aR L k r = at0 0 (vget k L) r := by
  unfold RW.aR RW.rin at0 vget
  by_cases h : 0 ≤ r ∧ r ≤ 1114111
  · rw [if_pos h, if_pos (by omega : 0 ≤ r ∧ r < 1114112)]
  · rw [if_neg h, if_neg (by omega : ¬ (0 ≤ r ∧ r < 1114112))]
    rfl
/-- Rows of pairs have one scalar each, of which they are what is said, and scalars as values. -/
def oneB (L : List RW.Row) : Bool := L.all fun x => x.k != 2 || (decide (x.f = x.t ∧ 0 ≤ x.f ∧ x.f ≤ 1114111 ∧ -2147483648 ≤ x.a ∧ x.a ≤ 2147483647 ∧ -2147483648 ≤ x.b ∧ x.b ≤ 2147483647) && RW.rval 2 L x.f == some (x.a, x.b))
theorem one_of {L : List RW.Row} (h : oneB L = true) {x : RW.Row} (hx : x ∈ L) (hk : x.k = 2) : (x.f = x.t ∧ 0 ≤ x.f ∧ x.f ≤ 1114111 ∧ -2147483648 ≤ x.a ∧ x.a ≤ 2147483647 ∧ -2147483648 ≤ x.b ∧ x.b ≤ 2147483647) ∧ RW.rval 2 L x.f = some (x.a, x.b) := by
  have := List.all_eq_true.1 h x hx
  simp only [hk, bne_self_eq_false, Bool.false_or, Bool.and_eq_true, decide_eq_true_eq, beq_iff_eq] at this
  exact this
theorem w32_id {a : Int} (h0 : -2147483648 ≤ a) (h1 : a ≤ 2147483647) : w32 a = a := IntWalk.i32_in _ (by omega)
theorem rval_row {L : List RW.Row} {k r : Int} {p : Int × Int} (h : RW.rval k L r = some p) : ∃ x ∈ L, x.k = k ∧ x.f ≤ r ∧ r ≤ x.t ∧ (x.a, x.b) = p := by
  unfold RW.rval at h
  cases hf : L.find? (RW.Row.has k r) with
  | none => rw [hf] at h; cases h
  | some x =>
    rw [hf] at h
    have h1 := List.find?_some hf
    simp only [RW.Row.has, decide_eq_true_eq] at h1
    exact ⟨x, List.mem_of_find?_eq_some hf, h1.1, h1.2.1, h1.2.2, Option.some.inj h⟩
theorem pairR_eq {L : List RW.Row} (h : oneB L = true) (r : Int) : RW.pairR L r = ((at0 (0, 0) (pget2 L) r).1, (at0 (0, 0) (pget2 L) r).2, at0 (0, 0) (pget2 L) r != (0, 0)) := by
  unfold RW.pairR RW.rin at0 pget2
  by_cases hr : 0 ≤ r ∧ r ≤ 1114111
  · rw [if_pos hr, if_pos (by omega : 0 ≤ r ∧ r < 1114112)]
    cases hv : RW.rval 2 L r with
    | none => rfl
    | some p =>
      obtain ⟨x, hx, hk, _, _, rfl⟩ := rval_row hv
      obtain ⟨⟨_, _, _, a0, a1, b0, b1⟩, _⟩ := one_of h hx hk
      dsimp only [Option.map_some, Option.getD_some]
      rw [show IntKind.i32.wrap x.a = x.a from w32_id a0 a1, show IntKind.i32.wrap x.b = x.b from w32_id b0 b1]
      by_cases hc : x.a = 0 ∧ x.b = 0
      · rw [if_pos hc, hc.1, hc.2]; rfl
      · rw [if_neg hc]
        have : ((x.a, x.b) != ((0, 0) : Int × Int)) = true := by simpa using fun e => fun e' => hc ⟨e, e'⟩
        rw [w32_id a0 a1, w32_id b0 b1, this]
  · rw [if_neg hr, if_neg (by omega : ¬ (0 ≤ r ∧ r < 1114112))]
    rfl
theorem outR_eq {L : List RW.Row} (h : oneB L = true) (r : Int) : RW.outR L r = outT L r := by
  unfold RW.outR outT outB
  rw [pairR_eq h]
  simp only [aR_eq]
theorem fold_least (F : RW.Row → Bool) (v : RW.Row → Int) (M : List RW.Row) : ∀ k, k ≤ M.length → ∀ s, (M.take k).foldl (fun s x => if F x = true ∧ (s.2 = false ∨ v x < s.1) then (v x, true) else s) ((0, false) : Int × Bool) = s →
    (s.2 = false → s.1 = 0 ∧ ∀ x ∈ M.take k, F x = false) ∧ (s.2 = true → (∃ x ∈ M.take k, F x = true ∧ v x = s.1) ∧ ∀ x ∈ M.take k, F x = true → s.1 ≤ v x) := by
  intro k
  induction k with
  | zero =>
    intro _ s hs
    simp at hs
    subst hs
    exact ⟨(fun _ => ⟨rfl, (fun x hx => (by simp at hx))⟩), (fun h => (by cases h))⟩
  | succ k ih =>
    intro hk s hs
    have hx : M[k]? = some M[k] := List.getElem?_eq_getElem (by omega)
    rw [RW.foldl_take hx] at hs
    obtain ⟨s', hs'⟩ : ∃ s', (M.take k).foldl (fun s x => if F x = true ∧ (s.2 = false ∨ v x < s.1) then (v x, true) else s) ((0, false) : Int × Bool) = s' := ⟨_, rfl⟩
    rw [hs'] at hs
    obtain ⟨i1, i2⟩ := ih (by omega) s' hs'
    rw [take_snoc' hx]
    clear hs'
    generalize M[k] = x at hs ⊢
    by_cases hc : F x = true ∧ (s'.2 = false ∨ v x < s'.1)
    · rw [if_pos hc] at hs
      subst hs
      refine ⟨(fun h => (by cases h)), fun _ => ⟨⟨x, by simp, hc.1, rfl⟩, fun y hy hF => ?_⟩⟩
      dsimp only
      rcases List.mem_append.1 hy with hy | hy
      · rcases hc.2 with h | h
        · rw [(i1 h).2 y hy] at hF; cases hF
        · by_cases h2 : s'.2 = false
          · rw [(i1 h2).2 y hy] at hF; cases hF
          · have := (i2 (by simpa using h2)).2 y hy hF
            omega
      · simp at hy
        subst hy
        exact Int.le_refl _
    · rw [if_neg hc] at hs
      subst hs
      refine ⟨fun h => ⟨(i1 h).1, fun y hy => ?_⟩, fun h => ⟨?_, fun y hy hF => ?_⟩⟩
      · rcases List.mem_append.1 hy with hy | hy
        · exact (i1 h).2 y hy
        · simp at hy
          subst hy
          cases e : F y with
          | false => rfl
          | true => exact absurd ⟨e, .inl h⟩ hc
      · obtain ⟨y, hy, h1⟩ := (i2 h).1
        exact ⟨y, by simp [hy], h1⟩
      · rcases List.mem_append.1 hy with hy | hy
        · exact (i2 h).2 y hy hF
        · simp at hy
          subst hy
          rcases Int.lt_or_le (v y) s'.1 with h1 | h1
          · exact absurd ⟨hF, .inr h1⟩ hc
          · exact h1
theorem pget2_at {L : List RW.Row} {r : Int} (r0 : 0 ≤ r) (r1 : r ≤ 1114111) : at0 (0, 0) (pget2 L) r = pget2 L r := if_pos (by omega : 0 ≤ r ∧ r < 1114112)
/-- A row that fits. -/
theorem fit_iff {L : List RW.Row} (h : oneB L = true) {a b : Int} {x : RW.Row} (hx : x ∈ L) : RW.fitB L a b x = true ↔ x.k = 2 ∧ b ≠ 0 ∧ pget2 L x.f = (a, b) ∧ outT L x.f = false := by
  unfold RW.fitB
  rw [pairR_eq h, outR_eq h]
  constructor
  · intro hf
    simp only [Bool.and_eq_true, beq_iff_eq, bne_iff_ne, Bool.not_eq_true'] at hf
    obtain ⟨⟨⟨⟨⟨⟨⟨f1, f2⟩, f3⟩, f4⟩, f5⟩, f6⟩, f7⟩, f8⟩ := hf
    obtain ⟨⟨_, r0, r1, _⟩, _⟩ := one_of h hx f1
    rw [show IntKind.i32.wrap x.f = x.f from w32_id (by omega) (by omega)] at f6 f7 f8
    rw [pget2_at r0 r1] at f6 f7
    exact ⟨f1, f4, Prod.ext f6 f7, f8⟩
  · rintro ⟨f1, f4, f5, f8⟩
    obtain ⟨⟨_, r0, r1, a0, a1, b0, b1⟩, hv⟩ := one_of h hx f1
    rw [show IntKind.i32.wrap x.f = x.f from w32_id (by omega) (by omega), pget2_at r0 r1, f5]
    have e : pget2 L x.f = (x.a, x.b) := by
      unfold pget2
      rw [hv]
      show (w32 x.a, w32 x.b) = _
      rw [w32_id a0 a1, w32_id b0 b1]
    rw [e] at f5
    simp only [Prod.mk.injEq] at f5
    simp [f1, f4, f5.1, f5.2, f8]
theorem row_of {L : List RW.Row} (h : oneB L = true) {r a b : Int} (r0 : 0 ≤ r) (r1 : r ≤ 1114111) (hb : b ≠ 0) (hp : pget2 L r = (a, b)) : ∃ x ∈ L, x.k = 2 ∧ x.f = r ∧ x.b = b := by
  unfold pget2 at hp
  cases hv : RW.rval 2 L r with
  | none => rw [hv] at hp; simp at hp; exact absurd hp.2.symm hb
  | some p =>
    rw [hv] at hp
    obtain ⟨x, hx, hk, h1, h2, rfl⟩ := rval_row hv
    obtain ⟨⟨e, _, _, a0, a1, b0, b1⟩, _⟩ := one_of h hx hk
    dsimp only [Option.map_some, Option.getD_some] at hp
    rw [w32_id b0 b1] at hp
    exact ⟨x, hx, hk, by omega, (Prod.mk.inj hp).2⟩
theorem compR_eq {L : List RW.Row} (h : oneB L = true) {l : TP.V2 → Option Int} {c : Int → Int} (hc : CompS L l c) (a b : Int) : RW.compR L a b = ((l (a, b)).getD 0, (l (a, b)).isSome) := by
  obtain ⟨s, hs⟩ : ∃ s, RW.compR L a b = s := ⟨_, rfl⟩
  have key := fold_least (RW.fitB L a b) (fun x => IntKind.i32.wrap x.f) L L.length (Nat.le_refl _) s (by rw [List.take_length]; exact hs)
  rw [List.take_length] at key
  rw [hs]
  obtain ⟨fd, ok⟩ := s
  dsimp only at key
  have fw : ∀ x ∈ L, RW.fitB L a b x = true → IntKind.i32.wrap x.f = x.f ∧ 0 ≤ x.f ∧ x.f ≤ 1114111 := fun x hx hF => by
    obtain ⟨⟨_, r0, r1, _⟩, _⟩ := one_of h hx ((fit_iff h hx).1 hF).1
    exact ⟨w32_id (by omega) (by omega), r0, r1⟩
  cases hl : l (a, b) with
  | none =>
    have hno : ∀ x ∈ L, RW.fitB L a b x = false := fun x hx => by
      cases e : RW.fitB L a b x with
      | false => rfl
      | true =>
        obtain ⟨f1, f2, f3, f4⟩ := (fit_iff h hx).1 e
        obtain ⟨_, r0, r1⟩ := fw x hx e
        rcases hc.no _ hl with h0 | h0
        · exact absurd h0 f2
        · rw [h0 x.f r0 r1 f3] at f4; cases f4
    cases ok
    case false => rw [(key.1 rfl).1]; rfl
    case true =>
      obtain ⟨⟨x, hx, hF, _⟩, _⟩ := key.2 rfl
      rw [hno x hx] at hF; cases hF
  | some r =>
    obtain ⟨h1, ⟨r0, r1⟩, h3, h4, h5⟩ := hc.yes _ _ hl
    obtain ⟨x, hx, hk, hxf, _⟩ := row_of h r0 r1 h1 h3
    have hF : RW.fitB L a b x = true := (fit_iff h hx).2 ⟨hk, h1, by rw [hxf]; exact h3, by rw [hxf]; exact h4⟩
    cases ok
    case false => rw [(key.1 rfl).2 x hx] at hF; cases hF
    case true =>
      obtain ⟨⟨y, hy, hG, e⟩, hle⟩ := key.2 rfl
      have w1 := fw x hx hF
      have w2 := fw y hy hG
      have l1 := hle x hx hF
      rw [w1.1, hxf] at l1
      rw [w2.1] at e
      obtain ⟨g1, g2, g3, g4⟩ := (fit_iff h hy).1 hG
      have : ¬ y.f < r := fun hlt => by rw [h5 y.f w2.2.1 hlt g3] at g4; cases g4
      have : fd = r := by omega
      rw [this]
      rfl
theorem secR_eq {L : List RW.Row} (h : oneB L = true) {l : TP.V2 → Option Int} {c : Int → Int} (hc : CompS L l c) (r : Int) : RW.secR L r = decide (0 < c r) := by
  have key : RW.secR L r = true ↔ 0 < c r := by
    rw [hc.num r]
    unfold RW.secR
    rw [List.any_eq_true]
    constructor
    · rintro ⟨x, hx, hs⟩
      unfold RW.secB at hs
      rw [outR_eq h] at hs
      simp only [Bool.and_eq_true, beq_iff_eq, bne_iff_ne, Bool.not_eq_true'] at hs
      obtain ⟨⟨⟨f1, f2⟩, f3⟩, f4⟩ := hs
      obtain ⟨⟨_, r0, r1, a0, a1, b0, b1⟩, hv⟩ := one_of h hx f1
      rw [show IntKind.i32.wrap x.f = x.f from w32_id (by omega) (by omega)] at f4
      have e : pget2 L x.f = (x.a, r) := by
        unfold pget2
        rw [hv]
        show (w32 x.a, w32 x.b) = _
        rw [w32_id a0 a1, w32_id b0 b1, f2]
      refine ⟨x.a, ?_⟩
      cases hl : l (x.a, r) with
      | some q => rfl
      | none =>
        rcases hc.no _ hl with h0 | h0
        · exact absurd h0 f3
        · rw [h0 x.f r0 r1 e] at f4; cases f4
    · rintro ⟨a, ha⟩
      obtain ⟨q, hq⟩ := Option.isSome_iff_exists.1 ha
      obtain ⟨h1, ⟨r0, r1⟩, h3, h4, _⟩ := hc.yes _ _ hq
      obtain ⟨x, hx, hk, hxf, hxb⟩ := row_of h r0 r1 h1 h3
      refine ⟨x, hx, ?_⟩
      unfold RW.secB
      rw [outR_eq h, hxf, show IntKind.i32.wrap q = q from w32_id (by omega) (by omega), h4]
      have : r ≠ 0 := h1
      simp [hk, hxb, this]
  by_cases h0 : 0 < c r
  · rw [key.2 h0, decide_eq_true h0]
  · rw [decide_eq_false h0]
    cases e : RW.secR L r with
    | false => rfl
    | true => exact absurd (key.1 e) h0
end Go.Proofs.YtggapcfjcdafpaaGreat

namespace Go.Proofs
open Go.Shelf
shelf_lay SlLaysO.n16 Slso 16 at Tryz as YtggapcfjcdafpaaGreat.searchF
end Go.Proofs
namespace Go.Proofs.YtggapcfjcdafpaaGreat.RW
open Go.RowKit Go.Shelf Go.Sort
set_option linter.unusedVariables false
set_option linter.unusedSimpArgs false

def atP (S : List Span) (r : Int) : Option Span := S.find? (Span.has r)
def atV : Option Span → Value
  | some s => .tuple #[.agg (encS s).toArray, .bool true]
  | none => .tuple #[.agg #[.int .i64 0, .int .i64 0, .int .i64 0, .int .i64 0], .bool false]
def tAt (S : List Span) (i : Nat) : Int := ((S[i]?).map Span.t).getD 0
def cntP (S : List Span) (r : Int) : Nat := (List.range S.length).countP fun i => !decide (r ≤ tAt S i)

theorem rise_t {S : List Span} (h : Rise S) {i j : Nat} (hij : i ≤ j) (hj : j < S.length) : tAt S i ≤ tAt S j := by
  rcases Nat.lt_or_eq_of_le hij with h1 | rfl
  · have h2 := List.pairwise_iff_getElem.1 h.1 i j (by omega) hj h1
    have h3 := h.2 S[j] (List.getElem_mem hj)
    simp [tAt, hj, show i < S.length by omega]
    omega
  · exact Int.le_refl _
theorem count_range {n : Nat} {p : Nat → Bool} (hm : ∀ a b, a ≤ b → b < n → p a = true → p b = true) : ∀ i, i < n → (i < (List.range n).countP (fun i => !p i) ↔ p i = false) := by
  induction n with
  | zero => intro i hi; omega
  | succ n ih =>
    have ih := ih fun a b h1 h2 h3 => hm a b h1 (by omega) h3
    intro i hi
    rw [List.range_succ, List.countP_append]
    have hle : (List.range n).countP (fun i => !p i) ≤ n := by have := List.countP_le_length (p := fun i => !p i) (l := List.range n); simpa using this
    by_cases hp : p n = true
    · have e : List.countP (fun i => !p i) [n] = 0 := by simp [hp]
      rw [e, Nat.add_zero]
      rcases Nat.lt_or_eq_of_le (Nat.le_of_lt_succ hi) with h | rfl
      · exact ih i h
      · constructor
        · intro h; omega
        · intro h; rw [hp] at h; cases h
    · have hp' : p n = false := by simpa using hp
      have e : List.countP (fun i => !p i) [n] = 1 := by simp [hp']
      rw [e]
      have hall : ∀ a, a < n → p a = false := fun a ha => by
        cases h : p a with
        | false => rfl
        | true => exact absurd (hm a n (by omega) (by omega) h) (by simp [hp'])
      have hcn : (List.range n).countP (fun i => !p i) = n := by
        have : (List.range n).countP (fun i => !p i) = (List.range n).length := List.countP_eq_length.2 fun a ha => by simp [hall a (List.mem_range.1 ha)]
        simpa using this
      rw [hcn]
      constructor
      · intro _
        rcases Nat.lt_or_eq_of_le (Nat.le_of_lt_succ hi) with h | rfl
        · exact hall i h
        · exact hp'
      · intro _; omega
theorem cnt_iff {S : List Span} (h : Rise S) (r : Int) (i : Nat) (hi : i < S.length) : i < cntP S r ↔ tAt S i < r := by
  have := count_range (n := S.length) (p := fun i => decide (r ≤ tAt S i)) (fun a b h1 h2 h3 => by have := rise_t h h1 h2; simp at h3 ⊢; omega) i hi
  unfold cntP
  rw [this]
  simp
theorem cnt_le (S : List Span) (r : Int) : cntP S r ≤ S.length := by
  have := List.countP_le_length (p := fun i => !decide (r ≤ tAt S i)) (l := List.range S.length)
  simpa [cntP] using this
theorem at_some {S : List Span} (h : Rise S) (r : Int) {x : Span} (hx : S[cntP S r]? = some x) (hf : x.f ≤ r) : atP S r = some x := by
  obtain ⟨hlt, hxe⟩ := List.getElem?_eq_some_iff.1 hx
  have h1 : ¬ tAt S (cntP S r) < r := fun h' => by have := (cnt_iff h r _ hlt).2 h'; omega
  have h2 : tAt S (cntP S r) = x.t := by simp [tAt, hx]
  unfold atP
  rw [List.find?_eq_some_iff_getElem]
  refine ⟨by simp [Span.has]; omega, cntP S r, hlt, hxe, fun j hj => ?_⟩
  have h3 := (cnt_iff h r j (by omega)).1 hj
  simp [tAt, show j < S.length by omega] at h3
  simp [Span.has]; omega
theorem at_none {S : List Span} (h : Rise S) (r : Int) (hn : ∀ x, S[cntP S r]? = some x → r < x.f) : atP S r = none := by
  unfold atP
  rw [List.find?_eq_none]
  intro s hs
  obtain ⟨j, hj, hje⟩ := List.getElem_of_mem hs
  simp [Span.has]
  intro h1
  rcases Nat.lt_trichotomy j (cntP S r) with h' | h' | h'
  · have h3 := (cnt_iff h r j hj).1 h'
    simp [tAt, hj, hje] at h3
    exact h3
  · subst h'
    have := hn s (by rw [List.getElem?_eq_getElem hj, hje])
    omega
  · have hc : cntP S r < S.length := by omega
    have h4 := hn _ (List.getElem?_eq_getElem hc)
    have h5 := List.pairwise_iff_getElem.1 h.1 (cntP S r) j hc hj h'
    have h6 := h.2 _ (List.getElem_mem hc)
    rw [hje] at h5
    omega

set_option maxHeartbeats 1000000 in
theorem at1_any (A : Option Addr) (c : Nat) (S : List Span) (r : Int) (p q i : Nat) (W : World) (hS : Li 4 encS W (fun _ => True) A S) (hp : W.cell? ⟨p, 0, none⟩ = some (.slice A S.length c)) (hq : W.cell? ⟨q, 0, none⟩ = some (.int .i32 r)) (hi : i < S.length) (hn : S.length ≤ 2000000) (hr1 : -2147483648 ≤ r) (hr2 : r ≤ 2147483647) :
    Calls Tryz.prog 92 #[.int .i64 i, .pointer (some ⟨p, 0, none⟩), .pointer (some ⟨q, 0, none⟩)] W fun e w' => e = .returned (.bool (decide (r ≤ tAt S i))) ∧ ∃ n, w' = W.drewN n := by
  obtain ⟨x, b, o, hx, rfl, _, _, _, c1, _, _⟩ := hS.span hi
  have ht : tAt S i = x.t := by simp [tAt, hx]
  rw [ht]
  have hi2 : (i : Int) < (S.length : Int) := by omega
  have hi3 : (0 : Int) ≤ (i : Int) := by omega
  clear hS hx ht
  go_enter Tryz.func92, Tryz.ntmps92
  go_wp2
  go_quiet (fail)
  go_wp2
  go_ret
  exact ⟨rfl, _, rfl⟩

set_option maxHeartbeats 4000000 in
theorem at_any (A : Option Addr) (c : Nat) (S : List Span) (r : Int) (w : World) (hS : Li 4 encS w (fun _ => True) A S) (hc : S.length ≤ c) (hc2 : c ≤ 9223372036854775807) (hn : S.length ≤ 2000000) (hR : Rise S) (hr1 : -2147483648 ≤ r) (hr2 : r ≤ 2147483647) :
    Calls Tryz.prog 64 #[.slice A S.length c, .int .i32 r] w fun e w' => e = .returned (atV (atP S r)) ∧ Below w.heap.size w w' := by
  have HS := Lib.hid hS
  have HR := Lib.hid hR
  have hcl := cnt_le S r
  have HC := Lib.hid (show (∀ x, S[cntP S r]? = some x → x.f ≤ r → atP S r = some x) ∧ ((∀ x, S[cntP S r]? = some x → r < x.f) → atP S r = none) from ⟨fun x h1 h2 => at_some hR r h1 h2, fun h => at_none hR r h⟩)
  clear hS hR
  go_enter Tryz.func64, Tryz.ntmps64
  go_wp2_with fail
  refine atCalls (fun X => Below w.heap.size w X ∧ Blk X w.heap.size #[.slice A S.length c] ∧ Blk X (w.heap.size + 1) #[.int .i32 r] ∧ Blk X (w.heap.size + 1 + 1) #[.int .i64 0, .int .i64 0, .int .i64 0, .int .i64 0]) ⟨(((Below.refl _ _).alloc (Nat.le_refl _) _).alloc (by simp) _).alloc (by simp; omega) _, (blk_three _ _ _ _ _ _ _).1, (blk_three _ _ _ _ _ _ _).2.1, (blk_three _ _ _ _ _ _ _).2.2⟩ ?_
  rintro X ⟨hX, b0, b1, b2⟩
  have HX := Lib.hid (And.intro hX (And.intro b0 (And.intro b1 b2)))
  clear hX b0 b1 b2
  have eg : ∀ args w, (callFunc 92 args).run Tryz.prog w = .ok (.enter 92 args) w := enters_of Tryz.func92 (by kernel_rfl) rfl
  have hs := Any.sort_Search searchF 92 #[.pointer (some ⟨w.heap.size, 0, none⟩), .pointer (some ⟨w.heap.size + 1, 0, none⟩)] S.length (fun i => decide (r ≤ tAt S i)) X eg (by omega)
    (fun m os i hi => by
      have hb : Below X.heap.size X (grow (X.drewN m) os) := (selfDrew X m).trans (belGrow (X.drewN m) os)
      have k0 := (HX.out.2.1.later hb HX.out.2.1.1).2.1 0
      have k1 := (HX.out.2.2.1.later hb HX.out.2.2.1.1).2.1 0
      refine (at1_any A c S r w.heap.size (w.heap.size + 1) i (grow (X.drewN m) os) ((HS.out.later HX.out.1).later hb) k0 k1 hi hn hr1 hr2).mono ?_
      rintro e w' ⟨he, n, rfl⟩
      exact ⟨he, n, #[], by rw [grow_empty]⟩)
    (fun a b h1 h2 h3 => by have := rise_t HR.out h1 h2; simp at h3 ⊢; omega)
  change Calls Tryz.prog 91 #[.int .i64 S.length, .func (.func 92) #[] #[.pointer (some ⟨w.heap.size, 0, none⟩), .pointer (some ⟨w.heap.size + 1, 0, none⟩)]] X _ at hs
  change Calls _ _ _ _ fun e w' => e = .returned (.int .i64 (cntP S r : Nat)) ∧ ∃ q os, w' = grow (X.drewN q) os at hs
  have H1 := Lib.hid hs
  clear hs
  refine H1.out.mono ?_
  rintro e w1 ⟨rfl, q, os, hw⟩
  have hb : Below X.heap.size X w1 := by rw [hw]; exact (selfDrew X q).trans (belGrow (X.drewN q) os)
  have HY := Lib.hid (show Below w.heap.size w w1 ∧ Blk w1 w.heap.size #[.slice A S.length c] ∧ Blk w1 (w.heap.size + 1) #[.int .i32 r] ∧ Blk w1 (w.heap.size + 1 + 1) #[.int .i64 0, .int .i64 0, .int .i64 0, .int .i64 0] from
    ⟨HX.out.1.trans (hb.mono HX.out.1.size), HX.out.2.1.later hb HX.out.2.1.1, HX.out.2.2.1.later hb HX.out.2.2.1.1, HX.out.2.2.2.later hb HX.out.2.2.2.1⟩)
  clear hw hb H1 HX
  have z0 : w1.cell? ⟨w.heap.size, 0, none⟩ = some (.slice A S.length c) := HY.out.2.1.2.1 0
  have z1 : w1.cell? ⟨w.heap.size + 1, 0, none⟩ = some (.int .i32 r) := HY.out.2.2.1.2.1 0
  have y0 : w1.cell? ⟨w.heap.size + 1 + 1, 0, none⟩ = some (.int .i64 0) := HY.out.2.2.2.2.1 0
  have y1 : w1.cell? ⟨w.heap.size + 1 + 1, 1, none⟩ = some (.int .i64 0) := HY.out.2.2.2.2.1 1
  have y2 : w1.cell? ⟨w.heap.size + 1 + 1, 2, none⟩ = some (.int .i64 0) := HY.out.2.2.2.2.1 2
  have y3 : w1.cell? ⟨w.heap.size + 1 + 1, 3, none⟩ = some (.int .i64 0) := HY.out.2.2.2.2.1 3
  have f0 := HY.out.2.2.2.2.2 0
  have f1 := HY.out.2.2.2.2.2 1
  have f2 := HY.out.2.2.2.2.2 2
  have f3 := HY.out.2.2.2.2.2 3
  have fl := HY.out.2.2.2.1
  obtain ⟨n, hne⟩ : ∃ n, cntP S r = n := ⟨_, rfl⟩
  rw [hne] at HC hcl
  rw [hne]
  clear hne
  by_cases hlt : n < S.length
  · obtain ⟨x, b, o, hx, rfl, hbl, _, c0, c1, c2, c3⟩ := (HS.out.later HY.out.1).span hlt
    have g1 : decide ((n : Int) < (S.length : Int)) = true := decide_eq_true (by omega)
    have g2 : (n : Int) < (S.length : Int) := by omega
    have g3 : (0 : Int) ≤ (n : Int) := by omega
    by_cases hf : x.f ≤ r
    · have HV := Lib.hid (HC.out.1 x hx hf)
      have g4 : decide (x.f ≤ r) = true := decide_eq_true hf
      clear hx HC
      go_wp2_with fail
      go_quiet (fail)
      go_wp2_with fail
      refine bodyPost_ret (v := .tuple #[.agg #[.int .i64 x.f, .int .i64 x.t, .int .i64 x.a, .int .i64 x.b], .bool true]) (by simp [results, Tryz.results64, go_sem, y0, y1, y2, y3, f0, f1, f2, f3, fl]) rfl ⟨by rw [HV.out]; rfl, ?_⟩
      exact ((((belDrew HY.out.1 _).setCell (by simp; omega) _).setCell (by simp; omega) _).setCell (by simp; omega) _).setCell (by simp; omega) _
    · have HV := Lib.hid (HC.out.2 fun y hy => by rw [hx] at hy; injection hy with hy; subst hy; omega)
      have g4 : decide (x.f ≤ r) = false := decide_eq_false hf
      clear hx HC
      go_wp2_with fail
      go_quiet (fail)
      go_wp2_with fail
      refine bodyPost_ret (v := .tuple #[.agg #[.int .i64 0, .int .i64 0, .int .i64 0, .int .i64 0], .bool false]) (by simp [results, Tryz.results64, go_sem, y0, y1, y2, y3, f0, f1, f2, f3, fl]) rfl ⟨by rw [HV.out]; rfl, ?_⟩
      exact ((((belDrew HY.out.1 _).setCell (by simp; omega) _).setCell (by simp; omega) _).setCell (by simp; omega) _).setCell (by simp; omega) _
  · have HV := Lib.hid (HC.out.2 fun y hy => by have := (List.getElem?_eq_some_iff.1 hy).1; omega)
    have g1 : decide ((n : Int) < (S.length : Int)) = false := decide_eq_false (by omega)
    clear HC
    go_wp2_with fail
    go_quiet (fail)
    go_wp2_with fail
    refine bodyPost_ret (v := .tuple #[.agg #[.int .i64 0, .int .i64 0, .int .i64 0, .int .i64 0], .bool false]) (by simp [results, Tryz.results64, go_sem, y0, y1, y2, y3, f0, f1, f2, f3, fl]) rfl ⟨by rw [HV.out]; rfl, ?_⟩
    exact ((((belDrew HY.out.1 _).setCell (by simp; omega) _).setCell (by simp; omega) _).setCell (by simp; omega) _).setCell (by simp; omega) _
end Go.Proofs.YtggapcfjcdafpaaGreat.RW
