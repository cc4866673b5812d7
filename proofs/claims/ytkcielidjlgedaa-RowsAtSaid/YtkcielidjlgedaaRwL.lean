/- rows: what the laws share: few, awake. -/
import Derived.Test.YtkcielidjlgedaaRw6
import Derived.Test.YtkcielidjlgedaaRwA
import Derived.Test.YtkcielidjlgedaaRwB
import Derived.Test.YtkcielidjlgedaaRwD
namespace Go.Proofs.Ytkcielidjlgedaa
open Go.RowKit
set_option linter.unusedVariables false
set_option linter.unusedSimpArgs false

theorem few_rows (A : Option Addr) (n c : Nat) (w : World) (hn : n ≤ c) (hc : c ≤ 9223372036854775807) : Calls Try.prog 7 #[.slice A n c] w fun e w' => e = .returned (.slice A (min n 40) c) ∧ w = w' := by
  by_cases h : 40 < n
  · have hm := Lib.hid (show min n 40 = 40 by omega)
    go_enter Try.func7, Try.ntmps7
    go_wp2
    go_ret
    exact ⟨by rw [hm.out] <;> rfl, rfl⟩
  · have hm := Lib.hid (show min n 40 = n by omega)
    go_enter Try.func7, Try.ntmps7
    go_wp2
    go_ret
    exact ⟨by rw [hm.out] <;> rfl, rfl⟩

/-- The example. -/
def exRows : List Row := [⟨1, 5, 9, 7, 0⟩, ⟨1, 8, 12, 8, 0⟩]
theorem rise_inj {S T : List Span} (hS : Rise S) (hT : Rise T) (aS : Apt S) (aT : Apt T) (h : ∀ r, val S r = val T r) : S = T := by
  induction S generalizing T with
  | nil =>
    cases T with
    | nil => rfl
    | cons y T =>
      have h1 := hT.2 y (by simp)
      have := rise_one hT (s := y) (by simp) (r := y.f) (Int.le_refl _) h1
      rw [← h] at this
      cases this
  | cons x S ih =>
    have hx := hS.2 x (by simp)
    cases T with
    | nil =>
      have := rise_one hS (s := x) (by simp) (r := x.f) (Int.le_refl _) hx
      rw [h] at this
      cases this
    | cons y T =>
      have hy := hT.2 y (by simp)
      have lowS : ∀ r, r < x.f → val (x :: S) r = none := by
        intro r hr
        cases hv : val (x :: S) r with
        | none => rfl
        | some p =>
          obtain ⟨s, hs, h1, _⟩ := val_some hv
          rcases List.mem_cons.1 hs with rfl | hs
          · omega
          · have := (List.pairwise_cons.1 hS.1).1 s hs; omega
      have lowT : ∀ r, r < y.f → val (y :: T) r = none := by
        intro r hr
        cases hv : val (y :: T) r with
        | none => rfl
        | some p =>
          obtain ⟨s, hs, h1, _⟩ := val_some hv
          rcases List.mem_cons.1 hs with rfl | hs
          · omega
          · have := (List.pairwise_cons.1 hT.1).1 s hs; omega
      have vx := rise_one hS (s := x) (by simp) (r := x.f) (Int.le_refl _) hx
      have vy := rise_one hT (s := y) (by simp) (r := y.f) (Int.le_refl _) hy
      have hf : x.f = y.f := by
        rcases Int.lt_trichotomy x.f y.f with h' | h' | h'
        · have := lowT _ h'; rw [← h, vx] at this; cases this
        · exact h'
        · have := lowS _ h'; rw [h, vy] at this; cases this
      have hab : (x.a, x.b) = (y.a, y.b) := by
        have := h x.f
        rw [vx, hf, vy] at this
        injection this
      injection hab with ha hb
      -- where one ends the other does not go on
      have ends {S T : List Span} {x y : Span} (hS : Rise (x :: S)) (hT : Rise (y :: T)) (aS : Apt (x :: S)) (h : ∀ r, val (x :: S) r = val (y :: T) r) (hf : x.f = y.f) (ha : x.a = y.a) (hb : x.b = y.b) : ¬ x.t < y.t := by
        intro hlt
        have h1 := hS.2 x (by simp)
        have v1 := rise_one hT (s := y) (by simp) (r := x.t + 1) (by omega) (by omega)
        rw [← h] at v1
        obtain ⟨s, hs, b1, b2, e⟩ := val_some v1
        rcases List.mem_cons.1 hs with rfl | hs
        · omega
        · cases S with
          | nil => cases hs
          | cons z S =>
            have hz := (List.pairwise_cons.1 hS.1).1 z (by simp)
            have hzs : z = s ∨ z.f < s.f := by
              rcases List.mem_cons.1 hs with rfl | hs
              · exact .inl rfl
              · right
                have := (List.pairwise_cons.1 (List.pairwise_cons.1 hS.1).2).1 s hs
                have := hS.2 z (by simp)
                omega
            rcases hzs with rfl | hzs
            · injection e with e1 e2
              exact aS 0 (by simp) x z rfl rfl ⟨by omega, by rw [ha, e1], by rw [hb, e2]⟩
            · have := hS.2 z (by simp)
              omega
      have ht : x.t = y.t := by
        have a1 := ends hS hT aS h hf ha hb
        have a2 := ends hT hS aT (fun r => (h r).symm) hf.symm ha.symm hb.symm
        omega
      have hxy : x = y := by cases x; cases y; simp_all
      subst hxy
      congr 1
      refine ih ⟨(List.pairwise_cons.1 hS.1).2, fun s hs => hS.2 s (by simp [hs])⟩ ⟨(List.pairwise_cons.1 hT.1).2, fun s hs => hT.2 s (by simp [hs])⟩ ?_ ?_ ?_
      · intro i hi u v hu hv
        exact aS (i + 1) (by simpa using hi) u v (by simpa using hu) (by simpa using hv)
      · intro i hi u v hu hv
        exact aT (i + 1) (by simpa using hi) u v (by simpa using hu) (by simpa using hv)
      · intro r
        have := h r
        rw [show x :: S = [x] ++ S from rfl, show x :: T = [x] ++ T from rfl, val_append, val_append, val_one] at this
        by_cases hr : x.f ≤ r ∧ r ≤ x.t
        · have n1 : val S r = none := by
            cases hv : val S r with
            | none => rfl
            | some p =>
              obtain ⟨s, hs, h1, _⟩ := val_some hv
              have := (List.pairwise_cons.1 hS.1).1 s hs; omega
          have n2 : val T r = none := by
            cases hv : val T r with
            | none => rfl
            | some p =>
              obtain ⟨s, hs, h1, _⟩ := val_some hv
              have := (List.pairwise_cons.1 hT.1).1 s hs; omega
          rw [n1, n2]
        · rw [if_neg hr] at this
          simpa using this
theorem val_out {kind : Int} {l : List Row} {S : List Span} (h : Good kind l S) (r : Int) (hr : ¬ (0 ≤ r ∧ r ≤ MS)) : val S r = none := by
  cases hv : val S r with
  | none => rfl
  | some p =>
    obtain ⟨s, hs, h1, h2, _⟩ := val_some hv
    have := h.bd s hs
    omega
theorem good_one {kind : Int} {l : List Row} {S T : List Span} (h : Good kind l S) (k : Good kind l T) : S = T := by
  refine rise_inj h.rise k.rise h.apt k.apt fun r => ?_
  by_cases hr : 0 ≤ r ∧ r ≤ MS
  · rw [h.says r hr.1 hr.2, k.says r hr.1 hr.2]
  · rw [val_out h r hr, val_out k r hr]
theorem ex_good : Good 1 exRows [⟨5, 9, 7, 0⟩, ⟨10, 12, 8, 0⟩] := by
  refine ⟨⟨by simp, by simp⟩, ?_, ?_, by simp [MS]⟩
  · intro i hi x y hx hy
    simp at hi
    obtain rfl : i = 0 := by omega
    simp at hx hy
    subst hx; subst hy
    simp
  · intro r h0 h1
    unfold val rval exRows
    by_cases a : 5 ≤ r ∧ r ≤ 9
    · simp [List.find?_cons, Span.has, Row.has, a]
    · by_cases b : 8 ≤ r ∧ r ≤ 12
      · simp [List.find?_cons, Span.has, Row.has, a, b, show 10 ≤ r by omega]
      · simp [List.find?_cons, Span.has, Row.has, a, b, show ¬ (10 ≤ r ∧ r ≤ 12) by omega]

/-! ### == on spans -/
abbrev sv (s : Span) : Value := .agg #[.int .i64 s.f, .int .i64 s.t, .int .i64 s.a, .int .i64 s.b]
theorem eq_span (a b : Span) (w : World) : (Op.equalIn 10000 30 (sv a) (sv b)).run Try.prog w = .ok (decide (a = b)) w := by
  rw [show (10000 : Nat) = 9999 + 1 from rfl, run_equalIn_agg w 9999 30 _ _ (by kernel_rfl) (by kernel_rfl)]
  simp only [Program.fieldsOf, Try.underlying30]
  have u3 := Try.underlying3
  have a3 := Try.isAgg3
  have z3 := Try.sizeOf3
  obtain ⟨k, x, r, c⟩ := a
  obtain ⟨k', x', r', c'⟩ := b
  go_simp
  by_cases h1 : k = k' <;> by_cases h2 : x = x' <;> by_cases h3 : r = r' <;> by_cases h4 : c = c' <;> simp [h1, h2, h3, h4]
theorem eql_span (a b : Span) (w : World) : (Go.binOp .eql 30 (sv a) (sv b)).run Try.prog w = .ok (.bool (decide (a = b))) w := by
  rw [run_eql_struct, eq_span]
  rfl
theorem neq_span (a b : Span) (w : World) : (Go.binOp .neq 30 (sv a) (sv b)).run Try.prog w = .ok (.bool (!decide (a = b))) w := by
  rw [run_neq_struct, eq_span]
  rfl

set_option maxHeartbeats 4000000 in
set_option maxRecDepth 100000 in
theorem awake_yes (w : World) : Calls Try.prog 12 #[] w fun e w' => e = .returned (.bool true) ∧ Below w.heap.size w w' := by
  have q1 := eql_span ⟨5, 9, 7, 0⟩ ⟨5, 9, 7, 0⟩
  have q2 := eql_span ⟨10, 12, 8, 0⟩ ⟨10, 12, 8, 0⟩
  simp only [decide_true] at q1 q2
  go_enter Try.func12, Try.ntmps12
  go_wp2_with fail
  refine atCalls (fun X => Below w.heap.size w X ∧ Li 5 encR X (fun _ => True) (some ⟨w.heap.size, 0, none⟩) exRows) ⟨(Below.refl _ _).alloc (Nat.le_refl _) _, (Li.new encR_len w _ _ rfl).mono fun _ _ => trivial⟩ ?_
  rintro X ⟨hX, hL⟩
  have C1 := Lib.hid (of_any (some ⟨w.heap.size, 0, none⟩) 2 exRows 1 X hL (by decide) (by decide))
  have HX := Lib.hid hX
  clear hL hX
  refine C1.out.mono ?_
  rintro e w1 ⟨S, hg, A, n, c, rfl, ho, hb⟩
  obtain rfl := good_one hg ex_good
  have hn := own_count encS_len (by decide) ho
  obtain rfl : n = 2 := hn.symm
  have hc := own_cap ho
  obtain ⟨g, rfl, _, _, _, hc2, hH⟩ := holdsK_own encS_len (by decide) ho (by decide)
  have hli := Li.own encS_len (by decide) ho
  obtain ⟨x, b, o, hx, e1, _, _, c0, c1, c2, c3⟩ := hli.span (j := 0) (by decide)
  obtain ⟨y, b', o', hy, e2, _, _, d0, d1, d2, d3⟩ := hli.span (j := 1) (by decide)
  simp at hx hy e1 e2
  obtain ⟨rfl, rfl⟩ := e1
  obtain ⟨rfl, rfl⟩ := e2
  subst hx; subst hy
  have HB := Lib.hid (HX.out.trans (hb.mono HX.out.size))
  clear ho hH hli hb hg hn C1
  go_wp2_with fail
  go_ret
  exact ⟨rfl, HB.out⟩
end Go.Proofs.Ytkcielidjlgedaa
