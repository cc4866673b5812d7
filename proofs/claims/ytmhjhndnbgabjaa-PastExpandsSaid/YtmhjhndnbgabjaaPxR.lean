/- past: the document's digits, begins, back, named. -/
import Derived.Test.YtmhjhndnbgabjaaPxI
namespace Go.Proofs.Ytmhjhndnbgabjaa
open Go.RowKit
set_option linter.unusedVariables false
set_option linter.unusedSimpArgs false

set_option maxHeartbeats 4000000 in
theorem isdigit_any (x : Int) (w : World) : Calls Try.prog 44 #[.int .i32 x] w fun e w' => e = .returned (.bool (decide (48 ≤ x) && decide (x ≤ 57))) ∧ w = w' := by
  by_cases h1 : 48 ≤ x
  · have d1 : decide ((48 : Int) ≤ x) = true := by simpa using h1
    rw [d1, Bool.true_and]
    clear h1
    go_enter Try.func44, Try.ntmps44
    go_wp2
    go_ret
    exact ⟨rfl, rfl⟩
  · have d1 : decide ((48 : Int) ≤ x) = false := by simpa using h1
    rw [d1, Bool.false_and]
    clear h1
    go_enter Try.func44, Try.ntmps44
    go_wp2
    go_ret
    exact ⟨rfl, rfl⟩
set_option maxHeartbeats 4000000 in
theorem digits_any (v : Value) (l : List Int) (a : Nat) (w : World) (h : Txt w v l) (hl : l.length ≤ 100000) (ha : a ≤ l.length) :
    Calls Try.prog 41 #[v, .int .i64 (a : Nat)] w fun e w' => e = .returned (.tuple #[.int .i64 ((numP 4 0 (l.drop a)).2 : Nat), .int .i64 ((numP 4 0 (l.drop a)).1 : Nat)]) ∧ w = w' := by
  obtain ⟨A, c, rfl, hc, hc2⟩ := Sl.is h
  have HT := Lib.hid h
  obtain ⟨t, ht⟩ : ∃ t, l.drop a = t := ⟨_, rfl⟩
  rw [ht]
  have htl : t.length = l.length - a := by rw [← ht]; simp
  have HG := Lib.hid (show ∀ j, t.getD j 0 = l.getD (a + j) 0 from fun j => by rw [← ht]; simp [List.getD])
  obtain ⟨R, hR⟩ : ∃ R, numP 4 0 t = R := ⟨_, rfl⟩
  have HR := Lib.hid hR
  have HTL := Lib.hid htl
  rw [hR]
  clear hR h ht htl
  go_enter Try.func41, Try.ntmps41
  go_wp2
  go_loop [6, 7] (fun i b => ∃ j n : Nat, j ≤ 4 ∧ a + j ≤ l.length ∧ b = .int .i64 n ∧ i = .int .i64 j ∧ n ≤ 9999 ∧ Hid (numAt t j n)) (fun i _ => 4 - (intOf i).toNat)
  case atStart => exact ⟨0, 0, by omega, by omega, rfl, rfl, by omega, Lib.hid (numAt_zero t)⟩
  case round =>
    obtain ⟨j, n, hj, haj, rfl, rfl, hn, H⟩ := hrel
    by_cases hlt : j < 4
    · have d0 : (j : Int) < 4 := by omega
      by_cases hjl : a + j < l.length
      · obtain ⟨b, o, rfl, hb, hcell⟩ := txt_at HT.out hjl
        obtain ⟨x, hx⟩ : ∃ x, l.getD (a + j) 0 = x := ⟨_, rfl⟩
        rw [hx] at hcell
        have hx2 : t.getD j 0 = x := by rw [HG.out]; exact hx
        have hjt : j < t.length := by rw [HTL.out]; omega
        have d1 : (a : Int) + (j : Int) < (l.length : Int) := by omega
        have d2 : (0 : Int) ≤ (a : Int) + (j : Int) := by omega
        have C := isdigit_any x w
        by_cases hd : 48 ≤ x ∧ x ≤ 57
        · rw [decide_eq_true hd.1, decide_eq_true hd.2] at C
          have C := Lib.hid C
          obtain ⟨d, rfl⟩ : ∃ d : Nat, x = (d : Int) + 48 := ⟨(x - 48).toNat, by omega⟩
          have hd9 : d ≤ 9 := by omega
          have HN := Lib.hid (numAt_succ H.out hlt hjt hx2 hd9)
          obtain ⟨E, hE⟩ : ∃ E, n * 10 + d = E := ⟨_, rfl⟩
          rw [hE] at HN
          have hEs : E ≤ 9999 := numAt_small HN.out (by omega)
          obtain ⟨F, hF⟩ : ∃ F, 10 * n + (d + 48) = F := ⟨_, rfl⟩
          have e4 : IntKind.i64.wrap ((d : Int) + 48) = (d : Int) + 48 := IntWalk.i64_in _ (by omega)
          have e5 : IntKind.i64.wrap (10 * (n : Int)) = 10 * (n : Int) := IntWalk.i64_in _ (by omega)
          have e6 : IntKind.i64.wrap (10 * (n : Int) + ((d : Int) + 48)) = (F : Int) := by rw [show 10 * (n : Int) + ((d : Int) + 48) = (F : Int) by omega]; exact IntWalk.i64_in _ (by omega)
          have e7 : IntKind.i64.wrap ((F : Int) - 48) = (E : Int) := by rw [show (F : Int) - 48 = (E : Int) by omega]; exact IntWalk.i64_in _ (by omega)
          clear hx hx2 hE hd hF
          go_wp2_with fail
          refine C.out.mono ?_
          rintro e w1 ⟨rfl, rfl⟩
          clear C
          go_wp2
          go_round
          case rel => exact ⟨j + 1, E, by omega, by omega, rfl, by go_num, hEs, HN⟩
          case measure => simp [intOf]; omega
        · have hq : (decide ((48 : Int) ≤ x) && decide (x ≤ 57)) = false := by
            rw [← Bool.decide_and]
            exact decide_eq_false hd
          rw [hq] at C
          have C := Lib.hid C
          obtain rfl : R = (n, j) := by rw [← HR.out]; exact numAt_end H.out (.inr (.inr (by rw [hx2]; exact hd)))
          clear hx hx2 hd H HR hq
          go_wp2_with fail
          refine C.out.mono ?_
          rintro e w1 ⟨rfl, rfl⟩
          clear C
          go_wp2
          go_ret2
          exact ⟨rfl, rfl⟩
      · obtain rfl : R = (n, j) := by rw [← HR.out]; exact numAt_end H.out (.inr (.inl (by rw [HTL.out]; omega)))
        have d1 : decide ((a : Int) + (j : Int) < (l.length : Int)) = false := by simp; omega
        clear H HR
        go_wp2
        go_ret2
        exact ⟨rfl, rfl⟩
    · obtain rfl : R = (n, j) := by rw [← HR.out]; exact numAt_end H.out (.inl (by omega))
      have d0 : decide ((j : Int) < 4) = false := by simp; omega
      clear H HR
      go_wp2
      go_ret2
      exact ⟨rfl, rfl⟩
set_option maxHeartbeats 4000000 in
theorem begins_any (u v : Value) (l m : List Int) (w : World) (hu : Txt w u l) (hv : Txt w v m) :
    Calls Try.prog 45 #[u, v] w fun e w' => e = .returned (.bool (begP l m)) ∧ ∃ k, w' = w.drewN k := by
  obtain ⟨A, c, rfl, hcc, _⟩ := Sl.is hu
  obtain ⟨A', c', rfl, _, _⟩ := Sl.is hv
  by_cases hlt : m.length ≤ l.length
  · have ht : Txt w (.slice A m.length c) (l.take m.length) := by
      obtain ⟨A2, c2, e, h1, h2, h3, h4, h5⟩ := Sl.take hu m.length hlt
      have hl2 : (l.take m.length).length = m.length := by rw [List.length_take]; omega
      refine ⟨A2, c2, by rw [hl2]; exact e, fun j hj => ?_, fun e => by rw [hl2]; exact h2 e, by rw [hl2]; exact h3, h4, fun _ _ _ => trivial⟩
      rw [hl2] at hj
      obtain ⟨b, o, e1, e2, e3⟩ := h1 j hj
      refine ⟨b, o, e1, e2, ?_⟩
      rw [e3]
      unfold liR
      simp [List.getD, List.getElem?_take, hj]
    have C := same_is _ _ _ _ w ht hv
    obtain ⟨q, hq⟩ : ∃ q, decide (l.take m.length = m) = q := ⟨_, rfl⟩
    rw [show begP l m = q by unfold begP; rw [decide_eq_true hlt, Bool.true_and]; exact hq]
    rw [hq] at C
    have C := Lib.hid C
    have d0 : decide ((m.length : Int) ≤ (l.length : Int)) = true := by simp; omega
    have d1 : (m.length : Int) ≤ (c : Int) := by omega
    clear hq ht hv hu
    go_enter Try.func45, Try.ntmps45
    go_wp2_with fail
    refine C.out.mono ?_
    rintro e w1 ⟨rfl, k, rfl⟩
    clear C
    go_wp2
    go_ret
    exact ⟨rfl, _, rfl⟩
  · rw [show begP l m = false by unfold begP; rw [decide_eq_false hlt]; rfl]
    have d0 : decide ((m.length : Int) ≤ (l.length : Int)) = false := by simp; omega
    clear hv hu
    go_enter Try.func45, Try.ntmps45
    go_wp2
    go_ret
    exact ⟨rfl, 0, rfl⟩
theorem rev_at {M : List (List Int)} {i : Nat} (h : i < M.length) : M.reverse.getD i [] = M.getD (M.length - 1 - i) [] := by
  simp [List.getD, h, show M.length - 1 - i < M.length by omega]
set_option maxHeartbeats 4000000 in
theorem rback_any (u lv : Value) (k n : Int) (M : List (List Int)) (w : World) (hL : Txts w u M.reverse) (hn : M.length ≤ 1000) (hb : -100000 ≤ n) (hb2 : n ≤ 100000) :
    Calls Try.prog 42 #[.agg #[u, .int .i64 k, lv], .int .i64 n] w fun e w' => ∃ A m c, e = .returned (.tuple #[.slice A m c, .bool (backP M n).isSome]) ∧ Txt w' (.slice A m c) ((backP M n).getD []) ∧ Below w.heap.size w w' := by
  obtain ⟨A, c, rfl, hc, hc2⟩ := hL.is
  rw [List.length_reverse] at hc hL ⊢
  by_cases h1 : n < 1
  · rw [show backP M n = none by unfold backP; rw [if_pos (.inl h1)]]
    have d0 : decide (n < 1) = true := by simpa using h1
    clear hL h1
    go_enter Try.func42, Try.ntmps42
    go_wp2
    go_ret2
    exact ⟨none, 0, 0, rfl, Txt.nil _, (Below.refl _ _).alloc (Nat.le_refl _) _⟩
  · have d0 : decide (n < 1) = false := by simpa using h1
    by_cases h2 : (M.length : Int) < n
    · rw [show backP M n = none by unfold backP; rw [if_pos (.inr h2)]]
      have d1 : decide ((M.length : Int) < n) = true := by simpa using h2
      clear hL h1 h2
      go_enter Try.func42, Try.ntmps42
      go_wp2
      go_ret2
      exact ⟨none, 0, 0, rfl, Txt.nil _, (Below.refl _ _).alloc (Nat.le_refl _) _⟩
    · rw [show backP M n = some (M.getD (M.length - n.toNat) []) by unfold backP; rw [if_neg (by omega)]]
      have d1 : decide ((M.length : Int) < n) = false := by simpa using h2
      obtain ⟨i, hi⟩ : ∃ i : Nat, n = (i : Int) + 1 := ⟨(n - 1).toNat, by omega⟩
      have hil : i < M.length := by omega
      rw [show M.getD (M.length - n.toNat) [] = M.reverse.getD i [] by rw [rev_at hil]; congr 1; omega]
      have d3 : IntKind.i64.wrap (n - 1) = (i : Int) := by rw [show n - 1 = (i : Int) by omega]; exact IntWalk.i64_in _ (by omega)
      obtain ⟨b, o, A', n', c', rfl, hbl, hcell, ht⟩ := hL.at_ (show i < M.reverse.length by simpa using hil)
      obtain rfl := Txt.len ht
      have HT := Lib.hid ht
      obtain ⟨x, hx⟩ : ∃ x, M.reverse.getD i [] = x := ⟨_, rfl⟩
      rw [hx] at HT hcell ⊢
      have d4 : (i : Int) < (M.length : Int) := by omega
      have d5 : (0 : Int) ≤ (i : Int) := by omega
      clear hL ht hx h1 h2 hi
      go_enter Try.func42, Try.ntmps42
      go_wp2
      go_ret2
      exact ⟨_, _, _, rfl, HT.out.any.later ((Below.refl _ _).alloc (Nat.le_refl _) _), (Below.refl _ _).alloc (Nat.le_refl _) _⟩
end Go.Proofs.Ytmhjhndnbgabjaa
