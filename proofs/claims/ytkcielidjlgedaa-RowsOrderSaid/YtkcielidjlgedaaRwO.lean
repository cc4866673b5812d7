/- rows: RowsOrder's walk. -/
import Derived.Test.YtkcielidjlgedaaRwE
import Derived.Test.YtkcielidjlgedaaRwM
namespace Go.Proofs.Ytkcielidjlgedaa
open Go.RowKit
set_option linter.unusedVariables false
set_option linter.unusedSimpArgs false

theorem rise_two {S : List Span} (h : Rise S) {k j : Nat} (e : j = k + 1) {x y : Span} (hy : S[k]? = some y) (hx : S[j]? = some x) : y.t < x.f := by
  subst e
  obtain ⟨h1, h2⟩ := List.getElem?_eq_some_iff.1 hy
  obtain ⟨h3, h4⟩ := List.getElem?_eq_some_iff.1 hx
  have := List.pairwise_iff_getElem.1 h.1 k (k + 1) h1 h3 (by omega)
  rw [h2, h4] at this
  exact this
theorem apt_two {S : List Span} (h : Apt S) {k j : Nat} (e : j = k + 1) {x y : Span} (hy : S[k]? = some y) (hx : S[j]? = some x) : y.t + 1 ≠ x.f ∨ (y.t + 1 = x.f ∧ y.a ≠ x.a) ∨ (y.t + 1 = x.f ∧ y.a = x.a ∧ y.b ≠ x.b) := by
  subst e
  have := h k (List.getElem?_eq_some_iff.1 hx).1 y x hy hx
  by_cases h1 : y.t + 1 = x.f
  · by_cases h2 : y.a = x.a
    · exact .inr (.inr ⟨h1, h2, fun h3 => this ⟨h1, h2, h3⟩⟩)
    · exact .inr (.inl ⟨h1, h2⟩)
  · exact .inl h1

set_option maxHeartbeats 8000000 in
set_option maxRecDepth 100000 in
theorem walk_RowsOrder (W : World) (A : Option Addr) (c : Nat) (L : List Row) (hL : RowsIn W A c L) (kind : Int) (hk : (Lit.int .i64 kind).wf = true) :
    Calls Try.prog 4 #[.slice A L.length c, .int .i64 kind] W (YesL W) := by
  have hmx := hL.mx
  have F1 := few_rows A L.length c W hL.le (by unfold maxLen at hmx; omega)
  have hlen : (L.take 40).length = min L.length 40 := by rw [List.length_take, Nat.min_comm]
  have O1 := Lib.hid (of_any A c (L.take 40) kind W (hL.li.take 40) (by have := hL.le; omega) (by omega))
  rw [hlen] at O1
  have hm := hL.le
  obtain ⟨m, em⟩ : ∃ m, min L.length 40 = m := ⟨_, rfl⟩
  rw [em] at F1 O1
  have F2 := Lib.hid F1
  clear F1 hlen em hk hL
  go_enter Try.func4, Try.ntmps4
  go_wp2_with fail
  refine F2.out.mono ?_
  rintro e w1 ⟨rfl, rfl⟩
  clear F2
  go_wp2_with fail
  refine O1.out.mono ?_
  rintro e w2 ⟨S, hG, A2, n2, c2, rfl, ho, hb⟩
  obtain rfl : S.length = n2 := own_count encS_len (by decide) ho
  have hl2 := good_len hG
  have HL := Lib.hid ((Li.own encS_len (by decide) ho).mono fun _ _ => trivial)
  have HG := Lib.hid hG
  have HB := Lib.hid hb
  have HBd := Lib.hid (show ∀ s ∈ S, 0 ≤ s.f ∧ s.f ≤ s.t ∧ s.t ≤ MS from fun s hs => ⟨(hG.bd s hs).1, hG.rise.2 s hs, (hG.bd s hs).2⟩)
  have HZ := Lib.hid (szP_bd S HBd.out)
  clear ho hG hb O1 hm hmx
  go_wp2_with fail
  go_loopw [6, 7] (fun v i wr => ∃ (j : Nat) (z : Int) (q : Nat), j ≤ S.length ∧ i = .int .i64 j ∧ v = .int .i64 z ∧ Hid (szP (S.take j) = z) ∧ wr = w2.drewN q) (fun _ i _ => S.length - (intOf i).toNat)
  case atStart => exact ⟨0, 0, 0, Nat.zero_le _, rfl, rfl, Lib.hid (by simp [szP]), rfl⟩
  case round =>
    obtain ⟨j, z, q, hj, rfl, rfl, hz, rfl⟩ := hrel
    obtain ⟨X, hX⟩ : ∃ X, w2.drewN q = X := ⟨_, rfl⟩
    have HX := Lib.hid hX
    rw [hX]
    have HLX := Lib.hid (show Li 4 encS X (fun _ => True) A2 S from hX ▸ HL.out.drewN q)
    clear hX
    by_cases hlt : j < S.length
    · obtain ⟨x, b, o, hx, rfl, hbl, _, c0, c1, c2, c3⟩ := HLX.out.span hlt
      have b1 := HBd.out x (List.mem_of_getElem? hx)
      have z1 := HZ.out j hj
      rw [hz.out] at z1
      have z2 := Lib.hid (show szP (S.take (j + 1)) = z + x.t - x.f + 1 from by rw [szP_snoc hx, hz.out]; omega)
      unfold MS at b1
      obtain ⟨b1, b2, b3⟩ := b1
      obtain ⟨z3, z4⟩ := z1
      have v1 : IntKind.i64.wrap (z + x.t) = z + x.t := IntWalk.i64_in _ (by omega)
      have v2 : IntKind.i64.wrap (z + x.t - x.f) = z + x.t - x.f := IntWalk.i64_in _ (by omega)
      have v3 : IntKind.i64.wrap (z + x.t - x.f + 1) = z + x.t - x.f + 1 := IntWalk.i64_in _ (by omega)
      have d1 : decide (x.f < 0) = false := decide_eq_false (by omega)
      have d2 : decide (1114111 < x.t) = false := decide_eq_false (by omega)
      have d3 : decide (x.t < x.f) = false := decide_eq_false (by omega)
      have i1 : (j : Int) < (S.length : Int) := by omega
      have i2 : (0 : Int) ≤ (j : Int) := by omega
      rcases Nat.eq_zero_or_pos j with h0 | hpos
      · have d4 : decide ((0 : Int) < (j : Int)) = false := decide_eq_false (by omega)
        have d4' : decide (0 < j) = false := decide_eq_false (by omega)
        clear hx z3 z4 b1 b3 h0
        go_wp2_with fail
        go_quiet (fail)
        go_wp2_with fail
        go_quiet (fail)
        go_wp2_with fail
        go_quiet (fail)
        go_wp2_with fail
        go_roundw
        case rel => exact ⟨j + 1, _, _, by omega, by go_num, rfl, z2.out, by rw [← HX.out]; simp only [World.drewN_drewN]; rfl⟩
        case measure => simp [intOf]; omega
      · obtain ⟨k, hk⟩ : ∃ k, j = k + 1 := ⟨j - 1, by omega⟩
        obtain ⟨y, b', o', hy, e2, hbl', _, y0, y1, y2, y3⟩ := HLX.out.span (j := k) (by omega)
        simp only [Option.some.injEq, Addr.mk.injEq, and_true] at e2
        obtain ⟨rfl, rfl⟩ := e2
        have g1 := rise_two HG.out.rise hk hy hx
        have g2 := apt_two HG.out.apt hk hy hx
        have yb := HBd.out y (List.mem_of_getElem? hy)
        unfold MS at yb
        obtain ⟨yb1, yb2, yb3⟩ := yb
        have d4 : decide ((0 : Int) < (j : Int)) = true := decide_eq_true (by omega)
        have d4' : decide (0 < j) = true := decide_eq_true (by omega)
        have d5 : decide (x.f ≤ y.t) = false := decide_eq_false (by omega)
        have v4 : IntKind.i64.wrap (y.t + 1) = y.t + 1 := IntWalk.i64_in _ (by omega)
        have v5 : IntKind.i64.wrap ((j : Int) - 1) = (k : Int) := by rw [IntWalk.i64_in _ (by omega)]; omega
        have i3 : (k : Int) < (S.length : Int) := by omega
        have i4 : (0 : Int) ≤ (k : Int) := by omega
        clear hx hy z3 z4 b1 b3 yb1 yb2 yb3 hbl' g1
        have HK := Lib.hid hk
        clear hk
        rcases g2 with h | ⟨h, h'⟩ | ⟨h, h', h''⟩
        · have d6 : (y.t + 1 == x.f) = false := beq_eq_false_iff_ne.2 h
          clear h
          go_wp2_with fail
          go_quiet (fail)
          go_wp2_with fail
          go_quiet (fail)
          go_wp2_with fail
          go_quiet (fail)
          go_wp2_with fail
          go_roundw
          case rel => exact ⟨j + 1, _, _, by omega, by go_num, rfl, z2.out, by rw [← HX.out]; simp only [World.drewN_drewN]; rfl⟩
          case measure => simp [intOf]; omega
        · have d6 : (y.t + 1 == x.f) = true := beq_iff_eq.2 h
          have d7 : (y.a == x.a) = false := beq_eq_false_iff_ne.2 h'
          clear h h'
          go_wp2_with fail
          go_quiet (fail)
          go_wp2_with fail
          go_quiet (fail)
          go_wp2_with fail
          go_quiet (fail)
          go_wp2_with fail
          go_roundw
          case rel => exact ⟨j + 1, _, _, by omega, by go_num, rfl, z2.out, by rw [← HX.out]; simp only [World.drewN_drewN]; rfl⟩
          case measure => simp [intOf]; omega
        · have d6 : (y.t + 1 == x.f) = true := beq_iff_eq.2 h
          have d7 : (y.a == x.a) = true := beq_iff_eq.2 h'
          have d8 : (y.b == x.b) = false := beq_eq_false_iff_ne.2 h''
          clear h h' h''
          go_wp2_with fail
          go_quiet (fail)
          go_wp2_with fail
          go_quiet (fail)
          go_wp2_with fail
          go_quiet (fail)
          go_wp2_with fail
          go_roundw
          case rel => exact ⟨j + 1, _, _, by omega, by go_num, rfl, z2.out, by rw [← HX.out]; simp only [World.drewN_drewN]; rfl⟩
          case measure => simp [intOf]; omega
    · obtain rfl : j = S.length := by omega
      have hR := Lib.hid (show szP S = z from by rw [← hz.out, List.take_length])
      have Z1 := size_any A2 c2 S X HLX.out (by omega) HBd.out
      rw [hR.out] at Z1
      have Z2 := Lib.hid (Z1)
      clear hlt Z1
      go_wp2_with fail
      refine Z2.out.mono ?_
      rintro e w3 ⟨rfl, hb3⟩
      have HB3 := Lib.hid hb3
      clear hb3
      go_wp2_with fail
      refine (awake_yes w3).mono ?_
      rintro e w4 ⟨rfl, hb4⟩
      have HR := Lib.hid (show YesL W (.returned (.bool true)) w4 from ⟨rfl, (HB.out.trans ((selfDrew w2 q).mono HB.out.size)).trans (((HX.out ▸ HB3.out).trans (hb4.mono (HX.out ▸ HB3.out.size))).mono (by have := HB.out.size; simp; omega))⟩)
      clear hb4
      go_wp2_with fail
      go_ret
      exact HR.out
end Go.Proofs.Ytkcielidjlgedaa
