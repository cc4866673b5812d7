/- trie: TriePieces' walk. -/
import Derived.Test.YtpbdamjpjpchiaaTrPf
namespace Go.Proofs.Ytpbdamjpjpchiaa
open Go.RowKit Go.Maps
set_option linter.unusedVariables false
set_option linter.unusedSimpArgs false

theorem apt_at : ∀ {P : List (Pc Int)} {k : Nat} {y x : Pc Int}, Apt P → P[k]? = some y → P[k + 1]? = some x → y.v ≠ x.v
  | [], k, y, x, _, h, _ => by simp at h
  | [p], k, y, x, _, _, h => by simp at h
  | p :: q :: P, 0, y, x, h, h1, h2 => by
    simp at h1 h2
    subst h1; subst h2
    exact h.1
  | p :: q :: P, k + 1, y, x, h, h1, h2 => apt_at (P := q :: P) h.2 (by simpa using h1) (by simpa using h2)
theorem wants_congr {L P : List (Pc Int)} {z : Int} {m : Nat} (h : ∀ r : Int, 0 ≤ r → r < m → pval P z r = pval L z r) (i : Int) : wants P z m i = wants L z m i := by
  unfold wants
  split
  · rename_i hi
    exact h i hi.1 hi.2
  · rfl
theorem PcIn.later {W W' : World} {A : Option Addr} {c : Nat} {L : List (Pc Int)} (h : PcIn W A c L) (hb : Below W.heap.size W W') : PcIn W' A c L := ⟨h.li.later hb, h.le, h.mx, h.ok⟩

set_option maxHeartbeats 8000000 in
set_option maxRecDepth 100000 in
theorem walk_TriePieces (W : World) (a0 : Int) (w0 : (Lit.int .i64 a0).wf = true) (a1 : Int) (w1 : (Lit.int .i64 a1).wf = true) (A : Option Addr) (L : List (Pc Int)) (c : Nat) (I : PcIn W A c L) (i : Int) (wi : (Lit.int .i64 i).wf = true) :
    Calls Try.prog 4 #[.int .i64 a0, .int .i64 a1, .slice A L.length c, .int .i64 i] W (YesG W) := by
  obtain ⟨m, hm, hbits⟩ : ∃ r : Nat, r ≤ 1023 ∧ bits .and .i64 a0 1023 = (r : Int) := andMask a0 1023 (by omega)
  obtain ⟨I2, hl⟩ := I.few
  have C := Lib.hid (few_any A L.length c I.le W)
  rw [← hl] at C
  obtain ⟨L2, hL2⟩ : ∃ L2, L.take 30 = L2 := ⟨_, rfl⟩
  rw [hL2] at C I2
  have hlen : L2.length ≤ 30 := by rw [← hL2, List.length_take]; omega
  have HI := Lib.hid I2
  have HZ := Lib.hid w1
  clear I I2 hl hL2 w0 w1 wi
  go_enter Try.func4, Try.ntmps4
  go_wp2_with fail
  (with_reducible refine C.out.mono ?_)
  rintro e W1 ⟨rfl, hb⟩
  have H1 := Lib.hid hb
  have HI1 := Lib.hid (HI.out.later hb)
  clear hb C HI
  have C := Lib.hid (sees_made HI1.out (by omega) (show m ≤ 100000 by omega) HZ.out)
  go_wp2_with fail
  (with_reducible refine C.out.mono ?_)
  rintro e W2 ⟨v, rfl, hS, hv, hb⟩
  have HS := Lib.hid (And.intro hS hv)
  have H2 := Lib.hid (below_next H1.out hb)
  have HI2 := Lib.hid (HI1.out.later hb)
  clear hb C hS hv HI1 H1
  have C := Lib.hid (sees_pieces HS.out.1 (show m ≤ 100000 by omega) HS.out.2 (pval_wf HI2.out.ok HZ.out))
  go_wp2_with fail
  (with_reducible refine C.out.mono ?_)
  rintro e W3 ⟨P, A', c', rfl, hJ, hP, hN, hb⟩
  have HJ := Lib.hid hJ
  have hPl : P.length ≤ 1023 := by have := tile_len hJ.tile; omega
  have HV := Lib.hid HS.out.2
  have H3 := Lib.hid (show Tile 0 0 (P.take 0) ∧ PcIn W3 A' c' P ∧ PcIn W3 A c L2 ∧ Sees L2 a1 m v W3 ∧ Below W.heap.size W W3 from ⟨rfl, hP, HI2.out.later hb, HS.out.1.later hb, below_next H2.out hb⟩)
  have HN := Lib.hid hN
  clear hb C hJ hP hN HS HI2 H2
  go_wp2_with fail
  go_loopw [11, 12] (fun u x wr => ∃ (k : Nat) (a : Int), k ≤ P.length ∧ u = .int .i64 a ∧ x = .int .i64 k ∧ Hid (Tile 0 a (P.take k) ∧ PcIn wr A' c' P ∧ PcIn wr A c L2 ∧ Sees L2 a1 m v wr ∧ Below W.heap.size W wr)) (fun _ x _ => P.length - (intOf x).toNat)
  case atStart => exact ⟨0, 0, Nat.zero_le _, rfl, rfl, H3⟩
  case round =>
    obtain ⟨k, a, hk, rfl, rfl, HK⟩ := hrel
    clear H3
    by_cases hlt : k < P.length
    · obtain ⟨x, b, o, hx, hA, hbl, _, c0, c1, c2⟩ := HK.out.2.1.li.piece hlt
      subst hA
      obtain ⟨t1, t2, t3⟩ := tile_at HJ.out.tile hx
      obtain rfl : a = x.f := tile_uniq HK.out.1 t1
      have hbd := tile_bd HJ.out.tile (List.mem_of_getElem? hx)
      have hval : pval L2 a1 x.f = x.v := HJ.out.vals x (List.mem_of_getElem? hx) x.f (Int.le_refl _) t2
      have HC := Lib.hid (show ∀ q, Calls Try.prog 11 #[.slice A L2.length c, .int .i64 a1, .int .i64 x.f] (wr.drewN q) fun e w'' => e = .returned (.int .i64 x.v) ∧ ∃ m, w'' = wr.drewN m from fun q => by
        have := refget_still A c L2 a1 x.f (wr.drewN q) (HK.out.2.2.1.li.later (belDrew (Below.refl _ _) q)) (by omega)
        rw [hval] at this
        exact this.mono fun e w'' h => ⟨h.1, q, h.2.symm⟩)
      have d1 : (x.f != x.f) = false := by simp
      have d1' : (x.f == x.f) = true := by simp
      have d2 : decide (x.t < x.f) = false := decide_eq_false (by omega)
      have d4 : (x.v != x.v) = false := by simp
      have d5 : (x.v == x.v) = true := by simp
      have i1 : (k : Int) < (P.length : Int) := by omega
      have i2 : (0 : Int) ≤ (k : Int) := by omega
      have i3 : x.t ≤ 2000 := by omega
      have i4 : -2 ≤ x.t := by omega
      have HT := Lib.hid (And.intro t3 hx)
      clear hval t1 t3
      rcases Nat.eq_zero_or_pos k with hk0 | hkp
      · have g1 : decide ((0 : Int) < (k : Int)) = false := decide_eq_false (by omega)
        have g2 : decide (0 < k) = false := decide_eq_false (by omega)
        have HK0 := Lib.hid hk0
        clear hk0 hx
        go_wp2_with fail
        go_quiet ((go_at_call 11; exact HC.out _))
        go_wp2_with fail
        go_roundw
        case rel => exact ⟨k + 1, x.t + 1, by omega, by first | rfl | simp, by go_num, Lib.hid ⟨HT.out.1, HK.out.2.1.later (belDrew (Below.refl _ _) _), HK.out.2.2.1.later (belDrew (Below.refl _ _) _), HK.out.2.2.2.1.later (belDrew (Below.refl _ _) _), belDrew HK.out.2.2.2.2 _⟩⟩
        case measure => simp [intOf]; omega
      · obtain ⟨y, b', o', hy, e, _, _, _, _, m2⟩ := HK.out.2.1.li.piece (show k - 1 < P.length by omega)
        injection e with e
        injection e with e e'
        subst e; subst e'
        have hne : y.v ≠ x.v := apt_at HJ.out.apt hy (by rw [show k - 1 + 1 = k by omega]; exact hx)
        have d3 : (y.v == x.v) = false := by simpa using hne
        have g1 : decide ((0 : Int) < (k : Int)) = true := decide_eq_true (by omega)
        have g2 : decide (0 < k) = true := decide_eq_true (by omega)
        have j1 : ((k : Int) - 1).toNat = k - 1 := by omega
        have j2 : (k : Int) - 1 < (P.length : Int) := by omega
        have j3 : (0 : Int) ≤ (k : Int) - 1 := by omega
        have j4 : IntKind.i64.wrap ((k : Int) - 1) = (k : Int) - 1 := IntWalk.i64_in _ (by omega)
        clear hx hy hne
        go_wp2_with fail
        go_quiet ((go_at_call 11; exact HC.out _))
        go_wp2_with fail
        go_roundw
        case rel => exact ⟨k + 1, x.t + 1, by omega, by first | rfl | simp, by go_num, Lib.hid ⟨HT.out.1, HK.out.2.1.later (belDrew (Below.refl _ _) _), HK.out.2.2.1.later (belDrew (Below.refl _ _) _), HK.out.2.2.2.1.later (belDrew (Below.refl _ _) _), belDrew HK.out.2.2.2.2 _⟩⟩
        case measure => simp [intOf]; omega
    · obtain rfl : k = P.length := by omega
      obtain rfl : a = (m : Int) := tile_uniq (by have := HK.out.1; rw [List.take_length] at this; exact this) HJ.out.tile
      have d0 : (((m : Nat) : Int) != ((m : Nat) : Int)) = false := by simp
      have d1 : (((m : Nat) : Int) == ((m : Nat) : Int)) = true := by simp
      have C := Lib.hid (sees_build HK.out.2.1 HN.out (by omega) (show m ≤ 100000 by omega) HZ.out)
      go_wp2_with fail
      (with_reducible refine C.out.mono ?_)
      rintro e W4 ⟨v', rfl, hS, hv, hb⟩
      have HU := Lib.hid (And.intro hS (And.intro hv (And.intro (HK.out.2.2.2.1.later hb) (below_next HK.out.2.2.2.2 hb))))
      clear C hS hv hb HK
      have C := Lib.hid (sees_len HU.out.1)
      go_wp2_with fail
      (with_reducible refine C.out.mono ?_)
      rintro e W5 ⟨rfl, hb⟩
      have H5 := Lib.hid (And.intro (HU.out.1.later hb) (And.intro HU.out.2.1 (And.intro (HU.out.2.2.1.later hb) (below_next HU.out.2.2.2 hb))))
      clear C hb HU
      have C := Lib.hid (sees_len H5.out.2.2.1)
      go_wp2_with fail
      (with_reducible refine C.out.mono ?_)
      rintro e W6 ⟨rfl, hb⟩
      have H6 := Lib.hid (And.intro (H5.out.1.later hb) (And.intro H5.out.2.1 (And.intro (H5.out.2.2.1.later hb) (below_next H5.out.2.2.2 hb))))
      clear C hb H5
      have hle := cntO_le (pval L2 a1) (m := m) (by omega)
      have hcc := cntO_congr (g := pval P a1) (g' := pval L2 a1) (m := m) fun r h0 h1 => ji_pval HJ.out a1 h0 h1
      have C := Lib.hid (sees_count H6.out.1 H6.out.2.1)
      rw [hcc] at C
      have HC2 := Lib.hid (fun X (hS : Sees L2 a1 m v X) => sees_count hS HV.out)
      obtain ⟨N, hN⟩ : ∃ N, cntO (pval L2 a1) m = N := ⟨_, rfl⟩
      rw [hN] at C HC2 hle
      clear hcc hN
      have dN : (((N : Nat) : Int) == ((N : Nat) : Int)) = true := by simp
      go_wp2_with fail
      (with_reducible refine C.out.mono ?_)
      rintro e W7 ⟨rfl, hb⟩
      have H7 := Lib.hid (And.intro (H6.out.1.later hb) (And.intro H6.out.2.1 (And.intro (H6.out.2.2.1.later hb) (below_next H6.out.2.2.2 hb))))
      clear C hb H6
      have C := Lib.hid (HC2.out _ H7.out.2.2.1)
      go_wp2_with fail
      (with_reducible refine C.out.mono ?_)
      rintro e W8 ⟨rfl, hb⟩
      have H8 := Lib.hid (And.intro (H7.out.1.later hb) (And.intro H7.out.2.1 (And.intro (H7.out.2.2.1.later hb) (below_next H7.out.2.2.2 hb))))
      clear C hb H7
      have hww := wants_congr (L := L2) (P := P) (z := a1) (m := m) (fun r h0 h1 => ji_pval HJ.out a1 h0 h1) i
      have C := Lib.hid (sees_get H8.out.1 (show m ≤ 100000 by omega) i)
      rw [hww] at C
      have HC3 := Lib.hid (fun X (hS : Sees L2 a1 m v X) => sees_get hS (show m ≤ 100000 by omega) i)
      obtain ⟨G, hG⟩ : ∃ G, wants L2 a1 m i = G := ⟨_, rfl⟩
      rw [hG] at C HC3
      clear hww hG
      have dG : (G == G) = true := by simp
      go_wp2_with fail
      (with_reducible refine C.out.mono ?_)
      rintro e W9 ⟨rfl, hb⟩
      have H9 := Lib.hid (And.intro (H8.out.2.2.1.later hb) (below_next H8.out.2.2.2 hb))
      clear C hb H8
      have C := Lib.hid (HC3.out _ H9.out.1)
      go_wp2_with fail
      (with_reducible refine C.out.mono ?_)
      rintro e W10 ⟨rfl, hb⟩
      have H10 := Lib.hid (below_next H9.out.2 hb)
      clear C hb H9
      have C := Lib.hid (awake_yes W10)
      go_wp2_with fail
      (with_reducible refine C.out.mono ?_)
      rintro e W11 ⟨rfl, hb⟩
      have H11 := Lib.hid (below_next H10.out hb)
      clear hb C
      go_wp2
      go_ret
      exact ⟨rfl, H11.out⟩
end Go.Proofs.Ytpbdamjpjpchiaa
