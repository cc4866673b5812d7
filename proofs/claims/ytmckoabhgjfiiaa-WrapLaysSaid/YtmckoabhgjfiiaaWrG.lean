/- wrap: WrapPlaces' and WrapApart's walks. -/
import Derived.Test.YtmckoabhgjfiiaaWrF
namespace Go.Proofs.Ytmckoabhgjfiiaa
open Go.RowKit
set_option linter.unusedVariables false
set_option linter.unusedSimpArgs false

/-- Two lists that are told lie in memory. -/
structure PsR (W : World) (A B : Option Addr) (L M : List Sp) (X : World) : Prop where
  a : Li 2 encP X (fun _ => True) A L
  b : Li 2 encP X (fun _ => True) B M
  below : Below W.heap.size W X
theorem PsR.later {W X Y : World} {A B : Option Addr} {L M : List Sp} (h : PsR W A B L M X) (hb : Below X.heap.size X Y) : PsR W A B L M Y := ⟨h.a.later hb, h.b.later hb, belowS h.below hb⟩

set_option maxHeartbeats 4000000 in
set_option maxRecDepth 100000 in
theorem walk_WrapPlaces (W : World) (A : Option Addr) (c : Nat) (L : List Gl) (hL : GlIn W A c L) (cols : Int) (hk : (Lit.int .i64 cols).wf = true) :
    Calls Try.prog 3 #[.slice A L.length c, .int .i64 cols] W (YesL W) := by
  have hmx := hL.mx
  have F1 := Lib.hid (few_any A c L W hL.li (by have := hL.le; unfold maxLen at hmx; omega))
  have h63 := (wf_i64 hk).2
  obtain ⟨M, hM⟩ : ∃ M, fewP L = M := ⟨_, rfl⟩
  have ht : Thin M := hM ▸ fewP_thin L
  have hl : M.length ≤ 100 := hM ▸ fewP_len L
  rw [hM] at F1
  clear hM hL hk hmx
  go_enter Try.func3, Try.ntmps3
  go_wp2_with fail
  refine F1.out.mono ?_
  rintro e w1 ⟨A1, c1, A2, c2, rfl, hv1, hv2, hb1⟩
  obtain ⟨_, l1, _, m1, x1⟩ := hv1.parts
  obtain ⟨_, l2, _, m2, x2⟩ := hv2.parts
  have P1 := Lib.hid (place_any A1 c1 M cols w1 l1 ht (by omega) m1 h63)
  have L2 := Lib.hid l2
  have HB1 := Lib.hid hb1
  clear hv1 hv2 l1 l2 hb1 F1
  go_wp2_with fail
  refine P1.out.mono ?_
  rintro e w2 ⟨A3, n3, c3, rfl, ho3, hb2⟩
  obtain rfl : (placeP cols M).length = n3 := own_count encP_len (by decide) ho3
  have hc3 := (LiV.own encP_len (by decide) ho3).parts.2.2.2
  have P2 := Lib.hid (rplace_any A2 c2 M cols w2 (L2.out.later hb2) ht (by omega) h63)
  have HL3 := Lib.hid (show Li 2 encP w2 (fun _ => True) A3 (placeP cols M) from (Li.own encP_len (by decide) ho3).mono fun _ _ => trivial)
  have HB2 := Lib.hid (belowS HB1.out hb2)
  clear ho3 hb2 P1
  go_wp2_with fail
  refine P2.out.mono ?_
  rintro e w3 ⟨A4, n4, c4, rfl, ho4, hb3⟩
  obtain rfl : (placeP cols M).length = n4 := own_count encP_len (by decide) ho4
  have hc4 := (LiV.own encP_len (by decide) ho4).parts.2.2.2
  have HR0 := Lib.hid (show PsR W A3 A4 (placeP cols M) (placeP cols M) w3 from ⟨HL3.out.later hb3, (Li.own encP_len (by decide) ho4).mono fun _ _ => trivial, belowS HB2.out hb3⟩)
  obtain ⟨N, hN⟩ : ∃ N, placeP cols M = N := ⟨_, rfl⟩
  rw [hN] at HR0 hc3 hc4 ⊢
  have hne : ((N.length : Int) != (N.length : Int)) = false := by simp
  have hn63 : N.length ≤ 9223372036854775807 := Nat.le_trans hc3.1 hc3.2
  clear ho4 hb3 P2 hN HL3 hc3 hc4
  go_wp2_with fail
  go_loopw [9] (fun i wr => ∃ (k : Nat), k ≤ N.length ∧ i = .int .i64 k ∧ Hid (PsR W A3 A4 N N wr)) (fun i _ => N.length - (intOf i).toNat)
  case atStart => exact ⟨0, Nat.zero_le _, rfl, HR0.out⟩
  case round =>
    obtain ⟨k, hk, rfl, HR⟩ := hrel
    by_cases hlt : k < N.length
    · obtain ⟨p, b, o, hp, rfl, hbl, _, c0, c1⟩ := HR.out.a.spot hlt
      obtain ⟨p', b', o', hp', rfl, hbl', _, d0, d1⟩ := HR.out.b.spot hlt
      rw [hp] at hp'
      injection hp' with hp'
      subst hp'
      have i1 : (k : Int) < (N.length : Int) := by omega
      have i2 : (0 : Int) ≤ (k : Int) := by omega
      clear hp
      go_wp2_with fail
      go_quiet (fail)
      go_wp2_with fail
      go_roundw
      case rel => exact ⟨k + 1, by omega, by go_num, HR.out.later (selfDrew _ _)⟩
      case measure => simp [intOf]; omega
    · obtain rfl : k = N.length := by omega
      clear hlt
      go_wp2_with fail
      refine (awake_yes wr).mono ?_
      rintro e w4 ⟨rfl, hb4⟩
      have HY := Lib.hid (show YesL W (.returned (.bool true)) w4 from ⟨rfl, belowS HR.out.below hb4⟩)
      clear hb4
      go_wp2_with fail
      go_ret
      exact HY.out
end Go.Proofs.Ytmckoabhgjfiiaa
