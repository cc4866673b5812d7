/- loop: LoopPlays' walk. -/
import Derived.Test.YtcoffbgpdbhjfaaLoopP
import Derived.Test.YtcoffbgpdbhjfaaLoopI
import Derived.Deep.RegionHeld3
namespace Go.Proofs.Ytcoffbgpdbhjfaa
open Go.Conc Go.RowKit
set_option linter.unusedVariables false
set_option linter.unusedSimpArgs false

def low7 (z : Int) : Nat := (BitVec.ofInt 64 z &&& BitVec.ofInt 64 7).toNat
theorem low7_le (z : Int) : low7 z ≤ 7 := by
  unfold low7
  rw [BitVec.toNat_and]
  exact Nat.le_trans Nat.and_le_right (by decide)
theorem low7_bits (z : Int) : bits .and .i64 z 7 = (low7 z : Int) := by
  have h := low7_le z
  show IntKind.i64.wrap ((BitVec.ofInt 64 z &&& BitVec.ofInt 64 7).toNat : Int) = _
  exact IntWalk.i64_in _ (by unfold low7 at h; omega)

set_option maxHeartbeats 4000000 in
set_option maxRecDepth 100000 in
theorem walk_LoopPlays (w : World) (z : Int) (Ad : Option Addr) (nd cd : Nat) (D : List Evt) (hD : D.length = nd) (hrd : EvRd w Ad D) (hnd : nd ≤ cd) (hcd : cd ≤ maxLen) :
    Calls Try.prog 4 #[.int .i64 z, .slice Ad nd cd] w (YesW w) := by
  have HD := Lib.hid hrd
  unfold maxLen at hcd
  have hb := low7_bits z
  have hb7 := low7_le z
  obtain ⟨R, hR⟩ : ∃ R, 1 + low7 z = R := ⟨_, rfl⟩
  have hR2 : 1 + (low7 z : Int) = (R : Int) := by omega
  have hR1 : R ≤ 8 ∧ 0 < R := by omega
  subst hD
  clear hrd
  go_enter Try.func4, Try.ntmps4
  go_wp2_with fail
  have C0 := Lib.hid (new_is R w hR1.2 (by omega))
  (with_reducible refine C0.out.mono ?_)
  rintro e w1 ⟨bb, cb, ct, cs, rfl, hbx, hl, n1, n2, n3, n4⟩
  have H0 := Lib.hid (show Own w bb cb ct cs R ([], [], []) w1 from ⟨hbx, hl, n1, n2, n3, n4⟩)
  clear C0 hbx hl n1 n2 n3 n4
  go_wp2_with fail
  have H1 := Lib.hid (both_new H0.out R)
  go_loopw [7] (fun i wr => ∃ k : Nat, k ≤ D.length ∧ k ≤ 100 ∧ i = .int .i64 k ∧ Hid (∃ A n c L, Both w bb cb ct cs w1.heap.size R A n c L wr ∧ L.length ≤ k)) (fun i _ => D.length - (intOf i).toNat)
  case atStart => exact ⟨0, Nat.zero_le _, Nat.zero_le _, rfl, ⟨none, 0, 0, [], H1.out, Nat.le_refl _⟩⟩
  case round =>
    obtain ⟨k, hk, hk100, rfl, HR⟩ := hrel
    obtain ⟨A, n, c, L, HB, hL⟩ := HR.out
    have V := Lib.hid (And.intro HB hL)
    have hnL : n ≤ 1000000 := by rw [HB.len]; omega
    clear HB hL HR H0 H1
    by_cases hlt : k < D.length ∧ k < 100
    · obtain ⟨hkn, hk2⟩ := hlt
      obtain ⟨b, o, rfl, hbl, a0, a1, a2, a3⟩ := HD.out k hkn
      obtain ⟨x, hx⟩ : ∃ x, D.getD k zeroE = x := ⟨_, rfl⟩
      rw [hx] at a0 a1 a2 a3
      have hbel := V.out.1.own.below
      have c0 := (hbel.cell (p := ⟨b, o + k * 4, none⟩) hbl).trans a0
      have c1 := (hbel.cell (p := ⟨b, o + k * 4 + 1, none⟩) hbl).trans a1
      have c2 := (hbel.cell (p := ⟨b, o + k * 4 + 2, none⟩) hbl).trans a2
      have c3 := (hbel.cell (p := ⟨b, o + k * 4 + 3, none⟩) hbl).trans a3
      have hd : decide ((k : Int) < 100) = true := by simp; omega
      have HA := Lib.hid (And.intro hbl (And.intro a0 (And.intro a1 (And.intro a2 a3))))
      clear hbel hx a0 a1 a2 a3
      by_cases hz : x.kind = 0
      · have q : (x.kind == 0) = true := by simpa using hz
        have C1 := Lib.hid (next_any V.out.1.own.bx)
        obtain ⟨N, hN⟩ : ∃ N, nextQ ((kinds L).1, (kinds L).2.1, (kinds L).2.2) = N := ⟨_, rfl⟩
        have hN2 : nextQ (kinds L) = N := hN
        rw [hN] at C1
        obtain ⟨y, ok, p⟩ := N
        simp only at C1
        have HN := Lib.hid hN2
        have qe := neq_evt y y
        simp only [decide_true, Bool.not_true] at qe
        clear hN hN2 hz
        go_wp2_with fail
        (with_reducible refine C1.out.mono ?_)
        rintro e w3 ⟨rfl, hb3, hc3⟩
        have V4 := Lib.hid (V.out.1.half hb3 hc3)
        have V3 := Lib.hid ((V.out.1.half hb3 hc3).later (Below.refl w3.heap.size w3 |>.alloc (Nat.le_refl _) (.cells #[.int .i64 y.kind, .int .u8 y.byte, .int .i64 y.rows, .int .i64 y.cols] 23)))
        clear hb3 hc3 C1 c0 c1 c2 c3
        go_wp2_with fail
        have C2 := Lib.hid (refnext_any V3.out.rb_ hnL V3.out.size)
        rw [HN.out] at C2
        simp only at C2
        (with_reducible refine C2.out.mono ?_)
        rintro e w4 ⟨rfl, hr4⟩
        obtain ⟨A4, n4, c4, L4, hB4, hl4⟩ := V3.out.both hr4
        have hy4 : Blk w4 w3.heap.size #[.int .i64 y.kind, .int .u8 y.byte, .int .i64 y.rows, .int .i64 y.cols] := by
          obtain ⟨_, ⟨_, _, _, _, hk4, _⟩, _⟩ := hr4
          refine (blk_new w3 _ _).chg hk4 (fun e => ?_)
          rcases e with e | e
          · have := V4.out.rb_.blk.1; omega
          · have := (V4.out.rb_.own.lt _ e).2; omega
        have hlen : L4.length ≤ k + 1 := by have := V.out.2; omega
        have VB := Lib.hid (hB4.later ((Below.refl _ _).alloc (Nat.le_refl _) (.cells #[.int .i64 y.kind, .int .u8 y.byte, .int .i64 y.rows, .int .i64 y.cols] 23)))
        obtain ⟨yy, ky, jy⟩ := (show Blk _ _ _ from hy4)
        have hokk : (ok != ok) = false := by simp
        have hokk2 : (ok == ok) = true := by simp
        clear hB4 hy4 hr4 C2 hl4
        have hl1 := hlen
        have B5 := Lib.hid (And.intro VB.out hl1)
        clear hlen
        have CL : Hid (Calls Try.prog 8 #[ptr bb] (w4.alloc (.cells #[.int .i64 y.kind, .int .u8 y.byte, .int .i64 y.rows, .int .i64 y.cols] 23)) fun e w' => e = .returned (lens (ofK 1 L4).length (ofK 2 L4).length (ofK 3 L4).length) ∧ Below ((w4.alloc (.cells #[.int .i64 y.kind, .int .u8 y.byte, .int .i64 y.rows, .int .i64 y.cols] 23))).heap.size ((w4.alloc (.cells #[.int .i64 y.kind, .int .u8 y.byte, .int .i64 y.rows, .int .i64 y.cols] 23))) w') := Lib.hid (len_any B5.out.1.own.bx)
        go_wp2_with fail
        (with_reducible refine CL.out.mono ?_)
        rintro e w7 ⟨rfl, hb7⟩
        have B7 := Lib.hid (B5.out.1.later hb7)
        clear hb7 CL
        have ql := neq_lens ((ofK 1 L4).length : Int) ((ofK 2 L4).length : Int) ((ofK 3 L4).length : Int) ((ofK 1 L4).length : Int) ((ofK 2 L4).length : Int) ((ofK 3 L4).length : Int)
        simp only [and_self, decide_true, Bool.not_true] at ql
        go_wp2_with fail
        have CR := Lib.hid (reflen_any B7.out.rb_ (by rw [B7.out.len]; have := B5.out.2; omega))
        (with_reducible refine CR.out.mono ?_)
        rintro e w8 ⟨rfl, hb8⟩
        have B8 := Lib.hid (B7.out.later hb8)
        clear hb8 CR
        go_wp2
        go_roundw
        case rel => exact ⟨k + 1, by omega, by omega, by go_num, ⟨_, _, _, _, B8.out, B5.out.2⟩⟩
        case measure => simp [intOf]; omega
      · have q : (x.kind == 0) = false := by simpa using hz
        clear hz
        go_wp2
        obtain ⟨N, hN⟩ : ∃ N, putQ R (kinds L) x = N := ⟨_, rfl⟩
        obtain ⟨ok, p⟩ := N
        have HN := Lib.hid hN
        clear hN
        have S0 := Lib.hid (show wr.drew.cell? ⟨b, o + k * 4, none⟩ = some (.int .i64 x.kind) ∧ wr.drew.cell? ⟨b, o + k * 4 + 1, none⟩ = some (.int .u8 x.byte) ∧ wr.drew.cell? ⟨b, o + k * 4 + 2, none⟩ = some (.int .i64 x.rows) ∧ wr.drew.cell? ⟨b, o + k * 4 + 3, none⟩ = some (.int .i64 x.cols) from ⟨c0, c1, c2, c3⟩)
        have VD := Lib.hid (V.out.1.later (Below.refl _ _).drew)
        have hokk : (ok != ok) = false := by simp
        have hokk2 : (ok == ok) = true := by simp
        have i0 : (0 : Int) ≤ (k : Int) := by omega
        have i1 : (k : Int) < (D.length : Int) := by omega
        go_region_held3 (fun w' => w'.cell? ⟨b, o + k * 4, none⟩ = some (.int .i64 x.kind) ∧ w'.cell? ⟨b, o + k * 4 + 1, none⟩ = some (.int .u8 x.byte) ∧ w'.cell? ⟨b, o + k * 4 + 2, none⟩ = some (.int .i64 x.rows) ∧ w'.cell? ⟨b, o + k * 4 + 3, none⟩ = some (.int .i64 x.cols))
          (first | exact S0.out | exact S3.out | exact S4.out | go_keep)
          (first
          | (go_at_call 7
             have C1 := put_any VD.out.own.bx x
             rw [HN.out] at C1
             (with_reducible refine C1.mono ?_)
             rintro e w3 ⟨rfl, hb3, hc3⟩
             have V3 := Lib.hid (VD.out.half (q := p) hb3 hc3)
             have S3 := Lib.hid (show w3.cell? ⟨b, o + k * 4, none⟩ = some (.int .i64 x.kind) ∧ w3.cell? ⟨b, o + k * 4 + 1, none⟩ = some (.int .u8 x.byte) ∧ w3.cell? ⟨b, o + k * 4 + 2, none⟩ = some (.int .i64 x.rows) ∧ w3.cell? ⟨b, o + k * 4 + 3, none⟩ = some (.int .i64 x.cols) from ⟨(V3.out.own.below.cell (p := ⟨b, o + k * 4, none⟩) HA.out.1).trans HA.out.2.1, (V3.out.own.below.cell (p := ⟨b, o + k * 4 + 1, none⟩) HA.out.1).trans HA.out.2.2.1, (V3.out.own.below.cell (p := ⟨b, o + k * 4 + 2, none⟩) HA.out.1).trans HA.out.2.2.2.1, (V3.out.own.below.cell (p := ⟨b, o + k * 4 + 3, none⟩) HA.out.1).trans HA.out.2.2.2.2⟩)
             clear hb3 hc3 C1)
          | (go_at_call 13
             have C2 := refput_any V3.out.rb_ hnL V3.out.size x
             rw [HN.out] at C2
             (with_reducible refine C2.mono ?_)
             rintro e w4 ⟨rfl, hr4⟩
             obtain ⟨A4, n4, c4, L4, hB4, hl4⟩ := V3.out.both hr4
             have V4 := Lib.hid (And.intro hB4 hl4)
             have S4 := Lib.hid (show w4.cell? ⟨b, o + k * 4, none⟩ = some (.int .i64 x.kind) ∧ w4.cell? ⟨b, o + k * 4 + 1, none⟩ = some (.int .u8 x.byte) ∧ w4.cell? ⟨b, o + k * 4 + 2, none⟩ = some (.int .i64 x.rows) ∧ w4.cell? ⟨b, o + k * 4 + 3, none⟩ = some (.int .i64 x.cols) from ⟨(V4.out.1.own.below.cell (p := ⟨b, o + k * 4, none⟩) HA.out.1).trans HA.out.2.1, (V4.out.1.own.below.cell (p := ⟨b, o + k * 4 + 1, none⟩) HA.out.1).trans HA.out.2.2.1, (V4.out.1.own.below.cell (p := ⟨b, o + k * 4 + 2, none⟩) HA.out.1).trans HA.out.2.2.2.1, (V4.out.1.own.below.cell (p := ⟨b, o + k * 4 + 3, none⟩) HA.out.1).trans HA.out.2.2.2.2⟩)
             clear hB4 hl4 hr4 C2))
        all_goals
          have VB := Lib.hid V4.out.1
          have hlen : L4.length ≤ k + 1 := by have := V4.out.2; have := V.out.2; omega
          have hl1 := hlen
          have B5 := Lib.hid (And.intro VB.out hl1)
          clear hlen
          have CL : Hid (Calls Try.prog 8 #[ptr bb] w4 fun e w' => e = .returned (lens (ofK 1 L4).length (ofK 2 L4).length (ofK 3 L4).length) ∧ Below (w4).heap.size (w4) w') := Lib.hid (len_any B5.out.1.own.bx)
          go_wp2_with fail
          (with_reducible refine CL.out.mono ?_)
          rintro e w7 ⟨rfl, hb7⟩
          have B7 := Lib.hid (B5.out.1.later hb7)
          clear hb7 CL
          have ql := neq_lens ((ofK 1 L4).length : Int) ((ofK 2 L4).length : Int) ((ofK 3 L4).length : Int) ((ofK 1 L4).length : Int) ((ofK 2 L4).length : Int) ((ofK 3 L4).length : Int)
          simp only [and_self, decide_true, Bool.not_true] at ql
          go_wp2_with fail
          have CR := Lib.hid (reflen_any B7.out.rb_ (by rw [B7.out.len]; have := B5.out.2; omega))
          (with_reducible refine CR.out.mono ?_)
          rintro e w8 ⟨rfl, hb8⟩
          have B8 := Lib.hid (B7.out.later hb8)
          clear hb8 CR
          go_wp2
          go_roundw
          case rel => exact ⟨k + 1, by omega, by omega, by go_num, ⟨_, _, _, _, B8.out, B5.out.2⟩⟩
          case measure => simp [intOf]; omega
    · have hor : k = D.length ∨ (k < D.length ∧ k = 100) := by omega
      clear hlt
      rcases hor with rfl | ⟨hkn, rfl⟩
      · go_wp2_with (go_at_call 11; refine (awake_yes _).mono ?_; rintro e w4 ⟨rfl, hb4⟩)
        go_ret
        exact ⟨rfl, V.out.1.own.below.trans (hb4.mono V.out.1.own.below.size)⟩
      · go_wp2_with (go_at_call 11; refine (awake_yes _).mono ?_; rintro e w4 ⟨rfl, hb4⟩)
        go_ret
        exact ⟨rfl, V.out.1.own.below.trans (hb4.mono V.out.1.own.below.size)⟩
end Go.Proofs.Ytcoffbgpdbhjfaa
