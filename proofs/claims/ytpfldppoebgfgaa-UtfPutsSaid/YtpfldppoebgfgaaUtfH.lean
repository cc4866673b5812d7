/- utf: the state of two decoders that were fed the same. -/
import Derived.Test.YtpfldppoebgfgaaUtfF
import Derived.Test.YtpfldppoebgfgaaUtfQ
namespace Go.Proofs.Ytpfldppoebgfgaa
open Go.RowKit
set_option linter.unusedVariables false
set_option linter.unusedSimpArgs false

/-- True is handed back; nothing that was there has turned. -/
def Yes (w : World) (e : Ending) (w' : World) : Prop := e = .returned (.bool true) ∧ Below w.heap.size w w'

/-- A slice of n ints. -/
def TellsI (n : Nat) (p : Nat → Int) (w : World) (e : Ending) (w' : World) : Prop :=
  ∃ A c, e = .returned (.slice A n c) ∧ Rd w' A n (iv p) ∧ Below w.heap.size w w'

/-! ### UtfSame -/
set_option maxHeartbeats 400000 in
theorem pending_any (h0 h1 h2 n : Int) (w : World) : Calls Try.prog 15 #[dcd h0 h1 h2 n] w fun e w' => e = .returned (.int .i64 n) ∧ Below w.heap.size w w' := by
  go_enter Try.func15, Try.ntmps15
  go_wp2
  go_ret
  exact ⟨rfl, (Below.refl _ _).alloc (Nat.le_refl _) _⟩

/-- What Feed tells, the state taken apart. -/
def FeedIs (x y z n : Int) (w : World) (e : Ending) (w' : World) : Prop :=
  ∃ v, e = .returned (.tuple #[.agg #[.int .u8 x, .int .u8 y, .int .u8 z, .int .i64 n], v]) ∧ Below w.heap.size w w'

theorem feed_is (h0 h1 h2 m b : Int) (hs : DS.Ok ⟨h0, h1, h2, m⟩) (b0 : 0 ≤ b) (b1 : b ≤ 255) {x y z n : Int} {l : List Int} (e : stepD ⟨h0, h1, h2, m⟩ b = (⟨x, y, z, n⟩, l)) (w : World) :
    Calls Try.prog 13 #[dcd h0 h1 h2 m, .int .u8 b] w (FeedIs x y z n w) :=
  (feed_at h0 h1 h2 m b x y z n l w (fun w => step_is h0 h1 h2 m b hs b0 b1 e w)).mono fun _ _ ⟨A, c, he, _, hb⟩ => ⟨_, he, hb⟩

/-- What holds behind a call of Feed: where the new state lies. -/
def Stp1 (wr : World) (x y z n : Int) (v8 : Value) (wx : World) : Prop :=
  ∃ g : Nat, v8 = .pointer (some ⟨g, 0, none⟩) ∧ (wx.cell? ⟨g, 0, none⟩ = some (.int .u8 x) ∧ wx.cell? ⟨g, 1, none⟩ = some (.int .u8 y) ∧ wx.cell? ⟨g, 2, none⟩ = some (.int .u8 z) ∧ wx.cell? ⟨g, 3, none⟩ = some (.int .i64 n)) ∧
    (wr.heap.size ≤ g ∧ g < wx.heap.size) ∧ Below wr.heap.size wr wx

/-- Both decoders hold one state. -/
def Twins (w : World) (s : DS) (wr : World) : Prop :=
  Blk wr w.heap.size #[.int .u8 s.h0, .int .u8 s.h1, .int .u8 s.h2, .int .i64 s.n] ∧ Blk wr (w.heap.size + 1) #[.int .u8 s.h0, .int .u8 s.h1, .int .u8 s.h2, .int .i64 s.n] ∧ Below w.heap.size w wr

theorem twins_next {w v : World} {s : DS} {a b c d : Int} {e0 e1 e2 e3 f0 f1 f2 f3 : Value} (h1 : Blk v w.heap.size #[e0, e1, e2, e3]) (h2 : Blk v (w.heap.size + 1) #[f0, f1, f2, f3]) (hb : Below w.heap.size w v) (hs : s = ⟨a, b, c, d⟩) :
    Twins w s ((((((((v.setCell ⟨w.heap.size, 0, none⟩ (.int .u8 a)).setCell ⟨w.heap.size, 1, none⟩ (.int .u8 b)).setCell ⟨w.heap.size, 2, none⟩ (.int .u8 c)).setCell ⟨w.heap.size, 3, none⟩ (.int .i64 d)).setCell ⟨w.heap.size + 1, 0, none⟩ (.int .u8 a)).setCell ⟨w.heap.size + 1, 1, none⟩ (.int .u8 b)).setCell ⟨w.heap.size + 1, 2, none⟩ (.int .u8 c)).setCell ⟨w.heap.size + 1, 3, none⟩ (.int .i64 d)) := by
  subst hs
  have n1 : ∀ i, (⟨w.heap.size + 1, i, none⟩ : Addr).block ≠ w.heap.size := fun i => by show w.heap.size + 1 ≠ w.heap.size; omega
  have n2 : ∀ i, (⟨w.heap.size, i, none⟩ : Addr).block ≠ w.heap.size + 1 := fun i => by show w.heap.size ≠ w.heap.size + 1; omega
  refine ⟨?_, ?_, ?_⟩
  · exact (((((((h1.set_ 0 (by simp) _).set_ 1 (by simp) _).set_ 2 (by simp) _).set_ 3 (by simp) _).far (n1 0) _).far (n1 1) _).far (n1 2) _).far (n1 3) _
  · exact (((((((h2.far (n2 0) _).far (n2 1) _).far (n2 2) _).far (n2 3) _).set_ 0 (by simp) _).set_ 1 (by simp) _).set_ 2 (by simp) _).set_ 3 (by simp) _
  · exact (((((((hb.setCell (Nat.le_refl _) _).setCell (Nat.le_refl _) _).setCell (Nat.le_refl _) _).setCell (Nat.le_refl _) _).setCell (Nat.le_succ _) _).setCell (Nat.le_succ _) _).setCell (Nat.le_succ _) _).setCell (Nat.le_succ _) _

set_option maxHeartbeats 16000000 in
theorem same_walk (s : ByteArray) (b : Int) (w : World) (aw : ∀ w, Calls Try.prog 12 #[] w (Yes w)) (b0 : 0 ≤ b) (b1 : b ≤ 255) (hsz : s.size ≤ 300) (d0 : decide ((300 : Int) < (s.size : Int)) = false) :
    Calls Try.prog 8 #[.string s, .int .u8 b] w (Yes w) := by
  go_enter Try.func8, Try.ntmps8
  go_wp2
  go_loopw [7] (fun i wr => ∃ k : Nat, k ≤ s.size ∧ i = .int .i64 k ∧ Twins w (runD ((bts s).take k)).1 wr) (fun i _ => s.size - (intOf i).toNat)
  case atStart => exact ⟨0, Nat.zero_le _, rfl, (blk_new w _ _).alloc _, (by have h := blk_new (w.alloc (.cells #[.int .u8 0, .int .u8 0, .int .u8 0, .int .i64 0] 29)) #[.int .u8 0, .int .u8 0, .int .u8 0, .int .i64 0] 29; rw [World.size_alloc] at h; exact h), ((Below.refl _ _).alloc (Nat.le_refl _) _).alloc (by rw [World.size_alloc]; omega) _⟩
  case round =>
    obtain ⟨k, hk, rfl, hB1, hB2, hbw⟩ := hrel
    have hok := runD_ok ((bts s).take k) (fun b hb => bts_range s b (List.mem_of_mem_take hb))
    by_cases hlt : k < s.size
    · have hb0 : 0 ≤ (s[k].toNat : Int) := by omega
      have hb1 : (s[k].toNat : Int) ≤ 255 := by have := s[k].toNat_lt; omega
      have hnx := runD_snoc ((bts s).take k) (s[k].toNat : Int)
      rw [← bts_take_succ s k hlt] at hnx
      obtain ⟨⟨⟨h0, h1, h2, m⟩, ou⟩, hru⟩ : ∃ r, runD ((bts s).take k) = r := ⟨_, rfl⟩
      rw [hru] at hB1 hB2 hok hnx
      obtain ⟨⟨⟨x, y, z, n⟩, l⟩, hst⟩ : ∃ r, stepD ⟨h0, h1, h2, m⟩ (s[k].toNat : Int) = r := ⟨_, rfl⟩
      simp only [hst] at hnx hB1 hB2
      have Hf := Lib.hid (fun w => feed_is h0 h1 h2 m (s[k].toNat : Int) hok hb0 hb1 hst w)
      have Hn := Lib.hid (show (runD ((bts s).take (k + 1))).1 = ⟨x, y, z, n⟩ by rw [hnx])
      clear hok hnx hru hst
      obtain ⟨hz, kB, jB⟩ := (show _ from hB1)
      obtain ⟨hz1, kB1, jB1⟩ := (show _ from hB2)
      go_wp2_with fail
      go_cut [8, 9] (fun v8 v9 wx => Stp1 wr x y z n v8 wx)
      case first =>
        have fz : ∀ j, wr.frozen? ⟨wr.heap.size, j, none⟩ = false := fun j => by simp [World.frozen?]
        clear Hn hbw hB1 hB2
        go_region_with (go_at_call 13; refine (Hf.out _).mono ?_; rintro e w1 ⟨vv, rfl, hb1⟩; obtain ⟨gc, gf⟩ := below_cell hb1; have gz := hb1.size; simp only [World.size_drew, World.size_alloc] at gz; (try have gy : wr.heap.size < w1.heap.size := by omega); have n0 := gc wr.heap.size 0; have f0 := gf wr.heap.size 0; try simp at n0; try simp [fz] at f0; have n1 := gc wr.heap.size 1; have f1 := gf wr.heap.size 1; try simp at n1; try simp [fz] at f1; have n2 := gc wr.heap.size 2; have f2 := gf wr.heap.size 2; try simp at n2; try simp [fz] at f2; have n3 := gc wr.heap.size 3; have f3 := gf wr.heap.size 3; try simp at n3; try simp [fz] at f3; clear gc gf; have hbw1 : Below wr.heap.size wr w1 := below_from (by go_grown) hb1; clear hb1)
        all_goals (go_wp2_with fail; go_meet; refine ⟨_, rfl, ⟨?_, ?_, ?_, ?_⟩, ⟨?_, ?_⟩, ?_⟩ <;> first | (simp; done) | (simp [*]; done) | (simp; omega) | (go_grown; done) | (go_cell; done))
      case rest =>
        obtain ⟨g, rfl, ⟨c0, c1, c2, c3⟩, ⟨hg1, hg2⟩, hbx⟩ := hcut
        have C1 := hB1.later hbx hz
        have C2 := hB2.later hbx hz1
        have hbwc := hbw.trans (hbx.mono hbw.size)
        have HB1 := Lib.hid hB1
        clear kB jB kB1 jB1 hB1 hB2
        obtain ⟨yz, yk, yj⟩ := (show _ from C1)
        obtain ⟨yz1, yk1, yj1⟩ := (show _ from C2)
        obtain ⟨wb, hwb⟩ : ∃ wb : World, wb = wc := ⟨_, rfl⟩
        subst hwb
        go_wp2_with fail
        go_cut [10, 11] (fun v10 v11 wy => Stp1 wb x y z n v10 wy)
        case first =>
          have fz : ∀ j, wb.frozen? ⟨wb.heap.size, j, none⟩ = false := fun j => by simp [World.frozen?]
          clear Hn hbw hbwc C1 C2 HB1
          go_region_with (go_at_call 13; refine (Hf.out _).mono ?_; rintro e w1 ⟨vv, rfl, hb1⟩; obtain ⟨gc, gf⟩ := below_cell hb1; have gz := hb1.size; simp only [World.size_drew, World.size_alloc] at gz; (try have gy : wb.heap.size < w1.heap.size := by omega); have n0 := gc wb.heap.size 0; have f0 := gf wb.heap.size 0; try simp at n0; try simp [fz] at f0; have n1 := gc wb.heap.size 1; have f1 := gf wb.heap.size 1; try simp at n1; try simp [fz] at f1; have n2 := gc wb.heap.size 2; have f2 := gf wb.heap.size 2; try simp at n2; try simp [fz] at f2; have n3 := gc wb.heap.size 3; have f3 := gf wb.heap.size 3; try simp at n3; try simp [fz] at f3; clear gc gf; have hbw1 : Below wb.heap.size wb w1 := below_from (by go_grown) hb1; clear hb1)
          all_goals (go_wp2_with fail; go_meet; refine ⟨_, rfl, ⟨?_, ?_, ?_, ?_⟩, ⟨?_, ?_⟩, ?_⟩ <;> first | (simp; done) | (simp [*]; done) | (simp; omega) | (go_grown; done) | (go_cell; done))
        case rest =>
          obtain ⟨g', rfl, ⟨d0, d1, d2, d3⟩, ⟨hg1', hg2'⟩, hby⟩ := hcut
          have E0 := (hby.cell (p := ⟨g, 0, none⟩) hg2).trans c0
          have E1 := (hby.cell (p := ⟨g, 1, none⟩) hg2).trans c1
          have E2 := (hby.cell (p := ⟨g, 2, none⟩) hg2).trans c2
          have E3 := (hby.cell (p := ⟨g, 3, none⟩) hg2).trans c3
          have D1 := C1.later hby yz
          have D2 := C2.later hby yz1
          have hbwd := hbwc.trans (hby.mono hbwc.size)
          have hgd : g < wc.heap.size := Nat.lt_of_lt_of_le hg2 hby.size
          have i1 : ¬ w.heap.size = g' := by omega
          have i2 : ¬ w.heap.size + 1 = g' := by omega
          have i3 : ¬ w.heap.size = g := by omega
          have i4 : ¬ w.heap.size + 1 = g := by omega
          have HD := Lib.hid (And.intro D1 (And.intro D2 hbwd))
          clear c0 c1 c2 c3 yk yj yk1 yj1 C1 C2
          obtain ⟨vz, vk, vj⟩ := (show _ from D1)
          obtain ⟨vz1, vk1, vj1⟩ := (show _ from D2)
          clear D1 D2
          go_wp2
          go_roundw
          case rel => exact ⟨k + 1, by omega, by go_num, twins_next HD.out.1 HD.out.2.1 HD.out.2.2 Hn.out⟩
          case measure => simp [intOf]; omega
    · obtain rfl : k = s.size := by omega
      obtain ⟨⟨h0, h1, h2, m⟩, hru⟩ : ∃ r, (runD ((bts s).take s.size)).1 = r := ⟨_, rfl⟩
      rw [hru] at hB1 hB2 hok
      simp only at hB1 hB2
      obtain ⟨⟨⟨x, y, z, n⟩, l⟩, hst⟩ : ∃ r, stepD ⟨h0, h1, h2, m⟩ b = r := ⟨_, rfl⟩
      have Hf := Lib.hid (fun w => feed_is h0 h1 h2 m b hok b0 b1 hst w)
      clear hok hru hst
      have G1 := Lib.hid hB1
      have G2 := Lib.hid hB2
      obtain ⟨hz, kB, jB⟩ := (show _ from hB1)
      obtain ⟨hz1, kB1, jB1⟩ := (show _ from hB2)
      have em : (m == m) = true := by simp
      clear hB1 hB2
      go_wp2_with fail
      refine (pending_any _ _ _ _ _).mono ?_
      rintro e w2 ⟨rfl, p2⟩
      have P1 := G1.out.later p2 hz
      have P2 := G2.out.later p2 hz1
      clear kB jB kB1 jB1
      obtain ⟨z2, k2, j2⟩ := (show _ from P1)
      obtain ⟨z2', k2', j2'⟩ := (show _ from P2)
      go_wp2_with fail
      refine (Hf.out _).mono ?_
      rintro e w3 ⟨v3, rfl, p3⟩
      have Q1 := P1.later p3 z2
      have Q2 := P2.later p3 z2'
      clear k2 j2 k2' j2' P1 P2
      obtain ⟨z3, k3, j3⟩ := (show _ from Q1)
      obtain ⟨z3', k3', j3'⟩ := (show _ from Q2)
      have EQ := fun w => eql_dec h0 h1 h2 m w
      go_wp2_with fail
      refine (pending_any _ _ _ _ _).mono ?_
      rintro e w4 ⟨rfl, p4⟩
      go_wp2_with fail
      refine (aw _).mono ?_
      rintro e w5 ⟨rfl, p5⟩
      go_wp2_with fail
      go_ret
      have q2 := hbw.trans (p2.mono hbw.size)
      have q3 := q2.trans (p3.mono q2.size)
      have q4 := q3.trans (p4.mono q3.size)
      have q5 := q4.trans (p5.mono q4.size)
      exact ⟨rfl, q5⟩

end Go.Proofs.Ytpfldppoebgfgaa
