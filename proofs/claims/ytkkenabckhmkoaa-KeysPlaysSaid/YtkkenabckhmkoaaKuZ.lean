/- KuZ: KuN, KuO, KuR, KuS, KuV, KuX, KuA, KuB, KuK laid together. -/
import Derived.Test.YtkkenabckhmkoaaUtfM
import Derived.Test.YtkkenabckhmkoaaUtfG
/- utf: the document's rows. -/
namespace Go.Proofs.Ytkkenabckhmkoaa
open Go.RowKit
set_option linter.unusedVariables false
set_option linter.unusedSimpArgs false

/-- A function that tells a value and turns nothing. -/
def TellsU (v : Value) (w : World) (e : Ending) (w' : World) : Prop := e = .returned v ∧ w = w'

/-- .. whose order the walk drew. -/
def Told (v : Value) (w : World) (e : Ending) (w' : World) : Prop := e = .returned v ∧ ∃ k, w' = w.drewN k

theorem long_any (c : Int) (w : World) : Calls Try.prog 48 #[.int .u8 c] w (TellsU (.int .i64 (longI c)) w) := by
  by_cases h1 : c < 128
  · have E := Lib.hid (show longI c = 1 by simp [longI, h1])
    go_enter Try.func48, Try.ntmps48
    go_wp2
    go_ret
    rw [E.out]; exact ⟨rfl, rfl⟩
  · by_cases h2 : c < 224
    · have E := Lib.hid (show longI c = 2 by simp [longI, h1, h2])
      go_enter Try.func48, Try.ntmps48
      go_wp2
      go_ret
      rw [E.out]; exact ⟨rfl, rfl⟩
    · by_cases h3 : c < 240
      · have E := Lib.hid (show longI c = 3 by simp [longI, h1, h2, h3])
        go_enter Try.func48, Try.ntmps48
        go_wp2
        go_ret
        rw [E.out]; exact ⟨rfl, rfl⟩
      · have E := Lib.hid (show longI c = 4 by simp [longI, h1, h2, h3])
        go_enter Try.func48, Try.ntmps48
        go_wp2
        go_ret
        rw [E.out]; exact ⟨rfl, rfl⟩

theorem may_first (s : ByteArray) (h : 0 < s.size) (c : Int) (hc : (s[0].toNat : Int) = c) (x1 x2 x3 : Bool) (d1 : decide (c < 128) = x1) (d2 : decide (194 ≤ c) = x2) (d3 : decide (c ≤ 244) = x3) (w : World) :
    Calls Try.prog 49 #[.string s, .int .i64 0] w (Told (.bool (x1 || (x2 && x3))) w) := by
  cases x1 <;> cases x2 <;> cases x3
  all_goals
    go_enter Try.func49, Try.ntmps49
    go_wp2
    go_quiet (fail)
    go_wp2
    go_ret
    exact ⟨rfl, _, rfl⟩

set_option maxHeartbeats 2000000 in
theorem may_later (s : ByteArray) (i : Nat) (h : i < s.size) (h0 : 0 < s.size) (c b : Int) (hc : (s[0].toNat : Int) = c) (hb : (s[i].toNat : Int) = b) (y u1 u2 u3 u4 t1 t2 : Bool) (lo hi : Int)
    (dz : ((i : Int) == 0) = false) (dy : ((i : Int) == 1) = y) (e1 : (c == 224) = u1) (e2 : (c == 237) = u2) (e3 : (c == 240) = u3) (e4 : (c == 244) = u4)
    (hx : (u1 && (u2 || u3 || u4)) = false ∧ (u2 && (u3 || u4)) = false ∧ (u3 && u4) = false)
    (hlo : lo = bif y && u1 then 160 else bif y && u3 then 144 else 128) (hhi : hi = bif y && u2 then 159 else bif y && u4 then 143 else 191)
    (f1 : decide (lo ≤ b) = t1) (f2 : decide (b ≤ hi) = t2) (w : World) :
    Calls Try.prog 49 #[.string s, .int .i64 i] w (Told (.bool (t1 && t2)) w) := by
  cases y <;> cases u1 <;> cases u2 <;> cases u3 <;> cases u4 <;> simp at hx <;> simp at hlo hhi <;> subst hlo <;> subst hhi <;> cases t1 <;> cases t2
  all_goals
    go_enter Try.func49, Try.ntmps49
    go_wp2
    go_quiet (fail)
    go_wp2
    go_ret
    exact ⟨rfl, _, rfl⟩

theorem bts_at (s : ByteArray) (i : Nat) (h : i < s.size) : (bts s).getD i 0 = (s[i].toNat : Int) := by
  have hl : i < s.data.toList.length := by simpa using h
  simp only [bts, List.getD, List.getElem?_map]
  rw [List.getElem?_eq_getElem hl]
  rfl

theorem may_any (s : ByteArray) (i : Nat) (h : i < s.size) : ∃ r : Bool, (r = true ↔ MayI ((bts s).getD 0 0) i ((bts s).getD i 0)) ∧ ∀ w, Calls Try.prog 49 #[.string s, .int .i64 i] w (Told (.bool r) w) := by
  have h0 : 0 < s.size := by omega
  rw [bts_at s 0 h0, bts_at s i h]
  by_cases hi : i = 0
  · subst hi
    refine ⟨_, ?_, fun w => may_first s h0 _ rfl _ _ _ rfl rfl rfl w⟩
    simp [MayI]
  · refine ⟨_, ?_, fun w => may_later s i h h0 _ _ rfl rfl _ _ _ _ _ _ _ _ _ (by simp; omega) rfl rfl rfl rfl rfl ?_ rfl rfl rfl rfl w⟩
    · generalize (s[0].toNat : Int) = c
      generalize (s[i].toNat : Int) = b
      simp only [MayI, if_neg hi]
      by_cases h1 : i = 1
      · subst h1
        by_cases g1 : c = 224
        · subst g1; simp
        · by_cases g2 : c = 237
          · subst g2; simp
          · by_cases g3 : c = 240
            · subst g3; simp
            · by_cases g4 : c = 244
              · subst g4; simp
              · simp [g1, g2, g3, g4, show (c == 224) = false by simpa using g1, show (c == 237) = false by simpa using g2, show (c == 240) = false by simpa using g3, show (c == 244) = false by simpa using g4]
      · have hj : ((i : Int) == 1) = false := by simp; omega
        simp [h1, hj]
    · generalize (s[0].toNat : Int) = c
      simp only [Bool.and_eq_false_iff, Bool.or_eq_false_iff, beq_eq_false_iff_ne, ne_eq]
      refine ⟨?_, ?_, ?_⟩ <;> omega

end Go.Proofs.Ytkkenabckhmkoaa

/- utf: the document's row at the beginning of bytes. -/
namespace Go.Proofs.Ytkkenabckhmkoaa
open Go.RowKit
set_option linter.unusedVariables false
set_option linter.unusedSimpArgs false

/-- The byte at place n goes on with the row. -/
def Cont (L : List Int) (n : Nat) : Prop := n < L.length ∧ (n : Int) < longI (L.getD 0 0) ∧ MayI (L.getD 0 0) n (L.getD n 0)

/-- What row tells of bytes. -/
def RowIs0 (L : List Int) (n : Nat) (wh : Bool) : Prop := n ≤ L.length ∧ (∀ j, j < n → Cont L j) ∧ ¬ Cont L n ∧ (wh = true ↔ 0 < n ∧ (n : Int) = longI (L.getD 0 0))
def RowSaid (L : List Int) (w : World) (e : Ending) (w' : World) : Prop :=
  ∃ (n : Nat) (wh : Bool), e = .returned (.tuple #[.int .i64 n, .bool wh]) ∧ RowIs0 L n wh ∧ ∃ k, w' = w.drewN k

theorem drewN_drewN (w : World) (a b : Nat) : ∃ k, (w.drewN a).drewN b = w.drewN k := by
  refine ⟨a + b, ?_⟩
  induction b with
  | zero => rfl
  | succ b ih => simp_all [World.drewN, Nat.add_assoc]

set_option maxHeartbeats 2000000 in
theorem row_said (s : ByteArray) (w : World) (hsz : s.size ≤ 1000000000) : Calls Try.prog 35 #[.string s] w (RowSaid (bts s) w) := by
  go_enter Try.func35, Try.ntmps35
  go_wp2
  go_loopw [4] (fun i wr => ∃ k : Nat, i = .int .i64 k ∧ k ≤ s.size ∧ (∀ j, j < k → Cont (bts s) j) ∧ ∃ q, wr = w.drewN q) (fun i _ => s.size - (intOf i).toNat)
  case atStart => exact ⟨0, rfl, Nat.zero_le _, fun j hj => absurd hj (by omega), 0, rfl⟩
  case round =>
    obtain ⟨k, rfl, hk, hc, q, rfl⟩ := hrel
    by_cases hlt : k < s.size
    · have h0 : 0 < s.size := by omega
      obtain ⟨r, hr, Hr⟩ := may_any s k hlt
      have HR := Lib.hid Hr
      have hc0 := bts_at s 0 h0
      obtain ⟨c, hcc⟩ : ∃ c : Int, (s[0].toNat : Int) = c := ⟨_, rfl⟩
      rw [hcc] at hc0
      obtain ⟨lg, hlg⟩ : ∃ lg, decide ((k : Int) < longI c) = lg := ⟨_, rfl⟩
      have HC := Lib.hid (And.intro hc (And.intro hr hc0))
      clear Hr hr hc hc0
      cases lg
      · have HN := Lib.hid (show ¬ Cont (bts s) k from fun hh => by
          have h2 := hh.2.1
          rw [HC.out.2.2] at h2
          simp [h2] at hlg)
        go_wp2_with (first
          | (go_at_call 48; refine (long_any _ _).mono ?_; rintro e w1 ⟨rfl, rfl⟩)
          | (go_at_call 49; refine (HR.out _).mono ?_; rintro e w1 ⟨rfl, kq, rfl⟩))
        all_goals
          go_ret2
          refine ⟨k, _, rfl, ⟨by rw [bts_length]; exact hk, HC.out.1, HN.out, ?_⟩, _, rfl⟩
          rw [HC.out.2.2]
          simp
          try omega
      · cases r
        · have HN := Lib.hid (show ¬ Cont (bts s) k from fun hh => absurd (HC.out.2.1.2 hh.2.2) (by simp))
          go_wp2_with (first
            | (go_at_call 48; refine (long_any _ _).mono ?_; rintro e w1 ⟨rfl, rfl⟩)
            | (go_at_call 49; refine (HR.out _).mono ?_; rintro e w1 ⟨rfl, kq, rfl⟩))
          all_goals
            go_ret2
            refine ⟨k, _, rfl, ⟨by rw [bts_length]; exact hk, HC.out.1, HN.out, ?_⟩, _, rfl⟩
            rw [HC.out.2.2]
            simp
            try omega
        · have HN := Lib.hid (show Cont (bts s) k from ⟨by rw [bts_length]; exact hlt, by rw [HC.out.2.2]; simpa using hlg, HC.out.2.1.1 rfl⟩)
          go_wp2_with (first
            | (go_at_call 48; refine (long_any _ _).mono ?_; rintro e w1 ⟨rfl, rfl⟩)
            | (go_at_call 49; refine (HR.out _).mono ?_; rintro e w1 ⟨rfl, kq, rfl⟩))
          go_roundw
          case rel =>
            refine ⟨k + 1, by go_num, by omega, fun j hj => ?_, _, rfl⟩
            obtain hj | rfl : j < k ∨ j = k := by omega
            · exact HC.out.1 j hj
            · exact HN.out
          case measure => simp [intOf]; omega
    · obtain rfl : k = s.size := by omega
      have HC := Lib.hid hc
      clear hc
      have HN := Lib.hid (show ¬ Cont (bts s) s.size from fun hh => by
          have h2 := hh.1
          rw [bts_length] at h2
          omega)
      by_cases h0 : 0 < s.size
      · have hc0 := Lib.hid (bts_at s 0 h0)
        obtain ⟨c, hcc⟩ : ∃ c : Int, (s[0].toNat : Int) = c := ⟨_, rfl⟩
        rw [hcc] at hc0
        go_wp2_with (go_at_call 48; refine (long_any _ _).mono ?_; rintro e w1 ⟨rfl, rfl⟩)
        go_ret2
        refine ⟨s.size, _, rfl, ⟨by rw [bts_length]; exact Nat.le_refl _, HC.out, HN.out, ?_⟩, _, rfl⟩
        rw [hc0.out]
        simp
        try omega
      · go_wp2_with (go_at_call 48; refine (long_any _ _).mono ?_; rintro e w1 ⟨rfl, rfl⟩)
        go_ret2
        refine ⟨s.size, _, rfl, ⟨by rw [bts_length]; exact Nat.le_refl _, HC.out, HN.out, ?_⟩, _, rfl⟩
        simp
        omega
end Go.Proofs.Ytkkenabckhmkoaa

/- utf: the document's scalar of a whole row. -/
namespace Go.Proofs.Ytkkenabckhmkoaa
open Go.RowKit
set_option linter.unusedVariables false
set_option linter.unusedSimpArgs false

set_option maxHeartbeats 1000000 in
theorem value_1 (s : ByteArray) (hs : s.size = 1) (h0 : 0 < s.size) (c : Int) (hc : (s[0].toNat : Int) = c) (c0 : 0 ≤ c) (c1 : c < 128) (w : World) :
    Calls Try.prog 36 #[.string s] w (TellsU (.int .i32 c) w) := by
  have hz : ((s.size : Int) == 1) = true := by simp [hs]
  go_enter Try.func36, Try.ntmps36
  go_wp2
  go_ret
  exact ⟨rfl, rfl⟩

set_option maxHeartbeats 2000000 in
theorem value_2 (s : ByteArray) (hs : s.size = 2) (h0 : 0 < s.size) (h1 : 1 < s.size) (c b : Int) (hc : (s[0].toNat : Int) = c) (g1 : (s[1].toNat : Int) = b) (c0 : 194 ≤ c) (c1 : c ≤ 223) (b0 : 128 ≤ b) (b1 : b ≤ 191) (w : World) :
    Calls Try.prog 36 #[.string s] w (TellsU (.int .i32 (64 * (c - 192) + b - 128)) w) := by
  have hz1 : ((s.size : Int) == 1) = false := by simp [hs]
  have hz3 : ((s.size : Int) == 3) = false := by simp [hs]
  have hz4 : ((s.size : Int) == 4) = false := by simp [hs]
  go_enter Try.func36, Try.ntmps36
  go_wp2
  go_loopw [4, 5] (fun v i wr => ∃ (k : Nat) (x : Int), i = .int .i64 k ∧ v = .int .i64 x ∧ ((k = 1 ∧ x = c - 192) ∨ (k = 2 ∧ x = 64 * (c - 192) + b - 128)) ∧ wr = w) (fun _ i _ => 8 - (intOf i).toNat)
  case atStart => exact ⟨1, c - 192, rfl, rfl, Or.inl ⟨rfl, rfl⟩, rfl⟩
  case round =>
    obtain ⟨k, x, rfl, rfl, hx, rfl⟩ := hrel
    rcases hx with ⟨rfl, rfl⟩ | ⟨rfl, rfl⟩
    · have hlt : ((1 : Nat) : Int) < (s.size : Int) := by omega
      go_wp2
      go_roundw
      case rel => exact ⟨2, 64 * (c - 192) + b - 128, by go_num, by go_num, Or.inr (⟨rfl, by omega⟩), by trivial⟩
      case measure => simp [intOf]
    · have hlt : ¬ (((2 : Nat) : Int) < (s.size : Int)) := by omega
      go_wp2
      go_ret
      exact ⟨by go_num, rfl⟩

set_option maxHeartbeats 2000000 in
theorem value_3 (s : ByteArray) (hs : s.size = 3) (h0 : 0 < s.size) (h1 : 1 < s.size) (h2 : 2 < s.size) (c b d : Int) (hc : (s[0].toNat : Int) = c) (g1 : (s[1].toNat : Int) = b) (g2 : (s[2].toNat : Int) = d) (c0 : 224 ≤ c) (c1 : c ≤ 239) (b0 : 128 ≤ b) (b1 : b ≤ 191) (d0 : 128 ≤ d) (d1 : d ≤ 191) (w : World) :
    Calls Try.prog 36 #[.string s] w (TellsU (.int .i32 (64 * (64 * (c - 224) + b - 128) + d - 128)) w) := by
  have hz1 : ((s.size : Int) == 1) = false := by simp [hs]
  have hz3 : ((s.size : Int) == 3) = true := by simp [hs]
  have hz4 : ((s.size : Int) == 4) = false := by simp [hs]
  go_enter Try.func36, Try.ntmps36
  go_wp2
  go_loopw [4, 5] (fun v i wr => ∃ (k : Nat) (x : Int), i = .int .i64 k ∧ v = .int .i64 x ∧ ((k = 1 ∧ x = c - 224) ∨ (k = 2 ∧ x = 64 * (c - 224) + b - 128) ∨ (k = 3 ∧ x = 64 * (64 * (c - 224) + b - 128) + d - 128)) ∧ wr = w) (fun _ i _ => 8 - (intOf i).toNat)
  case atStart => exact ⟨1, c - 224, rfl, rfl, Or.inl ⟨rfl, rfl⟩, rfl⟩
  case round =>
    obtain ⟨k, x, rfl, rfl, hx, rfl⟩ := hrel
    rcases hx with ⟨rfl, rfl⟩ | ⟨rfl, rfl⟩ | ⟨rfl, rfl⟩
    · have hlt : ((1 : Nat) : Int) < (s.size : Int) := by omega
      go_wp2
      go_roundw
      case rel => exact ⟨2, 64 * (c - 224) + b - 128, by go_num, by go_num, Or.inr (Or.inl ⟨rfl, by omega⟩), by trivial⟩
      case measure => simp [intOf]
    · have hlt : ((2 : Nat) : Int) < (s.size : Int) := by omega
      go_wp2
      go_roundw
      case rel => exact ⟨3, 64 * (64 * (c - 224) + b - 128) + d - 128, by go_num, by go_num, Or.inr (Or.inr (⟨rfl, by omega⟩)), by trivial⟩
      case measure => simp [intOf]
    · have hlt : ¬ (((3 : Nat) : Int) < (s.size : Int)) := by omega
      go_wp2
      go_ret
      exact ⟨by go_num, rfl⟩

set_option maxHeartbeats 2000000 in
theorem value_4 (s : ByteArray) (hs : s.size = 4) (h0 : 0 < s.size) (h1 : 1 < s.size) (h2 : 2 < s.size) (h3 : 3 < s.size) (c b d f : Int) (hc : (s[0].toNat : Int) = c) (g1 : (s[1].toNat : Int) = b) (g2 : (s[2].toNat : Int) = d) (g3 : (s[3].toNat : Int) = f) (c0 : 240 ≤ c) (c1 : c ≤ 244) (b0 : 128 ≤ b) (b1 : b ≤ 191) (d0 : 128 ≤ d) (d1 : d ≤ 191) (f0 : 128 ≤ f) (f1 : f ≤ 191) (w : World) :
    Calls Try.prog 36 #[.string s] w (TellsU (.int .i32 (64 * (64 * (64 * (c - 240) + b - 128) + d - 128) + f - 128)) w) := by
  have hz1 : ((s.size : Int) == 1) = false := by simp [hs]
  have hz3 : ((s.size : Int) == 3) = false := by simp [hs]
  have hz4 : ((s.size : Int) == 4) = true := by simp [hs]
  go_enter Try.func36, Try.ntmps36
  go_wp2
  go_loopw [4, 5] (fun v i wr => ∃ (k : Nat) (x : Int), i = .int .i64 k ∧ v = .int .i64 x ∧ ((k = 1 ∧ x = c - 240) ∨ (k = 2 ∧ x = 64 * (c - 240) + b - 128) ∨ (k = 3 ∧ x = 64 * (64 * (c - 240) + b - 128) + d - 128) ∨ (k = 4 ∧ x = 64 * (64 * (64 * (c - 240) + b - 128) + d - 128) + f - 128)) ∧ wr = w) (fun _ i _ => 8 - (intOf i).toNat)
  case atStart => exact ⟨1, c - 240, rfl, rfl, Or.inl ⟨rfl, rfl⟩, rfl⟩
  case round =>
    obtain ⟨k, x, rfl, rfl, hx, rfl⟩ := hrel
    rcases hx with ⟨rfl, rfl⟩ | ⟨rfl, rfl⟩ | ⟨rfl, rfl⟩ | ⟨rfl, rfl⟩
    · have hlt : ((1 : Nat) : Int) < (s.size : Int) := by omega
      go_wp2
      go_roundw
      case rel => exact ⟨2, 64 * (c - 240) + b - 128, by go_num, by go_num, Or.inr (Or.inl ⟨rfl, by omega⟩), by trivial⟩
      case measure => simp [intOf]
    · have hlt : ((2 : Nat) : Int) < (s.size : Int) := by omega
      go_wp2
      go_roundw
      case rel => exact ⟨3, 64 * (64 * (c - 240) + b - 128) + d - 128, by go_num, by go_num, Or.inr (Or.inr (Or.inl ⟨rfl, by omega⟩)), by trivial⟩
      case measure => simp [intOf]
    · have hlt : ((3 : Nat) : Int) < (s.size : Int) := by omega
      go_wp2
      go_roundw
      case rel => exact ⟨4, 64 * (64 * (64 * (c - 240) + b - 128) + d - 128) + f - 128, by go_num, by go_num, Or.inr (Or.inr (Or.inr (⟨rfl, by omega⟩))), by trivial⟩
      case measure => simp [intOf]
    · have hlt : ¬ (((4 : Nat) : Int) < (s.size : Int)) := by omega
      go_wp2
      go_ret
      exact ⟨by go_num, rfl⟩

end Go.Proofs.Ytkkenabckhmkoaa

/- utf: one row of bytes, by the document. -/
namespace Go.Proofs.Ytkkenabckhmkoaa
open Go.RowKit
set_option linter.unusedVariables false
set_option linter.unusedSimpArgs false

theorem bts_extract (s : ByteArray) (i j : Nat) : bts (s.extract i j) = ((bts s).drop i).take (j - i) := by
  simp [bts, ByteArray.data_extract, List.extract_eq_drop_take', List.map_drop, List.map_take]
theorem bts_tail (s : ByteArray) (i : Nat) : bts (s.extract i s.size) = (bts s).drop i := by
  rw [bts_extract, List.take_of_length_le]
  rw [List.length_drop, bts_length]
  exact Nat.le_refl _

theorem longI_pos (c : Int) : 1 ≤ longI c ∧ longI c ≤ 4 := by
  unfold longI
  split <;> (try split) <;> (try split) <;> omega

theorem dec_step (c : Int) (t : List Int) (n : Nat) (wh : Bool) (h : RowIs0 (c :: t) n wh) :
    decF DS.zero (c :: t) = (bif wh then valI ((c :: t).take n) else 65533) :: decF DS.zero ((c :: t).drop (bif decide (n = 0) then 1 else n)) := by
  obtain ⟨hn, hc, hx, hw⟩ := h
  have hp := longI_pos c
  have hcz : (c :: t).getD 0 0 = c := rfl
  rw [hcz] at hw
  by_cases h0 : n = 0
  · subst h0
    have hwf : wh = false := by
      cases wh
      · rfl
      · have := (hw.1 rfl).1; omega
    subst hwf
    have hr : rowN c = 0 := by
      by_cases hr : rowN c = 0
      · exact hr
      · exact absurd ⟨by simp, by rw [hcz]; simp; omega, by rw [hcz]; exact may_zero.2 hr⟩ hx
    rw [decF_none hr]
    rfl
  · have hl : (n : Int) ≤ longI c := by
      have := (hc (n - 1) (by omega)).2.1
      rw [hcz] at this
      omega
    have hd := dec_row c t n (by omega) (by simpa using hn) hl (fun j hj => by have := (hc j hj).2.2; rwa [hcz] at this)
    have hz : decide (n = 0) = false := by simp [h0]
    rw [hz]
    cases wh
    · refine hd.2 ?_ ?_
      · have : ¬ (n : Int) = longI c := fun e => absurd (hw.2 ⟨by omega, e⟩) (by simp)
        omega
      · by_cases he : n = t.length + 1
        · exact .inl he
        · refine .inr fun hm => hx ⟨by simp at hn ⊢; omega, ?_, by rw [hcz]; exact hm⟩
          rw [hcz]
          have : ¬ (n : Int) = longI c := fun e => absurd (hw.2 ⟨by omega, e⟩) (by simp)
          omega
    · exact hd.1 (hw.1 rfl).2

theorem bts_1 (s : ByteArray) (h : s.size = 1) (h0 : 0 < s.size) : bts s = [(s[0].toNat : Int)] := by
  have hl := bts_length s
  rw [h] at hl
  match e : bts s, hl with
  | [a], _ => have := bts_at s 0 h0; rw [e] at this; simp at this; rw [this]
theorem bts_2 (s : ByteArray) (h : s.size = 2) (h0 : 0 < s.size) (h1 : 1 < s.size) : bts s = [(s[0].toNat : Int), (s[1].toNat : Int)] := by
  have hl := bts_length s
  rw [h] at hl
  match e : bts s, hl with
  | [a, b], _ => have x0 := bts_at s 0 h0; have x1 := bts_at s 1 h1; rw [e] at x0 x1; simp at x0 x1; rw [x0, x1]
theorem bts_3 (s : ByteArray) (h : s.size = 3) (h0 : 0 < s.size) (h1 : 1 < s.size) (h2 : 2 < s.size) : bts s = [(s[0].toNat : Int), (s[1].toNat : Int), (s[2].toNat : Int)] := by
  have hl := bts_length s
  rw [h] at hl
  match e : bts s, hl with
  | [a, b, c], _ => have x0 := bts_at s 0 h0; have x1 := bts_at s 1 h1; have x2 := bts_at s 2 h2; rw [e] at x0 x1 x2; simp at x0 x1 x2; rw [x0, x1, x2]
theorem bts_4 (s : ByteArray) (h : s.size = 4) (h0 : 0 < s.size) (h1 : 1 < s.size) (h2 : 2 < s.size) (h3 : 3 < s.size) : bts s = [(s[0].toNat : Int), (s[1].toNat : Int), (s[2].toNat : Int), (s[3].toNat : Int)] := by
  have hl := bts_length s
  rw [h] at hl
  match e : bts s, hl with
  | [a, b, c, d], _ => have x0 := bts_at s 0 h0; have x1 := bts_at s 1 h1; have x2 := bts_at s 2 h2; have x3 := bts_at s 3 h3; rw [e] at x0 x1 x2 x3; simp at x0 x1 x2 x3; rw [x0, x1, x2, x3]

theorem value_any (s : ByteArray) (h0 : 0 < s.size) (hl : (s.size : Int) = longI ((bts s).getD 0 0)) (hm : ∀ j, j < s.size → MayI ((bts s).getD 0 0) j ((bts s).getD j 0)) (w : World) :
    Calls Try.prog 36 #[.string s] w (TellsU (.int .i32 (valI (bts s))) w) := by
  have m0 := hm 0 h0
  rw [bts_at s 0 h0] at hl m0
  have m0 := may_zero.1 m0
  have hp := longI_pos (s[0].toNat : Int)
  have hq : 0 ≤ (s[0].toNat : Int) := by omega
  have hl' := hl
  rw [long_is m0] at hl'
  obtain hs | hs | hs | hs : s.size = 1 ∨ s.size = 2 ∨ s.size = 3 ∨ s.size = 4 := by omega
  · rw [bts_1 s hs h0]
    refine value_1 s hs h0 _ rfl hq ?_ w
    rw [hs] at hl
    revert hl; unfold longI; split <;> (try split) <;> (try split) <;> omega
  · have h1 : 1 < s.size := by omega
    have m1 := hm 1 h1
    rw [bts_at s 0 h0, bts_at s 1 h1] at m1
    have k1 := may_cont (by decide) m1
    have r := rowN_two (c := (s[0].toNat : Int)) (by omega)
    rw [bts_2 s hs h0 h1]
    refine value_2 s hs h0 h1 _ _ rfl rfl r.1 ?_ k1.1 k1.2 w
    rw [hs] at hl
    revert hl; unfold longI; split <;> (try split) <;> (try split) <;> omega
  · have h1 : 1 < s.size := by omega
    have h2 : 2 < s.size := by omega
    have m1 := hm 1 h1
    have m2 := hm 2 h2
    rw [bts_at s 0 h0, bts_at s 1 h1] at m1
    rw [bts_at s 0 h0, bts_at s 2 h2] at m2
    have k1 := may_cont (by decide) m1
    have k2 := may_cont (by decide) m2
    rw [bts_3 s hs h0 h1 h2]
    rw [hs] at hl
    refine value_3 s hs h0 h1 h2 _ _ _ rfl rfl rfl ?_ ?_ k1.1 k1.2 k2.1 k2.2 w
    · revert hl; unfold longI; split <;> (try split) <;> (try split) <;> omega
    · revert hl; unfold longI; split <;> (try split) <;> (try split) <;> omega
  · have h1 : 1 < s.size := by omega
    have h2 : 2 < s.size := by omega
    have h3 : 3 < s.size := by omega
    have m1 := hm 1 h1
    have m2 := hm 2 h2
    have m3 := hm 3 h3
    rw [bts_at s 0 h0, bts_at s 1 h1] at m1
    rw [bts_at s 0 h0, bts_at s 2 h2] at m2
    rw [bts_at s 0 h0, bts_at s 3 h3] at m3
    have k1 := may_cont (by decide) m1
    have k2 := may_cont (by decide) m2
    have k3 := may_cont (by decide) m3
    have r := rowN_two (c := (s[0].toNat : Int)) (by omega)
    rw [bts_4 s hs h0 h1 h2 h3]
    rw [hs] at hl
    refine value_4 s hs h0 h1 h2 h3 _ _ _ _ rfl rfl rfl rfl ?_ r.2 k1.1 k1.2 k2.1 k2.2 k3.1 k3.2 w
    revert hl; unfold longI; split <;> (try split) <;> (try split) <;> omega

end Go.Proofs.Ytkkenabckhmkoaa

/- utf: the document's decoding. -/
namespace Go.Proofs.Ytkkenabckhmkoaa
open Go.RowKit
set_option linter.unusedVariables false
set_option linter.unusedSimpArgs false

def RefD (w : World) (s : ByteArray) (k : Nat) (out : Value) (wr : World) : Prop :=
  ∃ ou : List Int, wr.ownsRow w.heap.size 21 1 out ou.length (ou.map (Value.int .i32)) ∧ ou.length ≤ k ∧ decF DS.zero (bts s) = ou ++ decF DS.zero ((bts s).drop k) ∧ Below w.heap.size w wr

set_option maxHeartbeats 4000000 in
theorem refdec_any (s : ByteArray) (w : World) (hsz : s.size ≤ 1000000000) :
    Calls Try.prog 17 #[.string s] w fun e w' => ∃ A c, e = .returned (.slice A (decD (bts s)).length c) ∧ Rd w' A (decD (bts s)).length (li (decD (bts s))) ∧ Below w.heap.size w w' := by
  go_enter Try.func17, Try.ntmps17
  go_wp2
  go_loopw [3, 4] (fun out i wr => ∃ k : Nat, k ≤ s.size ∧ i = .int .i64 k ∧ RefD w s k out wr) (fun _ i _ => s.size - (intOf i).toNat)
  case atStart => exact ⟨0, Nat.zero_le _, rfl, [], World.ownsRow_nil _ _ _ _, Nat.le_refl _, rfl, Below.refl _ _⟩
  case round =>
    obtain ⟨k, hk, rfl, ou, hown, hou, hde, hbw⟩ := hrel
    by_cases hlt : k < s.size
    · obtain ⟨c, t, eL⟩ : ∃ c t, (bts s).drop k = c :: t := by
        match e : (bts s).drop k with
        | [] =>
          have := congrArg List.length e
          rw [List.length_drop, bts_length] at this
          simp at this; omega
        | a :: l => exact ⟨a, l, rfl⟩
      have HO := Lib.hid (And.intro hown (And.intro hde hbw))
      clear hown hde hbw
      have hle : k ≤ s.size := hk
      go_wp2_with fail
      refine (row_said _ _ (by rw [ByteArray.size_extract]; omega)).mono ?_
      rintro e w1 ⟨n, wh, rfl, hri, kq, rfl⟩
      rw [bts_tail, eL] at hri
      have hnl : n ≤ s.size - k := by
        have h1 := hri.1
        have h2 := congrArg List.length eL
        rw [List.length_drop, bts_length] at h2
        omega
      have hds := Lib.hid (dec_step c t n wh hri)
      have hw0 : wh = true → 0 < n := fun e => (hri.2.2.2.1 e).1
      have HR := Lib.hid hri
      clear hri
      have HX := Lib.hid (own_later HO.out.1 (below_drewN (Below.refl wr.heap.size wr) kq))
      have HB := Lib.hid (below_drewN HO.out.2.2 kq)
      cases wh
      · by_cases hn : n = 0
        · subst hn
          go_wp2_with (at_builtin; refine wpList_push eltI HX.out (by have := HB.out.size; omega) rfl rfl rfl rfl (by simp) rfl rfl (by unfold maxLen; omega) (by omega) ?_; intro A3 v3 w3 hp; have HP := Lib.hid hp; have hb3 : Below w.heap.size w w3 := hp.below HB.out HX.out (Nat.le_refl _); clear hp)
          go_roundw
          case rel =>
            refine ⟨k + 1, by omega, by go_num, ou ++ [65533], by simpa using HP.out.own, by simp; omega, ?_, hb3⟩
            rw [HO.out.2.1, eL, hds.out, ← List.drop_drop, eL]
            simp
          case measure => simp [intOf]; omega
        · have hz : decide (n = 0) = false := by simp [hn]
          have hz2 : ((n : Int) == 0) = false := by simp [hn]
          go_wp2_with (at_builtin; refine wpList_push eltI HX.out (by have := HB.out.size; omega) rfl rfl rfl rfl (by simp) rfl rfl (by unfold maxLen; omega) (by omega) ?_; intro A3 v3 w3 hp; have HP := Lib.hid hp; have hb3 : Below w.heap.size w w3 := hp.below HB.out HX.out (Nat.le_refl _); clear hp)
          go_roundw
          case rel =>
            refine ⟨k + n, by omega, by go_num, ou ++ [65533], by simpa using HP.out.own, by simp; omega, ?_, hb3⟩
            rw [HO.out.2.1, eL, hds.out, hz, ← List.drop_drop, eL]
            simp
          case measure => simp [intOf]; omega
      · have hn : 0 < n := hw0 rfl
        have hz : decide (n = 0) = false := by simp; omega
        have hz2 : ((n : Int) == 0) = false := by simp; omega
        have hsz' : (s.extract k (k + n)).size = n := by rw [ByteArray.size_extract]; omega
        have hV : bts (s.extract k (k + n)) = (c :: t).take n := by rw [bts_extract, eL, show k + n - k = n by omega]
        have hg : ∀ j, j < n → (bts (s.extract k (k + n))).getD j 0 = (c :: t).getD j 0 := fun j hj => by
          rw [hV]
          simp [List.getD, List.getElem?_take, hj]
        have HV := Lib.hid (fun w => value_any (s.extract k (k + n)) (by omega) (by rw [hsz', hg 0 hn]; exact (HR.out.2.2.2.1 rfl).2) (fun j hj => by rw [hsz'] at hj; rw [hg 0 hn, hg j hj]; exact (HR.out.2.1 j hj).2.2) w)
        rw [hV] at HV
        obtain ⟨x, hx⟩ : ∃ x, valI ((c :: t).take n) = x := ⟨_, rfl⟩
        rw [hx] at HV
        clear hsz' hV hg hw0
        go_wp2_with fail
        refine (HV.out _).mono ?_
        rintro e w2 ⟨rfl, rfl⟩
        go_wp2_with (at_builtin; refine wpList_push eltI HX.out (by have := HB.out.size; omega) rfl rfl rfl rfl (by simp) rfl rfl (by unfold maxLen; omega) (by omega) ?_; intro A3 v3 w3 hp; have HP := Lib.hid hp; have hb3 : Below w.heap.size w w3 := hp.below HB.out HX.out (Nat.le_refl _); clear hp)
        go_roundw
        case rel =>
          refine ⟨k + n, by omega, by go_num, ou ++ [x], by simpa using HP.out.own, by simp; omega, ?_, hb3⟩
          rw [HO.out.2.1, eL, hds.out, hz, hx.symm, ← List.drop_drop, eL]
          simp
        case measure => simp [intOf]; omega
    · obtain rfl : k = s.size := by omega
      have HO := Lib.hid (And.intro hown (And.intro hde hbw))
      clear hown hde hbw
      go_wp2_with fail
      go_ret
      have hD : decD (bts s) = ou := by
        rw [decD_is, HO.out.2.1, List.drop_of_length_le (by rw [bts_length]; exact Nat.le_refl _)]
        simp [decF, endD, DS.zero]
      have hx := HO.out.1
      obtain ⟨A, c, rfl⟩ := own_slice hx
      rw [hD]
      refine ⟨A, c, rfl, rd_own hx (fun j hj => ?_), HO.out.2.2⟩
      rw [List.getElem?_map, List.getElem?_eq_getElem hj]
      simp [li, List.getD, List.getElem?_eq_getElem hj]
end Go.Proofs.Ytkkenabckhmkoaa

/- utf: how long what is decoded is (the part of XUtfX that asks no law of layer 1). -/
namespace Go.Proofs.Ytkkenabckhmkoaa
open Go.RowKit
set_option linter.unusedVariables false
set_option linter.unusedSimpArgs false

theorem decD_len (s : ByteArray) : (decD (bts s)).length ≤ 2 * s.size + 1 := by
  have h := runD_len (bts s)
  rw [bts_length] at h
  simp only [decD, List.length_append, endD]
  split <;> simp <;> omega

end Go.Proofs.Ytkkenabckhmkoaa

/- utf: which bytes wait. -/
namespace Go.Proofs.Ytkkenabckhmkoaa
open Go.RowKit
set_option linter.unusedVariables false
set_option linter.unusedSimpArgs false

/-- A decoder's state behind bytes. -/
def stF (s : DS) (l : List Int) : DS := l.foldl (fun s b => (stepD s b).1) s

theorem stF_run (l : List Int) : ∀ (s : DS) (o : List Int), (l.foldl (fun q b => ((stepD q.1 b).1, q.2 ++ (stepD q.1 b).2)) (s, o)).1 = stF s l := by
  induction l with
  | nil => intro s o; rfl
  | cons b l ih => intro s o; rw [List.foldl_cons, ih]; rfl
theorem stF_is (l : List Int) : (runD l).1 = stF DS.zero l := stF_run l DS.zero []

theorem stF_cons (s : DS) (b : Int) (l : List Int) : stF s (b :: l) = stF (stepD s b).1 l := rfl
theorem stF_none {b : Int} {l : List Int} (h : rowN b = 0) : stF DS.zero (b :: l) = stF DS.zero l := by
  rw [stF_cons, stepD_zero, beginD, if_pos h]
theorem stF_one {b : Int} {l : List Int} (h : rowN b = 1) : stF DS.zero (b :: l) = stF DS.zero l := by
  rw [stF_cons, stepD_zero, beginD, if_neg (by omega), if_pos h]
theorem stF_begin {b : Int} {l : List Int} (h : 2 ≤ rowN b) : stF DS.zero (b :: l) = stF ⟨b, 0, 0, 1⟩ l := by
  rw [stF_cons, stepD_zero, beginD, if_neg (by omega), if_neg (by omega)]
theorem stF_stop {s : DS} {b : Int} {l : List Int} (h : ¬ s.n = 0) (hg : ¬ goes s.h0 s.n b = true) : stF s (b :: l) = stF DS.zero (b :: l) := by
  rw [stF_cons, stF_cons, stepD_zero, stepD, if_neg h, if_neg hg]
theorem stF_whole {s : DS} {b : Int} {l : List Int} (h : ¬ s.n = 0) (hg : goes s.h0 s.n b = true) (hr : rowN s.h0 = s.n + 1) : stF s (b :: l) = stF DS.zero l := by
  rw [stF_cons, stepD, if_neg h, if_pos hg, if_pos hr]
theorem stF_two {c b : Int} {l : List Int} (hg : goes c 1 b = true) (hr : ¬ rowN c = 2) : stF ⟨c, 0, 0, 1⟩ (b :: l) = stF ⟨c, b, 0, 2⟩ l := by
  have hr' : ¬ rowN c = 1 + 1 := hr
  simp only [stF_cons, stepD, if_neg (show ¬ (1 : Int) = 0 by omega), if_pos hg, if_neg hr', if_pos]
theorem stF_three {c a b : Int} {l : List Int} (hg : goes c 2 b = true) (hr : ¬ rowN c = 3) : stF ⟨c, a, 0, 2⟩ (b :: l) = stF ⟨c, a, b, 3⟩ l := by
  have hr' : ¬ rowN c = 2 + 1 := hr
  simp only [stF_cons, stepD, if_neg (show ¬ (2 : Int) = 0 by omega), if_pos hg, if_neg hr', if_neg (show ¬ (2 : Int) = 1 by omega)]

theorem st_row (c : Int) (t : List Int) (n : Nat) (hn0 : 0 < n) (hL : n ≤ t.length + 1) (hl : (n : Int) ≤ longI c) (hm : ∀ j, j < n → MayI c j ((c :: t).getD j 0)) :
    ((n : Int) = longI c → stF DS.zero (c :: t) = stF DS.zero ((c :: t).drop n)) ∧
    ((n : Int) < longI c → (n = t.length + 1 ∨ ¬ MayI c n ((c :: t).getD n 0)) → (n = t.length + 1 ∧ (stF DS.zero (c :: t)).n = n) ∨ (n < t.length + 1 ∧ stF DS.zero (c :: t) = stF DS.zero ((c :: t).drop n))) := by
  have hr : rowN c ≠ 0 := may_zero.1 (hm 0 hn0)
  have hr4 := rowN_le c
  rw [long_is hr] at hl ⊢
  have h4 : n ≤ 4 := by omega
  obtain rfl | rfl | rfl | rfl : n = 1 ∨ n = 2 ∨ n = 3 ∨ n = 4 := by omega
  · refine ⟨fun e => stF_one e.symm, fun e hx => ?_⟩
    have h2 : 2 ≤ rowN c := by simp at e; omega
    rw [stF_begin h2]
    cases t with
    | nil => exact .inl ⟨by simp, rfl⟩
    | cons b t =>
      have hg : ¬ goes c 1 b = true := fun h => by
        rcases hx with hx | hx
        · simp at hx
        · exact hx ((may_one h2).2 (by simpa using h))
      exact .inr ⟨by simp only [List.length_cons]; omega, stF_stop (by simp) hg⟩
  · have h2 : 2 ≤ rowN c := by simp at hl; omega
    cases t with
    | nil => simp at hL
    | cons b t =>
      have m1 := hm 1 (by omega)
      have hg : goes c 1 b = true := (may_one h2).1 (by simpa using m1)
      have hb := may_cont (i := 1) (by decide) m1
      simp at hb
      rw [stF_begin h2]
      refine ⟨fun e => ?_, fun e hx => ?_⟩
      · rw [stF_whole (by simp) hg (by simpa using e.symm)]
        rfl
      · have h3 : 3 ≤ rowN c := by simp at e; omega
        rw [stF_two hg (by omega)]
        cases t with
        | nil => exact .inl ⟨by simp, rfl⟩
        | cons d t =>
          have hg2 : ¬ goes c 2 d = true := fun h => by
            rcases hx with hx | hx
            · simp at hx
            · exact hx ((may_more (i := 2) (by decide) 2 rfl).2 (by simpa using h))
          exact .inr ⟨by simp only [List.length_cons]; omega, stF_stop (by simp) hg2⟩
  · have h3 : 3 ≤ rowN c := by simp at hl; omega
    have h2 : 2 ≤ rowN c := by omega
    match t, hL with
    | [], hL => simp at hL
    | [b], hL => simp at hL
    | b :: d :: t, hL =>
      have m1 := hm 1 (by omega)
      have m2 := hm 2 (by omega)
      have hg : goes c 1 b = true := (may_one h2).1 (by simpa using m1)
      have hg2 : goes c 2 d = true := (may_more (i := 2) (by decide) 2 rfl).1 (by simpa using m2)
      have hb := may_cont (i := 1) (by decide) m1
      have hd := may_cont (i := 2) (by decide) m2
      simp at hb hd
      rw [stF_begin h2, stF_two hg (by omega)]
      refine ⟨fun e => ?_, fun e hx => ?_⟩
      · rw [stF_whole (by simp) hg2 (by simpa using e.symm)]
        rfl
      · have h4 : 4 ≤ rowN c := by simp at e; omega
        rw [stF_three hg2 (by omega)]
        cases t with
        | nil => exact .inl ⟨by simp, rfl⟩
        | cons x t =>
          have hg3 : ¬ goes c 3 x = true := fun h => by
            rcases hx with hx | hx
            · simp at hx
            · exact hx ((may_more (i := 3) (by decide) 3 rfl).2 (by simpa using h))
          exact .inr ⟨by simp only [List.length_cons]; omega, stF_stop (by simp) hg3⟩
  · have h4' : rowN c = 4 := by simp at hl; omega
    have h2 : 2 ≤ rowN c := by omega
    match t, hL with
    | [], hL => simp at hL
    | [b], hL => simp at hL
    | [b, d], hL => simp at hL
    | b :: d :: x :: t, hL =>
      have m1 := hm 1 (by omega)
      have m2 := hm 2 (by omega)
      have m3 := hm 3 (by omega)
      have hg : goes c 1 b = true := (may_one h2).1 (by simpa using m1)
      have hg2 : goes c 2 d = true := (may_more (i := 2) (by decide) 2 rfl).1 (by simpa using m2)
      have hg3 : goes c 3 x = true := (may_more (i := 3) (by decide) 3 rfl).1 (by simpa using m3)
      have hb := may_cont (i := 1) (by decide) m1
      have hd := may_cont (i := 2) (by decide) m2
      have hx := may_cont (i := 3) (by decide) m3
      simp at hb hd hx
      rw [stF_begin h2, stF_two hg (by omega), stF_three hg2 (by omega)]
      refine ⟨fun e => ?_, fun e hx => ?_⟩
      · rw [stF_whole (by simp) hg3 (by simpa using h4')]
        rfl
      · simp at e; omega

theorem st_step (c : Int) (t : List Int) (n : Nat) (wh : Bool) (h : RowIs0 (c :: t) n wh) :
    (wh = false ∧ 0 < n ∧ n = t.length + 1 ∧ (stF DS.zero (c :: t)).n = n) ∨
    ((wh = false ∧ 0 < n ∧ n = t.length + 1) → False) ∧ stF DS.zero (c :: t) = stF DS.zero ((c :: t).drop (bif decide (n = 0) then 1 else n)) := by
  obtain ⟨hn, hc, hx, hw⟩ := h
  have hp := longI_pos c
  have hcz : (c :: t).getD 0 0 = c := rfl
  rw [hcz] at hw
  by_cases h0 : n = 0
  · subst h0
    have hr : rowN c = 0 := by
      by_cases hr : rowN c = 0
      · exact hr
      · exact absurd ⟨by simp, by rw [hcz]; simp; omega, by rw [hcz]; exact may_zero.2 hr⟩ hx
    refine .inr ⟨fun h => by omega, ?_⟩
    rw [stF_none hr]
    rfl
  · have hl : (n : Int) ≤ longI c := by
      have := (hc (n - 1) (by omega)).2.1
      rw [hcz] at this
      omega
    have hd := st_row c t n (by omega) (by simpa using hn) hl (fun j hj => by have := (hc j hj).2.2; rwa [hcz] at this)
    have hz : decide (n = 0) = false := by simp [h0]
    rw [hz]
    cases wh
    · have hne : ¬ (n : Int) = longI c := fun e => absurd (hw.2 ⟨by omega, e⟩) (by simp)
      by_cases he : n = t.length + 1
      · rcases hd.2 (by omega) (.inl he) with h | h
        · exact .inl ⟨rfl, by omega, h⟩
        · omega
      · refine .inr ⟨fun h => he h.2.2, ?_⟩
        rcases hd.2 (by omega) (.inr fun hm => hx ⟨by simp at hn ⊢; omega, by rw [hcz]; omega, by rw [hcz]; exact hm⟩) with h | h
        · exact absurd h.1 he
        · exact h.2
    · exact .inr ⟨fun h => absurd h.1 (by simp), hd.1 (hw.1 rfl).2⟩


/-- What is told of all bytes but those that wait is what was told so far. -/
theorem out_is (l : List Int) (hby : ∀ b ∈ l, 0 ≤ b ∧ b ≤ 255) : 0 ≤ (runD l).1.n ∧ (runD l).1.n ≤ l.length ∧ (runD l).2 = decD (l.take (l.length - (runD l).1.n.toNat)) := by
  induction hk : l.length generalizing l with
  | zero =>
    have : l = [] := List.length_eq_zero_iff.1 hk
    subst this
    exact ⟨by decide, by decide, by rfl⟩
  | succ k ih =>
    obtain ⟨l', b, rfl⟩ : ∃ l' b, l = l' ++ [b] := ⟨l.dropLast, l.getLast (by intro e; simp [e] at hk), (List.dropLast_concat_getLast _).symm⟩
    have hk' : l'.length = k := by simpa using hk
    obtain ⟨i0, i1, i2⟩ := ih l' (fun x hx => hby x (List.mem_append_left _ hx)) hk'
    have hlast : ∀ x : List Int, x = decD (l' ++ [b]) → x = decD ((l' ++ [b]).take (k + 1 - (0 : Int).toNat)) := fun x h => by
      rw [h, List.take_of_length_le (by simp [hk'])]
    have hs := runD_snoc l' b
    have hok := (runD_ok l' (fun x hx => hby x (List.mem_append_left _ hx))).2
    have hD : decD (l' ++ [b]) = (runD (l' ++ [b])).2 ++ endD (runD (l' ++ [b])).1 := rfl
    have hD' : decD l' = (runD l').2 ++ endD (runD l').1 := rfl
    have zero_case : (runD (l' ++ [b])).1.n = 0 → 0 ≤ (runD (l' ++ [b])).1.n ∧ (runD (l' ++ [b])).1.n ≤ ((k + 1 : Nat) : Int) ∧ (runD (l' ++ [b])).2 = decD ((l' ++ [b]).take (k + 1 - (runD (l' ++ [b])).1.n.toNat)) := fun h => by
      rw [h]
      refine ⟨by omega, by omega, hlast _ ?_⟩
      rw [hD, endD, if_pos h, List.append_nil]
    have one_case : (runD (l' ++ [b])).1.n = 1 → (runD (l' ++ [b])).2 = decD l' → 0 ≤ (runD (l' ++ [b])).1.n ∧ (runD (l' ++ [b])).1.n ≤ ((k + 1 : Nat) : Int) ∧ (runD (l' ++ [b])).2 = decD ((l' ++ [b]).take (k + 1 - (runD (l' ++ [b])).1.n.toNat)) := fun h h2 => by
      rw [h]
      refine ⟨by omega, by omega, ?_⟩
      rw [h2, show k + 1 - (1 : Int).toNat = l'.length by rw [hk']; rfl, List.take_left']
      rfl
    obtain ⟨⟨⟨h0, h1, h2, m⟩, ou⟩, hru⟩ : ∃ r, runD l' = r := ⟨_, rfl⟩
    simp only [hru] at hs i0 i1 i2 hD' hok
    have hbg : (rowN b = 0 ∧ beginD b = (DS.zero, [65533])) ∨ (rowN b = 1 ∧ beginD b = (DS.zero, [b])) ∨ beginD b = (⟨b, 0, 0, 1⟩, []) := by
      unfold beginD
      by_cases r0 : rowN b = 0
      · exact .inl ⟨r0, if_pos r0⟩
      · by_cases r1 : rowN b = 1
        · exact .inr (.inl ⟨r1, by rw [if_neg r0, if_pos r1]⟩)
        · exact .inr (.inr (by rw [if_neg r0, if_neg r1]))
    by_cases hm : m = 0
    · subst hm
      have e : stepD ⟨h0, h1, h2, 0⟩ b = beginD b := by simp [stepD]
      rw [e] at hs
      have hd0 : decD l' = ou := by rw [hD', endD, if_pos rfl, List.append_nil]
      rcases hbg with ⟨_, hb⟩ | ⟨_, hb⟩ | hb
      · exact zero_case (by rw [hs, hb]; rfl)
      · exact zero_case (by rw [hs, hb]; rfl)
      · exact one_case (by rw [hs, hb]) (by rw [hs, hb, hd0, List.append_nil])
    · by_cases hg : goes h0 m b = true
      · by_cases hr : rowN h0 = m + 1
        · have e : stepD ⟨h0, h1, h2, m⟩ b = (DS.zero, [wholeD ⟨h0, h1, h2, m⟩ b]) := by simp [stepD, hm, hg, hr]
          exact zero_case (by rw [hs, e]; rfl)
        · have hm12 : m = 1 ∨ m = 2 := by
            have h4 := rowN_le h0
            omega
          have e : (stepD ⟨h0, h1, h2, m⟩ b).1.n = m + 1 ∧ (stepD ⟨h0, h1, h2, m⟩ b).2 = [] := by
            simp only [stepD, if_neg hm, hg, if_true, if_neg hr]
            rcases hm12 with rfl | rfl
            · exact ⟨rfl, rfl⟩
            · exact ⟨rfl, rfl⟩
          have en : (runD (l' ++ [b])).1.n = m + 1 := by rw [hs]; exact e.1
          rw [en]
          refine ⟨by omega, by omega, ?_⟩
          have h2 : (runD (l' ++ [b])).2 = ou := by rw [hs, e.2, List.append_nil]
          rw [h2, i2, List.take_append_of_le_length (by omega)]
          congr 2
          omega
      · have e : stepD ⟨h0, h1, h2, m⟩ b = ((beginD b).1, 65533 :: (beginD b).2) := by simp [stepD, hm, hg]
        rw [e] at hs
        have hd0 : decD l' = ou ++ [65533] := by rw [hD', endD, if_neg hm]
        rcases hbg with ⟨_, hb⟩ | ⟨_, hb⟩ | hb
        · exact zero_case (by rw [hs, hb]; rfl)
        · exact zero_case (by rw [hs, hb]; rfl)
        · exact one_case (by rw [hs, hb]) (by rw [hs, hb, hd0])

end Go.Proofs.Ytkkenabckhmkoaa

/- utf: the document's count of the bytes that wait. -/
namespace Go.Proofs.Ytkkenabckhmkoaa
open Go.RowKit
set_option linter.unusedVariables false
set_option linter.unusedSimpArgs false

set_option maxHeartbeats 4000000 in
theorem rwaits_any (s : ByteArray) (w : World) (hsz : s.size ≤ 1000000000) :
    Calls Try.prog 52 #[.string s] w (Told (.int .i64 (stF DS.zero (bts s)).n) w) := by
  go_enter Try.func52, Try.ntmps52
  go_wp2
  go_loopw [3] (fun i wr => ∃ k : Nat, k ≤ s.size ∧ i = .int .i64 k ∧ stF DS.zero (bts s) = stF DS.zero ((bts s).drop k) ∧ ∃ q, wr = w.drewN q) (fun i _ => s.size - (intOf i).toNat)
  case atStart => exact ⟨0, Nat.zero_le _, rfl, rfl, 0, rfl⟩
  case round =>
    obtain ⟨k, hk, rfl, hst, q, rfl⟩ := hrel
    by_cases hlt : k < s.size
    · obtain ⟨c, t, eL⟩ : ∃ c t, (bts s).drop k = c :: t := by
        match e : (bts s).drop k with
        | [] =>
          have := congrArg List.length e
          rw [List.length_drop, bts_length] at this
          simp at this; omega
        | a :: l => exact ⟨a, l, rfl⟩
      have htl : t.length + 1 = s.size - k := by
        have := congrArg List.length eL
        rw [List.length_drop, bts_length] at this
        simpa using this.symm
      have HO := Lib.hid hst
      clear hst
      go_wp2_with fail
      refine (row_said _ _ (by rw [ByteArray.size_extract]; omega)).mono ?_
      rintro e w1 ⟨n, wh, rfl, hri, kq, rfl⟩
      rw [bts_tail, eL] at hri
      have hnl : n ≤ s.size - k := by
        have h1 := hri.1
        simp only [List.length_cons] at h1
        omega
      have hss := st_step c t n wh hri
      have hw0 : wh = true → 0 < n := fun e => (hri.2.2.2.1 e).1
      clear hri
      rcases hss with ⟨rfl, hn, hne, hv⟩ | ⟨hno, hv⟩
      · have hle : k + n = s.size := by omega
        have HV := Lib.hid hv
        clear hv hw0 htl hne
        go_wp2_with fail
        go_ret
        exact ⟨by rw [HO.out, eL, HV.out]; rfl, _, rfl⟩
      · have HV := Lib.hid hv
        clear hv
        cases wh
        · by_cases hn : n = 0
          · subst hn
            clear hno hw0
            go_wp2_with fail
            go_roundw
            case rel =>
              refine ⟨k + 1, by omega, by go_num, ?_, _, rfl⟩
              rw [HO.out, eL, HV.out, ← List.drop_drop, eL]
              simp
            case measure => simp [intOf]; omega
          · have hle : ¬ (k + n = s.size) := fun h => hno ⟨rfl, by omega, by omega⟩
            have hz2 : ((n : Int) == 0) = false := by simp [hn]
            have hz3 : (((k : Int) + (n : Int)) == (s.size : Int)) = false := by simp; omega
            clear hno hw0
            go_wp2_with fail
            go_roundw
            case rel =>
              refine ⟨k + n, by omega, by go_num, ?_, _, rfl⟩
              rw [HO.out, eL, HV.out, show decide (n = 0) = false by simp [hn], ← List.drop_drop, eL]
              simp
            case measure => simp [intOf]; omega
        · have hn : 0 < n := hw0 rfl
          have hz2 : ((n : Int) == 0) = false := by simp; omega
          clear hno hw0
          go_wp2_with fail
          go_roundw
          case rel =>
            refine ⟨k + n, by omega, by go_num, ?_, _, rfl⟩
            rw [HO.out, eL, HV.out, show decide (n = 0) = false by simp; omega, ← List.drop_drop, eL]
            simp
          case measure => simp [intOf]; omega
    · obtain rfl : k = s.size := by omega
      have hv : (stF DS.zero (bts s)).n = 0 := by
        rw [hst, List.drop_of_length_le (by rw [bts_length]; exact Nat.le_refl _)]
        rfl
      have HV := Lib.hid hv
      clear hst hv
      go_wp2_with fail
      go_ret
      exact ⟨by rw [HV.out]; rfl, _, rfl⟩
end Go.Proofs.Ytkkenabckhmkoaa

/- utf: the document's Decode, its length told apart. -/
namespace Go.Proofs.Ytkkenabckhmkoaa
open Go.RowKit
set_option linter.unusedVariables false
set_option linter.unusedSimpArgs false

/-- A slice that reads as a list of scalars, of a length that is told apart. -/
def TellsRd (L : List Int) (n : Nat) (w : World) (e : Ending) (w' : World) : Prop :=
  ∃ A c, e = .returned (.slice A n c) ∧ Rd w' A n (li L) ∧ Below w.heap.size w w'
theorem refdec_is (s : ByteArray) (L : List Int) (n : Nat) (hs : s.size ≤ 1000000000) (h : decD (bts s) = L) (hn : L.length = n) (w : World) : Calls Try.prog 17 #[.string s] w (TellsRd L n w) := by
  have hh := refdec_any s w hs
  rw [h, hn] at hh
  exact hh
end Go.Proofs.Ytkkenabckhmkoaa
