/- utf: the document's scalar of a whole row. -/
import Derived.Test.YtfnieoffgnnldaaDoorSuO
namespace Go.Proofs.YtfnieoffgnnldaaDoor
open Go.RowKit
set_option linter.unusedVariables false
set_option linter.unusedSimpArgs false

set_option maxHeartbeats 1000000 in
theorem value_1 (s : ByteArray) (hs : s.size = 1) (h0 : 0 < s.size) (c : Int) (hc : (s[0].toNat : Int) = c) (c0 : 0 ≤ c) (c1 : c < 128) (w : World) :
    Calls Tryd.prog 59 #[.string s] w (Tells (.int .i32 c) w) := by
  have hz : ((s.size : Int) == 1) = true := by simp [hs]
  go_enter Tryd.func59, Tryd.ntmps59
  go_wp2
  go_ret
  exact ⟨rfl, rfl⟩

set_option maxHeartbeats 2000000 in
theorem value_2 (s : ByteArray) (hs : s.size = 2) (h0 : 0 < s.size) (h1 : 1 < s.size) (c b : Int) (hc : (s[0].toNat : Int) = c) (g1 : (s[1].toNat : Int) = b) (c0 : 194 ≤ c) (c1 : c ≤ 223) (b0 : 128 ≤ b) (b1 : b ≤ 191) (w : World) :
    Calls Tryd.prog 59 #[.string s] w (Tells (.int .i32 (64 * (c - 192) + b - 128)) w) := by
  have hz1 : ((s.size : Int) == 1) = false := by simp [hs]
  have hz3 : ((s.size : Int) == 3) = false := by simp [hs]
  have hz4 : ((s.size : Int) == 4) = false := by simp [hs]
  go_enter Tryd.func59, Tryd.ntmps59
  go_wp2
  go_loopw [4, 5] (fun v i wr => ∃ (k : Nat) (x : Int), i = .int .i64 k ∧ v = .int .i64 x ∧ ((k = 1 ∧ x = c - 192) ∨ (k = 2 ∧ x = 64 * (c - 192) + b - 128)) ∧ wr = w) (fun _ i _ => 8 - (intOf i).toNat)
  case atStart => exact ⟨1, c - 192, rfl, rfl, Or.inl ⟨rfl, rfl⟩, rfl⟩
  case round =>
    obtain ⟨k, x, rfl, rfl, hx, rfl⟩ := hrel
    rcases hx with ⟨rfl, rfl⟩ | ⟨rfl, rfl⟩
    · have hlt : ((1 : Nat) : Int) < (s.size : Int) := by omega
      go_wp2
      go_roundw
      case rel => exact ⟨2, 64 * (c - 192) + b - 128, by go_num, by go_num, Or.inr (⟨rfl, by omega⟩), by trivial⟩
      case measure => simp [intOf]
    · have hlt : ¬ (((2 : Nat) : Int) < (s.size : Int)) := by omega
      go_wp2
      go_ret
      exact ⟨by go_num, rfl⟩

set_option maxHeartbeats 2000000 in
theorem value_3 (s : ByteArray) (hs : s.size = 3) (h0 : 0 < s.size) (h1 : 1 < s.size) (h2 : 2 < s.size) (c b d : Int) (hc : (s[0].toNat : Int) = c) (g1 : (s[1].toNat : Int) = b) (g2 : (s[2].toNat : Int) = d) (c0 : 224 ≤ c) (c1 : c ≤ 239) (b0 : 128 ≤ b) (b1 : b ≤ 191) (d0 : 128 ≤ d) (d1 : d ≤ 191) (w : World) :
    Calls Tryd.prog 59 #[.string s] w (Tells (.int .i32 (64 * (64 * (c - 224) + b - 128) + d - 128)) w) := by
  have hz1 : ((s.size : Int) == 1) = false := by simp [hs]
  have hz3 : ((s.size : Int) == 3) = true := by simp [hs]
  have hz4 : ((s.size : Int) == 4) = false := by simp [hs]
  go_enter Tryd.func59, Tryd.ntmps59
  go_wp2
  go_loopw [4, 5] (fun v i wr => ∃ (k : Nat) (x : Int), i = .int .i64 k ∧ v = .int .i64 x ∧ ((k = 1 ∧ x = c - 224) ∨ (k = 2 ∧ x = 64 * (c - 224) + b - 128) ∨ (k = 3 ∧ x = 64 * (64 * (c - 224) + b - 128) + d - 128)) ∧ wr = w) (fun _ i _ => 8 - (intOf i).toNat)
  case atStart => exact ⟨1, c - 224, rfl, rfl, Or.inl ⟨rfl, rfl⟩, rfl⟩
  case round =>
    obtain ⟨k, x, rfl, rfl, hx, rfl⟩ := hrel
    rcases hx with ⟨rfl, rfl⟩ | ⟨rfl, rfl⟩ | ⟨rfl, rfl⟩
    · have hlt : ((1 : Nat) : Int) < (s.size : Int) := by omega
      go_wp2
      go_roundw
      case rel => exact ⟨2, 64 * (c - 224) + b - 128, by go_num, by go_num, Or.inr (Or.inl ⟨rfl, by omega⟩), by trivial⟩
      case measure => simp [intOf]
    · have hlt : ((2 : Nat) : Int) < (s.size : Int) := by omega
      go_wp2
      go_roundw
      case rel => exact ⟨3, 64 * (64 * (c - 224) + b - 128) + d - 128, by go_num, by go_num, Or.inr (Or.inr (⟨rfl, by omega⟩)), by trivial⟩
      case measure => simp [intOf]
    · have hlt : ¬ (((3 : Nat) : Int) < (s.size : Int)) := by omega
      go_wp2
      go_ret
      exact ⟨by go_num, rfl⟩

set_option maxHeartbeats 2000000 in
theorem value_4 (s : ByteArray) (hs : s.size = 4) (h0 : 0 < s.size) (h1 : 1 < s.size) (h2 : 2 < s.size) (h3 : 3 < s.size) (c b d f : Int) (hc : (s[0].toNat : Int) = c) (g1 : (s[1].toNat : Int) = b) (g2 : (s[2].toNat : Int) = d) (g3 : (s[3].toNat : Int) = f) (c0 : 240 ≤ c) (c1 : c ≤ 244) (b0 : 128 ≤ b) (b1 : b ≤ 191) (d0 : 128 ≤ d) (d1 : d ≤ 191) (f0 : 128 ≤ f) (f1 : f ≤ 191) (w : World) :
    Calls Tryd.prog 59 #[.string s] w (Tells (.int .i32 (64 * (64 * (64 * (c - 240) + b - 128) + d - 128) + f - 128)) w) := by
  have hz1 : ((s.size : Int) == 1) = false := by simp [hs]
  have hz3 : ((s.size : Int) == 3) = false := by simp [hs]
  have hz4 : ((s.size : Int) == 4) = true := by simp [hs]
  go_enter Tryd.func59, Tryd.ntmps59
  go_wp2
  go_loopw [4, 5] (fun v i wr => ∃ (k : Nat) (x : Int), i = .int .i64 k ∧ v = .int .i64 x ∧ ((k = 1 ∧ x = c - 240) ∨ (k = 2 ∧ x = 64 * (c - 240) + b - 128) ∨ (k = 3 ∧ x = 64 * (64 * (c - 240) + b - 128) + d - 128) ∨ (k = 4 ∧ x = 64 * (64 * (64 * (c - 240) + b - 128) + d - 128) + f - 128)) ∧ wr = w) (fun _ i _ => 8 - (intOf i).toNat)
  case atStart => exact ⟨1, c - 240, rfl, rfl, Or.inl ⟨rfl, rfl⟩, rfl⟩
  case round =>
    obtain ⟨k, x, rfl, rfl, hx, rfl⟩ := hrel
    rcases hx with ⟨rfl, rfl⟩ | ⟨rfl, rfl⟩ | ⟨rfl, rfl⟩ | ⟨rfl, rfl⟩
    · have hlt : ((1 : Nat) : Int) < (s.size : Int) := by omega
      go_wp2
      go_roundw
      case rel => exact ⟨2, 64 * (c - 240) + b - 128, by go_num, by go_num, Or.inr (Or.inl ⟨rfl, by omega⟩), by trivial⟩
      case measure => simp [intOf]
    · have hlt : ((2 : Nat) : Int) < (s.size : Int) := by omega
      go_wp2
      go_roundw
      case rel => exact ⟨3, 64 * (64 * (c - 240) + b - 128) + d - 128, by go_num, by go_num, Or.inr (Or.inr (Or.inl ⟨rfl, by omega⟩)), by trivial⟩
      case measure => simp [intOf]
    · have hlt : ((3 : Nat) : Int) < (s.size : Int) := by omega
      go_wp2
      go_roundw
      case rel => exact ⟨4, 64 * (64 * (64 * (c - 240) + b - 128) + d - 128) + f - 128, by go_num, by go_num, Or.inr (Or.inr (Or.inr (⟨rfl, by omega⟩))), by trivial⟩
      case measure => simp [intOf]
    · have hlt : ¬ (((4 : Nat) : Int) < (s.size : Int)) := by omega
      go_wp2
      go_ret
      exact ⟨by go_num, rfl⟩

end Go.Proofs.YtfnieoffgnnldaaDoor
