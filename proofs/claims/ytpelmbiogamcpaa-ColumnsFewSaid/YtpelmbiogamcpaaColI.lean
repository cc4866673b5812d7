/- columns: the law's widths; the document's widths of so many rows. -/
import Derived.Test.YtpelmbiogamcpaaColH
import Derived.Handy
namespace Go.Proofs.Ytpelmbiogamcpaa
open Go.RowKit
set_option linter.unusedVariables false
set_option linter.unusedSimpArgs false

/-- The low ten bits. -/
def low (z : Int) : Nat := (BitVec.ofInt 64 z &&& BitVec.ofInt 64 1023).toNat
theorem low_le (z : Int) : low z ≤ 1023 := by unfold low; rw [BitVec.toNat_and]; exact Nat.and_le_right
theorem low_bits (z : Int) : bits .and .i64 z 1023 = (low z : Int) := by
  have h := low_le z
  show IntKind.i64.wrap ((BitVec.ofInt 64 z &&& BitVec.ofInt 64 1023).toNat : Int) = _
  exact IntWalk.i64_in _ (by unfold low at h; omega)

theorem map_push (f : Nat → Value) (k : Nat) : (List.range k).map f ++ [f k] = (List.range (k + 1)).map f := by
  rw [List.range_succ, List.map_append]; rfl

/-- A row of the call's own that holds g 0, .. g (k-1). -/
def RowIs (w : World) (v : Value) (g : Nat → Nat) (k : Nat) (wr : World) : Prop :=
  ∃ (A : Option Addr) (c : Nat), v = .slice A k c ∧ Hid (wr.ownsRow w.heap.size 3 1 (.slice A k c) k ((List.range k).map (nv g)) ∧ Below w.heap.size w wr)

theorem RowIs.rd {w wr : World} {A : Option Addr} {c k : Nat} {g : Nat → Nat} (h : wr.ownsRow w.heap.size 3 1 (.slice A k c) k ((List.range k).map (nv g))) : Rd wr A k (nv g) :=
  rd_own h fun j hj => by simp [hj]

set_option maxHeartbeats 1000000 in
theorem small_any (A : Option Addr) (n c : Nat) (f : Nat → Int) (w : World) (hA : Rd w A n (fun j => .int .i64 (f j))) :
    Calls Try.prog 9 #[.slice A n c] w fun e w' => ∃ A' c', e = .returned (.slice A' (min n 60) c') ∧ Rd w' A' (min n 60) (nv fun j => low (f j)) ∧ Below w.heap.size w w' := by
  obtain ⟨m, hm⟩ : ∃ m, min n 60 = m := ⟨_, rfl⟩
  have hm1 : m ≤ n ∧ m ≤ 60 ∧ (m = n ∨ m = 60) := by omega
  rw [hm]
  clear hm
  have HA := Lib.hid hA
  clear hA
  go_enter Try.func9, Try.ntmps9
  go_wp2
  go_loopw [3, 4] (fun v i wr => ∃ k : Nat, k ≤ m ∧ i = .int .i64 k ∧ RowIs w v (fun j => low (f j)) k wr) (fun _ i _ => m - (intOf i).toNat)
  case atStart => exact ⟨0, Nat.zero_le _, rfl, none, 0, rfl, World.ownsRow_nil _ _ _ _, Below.refl _ _⟩
  case round =>
    obtain ⟨k, hk, rfl, A1, c1, rfl, HR⟩ := hrel
    have hz := HR.out.2.size
    by_cases hlt : k < m
    · obtain ⟨b, o, rfl, _, hc⟩ := (HA.out.later HR.out.2) k (by omega)
      obtain ⟨z, hzf⟩ : ∃ z, f k = z := ⟨_, rfl⟩
      have hc : wr.cell? ⟨b, o + k, none⟩ = some (.int .i64 (f k)) := hc
      rw [hzf] at hc
      have HX := Lib.hid hzf
      have hb := low_bits z
      have d1 : decide (k < n) = true := decide_eq_true (by omega)
      have d2 : decide ((k : Int) < 60) = true := decide_eq_true (by omega)
      have d2' : decide (k < 60) = true := decide_eq_true (by omega)
      have hA1 : k + 1 ≤ maxLen := by unfold maxLen; omega
      have hA2 : (k + 1) * 8 ≤ 140737488355328 := by omega
      clear hzf
      go_wp2_with (at_builtin; refine wpList_push colI_elt HR.out.1 (by simpa using hz) rfl rfl rfl rfl (by simp) rfl rfl hA1 hA2 ?_; intro A3 c3 w3 hp; have HP := Lib.hid hp; clear hp)
      go_roundw
      case rel => exact ⟨k + 1, by omega, by go_num, A3, c3, rfl, by rw [← map_push]; have h := HP.out.own; unfold nv at h ⊢; rw [HX.out, hb] at h; simp only [HX.out]; exact h, HP.out.below HR.out.2 HR.out.1 (Nat.le_refl _)⟩
      case measure => simp [intOf]; omega
    · obtain rfl : k = m := by omega
      by_cases h60 : k < n
      · have d1 : decide (k < n) = true := decide_eq_true h60
        have d2 : decide ((k : Int) < 60) = false := decide_eq_false (by omega)
        have d2' : decide (k < 60) = false := decide_eq_false (by omega)
        go_wp2
        go_ret
        exact ⟨A1, c1, rfl, RowIs.rd HR.out.1, HR.out.2⟩
      · have d1 : decide (k < n) = false := decide_eq_false h60
        go_wp2
        go_ret
        exact ⟨A1, c1, rfl, RowIs.rd HR.out.1, HR.out.2⟩

/-! ### The greatest of k widths from one on; columns -/
def mx (f : Nat → Nat) (a : Nat) : Nat → Nat
  | 0 => 0
  | k + 1 => max (mx f a k) (f (a + k))

theorem mx_le {f : Nat → Nat} {a b : Nat} : ∀ {k : Nat}, mx f a k ≤ b ↔ ∀ j, j < k → f (a + j) ≤ b
  | 0 => ⟨fun _ j hj => absurd hj (by omega), fun _ => Nat.zero_le _⟩
  | k + 1 => by
    unfold mx
    rw [Nat.max_le, mx_le]
    constructor
    · rintro ⟨h1, h2⟩ j hj
      rcases Nat.lt_or_ge j k with h | h
      · exact h1 j h
      · rw [show j = k by omega]; exact h2
    · intro h
      exact ⟨fun j hj => h j (by omega), h k (by omega)⟩

theorem mx_small {f : Nat → Nat} {n a k : Nat} (h : ∀ j, j < n → f j ≤ 1023) (hk : a + k ≤ n) : mx f a k ≤ 1023 := mx_le.2 fun j hj => h _ (by omega)

/-- How many columns n words take in r rows. -/
def colsN (n r : Nat) : Nat := (n + r - 1) / r
theorem lt_cols {n r i : Nat} (hr : 0 < r) : i < colsN n r ↔ i * r < n := by
  unfold colsN
  rw [← Nat.succ_le_iff, Nat.le_div_iff_mul_le hr, Nat.succ_mul]
  omega
theorem cols_le {n r : Nat} (hr : 0 < r) : colsN n r ≤ n := by
  rcases Nat.lt_or_ge n (colsN n r) with h | h
  · have := (lt_cols hr).1 h
    have := Nat.le_mul_of_pos_right n hr
    omega
  · exact h
/-- The i-th column's width. -/
def colW (f : Nat → Nat) (n r i : Nat) : Nat := mx f (i * r) (min r (n - i * r))

set_option maxHeartbeats 2000000 in
set_option maxRecDepth 100000 in
theorem ref_plan (A : Option Addr) (n c r : Nat) (f : Nat → Nat) (w : World) (hA : Rd w A n (nv f)) (hf : ∀ j, j < n → f j ≤ 1023) (hn : n ≤ 60) (hr : 0 < r) (hr2 : r ≤ 60) :
    Calls Try.prog 13 #[.slice A n c, .int .i64 r] w fun e w' => ∃ A' c', e = .returned (.slice A' (colsN n r) c') ∧ Rd w' A' (colsN n r) (nv (colW f n r)) ∧ Below w.heap.size w w' := by
  obtain ⟨K, hK⟩ : ∃ K, colsN n r = K := ⟨_, rfl⟩
  have hK1 : K ≤ n := hK ▸ cols_le hr
  have HK := Lib.hid (fun i => hK ▸ lt_cols (n := n) (i := i) hr)
  rw [hK]
  clear hK
  have HA := Lib.hid (And.intro hA hf)
  clear hA hf
  go_enter Try.func13, Try.ntmps13
  go_wp2
  go_loopw [5, 6] (fun v i wr => ∃ k x : Nat, k ≤ K ∧ x ≤ 120 ∧ i = .int .i64 x ∧ Hid (x = k * r) ∧ RowIs w v (colW f n r) k wr) (fun _ i _ => n + r - (intOf i).toNat)
  case atStart => exact ⟨0, 0, Nat.zero_le _, Nat.zero_le _, rfl, (Nat.zero_mul _).symm, none, 0, rfl, World.ownsRow_nil _ _ _ _, Below.refl _ _⟩
  case round =>
    obtain ⟨k, x, hk, hx, rfl, HX, A1, c1, rfl, HR⟩ := hrel
    have hz := HR.out.2.size
    by_cases hlt : x < n
    · have hkK : k < K := (HK.out k).2 (HX.out ▸ hlt)
      obtain ⟨m, hm⟩ : ∃ m, min r (n - x) = m := ⟨_, rfl⟩
      have hm1 : m ≤ r ∧ x + m ≤ n ∧ (m = r ∨ x + m = n) := by omega
      have HM := Lib.hid hm
      clear hm
      have HA1 := Lib.hid (HA.out.1.later HR.out.2)
      go_wp2
      go_loopw [7, 8] (fun u i wr' => ∃ j y : Nat, j ≤ m ∧ i = .int .i64 ((x + j : Nat) : Int) ∧ u = .int .i64 y ∧ Hid (y = mx f x j) ∧ wr' = wr) (fun _ i _ => x + m - (intOf i).toNat)
      case atStart => exact ⟨0, 0, Nat.zero_le _, rfl, rfl, rfl, rfl⟩
      case round =>
        obtain ⟨j, y, hj, rfl, rfl, HY, rfl⟩ := hrel
        by_cases hjm : j < m
        · obtain ⟨b, o, rfl, _, hc⟩ := HA1.out (x + j) (by omega)
          obtain ⟨z, hzf⟩ : ∃ z, f (x + j) = z := ⟨_, rfl⟩
          have hyb : y ≤ 1023 := by rw [HY.out]; exact mx_small HA.out.2 (by omega)
          have hzb : z ≤ 1023 := by rw [← hzf]; exact HA.out.2 _ (by omega)
          unfold nv at hc
          rw [hzf] at hc
          have HZ := Lib.hid (show mx f x (j + 1) = max y z by rw [HY.out, ← hzf]; rfl)
          obtain ⟨p, hp⟩ : ∃ p, x + j = p := ⟨_, rfl⟩
          have hpb : p < n ∧ p < x + r := by omega
          rw [hp] at hc ⊢
          have d1 : decide (p < x + r) = true := decide_eq_true hpb.2
          have d2 : decide (p < n) = true := decide_eq_true hpb.1
          clear hzf
          by_cases hyz : y < z
          · have d3 : decide (y < z) = true := decide_eq_true hyz
            go_wp2
            go_roundw
            case rel => exact ⟨j + 1, z, by omega, by go_num, rfl, (show z = mx f x (j + 1) by rw [HZ.out]; omega), trivial⟩
            case measure => simp [intOf]; omega
          · have d3 : decide (y < z) = false := decide_eq_false hyz
            go_wp2
            go_roundw
            case rel => exact ⟨j + 1, y, by omega, by go_num, rfl, (show y = mx f x (j + 1) by rw [HZ.out]; omega), trivial⟩
            case measure => simp [intOf]; omega
        · obtain rfl : j = m := by omega
          obtain ⟨p, hp⟩ : ∃ p, x + j = p := ⟨_, rfl⟩
          have hyw : y = colW f n r k := by rw [HY.out]; unfold colW; rw [← HX.out, HM.out]
          have HYW := Lib.hid hyw
          have hA1 : k + 1 ≤ maxLen := by unfold maxLen; omega
          have hA2 : (k + 1) * 8 ≤ 140737488355328 := by omega
          rw [hp]
          have hxr : x + r ≤ 120 := by omega
          have HN := Lib.hid (show x + r = (k + 1) * r by rw [Nat.succ_mul, HX.out])
          clear hyw
          by_cases hpr : p < x + r
          · have d1 : decide (p < x + r) = true := decide_eq_true hpr
            have d2 : decide (p < n) = false := decide_eq_false (by omega)
            go_wp2_with (at_builtin; refine wpList_push colI_elt HR.out.1 (by simpa using hz) rfl rfl rfl rfl (by simp) rfl rfl hA1 hA2 ?_; intro A3 c3 w3 hp; have HP := Lib.hid hp; clear hp)
            go_roundw
            case rel => exact ⟨k + 1, x + r, by omega, by omega, by go_num, HN.out, A3, c3, rfl, by rw [← map_push]; have h := HP.out.own; unfold nv at h ⊢; rw [← HYW.out]; exact h, HP.out.below HR.out.2 HR.out.1 (Nat.le_refl _)⟩
            case measure => simp [intOf]; omega
          · have d1 : decide (p < x + r) = false := decide_eq_false hpr
            go_wp2_with (at_builtin; refine wpList_push colI_elt HR.out.1 (by simpa using hz) rfl rfl rfl rfl (by simp) rfl rfl hA1 hA2 ?_; intro A3 c3 w3 hp; have HP := Lib.hid hp; clear hp)
            go_roundw
            case rel => exact ⟨k + 1, x + r, by omega, by omega, by go_num, HN.out, A3, c3, rfl, by rw [← map_push]; have h := HP.out.own; unfold nv at h ⊢; rw [← HYW.out]; exact h, HP.out.below HR.out.2 HR.out.1 (Nat.le_refl _)⟩
            case measure => simp [intOf]; omega
    · obtain rfl : k = K := by
        rcases Nat.lt_or_ge k K with h | h
        · have := (HK.out k).1 h
          rw [← HX.out] at this
          omega
        · omega
      go_wp2
      go_ret
      exact ⟨A1, c1, rfl, RowIs.rd HR.out.1, HR.out.2⟩
end Go.Proofs.Ytpelmbiogamcpaa
