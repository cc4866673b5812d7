/- past: back, number, Index, IndexFunc, has. -/
import Derived.Test.YtmhjhndnbgabjaaPxP
import Derived.Test.YtmhjhndnbgabjaaSameI
import Derived.IntWalk
namespace Go.Proofs.Ytmhjhndnbgabjaa
open Go.RowKit
set_option linter.unusedVariables false
set_option linter.unusedSimpArgs false

/-- A text's cell. -/
theorem txt_at {w : World} {S : Nat → Prop} {A : Option Addr} {n c : Nat} {l : List Int} (h : TxtS w S (.slice A n c) l) {j : Nat} (hj : j < l.length) : ∃ b o, A = some ⟨b, o, none⟩ ∧ b < w.heap.size ∧ w.cell? ⟨b, o + j, none⟩ = some (.int .i32 (l.getD j 0)) := (Sl.parts h).2.1 j hj
theorem equal_is (u v : Value) (l m : List Int) (w : World) (hu : Txt w u l) (hv : Txt w v m) : Calls Try.prog 21 #[u, v] w fun e w' => e = .returned (.bool (decide (l = m))) ∧ ∃ k, w' = w.drewN k := by
  obtain ⟨A, c, rfl, hA, _, h1, h2, _⟩ := hu
  obtain ⟨B, d, rfl, hB, _, h3, h4, _⟩ := hv
  unfold maxLen at h2 h4
  by_cases h : l.length = m.length
  · rw [← agree_is l m h]
    rw [← h] at hB ⊢
    exact slE_equal_at A B l.length c d (fun j => l.getD j 0) (fun j => m.getD j 0) w (by omega) hA hB
  · rw [decide_eq_false (fun e => h (by rw [e]))]
    exact slE_equal_len A B l.length m.length c d w (by omega) (by omega) h

set_option maxHeartbeats 4000000 in
theorem pback_any (u lv : Value) (k n : Int) (M : List (List Int)) (w : World) (hL : Txts w u M) (hn : M.length ≤ 1000) (hb : -100000 ≤ n) (hb2 : n ≤ 100000) :
    Calls Try.prog 32 #[.agg #[u, .int .i64 k, lv], .int .i64 n] w fun e w' => ∃ A m c, e = .returned (.tuple #[.slice A m c, .int .i64 (errO (backP M n))]) ∧ Txt w' (.slice A m c) ((backP M n).getD []) ∧ Below w.heap.size w w' := by
  obtain ⟨A, c, rfl, hc, hc2⟩ := hL.is
  by_cases h1 : n < 1
  · rw [show backP M n = none by unfold backP; rw [if_pos (.inl h1)]]
    have d0 : decide (n < 1) = true := by simpa using h1
    clear hL h1
    go_enter Try.func32, Try.ntmps32
    go_wp2
    go_ret2
    exact ⟨none, 0, 0, rfl, Txt.nil _, (Below.refl _ _).alloc (Nat.le_refl _) _⟩
  · have d0 : decide (n < 1) = false := by simpa using h1
    by_cases h2 : (M.length : Int) < n
    · rw [show backP M n = none by unfold backP; rw [if_pos (.inr h2)]]
      have d1 : decide ((M.length : Int) < n) = true := by simpa using h2
      clear hL h1 h2
      go_enter Try.func32, Try.ntmps32
      go_wp2
      go_ret2
      exact ⟨none, 0, 0, rfl, Txt.nil _, (Below.refl _ _).alloc (Nat.le_refl _) _⟩
    · rw [show backP M n = some (M.getD (M.length - n.toNat) []) by unfold backP; rw [if_neg (by omega)]]
      have d1 : decide ((M.length : Int) < n) = false := by simpa using h2
      obtain ⟨i, hi⟩ : ∃ i : Nat, M.length - n.toNat = i := ⟨_, rfl⟩
      have hil : i < M.length := by omega
      have d2 : (M.length : Int) - n = (i : Int) := by omega
      have d3 : IntKind.i64.wrap ((M.length : Int) - n) = (i : Int) := by rw [d2]; exact IntWalk.i64_in _ (by omega)
      rw [hi]
      obtain ⟨b, o, A', n', c', rfl, hbl, hcell, ht⟩ := hL.at_ hil
      obtain rfl := Txt.len ht
      have HT := Lib.hid ht
      obtain ⟨x, hx⟩ : ∃ x, M.getD i [] = x := ⟨_, rfl⟩
      rw [hx] at HT hcell ⊢
      have d4 : (i : Int) < (M.length : Int) := by omega
      have d5 : (0 : Int) ≤ (i : Int) := by omega
      clear hL ht hx h1 h2 hi d2
      go_enter Try.func32, Try.ntmps32
      go_wp2
      go_ret2
      exact ⟨_, _, _, rfl, HT.out.any.later ((Below.refl _ _).alloc (Nat.le_refl _) _), (Below.refl _ _).alloc (Nat.le_refl _) _⟩

set_option maxHeartbeats 4000000 in
theorem pnumber_any (v : Value) (l : List Int) (w : World) (h : Txt w v l) (hl : l.length ≤ 100000) :
    Calls Try.prog 33 #[v] w fun e w' => e = .returned (.tuple #[.int .i64 ((numP 4 0 l).1 : Nat), .int .i64 ((numP 4 0 l).2 : Nat)]) ∧ w = w' := by
  obtain ⟨A, c, rfl, hc, hc2⟩ := Sl.is h
  have HT := Lib.hid h
  obtain ⟨R, hR⟩ : ∃ R, numP 4 0 l = R := ⟨_, rfl⟩
  have HR := Lib.hid hR
  rw [hR]
  obtain ⟨m, hm⟩ : ∃ m, min l.length 4 = m := ⟨_, rfl⟩
  have hmin : ∀ (X : World), (Builtin.min_ #[3, 3] 3 #[.int .i64 (l.length : Int), .int .i64 4]).run Try.prog X = .ok (.int .i64 (m : Nat)) X := fun X => by
    rw [run_min_int2]
    by_cases h4 : (4 : Int) < (l.length : Int)
    · rw [if_pos h4, show ((m : Nat) : Int) = 4 by omega]
    · rw [if_neg h4, show ((m : Nat) : Int) = (l.length : Int) by omega]
  have hm4 : m ≤ 4 ∧ m ≤ l.length ∧ (m = 4 ∨ m = l.length) := by omega
  clear hR hm h
  go_enter Try.func33, Try.ntmps33
  go_wp2
  go_loop [4, 5] (fun a i => ∃ j n : Nat, j ≤ m ∧ a = .int .i64 n ∧ i = .int .i64 j ∧ n ≤ 9999 ∧ Hid (numAt l j n)) (fun _ i => m - (intOf i).toNat)
  case atStart => exact ⟨0, 0, Nat.zero_le _, rfl, rfl, by omega, Lib.hid (numAt_zero l)⟩
  case round =>
    obtain ⟨j, n, hj, rfl, rfl, hn, H⟩ := hrel
    by_cases hlt : j < m
    · have hjl : j < l.length := by omega
      obtain ⟨b, o, rfl, hb, hcell⟩ := txt_at HT.out hjl
      obtain ⟨x, hx⟩ : ∃ x, l.getD j 0 = x := ⟨_, rfl⟩
      rw [hx] at hcell
      have d0 : (j : Int) < (m : Int) := by omega
      have d1 : (j : Int) < (l.length : Int) := by omega
      have d2 : (0 : Int) ≤ (j : Int) := by omega
      by_cases hd : 48 ≤ x ∧ x ≤ 57
      · obtain ⟨d, rfl⟩ : ∃ d : Nat, x = (d : Int) + 48 := ⟨(x - 48).toNat, by omega⟩
        have hd9 : d ≤ 9 := by omega
        have HN := Lib.hid (numAt_succ H.out (by omega) hjl hx hd9)
        obtain ⟨E, hE⟩ : ∃ E, n * 10 + d = E := ⟨_, rfl⟩
        rw [hE] at HN
        have hEs : E ≤ 9999 := numAt_small HN.out (by omega)
        have e1 : decide ((48 : Int) ≤ (d : Int) + 48) = true := by simp; omega
        have e2 : decide ((d : Int) + 48 ≤ 57) = true := by simp; omega
        have e3 : IntKind.i32.wrap (d : Int) = (d : Int) := IntWalk.i32_in _ (by omega)
        have e4 : IntKind.i64.wrap (d : Int) = (d : Int) := IntWalk.i64_in _ (by omega)
        have e5 : IntKind.i64.wrap ((n : Int) * 10) = (n : Int) * 10 := IntWalk.i64_in _ (by omega)
        have e6 : IntKind.i64.wrap ((n : Int) * 10 + (d : Int)) = (E : Int) := by rw [show (n : Int) * 10 + (d : Int) = (E : Int) by omega]; exact IntWalk.i64_in _ (by omega)
        clear hx hE hd
        go_wp2
        go_round
        case rel => exact ⟨j + 1, E, by omega, rfl, by go_num, hEs, HN⟩
        case measure => simp [intOf]; omega
      · obtain rfl : R = (n, j) := by rw [← HR.out]; exact numAt_end H.out (.inr (.inr (by rw [hx]; exact hd)))
        by_cases h48 : 48 ≤ x
        · have e1 : decide ((48 : Int) ≤ x) = true := by simpa using h48
          have e2 : decide (x ≤ 57) = false := by simp; omega
          clear hx hd H HR
          go_wp2
          go_ret2
          exact ⟨rfl, rfl⟩
        · have e1 : decide ((48 : Int) ≤ x) = false := by simpa using h48
          clear hx hd H HR
          go_wp2
          go_ret2
          exact ⟨rfl, rfl⟩
    · obtain rfl : R = (n, j) := by rw [← HR.out]; exact numAt_end H.out (by omega)
      have d0 : decide ((j : Int) < (m : Int)) = false := by simp; omega
      clear H HR
      go_wp2
      go_ret2
      exact ⟨rfl, rfl⟩
end Go.Proofs.Ytmhjhndnbgabjaa
