/- trie: the document's blocks. -/
import Derived.Test.YtpbdamjpjpchiaaTrIn
namespace Go.Proofs.Ytpbdamjpjpchiaa
open Go.RowKit Go.Maps
set_option linter.unusedVariables false
set_option linter.unusedSimpArgs false

theorem bk_whole (g : Int → Int) {n a i : Nat} (ha : a < n) (hi : i < 128) : (bk g (128 * n) a)[i]? = some (g ((128 * a + i : Nat) : Int)) := by
  unfold bk blk
  rw [List.getElem?_map, List.getElem?_range hi]
  simp only [Option.map_some, bval]
  congr 2
  omega
theorem bk_len (g : Int → Int) (m a : Nat) : (bk g m a).length = 128 := by simp [bk, blk]
theorem bk_eq_iff (g : Int → Int) {n a b : Nat} (ha : a < n) (hb : b < n) : bk g (128 * n) a = bk g (128 * n) b ↔ ∀ i, i < 128 → g ((128 * a + i : Nat) : Int) = g ((128 * b + i : Nat) : Int) := by
  constructor
  · intro h i hi
    have h1 := bk_whole g ha hi
    rw [h, bk_whole g hb hi] at h1
    exact (Option.some.inj h1).symm
  · intro h
    apply List.ext_getElem?
    intro i
    by_cases hi : i < 128
    · rw [bk_whole g ha hi, bk_whole g hb hi, h i hi]
    · rw [List.getElem?_eq_none (by rw [bk_len]; omega), List.getElem?_eq_none (by rw [bk_len]; omega)]

set_option maxHeartbeats 8000000 in
set_option maxRecDepth 100000 in
theorem same_any (A : Option Addr) (c : Nat) (L : List (Pc Int)) (z : Int) (n a b : Nat) (W : World) (hL : Li 3 encP W (fun _ => True) A L) (hn : L.length ≤ 100000) (hn2 : n ≤ 7) (ha : a < n) (hb : b < n) :
    Calls Try.prog 26 #[.slice A L.length c, .int .i64 z, .int .i64 ((128 * n : Nat) : Int), .int .i64 (a : Nat), .int .i64 (b : Nat)] W (fun e w' => e = .returned (.bool (decide (bk (pval L z) (128 * n) a = bk (pval L z) (128 * n) b))) ∧ Below W.heap.size W w') := by
  have HL := Lib.hid hL
  have HE := Lib.hid (bk_eq_iff (pval L z) ha hb)
  obtain ⟨N, hN⟩ : ∃ N, 128 * n = N := ⟨_, rfl⟩
  rw [hN] at HE ⊢
  have H0 := Lib.hid (And.intro hL (Below.refl W.heap.size W))
  have a1 : IntKind.i64.wrap (128 * ((a : Nat) : Int)) = 128 * ((a : Nat) : Int) := IntWalk.i64_in _ (by omega)
  have b1 : IntKind.i64.wrap (128 * ((b : Nat) : Int)) = 128 * ((b : Nat) : Int) := IntWalk.i64_in _ (by omega)
  clear hL
  go_enter Try.func26, Try.ntmps26
  go_wp2
  go_loopw [11] (fun v wr => ∃ k : Nat, k ≤ 128 ∧ v = .int .i64 k ∧ Hid (Li 3 encP wr (fun _ => True) A L ∧ Below W.heap.size W wr) ∧ Hid (∀ i, i < k → pval L z ((128 * a + i : Nat) : Int) = pval L z ((128 * b + i : Nat) : Int))) (fun v _ => 128 - (intOf v).toNat)
  case atStart => exact ⟨0, by omega, rfl, H0, Lib.hid fun i hi => by omega⟩
  case round =>
    obtain ⟨k, hk, rfl, HW, HK⟩ := hrel
    by_cases hlt : k < 128
    · have d1 : decide (((k : Nat) : Int) < 128) = true := decide_eq_true (by omega)
      have a2 : IntKind.i64.wrap (128 * ((a : Nat) : Int) + ((k : Nat) : Int)) = 128 * ((a : Nat) : Int) + ((k : Nat) : Int) := IntWalk.i64_in _ (by omega)
      have b2 : IntKind.i64.wrap (128 * ((b : Nat) : Int) + ((k : Nat) : Int)) = 128 * ((b : Nat) : Int) + ((k : Nat) : Int) := IntWalk.i64_in _ (by omega)
      have d2 : decide (128 * ((a : Nat) : Int) + ((k : Nat) : Int) < ((N : Nat) : Int)) = true := decide_eq_true (by omega)
      have d3 : decide (128 * ((b : Nat) : Int) + ((k : Nat) : Int) < ((N : Nat) : Int)) = true := decide_eq_true (by omega)
      have C := Lib.hid (refget_any A c L z (128 * ((a : Nat) : Int) + ((k : Nat) : Int)) wr HW.out.1 hn)
      go_wp2_with fail
      (with_reducible refine C.out.mono ?_)
      rintro e w1 ⟨rfl, h1⟩
      have HW1 := Lib.hid (And.intro (HW.out.1.later h1) (HW.out.2.trans (h1.mono HW.out.2.size)))
      clear h1 C HW
      have C := Lib.hid (refget_any A c L z (128 * ((b : Nat) : Int) + ((k : Nat) : Int)) w1 HW1.out.1 hn)
      go_wp2_with fail
      (with_reducible refine C.out.mono ?_)
      rintro e w2 ⟨rfl, h1⟩
      have HW2 := Lib.hid (And.intro (HW1.out.1.later h1) (HW1.out.2.trans (h1.mono HW1.out.2.size)))
      clear h1 C HW1
      have HC := Lib.hid (show ((128 * a + k : Nat) : Int) = 128 * ((a : Nat) : Int) + ((k : Nat) : Int) ∧ ((128 * b + k : Nat) : Int) = 128 * ((b : Nat) : Int) + ((k : Nat) : Int) from ⟨by omega, by omega⟩)
      obtain ⟨x, hx⟩ : ∃ x, pval L z (128 * ((a : Nat) : Int) + ((k : Nat) : Int)) = x := ⟨_, rfl⟩
      obtain ⟨y, hy⟩ : ∃ y, pval L z (128 * ((b : Nat) : Int) + ((k : Nat) : Int)) = y := ⟨_, rfl⟩
      rw [hx, hy]
      by_cases hxy : x = y
      · have HN := Lib.hid (show ∀ i, i < k + 1 → pval L z ((128 * a + i : Nat) : Int) = pval L z ((128 * b + i : Nat) : Int) from fun i hi => by
          rcases Nat.lt_or_ge i k with h | h
          · exact HK.out i h
          · obtain rfl : i = k := by omega
            rw [HC.out.1, HC.out.2, hx, hy, hxy])
        subst hxy
        clear hx hy HK
        go_wp2
        go_roundw
        case rel => exact ⟨k + 1, by omega, by go_num, HW2, HN⟩
        case measure => simp [intOf]; omega
      · have e1 : (x != y) = true := by simpa using hxy
        have HD := Lib.hid (show decide (bk (pval L z) N a = bk (pval L z) N b) = false from decide_eq_false fun h => by
          have := HE.out.1 h k hlt
          rw [HC.out.1, HC.out.2, hx, hy] at this
          exact hxy this)
        clear hx hy HK hxy
        go_wp2
        go_ret
        exact ⟨congrArg (fun v => Ending.returned (.bool v)) HD.out.symm, HW2.out.2⟩
    · obtain rfl : k = 128 := by omega
      have HD := Lib.hid (show decide (bk (pval L z) N a = bk (pval L z) N b) = true from decide_eq_true (HE.out.2 HK.out))
      go_wp2
      go_ret
      exact ⟨congrArg (fun v => Ending.returned (.bool v)) HD.out.symm, HW.out.2⟩
end Go.Proofs.Ytpbdamjpjpchiaa
