/- utf: the document's Encode. -/
import Derived.Test.YtpfldppoebgfgaaUtfPc
namespace Go.Proofs.Ytpfldppoebgfgaa
open Go.RowKit
set_option linter.unusedVariables false
set_option linter.unusedSimpArgs false

/-- The first k. -/
def upTo (p : Nat → Int) (k : Nat) : List Int := (List.range k).map p
theorem upTo_succ (p : Nat → Int) (k : Nat) : upTo p (k + 1) = upTo p k ++ [p k] := by simp [upTo, List.range_succ]
theorem enc_succ (p : Nat → Int) (k : Nat) : encI (upTo p (k + 1)) = encI (upTo p k) ++ putS (p k) := by
  rw [upTo_succ, encI_append]; simp [encI]
theorem upTo_len (p : Nat → Int) (k : Nat) : (upTo p k).length = k := by simp [upTo]
theorem str_append (a b : List Int) : strOfNums a ++ strOfNums b = strOfNums (a ++ b) := by
  apply ByteArray.ext
  simp [strOfNums]

/-- The text that is told, and what it is told in. -/
def TellsS (l : List Int) (w : World) (e : Ending) (w' : World) : Prop := e = .returned (.string (strOfNums l)) ∧ Below w.heap.size w w'

set_option maxHeartbeats 1000000 in
theorem renc_any (A : Option Addr) (n c : Nat) (p : Nat → Int) (w : World) (hn : n ≤ 1000000) (hA : Rd w A n (iv p)) (hp : ∀ j, j < n → -2147483648 ≤ p j ∧ p j ≤ 2147483647) :
    Calls Try.prog 23 #[.slice A n c] w (TellsS (encI (upTo p n)) w) := by
  have HA := Lib.hid hA
  have HP := Lib.hid hp
  clear hA hp
  go_enter Try.func23, Try.ntmps23
  go_wp2
  go_loopw [3, 4] (fun s i wr => ∃ k : Nat, k ≤ n ∧ i = .int .i64 k ∧ s = .string (strOfNums (encI (upTo p k))) ∧ Below w.heap.size w wr) (fun _ i _ => n - (intOf i).toNat)
  case atStart => exact ⟨0, Nat.zero_le _, rfl, rfl, Below.refl _ _⟩
  case round =>
    obtain ⟨k, hk, rfl, rfl, hb⟩ := hrel
    by_cases hlt : k < n
    · obtain ⟨b, o, rfl, hbl, hc⟩ := HA.out.later hb k hlt
      unfold iv at hc
      have hrng := HP.out k hlt
      have h0 := hrng.1
      have h1 := hrng.2
      have hl1 := encI_len (upTo p k)
      rw [upTo_len] at hl1
      have hl2 := (putS_range (p k)).2.2
      have HL := Lib.hid (fun wx => run_string_add_sum (P := Try.prog) wx (strOfNums (encI (upTo p k))) (strOfNums (putS (p k))) (by rw [strOfNums_size, strOfNums_size]; omega))
      have HB := Lib.hid hb
      clear hrng hl1 hl2 hb
      go_wp2_with (go_at_call 18; refine (rput_any _ _ h0 h1).mono ?_; rintro e w1 ⟨rfl, hb1⟩; have hs := HL.out w1)
      go_roundw
      case rel => exact ⟨k + 1, by omega, by go_num, by rw [str_append, ← enc_succ], HB.out.trans (hb1.mono HB.out.size)⟩
      case measure => simp [intOf]; omega
    · obtain rfl : k = n := by omega
      go_wp2
      go_ret
      exact ⟨rfl, hb⟩
end Go.Proofs.Ytpfldppoebgfgaa
