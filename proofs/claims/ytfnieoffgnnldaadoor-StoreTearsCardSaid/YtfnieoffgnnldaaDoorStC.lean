/- store: checks. -/
import Derived.Test.YtfnieoffgnnldaaDoorStB
import Derived.BigQuiet
import Derived.IntWalk
namespace Go.Proofs.YtfnieoffgnnldaaDoor
open Go.RowKit
set_option linter.unusedVariables false
set_option linter.unusedSimpArgs false

/-- The check of a text. -/
def chkI (bs : List Int) : Int := bs.foldl (fun n b => (n * 31 + b) % 256) 7
theorem chk_snoc (l : List Int) (b : Int) : chkI (l ++ [b]) = (chkI l * 31 + b) % 256 := by simp [chkI]
theorem chk_range (l : List Int) : 0 ≤ chkI l ∧ chkI l < 256 := by
  unfold chkI
  have : ∀ (l : List Int) (n : Int), 0 ≤ n ∧ n < 256 → 0 ≤ l.foldl (fun n b => (n * 31 + b) % 256) n ∧ l.foldl (fun n b => (n * 31 + b) % 256) n < 256 := by
    intro l
    induction l with
    | nil => intro n h; exact h
    | cons a t ih =>
      intro n h
      refine ih _ ?_
      show 0 ≤ (n * 31 + a) % 256 ∧ (n * 31 + a) % 256 < 256
      omega
  exact this l 7 (by omega)
def hexT : ByteArray := ⟨#[48, 49, 50, 51, 52, 53, 54, 55, 56, 57, 97, 98, 99, 100, 101, 102]⟩
def digI (n : Int) : Int := if n < 10 then 48 + n else 87 + n
def hx2 (n : Int) : List Int := [digI (n / 16), digI (n % 16)]
theorem hex_fin : ∀ n : Fin 16, ((hexT[n.val]'n.isLt).toNat : Int) = digI (n.val : Int) := by decide +kernel
theorem hex_at {n : Nat} (h : n < hexT.size) : ((hexT[n]'h).toNat : Int) = digI (n : Int) := hex_fin ⟨n, h⟩
theorem hex_cut : ∀ n : Fin 16, hexT.extract n.val (n.val + 1) = strOfNums [digI (n.val : Int)] := by decide +kernel
theorem hex_cut' {n : Nat} (h : n < 16) : hexT.extract n (n + 1) = strOfNums [digI (n : Int)] := hex_cut ⟨n, h⟩
theorem and_fin : ∀ n : Fin 256, bits .and .u8 (n.val : Int) 15 = (n.val : Int) % 16 := by decide +kernel
theorem and_is {n : Nat} (h : n < 256) : bits .and .u8 (n : Int) 15 = (n : Int) % 16 := and_fin ⟨n, h⟩
theorem digI_range {n : Int} (h0 : 0 ≤ n) (h1 : n < 16) : 0 ≤ digI n ∧ digI n ≤ 255 := by unfold digI; split <;> omega
theorem byte_lt (b : UInt8) : b.toNat < 256 := b.toNat_lt
theorem conv_two (w : World) (a b : Int) :
    (convert 47 9 (.slice (some ⟨w.heap.size, 0, none⟩) 2 2)).run Tryd.prog (w.alloc (.cells #[.int .u8 a, .int .u8 b] 5)) = .ok (.string (strOfNums [a, b])) (w.alloc (.cells #[.int .u8 a, .int .u8 b] 5)) := by
  refine run_convert_bytes_arg (P := Tryd.prog) _ 47 5 Tryd.underlying47 Tryd.underlying5 w.heap.size 0 2 2 [a, b] rfl (fun i hi => ?_) 9 Tryd.underlying9
  rw [Nat.zero_add, World.cell?_alloc_new]
  match i, hi with
  | 0, _ => rfl
  | 1, _ => rfl
theorem conv_two' (w : World) (a b : Int) :
    (convert 47 9 (.slice (some ⟨w.heap.size, 0, none⟩) 2 2)).run Tryd.prog (w.alloc (.cells #[.int .u8 a, .int .u8 b] 5)).drew = .ok (.string (strOfNums [a, b])) (w.alloc (.cells #[.int .u8 a, .int .u8 b] 5)).drew := by
  refine run_convert_bytes_arg (P := Tryd.prog) _ 47 5 Tryd.underlying47 Tryd.underlying5 w.heap.size 0 2 2 [a, b] rfl (fun i hi => ?_) 9 Tryd.underlying9
  show (w.alloc (.cells #[.int .u8 a, .int .u8 b] 5)).cell? _ = _
  rw [Nat.zero_add, World.cell?_alloc_new]
  match i, hi with
  | 0, _ => rfl
  | 1, _ => rfl
set_option maxHeartbeats 2000000 in
theorem check_any (s : ByteArray) (hs : s.size ≤ 100000000) (w : World) : Calls Tryd.prog 29 #[.string s] w fun e w' => e = .returned (.string (strOfNums (hx2 (chkI (bts s))))) ∧ Below w.heap.size w w' := by
  go_enter Tryd.func29, Tryd.ntmps29
  go_wp2_with fail
  go_loopw [3, 7] (fun v i wr => ∃ (k : Nat) (n : Nat), k ≤ s.size ∧ i = .int .i64 (k : Nat) ∧ v = .int .u8 (n : Nat) ∧ n < 256 ∧ Hid (chkI ((bts s).take k) = (n : Int)) ∧ w = wr) (fun _ i _ => s.size - (intOf i).toNat)
  case atStart => exact ⟨0, 7, Nat.zero_le _, rfl, rfl, by omega, Lib.hid rfl, rfl⟩
  case round =>
    obtain ⟨k, n, hk, rfl, rfl, hn, HC, rfl⟩ := hrel
    by_cases hlt : k < s.size
    · have hki : (k : Int) < (s.size : Int) := by omega
      have hk0 : (0 : Int) ≤ (k : Int) := by omega
      have hb := byte_lt (s[k]'hlt)
      obtain ⟨b, hbe⟩ : ∃ b, (s[k]'hlt).toNat = b := ⟨_, rfl⟩
      have HS := Lib.hid (show chkI ((bts s).take (k + 1)) = (((n * 31 + b) % 256 : Nat) : Int) by
        rw [bts_take_succ s k hlt, chk_snoc, HC.out, hbe]
        omega)
      have e1 : ((n : Int) * 31 % 256 + (b : Int)) % 256 = (((n * 31 + b) % 256 : Nat) : Int) := by omega
      rw [hbe] at hb
      go_wp2_with fail
      go_roundw
      case rel => exact ⟨k + 1, (n * 31 + b) % 256, by omega, by go_num, by first | rfl | (congr 1) | (simp only [← e1]), by omega, HS, trivial⟩
      case measure => simp [intOf]; omega
    · obtain rfl : k = s.size := by omega
      have hd : decide ((s.size : Int) < (s.size : Int)) = false := by simp
      have HE := Lib.hid (show chkI (bts s) = (n : Int) by rw [← HC.out, List.take_of_length_le (by rw [bts_length]; exact Nat.le_refl _)])
      have hd0 : (0 : Int) ≤ (n : Int) / 16 := by omega
      have hd1 : (n : Int) / 16 < 16 := by omega
      have hd2 : (0 : Int) ≤ (n : Int) % 16 := by omega
      have hd3 : (n : Int) % 16 < 16 := by omega
      have hb := and_is hn
      have K1 := conv_two' w
      have K2 := conv_two w
      go_wp2_with fail
      go_region
      go_wp2_with fail
      go_ret
      refine ⟨?_, ?_⟩
      · rw [HE.out]
        have h1 := hex_at (n := n / 16) (by show _ < 16; omega)
        have h2 := hex_at (n := n % 16) (by show _ < 16; omega)
        have h3 : hx2 (n : Int) = [((hexT[n / 16]'(by show _ < 16; omega)).toNat : Int), ((hexT[n % 16]'(by show _ < 16; omega)).toNat : Int)] := by
          rw [h1, h2]
          rfl
        rw [h3]
        rfl
      · have hb := (Below.refl w.heap.size w).alloc (Nat.le_refl _) (.cells #[.int .u8 ((hexT[n / 16]'(by show _ < 16; omega)).toNat : Int), .int .u8 ((hexT[n % 16]'(by show _ < 16; omega)).toNat : Int)] 5)
        exact hb.drew
end Go.Proofs.YtfnieoffgnnldaaDoor
