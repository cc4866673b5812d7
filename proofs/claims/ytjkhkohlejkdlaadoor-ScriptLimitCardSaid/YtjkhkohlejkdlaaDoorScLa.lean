/- script: the limit: pure. -/
import Derived.Test.YtjkhkohlejkdlaaDoorScPh
import Derived.Test.YtjkhkohlejkdlaaDoorScTo
import Derived.Laws.IdiomStrings
import Derived.OwnWalk
namespace Go.Proofs.YtjkhkohlejkdlaaDoor
open Go.RowKit
set_option linter.unusedVariables false
set_option linter.unusedSimpArgs false

def low3 (z : Int) : Nat := (BitVec.ofInt 64 z &&& BitVec.ofInt 64 3).toNat
theorem low3_le (z : Int) : low3 z ≤ 3 := by
  unfold low3
  rw [BitVec.toNat_and]
  exact Nat.le_trans Nat.and_le_right (by decide)
theorem low3_bits (z : Int) : bits .and .i64 z 3 = (low3 z : Int) := by
  have h := low3_le z
  show IntKind.i64.wrap ((BitVec.ofInt 64 z &&& BitVec.ofInt 64 3).toNat : Int) = _
  exact IntWalk.i64_in _ (by unfold low3 at h; omega)

def zE : Evt := ⟨1, 0, 0, 0⟩
/-- So many zero bytes, two digits each. -/
def zL (k : Nat) : List UInt8 := hxL (List.replicate k zE)
theorem zL_succ (k : Nat) : zL (k + 1) = zL k ++ [48, 48] := by
  unfold zL
  rw [List.replicate_succ', hxL_snoc]
  rfl
theorem zL_len (k : Nat) : (zL k).length = 2 * k := by unfold zL; rw [hx_len, List.length_replicate]
def lnB : List UInt8 := bytesT ++ zL 32
theorem line_B : lineE lnB = some (List.replicate 32 zE) := by
  have h := line_bytes (l := List.replicate 32 zE) (by decide) (by simp) (fun x hx => by
    obtain ⟨-, rfl⟩ := List.mem_replicate.1 hx
    exact ⟨rfl, ⟨by decide, by decide⟩⟩)
  have e : (List.replicate 32 zE).map bareE = List.replicate 32 zE := by rw [List.map_replicate]; rfl
  rw [e] at h
  exact h
/-- So many lines. -/
def rp (k : Nat) : List UInt8 := (List.replicate k (lnB ++ [10])).flatten
theorem rp_add (a b : Nat) : rp (a + b) = rp a ++ rp b := by unfold rp; rw [← List.replicate_append_replicate, List.flatten_append]
theorem rp_one : rp 1 = lnB ++ [10] := by unfold rp; simp
theorem lnB_len : lnB.length = 70 := by unfold lnB; rw [List.length_append, zL_len]; rfl
theorem rp_len (k : Nat) : (rp k).length = 71 * k := by
  unfold rp
  rw [List.length_flatten, List.map_replicate, List.sum_replicate_nat]
  simp [lnB_len]
  omega
theorem nl_zL (k : Nat) : noNl (zL k) := by
  induction k with
  | zero => intro c hc; cases hc
  | succ k ih =>
    rw [zL_succ]
    intro c hc
    rcases List.mem_append.1 hc with hc | hc
    · exact ih c hc
    · exact (show noNl [48, 48] by unfold noNl; decide) c hc
theorem nl_lnB : noNl lnB := by
  intro c hc
  rcases List.mem_append.1 hc with hc | hc
  · exact nl_bytes c hc
  · exact nl_zL 32 c hc
theorem lines_rp : ∀ (k : Nat) (s : List UInt8), linesL [] (rp k ++ s) = List.replicate k lnB ++ linesL [] s
  | 0, s => rfl
  | k + 1, s => by
    have e : rp (k + 1) ++ s = lnB ++ 10 :: (rp k ++ s) := by rw [Nat.add_comm, rp_add, rp_one]; simp
    rw [e, lines_line nl_lnB, lines_rp k s]
    rfl
theorem parse_rp : ∀ (k m i : Nat) (t : List (List UInt8)), m + 32 * k ≤ 65536 → parseL (List.replicate m zE) i (List.replicate k lnB ++ t) = parseL (List.replicate (m + 32 * k) zE) (i + k) t
  | 0, m, i, t, _ => rfl
  | k + 1, m, i, t, h => by
    show parseL _ i (lnB :: (List.replicate k lnB ++ t)) = _
    rw [parse_one line_B (by simp; omega), List.replicate_append_replicate, parse_rp k (m + 32) (i + 1) t (by omega)]
    congr 1
    · congr 1; omega
    · omega
def tks (k : Nat) : List UInt8 := (List.replicate k (tickT ++ [10])).flatten
theorem tks_snoc (k : Nat) : tks (k + 1) = tks k ++ (tickT ++ [10]) := by unfold tks; rw [List.replicate_succ']; simp
theorem tks_cons (k : Nat) : tks (k + 1) = tickT ++ 10 :: tks k := by unfold tks; rw [List.replicate_succ]; simp
theorem tks_len (k : Nat) : (tks k).length = 5 * k := by
  unfold tks
  rw [List.length_flatten, List.map_replicate, List.sum_replicate_nat]
  show k * 5 = _
  omega
theorem limit_none : parseP (rp 2048 ++ tks 0) = (List.replicate 65536 zE, 0, 0) := by
  unfold parseP
  rw [if_neg (by rw [List.length_append, rp_len, tks_len]; omega), lines_rp]
  have := parse_rp 2048 0 0 (linesL [] (tks 0)) (by omega)
  rw [show (List.replicate 0 zE) = [] from rfl] at this
  rw [this]
  rfl
theorem tks_head (k : Nat) : ∃ s, linesL [] (tks (k + 1)) = tickT :: s := ⟨linesL [] (tks k), by rw [tks_cons, lines_line nl_tick]⟩
theorem limit_some (k : Nat) (hk : k ≤ 3) (h0 : 0 < k) : parseP (rp 2048 ++ tks k) = ([], 2049, 7) := by
  obtain ⟨j, rfl⟩ : ∃ j, k = j + 1 := ⟨k - 1, by omega⟩
  obtain ⟨s, hs⟩ := tks_head j
  unfold parseP
  rw [if_neg (by rw [List.length_append, rp_len, tks_len]; omega), lines_rp, hs]
  have := parse_rp 2048 0 0 (tickT :: s) (by omega)
  rw [show (List.replicate 0 zE) = [] from rfl] at this
  rw [this, parse_full line_tick (by rw [List.length_replicate]; show 65536 < 0 + 32 * 2048 + 1; omega)]
theorem limit_print : ∃ s, printS (List.replicate 65536 zE) = (s, 0) := by
  obtain ⟨s, hs⟩ := printL_all (List.replicate 65536 zE) 0 (fun x hx => by
    obtain ⟨-, rfl⟩ := List.mem_replicate.1 hx
    rfl)
  exact ⟨s, by rw [printS_short (by rw [List.length_replicate]; omega), hs]; rfl⟩
theorem limit_byt (n : Nat) : ∀ x ∈ List.replicate n zE ++ [⟨2, 0, 0, 0⟩], Byt x := by
  intro x hx
  rcases List.mem_append.1 hx with hx | hx
  · obtain ⟨-, rfl⟩ := List.mem_replicate.1 hx
    exact ⟨by decide, by decide⟩
  · obtain rfl := List.mem_singleton.1 hx
    exact ⟨by decide, by decide⟩
theorem limit_over : printS (List.replicate 65536 zE ++ [⟨2, 0, 0, 0⟩]) = ([], 7) := by
  unfold printS
  rw [if_pos (by rw [List.length_append, List.length_replicate]; show 65536 < 65536 + 1; omega)]
end Go.Proofs.YtjkhkohlejkdlaaDoor
