/- ansi: Itoa; numbers. -/
import Derived.Test.YtednedklkbjihaaDoorCat
import Derived.Ground.NamesProg
import Derived.Shelf.Lay
import Derived.Shelf.Strconv.Itoa4
import Derived.Lib.AppendIntMem
import Derived.IntWalk
namespace Go.Proofs
open Go.Shelf
shelf_lay LaysM.n171 Nm 171 at Tryd as YtednedklkbjihaaDoor.itoaL
end Go.Proofs
namespace Go.Proofs.YtednedklkbjihaaDoor
open Go.RowKit Go.Shelf
set_option linter.unusedVariables false
set_option linter.unusedSimpArgs false

/-- The table that Itoa reads, whatever is done from block B on. -/
abbrev TabW (B : Nat) (w : World) : Prop := Lib.TabBelow Tryd.prog B w "internal/strconv.uint64pow10" .u64 Lib.pow10Tab
/-- A number's digits. -/
def dig (n : Nat) : ByteArray := ⟨(Lib.decDigits n).toArray⟩
theorem below_grow (w : World) (k : Nat) (os : Array Obj) : Below w.heap.size w (Sort.grow (w.drewN k) os) :=
  ⟨rfl, rfl, rfl, by simp, fun i hi => Sort.heap_grow_old (w.drewN k) os hi⟩
theorem itoa_any {B : Nat} {w : World} (hT : TabW B w) (n : Nat) (hn : n ≤ 1000000) : Calls Tryd.prog 37 #[.int .i64 n] w fun e w' => e = .returned (.string (dig n)) ∧ Below w.heap.size w w' := by
  refine (Any.strconv_Itoa itoaL n (by omega) (by omega) w hT.here).mono ?_
  rintro e w' ⟨rfl, k, os, rfl⟩
  exact ⟨by rw [Lib.itoa_nonneg]; rfl, below_grow w k os⟩
/-- The number that is sent. -/
def numN (n : Int) : Nat := (min (max n 0) 9999).toNat
theorem numN_le (n : Int) : numN n ≤ 9999 := by unfold numN; omega
set_option maxHeartbeats 1000000 in
theorem number_any {B : Nat} {w : World} (hT : TabW B w) (n : Int) : Calls Tryd.prog 36 #[.int .i64 n] w fun e w' => e = .returned (.string (dig (numN n))) ∧ Below w.heap.size w w' := by
  have hl := numN_le n
  have e1 : min (max n 0) 9999 = ((numN n : Nat) : Int) := by unfold numN; omega
  have C := Lib.hid (itoa_any hT (numN n) (by omega))
  obtain ⟨N, hN⟩ : ∃ N, numN n = N := ⟨_, rfl⟩
  rw [hN] at C e1 ⊢
  clear hN hT
  go_enter Tryd.func36, Tryd.ntmps36
  go_wp2_with fail
  refine C.out.mono ?_
  rintro e w1 ⟨rfl, b1⟩
  have H1 := Lib.hid b1
  clear b1
  go_wp2_with fail
  go_ret
  exact ⟨rfl, H1.out⟩

/-! ### The document's numbers -/
def digs (n : Nat) : List UInt8 := if n = 0 then [] else Lib.decDigits n
theorem digs_step {n : Nat} (h : 0 < n) : digs n = digs (n / 10) ++ [UInt8.ofNat (48 + n % 10)] := by
  unfold digs
  rw [if_neg (by omega)]
  by_cases h1 : n < 10
  · rw [if_pos (by omega), Lib.decDigits, dif_pos h1, Nat.mod_eq_of_lt h1]; rfl
  · rw [if_neg (by omega)]
    conv => lhs; rw [Lib.decDigits, dif_neg h1]
theorem one_str (d : Nat) : strOfNums [((48 + d : Nat) : Int)] = ⟨#[UInt8.ofNat (48 + d)]⟩ := by
  show (⟨#[UInt8.ofNat ((48 + d : Nat) : Int).toNat]⟩ : ByteArray) = _
  rw [Int.toNat_natCast]
theorem conv_one (w : World) (d : Nat) (C : Array Value) (hC : C = #[.int .u8 (48 + (d : Int))]) :
    (convert 84 9 (.slice (some ⟨w.heap.size, 0, none⟩) 1 1)).run Tryd.prog (w.alloc (.cells C 5)) = .ok (.string ⟨#[UInt8.ofNat (48 + d)]⟩) (w.alloc (.cells C 5)) := by
  subst hC
  rw [← one_str]
  refine run_convert_bytes_arg (P := Tryd.prog) _ 84 5 Tryd.underlying84 Tryd.underlying5 w.heap.size 0 1 1 [((48 + d : Nat) : Int)] rfl (fun i hi => ?_) 9 Tryd.underlying9
  rw [Nat.zero_add, World.cell?_alloc_new]
  obtain rfl : i = 0 := by omega
  simp [List.getD]
theorem ba_snoc (x : UInt8) (t : List UInt8) : (⟨#[x]⟩ : ByteArray) ++ ⟨t.toArray⟩ = ⟨(x :: t).toArray⟩ := by
  apply ByteArray.ext
  simp
set_option maxRecDepth 100000 in
set_option maxHeartbeats 1000000 in
theorem digits_any (n : Int) (hn : n < 9223372036854775808) (hn0 : -9223372036854775808 ≤ n) (w : World) : Calls Tryd.prog 39 #[.int .i64 n] w fun e w' => e = .returned (.string (dig (numN n))) ∧ Below w.heap.size w w' := by
  by_cases h0 : n ≤ 0
  · have d0 : decide (n ≤ 0) = true := decide_eq_true h0
    have e : dig (numN n) = ⟨#[48]⟩ := by
      rw [show numN n = 0 by unfold numN; omega]
      unfold dig
      rw [Lib.decDigits, dif_pos (by decide)]
      rfl
    rw [e]
    go_enter Tryd.func39, Tryd.ntmps39
    go_wp2
    go_ret
    exact ⟨rfl, Below.refl _ _⟩
  · have d0 : decide (n ≤ 0) = false := decide_eq_false h0
    by_cases h1 : 9999 < n
    · have d1 : decide (9999 < n) = true := decide_eq_true h1
      have e : dig (numN n) = ⟨#[57, 57, 57, 57]⟩ := by
        rw [show numN n = 9999 by unfold numN; omega]
        decide +kernel
      rw [e]
      go_enter Tryd.func39, Tryd.ntmps39
      go_wp2
      go_ret
      exact ⟨rfl, Below.refl _ _⟩
    · have d1 : decide (9999 < n) = false := decide_eq_false h1
      obtain ⟨N, hNn⟩ : ∃ N : Nat, n = (N : Int) := ⟨n.toNat, by omega⟩
      have HNn := Lib.hid hNn
      have hN : numN n = N := by unfold numN; omega
      rw [hN]
      have hN1 : 0 < N := by omega
      have hN2 : N ≤ 9999 := by omega
      obtain ⟨T, hT⟩ : ∃ T, dig N = T := ⟨_, rfl⟩
      rw [hT]
      have HT := Lib.hid (show T = ⟨(digs N ++ []).toArray⟩ by rw [← hT]; unfold dig digs; rw [if_neg (by omega), List.append_nil])
      have HN2 := Lib.hid hN2
      clear hT hN h0 h1 hN2 hNn
      go_enter Tryd.func39, Tryd.ntmps39
      go_wp2_with fail
      go_loopw [0, 3] (fun u v wr => ∃ (k : Nat) (t : List UInt8), k ≤ N ∧ u = .int .i64 k ∧ v = .string ⟨t.toArray⟩ ∧ t.length + k ≤ N ∧ Hid (T = ⟨(digs k ++ t).toArray⟩ ∧ Below w.heap.size w wr)) (fun u _ _ => (intOf u).toNat)
      case atStart => exact ⟨N, [], Nat.le_refl _, by rw [HNn.out], rfl, by simp, HT.out, Below.refl _ _⟩
      case round =>
        obtain ⟨k, t, hk, rfl, rfl, htk, HK⟩ := hrel
        rcases Nat.eq_zero_or_pos k with h0 | hp
        · subst h0
          have HE := Lib.hid (show T = ⟨t.toArray⟩ from HK.out.1)
          go_wp2_with fail
          go_ret
          exact ⟨by rw [HE.out]; rfl, HK.out.2⟩
        · have g1 : decide ((0 : Int) < (k : Int)) = true := decide_eq_true (by omega)
          have g2 : decide (0 < k) = true := decide_eq_true (by omega)
          have K := conv_one wr (k % 10) #[.int .u8 (48 + ((k % 10 : Nat) : Int))] rfl
          have e1 : (k : Int).tmod 10 = ((k % 10 : Nat) : Int) := by rw [Int.tmod_eq_emod_of_nonneg (by omega)]; omega
          have e2 : (k : Int).tdiv 10 = ((k / 10 : Nat) : Int) := by rw [Int.tdiv_eq_ediv_of_nonneg (by omega)]; omega
          have ba := ba_snoc (UInt8.ofNat (48 + k % 10)) t
          have HR := Lib.hid (show T = ⟨(digs (k / 10) ++ (UInt8.ofNat (48 + k % 10) :: t)).toArray⟩ ∧ k / 10 ≤ N ∧ k / 10 < k by
            refine ⟨?_, by omega, by omega⟩
            have := HK.out.1
            rw [digs_step hp, List.append_assoc] at this
            exact this)
          obtain ⟨q, hq⟩ : ∃ q, k % 10 = q := ⟨_, rfl⟩
          have hq9 : q ≤ 9 := by omega
          have hkb : (k : Int) ≤ 10000 := by have := HN2.out; omega
          rw [hq] at K e1 ba HR
          obtain ⟨z, hz⟩ : ∃ z, k / 10 = z := ⟨_, rfl⟩
          rw [hz] at e2 HR
          have htl : t.length ≤ 10000 := by have := HN2.out; omega
          have hz9 : z ≤ 1000 := by have := HR.out.2.1; have := HN2.out; omega
          obtain ⟨V, hV⟩ : ∃ V, UInt8.ofNat (48 + q) = V := ⟨_, rfl⟩
          rw [hV] at K ba HR
          clear hq hz hV
          go_wp2_with fail
          go_roundw
          case rel => exact ⟨z, V :: t, HR.out.2.1, rfl, by first | rfl | rw [ba], by simp; have := HR.out.2.2; omega, HR.out.1, HK.out.2.alloc HK.out.2.size _⟩
          case measure => simp [intOf]; exact HR.out.2.2
end Go.Proofs.YtednedklkbjihaaDoor
