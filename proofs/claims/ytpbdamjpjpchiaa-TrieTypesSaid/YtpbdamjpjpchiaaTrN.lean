/- trie: the iterator over numbers. -/
import Derived.Test.YtpbdamjpjpchiaaTrL
import Derived.Test.YtpbdamjpjpchiaaBoxP
import Derived.RangeFuncBox
import Derived.Shelf.Abstract
import Derived.Shelf.RegionOpen
import Derived.OwnWalkIn
import Derived.TacticsInMore
import Derived.LoopNIn
import Derived.LoopIn
import Derived.IntWalk
namespace Go.Proofs.Ytpbdamjpjpchiaa
open Go.RowKit
set_option linter.unusedVariables false
set_option linter.unusedSimpArgs false
attribute [local go_sem] Oper.semAt_some

/-- The number of a round. -/
abbrev encNum (a : Int) (k : Nat) : Array Value := #[.int .i64 (a + k)]
/-- The rounds come in their order. -/
def upTo (N : Nat) (pre : List Nat) (x : Nat) : Prop := pre = List.range x ∧ x < N
/-- The iterator's two boxes. -/
def two (b1 b2 : Nat) (k : Nat) : Prop := k = b1 ∨ k = b2

/-- What holds at the head of the iterator's round. -/
structure NuI (J : List Nat → (Nat → Prop) → World → Prop) (b1 b2 : Nat) (a : Int) (N : Nat) (k : Nat) (O : Nat → Prop) (X : World) : Prop where
  j : J (List.range k) O X
  o : ∀ i, O i → i < X.heap.size ∧ ¬ two b1 b2 i
  lt1 : b1 < X.heap.size
  lt2 : b2 < X.heap.size
  c1 : X.cell? ⟨b1, 0, none⟩ = some (.int .i64 a)
  c2 : X.cell? ⟨b2, 0, none⟩ = some (.int .i64 (a + N))
theorem NuI.back {J : List Nat → (Nat → Prop) → World → Prop} {b1 b2 : Nat} {a : Int} {N k : Nat} {O O' : Nat → Prop} {X Y : World} (h : NuI J b1 b2 a N k O X) (hj : J (List.range (k + 1)) O' Y) (hk : KeepO O O' X Y) : NuI J b1 b2 a N (k + 1) O' Y := by
  have n1 : ¬ O b1 := fun e => (h.o _ e).2 (.inl rfl)
  have n2 : ¬ O b2 := fun e => (h.o _ e).2 (.inr rfl)
  refine ⟨hj, fun i hi => ⟨hk.lt i hi, ?_⟩, Nat.lt_of_lt_of_le h.lt1 hk.size, Nat.lt_of_lt_of_le h.lt2 hk.size, (World.cell?_of_block (a := ⟨b1, 0, none⟩) (hk.old _ h.lt1 n1)).trans h.c1, (World.cell?_of_block (a := ⟨b2, 0, none⟩) (hk.old _ h.lt2 n2)).trans h.c2⟩
  rcases hk.new i hi with h' | h'
  · exact (h.o i h').2
  · rintro (rfl | rfl)
    · have := h.lt1; omega
    · have := h.lt2; omega

set_option maxRecDepth 100000 in
set_option maxHeartbeats 4000000 in
theorem numbers1_in (F : Fence) (n : Nat) (hF : F.fn 33) (hro : F.round = none) (hn : 1 ≤ n) (l b1 b2 : Nat) (a : Int) (N : Nat) (ha : -9000000000000000000 ≤ a) (hN : a + N ≤ 9000000000000000000)
    (J : List Nat → (Nat → Prop) → World → Prop) (O : Nat → Prop) (W : World) (h0 : NuI J b1 b2 a N 0 O W)
    (hY : ∀ (pre : List Nat) (O : Nat → Prop) (x : Nat) (W1 : World), J pre O W1 → (∀ k, O k → k < W1.heap.size) → upTo N pre x → YieldAt F (n - 1) Try.prog l (encNum a x) W1 fun e W' =>
      e = .returned (.bool true) ∧ ∃ O', J (pre ++ [x]) O' W' ∧ KeepO O O' W1 W') :
    CallsIn F n Try.prog 33 #[.func (.yield l) #[] #[], .pointer (some ⟨b1, 0, none⟩), .pointer (some ⟨b2, 0, none⟩)] W fun e W' => (∃ v, e = .returned v) ∧ ∃ O', J (List.range N) O' W' := by
  refine callsIn_of_wp Try.func33 rfl hF ?_ hro
  simp only [Try.ntmps33, List.size_toArray, List.length_cons, List.length_nil, Nat.reduceAdd, Nat.reduceSub, Array.replicate_succ, Array.replicate_zero, List.push_toArray, List.append_toArray, List.nil_append, List.cons_append]
  have H0 := Lib.hid h0
  obtain ⟨_, _, l1, l2, c1, c2⟩ := h0
  gi_wp2
  gi_loopw [4] (fun i wr => ∃ (k : Nat) (O : Nat → Prop), k ≤ N ∧ i = .int .i64 (a + (k : Int)) ∧ Hid (NuI J b1 b2 a N k O wr)) (fun i _ => (a + N - intOf i).toNat)
  case atStart => exact ⟨0, O, Nat.zero_le _, by simp, H0.out⟩
  case round =>
    obtain ⟨k, O, hk, rfl, HI⟩ := hrel
    have g1 := HI.out.lt1
    have g2 := HI.out.lt2
    have e1 := HI.out.c1
    have e2 := HI.out.c2
    by_cases hlt : k < N
    · have d1 : decide (a + (k : Int) < a + (N : Int)) = true := decide_eq_true (by omega)
      have v1 : IntKind.i64.wrap (a + (k : Int) + 1) = a + (k : Int) + 1 := IntWalk.i64_in _ (by omega)
      obtain ⟨fn, tmps, assign, body, hy, hR⟩ := hY (List.range k) O k wr HI.out.j (fun i hi => (HI.out.o i hi).1) ⟨rfl, hlt⟩
      simp only [encNum] at hy
      gi_wp2
      refine hR.mono ?_
      rintro e W3 ⟨rfl, O', hJ3, hK3⟩
      rw [← List.range_succ] at hJ3
      have HB := Lib.hid (HI.out.back hJ3 hK3)
      clear hJ3 hK3 hR hy
      gi_wp2
      go_roundw
      case rel => exact ⟨k + 1, O', by omega, by congr 1; omega, HB.out⟩
      case measure => simp [intOf]; omega
    · obtain rfl : k = N := by omega
      have d1 : decide (a + (k : Int) < a + (k : Int)) = false := decide_eq_false (by omega)
      gi_wp2
      go_end0
      exact ⟨⟨_, rfl⟩, _, HI.out.j⟩

/-- What numbers hands back: the numbers from one on. -/
theorem numbers_seq (F : Fence) (n : Nat) (hF : F.fn 33) (hro : F.round = none) (hn : 1 ≤ n) (b1 b2 : Nat) (a : Int) (N : Nat) (ha : -9000000000000000000 ≤ a) (hN : a + N ≤ 9000000000000000000)
    (w : World) (h1 : b1 < w.heap.size) (h2 : b2 < w.heap.size) (c1 : w.cell? ⟨b1, 0, none⟩ = some (.int .i64 a)) (c2 : w.cell? ⟨b2, 0, none⟩ = some (.int .i64 (a + N))) :
    SeqOwn F n Try.prog 33 #[.pointer (some ⟨b1, 0, none⟩), .pointer (some ⟨b2, 0, none⟩)] (encNum a) (two b1 b2) (fun xs => xs = List.range N) (upTo N) w := by
  intro l J O W hW hO hJ hY hI
  refine (numbers1_in F n hF hro hn l b1 b2 a N ha hN J O W ⟨hI, fun i hi => ⟨Nat.lt_of_lt_of_le (hO i hi).1 hW.size, (hO i hi).2⟩, Nat.lt_of_lt_of_le h1 hW.size, Nat.lt_of_lt_of_le h2 hW.size, (hW.cell (p := ⟨b1, 0, none⟩) h1).trans c1, (hW.cell (p := ⟨b2, 0, none⟩) h2).trans c2⟩ hY).mono ?_
  rintro e W' ⟨he, O', hj⟩
  exact ⟨he, _, O', rfl, hj⟩

set_option maxHeartbeats 1000000 in
theorem numbers_in (F : Fence) (n : Nat) (h5 : F.fn 22) (hro : F.round = none) (a b : Int) (w : World) :
    CallsIn F n Try.prog 22 #[.int .i64 a, .int .i64 b] w fun e w' => e = .returned (.func (.func 33) #[] #[.pointer (some ⟨w.heap.size, 0, none⟩), .pointer (some ⟨w.heap.size + 1, 0, none⟩)]) ∧ w' = (w.alloc (.cells #[.int .i64 a] 3)).alloc (.cells #[.int .i64 b] 3) := by
  refine callsIn_of_wp Try.func22 rfl h5 ?_ hro
  simp only [Try.ntmps22, List.size_toArray, List.length_cons, List.length_nil, Nat.reduceAdd, Nat.reduceSub, Array.replicate_succ, Array.replicate_zero, List.push_toArray, List.append_toArray, List.nil_append, List.cons_append]
  gi_wp2
  go_ret
  exact ⟨by simp, rfl⟩
end Go.Proofs.Ytpbdamjpjpchiaa
