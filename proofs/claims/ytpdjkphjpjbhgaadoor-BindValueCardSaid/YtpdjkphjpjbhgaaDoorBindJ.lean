/- bind: what is usual, by the document. -/
import Derived.Test.YtpdjkphjpjbhgaaDoorBindI
namespace Go.Proofs.YtpdjkphjpjbhgaaDoor
open Go.RowKit Go.Maps
set_option linter.unusedVariables false
set_option linter.unusedSimpArgs false

/-- Pairs in memory. -/
def PairRd (w : World) (A : Option Addr) (L : List (Int × Int)) : Prop :=
  ∀ j, j < L.length → ∃ b o, A = some ⟨b, o, none⟩ ∧ w.cell? ⟨b, o + j * 2, none⟩ = some (.int .i64 (L.getD j (0, 0)).1) ∧ w.cell? ⟨b, o + j * 2 + 1, none⟩ = some (.int .i64 (L.getD j (0, 0)).2)
theorem rowL_drop : ∀ (L : List (Int × Int)) (n : Int) (i : Nat), i < L.length → rowL (L.drop i) n = if (L.getD i (0, 0)).1 = n then (L.getD i (0, 0)).2 else rowL (L.drop (i + 1)) n := by
  intro L n i hi
  rw [List.drop_eq_getElem_cons hi]
  simp only [rowL, List.getD, List.getElem?_eq_getElem hi, Option.getD_some]

set_option maxHeartbeats 4000000 in
theorem row_any (A : Option Addr) (N c : Nat) (L : List (Int × Int)) (w : World) (hN : L.length = N) (hr : PairRd w A L) (n : Int) (hL : N ≤ 100) :
    Calls Tryd.prog 19 #[.slice A N c, .int .i64 n] w (Tells w (rowL L n)) := by
  subst hN
  have HR := Lib.hid hr
  clear hr
  go_enter Tryd.func19, Tryd.ntmps19
  go_wp2
  go_loopw [5] (fun i wr => ∃ k : Nat, k ≤ L.length ∧ i = .int .i64 k ∧ Hid (rowL (L.drop k) n = rowL L n) ∧ Hid (Below w.heap.size w wr)) (fun i _ => L.length - (match i with | .int _ z => z.toNat | _ => 0))
  case atStart => exact ⟨0, Nat.zero_le _, rfl, Lib.hid rfl, Lib.hid (Below.refl _ _)⟩
  case round =>
    obtain ⟨k, hk, rfl, HE, HB⟩ := hrel
    by_cases hlt : k < L.length
    · obtain ⟨b, o, rfl, a0, a1⟩ := HR.out k hlt
      have hd := rowL_drop L n k hlt
      obtain ⟨x, hx⟩ : ∃ x, L.getD k (0, 0) = x := ⟨_, rfl⟩
      obtain ⟨x0, x1⟩ := x
      rw [hx] at a0 a1 hd
      simp only at a0 a1 hd
      have c0 := (HB.out.cell (World.block_lt_of_cell? _ _ a0)).trans a0
      have c1 := (HB.out.cell (World.block_lt_of_cell? _ _ a1)).trans a1
      rw [HE.out] at hd
      clear hx a0 a1
      by_cases he : x0 = n
      · subst he
        rw [if_pos rfl] at hd
        have HZ := Lib.hid hd
        clear hd
        go_wp2
        first
        | (go_ret; exact ⟨by rw [HZ.out]; rfl, HB.out⟩)
        | (go_quiet (fail); go_wp2; go_ret; exact ⟨by rw [HZ.out]; rfl, below_drewN HB.out _⟩)
      · have q : (x0 == n) = false := by simpa using he
        rw [if_neg he] at hd
        have HD := Lib.hid hd.symm
        clear hd he
        go_wp2
        first
        | (go_roundw
           case rel => exact ⟨k + 1, by omega, by go_num, HD, HB⟩
           case measure => simp; omega)
        | (go_quiet (fail)
           go_wp2
           go_roundw
           case rel => exact ⟨k + 1, by omega, by go_num, HD, Lib.hid (below_drewN HB.out _)⟩
           case measure => simp; omega)
    · have hke : k = L.length := by omega
      subst hke
      have he := HE.out
      rw [List.drop_length] at he
      have HZ := Lib.hid he
      clear hlt he
      go_wp2
      go_ret
      exact ⟨by rw [← HZ.out]; rfl, HB.out⟩

def flatP (L : List (Int × Int)) : List Value := L.flatMap fun x => [.int .i64 x.1, .int .i64 x.2]
theorem flatP_get : ∀ (L : List (Int × Int)) (j : Nat), j < L.length → (flatP L)[j * 2]? = some (.int .i64 (L.getD j (0, 0)).1) ∧ (flatP L)[j * 2 + 1]? = some (.int .i64 (L.getD j (0, 0)).2)
  | [], j, h => absurd h (by simp)
  | x :: L, 0, _ => ⟨rfl, rfl⟩
  | x :: L, j + 1, h => by
    have ih := flatP_get L j (by simpa using h)
    rw [show (j + 1) * 2 = j * 2 + 2 by omega, show j * 2 + 2 + 1 = j * 2 + 1 + 2 by omega]
    exact ih
theorem pair_new (w : World) (L : List (Int × Int)) (t : TypeId) (cs : Array Value) (hcs : cs.toList = flatP L) : PairRd (w.alloc (.cells cs t)) (some ⟨w.heap.size, 0, none⟩) L := by
  intro j hj
  obtain ⟨h1, h2⟩ := flatP_get L j hj
  have hb := (blk_new w cs t).2.1
  refine ⟨w.heap.size, 0, rfl, ?_, ?_⟩
  · rw [hb, Nat.zero_add, ← h1, ← hcs]; simp
  · rw [hb, Nat.zero_add, ← h2, ← hcs]; simp

end Go.Proofs.YtpdjkphjpjbhgaaDoor
