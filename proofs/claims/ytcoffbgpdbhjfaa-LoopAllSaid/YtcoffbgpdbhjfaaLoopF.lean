/- loop: slices of events; Same. -/
import Derived.Test.YtcoffbgpdbhjfaaLoopE
import Derived.IntWalk
namespace Go.Proofs.Ytcoffbgpdbhjfaa
open Go.Conc Go.RowKit
set_option linter.unusedVariables false
set_option linter.unusedSimpArgs false

/-- The cells of events, one behind the other. -/
def flat (L : List Evt) : List Value := L.flatMap fun x => x.cells.toList
theorem flat_push (L : List Evt) (x : Evt) : flat (L ++ [x]) = flat L ++ x.cells.toList := by simp [flat]
theorem flat_len (L : List Evt) : (flat L).length = L.length * 4 := by
  induction L with
  | nil => rfl
  | cons x L ih => simp only [flat, List.flatMap_cons, List.length_append, List.length_cons] at ih ⊢; rw [ih]; simp [Evt.cells]; omega
theorem flat_get : ∀ (L : List Evt) (j i : Nat), j < L.length → i < 4 → (flat L)[j * 4 + i]? = (L.getD j zeroE).cells.toList[i]?
  | [], j, i, h, _ => by simp at h
  | x :: L, 0, i, h, hi => by
    simp only [flat, List.flatMap_cons, Nat.zero_mul, Nat.zero_add]
    rw [List.getElem?_append_left (by simpa [Evt.cells] using hi)]
    simp
  | x :: L, j + 1, i, h, hi => by
    have e : (j + 1) * 4 + i = 4 + (j * 4 + i) := by omega
    simp only [flat, List.flatMap_cons]
    rw [List.getElem?_append_right (by simp [Evt.cells]; omega), show (j + 1) * 4 + i - x.cells.toList.length = j * 4 + i by simp [Evt.cells]; omega]
    have := flat_get L j i (by simpa using h) hi
    simpa [flat] using this

/-- A reads as the events L. -/
def EvRd (w : World) (A : Option Addr) (L : List Evt) : Prop := ∀ j, j < L.length → ∃ b o, A = some ⟨b, o, none⟩ ∧ b < w.heap.size ∧
  w.cell? ⟨b, o + j * 4, none⟩ = some (.int .i64 (L.getD j zeroE).kind) ∧ w.cell? ⟨b, o + j * 4 + 1, none⟩ = some (.int .u8 (L.getD j zeroE).byte) ∧ w.cell? ⟨b, o + j * 4 + 2, none⟩ = some (.int .i64 (L.getD j zeroE).rows) ∧ w.cell? ⟨b, o + j * 4 + 3, none⟩ = some (.int .i64 (L.getD j zeroE).cols)
theorem EvRd.later {w w' : World} {A : Option Addr} {L : List Evt} (h : EvRd w A L) (hb : Below w.heap.size w w') : EvRd w' A L := by
  intro j hj
  obtain ⟨b, o, e, hl, h0, h1, h2, h3⟩ := h j hj
  exact ⟨b, o, e, Nat.lt_of_lt_of_le hl hb.size, (hb.cell (p := ⟨b, o + j * 4, none⟩) hl).trans h0, (hb.cell (p := ⟨b, o + j * 4 + 1, none⟩) hl).trans h1, (hb.cell (p := ⟨b, o + j * 4 + 2, none⟩) hl).trans h2, (hb.cell (p := ⟨b, o + j * 4 + 3, none⟩) hl).trans h3⟩
theorem ev_rd {w : World} {base : Nat} {e : TypeId} {A : Option Addr} {n c : Nat} {L : List Evt} (h : w.ownsRow base e 4 (.slice A n c) n (flat L)) (hn : L.length = n) : EvRd w A L := by
  intro j hj
  rcases h.2 with ⟨_, hx⟩ | ⟨g, cap, cur, hv, _⟩
  · omega
  · injection hv with hA _ _
    subst hA
    have hc (i : Nat) (v : Value) (hi : i < 4) (hv : (L.getD j zeroE).cells.toList[i]? = some v) : w.cell? ⟨g, 0 + j * 4 + i, none⟩ = some v := by
      have := h.cells (g := g) rfl (j * 4 + i) v ((flat_get L j i hj hi).trans hv)
      rw [Addr.add_lit] at this
      rw [Nat.zero_add] at this ⊢
      exact this
    exact ⟨g, 0, rfl, (h.lt g rfl).2, hc 0 _ (by decide) rfl, hc 1 _ (by decide) rfl, hc 2 _ (by decide) rfl, hc 3 _ (by decide) rfl⟩

theorem ev_new (w : World) (L : List Evt) (t : TypeId) (cs : Array Value) (hcs : cs.toList = flat L) : EvRd (w.alloc (.cells cs t)) (some ⟨w.heap.size, 0, none⟩) L := by
  intro j hj
  have hc (i : Nat) (v : Value) (hi : i < 4) (hv : (L.getD j zeroE).cells.toList[i]? = some v) : (w.alloc (.cells cs t)).cell? ⟨w.heap.size, 0 + j * 4 + i, none⟩ = some v := by
    rw [Nat.zero_add, World.cell?_alloc_new, ← Array.getElem?_toList, hcs]
    exact (flat_get L j i hj hi).trans hv
  exact ⟨w.heap.size, 0, rfl, by simp, hc 0 _ (by decide) rfl, hc 1 _ (by decide) rfl, hc 2 _ (by decide) rfl, hc 3 _ (by decide) rfl⟩

/-! ### Same -/
theorem same_len (A B : Option Addr) (n m c d : Nat) (w : World) (hn : n ≤ 9223372036854775807) (hm : m ≤ 9223372036854775807) (hne : n ≠ m) :
    Calls Try.prog 15 #[.slice A n c, .slice B m d] w fun e w' => e = .returned (.bool false) ∧ w = w' := by
  have h1 : ((n : Int) == (m : Int)) = false := by simp; omega
  have h2 : ((n : Int) != (m : Int)) = true := by simp; omega
  go_enter Try.func15, Try.ntmps15
  go_wp2
  go_ret
  exact ⟨rfl, rfl⟩

set_option maxHeartbeats 1000000 in
theorem same_at (A B : Option Addr) (n c d : Nat) (L M : List Evt) (w : World) (hL : L.length = n) (hM : M.length = n) (hn : n ≤ 9223372036854775807) (hA : EvRd w A L) (hB : EvRd w B M) :
    Calls Try.prog 15 #[.slice A n c, .slice B n d] w fun e w' => e = .returned (.bool (decide (L = M))) ∧ ∃ r, w' = w.drewN r := by
  have h1 : (((n : Int) == (n : Int))) = true := by simp
  have h2 : (((n : Int) != (n : Int))) = false := by simp
  have HL := Lib.hid (And.intro hL hM)
  have HA := Lib.hid (And.intro hA hB)
  clear hL hM hA hB
  go_enter Try.func15, Try.ntmps15
  go_wp2
  go_loopw [5] (fun i wr => ∃ k : Nat, k ≤ n ∧ i = .int .i64 k ∧ Hid (∀ j, j < k → L.getD j zeroE = M.getD j zeroE) ∧ ∃ r, wr = w.drewN r) (fun i _ => n - (intOf i).toNat)
  case atStart => exact ⟨0, Nat.zero_le _, rfl, fun j h => absurd h (by omega), 0, rfl⟩
  case round =>
    obtain ⟨k, hk, rfl, HE, r, hw⟩ := hrel
    have hA := HA.out.1.later (below_drewN (Below.refl _ _) r)
    have hB := HA.out.2.later (below_drewN (Below.refl _ _) r)
    rw [← hw] at hA hB
    have HW := Lib.hid hw
    clear hw
    by_cases hlt : k < n
    · obtain ⟨a, i, rfl, _, a0, a1, a2, a3⟩ := hA k (by rw [HL.out.1]; exact hlt)
      obtain ⟨b, j, rfl, _, b0, b1, b2, b3⟩ := hB k (by rw [HL.out.2]; exact hlt)
      obtain ⟨x, hx⟩ : ∃ x, L.getD k zeroE = x := ⟨_, rfl⟩
      obtain ⟨y, hy⟩ : ∃ y, M.getD k zeroE = y := ⟨_, rfl⟩
      rw [hx] at a0 a1 a2 a3
      rw [hy] at b0 b1 b2 b3
      have hq := neq_evt x y
      have HXY := Lib.hid (And.intro hx hy)
      clear hA hB hx hy
      by_cases he : x = y
      · subst he
        simp only [decide_true, Bool.not_true] at hq
        go_wp2
        go_quiet (fail)
        go_wp2
        go_roundw
        case rel => exact ⟨k + 1, by omega, by go_num, fun j hj => (by by_cases e : j = k; (· subst e; rw [HXY.out.1, HXY.out.2]); (· exact HE.out j (by omega))), _, by rw [HW.out]; exact World.drewN_drewN _ _ _⟩
        case measure => simp [intOf]; omega
      · simp only [decide_eq_false he, Bool.not_false] at hq
        have hf : decide (L = M) = false := decide_eq_false fun e => he (by rw [← HXY.out.1, ← HXY.out.2, e])
        have HF := Lib.hid hf
        clear hf
        go_wp2
        go_quiet (fail)
        go_wp2
        go_ret
        rw [HF.out]
        exact ⟨rfl, _, by rw [HW.out]; exact World.drewN_drewN _ _ _⟩
    · have ht : decide (L = M) = true := decide_eq_true (by
        apply List.ext_getElem (by rw [HL.out.1, HL.out.2])
        intro j h1 h2
        have := HE.out j (by rw [HL.out.1] at h1; omega)
        simpa [List.getD, h1, h2] using this)
      have HT := Lib.hid ht
      clear ht
      go_wp2
      go_ret
      rw [HT.out]
      exact ⟨rfl, _, HW.out⟩
end Go.Proofs.Ytcoffbgpdbhjfaa
