/- rows: the document's Kind. -/
import Derived.Test.YtkcielidjlgedaaRw1
import Derived.Test.YtkcielidjlgedaaTab3
namespace Go.Proofs.Ytkcielidjlgedaa
open Go.RowKit
set_option linter.unusedVariables false
set_option linter.unusedSimpArgs false

def ofKd (kind : Int) (l : List Row) : List Row := l.filter fun x => x.k == kind
theorem ofKd_snoc (kind : Int) (l : List Row) (x : Row) : ofKd kind (l ++ [x]) = ofKd kind l ++ (if x.k = kind then [x] else []) := by
  unfold ofKd
  by_cases h : x.k = kind <;> simp [h]

set_option maxHeartbeats 4000000 in
set_option maxRecDepth 100000 in
theorem kind_any (A : Option Addr) (c : Nat) (L : List Row) (kind : Int) (w : World) (hL : Li 5 encR w (fun _ => True) A L) (hn : L.length ≤ 100000) :
    Calls Try.prog 16 #[.slice A L.length c, .int .i64 kind] w (TellsO 34 5 encR (ofKd kind L) w) := by
  have HL := Lib.hid hL
  clear hL
  go_enter Try.func16, Try.ntmps16
  go_wp2
  go_loopw [5, 6] (fun v i wr => ∃ k : Nat, ∃ Ao no co, k ≤ L.length ∧ i = .int .i64 k ∧ v = .slice Ao no co ∧ no ≤ k ∧ Hid (Grows w 34 5 encR Ao no co (ofKd kind (L.take k)) wr)) (fun _ i _ => L.length - (intOf i).toNat)
  case atStart => exact ⟨0, none, 0, 0, Nat.zero_le _, rfl, rfl, Nat.le_refl _, Grows.start _ _ _⟩
  case round =>
    obtain ⟨k, Ao, no, co, hk, rfl, rfl, hno, HG⟩ := hrel
    by_cases hlt : k < L.length
    · obtain ⟨x, b, o, hx, rfl, hbl, _, c0, c1, c2, c3, c4⟩ := (HL.out.later HG.out.below).row hlt
      have HX := Lib.hid (take_snoc' hx)
      have i1 : (k : Int) < (L.length : Int) := by omega
      have i2 : (0 : Int) ≤ (k : Int) := by omega
      have hz : w.heap.size ≤ wr.heap.size := HG.out.below.size
      clear hx
      by_cases hk1 : x.k = kind
      · have d1 : (x.k == kind) = true := beq_iff_eq.2 hk1
        have HC := Lib.hid (show ofKd kind (L.take (k + 1)) = ofKd kind (L.take k) ++ [x] from by rw [HX.out, ofKd_snoc, if_pos hk1])
        clear hk1
        go_wp2_with (at_builtin; refine wpList_push row_elt HG.out.own hz rfl rfl rfl rfl rfl rfl rfl (by unfold maxLen; omega) (by omega) ?_; intro A3 c3' w3 hp; have HP := Lib.hid hp; clear hp)
        go_roundw
        case rel => exact ⟨k + 1, _, _, _, by omega, by go_num, rfl, by omega, by rw [HC.out]; exact HG.out.push (Below.refl _ _) HP.out⟩
        case measure => simp [intOf]; omega
      · have d1 : (x.k == kind) = false := beq_eq_false_iff_ne.2 hk1
        have HC := Lib.hid (show ofKd kind (L.take (k + 1)) = ofKd kind (L.take k) from by rw [HX.out, ofKd_snoc, if_neg hk1]; simp)
        clear hk1
        go_wp2
        go_roundw
        case rel => exact ⟨k + 1, _, _, _, by omega, by go_num, rfl, by omega, by rw [HC.out]; exact HG.out⟩
        case measure => simp [intOf]; omega
    · obtain rfl : k = L.length := by omega
      rw [List.take_length] at HG
      have HT := Lib.hid HG.out.tells
      clear HG hlt
      go_wp2
      go_ret
      exact HT.out
/-- Rows of a kind that there is. -/
theorem kind_some (A : Option Addr) (c : Nat) (L : List Row) (kind : Int) (w : World) (hL : Li 5 encR w (fun _ => True) A L) (hn : L.length ≤ 100000) (hk : ∃ r ∈ L, r.k = kind) :
    Calls Try.prog 16 #[.slice A L.length c, .int .i64 kind] w fun e w' => ∃ (Ao : Option Addr) (no co : Nat), e = .returned (.slice Ao no co) ∧ ((no : Int) == 0) = false ∧ Below w.heap.size w w' := by
  refine (kind_any A c L kind w hL hn).mono ?_
  rintro e w' ⟨Ao, no, co, rfl, ho, hb⟩
  refine ⟨Ao, no, co, rfl, ?_, hb⟩
  have := own_count encR_len (by decide) ho
  obtain ⟨r, hr, e⟩ := hk
  have hm : r ∈ ofKd kind L := List.mem_filter.2 ⟨hr, by simpa using e⟩
  have hp := List.length_pos_of_mem hm
  exact beq_eq_false_iff_ne.2 (by omega)
end Go.Proofs.Ytkcielidjlgedaa
