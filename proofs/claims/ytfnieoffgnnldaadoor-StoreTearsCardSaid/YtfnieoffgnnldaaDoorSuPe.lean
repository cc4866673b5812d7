/- utf: Encode. -/
import Derived.Test.YtfnieoffgnnldaaDoorSuPd
import Derived.Test.YtfnieoffgnnldaaDoorBldR
namespace Go.Proofs.YtfnieoffgnnldaaDoor
open Go.RowKit
set_option linter.unusedVariables false
set_option linter.unusedSimpArgs false

/-- Bytes as cells. -/
def cellsI (l : List Int) : List Value := l.map (Value.int .u8)
theorem cellsI_length (l : List Int) : (cellsI l).length = l.length := by simp [cellsI]
theorem cellsI_append (a b : List Int) : cellsI a ++ cellsI b = cellsI (a ++ b) := by simp [cellsI]
theorem strCells_nums (l : List Int) (h : ∀ b ∈ l, 0 ≤ b ∧ b ≤ 255) : Lib.strCells (strOfNums l) = cellsI l := by
  simp only [Lib.strCells, strOfNums_data, List.map_map, cellsI]
  apply List.map_congr_left
  intro a ha
  have := h a ha
  simp [UInt8.toNat_ofNat]
  omega
theorem byteCells_nums (l : List Int) (h : ∀ b ∈ l, 0 ≤ b ∧ b ≤ 255) : Lib.byteCells (l.map fun n => UInt8.ofNat n.toNat) = cellsI l := by
  simp only [Lib.byteCells, List.map_map, cellsI]
  apply List.map_congr_left
  intro a ha
  have := h a ha
  simp [UInt8.toNat_ofNat]
  omega

/-- A builder of the call's own that has been used. -/
def Bat (g : Nat) (l : List Int) (w : World) : Prop := Lib.BuilderAtF 62 5 g g (.pointer (some ⟨g, 0, none⟩)) (cellsI l) w

theorem Bat.later {g : Nat} {l : List Int} {w w' : World} (h : Bat g l w) (hb : Below w.heap.size w w') : Bat g l w' := by
  obtain ⟨hB, v, hbk, hown, hne⟩ := h
  have hlt : g < w.heap.size := Lib.BuilderAtF.lt ⟨hB, v, hbk, hown, hne⟩
  refine ⟨hB, v, (hb.block g hlt).trans hbk, ?_, hne⟩
  exact hown.kept (grown_of_below hb) (by cases hv : v.ownBlock with
    | none => exact .inl rfl
    | some k => exact .inr (by simp))

/-- Encode's steps, by contract. -/
theorem grow_at (w : World) (n : Nat) (hn : n ≤ 1000000) : Calls Tryd.prog 54 #[.pointer (some ⟨w.heap.size, 0, none⟩), .int .i64 n] (w.alloc (.cells #[.pointer none, .slice none 0 0] 62))
    fun e w' => e = .returned (.tuple #[]) ∧ Bat w.heap.size [] w' ∧ Below w.heap.size w w' := by
  refine (bld_grow w.heap.size w.heap.size n _ (Nat.le_refl _) (heap_alloc_new w _) (by simp [World.size_alloc]) (by omega)).mono fun e w' h => ?_
  exact ⟨h.1, Lib.BuilderAtF.of h.2.1, ((Below.refl _ _).alloc (Nat.le_refl _) _).trans h.2.2⟩

theorem byte_at (w wr : World) (l : List Int) (c : Int) (hb : Below w.heap.size w wr) (h : Bat w.heap.size l wr) (hl : l.length ≤ 10000000) : Calls Tryd.prog 55 #[.pointer (some ⟨w.heap.size, 0, none⟩), .int .u8 c] wr
    fun e w' => e = .returned .nilIface ∧ Bat w.heap.size (l ++ [c]) w' ∧ Below w.heap.size w w' := by
  refine (bld_byte w.heap.size w.heap.size (cellsI l) c wr (.inr h) (by rw [cellsI_length]; omega) hb.size).mono fun e w' h => ?_
  refine ⟨h.1, ?_, hb.trans h.2.2.1⟩
  have := h.2.1
  rwa [show cellsI l ++ [Value.int .u8 c] = cellsI (l ++ [c]) by simp [cellsI]] at this

theorem string_at (w wr : World) (l m : List Int) (hb : Below w.heap.size w wr) (h : Bat w.heap.size l wr) (hl : l.length ≤ 10000000) (hm : m.length ≤ 1000) (hr : ∀ b ∈ m, 0 ≤ b ∧ b ≤ 255) : Calls Tryd.prog 36 #[.pointer (some ⟨w.heap.size, 0, none⟩), .string (strOfNums m)] wr
    fun e w' => (∃ k, e = .returned (.tuple #[.int .i64 k, .nilIface])) ∧ Bat w.heap.size (l ++ m) w' ∧ Below w.heap.size w w' := by
  refine (bld_string w.heap.size w.heap.size (cellsI l) (strOfNums m) wr (.inr h) (by rw [cellsI_length, strOfNums_size]; omega) hb.size).mono fun e w' h => ?_
  refine ⟨⟨_, h.1⟩, ?_, hb.trans h.2.2.1⟩
  have := h.2.1
  rwa [strCells_nums m hr, cellsI_append] at this

theorem text_at (w wr : World) (l : List Int) (hb : Below w.heap.size w wr) (h : Bat w.heap.size l wr) (hr : ∀ b ∈ l, 0 ≤ b ∧ b ≤ 255) : Calls Tryd.prog 37 #[.pointer (some ⟨w.heap.size, 0, none⟩)] wr
    fun e w' => e = .returned (.string (strOfNums l)) ∧ Below w.heap.size w w' := by
  have h' : Lib.IsBuilderF 62 5 w.heap.size w.heap.size (Lib.byteCells (l.map fun n => UInt8.ofNat n.toNat)) wr := by
    rw [byteCells_nums l hr]; exact .inr h
  refine (bld_text w.heap.size w.heap.size _ wr h' hb.size).mono fun e w' h => ?_
  exact ⟨h.1, hb.trans h.2.2.1⟩

theorem put_low (r : Int) (h0 : 0 ≤ r) (h1 : r < 128) : putS r = [r] := by
  unfold putS scal
  rw [if_pos ((okS_iff r).2 (by omega))]
  unfold putI
  rw [if_pos h1]

set_option maxHeartbeats 1000000 in
theorem enc_any (A : Option Addr) (n c : Nat) (p : Nat → Int) (w : World) (hn : n ≤ 1000000) (hA : Rd w A n (iv p)) (hp : ∀ j, j < n → -2147483648 ≤ p j ∧ p j ≤ 2147483647) :
    Calls Tryd.prog 44 #[.slice A n c] w (TellsS (encI (upTo p n)) w) := by
  have HA := Lib.hid hA
  have HP := Lib.hid hp
  clear hA hp
  go_enter Tryd.func44, Tryd.ntmps44
  go_wp2_with (go_at_call 54; refine (grow_at _ _ hn).mono ?_; rintro e w1 ⟨rfl, hg1, hb1⟩)
  go_loopw [5, 11] (fun _ i wr => ∃ k : Nat, k ≤ n ∧ i = .int .i64 k ∧ Hid (Bat w.heap.size (encI (upTo p k)) wr ∧ Below w.heap.size w wr)) (fun _ i _ => n - (intOf i).toNat)
  case atStart => exact ⟨0, Nat.zero_le _, rfl, ⟨hg1, hb1⟩⟩
  case round =>
    obtain ⟨k, hk, rfl, HB⟩ := hrel
    by_cases hlt : k < n
    · obtain ⟨b, o, rfl, hbl, hc⟩ := HA.out.later HB.out.2 k hlt
      unfold iv at hc
      have hrng := HP.out k hlt
      have h0 := hrng.1
      have h1 := hrng.2
      have hl1 := encI_len (upTo p k)
      rw [upTo_len] at hl1
      have hl2 : (encI (upTo p k)).length ≤ 10000000 := by omega
      have hl3 := (putS_range (p k)).2.2
      have HR := Lib.hid (putS_range (p k)).1
      clear hrng hl1
      by_cases c1 : 0 ≤ p k
      · by_cases c2 : p k < 128
        · have HE := Lib.hid (put_low (p k) c1 c2)
          clear hl3
          go_wp2_with (go_at_call 55; refine (byte_at w _ _ (p k) HB.out.2 HB.out.1 hl2).mono ?_; rintro e w2 ⟨rfl, hg2, hb2⟩; have HG := Lib.hid (And.intro hg2 hb2); clear hg2 hb2)
          go_roundw
          case rel => exact ⟨k + 1, by omega, by go_num, ⟨by rw [enc_succ, HE.out]; exact HG.out.1, HG.out.2⟩⟩
          case measure => simp [intOf]; omega
        · have d2 : decide (p k < 128) = false := decide_eq_false c2
          clear c2
          go_wp2_with (first
            | (go_at_call 56; refine (put_any _ _ h0 h1).mono ?_; rintro e w2 ⟨rfl, hb2⟩; have HG := Lib.hid (And.intro (HB.out.1.later hb2) (HB.out.2.trans (hb2.mono HB.out.2.size))); clear hb2)
            | (go_at_call 36; refine (string_at w _ _ _ HG.out.2 HG.out.1 hl2 (by omega) HR.out).mono ?_; rintro e w3 ⟨⟨q, rfl⟩, hg3, hb3⟩; have HJ := Lib.hid (And.intro hg3 hb3); clear hg3 hb3))
          go_roundw
          case rel => exact ⟨k + 1, by omega, by go_num, ⟨by rw [enc_succ]; exact HJ.out.1, HJ.out.2⟩⟩
          case measure => simp [intOf]; omega
      · have d1 : decide (0 ≤ p k) = false := decide_eq_false c1
        clear c1
        go_wp2_with (first
            | (go_at_call 56; refine (put_any _ _ h0 h1).mono ?_; rintro e w2 ⟨rfl, hb2⟩; have HG := Lib.hid (And.intro (HB.out.1.later hb2) (HB.out.2.trans (hb2.mono HB.out.2.size))); clear hb2)
            | (go_at_call 36; refine (string_at w _ _ _ HG.out.2 HG.out.1 hl2 (by omega) HR.out).mono ?_; rintro e w3 ⟨⟨q, rfl⟩, hg3, hb3⟩; have HJ := Lib.hid (And.intro hg3 hb3); clear hg3 hb3))
        go_roundw
        case rel => exact ⟨k + 1, by omega, by go_num, ⟨by rw [enc_succ]; exact HJ.out.1, HJ.out.2⟩⟩
        case measure => simp [intOf]; omega
    · obtain rfl : k = n := by omega
      go_wp2_with (go_at_call 37; refine (text_at w _ _ HB.out.2 HB.out.1 (encI_range _)).mono ?_; rintro e w1 ⟨rfl, hb1⟩)
      go_ret
      exact ⟨rfl, hb1⟩

end Go.Proofs.YtfnieoffgnnldaaDoor
