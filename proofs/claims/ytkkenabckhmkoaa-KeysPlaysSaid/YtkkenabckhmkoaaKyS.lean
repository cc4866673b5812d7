/- keys: Waits; the parsers that there are stay such. -/
import Derived.Test.YtkkenabckhmkoaaKyR
namespace Go.Proofs.Ytkkenabckhmkoaa
open Go.RowKit
set_option linter.unusedVariables false
set_option linter.unusedSimpArgs false
set_option maxRecDepth 100000

theorem pending_is (h0 h1 h2 n : Int) (w : World) : Calls Try.prog 34 #[dcd h0 h1 h2 n] w fun e w' => e = .returned (.int .i64 n) ∧ Below w.heap.size w w' := by
  go_enter Try.func34, Try.ntmps34
  go_wp2
  go_ret
  exact ⟨rfl, belAlloc _ _⟩
def waitsK (s : KS) : Bool := !(s.w == 0) || decide (0 < s.d.n)

set_option maxHeartbeats 4000000 in
theorem waits_yes (sw h0 h1 h2 dn : Int) (sm : Bool) (srow : ByteArray) (stx : List Int) (scl : Nat) (T : Option Addr) (h : (sw == 0) = false) (h2_ : (sw != 0) = true) (w : World) : Calls Try.prog 12 #[psV ⟨sw, ⟨h0, h1, h2, dn⟩, sm, srow, stx, scl⟩ T] w fun e w' => e = .returned (.bool true) ∧ Below w.heap.size w w' := by
  have V0 := Lib.hid (And.intro (belAlloc w (.cells (psC ⟨sw, ⟨h0, h1, h2, dn⟩, sm, srow, stx, scl⟩ T) 28)) (blk_new w (psC ⟨sw, ⟨h0, h1, h2, dn⟩, sm, srow, stx, scl⟩ T) 28))
  have CP := Lib.hid (fun X => pending_is h0 h1 h2 dn X)
  go_enter Try.func12, Try.ntmps12
  go_upto_region 1 with fail
  refine at_world (fun X => Below w.heap.size w X ∧ Blk X w.heap.size (psC ⟨sw, ⟨h0, h1, h2, dn⟩, sm, srow, stx, scl⟩ T)) V0.out ?_
  intro X hX
  have V1 := Lib.hid hX
  clear hX V0
  obtain ⟨y1, k1, j1⟩ := (show _ from V1.out.2)
  go_wp2_with (go_at_call 34; refine (CP.out _).mono ?_; rintro e w6 ⟨rfl, b6⟩; have V6 := Lib.hid (belowStep V1.out.1 b6); clear b6)
  go_ret
  exact ⟨rfl, V1.out.1⟩

set_option maxHeartbeats 4000000 in
theorem waits_no (h0 h1 h2 dn : Int) (sm : Bool) (srow : ByteArray) (stx : List Int) (scl : Nat) (T : Option Addr) (w : World) : Calls Try.prog 12 #[psV ⟨0, ⟨h0, h1, h2, dn⟩, sm, srow, stx, scl⟩ T] w fun e w' => e = .returned (.bool (decide (0 < dn))) ∧ Below w.heap.size w w' := by
  have V0 := Lib.hid (And.intro (belAlloc w (.cells (psC ⟨0, ⟨h0, h1, h2, dn⟩, sm, srow, stx, scl⟩ T) 28)) (blk_new w (psC ⟨0, ⟨h0, h1, h2, dn⟩, sm, srow, stx, scl⟩ T) 28))
  have CP := Lib.hid (fun X => pending_is h0 h1 h2 dn X)
  go_enter Try.func12, Try.ntmps12
  go_upto_region 1 with fail
  refine at_world (fun X => Below w.heap.size w X ∧ Blk X w.heap.size (psC ⟨0, ⟨h0, h1, h2, dn⟩, sm, srow, stx, scl⟩ T)) V0.out ?_
  intro X hX
  have V1 := Lib.hid hX
  clear hX V0
  obtain ⟨y1, k1, j1⟩ := (show _ from V1.out.2)
  go_wp2_with (go_at_call 34; refine (CP.out _).mono ?_; rintro e w6 ⟨rfl, b6⟩; have V6 := Lib.hid (belowStep V1.out.1 b6); clear b6)
  go_ret
  exact ⟨rfl, V6.out⟩

theorem waits_any (s : KS) (T : Option Addr) (w : World) : Calls Try.prog 12 #[psV s T] w fun e w' => e = .returned (.bool (waitsK s)) ∧ Below w.heap.size w w' := by
  obtain ⟨sw, ⟨h0, h1, h2, dn⟩, sm, srow, stx, scl⟩ := s
  unfold waitsK
  by_cases h : sw = 0
  · subst h
    exact waits_no h0 h1 h2 dn sm srow stx scl T w
  · have e : (sw == 0) = false := by simpa using h
    dsimp only
    rw [e]
    exact waits_yes sw h0 h1 h2 dn sm srow stx scl T e (by simp [bne, e]) w

theorem ok_zero : KS.Ok KS.zero := ⟨zero_ok, .inl ⟨rfl, rfl, rfl, rfl⟩⟩
theorem ok_1 : KS.Ok (KS.at 1) := ⟨zero_ok, .inr (.inl rfl)⟩
theorem ok_2 : KS.Ok (KS.at 2) := ⟨zero_ok, .inr (.inr (.inl ⟨⟨#[]⟩, rfl, by decide⟩))⟩
theorem ok_3 : KS.Ok (KS.at 3) := ⟨zero_ok, .inr (.inr (.inr (.inl rfl)))⟩
theorem ok_4 : KS.Ok (KS.at 4) := ⟨zero_ok, .inr (.inr (.inr (.inr ⟨[], 0, rfl, by decide, by simp, by simp, by simp⟩)))⟩
theorem ok_decode (d : DS) (hd : d.Ok) (m : Bool) (b : Int) (b0 : 0 ≤ b) (b1 : b ≤ 255) : (decodeK d m b).1.Ok := ⟨stepD_ok d b hd b0 b1, .inl ⟨rfl, rfl, rfl, rfl⟩⟩
theorem ok_alone (d : DS) (hd : d.Ok) (m : Bool) (b : Int) (b0 : 0 ≤ b) (b1 : b ≤ 255) : (aloneK d m b).1.Ok := by
  unfold aloneK
  split
  · split
    · exact ok_1
    · exact ok_zero
  · exact ok_decode d hd m b b0 b1
theorem ok_escaped (b : Int) (b0 : 0 ≤ b) (b1 : b ≤ 255) : (escapedK b).1.Ok := by
  unfold escapedK
  split
  · exact ok_2
  split
  · exact ok_3
  split
  · exact ok_1
  split
  · exact ok_zero
  · exact ok_decode _ zero_ok _ b b0 b1
theorem ok_odd (b : Int) (b0 : 0 ≤ b) (b1 : b ≤ 255) : (oddK b).1.Ok := ok_alone _ zero_ok _ b b0 b1
theorem ok_inRow (row : ByteArray) (b : Int) (b0 : 0 ≤ b) (b1 : b ≤ 255) : (inRowK row b).1.Ok := by
  unfold inRowK
  split
  · exact ok_odd b b0 b1
  split
  · rename_i h
    exact ⟨zero_ok, .inr (.inr (.inl ⟨_, rfl, by rw [ByteArray.size_push]; omega⟩))⟩
  split
  · exact ok_4
  split
  · exact ok_zero
  split
  · exact ok_zero
  · exact ok_zero
theorem ok_asLetter (b : Int) (b0 : 0 ≤ b) (b1 : b ≤ 255) : (asLetterK b).1.Ok := by
  unfold asLetterK
  split
  · exact ok_odd b b0 b1
  · exact ok_zero
theorem ok_inPaste (tx : List Int) (cl : Nat) (b : Int) (b0 : 0 ≤ b) (b1 : b ≤ 255) (hbs : ∀ b ∈ tx, 0 ≤ b ∧ b ≤ 255) (hle : cl ≤ tx.length) (hlen : tx.length < 100000) : (inPasteK tx cl b).1.Ok := by
  unfold inPasteK
  split
  · rename_i h
    refine ⟨zero_ok, .inr (.inr (.inr (.inr ⟨b :: tx, closesK cl b, rfl, h, ?_, ?_, ?_⟩)))⟩
    · intro c hc
      rcases List.mem_cons.1 hc with rfl | hc
      · exact ⟨b0, b1⟩
      · exact hbs c hc
    · simp only [List.length_cons]
      unfold closesK
      split
      · omega
      split <;> omega
    · simp only [List.length_cons]; omega
  · exact ok_zero
theorem ok_feed (s : KS) (hok : s.Ok) (b : Int) (b0 : 0 ≤ b) (b1 : b ≤ 255) (hlen : s.tx.length < 100000) : (feedK s b).1.Ok := by
  obtain ⟨hd, h | h | h | h | h⟩ := hok
  · unfold feedK
    rw [h.1, if_neg (by decide), if_neg (by decide), if_neg (by decide), if_neg (by decide)]
    exact ok_alone _ hd _ b b0 b1
  · subst h
    exact ok_escaped b b0 b1
  · obtain ⟨r, rfl, _⟩ := h
    exact ok_inRow r b b0 b1
  · subst h
    exact ok_asLetter b b0 b1
  · obtain ⟨tx, cl, rfl, h1, h2, h3, h4⟩ := h
    exact ok_inPaste tx cl b b0 b1 h2 h3 hlen
theorem ok_tick (s : KS) (hok : s.Ok) : (tickK s).1.Ok := by
  unfold tickK
  split
  · exact hok
  split
  · exact ok_zero
  split
  · exact ok_zero
  · exact ok_zero
theorem tx_feed (s : KS) (b : Int) : (feedK s b).1.tx.length ≤ s.tx.length + 1 := by
  have hd : ∀ d m b, (decodeK d m b).1.tx = [] := fun _ _ _ => rfl
  have ha : ∀ d m b, (aloneK d m b).1.tx = [] := by
    intro d m b
    unfold aloneK
    split
    · split <;> rfl
    · rfl
  have he : (escapedK b).1.tx = [] := by
    unfold escapedK
    split
    · rfl
    split
    · rfl
    split
    · rfl
    split
    · rfl
    · rfl
  have hr : (inRowK s.row b).1.tx = [] := by
    unfold inRowK
    split
    · exact ha _ _ _
    split
    · rfl
    split
    · rfl
    split
    · rfl
    split
    · rfl
    · rfl
  have hl : (asLetterK b).1.tx = [] := by
    unfold asLetterK
    split
    · exact ha _ _ _
    · rfl
  unfold feedK
  split
  · rw [he]; simp
  split
  · rw [hr]; simp
  split
  · rw [hl]; simp
  split
  · unfold inPasteK
    split
    · simp
    · simp [KS.zero]
  · rw [ha]; simp
end Go.Proofs.Ytkkenabckhmkoaa
