/- store: textOf. -/
import Derived.Test.YtfnieoffgnnldaaDoorStA
import Derived.Test.YtfnieoffgnnldaaDoorSuPe
namespace Go.Proofs.YtfnieoffgnnldaaDoor
open Go.RowKit
set_option linter.unusedVariables false
set_option linter.unusedSimpArgs false

/-- The variable that Count and Index read. -/
def MaxW (w : World) : Prop := 0 < w.heap.size ∧ ∃ m : Int, w.cell? ⟨0, 0, none⟩ = some (.int .i64 m)
theorem MaxW.later {w w' : World} (h : MaxW w) (hb : Below w.heap.size w w') : MaxW w' := by
  obtain ⟨h1, m, h2⟩ := h
  exact ⟨Nat.lt_of_lt_of_le h1 hb.size, m, (hb.cell (p := ⟨0, 0, none⟩) h1).trans h2⟩
theorem repl_any {w : World} (hM : MaxW w) (l new : List Int) (c : Int) (hl : ∀ b ∈ l, 0 ≤ b ∧ b ≤ 255) (hc : 0 ≤ c ∧ c ≤ 255) (hn : ∀ b ∈ new, 0 ≤ b ∧ b ≤ 255) (hn2 : new.length = 2) (hsz : l.length ≤ 100000000) :
    Calls Tryd.prog 43 #[.string (strOfNums l), .string (strOfNums [c]), .string (strOfNums new)] w fun e w' => e = .returned (.string (strOfNums (escI c new l))) ∧ Below w.heap.size w w' := by
  obtain ⟨h0, m, hm⟩ := hM
  have hs : (strOfNums l).size = l.length := strOfNums_size l
  have ho : (strOfNums [c]).size = 1 := strOfNums_size [c]
  have hw : (strOfNums new).size = 2 := by rw [strOfNums_size, hn2]
  have hcm := Lib.countB_mul_le (strOfNums [c]) (by omega) (strOfNums l).size (strOfNums l) (Nat.le_refl _)
  rw [ho, Nat.mul_one] at hcm
  refine (Any.strings_ReplaceAll bldLays155 bldExtra (strOfNums l) (strOfNums [c]) (strOfNums new) m w (by omega) hm (by omega) (by rw [hw]; omega)).mono ?_
  rintro e w' ⟨rfl, hb⟩
  refine ⟨?_, hb⟩
  rw [strOfNums_data, strOfNums_data, strOfNums_data]
  have e1 : ([c].map fun n => UInt8.ofNat n.toNat) = [UInt8.ofNat c.toNat] := rfl
  rw [e1, repl_all (fun e => by have := congrArg List.length e; simp [hn2] at this)]
  rw [esc_u8 hc new l hl]
  rfl
theorem encI_len' (l : List Int) : (encI l).length ≤ 4 * l.length := encI_len l
theorem txtI_len (l : List Int) : (txtI l).length ≤ 16 * l.length := by
  rw [← txt_is]
  have h1 := escI_len 10 [92, 110] rfl (escI 92 [92, 92] (encI l))
  have h2 := escI_len 92 [92, 92] rfl (encI l)
  have h3 := encI_len l
  omega
theorem two_range : ∀ b ∈ ([92, 92] : List Int), 0 ≤ b ∧ b ≤ 255 := by decide
theorem nl_range : ∀ b ∈ ([92, 110] : List Int), 0 ≤ b ∧ b ≤ 255 := by decide
theorem txtI_range (l : List Int) : ∀ b ∈ txtI l, 0 ≤ b ∧ b ≤ 255 := by
  rw [← txt_is]
  exact escI_range nl_range (escI_range two_range (encI_range l))
set_option maxHeartbeats 1000000 in
theorem textOf_any (A : Option Addr) (n c : Nat) (p : Nat → Int) (w : World) (hM : MaxW w) (hn : n ≤ 1000000) (hA : Rd w A n (iv p)) (hp : ∀ j, j < n → -2147483648 ≤ p j ∧ p j ≤ 2147483647) :
    Calls Tryd.prog 28 #[.slice A n c] w (TellsS (txtI (upTo p n)) w) := by
  have C1 := Lib.hid (enc_any A n c p w hn hA hp)
  have HM := Lib.hid hM
  have hl := upTo_len p n
  obtain ⟨l, hle⟩ : ∃ l, upTo p n = l := ⟨_, rfl⟩
  rw [hle] at C1 hl ⊢
  have h3 := encI_len l
  have h2 := escI_len 92 [92, 92] rfl (encI l)
  have C2 := Lib.hid (fun (X : World) (hX : MaxW X) => repl_any hX (encI l) [92, 92] 92 (encI_range l) (by omega) two_range rfl (by omega))
  have C3 := Lib.hid (fun (X : World) (hX : MaxW X) => repl_any hX (escI 92 [92, 92] (encI l)) [92, 110] 10 (escI_range two_range (encI_range l)) (by omega) nl_range rfl (by omega))
  have HT := Lib.hid (txt_is l)
  rw [HT.out] at C3
  obtain ⟨S1, hS1⟩ : ∃ S, strOfNums (encI l) = S := ⟨_, rfl⟩
  obtain ⟨S2, hS2⟩ : ∃ S, strOfNums (escI 92 [92, 92] (encI l)) = S := ⟨_, rfl⟩
  obtain ⟨S3, hS3⟩ : ∃ S, strOfNums (txtI l) = S := ⟨_, rfl⟩
  unfold TellsS at C1 ⊢
  rw [hS1] at C1 C2
  rw [hS2] at C2 C3
  rw [hS3] at C3 ⊢
  have E1 : strOfNums [92] = ⟨#[92]⟩ := rfl
  have E2 : strOfNums [92, 92] = ⟨#[92, 92]⟩ := rfl
  have E3 : strOfNums [10] = ⟨#[10]⟩ := rfl
  have E4 : strOfNums [92, 110] = ⟨#[92, 110]⟩ := rfl
  rw [E1, E2] at C2
  rw [E3, E4] at C3
  clear hS1 hS2 hS3 hle hM hA hp E1 E2 E3 E4 h2 h3 HT
  go_enter Tryd.func28, Tryd.ntmps28
  go_wp2_with fail
  refine C1.out.mono ?_
  rintro e w1 ⟨rfl, b1⟩
  have H1 := Lib.hid b1
  clear b1 C1
  go_wp2_with fail
  refine (C2.out w1 (HM.out.later H1.out)).mono ?_
  rintro e w2 ⟨rfl, b2⟩
  have H2 := Lib.hid (H1.out.trans (b2.mono H1.out.size))
  clear b2 C2
  go_wp2_with fail
  refine (C3.out w2 (HM.out.later H2.out)).mono ?_
  rintro e w3 ⟨rfl, b3⟩
  have H3 := Lib.hid (H2.out.trans (b3.mono H2.out.size))
  clear b3 C3
  go_wp2_with fail
  go_ret
  exact ⟨rfl, H3.out⟩
end Go.Proofs.YtfnieoffgnnldaaDoor
