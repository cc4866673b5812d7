/- script: the document's line of bytes. -/
import Derived.Test.YtjkhkohlejkdlaaDoorScJ
import Derived.BigQuiet
namespace Go.Proofs.YtjkhkohlejkdlaaDoor
open Go.RowKit
set_option linter.unusedVariables false
set_option linter.unusedSimpArgs false

theorem byte_toNat_lt (b : UInt8) : b.toNat < 256 := b.toNat_lt
theorem str_eq (s : ByteArray) (l : List UInt8) : (s.toList == l) = decide (s.data.toList = l) := by
  rw [ByteArray.toList_eq]
  by_cases h : s.data.toList = l
  · rw [decide_eq_true h, beq_iff_eq]; exact h
  · rw [decide_eq_false h, beq_eq_false_iff_ne]; exact h
theorem str_some {s : ByteArray} (h : 0 < s.size) : ¬ s.toList = [] ∧ s.toList.isEmpty = false := by
  have h1 : ¬ s.toList = [] := by
    rw [ByteArray.toList_eq]
    intro e
    have : s.data.toList.length = s.size := Array.length_toList
    rw [e] at this
    simp at this
    omega
  exact ⟨h1, by simpa using h1⟩
/-- What a reader of a line hands back. -/
def LineOut (w w' : World) (o : Option (List Evt)) (e : Ending) : Prop :=
  ((∃ L A c, o = some L ∧ e = .returned (.tuple #[.slice A L.length c, .bool true]) ∧ LiV 4 encE w' (fun b => w.heap.size ≤ b) (.slice A L.length c) L) ∨ (o = none ∧ ∃ A n c, e = .returned (.tuple #[.slice A n c, .bool false]))) ∧ Below w.heap.size w w'
theorem LineOut.no {w w' : World} {o : Option (List Evt)} {A : Option Addr} {n c : Nat} (ho : o = none) (hb : Below w.heap.size w w') : LineOut w w' o (.returned (.tuple #[.slice A n c, .bool false])) := ⟨.inr ⟨ho, A, n, c, rfl⟩, hb⟩
theorem LineOut.nil {w w' : World} {o : Option (List Evt)} (ho : o = some []) (hb : Below w.heap.size w w') : LineOut w w' o (.returned (.tuple #[.slice none 0 0, .bool true])) := ⟨.inl ⟨[], none, 0, ho, rfl, LiV.own encE_len (by decide) (World.ownsRow_nil w' w.heap.size 40 4)⟩, hb⟩
theorem LineOut.yes {w w' : World} {o : Option (List Evt)} {L : List Evt} {A : Option Addr} {n c : Nat} (ho : o = some L) (hn : n = L.length) (hL : w'.ownsRow w.heap.size 40 4 (.slice A n c) n (flatL encE L)) (hb : Below w.heap.size w w') : LineOut w w' o (.returned (.tuple #[.slice A n c, .bool true])) := by
  subst hn
  exact ⟨.inl ⟨L, A, c, ho, rfl, LiV.own encE_len (by decide) hL⟩, hb⟩
theorem LineOut.one {w : World} {o : Option (List Evt)} {x : Evt} (ho : o = some [x]) : LineOut w (w.alloc (.cells #[.int .i64 x.kind, .int .u8 x.byte, .int .i64 x.rows, .int .i64 x.cols] 40)) o (.returned (.tuple #[.slice (some ⟨w.heap.size, 0, none⟩) 1 1, .bool true])) :=
  LineOut.yes ho rfl (own_newN w #[.int .i64 x.kind, .int .u8 x.byte, .int .i64 x.rows, .int .i64 x.cols] 40 4 1 rfl (by decide)) ((Below.refl _ _).alloc (Nat.le_refl _) _)
set_option maxHeartbeats 4000000 in
theorem rline_bytes (s : ByteArray) (h8 : 8 ≤ s.size) (h70 : s.size ≤ 70) (h2 : s.size % 2 = 0) (h00 : 0 < s.size) (h0 : (s[0]'h00).toNat ≠ 35) (ht : s.data.toList ≠ tickT) (hz : preB s.data.toList sizeT = false) (hb : preB s.data.toList bytesT = true) (w : World) : Calls Tryd.prog 20 #[.string s] w fun e w' => LineOut w w' (hexE (s.data.toList.drop 6)) e := by
  have hsz : s.data.toList.length = s.size := Array.length_toList
  obtain ⟨R, hR⟩ : ∃ R, hexE (s.data.toList.drop 6) = R := ⟨_, rfl⟩
  have HR := Lib.hid (show (hexE (s.data.toList.drop 6)).map (([] : List Evt) ++ ·) = R by rw [← hR]; cases hexE (s.data.toList.drop 6) <;> rfl)
  rw [hR]
  clear hR
  have C1 := Lib.hid (rbegins_any s ⟨#[115, 105, 122, 101, 32]⟩ (by omega) (by decide) w)
  have C2 := Lib.hid (rbegins_any s ⟨#[98, 121, 116, 101, 115, 32]⟩ (by omega) (by decide) w)
  have e1 : preB s.data.toList (ByteArray.mk #[115, 105, 122, 101, 32]).data.toList = false := hz
  have e2 : preB s.data.toList (ByteArray.mk #[98, 121, 116, 101, 115, 32]).data.toList = true := hb
  rw [e1] at C1
  rw [e2] at C2
  have e3 : (s.toList == [116, 105, 99, 107]) = false := by
    have := str_eq s tickT
    rw [decide_eq_false ht] at this
    exact this
  obtain ⟨e4, e5⟩ := str_some h00
  have d0 : (0 : Int) < (s.size : Int) := by omega
  have d1 : (((s[0]'h00).toNat : Int) == 35) = false := by simp; omega
  have d2 : ((s.size : Int).tmod 2) = 0 := by rw [Int.tmod_eq_emod_of_nonneg (by omega)]; omega
  have d3 : ¬ (s.size : Int) < 8 := by omega
  have d4 : ¬ (70 : Int) < (s.size : Int) := by omega
  clear h0 ht hz hb e1 e2
  go_enter Tryd.func20, Tryd.ntmps20
  go_wp2_with fail
  refine C1.out.mono ?_
  rintro e w1 ⟨rfl, rfl⟩
  go_wp2_with fail
  refine C2.out.mono ?_
  rintro e w1 ⟨rfl, rfl⟩
  clear C1 C2
  go_wp2
  go_loopw [7, 8] (fun o i wr => ∃ j k A c, j ≤ s.size ∧ 6 + 2 * k = j ∧ i = .int .i64 ((j : Nat) : Int) ∧ o = .slice A k c ∧ Hid (∃ done, (hexE (s.data.toList.drop j)).map (done ++ ·) = R ∧ done.length = k ∧ wr.ownsRow w.heap.size 40 4 (.slice A k c) k (flatL encE done) ∧ Below w.heap.size w wr)) (fun _ i _ => s.size - (intOf i).toNat)
  case atStart => exact ⟨6, 0, none, 0, by omega, rfl, rfl, rfl, Lib.hid ⟨[], HR.out, rfl, World.ownsRow_nil _ _ _ _, Below.refl _ _⟩⟩
  case round =>
    clear e3 e4 e5 d0 d1 d2 d3 d4
    obtain ⟨j, k, A, c, hj, hjk, rfl, rfl, H⟩ := hrel
    obtain ⟨done, h1, h2', h3, h4⟩ := H.out
    have H1 := Lib.hid (And.intro h1 (And.intro h2' (And.intro h3 h4)))
    clear H h1 h2' h3 h4
    have hz := H1.out.2.2.2.size
    by_cases hlt : j < s.size
    · have hlt1 : j + 1 < s.size := by omega
      have hji : (j : Int) < (s.size : Int) := by omega
      have hj0 : (0 : Int) ≤ (j : Int) := by omega
      have hji1 : (j : Int) + 1 < (s.size : Int) := by omega
      have hj01 : (0 : Int) ≤ (j : Int) + 1 := by omega
      have hjn : ((j : Int) + 1).toNat = j + 1 := by omega
      have HS := Lib.hid (hexE_step (byte_at s hlt) (byte_at s hlt1) done)
      obtain ⟨x, hx⟩ : ∃ x, (s[j]'hlt).toNat = x := ⟨_, rfl⟩
      obtain ⟨y, hy⟩ : ∃ y, (s[j + 1]'hlt1).toNat = y := ⟨_, rfl⟩
      have hx2 : x < 256 := by rw [← hx]; exact byte_toNat_lt _
      have hy2 : y < 256 := by rw [← hy]; exact byte_toNat_lt _
      rw [hx, hy] at HS
      have CX := Lib.hid (fun (X : World) => rdigit_any x hx2 X)
      have CY := Lib.hid (fun (X : World) => rdigit_any y hy2 X)
      have hdx := dig_lo x
      have hdy := dig_lo y
      have hex := dig_hi x
      have hey := dig_hi y
      obtain ⟨a, ha⟩ : ∃ a, digP x = a := ⟨_, rfl⟩
      obtain ⟨b, hb⟩ : ∃ b, digP y = b := ⟨_, rfl⟩
      rw [ha] at HS CX hdx hex
      rw [hb] at HS CY hdy hey
      clear ha hb hx2 hy2
      go_wp2_with fail
      go_quiet ((go_at_call 36; first | with_reducible exact quiet_here (CX.out _) | with_reducible exact quiet_here (CY.out _)))
      clear CX CY hx hy hji1 hj01 hjn
      by_cases ha : a < 0
      · obtain rfl : R = none := by rw [← H1.out.1, HS.out, if_pos (.inl ha)]
        clear HS
        go_wp2
        go_ret2
        exact LineOut.no rfl (below_drewN H1.out.2.2.2 _)
      · by_cases hb : b < 0
        · obtain rfl : R = none := by rw [← H1.out.1, HS.out, if_pos (.inr hb)]
          clear HS
          go_wp2
          go_ret2
          exact LineOut.no rfl (below_drewN H1.out.2.2.2 _)
        · have HN := Lib.hid (show (hexE (s.data.toList.drop (j + 2))).map ((done ++ [⟨1, 16 * a + b, 0, 0⟩]) ++ ·) = R by
            rw [← H1.out.1, HS.out, if_neg (by omega)])
          have f1 : IntKind.u8.wrap (16 * a + b) = 16 * a + b := IntWalk.u8_in _ (by omega)
          have f2 : IntKind.i64.wrap (16 * a) = 16 * a := IntWalk.i64_in _ (by omega)
          have f3 : IntKind.i64.wrap (16 * a + b) = 16 * a + b := IntWalk.i64_in _ (by omega)
          have f4 : IntKind.i64.wrap ((j : Int) + 2) = (j : Int) + 2 := IntWalk.i64_in _ (by omega)
          have HO := Lib.hid (show (wr.drewN nq).ownsRow w.heap.size 40 4 (.slice A k c) k (flatL encE done) from H1.out.2.2.1)
          have hz2 : w.heap.size ≤ (wr.drewN nq).heap.size := hz
          have HB := Lib.hid (below_drewN H1.out.2.2.2 nq)
          clear HS
          go_wp2_with (at_builtin; refine wpList_push evt_elt HO.out hz2 rfl rfl rfl rfl rfl rfl rfl (by unfold maxLen; omega) (by omega) ?_; intro A3 c3 w3 hp; have HQ := Lib.hid (And.intro hp.own (hp.below HB.out HO.out (Nat.le_refl _))); clear hp)
          go_roundw
          case rel => exact ⟨j + 2, k + 1, A3, c3, by omega, by omega, by go_num, rfl, Lib.hid ⟨done ++ [⟨1, 16 * a + b, 0, 0⟩], HN.out, by simp [H1.out.2.1], by rw [flatL_snoc]; exact HQ.out.1, HQ.out.2⟩⟩
          case measure => simp [intOf]; omega
    · obtain rfl : j = s.size := by omega
      have hd : decide ((s.size : Int) < (s.size : Int)) = false := by simp
      have HE := Lib.hid (show some done = R by rw [← H1.out.1]; exact (hexE_end (l := s.data.toList) (by omega) done).symm)
      go_wp2
      go_ret2
      exact LineOut.yes HE.out.symm H1.out.2.1.symm H1.out.2.2.1 H1.out.2.2.2
end Go.Proofs.YtjkhkohlejkdlaaDoor
