/- ring: Add, Top, Turn, Join, All. -/
import Derived.Test.YtnninkbkndddhaaRing1
namespace Go.Proofs.Ytnninkbkndddhaa
open Go.RowKit
set_option linter.unusedVariables false
set_option linter.unusedSimpArgs false

/-- A ring that is told. -/
def TellsR (L : List (List Int)) (k : Nat) (S : Nat → Prop) (w : World) (e : Ending) (w' : World) : Prop := ∃ A n c, e = .returned (.agg #[.slice A n c, .int .i64 k]) ∧ TxtsS w' (New w S) (.slice A n c) L ∧ Below w.heap.size w w'

set_option maxHeartbeats 2000000 in
theorem add_any (u v : Value) (L : List (List Int)) (l : List Int) (k : Int) (S : Nat → Prop) (w : World) (hL : TxtsS w S u L) (hn : L.length ≤ 1000) (hl : Txt w v l) (hm : l.length ≤ 1000000) :
    Calls Try.prog 6 #[.agg #[u, .int .i64 k], v] w (TellsR (l :: L.take 59) 0 S w) := by
  have HV := Lib.hid hl
  obtain ⟨A, c, rfl, hc, hc2⟩ := hL.is
  have fin (m : Nat) (hm59 : m ≤ 59) (hmn : m ≤ L.length) (htk : L.take m = L.take 59) : Hid (TxtsS w (fun b => b < w.heap.size ∧ S b) (.slice A m c) (L.take 59)) := Lib.hid (htk ▸ TxtsS.take hL.old m hmn)
  have hlen : (L.take 59).length ≤ 59 := List.length_take_le _ _
  clear hl
  rcases Nat.lt_or_ge 59 L.length with h59 | h59
  · have HT := fin 59 (Nat.le_refl _) (by omega) rfl
    clear fin hL
    have h59c : (59 : Int) ≤ (c : Int) := by omega
    go_enter Try.func6, Try.ntmps6
    go_wp2_with fail
    refine (clone_any v l _ (HV.out.later (below_two w _ _)) (by omega)).mono ?_
    rintro e w1 ⟨A1, n1, c1, rfl, ht1, hb1⟩
    obtain ⟨⟨z0, z1⟩, B0, B1, hbw⟩ := two_later hb1
    have H1 : Hid (TxtS w1 (Out2 w S) (.slice A1 n1 c1) l) := Lib.hid (Sl.mono ht1 fun b hb => .inr (by simpa [World.size_alloc] using hb))
    have HB := Lib.hid (And.intro B1 hbw)
    clear ht1 hb1 B0 B1 hbw
    go_wp2_with fail
    have hz1 : w.heap.size + 2 ≤ w1.heap.size := by omega
    have ha1 : TxtsS ((w1.alloc (.cells #[.slice A1 n1 c1] 26)).alloc (.cells #[.slice (some ⟨w1.heap.size, 0, none⟩) 1 1, .slice A 59 c] 22)) (Out2 w S) (.slice (some ⟨w1.heap.size, 0, none⟩) 1 1) [l] := (txts_one _ H1.out (.inr hz1)).later ((Below.refl _ _).alloc (Nat.le_refl _) _)
    have ha2 : TxtsS ((w1.alloc (.cells #[.slice A1 n1 c1] 26)).alloc (.cells #[.slice (some ⟨w1.heap.size, 0, none⟩) 1 1, .slice A 59 c] 22)) (Out2 w S) (.slice A 59 c) (L.take 59) := ((HT.out.mono fun b hb => .inl hb).later HB.out.2).later (below_two w1 _ _)
    have HC := Lib.hid (concatT2 (some ⟨w1.heap.size + 1, 0, none⟩) 2 1 1 59 c _ _ [l] (L.take 59) (Out2 w S) _ (two_new1 w1 _ _ _ 22) ha1 ha2 (by simp only [List.length_cons, List.length_nil]; omega))
    clear ha1 ha2
    (with_reducible refine HC.out.mono ?_)
    rintro e w2 ⟨A2, n2, c2, rfl, ht2, hb2⟩
    have B2 := HB.out.1.later (((below_two w1 _ _).trans (hb2.mono (below_two w1 _ _).size))) HB.out.1.1
    have hbw2 := HB.out.2.trans (((below_two w1 _ _).trans (hb2.mono (below_two w1 _ _).size)).mono HB.out.2.size)
    have ht3 : TxtsS w2 (Out2 w S) (.slice A2 n2 c2) (l :: L.take 59) := ht2.mono fun b hb => by
      rcases hb with hb | hb
      · simp only [World.size_alloc] at hb; exact .inr (by omega)
      · exact hb
    have H3 := Lib.hid (And.intro ht3 hbw2)
    have HB2 := Lib.hid B2
    obtain ⟨y2, k2, j2⟩ := (show _ from B2)
    clear ht3 hbw2 B2 ht2 hb2
    go_wp2
    refine at_world (Stored w S (w.heap.size + 1) (.slice A2 n2 c2) (.int .i64 0) (l :: L.take 59)) ?_ ?_
    · exact stored_of HB2.out H3.out.2 H3.out.1
    rintro X ⟨x0, x1, hts, hX⟩
    refine bodyPost_ret (v := .agg #[.slice A2 n2 c2, .int .i64 0]) (by simp [results, Try.results6, go_sem, x0, x1]) rfl ⟨_, _, _, rfl, hts, hX⟩
  · have HT := fin L.length h59 (Nat.le_refl _) (by rw [List.take_of_length_le (Nat.le_refl _), List.take_of_length_le h59])
    clear fin hL
    go_enter Try.func6, Try.ntmps6
    go_wp2_with fail
    refine (clone_any v l _ (HV.out.later (below_two w _ _)) (by omega)).mono ?_
    rintro e w1 ⟨A1, n1, c1, rfl, ht1, hb1⟩
    obtain ⟨⟨z0, z1⟩, B0, B1, hbw⟩ := two_later hb1
    have H1 : Hid (TxtS w1 (Out2 w S) (.slice A1 n1 c1) l) := Lib.hid (Sl.mono ht1 fun b hb => .inr (by simpa [World.size_alloc] using hb))
    have HB := Lib.hid (And.intro B1 hbw)
    clear ht1 hb1 B0 B1 hbw
    go_wp2_with fail
    have hz1 : w.heap.size + 2 ≤ w1.heap.size := by omega
    have ha1 : TxtsS ((w1.alloc (.cells #[.slice A1 n1 c1] 26)).alloc (.cells #[.slice (some ⟨w1.heap.size, 0, none⟩) 1 1, .slice A L.length c] 22)) (Out2 w S) (.slice (some ⟨w1.heap.size, 0, none⟩) 1 1) [l] := (txts_one _ H1.out (.inr hz1)).later ((Below.refl _ _).alloc (Nat.le_refl _) _)
    have ha2 : TxtsS ((w1.alloc (.cells #[.slice A1 n1 c1] 26)).alloc (.cells #[.slice (some ⟨w1.heap.size, 0, none⟩) 1 1, .slice A L.length c] 22)) (Out2 w S) (.slice A L.length c) (L.take 59) := ((HT.out.mono fun b hb => .inl hb).later HB.out.2).later (below_two w1 _ _)
    have HC := Lib.hid (concatT2 (some ⟨w1.heap.size + 1, 0, none⟩) 2 1 1 L.length c _ _ [l] (L.take 59) (Out2 w S) _ (two_new1 w1 _ _ _ 22) ha1 ha2 (by simp only [List.length_cons, List.length_nil]; omega))
    clear ha1 ha2
    (with_reducible refine HC.out.mono ?_)
    rintro e w2 ⟨A2, n2, c2, rfl, ht2, hb2⟩
    have B2 := HB.out.1.later (((below_two w1 _ _).trans (hb2.mono (below_two w1 _ _).size))) HB.out.1.1
    have hbw2 := HB.out.2.trans (((below_two w1 _ _).trans (hb2.mono (below_two w1 _ _).size)).mono HB.out.2.size)
    have ht3 : TxtsS w2 (Out2 w S) (.slice A2 n2 c2) (l :: L.take 59) := ht2.mono fun b hb => by
      rcases hb with hb | hb
      · simp only [World.size_alloc] at hb; exact .inr (by omega)
      · exact hb
    have H3 := Lib.hid (And.intro ht3 hbw2)
    have HB2 := Lib.hid B2
    obtain ⟨y2, k2, j2⟩ := (show _ from B2)
    clear ht3 hbw2 B2 ht2 hb2
    go_wp2
    refine at_world (Stored w S (w.heap.size + 1) (.slice A2 n2 c2) (.int .i64 0) (l :: L.take 59)) ?_ ?_
    · exact stored_of HB2.out H3.out.2 H3.out.1
    rintro X ⟨x0, x1, hts, hX⟩
    refine bodyPost_ret (v := .agg #[.slice A2 n2 c2, .int .i64 0]) (by simp [results, Try.results6, go_sem, x0, x1]) rfl ⟨_, _, _, rfl, hts, hX⟩

end Go.Proofs.Ytnninkbkndddhaa
