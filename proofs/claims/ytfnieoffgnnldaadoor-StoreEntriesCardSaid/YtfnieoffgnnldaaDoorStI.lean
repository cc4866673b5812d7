/- store: StoreEntries' walk. -/
import Derived.Test.YtfnieoffgnnldaaDoorStH
import Derived.Test.YtfnieoffgnnldaaDoorFewT
namespace Go.Proofs.YtfnieoffgnnldaaDoor
open Go.RowKit
set_option linter.unusedVariables false
set_option linter.unusedSimpArgs false

set_option maxRecDepth 100000 in
set_option maxHeartbeats 8000000 in
theorem walk_StoreEntries (W : World) (hM : MaxW W) (s : ByteArray) (v : Value) (l : List Int) (hL : Txt W v l) (hr : ∀ x ∈ l, -2147483648 ≤ x ∧ x ≤ 2147483647) : Calls Tryd.prog 3 #[.string s, v] W (YesO W) := by
  have HM := Lib.hid hM
  have HL := Lib.hid hL
  have HRG := Lib.hid hr
  have CF := Lib.hid (few_any v l 60 W hL (by omega))
  obtain ⟨A0, c0, rfl, _, _⟩ := Sl.is hL
  clear hM hL hr
  by_cases hn : 500 < s.size
  · have hni : (500 : Int) < (s.size : Int) := by omega
    obtain ⟨u, hu⟩ : ∃ u, s.extract 0 500 = u := ⟨_, rfl⟩
    have husz : u.size ≤ 500 := by rw [← hu, ByteArray.size_extract]; omega
    clear hn
    go_enter Tryd.func3, Tryd.ntmps3
    go_wp2_with fail
    refine CF.out.mono ?_
    rintro e w1 ⟨A, c, rfl, hT1, rfl⟩
    have hX := hT1 W _ HL.out
    have HX := Lib.hid hX
    clear hT1 hX CF hu hni
    obtain ⟨m, hm⟩ : ∃ m, l.take 60 = m := ⟨_, rfl⟩
    have hml : m.length ≤ 60 := by rw [← hm, List.length_take]; omega
    have hmr : ∀ x ∈ m, -2147483648 ≤ x ∧ x ≤ 2147483647 := fun x hx => HRG.out x (List.mem_of_mem_take (by rw [hm]; exact hx))
    rw [hm] at HX ⊢
    clear hm
    have hel := entI_len m
    have htl := txtI_len m
    have hrd : ∀ X, Below W.heap.size W X → Rd X A m.length (iv fun j => m.getD j 0) := fun X hX => (Sl.parts HX.out).2.1.later hX
    have hpr : ∀ j, j < m.length → -2147483648 ≤ m.getD j 0 ∧ m.getD j 0 ≤ 2147483647 := fun j hj => by
      have := hmr (m[j]) (List.getElem_mem hj)
      simpa [List.getD, hj] using this
    have C1 := Lib.hid (append_any u (by omega) A m.length c (fun j => m.getD j 0) W HM.out (by omega) (hrd W (Below.refl _ _)) hpr)
    have hap : appP u (upTo (fun j => m.getD j 0) m.length) = (u ++ strOfNums (entI m), 0) := by
      rw [upTo_all]
      unfold appP
      rw [if_neg (by omega)]
    rw [hap] at C1
    have C2 := Lib.hid (fun X (hX : Below W.heap.size W X) => entry_any A m.length c (fun j => m.getD j 0) X (HM.out.later hX) (by omega) (hrd X hX) hpr)
    have C3 := Lib.hid (fun X (hX : Below W.heap.size W X) => rentry_any A m.length c (fun j => m.getD j 0) X (by omega) (hrd X hX) hpr)
    rw [upTo_all] at C2 C3
    unfold TellsS at C2 C3
    have hsz : (strOfNums (entI m)).size ≤ 1000 := by rw [strOfNums_size]; omega
    obtain ⟨E, hE⟩ : ∃ E, strOfNums (entI m) = E := ⟨_, rfl⟩
    rw [hE] at C1 C2 C3 hsz
    obtain ⟨n, hn⟩ : ∃ n, m.length = n := ⟨_, rfl⟩
    rw [hn] at C1 C2 C3 ⊢
    have q1 := fun w => run_cat w u E (by omega)
    have e1 : (E.toList == E.toList) = true := by simp
    have e2 : ((u ++ E).toList == (u ++ E).toList) = true := by simp
    clear hap hrd hpr hE hn hel htl hml hmr hsz
    go_wp2_with fail
    refine C1.out.mono ?_
    rintro e w2 ⟨rfl, b2⟩
    have H2 := Lib.hid b2
    clear b2 C1
    dsimp only
    go_wp2_with fail
    refine (C2.out w2 H2.out).mono ?_
    rintro e w3 ⟨rfl, b3⟩
    have H3 := Lib.hid (below_next H2.out b3)
    clear b3 C2
    go_wp2_with fail
    refine (C3.out w3 H3.out).mono ?_
    rintro e w4 ⟨rfl, b4⟩
    have H4 := Lib.hid (below_next H3.out b4)
    clear b4
    go_wp2_with fail
    refine (C3.out w4 H4.out).mono ?_
    rintro e w5 ⟨rfl, b5⟩
    have H5 := Lib.hid (below_next H4.out b5)
    clear b5 C3
    have C6 := Lib.hid (awake_yes w5 (HM.out.later H5.out))
    go_wp2_with fail
    refine C6.out.mono ?_
    rintro e w6 ⟨rfl, b6⟩
    have H6 := Lib.hid (below_next H5.out b6)
    clear b6 C6
    go_wp2_with fail
    go_ret
    exact ⟨rfl, H6.out⟩
  · have hni : ¬ (500 : Int) < (s.size : Int) := by omega
    have husz : s.size ≤ 500 := by omega
    clear hn
    go_enter Tryd.func3, Tryd.ntmps3
    go_wp2_with fail
    refine CF.out.mono ?_
    rintro e w1 ⟨A, c, rfl, hT1, rfl⟩
    have hX := hT1 W _ HL.out
    have HX := Lib.hid hX
    clear hT1 hX CF hni
    obtain ⟨m, hm⟩ : ∃ m, l.take 60 = m := ⟨_, rfl⟩
    have hml : m.length ≤ 60 := by rw [← hm, List.length_take]; omega
    have hmr : ∀ x ∈ m, -2147483648 ≤ x ∧ x ≤ 2147483647 := fun x hx => HRG.out x (List.mem_of_mem_take (by rw [hm]; exact hx))
    rw [hm] at HX ⊢
    clear hm
    have hel := entI_len m
    have htl := txtI_len m
    have hrd : ∀ X, Below W.heap.size W X → Rd X A m.length (iv fun j => m.getD j 0) := fun X hX => (Sl.parts HX.out).2.1.later hX
    have hpr : ∀ j, j < m.length → -2147483648 ≤ m.getD j 0 ∧ m.getD j 0 ≤ 2147483647 := fun j hj => by
      have := hmr (m[j]) (List.getElem_mem hj)
      simpa [List.getD, hj] using this
    have C1 := Lib.hid (append_any s (by omega) A m.length c (fun j => m.getD j 0) W HM.out (by omega) (hrd W (Below.refl _ _)) hpr)
    have hap : appP s (upTo (fun j => m.getD j 0) m.length) = (s ++ strOfNums (entI m), 0) := by
      rw [upTo_all]
      unfold appP
      rw [if_neg (by omega)]
    rw [hap] at C1
    have C2 := Lib.hid (fun X (hX : Below W.heap.size W X) => entry_any A m.length c (fun j => m.getD j 0) X (HM.out.later hX) (by omega) (hrd X hX) hpr)
    have C3 := Lib.hid (fun X (hX : Below W.heap.size W X) => rentry_any A m.length c (fun j => m.getD j 0) X (by omega) (hrd X hX) hpr)
    rw [upTo_all] at C2 C3
    unfold TellsS at C2 C3
    have hsz : (strOfNums (entI m)).size ≤ 1000 := by rw [strOfNums_size]; omega
    obtain ⟨E, hE⟩ : ∃ E, strOfNums (entI m) = E := ⟨_, rfl⟩
    rw [hE] at C1 C2 C3 hsz
    obtain ⟨n, hn⟩ : ∃ n, m.length = n := ⟨_, rfl⟩
    rw [hn] at C1 C2 C3 ⊢
    have q1 := fun w => run_cat w s E (by omega)
    have e1 : (E.toList == E.toList) = true := by simp
    have e2 : ((s ++ E).toList == (s ++ E).toList) = true := by simp
    clear hap hrd hpr hE hn hel htl hml hmr hsz
    go_wp2_with fail
    refine C1.out.mono ?_
    rintro e w2 ⟨rfl, b2⟩
    have H2 := Lib.hid b2
    clear b2 C1
    dsimp only
    go_wp2_with fail
    refine (C2.out w2 H2.out).mono ?_
    rintro e w3 ⟨rfl, b3⟩
    have H3 := Lib.hid (below_next H2.out b3)
    clear b3 C2
    go_wp2_with fail
    refine (C3.out w3 H3.out).mono ?_
    rintro e w4 ⟨rfl, b4⟩
    have H4 := Lib.hid (below_next H3.out b4)
    clear b4
    go_wp2_with fail
    refine (C3.out w4 H4.out).mono ?_
    rintro e w5 ⟨rfl, b5⟩
    have H5 := Lib.hid (below_next H4.out b5)
    clear b5 C3
    have C6 := Lib.hid (awake_yes w5 (HM.out.later H5.out))
    go_wp2_with fail
    refine C6.out.mono ?_
    rintro e w6 ⟨rfl, b6⟩
    have H6 := Lib.hid (below_next H5.out b6)
    clear b6 C6
    go_wp2_with fail
    go_ret
    exact ⟨rfl, H6.out⟩
end Go.Proofs.YtfnieoffgnnldaaDoor
