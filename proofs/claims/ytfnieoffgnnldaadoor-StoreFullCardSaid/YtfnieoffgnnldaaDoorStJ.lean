/- store: StoreFull's walk. -/
import Derived.Test.YtfnieoffgnnldaaDoorStH
import Derived.Laws.IdiomStrings
import Derived.OwnWalk
namespace Go.Proofs.YtfnieoffgnnldaaDoor
open Go.RowKit
set_option linter.unusedVariables false
set_option linter.unusedSimpArgs false

def low15 (z : Int) : Nat := (BitVec.ofInt 64 z &&& BitVec.ofInt 64 15).toNat
theorem low15_le (z : Int) : low15 z ≤ 15 := by
  unfold low15
  rw [BitVec.toNat_and]
  exact Nat.le_trans Nat.and_le_right (by decide)
theorem low15_bits (z : Int) : bits .and .i64 z 15 = (low15 z : Int) := by
  have h := low15_le z
  show IntKind.i64.wrap ((BitVec.ofInt 64 z &&& BitVec.ofInt 64 15).toNat : Int) = _
  exact IntWalk.i64_in _ (by unfold low15 at h; omega)
theorem conv_zero {w w' : World} {n : Nat} (h : w'.ownsRow w.heap.size 5 1 (.slice (some ⟨w.heap.size, 0, none⟩) n n) n (madeCells (Value.int .u8 0).cells (n * 1)).toList) :
    ∃ Z : ByteArray, (convert 47 9 (.slice (some ⟨w.heap.size, 0, none⟩) n n)).run Tryd.prog w' = .ok (.string Z) w' ∧ Z.size = n := by
  have hr := run_convert_bytes_back (P := Tryd.prog) w' 47 9 5 ⟨w.heap.size, 0, none⟩ n (List.replicate n 0) Tryd.underlying47 Tryd.underlying5 Tryd.underlying9 (fun j hj => by
    rw [List.length_replicate] at hj
    rw [List.getElem_replicate]
    have hc := h.cells (g := w.heap.size) rfl j (.int .u8 0) (by
      show (madeCells #[Value.int .u8 0] (n * 1)).toList[j]? = _
      rw [Array.getElem?_toList]
      simp [madeCells, hj, Nat.mod_one])
    exact hc)
  rw [List.length_replicate] at hr
  exact ⟨_, hr, by show (List.replicate n (0 : UInt8)).toArray.size = n; simp⟩
def p4 (j : Nat) : Int := [97, 98, 99, 100].getD j 0
theorem p4_ok : ∀ j, j < 4 → -2147483648 ≤ p4 j ∧ p4 j ≤ 2147483647 := by decide +kernel
theorem p4_new (w : World) : Rd (w.alloc (.cells #[.int .i32 97, .int .i32 98, .int .i32 99, .int .i32 100] 21)) (some ⟨w.heap.size, 0, none⟩) 4 (iv p4) := rd_new w _ _ 4 _ fun j hj => by
  match j, hj with
  | 0, _ => rfl
  | 1, _ => rfl
  | 2, _ => rfl
  | 3, _ => rfl
theorem ent_abcd : (entI (upTo p4 4)).length = 8 := by decide +kernel
set_option maxRecDepth 100000 in
set_option maxHeartbeats 8000000 in
theorem walk_StoreFull (W : World) (hM : MaxW W) (z : Int) (w0 : (Lit.int .i64 z).wf = true) : Calls Tryd.prog 7 #[.int .i64 z] W (YesO W) := by
  have HM := Lib.hid hM
  have hb := low15_bits z
  have hk3 := low15_le z
  obtain ⟨kk, hkk⟩ : ∃ a, low15 z = a := ⟨_, rfl⟩
  rw [hkk] at hb hk3
  obtain ⟨N, hN⟩ : ∃ N, 1048568 + kk = N := ⟨_, rfl⟩
  have v1 : IntKind.i64.wrap (1048568 + (kk : Int)) = (N : Int) := by rw [← hN]; exact IntWalk.i64_in _ (by omega)
  clear hM hkk w0
  obtain ⟨i0, hi0, hz0, hs0, hb0⟩ := info_parts (P := Tryd.prog) (e := 5) (z := .int .u8 0) (size := 1) (bytes := 1) (by kernel_rfl)
  have hS8 : (strOfNums (entI (upTo p4 4))).size = 8 := by rw [strOfNums_size, ent_abcd]
  have hap : ∀ s : ByteArray, appP s (upTo p4 4) = if 1048576 < s.size + 8 then (s, 3) else (s ++ strOfNums (entI (upTo p4 4)), 0) := fun s => by unfold appP; rw [ent_abcd]
  obtain ⟨E, hE⟩ : ∃ E, strOfNums (entI (upTo p4 4)) = E := ⟨_, rfl⟩
  have HE := Lib.hid hE
  rw [hE] at hS8 hap
  have HS8 := Lib.hid hS8
  clear hE hS8
  go_enter Tryd.func7, Tryd.ntmps7
  go_wp2_with (at_make; refine wpList_make_full W rfl _ _ _ rfl W.heap.size 5 i0 _ 1 Tryd.underlying47 hi0 hz0 hs0 .i64 .i64 _ _ N rfl rfl rfl rfl (by rw [hb0]; omega) (by unfold maxLen; omega) (Nat.le_refl _) ?_; intro w10 hown hg; obtain ⟨Z, hZ, hZ2⟩ := conv_zero hown; have HO := Lib.hid (((Below.refl W.heap.size W).grown hg (Nat.le_refl _) (fun k e => by cases e) : Below W.heap.size W w10)); clear hown hg)
  clear hi0 hz0 hs0 hb0
  have C1 := Lib.hid (rentry_any (some ⟨w10.heap.size, 0, none⟩) 4 4 p4 (w10.alloc (.cells #[.int .i32 97, .int .i32 98, .int .i32 99, .int .i32 100] 21)) (by decide) (p4_new w10) p4_ok)
  unfold TellsS at C1
  rw [HE.out] at C1
  go_wp2_with fail
  refine C1.out.mono ?_
  rintro e w1 ⟨rfl, b1⟩
  have H1 := Lib.hid (show Below W.heap.size W w1 from (HO.out.alloc HO.out.size _).trans (b1.mono (by have := HO.out.size; simp; omega)))
  clear b1 C1
  have C2 := Lib.hid (append_any Z (by omega) (some ⟨w1.heap.size, 0, none⟩) 4 4 p4 (w1.alloc (.cells #[.int .i32 97, .int .i32 98, .int .i32 99, .int .i32 100] 21)) (HM.out.later (H1.out.alloc H1.out.size _)) (by decide) (p4_new w1) p4_ok)
  rw [hap] at C2
  go_wp2_with fail
  refine C2.out.mono ?_
  rintro e w2 ⟨rfl, b2⟩
  have H2 := Lib.hid (show Below W.heap.size W w2 from (H1.out.alloc H1.out.size _).trans (b2.mono (by have := H1.out.size; simp; omega)))
  clear b2 C2
  have C3 := Lib.hid (awake_yes w2 (HM.out.later H2.out))
  have hS8 := HS8.out
  have v2 : IntKind.i64.wrap ((Z.size : Int) + (E.size : Int)) = (Z.size : Int) + (E.size : Int) := IntWalk.i64_in _ (by omega)
  by_cases h : 1048576 < Z.size + 8
  · rw [if_pos h]
    have d : (1048576 : Int) < (Z.size : Int) + (E.size : Int) := by omega
    clear hap hN v1 hb hk3 h hZ2 hS8
    dsimp only
    go_wp2_with fail
    refine C3.out.mono ?_
    rintro e w3 ⟨rfl, b3⟩
    have H3 := Lib.hid (below_next H2.out b3)
    clear b3 C3
    go_wp2_with fail
    go_ret
    exact ⟨rfl, H3.out⟩
  · rw [if_neg h]
    have d : ¬ (1048576 : Int) < (Z.size : Int) + (E.size : Int) := by omega
    have e9 : (((Z ++ E).size : Int) == (Z.size : Int) + (E.size : Int)) = true := by rw [size_cat]; simp
    clear hap hN v1 hb hk3 h hZ2 hS8
    dsimp only
    go_wp2_with fail
    refine C3.out.mono ?_
    rintro e w3 ⟨rfl, b3⟩
    have H3 := Lib.hid (below_next H2.out b3)
    clear b3 C3
    go_wp2_with fail
    go_ret
    exact ⟨rfl, H3.out⟩
end Go.Proofs.YtfnieoffgnnldaaDoor
