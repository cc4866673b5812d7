/- trie: TrieTypes. -/
import Derived.Test.YtpbdamjpjpchiaaTs6
import Derived.Test.YtpbdamjpjpchiaaTb6
import Derived.Test.YtpbdamjpjpchiaaTrNo
namespace Go.Proofs.Ytpbdamjpjpchiaa
open Go.RowKit Go.Maps
set_option linter.unusedVariables false
set_option linter.unusedSimpArgs false
set_option maxRecDepth 100000

theorem pval_one {τ : Type} (f t : Int) (v z : τ) (r : Int) : pval [⟨f, t, v⟩] z r = if f ≤ r ∧ r ≤ t then v else z := by
  unfold pval
  rw [pget_cons]
  split <;> rfl
theorem one_s (w : World) (f t : Int) (x : ByteArray) (ty : TypeId) : LiV 3 TS.encP (w.alloc (.cells #[.int .i64 f, .int .i64 t, .string x] ty)) (fun _ => True) (.slice (some ⟨w.heap.size, 0, none⟩) 1 1) [⟨f, t, x⟩] :=
  ⟨_, 1, rfl, (Li.new TS.encP_len w _ ty (by simp [flatL, TS.encP])).mono fun _ _ => trivial, (fun h => by cases h), Nat.le_refl _, by decide⟩
theorem one_b (w : World) (f t : Int) (x : Bool) (ty : TypeId) : LiV 3 TB.encP (w.alloc (.cells #[.int .i64 f, .int .i64 t, .bool x] ty)) (fun _ => True) (.slice (some ⟨w.heap.size, 0, none⟩) 1 1) [⟨f, t, x⟩] :=
  ⟨_, 1, rfl, (Li.new TB.encP_len w _ ty (by simp [flatL, TB.encP])).mono fun _ _ => trivial, (fun h => by cases h), Nat.le_refl _, by decide⟩
/-- What Get tells of a trie of one piece. -/
def inT (f t i : Int) : Prop := (0 ≤ i ∧ i < 500) ∧ f ≤ i ∧ i ≤ t
theorem get_s {base tb mb : Nat} {hd : TS.Hd} {Bs : List (List ByteArray)} {Ix : List Nat} {l : List ByteArray → Option Nat} {W : World} {f t : Int} {x : ByteArray} (h : TS.BtI base (pval [⟨f, t, x⟩] ⟨#[]⟩) 500 tb mb hd Bs Ix l W) (i : Int) (v : ByteArray) (hv : (inT f t i ∧ v = x) ∨ (¬ inT f t i ∧ v = ⟨#[]⟩)) :
    Calls Try.prog 20 #[.pointer (some ⟨tb, 0, none⟩), .int .i64 i] W (fun e w' => e = .returned (.string v) ∧ Below W.heap.size W w') := by
  by_cases hi : 0 ≤ i ∧ i < 500
  · obtain ⟨n, rfl⟩ := Int.eq_ofNat_of_zero_le hi.1
    have hc := TS.get_any h (by omega) n (by omega)
    rw [pval_one] at hc
    have e : (if f ≤ (n : Int) ∧ (n : Int) ≤ t then x else ⟨#[]⟩) = v := by
      unfold inT at hv
      rcases hv with ⟨h1, rfl⟩ | ⟨h1, rfl⟩
      · rw [if_pos h1.2]
      · rw [if_neg fun h2 => h1 ⟨hi, h2⟩]
    rw [e] at hc
    exact hc
  · have hc := TS.get_out h i (by omega)
    rcases hv with ⟨h1, _⟩ | ⟨h1, rfl⟩
    · exact absurd h1.1 hi
    · exact hc
theorem get_b {base tb mb : Nat} {hd : TB.Hd} {Bs : List (List Bool)} {Ix : List Nat} {l : List Bool → Option Nat} {W : World} {f t : Int} (h : TB.BtI base (pval [⟨f, t, true⟩] false) 500 tb mb hd Bs Ix l W) (i : Int) (v : Bool) (hv : (inT f t i ∧ v = true) ∨ (¬ inT f t i ∧ v = false)) :
    Calls Try.prog 21 #[.pointer (some ⟨tb, 0, none⟩), .int .i64 i] W (fun e w' => e = .returned (.bool v) ∧ Below W.heap.size W w') := by
  by_cases hi : 0 ≤ i ∧ i < 500
  · obtain ⟨n, rfl⟩ := Int.eq_ofNat_of_zero_le hi.1
    have hc := TB.get_any h (by omega) n (by omega)
    rw [pval_one] at hc
    have e : (if f ≤ (n : Int) ∧ (n : Int) ≤ t then true else false) = v := by
      unfold inT at hv
      rcases hv with ⟨h1, rfl⟩ | ⟨h1, rfl⟩
      · rw [if_pos h1.2]
      · rw [if_neg fun h2 => h1 ⟨hi, h2⟩]
    rw [e] at hc
    exact hc
  · have hc := TB.get_out h i (by omega)
    rcases hv with ⟨h1, _⟩ | ⟨h1, rfl⟩
    · exact absurd h1.1 hi
    · exact hc

set_option maxHeartbeats 4000000 in
theorem walk_TrieTypes (f : Int) (_wf : (Lit.int .i64 f).wf = true) (t : Int) (_wt : (Lit.int .i64 t).wf = true) (x : ByteArray) (wx : x.size ≤ maxLen) (i : Int) (_wi : (Lit.int .i64 i).wf = true) (W : World) :
    Calls Try.prog 6 #[.int .i64 f, .int .i64 t, .string x, .int .i64 i] W (Yes W) := by
  have B0 := Lib.hid (show ∀ ty, Calls Try.prog 18 #[.int .i64 500, .string ⟨#[]⟩, .slice (some ⟨W.heap.size, 0, none⟩) 1 1] (W.alloc (.cells #[.int .i64 f, .int .i64 t, .string x] ty)) (TS.Built (pval [⟨f, t, x⟩] ⟨#[]⟩) 500 (W.alloc (.cells #[.int .i64 f, .int .i64 t, .string x] ty))) from fun ty => TS.build_any 500 ⟨#[]⟩ _ 1 1 [⟨f, t, x⟩] _ (one_s W f t x ty) (by simp) (by omega) (by omega) (fun r => by
    rw [pval_one]
    unfold TS.WV
    split
    · exact wx
    · exact Nat.zero_le _))
  clear _wf _wt _wi wx
  go_enter Try.func6, Try.ntmps6
  go_wp2_with fail
  (with_reducible refine (B0.out _).mono ?_)
  rintro e W1 ⟨tb, mb, hd, Bs, Ix, l, rfl, hbt, hb⟩
  have H1 := Lib.hid (And.intro hbt (below_step (belAlloc W _) hb))
  clear hbt hb B0
  have B1 := Lib.hid (show ∀ ty, Calls Try.prog 19 #[.int .i64 500, .bool false, .slice (some ⟨W1.heap.size, 0, none⟩) 1 1] (W1.alloc (.cells #[.int .i64 f, .int .i64 t, .bool true] ty)) (TB.Built (pval [⟨f, t, true⟩] false) 500 (W1.alloc (.cells #[.int .i64 f, .int .i64 t, .bool true] ty))) from fun ty => TB.build_any 500 false _ 1 1 [⟨f, t, true⟩] _ (one_b W1 f t true ty) (by simp) (by omega) (by omega) (fun r => trivial))
  go_wp2_with fail
  (with_reducible refine (B1.out _).mono ?_)
  rintro e W2 ⟨tb2, mb2, hd2, Bs2, Ix2, l2, rfl, hbt, hb⟩
  have H2 := Lib.hid (And.intro (H1.out.1.later (below_step (belAlloc W1 _) hb)) (And.intro hbt (below_step H1.out.2 (below_step (belAlloc W1 _) hb))))
  clear hbt hb B1 H1
  have G2 := Lib.hid (fun X (hX : Below W2.heap.size W2 X) v hv => get_b (H2.out.2.1.later hX) i v hv)
  have AW := Lib.hid (fun X => awake_yes X)
  by_cases hin : inT f t i
  · have G1 := Lib.hid (get_s H2.out.1 i x (.inl ⟨hin, rfl⟩))
    have d1 : decide ((0 : Int) ≤ i) = true := decide_eq_true hin.1.1
    have d2 : decide (i < (500 : Int)) = true := decide_eq_true hin.1.2
    have d3 : decide (f ≤ i) = true := decide_eq_true hin.2.1
    have d4 : decide (i ≤ t) = true := decide_eq_true hin.2.2
    have HI := Lib.hid hin
    clear hin
    go_wp2_with fail
    (with_reducible refine G1.out.mono ?_)
    rintro e W3 ⟨rfl, hb3⟩
    have B3 := Lib.hid hb3
    have G3 := Lib.hid (G2.out W3 hb3 true (.inl ⟨HI.out, rfl⟩))
    clear hb3 G1 G2
    go_wp2_with fail
    (with_reducible refine G3.out.mono ?_)
    rintro e W4 ⟨rfl, hb4⟩
    have B4 := Lib.hid (below_step B3.out hb4)
    clear hb4
    go_wp2_with fail
    (with_reducible refine (AW.out _).mono ?_)
    rintro e W5 ⟨rfl, hb5⟩
    have B5 := Lib.hid (below_step H2.out.2.2 (below_step B4.out hb5))
    clear hb5
    go_wp2
    go_ret
    exact ⟨rfl, B5.out⟩
  · have G1 := Lib.hid (get_s H2.out.1 i ⟨#[]⟩ (.inr ⟨hin, rfl⟩))
    have HI := Lib.hid hin
    have key : ∀ (bb : Bool), True := fun _ => trivial
    have hcs : (decide ((0 : Int) ≤ i) = false) ∨ (decide ((0 : Int) ≤ i) = true ∧ decide (i < (500 : Int)) = false) ∨ (decide ((0 : Int) ≤ i) = true ∧ decide (i < (500 : Int)) = true ∧ decide (f ≤ i) = false) ∨ (decide ((0 : Int) ≤ i) = true ∧ decide (i < (500 : Int)) = true ∧ decide (f ≤ i) = true ∧ decide (i ≤ t) = false) := by
      unfold inT at hin
      simp only [decide_eq_true_eq, decide_eq_false_iff_not]
      omega
    clear hin key
    rcases hcs with d1 | ⟨d1, d2⟩ | ⟨d1, d2, d3⟩ | ⟨d1, d2, d3, d4⟩
    all_goals
      go_wp2_with fail
      (with_reducible refine G1.out.mono ?_)
      rintro e W3 ⟨rfl, hb3⟩
      have B3 := Lib.hid hb3
      have G3 := Lib.hid (G2.out W3 hb3 false (.inr ⟨HI.out, rfl⟩))
      clear hb3 G1 G2
      go_wp2_with fail
      (with_reducible refine G3.out.mono ?_)
      rintro e W4 ⟨rfl, hb4⟩
      have B4 := Lib.hid (below_step B3.out hb4)
      clear hb4
      go_wp2_with fail
      (with_reducible refine (AW.out _).mono ?_)
      rintro e W5 ⟨rfl, hb5⟩
      have B5 := Lib.hid (below_step H2.out.2.2 (below_step B4.out hb5))
      clear hb5
      go_wp2
      go_ret
      exact ⟨rfl, B5.out⟩
end Go.Proofs.Ytpbdamjpjpchiaa
