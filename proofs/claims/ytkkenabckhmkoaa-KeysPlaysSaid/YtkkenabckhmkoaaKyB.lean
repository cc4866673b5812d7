/- keys: control, lettered, named, chars. -/
import Derived.Test.YtkkenabckhmkoaaKyA
namespace Go.Proofs.Ytkkenabckhmkoaa
open Go.RowKit
set_option linter.unusedVariables false
set_option linter.unusedSimpArgs false
set_option maxRecDepth 100000

theorem control_any (b : Int) (w : World) : Calls Try.prog 37 #[.int .u8 b] w fun e w' => e = .returned (.bool (ctlB b)) ∧ w = w' := by
  unfold ctlB
  by_cases h : b < 32
  · have d1 : decide (b < 32) = true := decide_eq_true h
    rw [d1]
    go_enter Try.func37, Try.ntmps37
    go_wp2
    go_ret
    exact ⟨rfl, rfl⟩
  · have d1 : decide (b < 32) = false := decide_eq_false h
    rw [d1]
    go_enter Try.func37, Try.ntmps37
    go_wp2
    go_ret
    exact ⟨by simp, rfl⟩
theorem lettered_any (b : Int) (w : World) : Calls Try.prog 42 #[.int .u8 b] w fun e w' => e = .returned (.int .i32 (letteredK b)) ∧ w = w' := by
  by_cases h1 : b = 65
  · subst h1
    go_enter Try.func42, Try.ntmps42
    go_wp2
    go_ret
    exact ⟨rfl, rfl⟩
  by_cases h2 : b = 66
  · subst h2
    go_enter Try.func42, Try.ntmps42
    go_wp2
    go_ret
    exact ⟨rfl, rfl⟩
  by_cases h3 : b = 67
  · subst h3
    go_enter Try.func42, Try.ntmps42
    go_wp2
    go_ret
    exact ⟨rfl, rfl⟩
  by_cases h4 : b = 68
  · subst h4
    go_enter Try.func42, Try.ntmps42
    go_wp2
    go_ret
    exact ⟨rfl, rfl⟩
  by_cases h5 : b = 72
  · subst h5
    go_enter Try.func42, Try.ntmps42
    go_wp2
    go_ret
    exact ⟨rfl, rfl⟩
  by_cases h6 : b = 70
  · subst h6
    go_enter Try.func42, Try.ntmps42
    go_wp2
    go_ret
    exact ⟨rfl, rfl⟩
  have e : letteredK b = 0 := by unfold letteredK; rw [if_neg h1, if_neg h2, if_neg h3, if_neg h4, if_neg h5, if_neg h6]
  have d1 : (b == 65) = false := by simpa using h1
  have d2 : (b == 66) = false := by simpa using h2
  have d3 : (b == 67) = false := by simpa using h3
  have d4 : (b == 68) = false := by simpa using h4
  have d5 : (b == 72) = false := by simpa using h5
  have d6 : (b == 70) = false := by simpa using h6
  rw [e]
  clear e
  go_enter Try.func42, Try.ntmps42
  go_wp2
  go_ret
  exact ⟨rfl, rfl⟩
abbrev keyV (y : Ky) : Value := .agg #[.int .i64 y.k, .int .i32 y.r, .bool y.m, .slice none 0 0]
def KeyAt (w : World) (k r : Int) (m : Bool) (X : World) : Prop := X.cell? ⟨w.heap.size, 0, none⟩ = some (.int .i64 k) ∧ X.cell? ⟨w.heap.size, 1, none⟩ = some (.int .i32 r) ∧ X.cell? ⟨w.heap.size, 2, none⟩ = some (.bool m) ∧ X.cell? ⟨w.heap.size, 3, none⟩ = some (.slice none 0 0) ∧ Below w.heap.size w X
theorem keyAt_new (w : World) (k r : Int) (m : Bool) (t : TypeId) : KeyAt w k r m (w.alloc (.cells #[.int .i64 k, .int .i32 r, .bool m, .slice none 0 0] t)) := by
  have h := blk_new w #[.int .i64 k, .int .i32 r, .bool m, .slice none 0 0] t
  exact ⟨h.2.1 0, h.2.1 1, h.2.1 2, h.2.1 3, belAlloc _ _⟩
theorem named_any (n : Int) (w : World) : Calls Try.prog 40 #[.int .i32 n] w fun e w' => e = .returned (keyV (namedK n)) ∧ Below w.heap.size w w' := by
  by_cases h : n = 0
  · subst h
    have V := Lib.hid (keyAt_new w 5 0 false 47)
    go_enter Try.func40, Try.ntmps40
    go_wp2
    refine at_world (KeyAt w 5 0 false) V.out ?_
    rintro Z ⟨x0, x1, x2, x3, hb⟩
    have HB := Lib.hid hb
    clear hb
    refine bodyPost_ret (v := keyV (namedK 0)) (by simp [results, Try.results40, go_sem, x0, x1, x2, x3, namedK]) rfl ⟨rfl, HB.out⟩
  · have d1 : (n == 0) = false := by simpa using h
    have e : namedK n = ⟨3, n, false, []⟩ := if_neg h
    have V := Lib.hid (keyAt_new w 3 n false 47)
    rw [e]
    clear e h
    go_enter Try.func40, Try.ntmps40
    go_wp2
    refine at_world (KeyAt w 3 n false) V.out ?_
    rintro Z ⟨x0, x1, x2, x3, hb⟩
    have HB := Lib.hid hb
    clear hb
    refine bodyPost_ret (v := keyV ⟨3, n, false, []⟩) (by simp [results, Try.results40, go_sem, x0, x1, x2, x3]) rfl ⟨rfl, HB.out⟩
theorem charsK_snoc (m : Bool) {l : List Int} {k : Nat} {r : Int} (h : l[k]? = some r) : charsK m (l.take (k + 1)) = charsK m (l.take k) ++ [⟨1, r, m && decide (k = 0), []⟩] := by
  rw [take_snoc' h]
  cases k with
  | zero => simp [charsK]
  | succ k =>
    cases l with
    | nil => simp at h
    | cons a l =>
      simp only [List.take_succ_cons, List.cons_append, charsK, List.map_append]
      simp
theorem charsK_len (m : Bool) (l : List Int) : (charsK m l).length = l.length := by cases l <;> simp [charsK]
theorem charsK_bare (m : Bool) (l : List Int) : Bare (charsK m l) := by
  intro y hy
  cases l with
  | nil => simp [charsK] at hy
  | cons a l =>
    simp only [charsK, List.mem_cons, List.mem_map] at hy
    rcases hy with rfl | ⟨_, _, rfl⟩ <;> rfl
abbrev psC (s : KS) (T : Option Addr) : Array Value := #[.int .i64 s.w, .int .u8 s.d.h0, .int .u8 s.d.h1, .int .u8 s.d.h2, .int .i64 s.d.n, .bool s.m, .string s.row, .pointer T, .int .i64 s.cl]

set_option maxHeartbeats 4000000 in
theorem chars_any (s : KS) (T : Option Addr) (A : Option Addr) (n c : Nat) (l : List Int) (w : World) (hr : Rd w A n (li l)) (hn : n = l.length) (hl : n ≤ 100000) :
    Calls Try.prog 30 #[psV s T, .slice A n c] w fun e w' => ∃ A' c', e = .returned (.slice A' n c') ∧ KyO w.heap.size w' (.slice A' n c') n (charsK s.m l) ∧ Below w.heap.size w w' := by
  have V0 := Lib.hid (And.intro (belAlloc w (.cells (psC s T) 28)) (blk_new w (psC s T) 28))
  have HR := Lib.hid (And.intro hr hn)
  obtain ⟨sw, ⟨h0, h1, h2, dn⟩, sm, srow, stx, scl⟩ := s
  clear hr hn
  go_enter Try.func30, Try.ntmps30
  go_wp2_with fail
  refine at_world (fun X => Below w.heap.size w X ∧ Blk X w.heap.size (psC ⟨sw, ⟨h0, h1, h2, dn⟩, sm, srow, stx, scl⟩ T)) V0.out ?_
  intro X hX
  have V1 := Lib.hid hX
  clear hX V0
  go_loopw [5, 10] (fun u i wr => ∃ (k : Nat) (Ao : Option Addr) (co : Nat), k ≤ n ∧ i = .int .i64 (k : Nat) ∧ u = .slice Ao k co ∧ Hid (Grows w 47 4 encK Ao k co (bare (charsK sm (l.take k))) wr ∧ Blk wr w.heap.size (psC ⟨sw, ⟨h0, h1, h2, dn⟩, sm, srow, stx, scl⟩ T) ∧ (Value.slice Ao k co).ownBlock ≠ some w.heap.size)) (fun _ i _ => n - (intOf i).toNat)
  case atStart => exact ⟨0, none, 0, Nat.zero_le _, rfl, rfl, ⟨World.ownsRow_nil _ _ _ _, V1.out.1⟩, V1.out.2, by simp [Value.ownBlock]⟩
  case round =>
    obtain ⟨k, Ao, co, hk, rfl, rfl, HG⟩ := hrel
    clear V1
    by_cases hlt : k < n
    · have hkl : k < l.length := by rw [← HR.out.2]; exact hlt
      obtain ⟨b, o, rfl, hb, hc⟩ := HR.out.1 k hlt
      have l0 : wr.cell? ⟨b, o + k, none⟩ = some (.int .i32 l[k]) := (HG.out.1.below.cell (p := ⟨b, o + k, none⟩) hb).trans (by rw [hc]; simp [li, List.getD, hkl])
      have HY := Lib.hid (charsK_snoc sm (List.getElem?_eq_getElem hkl))
      obtain ⟨r, hr⟩ : ∃ r, l[k] = r := ⟨_, rfl⟩
      rw [hr] at l0 HY
      obtain ⟨y1, k1_, j1⟩ := (show _ from HG.out.2.1)
      have k15 : wr.cell? ⟨w.heap.size, 5, none⟩ = some (.bool sm) := k1_ 5
      have g1 : (k : Int) < (n : Int) := by omega
      have g2 : (0 : Int) ≤ (k : Int) := by omega
      have hz1 := HG.out.1.below.size
      have q1 : ((k : Int) == 0) = decide (k = 0) := by
        by_cases h : k = 0
        · subst h; rfl
        · rw [decide_eq_false h]; simpa using h
      obtain ⟨bb, hbb⟩ : ∃ bb, decide (k = 0) = bb := ⟨_, rfl⟩
      rw [hbb] at HY q1
      clear hc hkl hr k1_ hbb
      cases sm
      all_goals
        go_wp2_with (at_builtin; refine wpList_push (w0 := wr) key_elt HG.out.1.own hz1 rfl rfl rfl rfl rfl rfl rfl (by unfold maxLen; omega) (by omega) ?_; intro A6 c6 w6 hp; have V6 := Lib.hid (And.intro (HG.out.1.push (x := ⟨1, r, _, none, 0, 0⟩) (Below.refl _ _) hp) (And.intro (HG.out.2.1.grown hp.grown (fun e => HG.out.2.2 e.symm)) hp.at_)); clear hp)
        go_roundw
        case rel =>
          refine ⟨k + 1, A6, c6, by omega, by go_num, rfl, ?_, V6.out.2.1, ?_⟩
          · rw [HY.out]
            have h := V6.out.1
            unfold bare
            rw [List.map_append]
            exact h
          · rcases V6.out.2.2 with h | ⟨q, h, hq⟩
            · rw [h]; exact HG.out.2.2
            · rw [h]; intro e; injection e with e; have := HG.out.2.1.1; omega
        case measure => simp [intOf]; omega
    · obtain rfl : k = n := by omega
      have hlk : l.take k = l := by rw [HR.out.2, List.take_length]
      have HT := Lib.hid HG.out
      rw [hlk] at HT
      go_wp2_with fail
      go_ret
      exact ⟨Ao, co, rfl, ⟨_, HT.out.1.own, keysW_bare _ (charsK_bare _ _)⟩, HT.out.1.below⟩
end Go.Proofs.Ytkkenabckhmkoaa
