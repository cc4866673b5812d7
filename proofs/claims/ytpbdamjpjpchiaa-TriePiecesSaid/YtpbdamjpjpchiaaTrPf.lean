/- trie: TriePieces, its steps. -/
import Derived.Test.YtpbdamjpjpchiaaTrPe
import Derived.Test.YtpbdamjpjpchiaaTrRb
namespace Go.Proofs.Ytpbdamjpjpchiaa
open Go.RowKit Go.Maps
set_option linter.unusedVariables false
set_option linter.unusedSimpArgs false

/-- What pieces that have all numbers say. -/
theorem tile_pget {lo hi : Int} {P : List (Pc Int)} {g : Int → Int} (hT : Tile lo hi P) (hV : Vals g P) {r : Int} (h0 : lo ≤ r) (h1 : r < hi) : pget P r = some (g r) := by
  induction P generalizing lo with
  | nil => have : lo = hi := hT; omega
  | cons p P ih =>
    obtain ⟨e1, e2, e3⟩ := hT
    rw [pget_cons]
    by_cases h : p.f ≤ r ∧ r ≤ p.t
    · rw [if_pos h, hV p (by simp) r h.1 h.2]
    · rw [if_neg h]
      exact ih e3 (fun q hq => hV q (by simp [hq])) (by omega)
theorem ji_pval {m : Nat} {P : List (Pc Int)} {g : Int → Int} (h : JI g 0 (m : Int) P) (z : Int) {r : Int} (h0 : 0 ≤ r) (h1 : r < m) : pval P z r = g r := by
  unfold pval
  rw [tile_pget h.tile h.vals h0 h1]
  rfl
theorem bk_congr {g g' : Int → Int} {m : Nat} (hm : 1 ≤ m) (h : ∀ r : Int, 0 ≤ r → r < m → g r = g' r) (j : Nat) : bk g m j = bk g' m j := by
  unfold bk blk
  apply List.map_congr_left
  intro i _
  unfold bval
  exact h _ (by omega) (by omega)
theorem once_congr {f f' : Nat → List Int} (h : ∀ j, f j = f' j) : ∀ n, once f n = once f' n
  | 0 => rfl
  | n + 1 => by unfold once; rw [once_congr h n, h n]
/-- How many blocks there are. -/
def cntO (g : Int → Int) (m : Nat) : Nat := if m = 0 then 0 else (once (bk g m) (cntB m)).length
theorem cntO_le (g : Int → Int) {m : Nat} (hm : m ≤ 1023) : cntO g m ≤ 1023 := by
  unfold cntO
  split
  · omega
  · have := once_le (bk g m) (cntB m)
    have : cntB m ≤ 1023 := by unfold cntB; omega
    omega
theorem cntO_congr {g g' : Int → Int} {m : Nat} (h : ∀ r : Int, 0 ≤ r → r < m → g r = g' r) : cntO g m = cntO g' m := by
  unfold cntO
  split
  · rfl
  · rw [once_congr (bk_congr (by omega) h)]
theorem sees_count {L : List (Pc Int)} {z : Int} {m : Nat} {v : Option Addr} {W : World} (h : Sees L z m v W) (hv : v.isNone = decide (m < 1)) : Calls Try.prog 16 #[.pointer v] W (fun e w' => e = .returned (.int .i64 (cntO (pval L z) m : Nat)) ∧ Below W.heap.size W w') := by
  unfold cntO
  rcases h with ⟨h0, rfl⟩ | ⟨tb, mb, base, hd, Bs, Ix, l, rfl, h⟩
  · rw [if_pos h0]
    exact blocks_none W
  · have hm : ¬ m = 0 := by
      rintro rfl
      simp at hv
    rw [if_neg hm]
    have he : Bs.length = (once (bk (pval L z) m) (cntB m)).length := nodup_len h.tr.ok.nd (once_nodup _ _) fun B => by
      rw [once_mem]
      constructor
      · intro hB
        obtain ⟨j, hj, e⟩ := h.mem B hB
        exact ⟨j, hj, e.symm⟩
      · rintro ⟨j, hj, rfl⟩
        obtain ⟨i, _, h2⟩ := h.is j hj
        exact List.mem_of_getElem? h2
    rw [← he]
    exact blocks_any h
theorem sees_pieces {L : List (Pc Int)} {z : Int} {m : Nat} {v : Option Addr} {W : World} (h : Sees L z m v W) (hm : m ≤ 100000) (hv : v.isNone = decide (m < 1)) (hg : ∀ r, (Lit.int .i64 (pval L z r)).wf = true) : Calls Try.prog 14 #[.pointer v] W (fun e w' => ∃ P A c, e = .returned (.slice A (P : List (Pc Int)).length c) ∧ JI (pval L z) 0 (m : Int) P ∧ PcIn w' A c P ∧ (A = none → P.length = 0 ∧ c = 0) ∧ Below W.heap.size W w') := by
  rcases h with ⟨rfl, rfl⟩ | ⟨tb, mb, base, hd, Bs, Ix, l, rfl, h⟩
  · refine (pieces_none W).mono ?_
    rintro e w' ⟨rfl, hb⟩
    exact ⟨[], none, 0, rfl, ⟨rfl, (fun p hp => by cases hp), trivial⟩, ⟨fun j x hj => by simp at hj, Nat.le_refl _, by unfold maxLen; omega, fun x hx => by cases hx⟩, fun _ => ⟨rfl, rfl⟩, hb⟩
  · have hm1 : 1 ≤ m := by
      rcases Nat.eq_zero_or_pos m with rfl | h
      · simp at hv
      · exact h
    obtain ⟨g1, n, c, g2, c2, qs, hR⟩ := reads_any h hm1
    refine (pieces_any hR hm1 hm).mono ?_
    rintro e w' ⟨P, A, n', c', rfl, hJ, hown, hb⟩
    have hl := own_count encP_len (by decide) hown
    subst hl
    refine ⟨P, A, c', rfl, hJ, ⟨(Li.own encP_len (by decide) hown).mono fun _ _ => trivial, ?_, ?_, fun x hx => ?_⟩, ?_, hb⟩
    · rcases Nat.eq_zero_or_pos P.length with h0 | hp
      · omega
      · obtain ⟨_, _, _, _, _, h1, _⟩ := own_blk hown hp
        exact h1
    · obtain ⟨_, ⟨e, e'⟩ | ⟨g', cap, cur, e, _, _, _, h2, _⟩⟩ := hown
      · injection e with _ _ e
        subst e
        unfold maxLen; omega
      · injection e with _ _ e
        subst e
        exact h2
    · have := (tile_bd hJ.tile hx).2.1
      rw [← hJ.vals x hx x.f (Int.le_refl _) this]
      exact hg _
    · rintro rfl
      obtain ⟨_, ⟨e, e'⟩ | ⟨g', cap, cur, e, _, _, _, h2, _⟩⟩ := hown
      · injection e with _ e1 e2
        exact ⟨e1, e2⟩
      · cases e
theorem sees_build {P : List (Pc Int)} {z : Int} {m : Nat} {A : Option Addr} {c : Nat} {W : World} (hL : PcIn W A c P) (hN : A = none → P.length = 0 ∧ c = 0) (hn : P.length ≤ 10000) (hm : m ≤ 100000) (hz : (Lit.int .i64 z).wf = true) : Calls Try.prog 15 #[.int .i64 (m : Nat), .int .i64 z, .slice A P.length c] W (fun e w' => ∃ v, e = .returned (.pointer v) ∧ Sees P z m v w' ∧ v.isNone = decide (m < 1) ∧ Below W.heap.size W w') := by
  by_cases h : m < 1
  · obtain rfl : m = 0 := by omega
    refine (build_none (0 : Nat) z _ (by decide) W).mono ?_
    rintro e w' ⟨rfl, hb⟩
    exact ⟨none, rfl, .inl ⟨rfl, rfl⟩, rfl, hb⟩
  · refine (build_any m z A _ c P W ⟨A, c, rfl, hL.li, hN, hL.le, hL.mx⟩ hn (by omega) hm (pval_wf hL.ok hz)).mono ?_
    rintro e w' ⟨tb, mb, hd, Bs, Ix, l, rfl, hB, hb⟩
    exact ⟨_, rfl, .inr ⟨tb, mb, _, hd, Bs, Ix, l, rfl, hB⟩, by simp [h], hb⟩

set_option maxHeartbeats 4000000 in
set_option maxRecDepth 100000 in
theorem refget_still (A : Option Addr) (c : Nat) (L : List (Pc Int)) (z r : Int) (W : World) (hL : Li 3 encP W (fun _ => True) A L) (hn : L.length ≤ 100000) :
    Calls Try.prog 11 #[.slice A L.length c, .int .i64 z, .int .i64 r] W (fun e w' => e = .returned (.int .i64 (pval L z r)) ∧ W = w') := by
  have HL := Lib.hid hL
  clear hL
  go_enter Try.func11, Try.ntmps11
  go_wp2
  go_loopw [7] (fun v wr => ∃ k : Nat, k ≤ L.length ∧ v = .int .i64 k ∧ wr = W ∧ Hid (pget L r = pget (L.drop k) r)) (fun v _ => L.length - (intOf v).toNat)
  case atStart => exact ⟨0, Nat.zero_le _, rfl, rfl, Lib.hid (by simp)⟩
  case round =>
    obtain ⟨k, hk, rfl, rfl, HK⟩ := hrel
    by_cases hlt : k < L.length
    · obtain ⟨x, b, o, hx, rfl, hbl, _, c0, c1, c2⟩ := HL.out.piece hlt
      have HX := Lib.hid (pget_drop hx r)
      clear hx
      have i1 : (k : Int) < (L.length : Int) := by omega
      have i2 : (0 : Int) ≤ (k : Int) := by omega
      by_cases h1 : x.f ≤ r
      · have d1 : decide (x.f ≤ r) = true := decide_eq_true h1
        by_cases h2 : r ≤ x.t
        · have d2 : decide (r ≤ x.t) = true := decide_eq_true h2
          have HV := Lib.hid (show pval L z r = x.v by unfold pval; rw [HK.out, HX.out, if_pos ⟨h1, h2⟩]; rfl)
          go_wp2
          go_ret
          exact ⟨congrArg (fun v => Ending.returned (.int .i64 v)) HV.out.symm, rfl⟩
        · have d2 : decide (r ≤ x.t) = false := decide_eq_false h2
          go_wp2
          go_roundw
          case rel => exact ⟨k + 1, by omega, by go_num, by first | rfl | trivial, Lib.hid (by rw [HK.out, HX.out, if_neg (fun h => h2 h.2)])⟩
          case measure => simp [intOf]; omega
      · have d1 : decide (x.f ≤ r) = false := decide_eq_false h1
        go_wp2
        go_roundw
        case rel => exact ⟨k + 1, by omega, by go_num, by first | rfl | trivial, Lib.hid (by rw [HK.out, HX.out, if_neg (fun h => h1 h.1)])⟩
        case measure => simp [intOf]; omega
    · obtain rfl : k = L.length := by omega
      have HV := Lib.hid (show pval L z r = z by unfold pval; rw [HK.out, List.drop_length]; rfl)
      go_wp2
      go_ret
      exact ⟨congrArg (fun v => Ending.returned (.int .i64 v)) HV.out.symm, rfl⟩
end Go.Proofs.Ytpbdamjpjpchiaa
