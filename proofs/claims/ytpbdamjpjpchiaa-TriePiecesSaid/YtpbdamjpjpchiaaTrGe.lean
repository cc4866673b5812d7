/- trie: TrieGets' walk. -/
import Derived.Test.YtpbdamjpjpchiaaTrIn
namespace Go.Proofs.Ytpbdamjpjpchiaa
open Go.RowKit Go.Maps
set_option linter.unusedVariables false
set_option linter.unusedSimpArgs false
def YesG (w : World) (e : Ending) (w' : World) : Prop := e = .returned (.bool true) ∧ Below w.heap.size w w'
theorem below_next {w a b : World} (h : Below w.heap.size w a) (k : Below a.heap.size a b) : Below w.heap.size w b := h.trans (k.mono h.size)
theorem andMask (n : Int) (m : Nat) (hm : m ≤ 2000) : ∃ r : Nat, r ≤ m ∧ bits .and .i64 n m = (r : Int) := by
  have e : (BitVec.ofInt 64 (m : Int)).toNat = m := by simp; omega
  have h : (BitVec.ofInt 64 n &&& BitVec.ofInt 64 (m : Int)).toNat ≤ m := by rw [BitVec.toNat_and, e]; exact Nat.and_le_right
  refine ⟨(BitVec.ofInt 64 n &&& BitVec.ofInt 64 (m : Int)).toNat, h, ?_⟩
  show IntKind.i64.wrap ((BitVec.ofInt 64 n &&& BitVec.ofInt 64 (m : Int)).toNat : Int) = _
  exact IntWalk.i64_in _ (by omega)
section
variable {base m tb mb : Nat} {g : Int → Int} {hd : Hd} {Bs : List (List Int)} {Ix : List Nat} {l : List Int → Option Nat} {W : World}
theorem get_out (h : BtI base g m tb mb hd Bs Ix l W) (i : Int) (hi : i < 0 ∨ (m : Int) ≤ i) : Calls Try.prog 12 #[.pointer (some ⟨tb, 0, none⟩), .int .i64 i] W (fun e w' => e = .returned (.int .i64 0) ∧ Below W.heap.size W w') := by
  obtain ⟨y0, k0, j0⟩ := (show Blk _ _ _ from h.tr.cel)
  have k1 : W.cell? ⟨tb, 0, none⟩ = some (.int .i64 (m : Nat)) := k0 0
  clear h k0 j0
  by_cases h0 : i < 0
  · have d0 : decide (i < 0) = true := decide_eq_true h0
    go_enter Try.func12, Try.ntmps12
    go_wp2
    go_ret
    exact ⟨rfl, Below.refl _ _⟩
  · have d0 : decide (i < 0) = false := decide_eq_false h0
    have d1 : decide ((m : Int) ≤ i) = true := decide_eq_true (by omega)
    go_enter Try.func12, Try.ntmps12
    go_wp2
    go_ret
    exact ⟨rfl, Below.refl _ _⟩
theorem get_in (h : BtI base g m tb mb hd Bs Ix l W) (hm : m ≤ 100000) (i : Int) (h0 : 0 ≤ i) (h1 : i < m) : Calls Try.prog 12 #[.pointer (some ⟨tb, 0, none⟩), .int .i64 i] W (fun e w' => e = .returned (.int .i64 (g i)) ∧ Below W.heap.size W w') := by
  obtain ⟨n, rfl⟩ : ∃ n : Nat, i = (n : Int) := ⟨i.toNat, by omega⟩
  exact get_any h hm n (by omega)
end

/-- Behind the mask and the first few. -/
def Sees (L : List (Pc Int)) (z : Int) (m : Nat) (v : Option Addr) (W : World) : Prop :=
  (m = 0 ∧ v = none) ∨ ∃ tb mb base hd Bs Ix l, v = some ⟨tb, 0, none⟩ ∧ BtI base (pval L z) m tb mb hd Bs Ix l W
theorem Sees.later {L : List (Pc Int)} {z : Int} {m : Nat} {v : Option Addr} {W W' : World} (h : Sees L z m v W) (hb : Below W.heap.size W W') : Sees L z m v W' := by
  rcases h with h | ⟨tb, mb, base, hd, Bs, Ix, l, e, h⟩
  · exact .inl h
  · exact .inr ⟨tb, mb, base, hd, Bs, Ix, l, e, h.later hb⟩
/-- What a number is to have. -/
def wants (L : List (Pc Int)) (z : Int) (m : Nat) (i : Int) : Int := if 0 ≤ i ∧ i < m then pval L z i else 0
theorem sees_get {L : List (Pc Int)} {z : Int} {m : Nat} {v : Option Addr} {W : World} (h : Sees L z m v W) (hm : m ≤ 100000) (i : Int) : Calls Try.prog 12 #[.pointer v, .int .i64 i] W (fun e w' => e = .returned (.int .i64 (wants L z m i)) ∧ Below W.heap.size W w') := by
  unfold wants
  rcases h with ⟨rfl, rfl⟩ | ⟨tb, mb, base, hd, Bs, Ix, l, rfl, h⟩
  · rw [if_neg (by omega)]
    exact get_none i W
  · by_cases hi : 0 ≤ i ∧ i < m
    · rw [if_pos hi]
      exact get_in h hm i hi.1 hi.2
    · rw [if_neg hi]
      exact get_out h i (by omega)
theorem sees_len {L : List (Pc Int)} {z : Int} {m : Nat} {v : Option Addr} {W : World} (h : Sees L z m v W) : Calls Try.prog 10 #[.pointer v] W (fun e w' => e = .returned (.int .i64 (m : Nat)) ∧ Below W.heap.size W w') := by
  rcases h with ⟨rfl, rfl⟩ | ⟨tb, mb, base, hd, Bs, Ix, l, rfl, h⟩
  · exact len_none W
  · exact len_any h
theorem sees_made {L : List (Pc Int)} {z : Int} {m : Nat} {A : Option Addr} {c : Nat} {W : World} (hL : PcIn W A c L) (hn : L.length ≤ 10000) (hm : m ≤ 100000) (hz : (Lit.int .i64 z).wf = true) : Calls Try.prog 9 #[.int .i64 (m : Nat), .int .i64 z, .slice A L.length c] W (fun e w' => ∃ v, e = .returned (.pointer v) ∧ Sees L z m v w' ∧ v.isNone = decide (m < 1) ∧ Below W.heap.size W w') := by
  by_cases h : m < 1
  · obtain rfl : m = 0 := by omega
    refine (made_none (0 : Nat) z (by decide) A c L W hL.li hn).mono ?_
    rintro e w' ⟨rfl, hb⟩
    exact ⟨none, rfl, .inl ⟨rfl, rfl⟩, rfl, hb⟩
  · refine (made_any m z A c L W hL.li hn (by omega) hm (pval_wf hL.ok hz)).mono ?_
    rintro e w' ⟨tb, mb, base, hd, Bs, Ix, l, rfl, hB, hb⟩
    exact ⟨_, rfl, .inr ⟨tb, mb, base, hd, Bs, Ix, l, rfl, hB⟩, by simp [h], hb⟩

set_option maxHeartbeats 8000000 in
set_option maxRecDepth 100000 in
theorem walk_TrieGets (W : World) (a0 : Int) (w0 : (Lit.int .i64 a0).wf = true) (a1 : Int) (w1 : (Lit.int .i64 a1).wf = true) (A : Option Addr) (L : List (Pc Int)) (c : Nat) (I : PcIn W A c L) :
    Calls Try.prog 3 #[.int .i64 a0, .int .i64 a1, .slice A L.length c] W (YesG W) := by
  obtain ⟨m, hm, hbits⟩ : ∃ r : Nat, r ≤ 1023 ∧ bits .and .i64 a0 1023 = (r : Int) := andMask a0 1023 (by omega)
  obtain ⟨I2, hl⟩ := I.few
  have C := Lib.hid (few_any A L.length c I.le W)
  rw [← hl] at C
  obtain ⟨L2, hL2⟩ : ∃ L2, L.take 30 = L2 := ⟨_, rfl⟩
  rw [hL2] at C I2
  have hlen : L2.length ≤ 30 := by rw [← hL2, List.length_take]; omega
  have HI := Lib.hid I2
  have HZ := Lib.hid w1
  clear I I2 hl hL2 w0 w1
  go_enter Try.func3, Try.ntmps3
  go_wp2_with fail
  (with_reducible refine C.out.mono ?_)
  rintro e W1 ⟨rfl, hb⟩
  have H1 := Lib.hid hb
  have HI1 := Lib.hid (show PcIn W1 A c L2 from ⟨HI.out.li.later hb, HI.out.le, HI.out.mx, HI.out.ok⟩)
  clear hb C HI
  have C := Lib.hid (sees_made HI1.out (by omega) (show m ≤ 100000 by omega) HZ.out)
  go_wp2_with fail
  (with_reducible refine C.out.mono ?_)
  rintro e W2 ⟨v, rfl, hS, hv, hb⟩
  have HS := Lib.hid hS
  have H2 := Lib.hid (below_next H1.out hb)
  have HI2 := Lib.hid (show PcIn W2 A c L2 from ⟨HI1.out.li.later hb, HI1.out.le, HI1.out.mx, HI1.out.ok⟩)
  clear hb C hS HI1 H1
  have C := Lib.hid (sees_len HS.out)
  cases v with
  | none =>
    have dm : decide ((m : Int) < 1) = true := by have : m < 1 := by simpa using hv.symm
                                                  exact decide_eq_true (by omega)
    clear hv
    go_wp2_with fail
    (with_reducible refine C.out.mono ?_)
    rintro e W3 ⟨rfl, hb⟩
    have H3 := Lib.hid (And.intro (HS.out.later hb) (And.intro (show PcIn W3 A c L2 from ⟨HI2.out.li.later hb, HI2.out.le, HI2.out.mx, HI2.out.ok⟩) (below_next H2.out hb)))
    clear hb C HS HI2 H2
    go_wp2_with fail
    go_loopw [8] (fun x wr => ∃ k : Nat, k ≤ m + 2 ∧ x = .int .i64 ((k : Int) - 1) ∧ Hid (Sees L2 a1 m none wr ∧ PcIn wr A c L2 ∧ Below W.heap.size W wr)) (fun x _ => m + 2 - (intOf x + 1).toNat)
    case atStart => exact ⟨0, by omega, by simp, H3⟩
    case round =>
      obtain ⟨k, hk, rfl, HK⟩ := hrel
      have i9 : IntKind.i64.wrap ((k : Int) - 1 + 1) = (k : Int) - 1 + 1 := IntWalk.i64_in _ (by omega)
      by_cases hlt : (k : Int) - 1 ≤ m
      · have e1 : decide ((k : Int) - 1 ≤ (m : Int)) = true := decide_eq_true hlt
        by_cases h0 : 0 ≤ (k : Int) - 1
        · have e2 : decide (0 ≤ (k : Int) - 1) = true := decide_eq_true h0
          by_cases h1 : (k : Int) - 1 < m
          · have e3 : decide ((k : Int) - 1 < (m : Int)) = true := decide_eq_true h1
            have hw : wants L2 a1 m ((k : Int) - 1) = pval L2 a1 ((k : Int) - 1) := if_pos ⟨h0, h1⟩
            have C := Lib.hid (refget_any A c L2 a1 ((k : Int) - 1) wr HK.out.2.1.li (by omega))
            rw [← hw] at C
            have HW := Lib.hid hw
            clear hw
            go_wp2_with fail
            (with_reducible refine C.out.mono ?_)
            rintro e W4 ⟨rfl, hb⟩
            have H4 := Lib.hid (And.intro (HK.out.1.later hb) (And.intro (show PcIn W4 A c L2 from ⟨HK.out.2.1.li.later hb, HK.out.2.1.le, HK.out.2.1.mx, HK.out.2.1.ok⟩) (below_next HK.out.2.2 hb)))
            clear hb C HK
            have C := Lib.hid (sees_get H4.out.1 (show m ≤ 100000 by omega) ((k : Int) - 1))
            go_wp2_with fail
            (with_reducible refine C.out.mono ?_)
            rintro e W5 ⟨rfl, hb⟩
            have H5 := Lib.hid (And.intro (H4.out.1.later hb) (And.intro (show PcIn W5 A c L2 from ⟨H4.out.2.1.li.later hb, H4.out.2.1.le, H4.out.2.1.mx, H4.out.2.1.ok⟩) (below_next H4.out.2.2 hb)))
            clear hb C H4
            go_wp2_with fail
            go_roundw
            case rel => exact ⟨k + 1, by omega, by congr 1; omega, H5⟩
            case measure => simp [intOf]; omega
          · have e3 : decide ((k : Int) - 1 < (m : Int)) = false := decide_eq_false h1
            have H4 := HK
            have hw : wants L2 a1 m ((k : Int) - 1) = 0 := if_neg fun h => h1 h.2
            clear HK
            have C := Lib.hid (sees_get H4.out.1 (show m ≤ 100000 by omega) ((k : Int) - 1))
            rw [hw] at C
            clear hw
            go_wp2_with fail
            (with_reducible refine C.out.mono ?_)
            rintro e W5 ⟨rfl, hb⟩
            have H5 := Lib.hid (And.intro (H4.out.1.later hb) (And.intro (show PcIn W5 A c L2 from ⟨H4.out.2.1.li.later hb, H4.out.2.1.le, H4.out.2.1.mx, H4.out.2.1.ok⟩) (below_next H4.out.2.2 hb)))
            clear hb C H4
            go_wp2_with fail
            go_roundw
            case rel => exact ⟨k + 1, by omega, by congr 1; omega, H5⟩
            case measure => simp [intOf]; omega
        · have e2 : decide (0 ≤ (k : Int) - 1) = false := decide_eq_false h0
          have H4 := HK
          have hw : wants L2 a1 m ((k : Int) - 1) = 0 := if_neg fun h => h0 h.1
          clear HK
          have C := Lib.hid (sees_get H4.out.1 (show m ≤ 100000 by omega) ((k : Int) - 1))
          rw [hw] at C
          clear hw
          go_wp2_with fail
          (with_reducible refine C.out.mono ?_)
          rintro e W5 ⟨rfl, hb⟩
          have H5 := Lib.hid (And.intro (H4.out.1.later hb) (And.intro (show PcIn W5 A c L2 from ⟨H4.out.2.1.li.later hb, H4.out.2.1.le, H4.out.2.1.mx, H4.out.2.1.ok⟩) (below_next H4.out.2.2 hb)))
          clear hb C H4
          go_wp2_with fail
          go_roundw
          case rel => exact ⟨k + 1, by omega, by congr 1; omega, H5⟩
          case measure => simp [intOf]; omega
      · have e1 : decide ((k : Int) - 1 ≤ (m : Int)) = false := decide_eq_false hlt
        have C := Lib.hid (awake_yes wr)
        go_wp2_with fail
        (with_reducible refine C.out.mono ?_)
        rintro e W6 ⟨rfl, hb⟩
        have H6 := Lib.hid (below_next HK.out.2.2 hb)
        clear hb C
        go_wp2
        go_ret
        exact ⟨rfl, H6.out⟩
  | some p =>
    have dm : decide ((m : Int) < 1) = false := by have : ¬ m < 1 := by simpa using hv.symm
                                                   exact decide_eq_false (by omega)
    clear hv
    go_wp2_with fail
    (with_reducible refine C.out.mono ?_)
    rintro e W3 ⟨rfl, hb⟩
    have H3 := Lib.hid (And.intro (HS.out.later hb) (And.intro (show PcIn W3 A c L2 from ⟨HI2.out.li.later hb, HI2.out.le, HI2.out.mx, HI2.out.ok⟩) (below_next H2.out hb)))
    clear hb C HS HI2 H2
    go_wp2_with fail
    go_loopw [8] (fun x wr => ∃ k : Nat, k ≤ m + 2 ∧ x = .int .i64 ((k : Int) - 1) ∧ Hid (Sees L2 a1 m (some p) wr ∧ PcIn wr A c L2 ∧ Below W.heap.size W wr)) (fun x _ => m + 2 - (intOf x + 1).toNat)
    case atStart => exact ⟨0, by omega, by simp, H3⟩
    case round =>
      obtain ⟨k, hk, rfl, HK⟩ := hrel
      have i9 : IntKind.i64.wrap ((k : Int) - 1 + 1) = (k : Int) - 1 + 1 := IntWalk.i64_in _ (by omega)
      by_cases hlt : (k : Int) - 1 ≤ m
      · have e1 : decide ((k : Int) - 1 ≤ (m : Int)) = true := decide_eq_true hlt
        by_cases h0 : 0 ≤ (k : Int) - 1
        · have e2 : decide (0 ≤ (k : Int) - 1) = true := decide_eq_true h0
          by_cases h1 : (k : Int) - 1 < m
          · have e3 : decide ((k : Int) - 1 < (m : Int)) = true := decide_eq_true h1
            have hw : wants L2 a1 m ((k : Int) - 1) = pval L2 a1 ((k : Int) - 1) := if_pos ⟨h0, h1⟩
            have C := Lib.hid (refget_any A c L2 a1 ((k : Int) - 1) wr HK.out.2.1.li (by omega))
            rw [← hw] at C
            have HW := Lib.hid hw
            clear hw
            go_wp2_with fail
            (with_reducible refine C.out.mono ?_)
            rintro e W4 ⟨rfl, hb⟩
            have H4 := Lib.hid (And.intro (HK.out.1.later hb) (And.intro (show PcIn W4 A c L2 from ⟨HK.out.2.1.li.later hb, HK.out.2.1.le, HK.out.2.1.mx, HK.out.2.1.ok⟩) (below_next HK.out.2.2 hb)))
            clear hb C HK
            have C := Lib.hid (sees_get H4.out.1 (show m ≤ 100000 by omega) ((k : Int) - 1))
            go_wp2_with fail
            (with_reducible refine C.out.mono ?_)
            rintro e W5 ⟨rfl, hb⟩
            have H5 := Lib.hid (And.intro (H4.out.1.later hb) (And.intro (show PcIn W5 A c L2 from ⟨H4.out.2.1.li.later hb, H4.out.2.1.le, H4.out.2.1.mx, H4.out.2.1.ok⟩) (below_next H4.out.2.2 hb)))
            clear hb C H4
            go_wp2_with fail
            go_roundw
            case rel => exact ⟨k + 1, by omega, by congr 1; omega, H5⟩
            case measure => simp [intOf]; omega
          · have e3 : decide ((k : Int) - 1 < (m : Int)) = false := decide_eq_false h1
            have H4 := HK
            have hw : wants L2 a1 m ((k : Int) - 1) = 0 := if_neg fun h => h1 h.2
            clear HK
            have C := Lib.hid (sees_get H4.out.1 (show m ≤ 100000 by omega) ((k : Int) - 1))
            rw [hw] at C
            clear hw
            go_wp2_with fail
            (with_reducible refine C.out.mono ?_)
            rintro e W5 ⟨rfl, hb⟩
            have H5 := Lib.hid (And.intro (H4.out.1.later hb) (And.intro (show PcIn W5 A c L2 from ⟨H4.out.2.1.li.later hb, H4.out.2.1.le, H4.out.2.1.mx, H4.out.2.1.ok⟩) (below_next H4.out.2.2 hb)))
            clear hb C H4
            go_wp2_with fail
            go_roundw
            case rel => exact ⟨k + 1, by omega, by congr 1; omega, H5⟩
            case measure => simp [intOf]; omega
        · have e2 : decide (0 ≤ (k : Int) - 1) = false := decide_eq_false h0
          have H4 := HK
          have hw : wants L2 a1 m ((k : Int) - 1) = 0 := if_neg fun h => h0 h.1
          clear HK
          have C := Lib.hid (sees_get H4.out.1 (show m ≤ 100000 by omega) ((k : Int) - 1))
          rw [hw] at C
          clear hw
          go_wp2_with fail
          (with_reducible refine C.out.mono ?_)
          rintro e W5 ⟨rfl, hb⟩
          have H5 := Lib.hid (And.intro (H4.out.1.later hb) (And.intro (show PcIn W5 A c L2 from ⟨H4.out.2.1.li.later hb, H4.out.2.1.le, H4.out.2.1.mx, H4.out.2.1.ok⟩) (below_next H4.out.2.2 hb)))
          clear hb C H4
          go_wp2_with fail
          go_roundw
          case rel => exact ⟨k + 1, by omega, by congr 1; omega, H5⟩
          case measure => simp [intOf]; omega
      · have e1 : decide ((k : Int) - 1 ≤ (m : Int)) = false := decide_eq_false hlt
        have C := Lib.hid (awake_yes wr)
        go_wp2_with fail
        (with_reducible refine C.out.mono ?_)
        rintro e W6 ⟨rfl, hb⟩
        have H6 := Lib.hid (below_next HK.out.2.2 hb)
        clear hb C
        go_wp2
        go_ret
        exact ⟨rfl, H6.out⟩
end Go.Proofs.Ytpbdamjpjpchiaa
