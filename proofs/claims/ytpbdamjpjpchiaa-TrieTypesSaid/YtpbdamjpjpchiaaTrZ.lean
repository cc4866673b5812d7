/- trie: awake; none. -/
import Derived.Test.YtpbdamjpjpchiaaTrY
namespace Go.Proofs.Ytpbdamjpjpchiaa
open Go.RowKit Go.Maps
set_option linter.unusedVariables false
set_option linter.unusedSimpArgs false

theorem BtI.later {base m tb mb : Nat} {g : Int → Int} {hd : Hd} {Bs : List (List Int)} {Ix : List Nat} {l : List Int → Option Nat} {W W' : World} (h : BtI base g m tb mb hd Bs Ix l W) (hb : Below W.heap.size W W') : BtI base g m tb mb hd Bs Ix l W' := ⟨h.tr.later hb, h.ix, h.is, h.mem⟩
abbrev L0 : List (Pc Int) := [⟨10, 20, 7⟩]
theorem two_len {α : Type} {a b : α} : ∀ {l : List α}, l.Nodup → (∀ x ∈ l, x = a ∨ x = b) → a ∈ l → b ∈ l → a ≠ b → l.length = 2
  | [], _, _, h, _, _ => by simp at h
  | [x], _, _, h1, h2, h => by
    simp at h1 h2
    exact absurd (h1.trans h2.symm) h
  | [x, y], _, _, _, _, _ => rfl
  | x :: y :: z :: r, hn, hx, _, _, h => by
    simp only [List.nodup_cons, List.mem_cons, not_or] at hn
    have h1 := hx x (by simp)
    have h2 := hx y (by simp)
    have h3 := hx z (by simp)
    obtain ⟨⟨n1, n2, _⟩, ⟨n3, _⟩, _⟩ := hn
    rcases h1 with h1 | h1 <;> rcases h2 with h2 | h2 <;> rcases h3 with h3 | h3 <;> simp_all
theorem two_blocks {base tb mb : Nat} {hd : Hd} {Bs : List (List Int)} {Ix : List Nat} {l : List Int → Option Nat} {W : World} (h : BtI base (pval L0 0) 300 tb mb hd Bs Ix l W) : Bs.length = 2 := by
  have e12 : bk (pval L0 0) 300 2 = bk (pval L0 0) 300 1 := by decide +kernel
  have e01 : bk (pval L0 0) 300 0 ≠ bk (pval L0 0) 300 1 := by decide +kernel
  have hc : cntB 300 = 3 := rfl
  have mem : ∀ j, j < 3 → bk (pval L0 0) 300 j ∈ Bs := fun j hj => by
    obtain ⟨i, _, h2⟩ := h.is j (by rw [hc]; exact hj)
    exact List.mem_of_getElem? h2
  refine two_len h.tr.ok.nd (fun x hx => ?_) (mem 0 (by omega)) (mem 1 (by omega)) e01
  obtain ⟨j, hj, rfl⟩ := h.mem x hx
  rw [hc] at hj
  rcases (show j = 0 ∨ j = 1 ∨ j = 2 by omega) with rfl | rfl | rfl
  · exact .inl rfl
  · exact .inr rfl
  · exact .inr e12

set_option maxHeartbeats 4000000 in
set_option maxRecDepth 100000 in
theorem awake_yes (W : World) : Calls Try.prog 13 #[] W (fun e w' => e = .returned (.bool true) ∧ Below W.heap.size W w') := by
  have hL : LiV 3 encP (W.alloc (.cells #[.int .i64 10, .int .i64 20, .int .i64 7] 34)) (fun _ => True) (.slice (some ⟨W.heap.size, 0, none⟩) 1 1) L0 :=
    (LiV.own (L := L0) encP_len (by decide) (own_newN W #[.int .i64 10, .int .i64 20, .int .i64 7] 34 3 1 rfl (by unfold maxLen; omega))).mono fun _ _ => trivial
  have C := Lib.hid (show Calls Try.prog 15 #[.int .i64 300, .int .i64 0, .slice (some ⟨W.heap.size, 0, none⟩) 1 1] (W.alloc (.cells #[.int .i64 10, .int .i64 20, .int .i64 7] 34)) (Built (pval L0 0) 300 (W.alloc (.cells #[.int .i64 10, .int .i64 20, .int .i64 7] 34))) from
    build_any 300 0 _ 1 1 L0 _ hL (by simp) (by omega) (by omega) (fun r => by unfold pval pget; simp only [List.find?]; split <;> decide))
  have v1 : pval L0 0 ((15 : Nat) : Int) = 7 := by decide
  have v2 : pval L0 0 ((9 : Nat) : Int) = 0 := by decide
  clear hL
  go_enter Try.func13, Try.ntmps13
  go_wp2_with fail
  (with_reducible refine C.out.mono ?_)
  rintro e w1 ⟨tb, mb, hd, Bs, Ix, l, rfl, hB, hb⟩
  have HB := Lib.hid (And.intro hB ((belAlloc W _).trans (hb.mono (by simp))))
  clear hB hb C
  have C := Lib.hid (show Calls Try.prog 12 #[.pointer (some ⟨tb, 0, none⟩), .int .i64 15] w1 (fun e w' => e = .returned (.int .i64 7) ∧ Below w1.heap.size w1 w') from by have := get_any HB.out.1 (by omega) 15 (by omega); rw [v1] at this; exact this)
  go_wp2_with fail
  (with_reducible refine C.out.mono ?_)
  rintro e w2 ⟨rfl, hb⟩
  have HB2 := Lib.hid (And.intro (HB.out.1.later hb) (HB.out.2.trans (hb.mono HB.out.2.size)))
  clear hb C HB
  have C := Lib.hid (show Calls Try.prog 12 #[.pointer (some ⟨tb, 0, none⟩), .int .i64 9] w2 (fun e w' => e = .returned (.int .i64 0) ∧ Below w2.heap.size w2 w') from by have := get_any HB2.out.1 (by omega) 9 (by omega); rw [v2] at this; exact this)
  go_wp2_with fail
  (with_reducible refine C.out.mono ?_)
  rintro e w3 ⟨rfl, hb⟩
  have HB3 := Lib.hid (And.intro (HB2.out.1.later hb) (HB2.out.2.trans (hb.mono HB2.out.2.size)))
  clear hb C HB2
  have C := Lib.hid (show Calls Try.prog 16 #[.pointer (some ⟨tb, 0, none⟩)] w3 (fun e w' => e = .returned (.int .i64 2) ∧ Below w3.heap.size w3 w') from by have := blocks_any HB3.out.1; rw [two_blocks HB3.out.1] at this; exact this)
  go_wp2_with fail
  (with_reducible refine C.out.mono ?_)
  rintro e w4 ⟨rfl, hb⟩
  have HB4 := Lib.hid (And.intro (HB3.out.1.later hb) (HB3.out.2.trans (hb.mono HB3.out.2.size)))
  clear hb C HB3
  have C := Lib.hid (show Calls Try.prog 10 #[.pointer (some ⟨tb, 0, none⟩)] w4 (fun e w' => e = .returned (.int .i64 300) ∧ Below w4.heap.size w4 w') from len_any HB4.out.1)
  go_wp2_with fail
  (with_reducible refine C.out.mono ?_)
  rintro e w5 ⟨rfl, hb⟩
  have HB5 := Lib.hid (HB4.out.2.trans (hb.mono HB4.out.2.size))
  clear hb C HB4
  go_wp2
  go_ret
  exact ⟨rfl, HB5.out⟩
end Go.Proofs.Ytpbdamjpjpchiaa
