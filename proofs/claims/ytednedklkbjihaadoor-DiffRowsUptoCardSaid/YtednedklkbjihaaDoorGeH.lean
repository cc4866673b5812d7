/- grid: the document's Put, where there is room. -/
import Derived.Test.YtednedklkbjihaaDoorGeG

namespace Go.Proofs.YtednedklkbjihaaDoor

open Go.RowKit

set_option linter.unusedVariables false

set_option linter.unusedSimpArgs false
set_option maxRecDepth 100000

/-- A cell of a row is laid. -/
theorem RG.lay {w : World} {lo hi ob Co R n : Nat} {rb Cr : Nat → Nat} {F : Nat → Nat → Cl} (h : RG w lo hi ob Co R n rb Cr F) {r : Nat} (hr : r < R) :
    ∃ cs, Blk w (rb r) cs ∧ n * 2 ≤ cs.size ∧ Is cs 0 n (F r) ∧ rb r ≠ ob ∧ Iv lo hi (rb r) ∧ ∀ w' cs' G', Blk w' (rb r) cs' → Out cs cs' 0 n → Is cs' 0 n G' → WF n G' → Chg (fun k => k = rb r) w w' → RG w' lo hi ob Co R n rb Cr (updR F r G') := by
  obtain ⟨cs, hA, K⟩ := h.rowAt hr
  exact ⟨cs, hA.blk, by have := hA.size; omega, hA.is, (h.b1 r hr).2.2, ⟨(h.b1 r hr).1, (h.b1 r hr).2.1⟩, K⟩

theorem RG.drew {w : World} {lo hi ob Co R n : Nat} {rb Cr : Nat → Nat} {F : Nat → Nat → Cl} (h : RG w lo hi ob Co R n rb Cr F) : RG w.drew lo hi ob Co R n rb Cr F :=
  ⟨h.out, h.rows, h.wf, h.o0, h.o1, h.o2, h.b1, h.inj, h.r1, h.r2, h.n1, h.n2, h.cap, h.caps⟩
theorem Chg.drew' {S : Nat → Prop} {w v : World} (h : Chg S w v) : Chg S w v.drew := ⟨h.os, h.tape, h.output, h.size, h.block⟩

set_option maxHeartbeats 2000000 in
set_option maxRecDepth 100000 in
theorem putR_1 {w : World} {lo hi ob Co R n : Nat} {rb Cr : Nat → Nat} {F : Nat → Nat → Cl} (h : RG w lo hi ob Co R n rb Cr F) (hhi : hi ≤ w.heap.size) {r c E : Nat} {t : ByteArray} (hr : r < R) (hc : c < n) :
    Calls Tryd.prog 29 #[gv ob R Co, .int .i64 r, .int .i64 c, .agg #[.string t, .int .i64 1]] w fun e w' => e = .returned (.bool true) ∧ RowR lo hi ob Co R n rb Cr (updR F r (putG (F r) c (t, 1))) w w' := by
  have H := Lib.hid h
  have hn := h.n2
  have hR := h.r2
  have hcap := h.cap
  have hcr := h.caps r hr
  clear h
  go_enter Tryd.func29, Tryd.ntmps29
  go_wp2_with fail
  refine at_calls (fun X => Below w.heap.size w X ∧ Blk X w.heap.size #[.string t, .int .i64 1]) ⟨(Below.refl _ _).alloc (Nat.le_refl _) _, blk_new _ _ _⟩ ?_
  rintro X ⟨hX, hB⟩
  have HX := Lib.hid (And.intro hX hB)
  have l1 := hB.2.1 1
  simp at l1
  have G1 := Lib.hid (H.out.later hX)
  have l2 := G1.out.out r hr
  refine (in_yes G1.out hr hc).mono ?_
  rintro e w1 ⟨rfl, rfl⟩
  clear hX hB
  go_wp2_with fail
  refine (G1.out.loose hr hc).mono ?_
  rintro e w2 ⟨⟨v, rfl⟩, h2⟩
  have G2 := Lib.hid (And.intro h2 (HX.out.2.chg h2.2 (fun k => by unfold Iv at k; omega)))
  clear h2 l1 l2
  have l0 := G2.out.2.2.1 0
  have l1 := G2.out.2.2.1 1
  simp at l0 l1
  have l2 := G2.out.1.1.out r hr
  go_wp2_with fail
  obtain ⟨cs, b1, b2, b3, b4, b5, K⟩ := G2.out.1.1.lay hr
  have HK := Lib.hid K
  have HI := Lib.hid (And.intro b1 (And.intro b2 (And.intro b3 (And.intro b4 b5))))
  clear b1 b2 b3 b4 b5 K
  go_still_tail 11, (by kernel_rfl)
  obtain ⟨u1, v1, q1, q2, q3, q4⟩ := (Lib.hid (HI.out.1.two (p := c * 2) (by have := HI.out.2.1; omega) (.string t))).out
  go_wp2_with fail
  refine at_world (fun Y => Blk Y (rb r) (put2 cs (c * 2) (t, 1)) ∧ Chg (fun k => k = rb r) w2 Y) ⟨(HI.out.1.drewN 1).put2 (p := c * 2) (by have := HI.out.2.1; omega) (t, 1), ((Chg.refl (fun k => k = rb r) w2).drewN 1).put2 (b := rb r) (p := c * 2) rfl (t, 1)⟩ ?_
  rintro Y ⟨y1, y2⟩
  have HY := Lib.hid (And.intro y1 y2)
  clear y1 y2 q1 q2 q3 q4
  go_wp2
  go_ret
  refine ⟨rfl, ?_, ?_⟩
  · have W := wf_put (H.out.wf r hr) hc (x := (t, 1)) (.inl rfl)
    have := HK.out Y _ (putG (F r) c (t, 1)) HY.out.1 (by have := out_put2 (cs := cs) (o := 0) (t, 1) hc; rw [Nat.zero_add] at this; exact this) (by have := is_put2 HI.out.2.2.1 (t, 1) hc (by have := HI.out.2.1; omega); rw [Nat.zero_add, updR_same] at this; exact this) W HY.out.2
    rw [updR_updR] at this
    exact this
  · have c1 := ((Chg.refl (Iv lo hi) w).later HX.out.1).trans G2.out.1.2
    exact c1.trans (HY.out.2.mono fun k _ e => e ▸ HI.out.2.2.2.2)


set_option maxHeartbeats 2000000 in
set_option maxRecDepth 100000 in
theorem putR_2 {w : World} {lo hi ob Co R n : Nat} {rb Cr : Nat → Nat} {F : Nat → Nat → Cl} (h : RG w lo hi ob Co R n rb Cr F) (hhi : hi ≤ w.heap.size) {r c E : Nat} {t : ByteArray} (hr : r < R) (hc : c < n) (hE : c + 1 = E) (hE2 : E < n) :
    Calls Tryd.prog 29 #[gv ob R Co, .int .i64 r, .int .i64 c, .agg #[.string t, .int .i64 2]] w fun e w' => e = .returned (.bool true) ∧ RowR lo hi ob Co R n rb Cr (updR F r (putG (F r) c (t, 2))) w w' := by
  have H := Lib.hid h
  have hn := h.n2
  have hR := h.r2
  have hcap := h.cap
  have hcr := h.caps r hr
  have e1 : (c : Int) + 1 = (E : Int) := by omega
  have HE := Lib.hid hE
  clear hE
  clear h
  go_enter Tryd.func29, Tryd.ntmps29
  go_wp2_with fail
  refine at_calls (fun X => Below w.heap.size w X ∧ Blk X w.heap.size #[.string t, .int .i64 2]) ⟨(Below.refl _ _).alloc (Nat.le_refl _) _, blk_new _ _ _⟩ ?_
  rintro X ⟨hX, hB⟩
  have HX := Lib.hid (And.intro hX hB)
  have l1 := hB.2.1 1
  simp at l1
  have G1 := Lib.hid (H.out.later hX)
  have l2 := G1.out.out r hr
  refine (in_yes G1.out hr hc).mono ?_
  rintro e w1 ⟨rfl, rfl⟩
  clear hX hB
  go_wp2_with fail
  refine (in_yes G1.out hr hE2).mono ?_
  rintro e w1 ⟨rfl, rfl⟩
  go_wp2_with fail
  refine (G1.out.loose hr hc).mono ?_
  rintro e w2 ⟨⟨v, rfl⟩, h2⟩
  have G2 := Lib.hid (And.intro h2 (HX.out.2.chg h2.2 (fun k => by unfold Iv at k; omega)))
  clear h2 l1 l2
  have l0 := G2.out.2.2.1 0
  have l1 := G2.out.2.2.1 1
  simp at l0 l1
  have l2 := G2.out.1.1.out r hr
  go_wp2_with fail
  refine (G2.out.1.1.loose hr hE2).mono ?_
  rintro e w3 ⟨⟨v, rfl⟩, h3⟩
  have G3 := Lib.hid (And.intro (show RowR lo hi ob Co R n rb Cr (updR F r (looseG (looseG (F r) c) E)) w w3 from ⟨by have := h3.1; rw [updR_updR, updR_same] at this; exact this, (((Chg.refl (Iv lo hi) w).later HX.out.1).trans G2.out.1.2).trans h3.2⟩) (G2.out.2.chg h3.2 (fun k => by unfold Iv at k; omega)))
  clear h3 l0 l1 l2
  have l1 := G3.out.2.2.1 1
  simp at l1
  have l2 := G3.out.1.1.out r hr
  obtain ⟨cs, b1, b2, b3, b4, b5, K⟩ := G3.out.1.1.lay hr
  have HK := Lib.hid K
  have HI := Lib.hid (And.intro b1 (And.intro b2 (And.intro b3 (And.intro b4 b5))))
  clear b1 b2 b3 b4 b5 K
  obtain ⟨u1, v1, q1, q2, q3, q4⟩ := (Lib.hid (HI.out.1.two (p := E * 2) (by have := HI.out.2.1; omega) (.string ⟨#[]⟩))).out
  go_wp2_with fail
  refine at_world (fun Y => Blk Y (rb r) (put2 cs (E * 2) nought) ∧ Chg (fun k => k = rb r) w3 Y ∧ Blk Y w.heap.size #[.string t, .int .i64 2]) ⟨HI.out.1.put2 (p := E * 2) (by have := HI.out.2.1; omega) nought, (Chg.refl (fun k => k = rb r) w3).put2 (b := rb r) (p := E * 2) rfl nought, G3.out.2.chg ((Chg.refl (fun k => k = rb r) w3).put2 (p := E * 2) rfl nought) (fun e => by have := HI.out.2.2.2.2; unfold Iv at this; omega)⟩ ?_
  rintro Y ⟨y1, y2, y3⟩
  have HY := Lib.hid (And.intro y1 (And.intro y2 y3))
  clear l1 l2 q1 q2 q3 q4
  have l0 := y3.2.1 0
  have l1 := y3.2.1 1
  simp at l0 l1
  have l2 := (cell_chg (j := r) y2 G3.out.1.1.o0 (Ne.symm HI.out.2.2.2.1)).trans (G3.out.1.1.out r hr)
  clear y1 y2 y3
  go_wp2_with fail
  go_still_tail 11, (by kernel_rfl)
  obtain ⟨u4, v4, q1, q2, q3, q4⟩ := (Lib.hid (HY.out.1.two (p := c * 2) (by rw [put2_size]; have := HI.out.2.1; omega) (.string t))).out
  go_wp2_with fail
  refine at_world (fun Z => Blk Z (rb r) (put2 (put2 cs (E * 2) nought) (c * 2) (t, 2)) ∧ Chg (fun k => k = rb r) w3 Z) ⟨(HY.out.1.drewN 1).put2 (p := c * 2) (by rw [put2_size]; have := HI.out.2.1; omega) (t, 2), (HY.out.2.1.drewN 1).put2 (p := c * 2) rfl (t, 2)⟩ ?_
  rintro Z ⟨z1, z2⟩
  have HZ := Lib.hid (And.intro z1 z2)
  clear z1 z2 q1 q2 q3 q4
  go_wp2
  go_ret
  have hE3 := HE.out
  subst hE3
  refine ⟨rfl, ?_, ?_⟩
  · have W := wf_put (H.out.wf r hr) hc (x := (t, 2)) (.inr ⟨rfl, hE2⟩)
    have o1 := out_put2 (cs := cs) (o := 0) nought hE2
    have o2 := out_put2 (cs := put2 cs (0 + (c + 1) * 2) nought) (o := 0) (t, 2) hc
    have i1 := is_put2 HI.out.2.2.1 nought hE2 (by have := HI.out.2.1; omega)
    have i2 := is_put2 i1 (t, 2) hc (by rw [put2_size]; have := HI.out.2.1; omega)
    rw [Nat.zero_add] at o1 o2
    rw [Nat.zero_add, Nat.zero_add, updR_same] at i2
    rw [Nat.zero_add] at o2
    have := HK.out Z _ (putG (F r) c (t, 2)) HZ.out.1 (o1.trans o2) (i2.congr fun j _ => ?_) W HZ.out.2
    · rw [updR_updR] at this
      exact this
    · unfold putG upd
      rw [if_pos rfl]
      by_cases e : j = c
      · rw [if_pos e]; simp [e]
      · rw [if_neg e]; simp [e]
  · exact G3.out.1.2.trans (HZ.out.2.mono fun k _ e => e ▸ HI.out.2.2.2.2)

end Go.Proofs.YtednedklkbjihaaDoor
