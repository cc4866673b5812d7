/- gap: Splice, done. -/
import Derived.Test.YtganehhcnflgaaaGapF
namespace Go.Proofs.Ytganehhcnflgaaa
open Go.RowKit
set_option linter.unusedVariables false
set_option linter.unusedSimpArgs false

/-- The list's memory behind a change: as it was, or new. -/
abbrev Fresh (w : World) (A A' : Option Addr) : Prop := A' = A ∨ ∃ b, A' = some ⟨b, 0, none⟩ ∧ w.heap.size ≤ b
def Spliced (w : World) (gb B0 : Nat) (A : Option Addr) (L : List Int) (e : Ending) (w' : World) : Prop :=
  e = .returned (.bool true) ∧ (∃ A', Lst w' gb B0 A' L ∧ Fresh w A A') ∧ Chg (Mine gb A) w w'

theorem held_ins {a te : Nat} {cur L1 L2 I : List Int} (h : held a te cur = L1 ++ L2) (h1 : L1.length = a) (h2 : a ≤ cur.length) : cur.take a ++ I ++ cur.drop te = L1 ++ I ++ L2 := by
  unfold held at h
  obtain ⟨e1, e2⟩ := List.append_inj h (by rw [List.length_take]; omega)
  rw [e1, e2]

theorem Chg.base {S : Nat → Prop} {w v : World} {q : Nat} (h : Chg S (w.drewN q) v) : Chg S w v := ⟨h.os, h.tape, h.output, h.size, h.block⟩

theorem rd_src {w : World} {A : Option Addr} {I : List Int} (h : Rd w A I.length (liI I)) (h0 : 0 < I.length) : ∃ ad, A = some ad ∧ ∀ (j : Nat) (v : Value), (I.map vI)[j]? = some v → w.cell? (ad.add j) = some v := by
  obtain ⟨b, o, e, hl, hc⟩ := h.all h0
  refine ⟨_, e, fun j v hv => ?_⟩
  rw [Addr.add_lit]
  by_cases hj : j < I.length
  · rw [hc j hj]
    simpa [liI, List.getD, hj] using hv
  · simp [hj] at hv

set_option maxHeartbeats 4000000 in
set_option maxRecDepth 100000 in
theorem splice_yes {w : World} {gb B0 : Nat} {A : Option Addr} {N C fr te : Nat} {cur L : List Int} (G : Gp w gb B0 A N C fr te cur) (hL : held fr te cur = L) (a b n c : Nat) (AI : Option Addr) (I : List Int) (hab : a ≤ b) (hb : b ≤ L.length)
    (hI : Rd w AI n (liI I)) (hn : I.length = n) (hnil : AI = none → n = 0) (hfar : 0 < n → ∀ k o, AI = some ⟨k, o, none⟩ → ¬ Mine gb A k) (hB : B0 ≤ w.heap.size) (hM : L.length + n ≤ 50000) :
    Calls Try.prog 7 #[ptr gb, .int .i64 a, .int .i64 b, .slice AI n c] w (Spliced w gb B0 A (L.take a ++ I ++ L.drop b)) := by
  have hlen : L.length = N - (te - fr) := by rw [← hL, held_len G.ft (by rw [G.len]; exact G.tn), G.len]
  have hft := G.ft
  have htn := G.tn
  have HG := Lib.hid G
  have HI := Lib.hid (And.intro hI (And.intro hnil hfar))
  have HL := Lib.hid hL
  have C0 := Lib.hid (len_any G)
  rw [hL] at C0
  obtain ⟨W, hW⟩ : ∃ W, te - fr = W := ⟨_, rfl⟩
  obtain ⟨m, hm⟩ : ∃ m, b - a = m := ⟨_, rfl⟩
  have hWN : a + W ≤ N := by omega
  have hmN : a + W + m ≤ N := by omega
  have d1 : decide ((a : Int) < 0) = false := by simp
  have d2 : decide ((b : Int) < (a : Int)) = false := by simp; omega
  have d3 : decide ((L.length : Int) < (b : Int)) = false := by simp; omega
  have e1 : (b : Int) - (a : Int) = (m : Int) := by omega
  have hWW := Lib.hid hW
  have hmm := Lib.hid hm
  have hln := Lib.hid hlen
  have HN := Lib.hid hn
  clear G hI hnil hfar hL hlen hW hm hn
  go_enter Try.func7, Try.ntmps7
  go_wp2_with fail
  (with_reducible refine C0.out.mono ?_)
  rintro e w1 ⟨rfl, q, rfl⟩
  clear C0
  go_wp2_with fail
  have C1 := Lib.hid (move_any (HG.out.drewN q) (a := a) (by rw [hWW.out]; exact hWN))
  rw [hWW.out, HL.out] at C1
  (with_reducible refine C1.out.mono ?_)
  rintro e w1 ⟨⟨v1, rfl⟩, ⟨cur1, g1, l1⟩, c1⟩
  clear C1
  have H1 := Lib.hid (And.intro g1 (And.intro l1 c1.base))
  clear g1 l1 c1
  go_wp2_with fail
  have C2 := Lib.hid (drop_list H1.out.1 H1.out.2.1 (n := m) hmN)
  (with_reducible refine C2.out.mono ?_)
  rintro e w2 ⟨⟨v2, rfl⟩, ⟨cur2, g2, l2⟩, c2⟩
  clear C2
  have H2 := Lib.hid (And.intro g2 (And.intro l2 (H1.out.2.2.trans c2)))
  clear g2 l2 c2
  go_wp2_with fail
  have C3 := Lib.hid (widen_any (n := n) H2.out.1 H2.out.2.1 (Nat.le_trans hB H2.out.2.2.size) (by have := hmm.out; simp; omega))
  (with_reducible refine C3.out.mono ?_)
  rintro e w3 ⟨⟨v3, rfl⟩, ⟨A3, N3, C3', te3, cur3, g3, t3, l3, f3⟩, c3⟩
  clear C3
  have H3 := Lib.hid (And.intro g3 (And.intro l3 (And.intro f3 (H2.out.2.2.trans c3))))
  have hft3 : a + n ≤ te3 := t3
  have htn3 : te3 ≤ N3 := g3.tn
  have hnc3 : N3 ≤ C3' := by have := g3.mem.cap; have := g3.len; omega
  have hmx3 := g3.max
  obtain ⟨y3, k3, j3⟩ := (show Blk _ _ _ from g3.blk)
  clear g3 t3 l3 f3 c3
  obtain ⟨AX, hAX⟩ : ∃ AA, (if C3' = a then A3 else Option.map (fun x => x.add a) A3) = AA := ⟨_, rfl⟩
  have p0 : (0 : Int) ≤ (a : Int) := by omega
  have p1 : (a : Int) ≤ (N3 : Int) := by omega
  have p2 : (N3 : Int) ≤ (C3' : Int) := by omega
  have p3 : (a : Int) ≤ (C3' : Int) := by omega
  obtain ⟨F, hF⟩ : ∃ F, a + n = F := ⟨_, rfl⟩
  have p4 : (a : Int) + (n : Int) = (F : Int) := by omega
  have HF := Lib.hid hF
  clear hF
  go_wp2
  go_still_tail 10, (by kernel_rfl)
  change wpList _ _ _ _ _ w3.drew
  refine wpList_copy_mem (off := a) (cs := I) (A := A3) (C := C3') (cur := cur3) (B0 := B0) (by rfl) (by rfl) Try.underlying22 sizeI (by rfl) (by rfl) H3.out.1.drew.mem ?_ ?_ ?_ ?_
  · rw [HN.out]; exact (Nat.min_eq_left (by omega)).symm
  · intro h
    have hn := HN.out
    refine ⟨by rw [← hAX, if_neg (by omega)], ?_⟩
    have hr : Rd w3.drew AI I.length (liI I) := by rw [hn]; exact (HI.out.1.chg H3.out.2.2.2 (HI.out.2.2 (by omega))).drewN 1
    exact rd_src hr h
  · rw [HN.out, H3.out.1.len]; omega
  intro w5 hL5
  have B5 := H3.out.1.blk.drew.chg hL5.out.2 H3.out.1.ne
  have HB5 := Lib.hid B5
  clear y3 k3 j3
  obtain ⟨y5, k5, j5⟩ := (show Blk _ _ _ from B5)
  clear B5
  go_wp2
  go_ret
  have hl5 : (splice cur3 a I).length = N3 := (length_splice _ _ _ (by rw [HN.out, H3.out.1.len]; omega)).trans H3.out.1.len
  have hnew : ∀ j, j < w.heap.size → Own A3 j → Mine gb A j := by
    intro j hj h
    rcases H3.out.2.2.1 with e | ⟨b', e, hb'⟩
    · rw [e] at h; exact .inr h
    · rw [e] at h
      have e2 : b' = j := by simpa [Own] using h
      have := H2.out.2.2.size
      omega
  refine ⟨rfl, ⟨A3, ⟨N3, C3', F, te3, splice cur3 a I, ?_, ?_⟩, ?_⟩, ?_⟩
  · exact Gp.set_ hL5.out.1 ((Chg.refl (fun k => k = gb) w5).setCell gb 1 rfl _) (HB5.out.set_ 1 (by simp) _) hl5 (by have := HF.out; omega) htn3 hmx3 H3.out.1.ne
  · rw [← HF.out, ← HN.out, held_put (by rw [HN.out]; omega) (by rw [H3.out.1.len]; omega)]
    refine held_ins H3.out.2.1 (by have := hln.out; have := hmm.out; rw [List.length_take]; omega) (by rw [H3.out.1.len]; omega) |>.trans ?_
    have e : List.drop (a + m) L = List.drop b L := by have := hmm.out; congr 1; omega
    rw [e]
  · rcases H3.out.2.2.1 with e | ⟨b', e, hb'⟩
    · exact .inl e
    · exact .inr ⟨b', e, Nat.le_trans H2.out.2.2.size hb'⟩
  · exact (H3.out.2.2.2.next hL5.out.base.2 hnew).setCell gb 1 (.inl rfl) _
end Go.Proofs.Ytganehhcnflgaaa
