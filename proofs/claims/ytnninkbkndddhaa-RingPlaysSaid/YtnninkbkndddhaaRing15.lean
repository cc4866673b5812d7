/- ring: a ring held against the document's; RingPlays' walk. -/
import Derived.Test.YtnninkbkndddhaaRing14
namespace Go.Proofs.Ytnninkbkndddhaa
open Go.RowKit
set_option linter.unusedVariables false
set_option linter.unusedSimpArgs false

set_option maxHeartbeats 2000000 in
theorem same_ring (u v : Value) (L : List (List Int)) (k b : Nat) (w : World) (hu : Txts w u L) (hv : Txts w v L) (hf : Fine (L, k) b) (hb : b ≤ 100000) : Calls Try.prog 14 #[.agg #[u, .int .i64 k], .agg #[v, .int .i64 k]] w (Yes w) := by
  obtain ⟨A, c, rfl, hc, hc2⟩ := hu.is
  obtain ⟨B, d, rfl, hd, hd2⟩ := hv.is
  have HU := Lib.hid (And.intro (hu.later (below_two w (.cells #[.slice A L.length c, .int .i64 k] 24) (.cells #[.slice B L.length d, .int .i64 k] 42))) (hv.later (below_two w (.cells #[.slice A L.length c, .int .i64 k] 24) (.cells #[.slice B L.length d, .int .i64 k] 42))))
  have hn : L.length ≤ 60 := hf.few
  have HF := Lib.hid hf
  have C1 := Lib.hid (all_any (.slice A L.length c) k L _ HU.out.1 (by omega) (fun l hl => by have := hf.len l hl; omega))
  clear hu hv hf
  by_cases h0 : L.length = 0
  · obtain rfl : L = [] := List.eq_nil_of_length_eq_zero h0
    have C2 := Lib.hid (fun w (h : Txts w (.slice A 0 c) []) => top_none (.slice A 0 c) k w h)
    simp only [List.length_nil] at C1 HU
    have hkk : ((k : Int) == (k : Int)) = true := by simp
    clear h0
    go_enter Try.func14, Try.ntmps14
    go_wp2_with fail
    (with_reducible refine C1.out.mono ?_)
    rintro e w1 ⟨A1, n1, c1, rfl, ht1, hb1⟩
    obtain ⟨⟨z0, z1⟩, B0, B1, hbw⟩ := two_later hb1
    have H1 := Lib.hid (And.intro ht1 (And.intro hbw (And.intro (HU.out.1.later hb1) (HU.out.2.later hb1))))
    have HB := Lib.hid (And.intro B0 B1)
    obtain ⟨_, k0, j0⟩ := (show _ from B0)
    clear ht1 hb1 hbw B0 B1
    go_wp2_with fail
    (with_reducible refine (C2.out _ H1.out.2.2.1).mono ?_)
    rintro e w2 ⟨A2, n2, c2, rfl, ht2, hb2⟩
    have H2 := Lib.hid (And.intro (H1.out.1.any.later hb2) (And.intro (H1.out.2.1.trans (hb2.mono H1.out.2.1.size)) (H1.out.2.2.2.later hb2)))
    have HB2 := Lib.hid (HB.out.2.later hb2 HB.out.2.1)
    obtain ⟨_, k1, j1⟩ := (show _ from HB2.out)
    obtain rfl : n1 = 0 := H1.out.1.len
    clear ht2 hb2 k0 j0 z0 z1
    have C3 := Lib.hid (sametexts_yes (.slice A1 0 c1) (.slice B 0 d) [] w2 H2.out.1 H2.out.2.2 (by simp))
    go_wp2_with fail
    (with_reducible refine C3.out.mono ?_)
    rintro e w3 ⟨rfl, hb3⟩
    have HB3 := Lib.hid (HB2.out.later hb3 HB2.out.1)
    obtain ⟨_, k3, j3⟩ := (show _ from HB3.out)
    have H3 := Lib.hid (H2.out.2.1.trans (hb3.mono H2.out.2.1.size))
    clear hb3 k1 j1
    go_wp2
    go_ret
    exact ⟨rfl, H3.out⟩
  · have hk : k < L.length := HF.out.top (fun e => h0 (by have e' : L = [] := e; rw [e']; rfl))
    have hpos : decide (0 < (L.length : Int)) = true := by simp; omega
    have hkk : ((k : Int) == (k : Int)) = true := by simp
    have C2 := Lib.hid (fun w (h : Txts w (.slice A L.length c) L) => top_some (.slice A L.length c) k L w h hk (by have := getD_len HF.out k; omega))
    clear h0
    go_enter Try.func14, Try.ntmps14
    go_wp2_with fail
    (with_reducible refine C1.out.mono ?_)
    rintro e w1 ⟨A1, n1, c1, rfl, ht1, hb1⟩
    obtain ⟨⟨z0, z1⟩, B0, B1, hbw⟩ := two_later hb1
    have H1 := Lib.hid (And.intro ht1 (And.intro hbw (And.intro (HU.out.1.later hb1) (HU.out.2.later hb1))))
    have HB := Lib.hid (And.intro B0 B1)
    obtain ⟨_, k0, j0⟩ := (show _ from B0)
    clear ht1 hb1 hbw B0 B1
    go_wp2_with fail
    (with_reducible refine (C2.out _ H1.out.2.2.1).mono ?_)
    rintro e w2 ⟨A2, n2, c2, rfl, ht2, hb2⟩
    obtain ⟨b, o, Ap, np, cp, rfl, hbl, hcell, htp⟩ := (H1.out.2.2.2.later hb2).at_ hk
    have H2 := Lib.hid (And.intro (H1.out.1.any.later hb2) (And.intro (H1.out.2.1.trans (hb2.mono H1.out.2.1.size)) (H1.out.2.2.2.later hb2)))
    have HB2 := Lib.hid (HB.out.2.later hb2 HB.out.2.1)
    obtain ⟨_, k1, j1⟩ := (show _ from HB2.out)
    obtain rfl : L.length = n1 := H1.out.1.len.symm
    have CS := Lib.hid (same_far (.slice A2 n2 c2) (.slice Ap np cp) _ w2 ht2 htp.any)
    clear ht2 htp hb2 k0 j0 z0 z1
    go_wp2_with fail
    (with_reducible refine CS.out.mono ?_)
    rintro e w4 ⟨rfl, hb4⟩
    have H4 := Lib.hid (And.intro (H2.out.1.later hb4) (And.intro (H2.out.2.1.trans (hb4.mono H2.out.2.1.size)) (H2.out.2.2.later hb4)))
    have HB4 := Lib.hid (HB2.out.later hb4 HB2.out.1)
    clear k1 j1 hb4 hcell
    obtain ⟨_, k1, j1⟩ := (show _ from HB4.out)
    have C3 := Lib.hid (sametexts_yes (.slice A1 L.length c1) (.slice (some ⟨b, o, none⟩) L.length d) L w4 H4.out.1 H4.out.2.2 (by omega))
    go_wp2_with fail
    (with_reducible refine C3.out.mono ?_)
    rintro e w3 ⟨rfl, hb3⟩
    have HB3 := Lib.hid (HB4.out.later hb3 HB4.out.1)
    obtain ⟨_, k3, j3⟩ := (show _ from HB3.out)
    have H3 := Lib.hid (H4.out.2.1.trans (hb3.mono H4.out.2.1.size))
    clear hb3 k1 j1
    go_wp2
    go_ret
    exact ⟨rfl, H3.out⟩
/-- Not the two variables' blocks. -/
def Off (w : World) (b : Nat) : Prop := b < w.heap.size ∨ w.heap.size + 1 < b
theorem off_new {w X : World} (h : w.heap.size + 1 < X.heap.size) {b : Nat} (hb : New X (Off w) b) : Off w b := hb.elim (fun h' => .inr (Nat.lt_of_lt_of_le h h')) id
theorem few20s (v : Value) (l : List Int) (w : World) (h : Txt w v l) : Calls Try.prog 10 #[v, .int .i64 20] w fun e w' => ∃ A m c, e = .returned (.slice A m c) ∧ Hid (∀ (X : World) (S : Nat → Prop), TxtS X S v l → TxtS X S (.slice A m c) (l.take 20)) ∧ w = w' := by
  refine (few_any v l 20 w h (by omega)).mono fun e w' hh => ?_
  obtain ⟨A, c, he, ht, hw⟩ := hh
  exact ⟨A, _, c, he, Lib.hid ht, hw⟩

/-- The two variables of the law. -/
structure Var2 (w : World) (a b : Value) (k : Nat) (L : List (List Int)) (X : World) : Prop where
  br : Blk X w.heap.size #[a, .int .i64 k]
  bx : Blk X (w.heap.size + 1) #[b, .int .i64 k]
  tr : TxtsS X (Off w) a L
  tx : TxtsS X (Off w) b L
  below : Below w.heap.size w X

theorem Var2.later {w X Y : World} {a b : Value} {k : Nat} {L : List (List Int)} (h : Var2 w a b k L X) (hb : Below X.heap.size X Y) : Var2 w a b k L Y :=
  ⟨h.br.later hb h.br.1, h.bx.later hb h.bx.1, h.tr.later hb, h.tx.later hb, h.below.trans (hb.mono h.below.size)⟩
theorem var2_new (w : World) (s t : TypeId) : Var2 w (.slice none 0 0) (.slice none 0 0) 0 [] ((w.alloc (.cells #[.slice none 0 0, .int .i64 0] s)).alloc (.cells #[.slice none 0 0, .int .i64 0] t)) := by
  have h2 := blk_new (w.alloc (.cells #[.slice none 0 0, .int .i64 0] s)) #[.slice none 0 0, .int .i64 0] t
  rw [World.size_alloc] at h2
  exact ⟨(blk_new w _ s).alloc _, h2, Txts.nil _ _, Txts.nil _ _, below_two w _ _⟩

/-- r has been set. -/
structure Mid (w : World) (a' b : Value) (k k' : Nat) (L L' : List (List Int)) (X : World) : Prop where
  br : Blk X w.heap.size #[a', .int .i64 k']
  bx : Blk X (w.heap.size + 1) #[b, .int .i64 k]
  tr : TxtsS X (Off w) a' L'
  tx : TxtsS X (Off w) b L
  below : Below w.heap.size w X
theorem Mid.later {w X Y : World} {a b : Value} {k k' : Nat} {L L' : List (List Int)} (h : Mid w a b k k' L L' X) (hb : Below X.heap.size X Y) : Mid w a b k k' L L' Y :=
  ⟨h.br.later hb h.br.1, h.bx.later hb h.bx.1, h.tr.later hb, h.tx.later hb, h.below.trans (hb.mono h.below.size)⟩

theorem not_aft {w : World} : ¬ Off w w.heap.size := fun h => by unfold Off at h; omega
theorem not_aft1 {w : World} : ¬ Off w (w.heap.size + 1) := fun h => by unfold Off at h; omega

theorem Var2.setr {w X : World} {a b a' : Value} {k k' : Nat} {L L' : List (List Int)} (h : Var2 w a b k L X) (ht : TxtsS X (Off w) a' L') : Mid w a' b k k' L L' ((X.setCell ⟨w.heap.size, 0, none⟩ a').setCell ⟨w.heap.size, 1, none⟩ (.int .i64 k')) := by
  refine ⟨(h.br.set_ 0 (by simp) a').set_ 1 (by simp) (.int .i64 k'), ?_, ?_, ?_, (h.below.setCell (p := ⟨w.heap.size, 0, none⟩) (Nat.le_refl _) _).setCell (p := ⟨w.heap.size, 1, none⟩) (Nat.le_refl _) _⟩
  · exact (h.bx.far (p := ⟨w.heap.size, 0, none⟩) (by show w.heap.size ≠ w.heap.size + 1; omega) _).far (p := ⟨w.heap.size, 1, none⟩) (by show w.heap.size ≠ w.heap.size + 1; omega) _
  · exact (ht.far (p := ⟨w.heap.size, 0, none⟩) not_aft _).far (p := ⟨w.heap.size, 1, none⟩) not_aft _
  · exact (h.tx.far (p := ⟨w.heap.size, 0, none⟩) not_aft _).far (p := ⟨w.heap.size, 1, none⟩) not_aft _
theorem Mid.setx {w X : World} {a' b b' : Value} {k k' : Nat} {L L' : List (List Int)} (h : Mid w a' b k k' L L' X) (ht : TxtsS X (Off w) b' L') : Var2 w a' b' k' L' ((X.setCell ⟨w.heap.size + 1, 0, none⟩ b').setCell ⟨w.heap.size + 1, 1, none⟩ (.int .i64 k')) := by
  refine ⟨?_, (h.bx.set_ 0 (by simp) b').set_ 1 (by simp) (.int .i64 k'), ?_, ?_, (h.below.setCell (p := ⟨w.heap.size + 1, 0, none⟩) (Nat.le_succ _) _).setCell (p := ⟨w.heap.size + 1, 1, none⟩) (Nat.le_succ _) _⟩
  · exact (h.br.far (p := ⟨w.heap.size + 1, 0, none⟩) (by show w.heap.size + 1 ≠ w.heap.size; omega) _).far (p := ⟨w.heap.size + 1, 1, none⟩) (by show w.heap.size + 1 ≠ w.heap.size; omega) _
  · exact (h.tr.far (p := ⟨w.heap.size + 1, 0, none⟩) not_aft1 _).far (p := ⟨w.heap.size + 1, 1, none⟩) not_aft1 _
  · exact (ht.far (p := ⟨w.heap.size + 1, 0, none⟩) not_aft1 _).far (p := ⟨w.heap.size + 1, 1, none⟩) not_aft1 _

set_option maxHeartbeats 4000000 in
set_option maxRecDepth 100000 in
theorem walk_RingPlays (w : World) (A : Option Addr) (n c : Nat) (K : Nat → Int) (sv : Nat → Value) (ls : Nat → List Int) (hD : Deeds w A n K sv ls) (hn : n ≤ c) (hc : c ≤ maxLen) : Calls Try.prog 5 #[.slice A n c] w (Yes w) := by
  have V0 := Lib.hid (var2_new w 24 42)
  have HD := Lib.hid hD
  unfold maxLen at hc
  clear hD
  go_enter Try.func5, Try.ntmps5
  go_wp2
  go_loopw [5] (fun i wr => ∃ q : Nat, q ≤ n ∧ q ≤ 150 ∧ i = .int .i64 q ∧ Hid (∃ A n c B m d k L, Var2 w (.slice A n c) (.slice B m d) k L wr ∧ Fine (L, k) (20 * q))) (fun i _ => n - (intOf i).toNat)
  case atStart => exact ⟨0, Nat.zero_le _, Nat.zero_le _, rfl, ⟨none, 0, 0, none, 0, 0, 0, [], V0.out, fine_nil⟩⟩
  case round =>
    obtain ⟨q, hq, hq150, rfl, HR⟩ := hrel
    obtain ⟨A1, n1, c1, B1, m1, d1, k, L, V, hf⟩ := HR.out
    have V1 := Lib.hid (And.intro V hf)
    obtain ⟨y0, k0, j0⟩ := (show _ from V.br)
    obtain ⟨y1, k1, j1⟩ := (show _ from V.bx)
    clear V hf HR
    by_cases hlt : q < n ∧ q < 150
    · obtain ⟨hqn, hq2⟩ := hlt
      obtain ⟨b, o, rfl, hbl, hk1, hk2, htx⟩ := HD.out.later V1.out.1.below q hqn
      obtain ⟨As, cs, es, _⟩ := Sl.is htx
      rw [es] at hk2 htx
      have HT := Lib.hid htx
      have hto : Txt w (sv q) (ls q) := by
        obtain ⟨_, _, _, _, _, _, h⟩ := HD.out q hqn
        exact h
      rw [es] at hto
      have HTO : Hid (TxtS wr (Off w) (.slice As (ls q).length cs) (ls q)) := Lib.hid (Sl.mono ((Sl.old hto).later V1.out.1.below) fun b hb => .inl hb.1)
      clear htx es hto
      have hd : decide ((q : Int) < 150) = true := by simp; omega
      have C1 := Lib.hid (few20s (.slice As (ls q).length cs) (ls q) (wr.alloc (.cells #[.int .i64 (K q), .slice As (ls q).length cs] 34)) (HT.out.later (below_one _ _)))
      go_wp2_with fail
      (with_reducible refine C1.out.mono ?_)
      rintro e w1 ⟨A2, m2, c2, rfl, H2, rfl⟩
      have VA := Lib.hid (V1.out.1.later (below_one wr (.cells #[.int .i64 (K q), .slice A2 m2 c2] 34)))
      have BD := Lib.hid (blk_new wr #[.int .i64 (K q), .slice A2 m2 c2] 34)
      have TD := Lib.hid (H2.out _ _ (HTO.out.later (below_one wr (.cells #[.int .i64 (K q), .slice A2 m2 c2] 34))))
      have C2 := Lib.hid (does_any (.slice A1 n1 c1) (.slice A2 m2 c2) L k (20 * q) (K q) ((ls q).take 20) (Off w) (wr.alloc (.cells #[.int .i64 (K q), .slice A2 m2 c2] 34)) VA.out.tr TD.out.any V1.out.2 (by omega) (List.length_take_le _ _))
      obtain ⟨r, hr⟩ : ∃ r, r = doesL (L, k) (K q) ((ls q).take 20) := ⟨_, rfl⟩
      rw [← hr] at C2
      go_wp2_with fail
      (with_reducible refine C2.out.mono ?_)
      rintro e w3 ⟨A3, n3, c3, rfl, ht3, hb3⟩
      have T3 : Hid (TxtsS w3 (Off w) (.slice A3 n3 c3) r.1) := Lib.hid (ht3.mono fun b hb => off_new VA.out.bx.1 hb)
      have hf2 : Hid (Fine r (20 * (q + 1))) := Lib.hid (by rw [Nat.mul_add, hr]; exact V1.out.2.does (K q) ((ls q).take 20) (List.length_take_le _ _))
      have HR2 := Lib.hid hr
      have NX := Lib.hid (blk_new w3 #[.slice A3 n3 c3, .int .i64 r.2] 24)
      have V3 := Lib.hid ((VA.out.later hb3).later (below_one w3 (.cells #[.slice A3 n3 c3, .int .i64 r.2] 24)))
      have BD3 := Lib.hid ((BD.out.later hb3 BD.out.1).alloc (.cells #[.slice A3 n3 c3, .int .i64 r.2] 24))
      have T4 := Lib.hid (And.intro (T3.out.later (below_one w3 (.cells #[.slice A3 n3 c3, .int .i64 r.2] 24))) ((TD.out.later hb3).later (below_one w3 (.cells #[.slice A3 n3 c3, .int .i64 r.2] 24))))
      have hzw : w.heap.size + 1 < wr.heap.size := y1
      have hzr : wr.heap.size < w3.heap.size := by have := hb3.size; simp only [World.size_alloc] at this; omega
      have C3 := Lib.hid (same_ring (.slice A1 n1 c1) (.slice B1 m1 d1) L k (20 * q) _ V3.out.tr.any V3.out.tx.any V1.out.2 (by omega))
      have V3b := Lib.hid (VA.out.later hb3)
      clear ht3 hb3 y0 k0 j0 y1 k1 j1 hr
      obtain ⟨y0, k0, j0⟩ := (show _ from V3b.out.br)
      obtain ⟨y1, k1, j1⟩ := (show _ from V3b.out.bx)
      go_wp2_with fail
      (with_reducible refine C3.out.mono ?_)
      rintro e w4 ⟨rfl, hb4⟩
      have V4 := Lib.hid (V3.out.later hb4)
      have NX4 := Lib.hid (NX.out.later hb4 NX.out.1)
      have BD4 := Lib.hid (BD3.out.later hb4 BD3.out.1)
      have T5 := Lib.hid (And.intro (T4.out.1.later hb4) (T4.out.2.later hb4))
      clear y0 k0 j0 y1 k1 j1 hb4
      obtain ⟨y0, k0, j0⟩ := (show _ from V4.out.br)
      obtain ⟨y1, k1, j1⟩ := (show _ from V4.out.bx)
      obtain ⟨y2, k2, j2⟩ := (show _ from NX4.out)
      obtain ⟨y3, k3, j3⟩ := (show _ from BD4.out)
      have hn0 : w.heap.size ≠ wr.heap.size := by omega
      have hn1 : w.heap.size + 1 ≠ wr.heap.size := by omega
      have hn2 : wr.heap.size ≠ w.heap.size := by omega
      have hn3 : wr.heap.size ≠ w.heap.size + 1 := by omega
      have M5 := Lib.hid (V4.out.setr (k' := r.2) T5.out.1)
      have BD5 := Lib.hid ((BD4.out.far (p := ⟨w.heap.size, 0, none⟩) hn0 (.slice A3 n3 c3)).far (p := ⟨w.heap.size, 1, none⟩) hn0 (.int .i64 r.2))
      have TD5 := Lib.hid (Sl.far (Sl.far T5.out.2 (p := ⟨w.heap.size, 0, none⟩) not_aft (.slice A3 n3 c3)) (p := ⟨w.heap.size, 1, none⟩) not_aft (.int .i64 r.2))
      have C4 := Lib.hid (means_any (.slice B1 m1 d1) (.slice A2 m2 c2) L k (20 * q) (K q) ((ls q).take 20) (Off w) _ M5.out.tx TD5.out V1.out.2 (by omega) (List.length_take_le _ _))
      rw [← HR2.out] at C4
      go_wp2_with fail
      (with_reducible refine C4.out.mono ?_)
      rintro e w6 ⟨A6, n6, c6, rfl, ht6, hb6⟩
      have M6 := Lib.hid (M5.out.later hb6)
      have T6 : Hid (TxtsS w6 (Off w) (.slice A6 n6 c6) r.1) := Lib.hid (ht6.mono fun b hb => off_new M5.out.bx.1 hb)
      have V7 := Lib.hid (M6.out.setx T6.out)
      clear ht6 hb6 y0 k0 j0 y1 k1 j1 y2 k2 j2 y3 k3 j3
      obtain ⟨y0, k0, j0⟩ := (show _ from M6.out.br)
      obtain ⟨y1, k1, j1⟩ := (show _ from M6.out.bx)
      have C5 := Lib.hid (same_ring (.slice A3 n3 c3) (.slice A6 n6 c6) r.1 r.2 (20 * (q + 1)) _ V7.out.tr.any V7.out.tx.any hf2.out (by omega))
      go_wp2_with fail
      (with_reducible refine C5.out.mono ?_)
      rintro e w8 ⟨rfl, hb8⟩
      have V8 := Lib.hid (V7.out.later hb8)
      clear hb8 y0 k0 j0 y1 k1 j1
      go_wp2
      go_roundw
      case rel => exact ⟨q + 1, by omega, by omega, by go_num, ⟨_, _, _, _, _, _, _, _, V8.out, hf2.out⟩⟩
      case measure => simp [intOf]; omega
    · have hor : q = n ∨ (q < n ∧ q = 150) := by omega
      clear hlt
      rcases hor with rfl | ⟨hqn, rfl⟩
      all_goals
        go_wp2_with (go_at_call 9; refine (awake_yes _).mono ?_; rintro e w4 ⟨rfl, hb4⟩)
        go_ret
        exact ⟨rfl, V1.out.1.below.trans (hb4.mono V1.out.1.below.size)⟩
end Go.Proofs.Ytnninkbkndddhaa
