/- past: Add. -/
import Derived.Test.YtfnieoffgnnldaaDoorPastA
import Derived.Test.YtfnieoffgnnldaaDoorSlE
namespace Go.Proofs.YtfnieoffgnnldaaDoor
open Go.RowKit
set_option linter.unusedVariables false
set_option linter.unusedSimpArgs false

/-- A past that is told. -/
def TellsP (M : List (List Int)) (k : Int) (s : List Int) (S : Nat → Prop) (w : World) (e : Ending) (w' : World) : Prop := ∃ a b, e = .returned (.agg #[a, .int .i64 k, b]) ∧ TxtsS w' (New w S) a M ∧ TxtS w' (New w S) b s ∧ Below w.heap.size w w'

/-- What is known when a past has been stored as the result. -/
structure StoredP (w : World) (S : Nat → Prop) (g : Nat) (a : Value) (k : Int) (b : Value) (M : List (List Int)) (s : List Int) (X : World) : Prop where
  c0 : X.cell? ⟨g, 0, none⟩ = some a
  c1 : X.cell? ⟨g, 1, none⟩ = some (.int .i64 k)
  c2 : X.cell? ⟨g, 2, none⟩ = some b
  ts : TxtsS X (New w S) a M
  tt : TxtS X (New w S) b s
  below : Below w.heap.size w X

theorem eql_txt (u v : Value) (l m : List Int) (w : World) (hu : Txt w u l) (hv : Txt w v m) : Calls Tryd.prog 49 #[u, v] w fun e w' => e = .returned (.bool (decide (l = m))) ∧ ∃ k, w' = w.drewN k := by
  obtain ⟨A, c, rfl, hA, _, h1, h2, _⟩ := hu
  obtain ⟨B, d, rfl, hB, _, h3, h4, _⟩ := hv
  unfold maxLen at h2 h4
  by_cases hn : l.length = m.length
  · rw [← hn]
    refine (slE_equal_at A B l.length c d (fun j => l.getD j 0) (fun j => m.getD j 0) w (by omega) hA (by rw [hn]; exact hB)).mono fun e w' h => ⟨?_, h.2⟩
    rw [h.1]
    congr 2
    by_cases hlm : l = m
    · subst hlm
      simp [agree]
    · rw [decide_eq_false hlm, Bool.eq_false_iff]
      intro h
      apply hlm
      apply List.ext_getElem hn
      intro j hj1 hj2
      have := List.all_eq_true.1 h j (List.mem_range.2 hj1)
      simpa [List.getD, hj1, hj2] using this
  · refine (slE_equal_len A B l.length m.length c d w (by omega) (by omega) hn).mono fun e w' h => ⟨?_, h.2⟩
    rw [h.1, decide_eq_false (fun e => hn (by rw [e]))]

/-- A past with a line more. -/
def addM (M : List (List Int)) (l : List Int) : List (List Int) := if l = [] ∨ M.getLast? = some l then M else M.drop (M.length - 499) ++ [l]

theorem storedP_new (w : World) (o : Obj) (a b : Value) (k : Int) (t : TypeId) (S : Nat → Prop) (M : List (List Int)) (s : List Int) (ht : TxtsS w S a M) (hs : TxtS w S b s) : StoredP w S (w.heap.size + 1) a k b M s ((w.alloc o).alloc (.cells #[a, .int .i64 k, b] t)) := by
  have h := blk_new (w.alloc o) #[a, .int .i64 k, b] t
  rw [World.size_alloc] at h
  exact ⟨h.2.1 0, h.2.1 1, h.2.1 2, (ht.later (below_two w _ _)).mono fun _ => .inr, Sl.mono (hs.later (below_two w _ _)) fun _ => .inr, below_two w _ _⟩

/-- The result's block, written. -/
def put3 (w : World) (g : Nat) (a b c : Value) : World := ((w.setCell ⟨g, 0, none⟩ a).setCell ⟨g, 1, none⟩ b).setCell ⟨g, 2, none⟩ c
theorem blk_put3 {w : World} {g : Nat} {x y z : Value} (h : Blk w g #[x, y, z]) (a b c : Value) : Blk (put3 w g a b c) g #[a, b, c] := ((h.set_ 0 (by simp) a).set_ 1 (by simp) b).set_ 2 (by simp) c

theorem storedP_of {w v : World} {a b x y z : Value} {k : Int} {M : List (List Int)} {s : List Int} {S : Nat → Prop} (hB : Blk v (w.heap.size + 1) #[x, y, z]) (hb : Below w.heap.size w v) (ht : TxtsS v (Out2 w S) a M) (hs : TxtS v (Out2 w S) b s) :
    StoredP w S (w.heap.size + 1) a k b M s (put3 v (w.heap.size + 1) a (.int .i64 k) b) := by
  have h := blk_put3 hB a (.int .i64 k) b
  refine ⟨h.2.1 0, h.2.1 1, h.2.1 2, ?_, ?_, ((hb.setCell (p := ⟨w.heap.size + 1, 0, none⟩) (Nat.le_succ _) _).setCell (p := ⟨w.heap.size + 1, 1, none⟩) (Nat.le_succ _) _).setCell (p := ⟨w.heap.size + 1, 2, none⟩) (Nat.le_succ _) _⟩
  · exact (((ht.far (p := ⟨w.heap.size + 1, 0, none⟩) not_out2 a).far (p := ⟨w.heap.size + 1, 1, none⟩) not_out2 _).far (p := ⟨w.heap.size + 1, 2, none⟩) not_out2 _).mono fun _ => Out2.new
  · exact Sl.mono (Sl.far (p := ⟨w.heap.size + 1, 2, none⟩) (Sl.far (p := ⟨w.heap.size + 1, 1, none⟩) (Sl.far (p := ⟨w.heap.size + 1, 0, none⟩) hs not_out2 a) not_out2 _) not_out2 _) fun _ => Out2.new

theorem box_two (w : World) (cs ds : Array Value) (s t : TypeId) (q : Nat) : Blk (((w.alloc (.cells cs s)).alloc (.cells ds t)).drewN q) (w.heap.size + 1) ds ∧ Below w.heap.size w (((w.alloc (.cells cs s)).alloc (.cells ds t)).drewN q) := by
  have h := blk_new (w.alloc (.cells cs s)) ds t
  rw [World.size_alloc] at h
  exact ⟨h.drewN q, below_drewN (below_two w _ _) q⟩

theorem box_two0 (w : World) (cs ds : Array Value) (s t : TypeId) : Blk ((w.alloc (.cells cs s)).alloc (.cells ds t)) (w.heap.size + 1) ds ∧ Below w.heap.size w ((w.alloc (.cells cs s)).alloc (.cells ds t)) := by
  have h := blk_new (w.alloc (.cells cs s)) ds t
  rw [World.size_alloc] at h
  exact ⟨h, below_two w _ _⟩

set_option maxHeartbeats 2000000 in
theorem add_nil (u v lv : Value) (M : List (List Int)) (k : Int) (S : Nat → Prop) (w : World) (hL : TxtsS w S u M) (hl : Txt w v []) :
    Calls Tryd.prog 39 #[.agg #[u, .int .i64 k, lv], v] w (TellsP M 0 [] S w) := by
  obtain ⟨A, c, rfl, hc, hc2⟩ := hL.is
  obtain ⟨Av, cv, rfl, _⟩ := Sl.is hl
  have HV := Lib.hid hL
  clear hl hL
  go_enter Tryd.func39, Tryd.ntmps39
  go_wp2
  refine at_world (StoredP w S (w.heap.size + 1) (.slice A M.length c) 0 (.slice none 0 0) M []) (storedP_new w _ _ _ _ _ S _ _ HV.out (Sl.nil _ _ _)) ?_
  rintro X ⟨x0, x1, x2, hts, htt, hX⟩
  refine bodyPost_ret (v := .agg #[.slice A M.length c, .int .i64 0, .slice none 0 0]) (by simp [results, Tryd.results39, go_sem, x0, x1, x2]) rfl ⟨_, _, rfl, hts, htt, hX⟩

set_option maxHeartbeats 2000000 in
theorem add_again (u v lv : Value) (M : List (List Int)) (l : List Int) (k : Int) (S : Nat → Prop) (w : World) (hL : TxtsS w S u M) (hl : Txt w v l) (h0 : l ≠ []) (hM : M ≠ []) (hn : M.length ≤ 1000) (hg : M.getD (M.length - 1) [] = l) :
    Calls Tryd.prog 39 #[.agg #[u, .int .i64 k, lv], v] w (TellsP M 0 [] S w) := by
  obtain ⟨A, c, rfl, hc, hc2⟩ := hL.is
  obtain ⟨Av, cv, rfl, _, _⟩ := Sl.is hl
  have HV := Lib.hid (And.intro hL hl)
  have hM0 : 0 < M.length := List.length_pos_iff.2 hM
  have hl0 : 0 < l.length := List.length_pos_iff.2 h0
  obtain ⟨b, o, Aj, nj, cj, rfl, hb, hcj, htj⟩ := hL.at_ (j := M.length - 1) (by omega)
  have d0 : ((l.length : Int) == 0) = false := by simp; omega
  have d1 : decide ((0 : Int) < (M.length : Int)) = true := by simp; omega
  have d2 : ((M.length : Int) - 1) = ((M.length - 1 : Nat) : Int) := by omega
  have hT := htj.any
  rw [hg] at hT
  have HT := Lib.hid hT
  clear hl hL hT htj hg h0 hM
  go_enter Tryd.func39, Tryd.ntmps39
  go_wp2_with (go_at_call 49; refine (eql_txt _ _ _ _ _ (HT.out.later (below_two _ _ _)) (HV.out.2.later (below_two _ _ _))).mono ?_; rintro e w1 ⟨rfl, q, rfl⟩)
  refine at_world (StoredP w S (w.heap.size + 1) (.slice (some ⟨b, o, none⟩) M.length c) 0 (.slice none 0 0) M []) (storedP_of (box_two w _ _ _ _ q).1 (box_two w _ _ _ _ q).2 ((HV.out.1.old.mono fun b hb => .inl hb).later (box_two w _ _ _ _ q).2) (Sl.nil _ _ _)) ?_
  rintro X ⟨x0, x1, x2, hts, htt, hX⟩
  refine bodyPost_ret (v := .agg #[.slice (some ⟨b, o, none⟩) M.length c, .int .i64 0, .slice none 0 0]) (by simp [results, Tryd.results39, go_sem, x0, x1, x2]) rfl ⟨_, _, rfl, hts, htt, hX⟩

set_option maxHeartbeats 2000000 in
theorem add_more (u v lv : Value) (M : List (List Int)) (l : List Int) (k : Int) (S : Nat → Prop) (w : World) (hL : TxtsS w S u M) (hl : Txt w v l) (h0 : l ≠ []) (hM : M ≠ []) (hn : M.length ≤ 1000) (hm : l.length ≤ 1000000) (hg : M.getD (M.length - 1) [] ≠ l) :
    Calls Tryd.prog 39 #[.agg #[u, .int .i64 k, lv], v] w (TellsP (M.drop (M.length - 499) ++ [l]) 0 [] S w) := by
  obtain ⟨A, c, rfl, hc, hc2⟩ := hL.is
  obtain ⟨Av, cv, rfl, _, _⟩ := Sl.is hl
  have hM0 : 0 < M.length := List.length_pos_iff.2 hM
  have hl0 : 0 < l.length := List.length_pos_iff.2 h0
  obtain ⟨b, o, Aj, nj, cj, rfl, hb, hcj, htj⟩ := hL.at_ (j := M.length - 1) (by omega)
  have d0 : ((l.length : Int) == 0) = false := by simp; omega
  have d1 : decide ((0 : Int) < (M.length : Int)) = true := by simp; omega
  have d2 : ((M.length : Int) - 1) = ((M.length - 1 : Nat) : Int) := by omega
  have HT := Lib.hid (And.intro htj.any (decide_eq_false hg))
  rcases Nat.lt_or_ge M.length 499 with hsm | hbg
  · have htl : TxtsS w S (.slice (some ⟨b, o, none⟩) M.length c) (M.drop (M.length - 499)) := by
      rw [show M.length - 499 = 0 by omega]
      exact hL
    have HV := Lib.hid (And.intro htl hl)
    have hm1 : ((M.length : Int) - 500 + 1) < 0 := by omega
    clear hl hL htl htj hg h0 hM hsm
    go_enter Tryd.func39, Tryd.ntmps39
    go_wp2_with (go_at_call 49; refine (eql_txt _ _ _ _ _ (HT.out.1.later (below_two _ _ _)) (HV.out.2.later (below_two _ _ _))).mono ?_; rintro e w1 ⟨rfl, q, rfl⟩; rw [HT.out.2])
    (with_reducible refine (clone_any _ l _ (HV.out.2.later (box_two w _ _ _ _ q).2) (by omega)).mono ?_)
    rintro e w1 ⟨A1, n1, c1, rfl, ht1, hb1⟩
    have B1 := (box_two w _ _ _ _ q).1.later hb1 (box_two w _ _ _ _ q).1.1
    have hbw := (box_two w _ _ _ _ q).2.trans (hb1.mono (box_two w _ _ _ _ q).2.size)
    have H1 : Hid (TxtS w1 (Out2 w S) (.slice A1 n1 c1) l) := Lib.hid (Sl.mono ht1 fun b hb => .inr (by simpa [World.size_alloc] using hb))
    have HB := Lib.hid (And.intro B1 hbw)
    clear ht1 hb1 B1 hbw
    go_wp2_with fail
    have hz1 : w.heap.size + 2 ≤ w1.heap.size := by have := HB.out.1.1; omega
    have ha1 : TxtsS ((w1.alloc (.cells #[.slice A1 n1 c1] 22)).alloc (.cells #[.slice (some ⟨b, o, none⟩) M.length c, .slice (some ⟨w1.heap.size, 0, none⟩) 1 1] 30)) (Out2 w S) (.slice (some ⟨w1.heap.size, 0, none⟩) 1 1) [l] := (txts_one _ H1.out (.inr hz1)).later ((Below.refl _ _).alloc (Nat.le_refl _) _)
    have ha2 : TxtsS ((w1.alloc (.cells #[.slice A1 n1 c1] 22)).alloc (.cells #[.slice (some ⟨b, o, none⟩) M.length c, .slice (some ⟨w1.heap.size, 0, none⟩) 1 1] 30)) (Out2 w S) (.slice (some ⟨b, o, none⟩) M.length c) (M.drop (M.length - 499)) := ((HV.out.1.old.mono fun b hb => .inl hb).later HB.out.2).later (below_two w1 _ _)
    have HC := Lib.hid (concatT2 (some ⟨w1.heap.size + 1, 0, none⟩) 2 _ _ _ _ _ _ (M.drop (M.length - 499)) [l] (Out2 w S) _ (two_new1 w1 _ _ _ 30) ha2 ha1 (by simp only [List.length_cons, List.length_nil, List.length_drop]; omega))
    clear ha1 ha2
    (with_reducible refine HC.out.mono ?_)
    rintro e w2 ⟨A2, n2, c2, rfl, ht2, hb2⟩
    have B2 := HB.out.1.later (((below_two w1 _ _).trans (hb2.mono (below_two w1 _ _).size))) HB.out.1.1
    have hbw2 := HB.out.2.trans (((below_two w1 _ _).trans (hb2.mono (below_two w1 _ _).size)).mono HB.out.2.size)
    have ht3 : TxtsS w2 (Out2 w S) (.slice A2 n2 c2) (M.drop (M.length - 499) ++ [l]) := ht2.mono fun b hb => by
      rcases hb with hb | hb
      · simp only [World.size_alloc] at hb; exact .inr (by omega)
      · exact hb
    have H3 := Lib.hid (And.intro ht3 hbw2)
    have HB2 := Lib.hid B2
    obtain ⟨y2, k2, j2⟩ := (show _ from B2)
    clear ht3 hbw2 B2 ht2 hb2
    go_wp2
    refine at_world (StoredP w S (w.heap.size + 1) (.slice A2 n2 c2) 0 (.slice none 0 0) (M.drop (M.length - 499) ++ [l]) []) (storedP_of HB2.out H3.out.2 H3.out.1 (Sl.nil _ _ _)) ?_
    rintro X ⟨x0, x1, x2, hts, htt, hX⟩
    refine bodyPost_ret (v := .agg #[.slice A2 n2 c2, .int .i64 0, .slice none 0 0]) (by simp [results, Tryd.results39, go_sem, x0, x1, x2]) rfl ⟨_, _, rfl, hts, htt, hX⟩

  · obtain ⟨d, hd⟩ : ∃ d, M.length - 499 = d := ⟨_, rfl⟩
    have htl := hL.tail d (by omega)
    rw [hd]
    have HV := Lib.hid (And.intro htl hl)
    have hm1 : ((M.length : Int) - 500 + 1) = (d : Int) := by omega
    have hdi : (d : Int) ≤ (M.length : Int) := by omega
    clear hl hL htl htj hg h0 hM hd hbg
    go_enter Tryd.func39, Tryd.ntmps39
    go_wp2_with (go_at_call 49; refine (eql_txt _ _ _ _ _ (HT.out.1.later (below_two _ _ _)) (HV.out.2.later (below_two _ _ _))).mono ?_; rintro e w1 ⟨rfl, q, rfl⟩; rw [HT.out.2])
    (with_reducible refine (clone_any _ l _ (HV.out.2.later (box_two w _ _ _ _ q).2) (by omega)).mono ?_)
    rintro e w1 ⟨A1, n1, c1, rfl, ht1, hb1⟩
    have B1 := (box_two w _ _ _ _ q).1.later hb1 (box_two w _ _ _ _ q).1.1
    have hbw := (box_two w _ _ _ _ q).2.trans (hb1.mono (box_two w _ _ _ _ q).2.size)
    have H1 : Hid (TxtS w1 (Out2 w S) (.slice A1 n1 c1) l) := Lib.hid (Sl.mono ht1 fun b hb => .inr (by simpa [World.size_alloc] using hb))
    have HB := Lib.hid (And.intro B1 hbw)
    clear ht1 hb1 B1 hbw
    go_wp2_with fail
    have hz1 : w.heap.size + 2 ≤ w1.heap.size := by have := HB.out.1.1; omega
    have ha1 : TxtsS ((w1.alloc (.cells #[.slice A1 n1 c1] 22)).alloc (.cells #[.slice (some ⟨b, o + d, none⟩) (M.length - d) (c - d), .slice (some ⟨w1.heap.size, 0, none⟩) 1 1] 30)) (Out2 w S) (.slice (some ⟨w1.heap.size, 0, none⟩) 1 1) [l] := (txts_one _ H1.out (.inr hz1)).later ((Below.refl _ _).alloc (Nat.le_refl _) _)
    have ha2 : TxtsS ((w1.alloc (.cells #[.slice A1 n1 c1] 22)).alloc (.cells #[.slice (some ⟨b, o + d, none⟩) (M.length - d) (c - d), .slice (some ⟨w1.heap.size, 0, none⟩) 1 1] 30)) (Out2 w S) (.slice (some ⟨b, o + d, none⟩) (M.length - d) (c - d)) (M.drop d) := ((HV.out.1.old.mono fun b hb => .inl hb).later HB.out.2).later (below_two w1 _ _)
    have HC := Lib.hid (concatT2 (some ⟨w1.heap.size + 1, 0, none⟩) 2 _ _ _ _ _ _ (M.drop d) [l] (Out2 w S) _ (two_new1 w1 _ _ _ 30) ha2 ha1 (by simp only [List.length_cons, List.length_nil, List.length_drop]; omega))
    clear ha1 ha2
    (with_reducible refine HC.out.mono ?_)
    rintro e w2 ⟨A2, n2, c2, rfl, ht2, hb2⟩
    have B2 := HB.out.1.later (((below_two w1 _ _).trans (hb2.mono (below_two w1 _ _).size))) HB.out.1.1
    have hbw2 := HB.out.2.trans (((below_two w1 _ _).trans (hb2.mono (below_two w1 _ _).size)).mono HB.out.2.size)
    have ht3 : TxtsS w2 (Out2 w S) (.slice A2 n2 c2) (M.drop d ++ [l]) := ht2.mono fun b hb => by
      rcases hb with hb | hb
      · simp only [World.size_alloc] at hb; exact .inr (by omega)
      · exact hb
    have H3 := Lib.hid (And.intro ht3 hbw2)
    have HB2 := Lib.hid B2
    obtain ⟨y2, k2, j2⟩ := (show _ from B2)
    clear ht3 hbw2 B2 ht2 hb2
    go_wp2
    refine at_world (StoredP w S (w.heap.size + 1) (.slice A2 n2 c2) 0 (.slice none 0 0) (M.drop d ++ [l]) []) (storedP_of HB2.out H3.out.2 H3.out.1 (Sl.nil _ _ _)) ?_
    rintro X ⟨x0, x1, x2, hts, htt, hX⟩
    refine bodyPost_ret (v := .agg #[.slice A2 n2 c2, .int .i64 0, .slice none 0 0]) (by simp [results, Tryd.results39, go_sem, x0, x1, x2]) rfl ⟨_, _, rfl, hts, htt, hX⟩

set_option maxHeartbeats 2000000 in
theorem add_first (u v lv : Value) (l : List Int) (k : Int) (S : Nat → Prop) (w : World) (hL : TxtsS w S u []) (hl : Txt w v l) (h0 : l ≠ []) (hm : l.length ≤ 1000000) :
    Calls Tryd.prog 39 #[.agg #[u, .int .i64 k, lv], v] w (TellsP [l] 0 [] S w) := by
  obtain ⟨A, c, rfl, hc, hc2⟩ := hL.is
  obtain ⟨Av, cv, rfl, _, _⟩ := Sl.is hl
  have hl0 : 0 < l.length := List.length_pos_iff.2 h0
  have d0 : ((l.length : Int) == 0) = false := by simp; omega
  have hz : A = none → c = 0 := fun e => by
    obtain ⟨f, h, _⟩ := hL
    exact (h.parts.2.2.1 e).2
  have HV := Lib.hid (And.intro hL hl)
  clear hl hL h0
  simp only [List.length_nil] at hc HV ⊢
  rcases A with _ | a
  · obtain rfl := hz rfl
    clear hz
    go_enter Tryd.func39, Tryd.ntmps39
    go_wp2_with fail
    (with_reducible refine (clone_any _ l _ (HV.out.2.later (box_two0 w _ _ _ _).2) (by omega)).mono ?_)
    rintro e w1 ⟨A1, n1, c1, rfl, ht1, hb1⟩
    have B1 := (box_two0 w _ _ _ _).1.later hb1 (box_two0 w _ _ _ _).1.1
    have hbw := (box_two0 w _ _ _ _).2.trans (hb1.mono (box_two0 w _ _ _ _).2.size)
    have H1 : Hid (TxtS w1 (Out2 w S) (.slice A1 n1 c1) l) := Lib.hid (Sl.mono ht1 fun b hb => .inr (by simpa [World.size_alloc] using hb))
    have HB := Lib.hid (And.intro B1 hbw)
    clear ht1 hb1 B1 hbw
    go_wp2_with fail
    have hz1 : w.heap.size + 2 ≤ w1.heap.size := by have := HB.out.1.1; omega
    have ha1 : TxtsS ((w1.alloc (.cells #[.slice A1 n1 c1] 22)).alloc (.cells #[.slice none 0 0, .slice (some ⟨w1.heap.size, 0, none⟩) 1 1] 30)) (Out2 w S) (.slice (some ⟨w1.heap.size, 0, none⟩) 1 1) [l] := (txts_one _ H1.out (.inr hz1)).later ((Below.refl _ _).alloc (Nat.le_refl _) _)
    have ha2 : TxtsS ((w1.alloc (.cells #[.slice A1 n1 c1] 22)).alloc (.cells #[.slice none 0 0, .slice (some ⟨w1.heap.size, 0, none⟩) 1 1] 30)) (Out2 w S) (.slice none 0 0) (([] : List (List Int))) := ((HV.out.1.old.mono fun b hb => .inl hb).later HB.out.2).later (below_two w1 _ _)
    have HC := Lib.hid (concatT2 (some ⟨w1.heap.size + 1, 0, none⟩) 2 _ _ _ _ _ _ (([] : List (List Int))) [l] (Out2 w S) _ (two_new1 w1 _ _ _ 30) ha2 ha1 (by simp only [List.length_cons, List.length_nil, List.length_drop]; omega))
    clear ha1 ha2
    (with_reducible refine HC.out.mono ?_)
    rintro e w2 ⟨A2, n2, c2, rfl, ht2, hb2⟩
    have B2 := HB.out.1.later (((below_two w1 _ _).trans (hb2.mono (below_two w1 _ _).size))) HB.out.1.1
    have hbw2 := HB.out.2.trans (((below_two w1 _ _).trans (hb2.mono (below_two w1 _ _).size)).mono HB.out.2.size)
    have ht3 : TxtsS w2 (Out2 w S) (.slice A2 n2 c2) (([] : List (List Int)) ++ [l]) := ht2.mono fun b hb => by
      rcases hb with hb | hb
      · simp only [World.size_alloc] at hb; exact .inr (by omega)
      · exact hb
    have H3 := Lib.hid (And.intro ht3 hbw2)
    have HB2 := Lib.hid B2
    obtain ⟨y2, k2, j2⟩ := (show _ from B2)
    clear ht3 hbw2 B2 ht2 hb2
    go_wp2
    refine at_world (StoredP w S (w.heap.size + 1) (.slice A2 n2 c2) 0 (.slice none 0 0) (([] : List (List Int)) ++ [l]) []) (storedP_of HB2.out H3.out.2 H3.out.1 (Sl.nil _ _ _)) ?_
    rintro X ⟨x0, x1, x2, hts, htt, hX⟩
    refine bodyPost_ret (v := .agg #[.slice A2 n2 c2, .int .i64 0, .slice none 0 0]) (by simp [results, Tryd.results39, go_sem, x0, x1, x2]) rfl ⟨_, _, rfl, hts, htt, hX⟩

  · clear hz
    go_enter Tryd.func39, Tryd.ntmps39
    go_wp2_with fail
    (with_reducible refine (clone_any _ l _ (HV.out.2.later (box_two0 w _ _ _ _).2) (by omega)).mono ?_)
    rintro e w1 ⟨A1, n1, c1, rfl, ht1, hb1⟩
    have B1 := (box_two0 w _ _ _ _).1.later hb1 (box_two0 w _ _ _ _).1.1
    have hbw := (box_two0 w _ _ _ _).2.trans (hb1.mono (box_two0 w _ _ _ _).2.size)
    have H1 : Hid (TxtS w1 (Out2 w S) (.slice A1 n1 c1) l) := Lib.hid (Sl.mono ht1 fun b hb => .inr (by simpa [World.size_alloc] using hb))
    have HB := Lib.hid (And.intro B1 hbw)
    clear ht1 hb1 B1 hbw
    go_wp2_with fail
    have hz1 : w.heap.size + 2 ≤ w1.heap.size := by have := HB.out.1.1; omega
    have ha1 : TxtsS ((w1.alloc (.cells #[.slice A1 n1 c1] 22)).alloc (.cells #[.slice (some a) 0 c, .slice (some ⟨w1.heap.size, 0, none⟩) 1 1] 30)) (Out2 w S) (.slice (some ⟨w1.heap.size, 0, none⟩) 1 1) [l] := (txts_one _ H1.out (.inr hz1)).later ((Below.refl _ _).alloc (Nat.le_refl _) _)
    have ha2 : TxtsS ((w1.alloc (.cells #[.slice A1 n1 c1] 22)).alloc (.cells #[.slice (some a) 0 c, .slice (some ⟨w1.heap.size, 0, none⟩) 1 1] 30)) (Out2 w S) (.slice (some a) 0 c) (([] : List (List Int))) := ((HV.out.1.old.mono fun b hb => .inl hb).later HB.out.2).later (below_two w1 _ _)
    have HC := Lib.hid (concatT2 (some ⟨w1.heap.size + 1, 0, none⟩) 2 _ _ _ _ _ _ (([] : List (List Int))) [l] (Out2 w S) _ (two_new1 w1 _ _ _ 30) ha2 ha1 (by simp only [List.length_cons, List.length_nil, List.length_drop]; omega))
    clear ha1 ha2
    (with_reducible refine HC.out.mono ?_)
    rintro e w2 ⟨A2, n2, c2, rfl, ht2, hb2⟩
    have B2 := HB.out.1.later (((below_two w1 _ _).trans (hb2.mono (below_two w1 _ _).size))) HB.out.1.1
    have hbw2 := HB.out.2.trans (((below_two w1 _ _).trans (hb2.mono (below_two w1 _ _).size)).mono HB.out.2.size)
    have ht3 : TxtsS w2 (Out2 w S) (.slice A2 n2 c2) (([] : List (List Int)) ++ [l]) := ht2.mono fun b hb => by
      rcases hb with hb | hb
      · simp only [World.size_alloc] at hb; exact .inr (by omega)
      · exact hb
    have H3 := Lib.hid (And.intro ht3 hbw2)
    have HB2 := Lib.hid B2
    obtain ⟨y2, k2, j2⟩ := (show _ from B2)
    clear ht3 hbw2 B2 ht2 hb2
    go_wp2
    refine at_world (StoredP w S (w.heap.size + 1) (.slice A2 n2 c2) 0 (.slice none 0 0) (([] : List (List Int)) ++ [l]) []) (storedP_of HB2.out H3.out.2 H3.out.1 (Sl.nil _ _ _)) ?_
    rintro X ⟨x0, x1, x2, hts, htt, hX⟩
    refine bodyPost_ret (v := .agg #[.slice A2 n2 c2, .int .i64 0, .slice none 0 0]) (by simp [results, Tryd.results39, go_sem, x0, x1, x2]) rfl ⟨_, _, rfl, hts, htt, hX⟩

theorem add_any (u v lv : Value) (M : List (List Int)) (l : List Int) (k : Int) (S : Nat → Prop) (w : World) (hL : TxtsS w S u M) (hl : Txt w v l) (hn : M.length ≤ 1000) (hm : l.length ≤ 1000000) :
    Calls Tryd.prog 39 #[.agg #[u, .int .i64 k, lv], v] w (TellsP (addM M l) 0 [] S w) := by
  unfold addM
  by_cases h0 : l = []
  · subst h0
    rw [if_pos (.inl rfl)]
    exact add_nil u v lv M k S w hL hl
  · by_cases hM : M = []
    · subst hM
      rw [if_neg (by simp [h0])]
      exact add_first u v lv l k S w hL hl h0 hm
    · have e : M.getLast? = some (M.getD (M.length - 1) []) := by
        have := List.length_pos_iff.2 hM
        rw [List.getLast?_eq_getElem?, List.getD, List.getElem?_eq_getElem (by omega)]
        rfl
      by_cases hg : M.getD (M.length - 1) [] = l
      · rw [if_pos (.inr (by rw [e, hg]))]
        exact add_again u v lv M l k S w hL hl h0 hM hn hg
      · rw [if_neg (by rw [e]; simp [h0]; simpa using hg)]
        exact add_more u v lv M l k S w hL hl h0 hM hn hm hg

end Go.Proofs.YtfnieoffgnnldaaDoor
