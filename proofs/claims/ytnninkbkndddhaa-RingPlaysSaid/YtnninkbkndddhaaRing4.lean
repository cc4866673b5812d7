/- ring: Join. -/
import Derived.Test.YtnninkbkndddhaaRing3
namespace Go.Proofs.Ytnninkbkndddhaa
open Go.RowKit
set_option linter.unusedVariables false
set_option linter.unusedSimpArgs false

/-- A world one block on. -/
theorem below_one (w : World) (a : Obj) : Below w.heap.size w (w.alloc a) := (Below.refl _ _).alloc (Nat.le_refl _) _
theorem below_three (w : World) (a b c : Obj) : Below w.heap.size w (((w.alloc a).alloc b).alloc c) := (below_two w a b).alloc (by simp only [World.size_alloc]; omega) _

theorem two_new2 (w : World) (a b : Value) (o p : Obj) (t : TypeId) : Rd (((w.alloc o).alloc p).alloc (.cells #[a, b] t)) (some ⟨w.heap.size + 1 + 1, 0, none⟩) 2 (two a b) := by
  have h := two_new ((w.alloc o).alloc p) a b t
  rw [World.size_alloc, World.size_alloc] at h
  exact h

theorem three_later {w w' : World} {a b c : Array Value} {s t u : TypeId} (hb : Below (((w.alloc (.cells a s)).alloc (.cells b t)).alloc (.cells c u)).heap.size (((w.alloc (.cells a s)).alloc (.cells b t)).alloc (.cells c u)) w') :
    w.heap.size + 3 ≤ w'.heap.size ∧ Blk w' w.heap.size a ∧ Blk w' (w.heap.size + 1) b ∧ Below w.heap.size w w' := by
  obtain ⟨h1, h2, h3⟩ := blk_three w a b c s t u
  have hz := hb.size
  simp only [World.size_alloc] at hz
  exact ⟨by omega, h1.later hb h1.1, h2.later hb h2.1, (below_three w _ _ _).trans (hb.mono (below_three w _ _ _).size)⟩

theorem one_later {w w' : World} {a : Obj} (hb : Below (w.alloc a).heap.size (w.alloc a) w') : Below w.heap.size w w' := (below_one w a).trans (hb.mono (below_one w a).size)
theorem twice_later {w w' : World} {a b : Obj} (hb : Below ((w.alloc a).alloc b).heap.size ((w.alloc a).alloc b) w') : Below w.heap.size w w' := (below_two w a b).trans (hb.mono (below_two w a b).size)

/-- The texts behind the first one. -/
theorem rest_of {w : World} {S : Nat → Prop} {b o n c d : Nat} {t : List Int} {T : List (List Int)} {a : Nat} (h : TxtsS w S (.slice (some ⟨b, o, none⟩) n c) (t :: T)) (hd : (c = 1 ∧ a = o ∧ d = 0 ∧ T = []) ∨ (1 < c ∧ a = o + 1 ∧ d = c - 1)) : TxtsS w S (.slice (some ⟨b, a, none⟩) T.length d) T := by
  rcases hd with ⟨rfl, rfl, rfl, rfl⟩ | ⟨h1, rfl, rfl⟩
  · exact ⟨fun _ => .nilIface, ⟨_, _, rfl, Rd.empty _ _ _, (fun e => by cases e), Nat.le_refl _, Nat.zero_le _, fun _ _ h => absurd h (by simp)⟩, fun j hj => absurd hj (by simp)⟩
  · have := h.tail 1 (by simp)
    simpa using this

set_option maxHeartbeats 4000000 in
theorem join_behind (u v : Value) (t : List Int) (T : List (List Int)) (l : List Int) (k : Int) (S : Nat → Prop) (w : World) (hL : TxtsS w S u (t :: T)) (hl : Txt w v l) (hn : T.length ≤ 1000) (hm : t.length + l.length ≤ 1000000) :
    Calls Try.prog 18 #[.agg #[u, .int .i64 k], v, .bool false] w (TellsR ((t ++ l) :: T) 0 S w) := by
  obtain ⟨A, c, rfl, hc, hc2⟩ := hL.is
  obtain ⟨b, o, At, nt, ct, rfl, hbl, hcell, ht⟩ := hL.at_ (j := 0) (by simp)
  obtain ⟨Av, cv, rfl, hcv, hcv2⟩ := Sl.is hl
  simp only [List.length_cons] at hc hL ⊢
  have h0 : (((T.length + 1 : Nat) : Int) == 0) = false := beq_eq_false_iff_ne.2 (by omega)
  have h0' : ((T.length : Int) + 1 == 0) = false := beq_eq_false_iff_ne.2 (by omega)
  have HV := Lib.hid (And.intro hL.old (And.intro hl ht.any))
  rw [Nat.add_zero] at hcell
  clear hL hl ht
  have HC1 := Lib.hid (concatR2 (some ⟨w.heap.size + 1 + 1, 0, none⟩) 2 nt ct l.length cv At Av t l _ (two_new2 w (.slice At nt ct) (.slice Av l.length cv) (.cells #[.slice (some ⟨b, o, none⟩) (T.length + 1) c, .int .i64 k] 24) (.cells #[.slice none 0 0, .int .i64 0] 24) 26) (HV.out.2.2.later (below_three w _ _ _)) (HV.out.2.1.later (below_three w _ _ _)) hm)
  by_cases hc1 : c = 1
  · subst hc1
    obtain rfl : T = [] := List.eq_nil_of_length_eq_zero (by omega)
    simp only [List.length_nil, Nat.zero_add] at *
    go_enter Try.func18, Try.ntmps18
    go_wp2_with fail
    (with_reducible refine HC1.out.mono ?_)
    rintro e w1 ⟨A1, n1, c1, rfl, ht1, hb1⟩
    obtain ⟨z1, B0, B1, hbw⟩ := three_later hb1
    have hc1 : w1.cell? ⟨b, o, none⟩ = some (.slice At nt ct) := (hbw.cell (p := ⟨b, o, none⟩) hbl).trans hcell
    have hbl1 : b < w1.heap.size := Nat.lt_of_lt_of_le hbl hbw.size
    have H1 : Hid (TxtS w1 (Out2 w S) (.slice A1 n1 c1) (t ++ l) ∧ Below w.heap.size w w1 ∧ Blk w1 (w.heap.size + 1) #[.slice none 0 0, .int .i64 0] ∧ Blk w1 w.heap.size #[.slice (some ⟨b, o, none⟩) 1 1, .int .i64 k]) := Lib.hid ⟨Sl.mono ht1 fun b hb => .inr (by simp only [World.size_alloc] at hb; omega), hbw, B1, B0⟩
    obtain ⟨y0, k0, j0⟩ := (show _ from B0)
    obtain ⟨y1, k1, j1⟩ := (show _ from B1)
    clear ht1 hb1 B0 B1 hbw
    have hz2 : w.heap.size + 2 ≤ w1.heap.size := by omega
    have HC3 := Lib.hid (concatT2 (some ⟨w1.heap.size + 1, 0, none⟩) 2 1 1 0 0 _ _ [t ++ l] [] (Out2 w S) _ (two_new1 w1 (.slice (some ⟨w1.heap.size, 0, none⟩) 1 1) (.slice (some ⟨b, o, none⟩) 0 0) (.cells #[.slice A1 n1 c1] 26) 22) ((txts_one _ H1.out.1 (.inr hz2)).later (below_one _ _)) ((rest_of ((HV.out.1.mono fun _ hb => .inl hb).later H1.out.2.1) (.inl ⟨rfl, rfl, rfl, rfl⟩)).later (below_two w1 _ _)) (by simp only [List.length_cons, List.length_nil]; omega))
    go_wp2_with fail
    (with_reducible refine HC3.out.mono ?_)
    rintro e w2 ⟨A2, n2, c2, rfl, ht2, hb2⟩
    have hb3 := twice_later hb2
    have B2 := H1.out.2.2.1.later hb3 H1.out.2.2.1.1
    have ht3 : TxtsS w2 (Out2 w S) (.slice A2 n2 c2) ((t ++ l) :: []) := ht2.mono fun b hb => by
      rcases hb with hb | hb
      · simp only [World.size_alloc] at hb; exact .inr (by omega)
      · exact hb
    have H3 := Lib.hid (And.intro ht3 (H1.out.2.1.trans (hb3.mono H1.out.2.1.size)))
    have HB2 := Lib.hid B2
    clear k1 j1 y1 k0 j0 y0
    obtain ⟨y2, k2, j2⟩ := (show _ from B2)
    clear ht3 hb3 B2 ht2 hb2
    go_wp2
    refine at_world (Stored w S (w.heap.size + 1) (.slice A2 n2 c2) (.int .i64 0) ((t ++ l) :: [])) ?_ ?_
    · exact stored_of HB2.out H3.out.2 H3.out.1
    rintro X ⟨x0, x1, hts, hX⟩
    refine bodyPost_ret (v := .agg #[.slice A2 n2 c2, .int .i64 0]) (by simp [results, Try.results18, go_sem, x0, x1]) rfl ⟨_, _, _, rfl, hts, hX⟩
  · have hc3 : 1 < c := by omega
    clear hc1
    go_enter Try.func18, Try.ntmps18
    go_wp2_with fail
    (with_reducible refine HC1.out.mono ?_)
    rintro e w1 ⟨A1, n1, c1, rfl, ht1, hb1⟩
    obtain ⟨z1, B0, B1, hbw⟩ := three_later hb1
    have hc1 : w1.cell? ⟨b, o, none⟩ = some (.slice At nt ct) := (hbw.cell (p := ⟨b, o, none⟩) hbl).trans hcell
    have hbl1 : b < w1.heap.size := Nat.lt_of_lt_of_le hbl hbw.size
    have H1 : Hid (TxtS w1 (Out2 w S) (.slice A1 n1 c1) (t ++ l) ∧ Below w.heap.size w w1 ∧ Blk w1 (w.heap.size + 1) #[.slice none 0 0, .int .i64 0] ∧ Blk w1 w.heap.size #[.slice (some ⟨b, o, none⟩) (T.length + 1) c, .int .i64 k]) := Lib.hid ⟨Sl.mono ht1 fun b hb => .inr (by simp only [World.size_alloc] at hb; omega), hbw, B1, B0⟩
    obtain ⟨y0, k0, j0⟩ := (show _ from B0)
    obtain ⟨y1, k1, j1⟩ := (show _ from B1)
    clear ht1 hb1 B0 B1 hbw
    have hz2 : w.heap.size + 2 ≤ w1.heap.size := by omega
    have HC3 := Lib.hid (concatT2 (some ⟨w1.heap.size + 1, 0, none⟩) 2 1 1 T.length (c - 1) _ _ [t ++ l] T (Out2 w S) _ (two_new1 w1 (.slice (some ⟨w1.heap.size, 0, none⟩) 1 1) (.slice (some ⟨b, o + 1, none⟩) T.length (c - 1)) (.cells #[.slice A1 n1 c1] 26) 22) ((txts_one _ H1.out.1 (.inr hz2)).later (below_one _ _)) ((rest_of ((HV.out.1.mono fun _ hb => .inl hb).later H1.out.2.1) (.inr ⟨hc3, rfl, rfl⟩)).later (below_two w1 _ _)) (by simp only [List.length_cons, List.length_nil]; omega))
    go_wp2_with fail
    (with_reducible refine HC3.out.mono ?_)
    rintro e w2 ⟨A2, n2, c2, rfl, ht2, hb2⟩
    have hb3 := twice_later hb2
    have B2 := H1.out.2.2.1.later hb3 H1.out.2.2.1.1
    have ht3 : TxtsS w2 (Out2 w S) (.slice A2 n2 c2) ((t ++ l) :: T) := ht2.mono fun b hb => by
      rcases hb with hb | hb
      · simp only [World.size_alloc] at hb; exact .inr (by omega)
      · exact hb
    have H3 := Lib.hid (And.intro ht3 (H1.out.2.1.trans (hb3.mono H1.out.2.1.size)))
    have HB2 := Lib.hid B2
    clear k1 j1 y1 k0 j0 y0
    obtain ⟨y2, k2, j2⟩ := (show _ from B2)
    clear ht3 hb3 B2 ht2 hb2
    go_wp2
    refine at_world (Stored w S (w.heap.size + 1) (.slice A2 n2 c2) (.int .i64 0) ((t ++ l) :: T)) ?_ ?_
    · exact stored_of HB2.out H3.out.2 H3.out.1
    rintro X ⟨x0, x1, hts, hX⟩
    refine bodyPost_ret (v := .agg #[.slice A2 n2 c2, .int .i64 0]) (by simp [results, Try.results18, go_sem, x0, x1]) rfl ⟨_, _, _, rfl, hts, hX⟩

set_option maxHeartbeats 4000000 in
theorem join_ahead (u v : Value) (t : List Int) (T : List (List Int)) (l : List Int) (k : Int) (S : Nat → Prop) (w : World) (hL : TxtsS w S u (t :: T)) (hl : Txt w v l) (hn : T.length ≤ 1000) (hm : t.length + l.length ≤ 1000000) :
    Calls Try.prog 18 #[.agg #[u, .int .i64 k], v, .bool true] w (TellsR ((l ++ t) :: T) 0 S w) := by
  obtain ⟨A, c, rfl, hc, hc2⟩ := hL.is
  obtain ⟨b, o, At, nt, ct, rfl, hbl, hcell, ht⟩ := hL.at_ (j := 0) (by simp)
  obtain ⟨Av, cv, rfl, hcv, hcv2⟩ := Sl.is hl
  simp only [List.length_cons] at hc hL ⊢
  have h0 : (((T.length + 1 : Nat) : Int) == 0) = false := beq_eq_false_iff_ne.2 (by omega)
  have h0' : ((T.length : Int) + 1 == 0) = false := beq_eq_false_iff_ne.2 (by omega)
  have HV := Lib.hid (And.intro hL.old (And.intro hl ht.any))
  rw [Nat.add_zero] at hcell
  clear hL hl ht
  have HC1 := Lib.hid (concatR2 (some ⟨w.heap.size + 1 + 1, 0, none⟩) 2 nt ct l.length cv At Av t l _ (two_new2 w (.slice At nt ct) (.slice Av l.length cv) (.cells #[.slice (some ⟨b, o, none⟩) (T.length + 1) c, .int .i64 k] 24) (.cells #[.slice none 0 0, .int .i64 0] 24) 26) (HV.out.2.2.later (below_three w _ _ _)) (HV.out.2.1.later (below_three w _ _ _)) hm)
  by_cases hc1 : c = 1
  · subst hc1
    obtain rfl : T = [] := List.eq_nil_of_length_eq_zero (by omega)
    simp only [List.length_nil, Nat.zero_add] at *
    go_enter Try.func18, Try.ntmps18
    go_wp2_with fail
    (with_reducible refine HC1.out.mono ?_)
    rintro e w1 ⟨A1, n1, c1, rfl, ht1, hb1⟩
    obtain ⟨z1, B0, B1, hbw⟩ := three_later hb1
    have hc1 : w1.cell? ⟨b, o, none⟩ = some (.slice At nt ct) := (hbw.cell (p := ⟨b, o, none⟩) hbl).trans hcell
    have hbl1 : b < w1.heap.size := Nat.lt_of_lt_of_le hbl hbw.size
    have H1 : Hid (TxtS w1 (Out2 w S) (.slice A1 n1 c1) (t ++ l) ∧ Below w.heap.size w w1 ∧ Blk w1 (w.heap.size + 1) #[.slice none 0 0, .int .i64 0] ∧ Blk w1 w.heap.size #[.slice (some ⟨b, o, none⟩) 1 1, .int .i64 k]) := Lib.hid ⟨Sl.mono ht1 fun b hb => .inr (by simp only [World.size_alloc] at hb; omega), hbw, B1, B0⟩
    obtain ⟨y0, k0, j0⟩ := (show _ from B0)
    obtain ⟨y1, k1, j1⟩ := (show _ from B1)
    clear ht1 hb1 B0 B1 hbw
    go_wp2_with fail
    have HC2 := Lib.hid (concatR2 (some ⟨w1.heap.size, 0, none⟩) 2 l.length cv nt ct Av At l t _ (two_new w1 (.slice Av l.length cv) (.slice At nt ct) 26) ((HV.out.2.1.later H1.out.2.1).later (below_one w1 _)) ((HV.out.2.2.later H1.out.2.1).later (below_one w1 _)) (by omega))
    (with_reducible refine HC2.out.mono ?_)
    rintro e w4 ⟨A4, n4, c4, rfl, ht4, hb4⟩
    have hb5 := one_later hb4
    have z4 : w.heap.size + 3 ≤ w4.heap.size := Nat.le_trans z1 hb5.size
    have B0 := H1.out.2.2.2.later hb5 H1.out.2.2.2.1
    have B1 := H1.out.2.2.1.later hb5 H1.out.2.2.1.1
    have H4 : Hid (TxtS w4 (Out2 w S) (.slice A4 n4 c4) (l ++ t) ∧ Below w.heap.size w w4 ∧ Blk w4 (w.heap.size + 1) #[.slice none 0 0, .int .i64 0] ∧ Blk w4 w.heap.size #[.slice (some ⟨b, o, none⟩) 1 1, .int .i64 k]) := Lib.hid ⟨Sl.mono ht4 fun b hb => .inr (by simp only [World.size_alloc] at hb; omega), H1.out.2.1.trans (hb5.mono H1.out.2.1.size), B1, B0⟩
    clear k0 j0 k1 j1 y0 y1 hc1 hbl1
    obtain ⟨y0, k0, j0⟩ := (show _ from B0)
    obtain ⟨y1, k1, j1⟩ := (show _ from B1)
    clear ht4 hb4 B0 B1 hb5
    have hz2 : w.heap.size + 2 ≤ w4.heap.size := by omega
    have HC3 := Lib.hid (concatT2 (some ⟨w4.heap.size + 1, 0, none⟩) 2 1 1 0 0 _ _ [l ++ t] [] (Out2 w S) _ (two_new1 w4 (.slice (some ⟨w4.heap.size, 0, none⟩) 1 1) (.slice (some ⟨b, o, none⟩) 0 0) (.cells #[.slice A4 n4 c4] 26) 22) ((txts_one _ H4.out.1 (.inr hz2)).later (below_one _ _)) ((rest_of ((HV.out.1.mono fun _ hb => .inl hb).later H4.out.2.1) (.inl ⟨rfl, rfl, rfl, rfl⟩)).later (below_two w4 _ _)) (by simp only [List.length_cons, List.length_nil]; omega))
    go_wp2_with fail
    (with_reducible refine HC3.out.mono ?_)
    rintro e w2 ⟨A2, n2, c2, rfl, ht2, hb2⟩
    have hb3 := twice_later hb2
    have B2 := H4.out.2.2.1.later hb3 H4.out.2.2.1.1
    have ht3 : TxtsS w2 (Out2 w S) (.slice A2 n2 c2) ((l ++ t) :: []) := ht2.mono fun b hb => by
      rcases hb with hb | hb
      · simp only [World.size_alloc] at hb; exact .inr (by omega)
      · exact hb
    have H3 := Lib.hid (And.intro ht3 (H4.out.2.1.trans (hb3.mono H4.out.2.1.size)))
    have HB2 := Lib.hid B2
    clear k1 j1 y1 k0 j0 y0
    obtain ⟨y2, k2, j2⟩ := (show _ from B2)
    clear ht3 hb3 B2 ht2 hb2
    go_wp2
    refine at_world (Stored w S (w.heap.size + 1) (.slice A2 n2 c2) (.int .i64 0) ((l ++ t) :: [])) ?_ ?_
    · exact stored_of HB2.out H3.out.2 H3.out.1
    rintro X ⟨x0, x1, hts, hX⟩
    refine bodyPost_ret (v := .agg #[.slice A2 n2 c2, .int .i64 0]) (by simp [results, Try.results18, go_sem, x0, x1]) rfl ⟨_, _, _, rfl, hts, hX⟩
  · have hc3 : 1 < c := by omega
    clear hc1
    go_enter Try.func18, Try.ntmps18
    go_wp2_with fail
    (with_reducible refine HC1.out.mono ?_)
    rintro e w1 ⟨A1, n1, c1, rfl, ht1, hb1⟩
    obtain ⟨z1, B0, B1, hbw⟩ := three_later hb1
    have hc1 : w1.cell? ⟨b, o, none⟩ = some (.slice At nt ct) := (hbw.cell (p := ⟨b, o, none⟩) hbl).trans hcell
    have hbl1 : b < w1.heap.size := Nat.lt_of_lt_of_le hbl hbw.size
    have H1 : Hid (TxtS w1 (Out2 w S) (.slice A1 n1 c1) (t ++ l) ∧ Below w.heap.size w w1 ∧ Blk w1 (w.heap.size + 1) #[.slice none 0 0, .int .i64 0] ∧ Blk w1 w.heap.size #[.slice (some ⟨b, o, none⟩) (T.length + 1) c, .int .i64 k]) := Lib.hid ⟨Sl.mono ht1 fun b hb => .inr (by simp only [World.size_alloc] at hb; omega), hbw, B1, B0⟩
    obtain ⟨y0, k0, j0⟩ := (show _ from B0)
    obtain ⟨y1, k1, j1⟩ := (show _ from B1)
    clear ht1 hb1 B0 B1 hbw
    go_wp2_with fail
    have HC2 := Lib.hid (concatR2 (some ⟨w1.heap.size, 0, none⟩) 2 l.length cv nt ct Av At l t _ (two_new w1 (.slice Av l.length cv) (.slice At nt ct) 26) ((HV.out.2.1.later H1.out.2.1).later (below_one w1 _)) ((HV.out.2.2.later H1.out.2.1).later (below_one w1 _)) (by omega))
    (with_reducible refine HC2.out.mono ?_)
    rintro e w4 ⟨A4, n4, c4, rfl, ht4, hb4⟩
    have hb5 := one_later hb4
    have z4 : w.heap.size + 3 ≤ w4.heap.size := Nat.le_trans z1 hb5.size
    have B0 := H1.out.2.2.2.later hb5 H1.out.2.2.2.1
    have B1 := H1.out.2.2.1.later hb5 H1.out.2.2.1.1
    have H4 : Hid (TxtS w4 (Out2 w S) (.slice A4 n4 c4) (l ++ t) ∧ Below w.heap.size w w4 ∧ Blk w4 (w.heap.size + 1) #[.slice none 0 0, .int .i64 0] ∧ Blk w4 w.heap.size #[.slice (some ⟨b, o, none⟩) (T.length + 1) c, .int .i64 k]) := Lib.hid ⟨Sl.mono ht4 fun b hb => .inr (by simp only [World.size_alloc] at hb; omega), H1.out.2.1.trans (hb5.mono H1.out.2.1.size), B1, B0⟩
    clear k0 j0 k1 j1 y0 y1 hc1 hbl1
    obtain ⟨y0, k0, j0⟩ := (show _ from B0)
    obtain ⟨y1, k1, j1⟩ := (show _ from B1)
    clear ht4 hb4 B0 B1 hb5
    have hz2 : w.heap.size + 2 ≤ w4.heap.size := by omega
    have HC3 := Lib.hid (concatT2 (some ⟨w4.heap.size + 1, 0, none⟩) 2 1 1 T.length (c - 1) _ _ [l ++ t] T (Out2 w S) _ (two_new1 w4 (.slice (some ⟨w4.heap.size, 0, none⟩) 1 1) (.slice (some ⟨b, o + 1, none⟩) T.length (c - 1)) (.cells #[.slice A4 n4 c4] 26) 22) ((txts_one _ H4.out.1 (.inr hz2)).later (below_one _ _)) ((rest_of ((HV.out.1.mono fun _ hb => .inl hb).later H4.out.2.1) (.inr ⟨hc3, rfl, rfl⟩)).later (below_two w4 _ _)) (by simp only [List.length_cons, List.length_nil]; omega))
    go_wp2_with fail
    (with_reducible refine HC3.out.mono ?_)
    rintro e w2 ⟨A2, n2, c2, rfl, ht2, hb2⟩
    have hb3 := twice_later hb2
    have B2 := H4.out.2.2.1.later hb3 H4.out.2.2.1.1
    have ht3 : TxtsS w2 (Out2 w S) (.slice A2 n2 c2) ((l ++ t) :: T) := ht2.mono fun b hb => by
      rcases hb with hb | hb
      · simp only [World.size_alloc] at hb; exact .inr (by omega)
      · exact hb
    have H3 := Lib.hid (And.intro ht3 (H4.out.2.1.trans (hb3.mono H4.out.2.1.size)))
    have HB2 := Lib.hid B2
    clear k1 j1 y1 k0 j0 y0
    obtain ⟨y2, k2, j2⟩ := (show _ from B2)
    clear ht3 hb3 B2 ht2 hb2
    go_wp2
    refine at_world (Stored w S (w.heap.size + 1) (.slice A2 n2 c2) (.int .i64 0) ((l ++ t) :: T)) ?_ ?_
    · exact stored_of HB2.out H3.out.2 H3.out.1
    rintro X ⟨x0, x1, hts, hX⟩
    refine bodyPost_ret (v := .agg #[.slice A2 n2 c2, .int .i64 0]) (by simp [results, Try.results18, go_sem, x0, x1]) rfl ⟨_, _, _, rfl, hts, hX⟩

theorem join_any (u v : Value) (L : List (List Int)) (l : List Int) (k : Int) (ahead : Bool) (S : Nat → Prop) (w : World) (hL : TxtsS w S u L) (hl : Txt w v l) (hn : L.length ≤ 1000) (hm : (L.getD 0 []).length + l.length ≤ 1000000) :
    Calls Try.prog 18 #[.agg #[u, .int .i64 k], v, .bool ahead] w (TellsR (joinL L l ahead) 0 S w) := by
  cases L with
  | nil => exact join_none u v l k ahead S w hL hl (by simp at hm; omega)
  | cons t T =>
    simp only [List.length_cons] at hn
    simp only [List.getD_cons_zero] at hm
    cases ahead with
    | false => exact join_behind u v t T l k S w hL hl (by omega) hm
    | true => exact join_ahead u v t T l k S w hL hl (by omega) hm

end Go.Proofs.Ytnninkbkndddhaa
