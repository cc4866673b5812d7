/- past: the document's Go. -/
import Derived.Test.YtmhjhndnbgabjaaPastN
namespace Go.Proofs.Ytmhjhndnbgabjaa
open Go.RowKit
set_option linter.unusedVariables false
set_option linter.unusedSimpArgs false

theorem StoredG.alloc {w X : World} {S : Nat → Prop} {g : Nat} {a b v : Value} {k : Int} {M : List (List Int)} {s line : List Int} (h : StoredG w S g a k b v M s line X) (o : Obj) : StoredG w S g a k b v M s line (X.alloc o) := by
  have hb := below_one X o
  exact ⟨⟨(hb.cell (p := ⟨g, 0, none⟩) (World.block_lt_of_cell? _ _ h.c0)).trans h.c0, (hb.cell (p := ⟨g, 1, none⟩) (World.block_lt_of_cell? _ _ h.c1)).trans h.c1, (hb.cell (p := ⟨g, 2, none⟩) (World.block_lt_of_cell? _ _ h.c2)).trans h.c2, h.ts.later hb, TxtS.later h.tt hb, h.below.trans (hb.mono h.below.size)⟩, TxtS.later h.tl hb⟩

theorem rgow_new (w w1 : World) (S : Nat → Prop) (u lv l : Value) (k : Int) (M : List (List Int)) (s line : List Int) (r s' : TypeId) (z : Array Value) (x y q : Value) (hz : z = #[x, y, q]) (hu : TxtsS w S u M) (hs : TxtS w S lv s)
    (hb : Below ((w.alloc (.cells #[u, .int .i64 k, lv] r)).alloc (.cells z s')).heap.size ((w.alloc (.cells #[u, .int .i64 k, lv] r)).alloc (.cells z s')) w1) (hl : TxtS w1 (fun b => b < w.heap.size ∧ S b) l line) : GoW w S #[u, .int .i64 k, lv] u lv l M s line w1 := by
  subst hz
  obtain ⟨_, B0, B1, hbw⟩ := two_later hb
  exact ⟨B0, ⟨x, y, q, B1⟩, (hu.old.later hbw).mono fun b hb => .inl hb, Sl.mono (TxtS.later hs.old hbw) fun b hb => .inl hb, Sl.mono hl fun b hb => .inl hb, hbw⟩

set_option maxHeartbeats 2000000 in
theorem rgo_none (u v lv : Value) (L : List (List Int)) (s now line : List Int) (k i : Int) (S : Nat → Prop) (w : World) (hL : TxtsS w S u L) (hs : TxtS w S lv s) (hv : TxtS w S v now) 
    (c : ∀ (S : Nat → Prop) w, TxtsS w S u L → TxtS w S lv s → TxtS w S v now → Calls Try.prog 25 #[.agg #[u, .int .i64 k, lv], .int .i64 i, v] w (TellsAt none S w)) :
    Calls Try.prog 12 #[.agg #[u, .int .i64 k, lv], .int .i64 i, v] w (TellsG L k s [] false S w) := by
  obtain ⟨A, cc, rfl, hc, hc2⟩ := hL.is
  obtain ⟨As, cs, rfl, _, _⟩ := Sl.is hs
  obtain ⟨Av, cv, rfl, _, _⟩ := Sl.is hv
  have HC := Lib.hid c
  have HL := Lib.hid (And.intro hL (And.intro hs hv))
  clear hL hs c hv
  go_enter Try.func12, Try.ntmps12
  go_wp2_with fail
  refine (HC.out _ _ (HL.out.1.old.later (below_two w _ _)) (TxtS.later HL.out.2.1.old (below_two w _ _)) (TxtS.later HL.out.2.2.old (below_two w _ _))).mono ?_
  rintro e w1 ⟨A1, n1, c1, rfl, ht1, hb1⟩
  have H1 := Lib.hid (rgow_new w w1 S _ _ _ k L s [] _ _ _ _ _ _ rfl HL.out.1 HL.out.2.1 hb1 ht1)
  have HN : Hid (TxtS w1 (Out2 w S) (.slice Av now.length cv) now) := Lib.hid (Sl.mono (TxtS.later HL.out.2.2.old H1.out.below) fun b hb => .inl hb)
  clear ht1 hb1
  obtain ⟨x, y, z, hb1'⟩ := H1.out.b1
  obtain ⟨_, y1, k1⟩ := (show _ from H1.out.b0)
  have y10 := y1 0
  have y11 := y1 1
  have y12 := y1 2
  obtain ⟨_, y2, k2⟩ := (show _ from hb1')
  have y20 := y2 0
  have y21 := y2 1
  have y22 := y2 2
  have k20 := k2 0
  have k21 := k2 1
  have k22 := k2 2
  clear hb1' y1 y2 k1 k2
  go_wp2
  refine at_world (StoredG w S (w.heap.size + 1) (.slice A L.length cc) k (.slice As s.length cs) (.slice A1 n1 c1) L s []) (H1.out.done k) ?_
  rintro X ⟨⟨x0, x1, x2, hts, htt, hX⟩, htl⟩
  refine bodyPost_ret (v := .tuple #[.agg #[.slice A L.length cc, .int .i64 k, .slice As s.length cs], .slice none 0 0, .bool false]) (by simp [results, Try.results12, go_sem, x0, x1, x2]) rfl ⟨_, _, _, _, _, rfl, hts, htt, Sl.nil _ _ _, hX⟩

set_option maxHeartbeats 2000000 in
theorem rgo_zero (u v lv : Value) (L : List (List Int)) (s now line : List Int) (k i : Int) (S : Nat → Prop) (w : World) (hL : TxtsS w S u L) (hs : TxtS w S lv s) (hv : TxtS w S v now) 
    (c : ∀ (S : Nat → Prop) w, TxtsS w S u L → TxtS w S lv s → TxtS w S v now → Calls Try.prog 25 #[.agg #[u, .int .i64 0, lv], .int .i64 0, v] w (TellsAt (some line) S w)) :
    Calls Try.prog 12 #[.agg #[u, .int .i64 0, lv], .int .i64 0, v] w (TellsG L 0 [] line true S w) := by
  obtain ⟨A, cc, rfl, hc, hc2⟩ := hL.is
  obtain ⟨As, cs, rfl, _, _⟩ := Sl.is hs
  obtain ⟨Av, cv, rfl, _, _⟩ := Sl.is hv
  have HC := Lib.hid c
  have HL := Lib.hid (And.intro hL (And.intro hs hv))
  clear hL hs c hv
  go_enter Try.func12, Try.ntmps12
  go_wp2_with fail
  refine (HC.out _ _ (HL.out.1.old.later (below_two w _ _)) (TxtS.later HL.out.2.1.old (below_two w _ _)) (TxtS.later HL.out.2.2.old (below_two w _ _))).mono ?_
  rintro e w1 ⟨A1, n1, c1, rfl, ht1, hb1⟩
  have H1 := Lib.hid (rgow_new w w1 S _ _ _ 0 L s line _ _ _ _ _ _ rfl HL.out.1 HL.out.2.1 hb1 ht1)
  have HN : Hid (TxtS w1 (Out2 w S) (.slice Av now.length cv) now) := Lib.hid (Sl.mono (TxtS.later HL.out.2.2.old H1.out.below) fun b hb => .inl hb)
  clear ht1 hb1
  obtain ⟨x, y, z, hb1'⟩ := H1.out.b1
  obtain ⟨_, y1, k1⟩ := (show _ from H1.out.b0)
  have y10 := y1 0
  have y11 := y1 1
  have y12 := y1 2
  obtain ⟨_, y2, k2⟩ := (show _ from hb1')
  have y20 := y2 0
  have y21 := y2 1
  have y22 := y2 2
  have k20 := k2 0
  have k21 := k2 1
  have k22 := k2 2
  clear hb1' y1 y2 k1 k2
  go_wp2
  refine at_world (StoredG w S (w.heap.size + 1) (.slice A L.length cc) 0 (.slice none 0 0) (.slice A1 n1 c1) L [] line) (((H1.out.left (s' := []) (b' := .slice none 0 0) (Sl.nil _ _ _)).done 0).alloc _) ?_
  rintro X ⟨⟨x0, x1, x2, hts, htt, hX⟩, htl⟩
  refine bodyPost_ret (v := .tuple #[.agg #[.slice A L.length cc, .int .i64 0, .slice none 0 0], .slice A1 n1 c1, .bool true]) (by simp [results, Try.results12, go_sem, x0, x1, x2]) rfl ⟨_, _, _, _, _, rfl, hts, htt, htl, hX⟩

set_option maxHeartbeats 2000000 in
theorem rgo_home (u v lv : Value) (L : List (List Int)) (s now line : List Int) (k i : Int) (S : Nat → Prop) (w : World) (hL : TxtsS w S u L) (hs : TxtS w S lv s) (hv : TxtS w S v now) (hk : k ≠ 0)
    (c : ∀ (S : Nat → Prop) w, TxtsS w S u L → TxtS w S lv s → TxtS w S v now → Calls Try.prog 25 #[.agg #[u, .int .i64 k, lv], .int .i64 0, v] w (TellsAt (some line) S w)) :
    Calls Try.prog 12 #[.agg #[u, .int .i64 k, lv], .int .i64 0, v] w (TellsG L 0 [] line true S w) := by
  have d1 : (k == 0) = false := by simpa using hk
  obtain ⟨A, cc, rfl, hc, hc2⟩ := hL.is
  obtain ⟨As, cs, rfl, _, _⟩ := Sl.is hs
  obtain ⟨Av, cv, rfl, _, _⟩ := Sl.is hv
  have HC := Lib.hid c
  have HL := Lib.hid (And.intro hL (And.intro hs hv))
  clear hL hs c hv
  go_enter Try.func12, Try.ntmps12
  go_wp2_with fail
  refine (HC.out _ _ (HL.out.1.old.later (below_two w _ _)) (TxtS.later HL.out.2.1.old (below_two w _ _)) (TxtS.later HL.out.2.2.old (below_two w _ _))).mono ?_
  rintro e w1 ⟨A1, n1, c1, rfl, ht1, hb1⟩
  have H1 := Lib.hid (rgow_new w w1 S _ _ _ k L s line _ _ _ _ _ _ rfl HL.out.1 HL.out.2.1 hb1 ht1)
  have HN : Hid (TxtS w1 (Out2 w S) (.slice Av now.length cv) now) := Lib.hid (Sl.mono (TxtS.later HL.out.2.2.old H1.out.below) fun b hb => .inl hb)
  clear ht1 hb1
  obtain ⟨x, y, z, hb1'⟩ := H1.out.b1
  obtain ⟨_, y1, k1⟩ := (show _ from H1.out.b0)
  have y10 := y1 0
  have y11 := y1 1
  have y12 := y1 2
  obtain ⟨_, y2, k2⟩ := (show _ from hb1')
  have y20 := y2 0
  have y21 := y2 1
  have y22 := y2 2
  have k20 := k2 0
  have k21 := k2 1
  have k22 := k2 2
  clear hb1' y1 y2 k1 k2
  go_wp2
  refine at_world (StoredG w S (w.heap.size + 1) (.slice A L.length cc) 0 (.slice none 0 0) (.slice A1 n1 c1) L [] line) (((H1.out.left (s' := []) (b' := .slice none 0 0) (Sl.nil _ _ _)).done 0).alloc _) ?_
  rintro X ⟨⟨x0, x1, x2, hts, htt, hX⟩, htl⟩
  refine bodyPost_ret (v := .tuple #[.agg #[.slice A L.length cc, .int .i64 0, .slice none 0 0], .slice A1 n1 c1, .bool true]) (by simp [results, Try.results12, go_sem, x0, x1, x2]) rfl ⟨_, _, _, _, _, rfl, hts, htt, htl, hX⟩

set_option maxHeartbeats 2000000 in
theorem rgo_first (u v lv : Value) (L : List (List Int)) (s now line : List Int) (k i : Int) (S : Nat → Prop) (w : World) (hL : TxtsS w S u L) (hs : TxtS w S lv s) (hv : TxtS w S v now) (hi : i ≠ 0)
    (c : ∀ (S : Nat → Prop) w, TxtsS w S u L → TxtS w S lv s → TxtS w S v now → Calls Try.prog 25 #[.agg #[u, .int .i64 0, lv], .int .i64 i, v] w (TellsAt (some line) S w)) :
    Calls Try.prog 12 #[.agg #[u, .int .i64 0, lv], .int .i64 i, v] w (TellsG L i now line true S w) := by
  have d0 : (i == 0) = false := by simpa using hi
  obtain ⟨A, cc, rfl, hc, hc2⟩ := hL.is
  obtain ⟨As, cs, rfl, _, _⟩ := Sl.is hs
  obtain ⟨Av, cv, rfl, _, _⟩ := Sl.is hv
  have HC := Lib.hid c
  have HL := Lib.hid (And.intro hL (And.intro hs hv))
  clear hL hs c hv
  go_enter Try.func12, Try.ntmps12
  go_wp2_with fail
  refine (HC.out _ _ (HL.out.1.old.later (below_two w _ _)) (TxtS.later HL.out.2.1.old (below_two w _ _)) (TxtS.later HL.out.2.2.old (below_two w _ _))).mono ?_
  rintro e w1 ⟨A1, n1, c1, rfl, ht1, hb1⟩
  have H1 := Lib.hid (rgow_new w w1 S _ _ _ 0 L s line _ _ _ _ _ _ rfl HL.out.1 HL.out.2.1 hb1 ht1)
  have HN : Hid (TxtS w1 (Out2 w S) (.slice Av now.length cv) now) := Lib.hid (Sl.mono (TxtS.later HL.out.2.2.old H1.out.below) fun b hb => .inl hb)
  clear ht1 hb1
  obtain ⟨x, y, z, hb1'⟩ := H1.out.b1
  obtain ⟨_, y1, k1⟩ := (show _ from H1.out.b0)
  have y10 := y1 0
  have y11 := y1 1
  have y12 := y1 2
  obtain ⟨_, y2, k2⟩ := (show _ from hb1')
  have y20 := y2 0
  have y21 := y2 1
  have y22 := y2 2
  have k20 := k2 0
  have k21 := k2 1
  have k22 := k2 2
  clear hb1' y1 y2 k1 k2
  go_wp2
  refine at_world (StoredG w S (w.heap.size + 1) (.slice A L.length cc) i (.slice Av now.length cv) (.slice A1 n1 c1) L now line) (((H1.out.left HN.out).done i).alloc _) ?_
  rintro X ⟨⟨x0, x1, x2, hts, htt, hX⟩, htl⟩
  refine bodyPost_ret (v := .tuple #[.agg #[.slice A L.length cc, .int .i64 i, .slice Av now.length cv], .slice A1 n1 c1, .bool true]) (by simp [results, Try.results12, go_sem, x0, x1, x2]) rfl ⟨_, _, _, _, _, rfl, hts, htt, htl, hX⟩

set_option maxHeartbeats 2000000 in
theorem rgo_on (u v lv : Value) (L : List (List Int)) (s now line : List Int) (k i : Int) (S : Nat → Prop) (w : World) (hL : TxtsS w S u L) (hs : TxtS w S lv s) (hv : TxtS w S v now) (hi : i ≠ 0) (hk : k ≠ 0)
    (c : ∀ (S : Nat → Prop) w, TxtsS w S u L → TxtS w S lv s → TxtS w S v now → Calls Try.prog 25 #[.agg #[u, .int .i64 k, lv], .int .i64 i, v] w (TellsAt (some line) S w)) :
    Calls Try.prog 12 #[.agg #[u, .int .i64 k, lv], .int .i64 i, v] w (TellsG L i s line true S w) := by
  have d0 : (i == 0) = false := by simpa using hi
  have d1 : (k == 0) = false := by simpa using hk
  obtain ⟨A, cc, rfl, hc, hc2⟩ := hL.is
  obtain ⟨As, cs, rfl, _, _⟩ := Sl.is hs
  obtain ⟨Av, cv, rfl, _, _⟩ := Sl.is hv
  have HC := Lib.hid c
  have HL := Lib.hid (And.intro hL (And.intro hs hv))
  clear hL hs c hv
  go_enter Try.func12, Try.ntmps12
  go_wp2_with fail
  refine (HC.out _ _ (HL.out.1.old.later (below_two w _ _)) (TxtS.later HL.out.2.1.old (below_two w _ _)) (TxtS.later HL.out.2.2.old (below_two w _ _))).mono ?_
  rintro e w1 ⟨A1, n1, c1, rfl, ht1, hb1⟩
  have H1 := Lib.hid (rgow_new w w1 S _ _ _ k L s line _ _ _ _ _ _ rfl HL.out.1 HL.out.2.1 hb1 ht1)
  have HN : Hid (TxtS w1 (Out2 w S) (.slice Av now.length cv) now) := Lib.hid (Sl.mono (TxtS.later HL.out.2.2.old H1.out.below) fun b hb => .inl hb)
  clear ht1 hb1
  obtain ⟨x, y, z, hb1'⟩ := H1.out.b1
  obtain ⟨_, y1, k1⟩ := (show _ from H1.out.b0)
  have y10 := y1 0
  have y11 := y1 1
  have y12 := y1 2
  obtain ⟨_, y2, k2⟩ := (show _ from hb1')
  have y20 := y2 0
  have y21 := y2 1
  have y22 := y2 2
  have k20 := k2 0
  have k21 := k2 1
  have k22 := k2 2
  clear hb1' y1 y2 k1 k2
  go_wp2
  refine at_world (StoredG w S (w.heap.size + 1) (.slice A L.length cc) i (.slice As s.length cs) (.slice A1 n1 c1) L s line) ((H1.out.done i).alloc _) ?_
  rintro X ⟨⟨x0, x1, x2, hts, htt, hX⟩, htl⟩
  refine bodyPost_ret (v := .tuple #[.agg #[.slice A L.length cc, .int .i64 i, .slice As s.length cs], .slice A1 n1 c1, .bool true]) (by simp [results, Try.results12, go_sem, x0, x1, x2]) rfl ⟨_, _, _, _, _, rfl, hts, htt, htl, hX⟩

/-- What the document's Go tells. -/
def goL (L : List (List Int)) (k : Int) (s : List Int) (i : Int) (now : List Int) : Int × List Int × List Int × Bool :=
  match lineL L k s i now with
  | none => (k, s, [], false)
  | some l => (i, leftM k s i now, l, true)

theorem rgo_any (u v lv : Value) (L : List (List Int)) (s now : List Int) (k i : Int) (S : Nat → Prop) (w : World) (hL : TxtsS w S u L) (hs : TxtS w S lv s) (hv : TxtS w S v now) :
    Calls Try.prog 12 #[.agg #[u, .int .i64 k, lv], .int .i64 i, v] w (TellsG L (goL L k s i now).1 (goL L k s i now).2.1 (goL L k s i now).2.2.1 (goL L k s i now).2.2.2 S w) := by
  have c : ∀ (S : Nat → Prop) w, TxtsS w S u L → TxtS w S lv s → TxtS w S v now → Calls Try.prog 25 #[.agg #[u, .int .i64 k, lv], .int .i64 i, v] w (TellsAt (lineL L k s i now) S w) := fun S w a b c => rline_any u v lv L s now k i S w a b c
  unfold goL
  cases hx : lineL L k s i now with
  | none => rw [hx] at c; exact rgo_none u v lv L s now [] k i S w hL hs hv c
  | some line =>
    rw [hx] at c
    dsimp only
    unfold leftM
    by_cases hi : i = 0
    · subst hi
      rw [if_pos rfl]
      by_cases hk : k = 0
      · subst hk; exact rgo_zero u v lv L s now line 0 0 S w hL hs hv c
      · exact rgo_home u v lv L s now line k 0 S w hL hs hv hk c
    · rw [if_neg hi]
      by_cases hk : k = 0
      · subst hk; rw [if_pos rfl]; exact rgo_first u v lv L s now line 0 i S w hL hs hv hi c
      · rw [if_neg hk]; exact rgo_on u v lv L s now line k i S w hL hs hv hi hk c

/-- The two pasts tell the same. -/
theorem line_rev (M : List (List Int)) (k : Int) (hk : 0 ≤ k) (s : List Int) (i : Int) (now : List Int) : lineL M.reverse k s i now = lineM M k s i now := by
  unfold lineL lineM
  rw [List.length_reverse]
  by_cases h : i < 0 ∨ (M.length : Int) < i
  · rw [if_pos h, if_pos h]
  · rw [if_neg h, if_neg h]
    by_cases hi : 0 < i
    · rw [if_pos hi, if_pos hi]
      congr 1
      rw [List.getD, List.getElem?_reverse (by omega), List.getD]
      congr 2
      omega
    · rw [if_neg hi, if_neg hi]
      by_cases h0 : k = 0
      · rw [if_pos h0, if_neg (by omega)]
      · rw [if_neg h0, if_pos (by omega)]
theorem go_rev (M : List (List Int)) (k : Int) (hk : 0 ≤ k) (s : List Int) (i : Int) (now : List Int) : goL M.reverse k s i now = goM M k s i now := by
  unfold goL goM
  rw [line_rev M k hk]
  cases lineM M k s i now <;> rfl

end Go.Proofs.Ytmhjhndnbgabjaa
