/- past: Go. -/
import Derived.Test.YtmhjhndnbgabjaaPastD
namespace Go.Proofs.Ytmhjhndnbgabjaa
open Go.RowKit
set_option linter.unusedVariables false
set_option linter.unusedSimpArgs false

/-- The past, and the line, that are told. -/
def TellsG (M : List (List Int)) (k : Int) (s line : List Int) (ok : Bool) (S : Nat → Prop) (w : World) (e : Ending) (w' : World) : Prop :=
  ∃ a b A n c, e = .returned (.tuple #[.agg #[a, .int .i64 k, b], .slice A n c, .bool ok]) ∧ TxtsS w' (New w S) a M ∧ TxtS w' (New w S) b s ∧ TxtS w' (New w S) (.slice A n c) line ∧ Below w.heap.size w w'

/-- What is left of the line that was edited. -/
def leftM (k : Int) (s : List Int) (i : Int) (now : List Int) : List Int := if i = 0 then [] else if k = 0 then now else s

structure StoredG (w : World) (S : Nat → Prop) (g : Nat) (a : Value) (k : Int) (b v : Value) (M : List (List Int)) (s line : List Int) (X : World) : Prop extends StoredP w S g a k b M s X where
  tl : TxtS X (New w S) v line

theorem storedG_of {w v : World} {a b l x y z : Value} {k : Int} {M : List (List Int)} {s line : List Int} {S : Nat → Prop} (hB : Blk v (w.heap.size + 1) #[x, y, z]) (hb : Below w.heap.size w v) (ht : TxtsS v (Out2 w S) a M) (hs : TxtS v (Out2 w S) b s) (hl : TxtS v (Out2 w S) l line) :
    StoredG w S (w.heap.size + 1) a k b l M s line (put3 v (w.heap.size + 1) a (.int .i64 k) b) :=
  { storedP_of hB hb ht hs with tl := Sl.mono (Sl.far (p := ⟨w.heap.size + 1, 2, none⟩) (Sl.far (p := ⟨w.heap.size + 1, 1, none⟩) (Sl.far (p := ⟨w.heap.size + 1, 0, none⟩) hl not_out2 a) not_out2 _) not_out2 _) fun _ => Out2.new }

/-- The two blocks of Go, and what it was handed. -/
structure GoW (w : World) (S : Nat → Prop) (p : Array Value) (u b l : Value) (M : List (List Int)) (s line : List Int) (X : World) : Prop where
  b0 : Blk X w.heap.size p
  b1 : ∃ x y z, Blk X (w.heap.size + 1) #[x, y, z]
  ts : TxtsS X (Out2 w S) u M
  tt : TxtS X (Out2 w S) b s
  tl : TxtS X (Out2 w S) l line
  below : Below w.heap.size w X

theorem not_out2' {w : World} {S : Nat → Prop} : ¬ Out2 w S w.heap.size := fun h => by rcases h with h | h <;> omega
theorem GoW.set_ {w : World} {S : Nat → Prop} {p : Array Value} {u b l : Value} {M : List (List Int)} {s line : List Int} {X : World} (h : GoW w S p u b l M s line X) (i : Nat) (hi : i < p.size) (v : Value) :
    GoW w S (p.setIfInBounds i v) u b l M s line (X.setCell ⟨w.heap.size, i, none⟩ v) := by
  obtain ⟨x, y, z, hb1⟩ := h.b1
  exact ⟨h.b0.set_ i hi v, ⟨x, y, z, hb1.far (p := ⟨w.heap.size, i, none⟩) (by show w.heap.size ≠ _; omega) v⟩, h.ts.far (p := ⟨w.heap.size, i, none⟩) not_out2' v, Sl.far (p := ⟨w.heap.size, i, none⟩) h.tt not_out2' v, Sl.far (p := ⟨w.heap.size, i, none⟩) h.tl not_out2' v,
    h.below.setCell (p := ⟨w.heap.size, i, none⟩) (Nat.le_refl _) v⟩
theorem GoW.later {w : World} {S : Nat → Prop} {p : Array Value} {u b l : Value} {M : List (List Int)} {s line : List Int} {X Y : World} (h : GoW w S p u b l M s line X) (hb : Below X.heap.size X Y) : GoW w S p u b l M s line Y := by
  obtain ⟨x, y, z, hb1⟩ := h.b1
  exact ⟨h.b0.later hb h.b0.1, ⟨x, y, z, hb1.later hb hb1.1⟩, h.ts.later hb, TxtS.later h.tt hb, TxtS.later h.tl hb, h.below.trans (hb.mono h.below.size)⟩
theorem GoW.left {w : World} {S : Nat → Prop} {p : Array Value} {u b b' l : Value} {M : List (List Int)} {s s' line : List Int} {X : World} (h : GoW w S p u b l M s line X) (ht : TxtS X (Out2 w S) b' s') : GoW w S p u b' l M s' line X := { h with tt := ht }
theorem GoW.done {w : World} {S : Nat → Prop} {p : Array Value} {u b l : Value} {M : List (List Int)} {s line : List Int} {X : World} (h : GoW w S p u b l M s line X) (k : Int) : StoredG w S (w.heap.size + 1) u k b l M s line (put3 X (w.heap.size + 1) u (.int .i64 k) b) := by
  obtain ⟨x, y, z, hb1⟩ := h.b1
  exact storedG_of hb1 h.below h.ts h.tt h.tl

theorem gow_new (w w1 : World) (S : Nat → Prop) (u lv l : Value) (k : Int) (M : List (List Int)) (s line : List Int) (r s' : TypeId) (z : Array Value) (x y q : Value) (hz : z = #[x, y, q]) (hu : TxtsS w S u M) (hs : TxtS w S lv s)
    (hb : Below ((w.alloc (.cells #[u, .int .i64 k, lv] r)).alloc (.cells z s')).heap.size ((w.alloc (.cells #[u, .int .i64 k, lv] r)).alloc (.cells z s')) w1) (hl : TxtS w1 (fun b => ((w.alloc (.cells #[u, .int .i64 k, lv] r)).alloc (.cells z s')).heap.size ≤ b) l line) : GoW w S #[u, .int .i64 k, lv] u lv l M s line w1 := by
  subst hz
  obtain ⟨_, B0, B1, hbw⟩ := two_later hb
  exact ⟨B0, ⟨x, y, q, B1⟩, (hu.old.later hbw).mono fun b hb => .inl hb, Sl.mono (TxtS.later hs.old hbw) fun b hb => .inl hb, Sl.mono hl fun b hb => .inr (by simpa [World.size_alloc] using hb), hbw⟩

set_option maxHeartbeats 2000000 in
theorem go_none (u v lv : Value) (M : List (List Int)) (s now : List Int) (k i : Int) (S : Nat → Prop) (w : World) (hL : TxtsS w S u M) (hs : TxtS w S lv s)
    (c : ∀ w, Txts w u M → Txt w lv s → Txt w v now → Calls Try.prog 24 #[.agg #[u, .int .i64 k, lv], .int .i64 i, v] w (TellsLn none w)) (hv : Txt w v now) :
    Calls Try.prog 11 #[.agg #[u, .int .i64 k, lv], .int .i64 i, v] w (TellsG M k s [] false S w) := by
  obtain ⟨A, cc, rfl, hc, hc2⟩ := hL.is
  obtain ⟨As, cs, rfl, _, _⟩ := Sl.is hs
  have HC := Lib.hid c
  have HL := Lib.hid (And.intro hL (And.intro hs hv))
  clear hL hs c hv
  go_enter Try.func11, Try.ntmps11
  go_wp2_with fail
  refine (HC.out _ (HL.out.1.any.later (below_two w _ _)) (TxtS.any (TxtS.later HL.out.2.1 (below_two w _ _))) (TxtS.any (TxtS.later HL.out.2.2 (below_two w _ _)))).mono ?_
  rintro e w1 ⟨A1, n1, c1, rfl, ht1, hb1⟩
  have H1 := Lib.hid (gow_new w w1 S _ _ _ k M s [] _ _ _ _ _ _ rfl HL.out.1 HL.out.2.1 hb1 ht1)
  clear ht1
  obtain ⟨x, y, z, hb1'⟩ := H1.out.b1
  obtain ⟨_, y1, k1⟩ := (show _ from H1.out.b0)
  have y10 := y1 0
  have y11 := y1 1
  have y12 := y1 2
  have k10 := k1 0
  have k11 := k1 1
  have k12 := k1 2
  obtain ⟨_, y2, k2⟩ := (show _ from hb1')
  have y20 := y2 0
  have y21 := y2 1
  have y22 := y2 2
  have k20 := k2 0
  have k21 := k2 1
  have k22 := k2 2
  clear hb1' y1 y2 k1 k2
  clear hb1
  go_wp2
  refine at_world (StoredG w S (w.heap.size + 1) (.slice A M.length cc) k (.slice As s.length cs) (.slice A1 n1 c1) M s []) (H1.out.done k) ?_
  rintro X ⟨⟨x0, x1, x2, hts, htt, hX⟩, htl⟩
  refine bodyPost_ret (v := .tuple #[.agg #[.slice A M.length cc, .int .i64 k, .slice As s.length cs], .slice none 0 0, .bool false]) (by simp [results, Try.results11, go_sem, x0, x1, x2]) rfl ⟨_, _, _, _, _, rfl, hts, htt, Sl.nil _ _ _, hX⟩

set_option maxHeartbeats 2000000 in
theorem go_zero (u v lv : Value) (M : List (List Int)) (s now line : List Int) (k : Int) (S : Nat → Prop) (w : World) (hL : TxtsS w S u M) (hs : TxtS w S lv s)
    (c : ∀ w, Txts w u M → Txt w lv s → Txt w v now → Calls Try.prog 24 #[.agg #[u, .int .i64 k, lv], .int .i64 0, v] w (TellsLn (some line) w)) (hv : Txt w v now) :
    Calls Try.prog 11 #[.agg #[u, .int .i64 k, lv], .int .i64 0, v] w (TellsG M 0 [] line true S w) := by
  obtain ⟨A, cc, rfl, hc, hc2⟩ := hL.is
  obtain ⟨As, cs, rfl, _, _⟩ := Sl.is hs
  have HC := Lib.hid c
  have HL := Lib.hid (And.intro hL (And.intro hs hv))
  clear hL hs c hv
  go_enter Try.func11, Try.ntmps11
  go_wp2_with fail
  refine (HC.out _ (HL.out.1.any.later (below_two w _ _)) (TxtS.any (TxtS.later HL.out.2.1 (below_two w _ _))) (TxtS.any (TxtS.later HL.out.2.2 (below_two w _ _)))).mono ?_
  rintro e w1 ⟨A1, n1, c1, rfl, ht1, hb1⟩
  have H1 := Lib.hid (gow_new w w1 S _ _ _ k M s line _ _ _ _ _ _ rfl HL.out.1 HL.out.2.1 hb1 ht1)
  clear ht1
  obtain ⟨x, y, z, hb1'⟩ := H1.out.b1
  obtain ⟨_, y1, k1⟩ := (show _ from H1.out.b0)
  have y10 := y1 0
  have y11 := y1 1
  have y12 := y1 2
  have k10 := k1 0
  have k11 := k1 1
  have k12 := k1 2
  obtain ⟨_, y2, k2⟩ := (show _ from hb1')
  have y20 := y2 0
  have y21 := y2 1
  have y22 := y2 2
  have k20 := k2 0
  have k21 := k2 1
  have k22 := k2 2
  clear hb1' y1 y2 k1 k2
  clear hb1
  have H2 := Lib.hid (((H1.out.set_ 2 (by simp) (.slice none 0 0)).set_ 1 (by simp) (.int .i64 0)).left (s' := []) (b' := .slice none 0 0) (Sl.nil _ _ _))
  go_wp2
  refine at_world (StoredG w S (w.heap.size + 1) (.slice A M.length cc) 0 (.slice none 0 0) (.slice A1 n1 c1) M [] line) (H2.out.done 0) ?_
  rintro X ⟨⟨x0, x1, x2, hts, htt, hX⟩, htl⟩
  refine bodyPost_ret (v := .tuple #[.agg #[.slice A M.length cc, .int .i64 0, .slice none 0 0], .slice A1 n1 c1, .bool true]) (by simp [results, Try.results11, go_sem, x0, x1, x2]) rfl ⟨_, _, _, _, _, rfl, hts, htt, htl, hX⟩

set_option maxHeartbeats 2000000 in
theorem go_on (u v lv : Value) (M : List (List Int)) (s now line : List Int) (k i : Int) (S : Nat → Prop) (w : World) (hL : TxtsS w S u M) (hs : TxtS w S lv s) (hk : k ≠ 0) (hi : i ≠ 0)
    (c : ∀ w, Txts w u M → Txt w lv s → Txt w v now → Calls Try.prog 24 #[.agg #[u, .int .i64 k, lv], .int .i64 i, v] w (TellsLn (some line) w)) (hv : Txt w v now) :
    Calls Try.prog 11 #[.agg #[u, .int .i64 k, lv], .int .i64 i, v] w (TellsG M i s line true S w) := by
  have d0 : (i == 0) = false := by simpa using hi
  have d1 : (k == 0) = false := by simpa using hk
  obtain ⟨A, cc, rfl, hc, hc2⟩ := hL.is
  obtain ⟨As, cs, rfl, _, _⟩ := Sl.is hs
  have HC := Lib.hid c
  have HL := Lib.hid (And.intro hL (And.intro hs hv))
  clear hL hs c hv
  go_enter Try.func11, Try.ntmps11
  go_wp2_with fail
  refine (HC.out _ (HL.out.1.any.later (below_two w _ _)) (TxtS.any (TxtS.later HL.out.2.1 (below_two w _ _))) (TxtS.any (TxtS.later HL.out.2.2 (below_two w _ _)))).mono ?_
  rintro e w1 ⟨A1, n1, c1, rfl, ht1, hb1⟩
  have H1 := Lib.hid (gow_new w w1 S _ _ _ k M s line _ _ _ _ _ _ rfl HL.out.1 HL.out.2.1 hb1 ht1)
  clear ht1
  obtain ⟨x, y, z, hb1'⟩ := H1.out.b1
  obtain ⟨_, y1, k1⟩ := (show _ from H1.out.b0)
  have y10 := y1 0
  have y11 := y1 1
  have y12 := y1 2
  have k10 := k1 0
  have k11 := k1 1
  have k12 := k1 2
  obtain ⟨_, y2, k2⟩ := (show _ from hb1')
  have y20 := y2 0
  have y21 := y2 1
  have y22 := y2 2
  have k20 := k2 0
  have k21 := k2 1
  have k22 := k2 2
  clear hb1' y1 y2 k1 k2
  clear hb1
  have H2 := Lib.hid (H1.out.set_ 1 (by simp) (.int .i64 i))
  go_wp2
  refine at_world (StoredG w S (w.heap.size + 1) (.slice A M.length cc) i (.slice As s.length cs) (.slice A1 n1 c1) M s line) (H2.out.done i) ?_
  rintro X ⟨⟨x0, x1, x2, hts, htt, hX⟩, htl⟩
  refine bodyPost_ret (v := .tuple #[.agg #[.slice A M.length cc, .int .i64 i, .slice As s.length cs], .slice A1 n1 c1, .bool true]) (by simp [results, Try.results11, go_sem, x0, x1, x2]) rfl ⟨_, _, _, _, _, rfl, hts, htt, htl, hX⟩

set_option maxHeartbeats 2000000 in
theorem go_first (u v lv : Value) (M : List (List Int)) (s now line : List Int) (i : Int) (S : Nat → Prop) (w : World) (hL : TxtsS w S u M) (hs : TxtS w S lv s) (hi : i ≠ 0) (hnow : now.length ≤ 1000000)
    (c : ∀ w, Txts w u M → Txt w lv s → Txt w v now → Calls Try.prog 24 #[.agg #[u, .int .i64 0, lv], .int .i64 i, v] w (TellsLn (some line) w)) (hv : Txt w v now) :
    Calls Try.prog 11 #[.agg #[u, .int .i64 0, lv], .int .i64 i, v] w (TellsG M i now line true S w) := by
  have d0 : (i == 0) = false := by simpa using hi
  obtain ⟨Av, cv, rfl, _, _⟩ := Sl.is hv
  obtain ⟨A, cc, rfl, hc, hc2⟩ := hL.is
  obtain ⟨As, cs, rfl, _, _⟩ := Sl.is hs
  have HC := Lib.hid c
  have HL := Lib.hid (And.intro hL (And.intro hs hv))
  clear hL hs c hv
  go_enter Try.func11, Try.ntmps11
  go_wp2_with fail
  refine (HC.out _ (HL.out.1.any.later (below_two w _ _)) (TxtS.any (TxtS.later HL.out.2.1 (below_two w _ _))) (TxtS.any (TxtS.later HL.out.2.2 (below_two w _ _)))).mono ?_
  rintro e w1 ⟨A1, n1, c1, rfl, ht1, hb1⟩
  have H1 := Lib.hid (gow_new w w1 S _ _ _ 0 M s line _ _ _ _ _ _ rfl HL.out.1 HL.out.2.1 hb1 ht1)
  clear ht1
  have HN := Lib.hid (TxtS.later (TxtS.later HL.out.2.2 (below_two w _ _)) hb1)
  obtain ⟨_, y1, k1⟩ := (show _ from H1.out.b0)
  have y11 := y1 1
  clear y1 k1 hb1
  go_wp2_with fail
  (with_reducible refine (clone_any _ now _ (TxtS.any HN.out) (by omega)).mono ?_)
  rintro e w2 ⟨A2, n2, c2, rfl, ht2, hb2⟩
  have H2 := Lib.hid ((H1.out.later hb2).left (Sl.mono ht2 fun b hb => .inr (by have := H1.out.below.size; have := H1.out.b1; obtain ⟨_, _, _, h⟩ := this; have := h.1; omega)))
  clear y11 ht2 hb2
  obtain ⟨x, y, z, hb1'⟩ := H2.out.b1
  obtain ⟨_, y1, k1⟩ := (show _ from H2.out.b0)
  have y10 := y1 0
  have y11 := y1 1
  have y12 := y1 2
  have k10 := k1 0
  have k11 := k1 1
  have k12 := k1 2
  obtain ⟨_, y2, k2⟩ := (show _ from hb1')
  have y20 := y2 0
  have y21 := y2 1
  have y22 := y2 2
  have k20 := k2 0
  have k21 := k2 1
  have k22 := k2 2
  clear hb1' y1 y2 k1 k2
  have H3 := Lib.hid ((H2.out.set_ 2 (by simp) (.slice A2 n2 c2)).set_ 1 (by simp) (.int .i64 i))
  have H4 : Hid (GoW w S _ (.slice A M.length cc) (.slice A2 n2 c2) (.slice A1 n1 c1) M now line _) := H3
  go_wp2
  refine at_world (StoredG w S (w.heap.size + 1) (.slice A M.length cc) i (.slice A2 n2 c2) (.slice A1 n1 c1) M now line) (H3.out.done i) ?_
  rintro X ⟨⟨x0, x1, x2, hts, htt, hX⟩, htl⟩
  refine bodyPost_ret (v := .tuple #[.agg #[.slice A M.length cc, .int .i64 i, .slice A2 n2 c2], .slice A1 n1 c1, .bool true]) (by simp [results, Try.results11, go_sem, x0, x1, x2]) rfl ⟨_, _, _, _, _, rfl, hts, htt, htl, hX⟩

end Go.Proofs.Ytmhjhndnbgabjaa
