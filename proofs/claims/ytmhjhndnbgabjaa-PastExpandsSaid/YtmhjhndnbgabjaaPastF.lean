/- past: Go at large, the chapter's example. -/
import Derived.Test.YtmhjhndnbgabjaaPastE
import Derived.Test.YtmhjhndnbgabjaaSame
namespace Go.Proofs.Ytmhjhndnbgabjaa
open Go.RowKit
set_option linter.unusedVariables false
set_option linter.unusedSimpArgs false

/-- What Go tells: the place, the line that was left, the line, is there one. -/
def goM (M : List (List Int)) (k : Int) (s : List Int) (i : Int) (now : List Int) : Int × List Int × List Int × Bool :=
  match lineM M k s i now with
  | none => (k, s, [], false)
  | some l => (i, leftM k s i now, l, true)

theorem go_any (u v lv : Value) (M : List (List Int)) (s now : List Int) (k i : Int) (S : Nat → Prop) (w : World) (hL : TxtsS w S u M) (hs : TxtS w S lv s) (hv : Txt w v now) (h1 : ∀ l ∈ M, l.length ≤ 1000000) (h2 : s.length ≤ 1000000) (h3 : now.length ≤ 1000000) :
    Calls Try.prog 11 #[.agg #[u, .int .i64 k, lv], .int .i64 i, v] w (TellsG M (goM M k s i now).1 (goM M k s i now).2.1 (goM M k s i now).2.2.1 (goM M k s i now).2.2.2 S w) := by
  have c : ∀ w, Txts w u M → Txt w lv s → Txt w v now → Calls Try.prog 24 #[.agg #[u, .int .i64 k, lv], .int .i64 i, v] w (TellsLn (lineM M k s i now) w) := fun w a b c => line_any u v lv M s now k i w a b c h1 h2 h3
  unfold goM
  cases hx : lineM M k s i now with
  | none => rw [hx] at c; exact go_none u v lv M s now k i S w hL hs c hv
  | some line =>
    rw [hx] at c
    dsimp only
    unfold leftM
    by_cases hi : i = 0
    · subst hi
      rw [if_pos rfl]
      exact go_zero u v lv M s now line k S w hL hs c hv
    · rw [if_neg hi]
      by_cases hk : k = 0
      · subst hk
        rw [if_pos rfl]
        exact go_first u v lv M s now line i S w hL hs hi h3 c hv
      · rw [if_neg hk]
        exact go_on u v lv M s now line k i S w hL hs hk hi c hv

/-- True is handed back; nothing that was there has turned. -/
def Yes (w : World) (e : Ending) (w' : World) : Prop := e = .returned (.bool true) ∧ Below w.heap.size w w'

theorem same_txt (u v : Value) (l : List Int) (w : World) (hu : Txt w u l) (hv : Txt w v l) : Calls Try.prog 13 #[u, v] w fun e w' => e = .returned (.bool true) ∧ ∃ k, w' = w.drewN k := by
  obtain ⟨A, c, rfl, hA, _, h1, h2, _⟩ := hu
  obtain ⟨B, d, rfl, hB, _⟩ := hv
  unfold maxLen at h2
  exact same_yes A B l.length c d (fun j => l.getD j 0) w (by omega) hA hB
theorem same_far (u v : Value) (l : List Int) (w : World) (hu : Txt w u l) (hv : Txt w v l) : Calls Try.prog 13 #[u, v] w fun e w' => e = .returned (.bool true) ∧ Below w.heap.size w w' := by
  refine (same_txt u v l w hu hv).mono fun e w' h => ?_
  obtain ⟨he, k, rfl⟩ := h
  exact ⟨he, below_drewN (Below.refl _ _) _⟩

/-- One scalar, laid anew. -/
theorem txt_new (w : World) (x : Int) (t : TypeId) : Txt (w.alloc (.cells #[.int .i32 x] t)) (.slice (some ⟨w.heap.size, 0, none⟩) 1 1) [x] :=
  ⟨_, _, rfl, rd_new w _ t 1 _ fun j hj => (by obtain rfl : j = 0 := (by omega); rfl), (fun e => by cases e), Nat.le_refl _, by decide, fun _ _ _ => trivial⟩
theorem txt_new1 (w : World) (o : Obj) (x : Int) (t : TypeId) : Txt ((w.alloc o).alloc (.cells #[.int .i32 x] t)) (.slice (some ⟨w.heap.size + 1, 0, none⟩) 1 1) [x] := by
  have h := txt_new (w.alloc o) x t
  rw [World.size_alloc] at h
  exact h
theorem below_one (w : World) (o : Obj) : Below w.heap.size w (w.alloc o) := (Below.refl _ _).alloc (Nat.le_refl _) _

/-- Behind block g. -/
def Aft (g b : Nat) : Prop := g < b
theorem aft_new {w : World} {g : Nat} (h : g < w.heap.size) {b : Nat} (hb : New w (Aft g) b) : Aft g b := hb.elim (fun h' => Nat.lt_of_lt_of_le h h') id

/-- A variable of the caller's at block w.heap.size holds a past. -/
structure VarP (w : World) (a : Value) (k : Int) (b : Value) (M : List (List Int)) (s : List Int) (X : World) : Prop where
  blk : Blk X w.heap.size #[a, .int .i64 k, b]
  ts : TxtsS X (Aft w.heap.size) a M
  tt : TxtS X (Aft w.heap.size) b s
  below : Below w.heap.size w X

theorem VarP.later {w X Y : World} {a b : Value} {k : Int} {M : List (List Int)} {s : List Int} (h : VarP w a k b M s X) (hb : Below X.heap.size X Y) : VarP w a k b M s Y := ⟨h.blk.later hb h.blk.1, h.ts.later hb, TxtS.later h.tt hb, h.below.trans (hb.mono h.below.size)⟩
theorem varP_new (w : World) (t : TypeId) : VarP w (.slice none 0 0) 0 (.slice none 0 0) [] [] (w.alloc (.cells #[.slice none 0 0, .int .i64 0, .slice none 0 0] t)) := ⟨blk_new w _ t, Txts.nil _ _, Sl.nil _ _ _, (Below.refl _ _).alloc (Nat.le_refl _) _⟩
theorem VarP.store {w X Y : World} {a b a' b' : Value} {k k' : Int} {M M' : List (List Int)} {s s' : List Int} (h : VarP w a k b M s X) (hb : Below X.heap.size X Y) (ht : TxtsS Y (Aft w.heap.size) a' M') (hs : TxtS Y (Aft w.heap.size) b' s') : VarP w a' k' b' M' s' (put3 Y w.heap.size a' (.int .i64 k') b') := by
  refine ⟨blk_put3 (h.blk.later hb h.blk.1) _ _ _, ?_, ?_, (((h.below.trans (hb.mono h.below.size)).setCell (p := ⟨w.heap.size, 0, none⟩) (Nat.le_refl _) _).setCell (p := ⟨w.heap.size, 1, none⟩) (Nat.le_refl _) _).setCell (p := ⟨w.heap.size, 2, none⟩) (Nat.le_refl _) _⟩
  · exact ((ht.far (p := ⟨w.heap.size, 0, none⟩) (fun e => Nat.lt_irrefl _ e) a').far (p := ⟨w.heap.size, 1, none⟩) (fun e => Nat.lt_irrefl _ e) _).far (p := ⟨w.heap.size, 2, none⟩) (fun e => Nat.lt_irrefl _ e) _
  · exact Sl.far (p := ⟨w.heap.size, 2, none⟩) (Sl.far (p := ⟨w.heap.size, 1, none⟩) (Sl.far (p := ⟨w.heap.size, 0, none⟩) hs (fun e => Nat.lt_irrefl _ e) a') (fun e => Nat.lt_irrefl _ e) _) (fun e => Nat.lt_irrefl _ e) _

set_option maxHeartbeats 4000000 in
theorem awake_yes (w : World) : Calls Try.prog 15 #[] w (Yes w) := by
  have V0 := Lib.hid (varP_new w 26)
  go_enter Try.func15, Try.ntmps15
  go_wp2_with fail
  have C1 := Lib.hid (add_any (.slice none 0 0) (.slice (some ⟨w.heap.size + 1, 0, none⟩) 1 1) (.slice none 0 0) [] [97] 0 (Aft w.heap.size) ((w.alloc (.cells #[.slice none 0 0, .int .i64 0, .slice none 0 0] 26)).alloc (.cells #[.int .i32 97] 21)) (Txts.nil _ _) (txt_new1 _ _ _ _) (by simp) (by simp))
  (with_reducible refine C1.out.mono ?_)
  rintro e w1 ⟨u1, v1, rfl, ht1, hs1, hb1⟩
  rw [show addM [] [97] = [[97]] by simp [addM]] at ht1
  obtain ⟨A1, c1, rfl, _⟩ := ht1.is
  obtain ⟨B1, d1, rfl, _⟩ := Sl.is hs1
  have V1 := Lib.hid ((V0.out.later (below_one _ _)).later hb1)
  have T1 : Hid (TxtsS w1 (Aft w.heap.size) (.slice A1 1 c1) [[97]]) := Lib.hid (ht1.mono fun b hb => aft_new (g := w.heap.size) (by simp only [World.size_alloc]; omega) hb)
  clear ht1 hb1 hs1
  go_wp2_with fail
  have C2 := Lib.hid (add_any (.slice A1 1 c1) (.slice (some ⟨w1.heap.size, 0, none⟩) 1 1) (.slice B1 0 d1) [[97]] [98] 0 (Aft w.heap.size) (w1.alloc (.cells #[.int .i32 98] 21)) (T1.out.later (below_one _ _)) (txt_new _ _ _) (by simp) (by simp))
  (with_reducible refine C2.out.mono ?_)
  rintro e w2 ⟨u2, v2, rfl, ht2, hs2, hb2⟩
  rw [show addM [[97]] [98] = [[97], [98]] by simp [addM]] at ht2
  obtain ⟨A2, c2, rfl, _⟩ := ht2.is
  obtain ⟨B2, d2, rfl, _⟩ := Sl.is hs2
  have hlt : w.heap.size < (w1.alloc (.cells #[.int .i32 98] 21)).heap.size := by simp only [World.size_alloc]; have := V1.out.blk.1; omega
  have T2 : Hid (TxtsS w2 (Aft w.heap.size) (.slice A2 2 c2) [[97], [98]]) := Lib.hid (ht2.mono fun b hb => aft_new (g := w.heap.size) hlt hb)
  have V2 := Lib.hid ((V1.out.later (below_one _ _)).later hb2)
  have V3 : Hid (VarP w (.slice A2 2 c2) 0 (.slice B2 0 d2) [[97], [98]] [] (put3 w2 w.heap.size (.slice A2 2 c2) (.int .i64 0) (.slice B2 0 d2))) := Lib.hid ((V1.out.later (below_one _ _)).store hb2 T2.out (Sl.mono hs2 fun b hb => aft_new (g := w.heap.size) hlt hb))
  obtain ⟨y2, k2, j2⟩ := (show _ from V2.out.blk)
  have k20 := k2 0
  have k21 := k2 1
  have k22 := k2 2
  have j20 := j2 0
  have j21 := j2 1
  have j22 := j2 2
  clear ht2 hb2 hs2 k2 j2
  go_wp2_with fail
  obtain ⟨X, hX⟩ : ∃ X, put3 w2 w.heap.size (.slice A2 2 c2) (.int .i64 0) (.slice B2 0 d2) = X := ⟨_, rfl⟩
  rw [show ((w2.setCell ⟨w.heap.size, 0, none⟩ (.slice A2 2 c2)).setCell ⟨w.heap.size, 1, none⟩ (.int .i64 0)).setCell ⟨w.heap.size, 2, none⟩ (.slice B2 0 d2) = X from hX]
  rw [hX] at V3
  have hz : X.heap.size = w2.heap.size := by rw [← hX]; simp [put3]
  clear hX
  rw [← hz]
  have C3 := go_any (.slice A2 2 c2) (.slice (some ⟨X.heap.size, 0, none⟩) 1 1) (.slice B2 0 d2) [[97], [98]] [] [120] 0 2 Any (X.alloc (.cells #[.int .i32 120] 21)) (V3.out.ts.any.later (below_one _ _)) (TxtS.any (TxtS.later V3.out.tt (below_one _ _))) (txt_new _ _ _) (by simp) (by simp) (by simp)
  rw [show goM [[97], [98]] 0 [] 2 [120] = (2, [120], [97], true) by simp [goM, lineM, leftM]] at C3
  have C3 := Lib.hid C3
  (with_reducible refine C3.out.mono ?_)
  rintro e w3 ⟨u3, v3, A3, n3, c3, rfl, ht3, hs3, hl3, hb3⟩
  obtain ⟨a3, e3, rfl, _⟩ := ht3.is
  obtain ⟨b3, f3, rfl, _⟩ := Sl.is hs3
  have hbw3 := V3.out.below.trans (((below_one X _).trans (hb3.mono (below_one X _).size)).mono V3.out.below.size)
  have H3 := Lib.hid (And.intro ht3.any (And.intro (TxtS.any hs3) (And.intro (TxtS.any hl3) hbw3)))
  clear ht3 hs3 hl3 hb3 y2 k20 k21 k22 j20 j21 j22 hz hbw3 hlt
  go_wp2_with fail
  have C4 := go_any (.slice a3 2 e3) (.slice (some ⟨w3.heap.size + 1, 0, none⟩) 1 1) (.slice b3 1 f3) [[97], [98]] [120] [97] 2 0 Any ((w3.alloc (.cells #[.slice a3 2 e3, .int .i64 2, .slice b3 1 f3] 26)).alloc (.cells #[.int .i32 97] 21)) (H3.out.1.later (below_two _ _ _)) (TxtS.later H3.out.2.1 (below_two _ _ _)) (txt_new1 _ _ _ _) (by simp) (by simp) (by simp)
  rw [show goM [[97], [98]] 2 [120] 0 [97] = (0, [], [120], true) by simp [goM, lineM, leftM]] at C4
  have C4 := Lib.hid C4
  (with_reducible refine C4.out.mono ?_)
  rintro e w4 ⟨u4, v4, A4, n4, c4, rfl, ht4, hs4, hl4, hb4⟩
  obtain ⟨a4, e4, rfl, _⟩ := ht4.is
  obtain ⟨b4, f4, rfl, _⟩ := Sl.is hs4
  obtain ⟨⟨z0, z1⟩, Q4, _, hbw4⟩ := two_later hb4
  have H4 := Lib.hid (And.intro (H3.out.2.2.1.later hbw4) (And.intro (TxtS.any hl4) (And.intro (H3.out.2.2.2.trans (hbw4.mono H3.out.2.2.2.size)) Q4)))
  clear ht4 hs4 hl4 hb4 hbw4 Q4
  go_wp2_with fail
  obtain ⟨_, y4, _⟩ := (show _ from H4.out.2.2.2)
  have y40 := y4 0
  have y41 := y4 1
  have y42 := y4 2
  clear y4
  have K1 := Lib.hid (same_txt (.slice A3 n3 c3) (.slice (some ⟨w4.heap.size + 1, 0, none⟩) 1 1) [97] ((w4.alloc (.cells #[.slice a4 2 e4, .int .i64 0, .slice b4 0 f4] 26)).alloc (.cells #[.int .i32 97] 21)) (H4.out.1.later (below_two _ _ _)) (txt_new1 _ _ _ _))
  (with_reducible refine K1.out.mono ?_)
  rintro e w5 ⟨rfl, q5, hw5⟩
  have hb5 : Below w4.heap.size w4 w5 := by rw [hw5]; exact below_drewN (below_two w4 _ _) q5
  have hR5 : Blk w5 w4.heap.size #[.slice a4 2 e4, .int .i64 0, .slice b4 0 f4] := by rw [hw5]; exact ((blk_new w4 _ _).alloc _).drewN q5
  have Q5 := H4.out.2.2.2.later hb5 H4.out.2.2.2.1
  have H5 := Lib.hid (And.intro (H4.out.2.1.later hb5) (And.intro (H4.out.2.2.1.trans (hb5.mono H4.out.2.2.1.size)) (And.intro Q5 hR5)))
  clear hb5 hR5 Q5 hw5 y40 y41 y42
  go_wp2_with fail
  have K2 := Lib.hid (same_txt (.slice A4 n4 c4) (.slice (some ⟨w5.heap.size, 0, none⟩) 1 1) [120] (w5.alloc (.cells #[.int .i32 120] 21)) (H5.out.1.later (below_one _ _)) (txt_new _ _ _))
  (with_reducible refine K2.out.mono ?_)
  rintro e w6 ⟨rfl, q6, hw6⟩
  have hb6 : Below w5.heap.size w5 w6 := by rw [hw6]; exact below_drewN (below_one w5 _) q6
  have Q6 := H5.out.2.2.1.later hb6 H5.out.2.2.1.1
  have R6 := H5.out.2.2.2.later hb6 H5.out.2.2.2.1
  have H6 := Lib.hid (H5.out.2.1.trans (hb6.mono H5.out.2.1.size))
  clear hb6 hw6
  obtain ⟨q6z, q6c, _⟩ := (show _ from Q6)
  obtain ⟨r6z, r6c, _⟩ := (show _ from R6)
  have q60 := q6c 0
  have q61 := q6c 1
  have q62 := q6c 2
  have r60 := r6c 0
  have r61 := r6c 1
  have r62 := r6c 2
  clear q6c r6c Q6 R6
  go_wp2_with (first
    | (go_at_call 17; refine (at_any _ _ _ _).mono ?_; rintro e w' ⟨rfl, rfl⟩)
    | (go_at_call 16; refine (len_any _ _ _ _ _ _).mono ?_; rintro e w' ⟨rfl, rfl⟩))
  go_ret
  have hz := H6.out.size
  exact ⟨rfl, ((H6.out.alloc hz _).alloc (by simp only [World.size_alloc]; omega) _).alloc (by simp only [World.size_alloc]; omega) _⟩
end Go.Proofs.Ytmhjhndnbgabjaa
