/- undo: light, edit, Add at large. -/
import Derived.Test.YtfmpldgeldocnaaUnM
namespace Go.Proofs.Ytfmpldgeldocnaa
open Go.RowKit
set_option linter.unusedVariables false
set_option linter.unusedSimpArgs false

/-- An edit that is told by value. -/
def TellsD (e : AE) (w : World) (e' : Ending) (w' : World) : Prop := ∃ O on oc I im ic, e' = .returned (.agg #[.int .i64 e.at_, .slice O on oc, .slice I im ic]) ∧ EdIs w' ⟨e.at_, O, on, oc, I, im, ic⟩ e ∧ Below w.heap.size w w'

theorem edit_is (at_ : Int) (O : Option Addr) (on oc : Nat) (I : Option Addr) (im ic : Nat) (e : AE) (w : World) (he : EdIs w ⟨at_, O, on, oc, I, im, ic⟩ e) :
    Calls Try.prog 9 #[.agg #[.int .i64 at_, .slice O on oc, .slice I im ic]] w (fun e' w' => e' = .returned (.agg #[.int .i64 at_, .slice O on oc, .slice I im ic]) ∧ Below w.heap.size w w') := by
  clear he
  have k0 : ∀ u v x : Value, ∀ j, ((w.alloc (.cells #[.int .i64 at_, .slice O on oc, .slice I im ic] 29)).alloc (.cells #[u, v, x] 34)).cell? ⟨w.heap.size + 1, j, none⟩ = #[u, v, x][j]? := fun u v x => by
    have := (blk_new (w.alloc (.cells #[.int .i64 at_, .slice O on oc, .slice I im ic] 29)) #[u, v, x] 34).2.1
    rwa [World.size_alloc] at this
  go_enter Try.func9, Try.ntmps9
  go_wp2
  refine at_world (fun X => X.cell? ⟨w.heap.size + 1, 0, none⟩ = some (.int .i64 at_) ∧ X.cell? ⟨w.heap.size + 1, 1, none⟩ = some (.slice O on oc) ∧ X.cell? ⟨w.heap.size + 1, 2, none⟩ = some (.slice I im ic) ∧ Below w.heap.size w X) ⟨k0 _ _ _ 0, k0 _ _ _ 1, k0 _ _ _ 2, belPush (belAlloc _ _) _⟩ ?_
  rintro X ⟨x0, x1, x2, hX⟩
  refine bodyPost_ret (v := .agg #[.int .i64 at_, .slice O on oc, .slice I im ic]) (by simp [results, Try.results9, go_sem, x0, x1, x2]) rfl ⟨rfl, hX⟩

/-- What Few leaves of a text, its address and room by name. -/
def CutI (v : Value) (l : List Int) (k : Nat) (w : World) (e : Ending) (w' : World) : Prop := ∃ A m c, e = .returned (.slice A m c) ∧ Hid (∀ (X : World) (S : Nat → Prop), TxtS X S v l → TxtS X S (.slice A m c) (l.take k)) ∧ w = w'
theorem few20 (v : Value) (l : List Int) (w : World) (h : Txt w v l) : Calls Try.prog 16 #[v, .int .i64 20] w (CutI v l 20 w) :=
  (few_any v l 20 w h (by decide)).mono fun e w' ⟨A, c, he, ht, hw⟩ => ⟨A, _, c, he, Lib.hid ht, hw⟩
theorem few60 (v : Value) (l : List Int) (w : World) (h : Txt w v l) : Calls Try.prog 16 #[v, .int .i64 60] w (CutI v l 60 w) :=
  (few_any v l 60 w h (by decide)).mono fun e w' ⟨A, c, he, ht, hw⟩ => ⟨A, _, c, he, Lib.hid ht, hw⟩

def lightE (e : AE) : AE := ⟨e.at_, e.old.take 20, e.new.take 20⟩
theorem noTxt_edit (x : Int) (A : Option Addr) (n c : Nat) (B : Option Addr) (m d : Nat) : NoTxt #[.int .i64 x, .slice A n c, .slice B m d] := noTxt_of _ (by simp)

set_option maxHeartbeats 1000000 in
theorem light_is (at_ : Int) (O : Option Addr) (on oc : Nat) (I : Option Addr) (im ic : Nat) (e : AE) (w : World) (he : EdIs w ⟨at_, O, on, oc, I, im, ic⟩ e) :
    Calls Try.prog 7 #[.agg #[.int .i64 at_, .slice O on oc, .slice I im ic]] w (TellsD (lightE e) w) := by
  obtain ⟨h1, h2, h3⟩ := he
  dsimp only at h1 h2 h3
  subst h1
  obtain ⟨W0, hW0⟩ : ∃ W0, (w.alloc (.cells #[.int .i64 e.at_, .slice O on oc, .slice I im ic] 29)).alloc (.cells #[.int .i64 0, .slice none 0 0, .slice none 0 0] 29) = W0 := ⟨_, rfl⟩
  have b0 : Below w.heap.size w W0 := hW0 ▸ belPush (belAlloc _ _) _
  have q1 : Blk W0 w.heap.size #[.int .i64 e.at_, .slice O on oc, .slice I im ic] := hW0 ▸ (blk_new w _ _).alloc _
  have q2 : Blk W0 (w.heap.size + 1) #[.int .i64 0, .slice none 0 0, .slice none 0 0] := by
    have := blk_new (w.alloc (.cells #[.int .i64 e.at_, .slice O on oc, .slice I im ic] 29)) #[.int .i64 0, .slice none 0 0, .slice none 0 0] 29
    rw [World.size_alloc] at this
    exact hW0 ▸ this
  have HX := Lib.hid (And.intro q1 (And.intro q2 (And.intro b0 (And.intro (h2.later b0) (h3.later b0)))))
  have C1 := Lib.hid (few20 (.slice O on oc) e.old W0 HX.out.2.2.2.1)
  rw [← hW0] at C1
  have HE := Lib.hid hW0
  clear h2 h3 b0 q1 q2 hW0
  go_enter Try.func7, Try.ntmps7
  go_wp2_with fail
  (with_reducible refine C1.out.mono ?_)
  rintro e' w1 ⟨A1, n1, c1, rfl, HT1, hw1⟩
  have hw1' := HE.out.symm.trans hw1
  subst hw1'
  clear hw1 C1
  obtain ⟨y1, k1, j1⟩ := (show _ from HX.out.1)
  obtain ⟨y2, k2, j2⟩ := (show _ from HX.out.2.1)
  have HY := Lib.hid (show Blk (W0.setCell ⟨w.heap.size, 1, none⟩ (.slice A1 n1 c1)) w.heap.size #[.int .i64 e.at_, .slice A1 n1 c1, .slice I im ic] ∧ Blk (W0.setCell ⟨w.heap.size, 1, none⟩ (.slice A1 n1 c1)) (w.heap.size + 1) #[.int .i64 0, .slice none 0 0, .slice none 0 0] ∧ Below w.heap.size w (W0.setCell ⟨w.heap.size, 1, none⟩ (.slice A1 n1 c1)) ∧ Txt (W0.setCell ⟨w.heap.size, 1, none⟩ (.slice A1 n1 c1)) (.slice A1 n1 c1) (e.old.take 20) ∧ Txt (W0.setCell ⟨w.heap.size, 1, none⟩ (.slice A1 n1 c1)) (.slice I im ic) e.new from
    ⟨HX.out.1.set_ 1 (by simp) _, HX.out.2.1.far (by simp) _, HX.out.2.2.1.setCell (by simp) _, Txt.shape (HT1.out _ _ HX.out.2.2.2.1) HX.out.1 (noTxt_edit _ _ _ _ _ _ _) _ _, Txt.shape HX.out.2.2.2.2 HX.out.1 (noTxt_edit _ _ _ _ _ _ _) _ _⟩)
  go_wp2_with fail
  have C2 := Lib.hid (few20 (.slice I im ic) e.new _ HY.out.2.2.2.2)
  (with_reducible refine C2.out.mono ?_)
  rintro e' w2 ⟨A2, n2, c2, rfl, HT2, rfl⟩
  clear C2
  have HZ := Lib.hid (show Blk ((W0.setCell ⟨w.heap.size, 1, none⟩ (.slice A1 n1 c1)).setCell ⟨w.heap.size, 2, none⟩ (.slice A2 n2 c2)) w.heap.size #[.int .i64 e.at_, .slice A1 n1 c1, .slice A2 n2 c2] ∧ Blk ((W0.setCell ⟨w.heap.size, 1, none⟩ (.slice A1 n1 c1)).setCell ⟨w.heap.size, 2, none⟩ (.slice A2 n2 c2)) (w.heap.size + 1) #[.int .i64 0, .slice none 0 0, .slice none 0 0] ∧ Below w.heap.size w ((W0.setCell ⟨w.heap.size, 1, none⟩ (.slice A1 n1 c1)).setCell ⟨w.heap.size, 2, none⟩ (.slice A2 n2 c2)) ∧ Txt ((W0.setCell ⟨w.heap.size, 1, none⟩ (.slice A1 n1 c1)).setCell ⟨w.heap.size, 2, none⟩ (.slice A2 n2 c2)) (.slice A1 n1 c1) (e.old.take 20) ∧ Txt ((W0.setCell ⟨w.heap.size, 1, none⟩ (.slice A1 n1 c1)).setCell ⟨w.heap.size, 2, none⟩ (.slice A2 n2 c2)) (.slice A2 n2 c2) (e.new.take 20) from
    ⟨HY.out.1.set_ 2 (by simp) _, HY.out.2.1.far (by simp) _, HY.out.2.2.1.setCell (by simp) _, Txt.shape HY.out.2.2.2.1 HY.out.1 (noTxt_edit _ _ _ _ _ _ _) _ _, Txt.shape (HT2.out _ _ HY.out.2.2.2.2) HY.out.1 (noTxt_edit _ _ _ _ _ _ _) _ _⟩)
  go_wp2
  refine at_world (fun X => X.cell? ⟨w.heap.size + 1, 0, none⟩ = some (.int .i64 e.at_) ∧ X.cell? ⟨w.heap.size + 1, 1, none⟩ = some (.slice A1 n1 c1) ∧ X.cell? ⟨w.heap.size + 1, 2, none⟩ = some (.slice A2 n2 c2) ∧ Below w.heap.size w X ∧ Txt X (.slice A1 n1 c1) (e.old.take 20) ∧ Txt X (.slice A2 n2 c2) (e.new.take 20)) ?_ ?_
  · have r3 := HZ.out.2.1.set_ 0 (by simp) (.int .i64 e.at_)
    have r4 := r3.set_ 1 (by simp) (.slice A1 n1 c1)
    have r5 := r4.set_ 2 (by simp) (.slice A2 n2 c2)
    exact ⟨r5.2.1 0, r5.2.1 1, r5.2.1 2, ((HZ.out.2.2.1.setCell (by simp) _).setCell (by simp) _).setCell (by simp) _, ((HZ.out.2.2.2.1.shape HZ.out.2.1 (noTxt_edit _ _ _ _ _ _ _) _ _).shape r3 (noTxt_edit _ _ _ _ _ _ _) _ _).shape r4 (noTxt_edit _ _ _ _ _ _ _) _ _, ((HZ.out.2.2.2.2.shape HZ.out.2.1 (noTxt_edit _ _ _ _ _ _ _) _ _).shape r3 (noTxt_edit _ _ _ _ _ _ _) _ _).shape r4 (noTxt_edit _ _ _ _ _ _ _) _ _⟩
  rintro X ⟨x0, x1, x2, hX, hT1, hT2⟩
  refine bodyPost_ret (v := .agg #[.int .i64 e.at_, .slice A1 n1 c1, .slice A2 n2 c2]) (by simp [results, Try.results7, go_sem, x0, x1, x2]) rfl ⟨_, _, _, _, _, _, rfl, ⟨rfl, hT1, hT2⟩, hX⟩

set_option maxHeartbeats 1000000 in
/-- Add to a stack with no group, whatever join says. -/
theorem add_first (A : Option Addr) (n c : Nat) (at_ : Int) (O : Option Addr) (on oc : Nat) (I : Option Addr) (im ic : Nat) (cur : Int) (e : AE) (w : World)
    (hS : Stk w (.slice A n c) []) (he : EdIs w ⟨at_, O, on, oc, I, im, ic⟩ e) :
    Calls Try.prog 8 #[.agg #[.slice A n c], .agg #[.int .i64 at_, .slice O on oc, .slice I im ic], .int .i64 cur, .bool true] w (TellsS [⟨[e], cur⟩] w) := by
  obtain ⟨A', c', e1, h1, h2⟩ := hS.is
  injection e1 with ea en ec
  subst ea; subst en; subst ec
  let W0 : World := (w.alloc (.cells #[.slice A 0 c] 25)).alloc (.cells #[.int .i64 at_, .slice O on oc, .slice I im ic] 34) |>.alloc (.cells #[.slice none 0 0] 25)
  have b0 : Below w.heap.size w W0 := belPush (belPush (belAlloc _ _) _) _
  have g1 := eds_new W0 at_ O on oc I im ic e 34 (he.later b0) (w.heap.size + 1 + 1 + 1) (by simp [W0])
  have g2 := stk_new _ _ 1 1 cur ⟨[e], cur⟩ 40 ⟨rfl, g1⟩ (w.heap.size + 1 + 1 + 1 + 1) (by simp [W0])
  have hk : Blk W0 (w.heap.size + 1 + 1) #[.slice none 0 0] := (blk_three w _ _ _ _ _ _).2.2
  have C := Lib.hid ((catG _ A _ 0 c 1 1 23 [] _ (w.heap.size + 1 + 1 + 1 + 1 + 1) (by simp [W0]) (hS.later (belPush (belPush b0 _) _)) g2 (by simp)).mono (R' := fun e' w' => ∃ A n c, e' = .returned (.slice A n c) ∧ Stk w' (.slice A n c) [⟨[e], cur⟩] ∧ Below w.heap.size w w' ∧ Blk w' (w.heap.size + 1 + 1) #[.slice none 0 0]) (by
    rintro e' w' ⟨A, n, c, rfl, h1, h2⟩
    exact ⟨A, n, c, rfl, h1, (belPush (belPush b0 _) _).trans (h2.mono (belPush (belPush b0 _) _).size), ((hk.alloc _).alloc _).later h2 (by simp [W0])⟩))
  simp only [W0] at C
  clear g1 g2 hk hS he b0 W0
  simp only [List.length_nil]
  have m0 : max (-999 : Int) 0 = 0 := by decide
  go_enter Try.func8, Try.ntmps8
  go_wp2_with fail
  (with_reducible refine C.out.mono ?_)
  rintro e w1 ⟨A1, n1, c1, rfl, ht1, hb1, hk1⟩
  have H1 := Lib.hid (storedS hk1 hb1 (by omega) ht1)
  obtain ⟨y0, k0, j0⟩ := (show _ from hk1)
  clear ht1 hb1 hk1
  go_wp2
  refine at_world (StoredS w (w.heap.size + 1 + 1) (.slice A1 n1 c1) _) H1.out ?_
  rintro X ⟨x0, hts, hX⟩
  refine bodyPost_ret (v := .agg #[.slice A1 n1 c1]) (by simp [results, Try.results8, go_sem, x0]) rfl ⟨_, _, _, rfl, hts, hX⟩

theorem add_is (A : Option Addr) (n c : Nat) (at_ : Int) (O : Option Addr) (on oc : Nat) (I : Option Addr) (im ic : Nat) (cur : Int) (j : Bool) (S : List AG) (e : AE) (w : World)
    (hS : Stk w (.slice A n c) S) (he : EdIs w ⟨at_, O, on, oc, I, im, ic⟩ e) (hn : S.length ≤ 1000) (hm : ∀ g ∈ S, g.eds.length ≤ 1000) :
    Calls Try.prog 8 #[.agg #[.slice A n c], .agg #[.int .i64 at_, .slice O on oc, .slice I im ic], .int .i64 cur, .bool j] w (TellsS (addS S e cur j) w) := by
  cases j with
  | false => rw [addS_own]; exact add_own A n c at_ O on oc I im ic cur S e w hS he hn
  | true =>
    rcases List.eq_nil_or_concat S with rfl | ⟨T, a, rfl⟩
    · rw [addS_nil]; exact add_first A n c at_ O on oc I im ic cur e w hS he
    · rw [List.concat_eq_append] at *
      rw [addS_join]
      exact add_join A n c at_ O on oc I im ic cur T a e w hS he (by simp at hn; omega) (hm a (by simp))
end Go.Proofs.Ytfmpldgeldocnaa
