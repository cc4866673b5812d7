/- undo: the example. -/
import Derived.Test.YtfmpldgeldocnaaUnI
namespace Go.Proofs.Ytfmpldgeldocnaa
open Go.RowKit Go.Shelf
set_option linter.unusedVariables false
set_option linter.unusedSimpArgs false

def Yes (w : World) (e : Ending) (w' : World) : Prop := e = .returned (.bool true) ∧ Below w.heap.size w w'

theorem txt_new (Y : World) (l : List Int) (cs : Array Value) (t : TypeId) (b n : Nat) (hcs : cs.toList = l.map (Value.int .i32)) (hb : b = Y.heap.size) (hn : n = l.length) (h63 : l.length ≤ 1000000) : Txt (Y.alloc (.cells cs t)) (.slice (some ⟨b, 0, none⟩) n n) l := by
  subst hb; subst hn
  refine ⟨_, _, rfl, ?_, (fun h => by cases h), Nat.le_refl _, by unfold maxLen; omega, fun _ _ _ => trivial⟩
  intro j hj
  refine ⟨_, _, rfl, by simp, ?_⟩
  rw [World.cell?_alloc_new, ← Array.getElem?_toList, hcs, Nat.zero_add]
  simp [liR, List.getD, hj]

/-- A stack in a variable of the caller's. -/
structure SV (w : World) (g : Nat) (A : Option Addr) (n c : Nat) (S : List AG) (X : World) : Prop where
  blk : Blk X g #[.slice A n c]
  st : Stk X (.slice A n c) S
  below : Below w.heap.size w X
theorem SV.later {w X Y : World} {g : Nat} {A : Option Addr} {n c : Nat} {S : List AG} (h : SV w g A n c S X) (hb : Below X.heap.size X Y) : SV w g A n c S Y :=
  ⟨h.blk.later hb h.blk.1, h.st.later hb, h.below.trans (hb.mono h.below.size)⟩
theorem SV.store {w X Y : World} {g : Nat} {A A' : Option Addr} {n c n' c' : Nat} {S S' : List AG} (h : SV w g A n c S X) (hg : w.heap.size ≤ g) (hb : Below X.heap.size X Y) (hs : Stk Y (.slice A' n' c') S') : SV w g A' n' c' S' (Y.setCell ⟨g, 0, none⟩ (.slice A' n' c')) := by
  have k := h.later hb
  exact ⟨k.blk.set_ 0 (by simp) _, hs.shape k.blk (noTxt_slice _ _ _) (by simp) 0 _, k.below.setCell (p := ⟨g, 0, none⟩) hg _⟩
theorem sv_new (w : World) (t : TypeId) : SV w w.heap.size none 0 0 [] (w.alloc (.cells #[.slice none 0 0] t)) := ⟨blk_new _ _ _, Stk.nil _, belAlloc _ _⟩

set_option maxRecDepth 100000 in
set_option maxHeartbeats 2000000 in
theorem awake_yes (w : World) : Calls Try.prog 15 #[] w (Yes w) := by
  have V0 := sv_new w 25
  have C1 := Lib.hid (add_own none 0 0 1 none 0 0 (some ⟨w.heap.size + 1, 0, none⟩) 1 1 1 [] ⟨1, [], [88]⟩ ((w.alloc (.cells #[.slice none 0 0] 25)).alloc (.cells #[.int .i32 88] 21)) (Stk.nil _) ⟨rfl, Txt.nil _, txt_new _ _ _ _ _ _ rfl (by simp) rfl (by simp)⟩ (by simp))
  have HV := Lib.hid V0
  clear V0
  go_enter Try.func15, Try.ntmps15
  go_wp2_with fail
  (with_reducible refine C1.out.mono ?_)
  rintro e w1 ⟨A1, n1, c1, rfl, hs1, hb1⟩
  have V1 := (HV.out.later (belAlloc _ (.cells #[.int .i32 88] 21))).later hb1
  have HV1 := Lib.hid (show SV w w.heap.size A1 n1 c1 ([] ++ [⟨[⟨1, [], [88]⟩], 1⟩]) (w1.setCell ⟨w.heap.size, 0, none⟩ (.slice A1 n1 c1)) from (HV.out.later (belAlloc _ (.cells #[.int .i32 88] 21))).store (Nat.le_refl _) hb1 hs1)
  have C2 := Lib.hid (add_join A1 n1 c1 2 none 0 0 (some ⟨w1.heap.size, 0, none⟩) 1 1 2 [] ⟨[⟨1, [], [88]⟩], 1⟩ ⟨2, [], [89]⟩ ((w1.setCell ⟨w.heap.size, 0, none⟩ (.slice A1 n1 c1)).alloc (.cells #[.int .i32 89] 21)) (HV1.out.later (belAlloc _ _)).st ⟨rfl, Txt.nil _, txt_new _ _ _ _ _ _ rfl (by simp) rfl (by simp)⟩ (by simp) (by simp))
  obtain ⟨y0, k0, j0⟩ := (show _ from V1.blk)
  clear V1 hs1 hb1 C1 HV
  go_wp2_with fail
  (with_reducible refine C2.out.mono ?_)
  rintro e w2 ⟨A2, n2, c2, rfl, hs2, hb2⟩
  have V2 := (HV1.out.later (belAlloc _ (.cells #[.int .i32 89] 21))).later hb2
  have HV2 := Lib.hid (show SV w w.heap.size A2 n2 c2 [⟨[⟨1, [], [88]⟩, ⟨2, [], [89]⟩], 1⟩] (w2.setCell ⟨w.heap.size, 0, none⟩ (.slice A2 n2 c2)) from (HV1.out.later (belAlloc _ (.cells #[.int .i32 89] 21))).store (Nat.le_refl _) hb2 hs2)
  have C3 := Lib.hid (all_is A2 n2 c2 3 [⟨[⟨1, [], [88]⟩, ⟨2, [], [89]⟩], 1⟩] (some ⟨w2.heap.size, 0, none⟩) 4 4 [97, 88, 89, 98] ((w2.setCell ⟨w.heap.size, 0, none⟩ (.slice A2 n2 c2)).alloc (.cells #[.int .i32 97, .int .i32 88, .int .i32 89, .int .i32 98] 21)) (HV2.out.later (belAlloc _ _)).st (txt_new _ _ _ _ _ _ rfl (by simp) rfl (by simp)) 1 2 (by omega) (by omega) (by omega) (by
    intro g hg
    simp at hg
    subst hg
    refine ⟨?_, by simp⟩
    intro e he
    simp at he
    rcases he with rfl | rfl <;> simp) (by simp))
  have hr : runS [(⟨[⟨1, [], [88]⟩, ⟨2, [], [89]⟩], 1⟩ : AG)].reverse [97, 88, 89, 98] 3 = some ([97, 98], 1) := by decide
  rw [hr] at C3
  have C3 := Lib.hid (show Calls _ _ _ _ (fun e w' => ∃ A n c x, e = .returned (.tuple #[.slice A n c, .int .i64 x, .bool true]) ∧ Txt w' (.slice A n c) [97, 98] ∧ x = 1 ∧ Below _ _ w') from C3.out)
  obtain ⟨y2, k2, j2⟩ := (show _ from V2.blk)
  clear V2 hs2 hb2 C2 HV1 hr y0 k0 j0
  go_wp2_with fail
  (with_reducible refine C3.out.mono ?_)
  rintro e w3 ⟨A3, n3, c3, x3, rfl, ht3, rfl, hb3⟩
  have V3 := (HV2.out.later (belAlloc _ (.cells #[.int .i32 97, .int .i32 88, .int .i32 89, .int .i32 98] 21))).later hb3
  have HV3 := Lib.hid (And.intro V3 ht3)
  obtain ⟨y3, k3, j3⟩ := (show _ from V3.blk)
  have C4 := Lib.hid (len_is _ _ _ V3.st)
  clear V3 ht3 hb3 C3 HV2 y2 k2 j2
  go_wp2_with fail
  (with_reducible refine C4.out.mono ?_)
  rintro e w4 ⟨rfl, hb4⟩
  have HT := Lib.hid (And.intro (HV3.out.2.later hb4) (HV3.out.1.later hb4).below)
  simp only [List.length_cons, List.length_nil]
  have C5 := Lib.hid (same_is (.slice A3 n3 c3) (.slice (some ⟨w4.heap.size, 0, none⟩) 2 2) [97, 98] [97, 98] (w4.alloc (.cells #[.int .i32 97, .int .i32 98] 21)) (HT.out.1.later (belAlloc _ _)) (txt_new _ _ _ _ _ _ rfl (by simp) rfl (by simp)))
  clear hb4 C4 HV3 y3 k3 j3
  go_wp2_with fail
  (with_reducible refine C5.out.mono ?_)
  rintro e w5 ⟨rfl, q, rfl⟩
  go_wp2
  go_ret
  exact ⟨rfl, belDrew (belPush HT.out.2 _) _⟩
end Go.Proofs.Ytfmpldgeldocnaa
