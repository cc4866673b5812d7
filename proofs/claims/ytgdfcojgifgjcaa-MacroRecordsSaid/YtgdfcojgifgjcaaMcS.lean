/- macro: Strike. -/
import Derived.Test.YtgdfcojgifgjcaaMcR
namespace Go.Proofs.Ytgdfcojgifgjcaa
open Go.RowKit Go.Maps
set_option linter.unusedVariables false
set_option linter.unusedSimpArgs false
set_option maxRecDepth 100000

theorem two_cells (Y : World) (u v : Value) (t : TypeId) : (Y.alloc (.cells #[u, v] t)).cell? ⟨Y.heap.size, 0 + 0, none⟩ = some u ∧ (Y.alloc (.cells #[u, v] t)).cell? ⟨Y.heap.size, 0 + 1, none⟩ = some v :=
  ⟨by rw [World.cell?_alloc_new]; rfl, by rw [World.cell?_alloc_new]; rfl⟩
theorem many_two {α : Type} {k : Nat} {enc : α → List Value} {w : World} {A A' : Option Addr} {n n' c c' : Nat} {L L' : List α} (h : LiV k enc w (fun _ => True) (.slice A n c) L) (h' : LiV k enc w (fun _ => True) (.slice A' n' c') L') :
    Many k enc w (fun j => if j = 0 then A else A') (fun j => if j = 0 then c else c') [L, L'] := by
  obtain ⟨rfl, _⟩ := h.parts
  obtain ⟨rfl, _⟩ := h'.parts
  refine ⟨fun j M hj => ?_⟩
  match j, hj with
  | 0, hj => simp at hj; subst hj; exact h
  | 1, hj => simp at hj; subst hj; exact h'
theorem catK (Y : World) (A1 A2 : Option Addr) (n1 c1 n2 c2 : Nat) (t : TypeId) (S S' : Nat → Prop) (L1 L2 : List Kp) (b : Nat) (hb : b = Y.heap.size) (h1 : LiV 4 encK Y S (.slice A1 n1 c1) L1) (h2 : LiV 4 encK Y S' (.slice A2 n2 c2) L2) (hl : L1.length + L2.length ≤ 1000000) :
    Calls Try.prog 27 #[.slice (some ⟨b, 0, none⟩) 2 2] (Y.alloc (.cells #[.slice A1 n1 c1, .slice A2 n2 c2] t)) (TellsL 4 encK (L1 ++ L2) Y) := by
  subst hb
  have l1 := (h1.later (belAlloc Y (.cells #[.slice A1 n1 c1, .slice A2 n2 c2] t))).mono (S' := fun _ => True) fun _ _ => trivial
  have l2 := (h2.later (belAlloc Y (.cells #[.slice A1 n1 c1, .slice A2 n2 c2] t))).mono (S' := fun _ => True) fun _ _ => trivial
  have e1 := l1.parts.1
  have e2 := l2.parts.1
  have hc := two_cells Y (.slice A1 n1 c1) (.slice A2 n2 c2) t
  refine (ky_concat encK_len encK_one (some ⟨Y.heap.size, 0, none⟩) 2 (fun j => if j = 0 then A1 else A2) (fun j => if j = 0 then c1 else c2) [L1, L2] _ (by simp) ?_ (many_two l1 l2) (by simp; omega)).mono ?_
  · intro j M hj
    match j, hj with
    | 0, hj => simp at hj; subst hj; exact ⟨_, 0, rfl, by simp, by rw [← e1]; exact hc.1⟩
    | 1, hj => simp at hj; subst hj; exact ⟨_, 0, rfl, by simp, by rw [← e2]; exact hc.2⟩
  · rintro e w' ⟨A, n, c, rfl, ho, hb⟩
    have := LiV.own encK_len (by omega) ho
    simp only [List.flatten_cons, List.flatten_nil, List.append_nil] at this
    exact ⟨A, n, c, rfl, this.mono fun b hb => Nat.le_trans (by simp) hb, (belAlloc _ _).trans (hb.mono (by simp))⟩
/-- What Strike keeps. -/
structure Sk (w : World) (on : Bool) (A : Option Addr) (n c : Nat) (k r : Int) (m : Bool) (Ak : Option Addr) (nk ck : Nat) (X : World) : Prop where
  below : Below w.heap.size w X
  b : Blk X w.heap.size #[.bool on, .slice A n c]
  kb : Blk X (w.heap.size + 1) #[.int .i64 k, .int .i32 r, .bool m, .slice Ak nk ck]
  rs : Blk X (w.heap.size + 2) #[.bool false, .slice none 0 0]
section
variable {w X Y : World} {on : Bool} {A : Option Addr} {n c : Nat} {k r : Int} {m : Bool} {Ak : Option Addr} {nk ck : Nat}
theorem Sk.later (h : Sk w on A n c k r m Ak nk ck X) (hb : Below X.heap.size X Y) : Sk w on A n c k r m Ak nk ck Y := ⟨belowStep h.below hb, h.b.later hb h.b.1, h.kb.later hb h.kb.1, h.rs.later hb h.rs.1⟩
end
theorem sk_start (w : World) (on : Bool) (A : Option Addr) (n c : Nat) (k r : Int) (m : Bool) (Ak : Option Addr) (nk ck : Nat) : Sk w on A n c k r m Ak nk ck (((w.alloc (.cells #[.bool on, .slice A n c] 42)).alloc (.cells #[.int .i64 k, .int .i32 r, .bool m, .slice Ak nk ck] 30)).alloc (.cells #[.bool false, .slice none 0 0] 42)) := by
  have h := blk_three w #[.bool on, .slice A n c] #[.int .i64 k, .int .i32 r, .bool m, .slice Ak nk ck] #[.bool false, .slice none 0 0] 42 30 42
  exact ⟨belPush (belPush (belAlloc _ _) _) _, h.1, h.2.1, h.2.2⟩
theorem sk_S {w X : World} {on : Bool} {A : Option Addr} {n c : Nat} {k r : Int} {m : Bool} {Ak : Option Addr} {nk ck : Nat} (h : Sk w on A n c k r m Ak nk ck X) (u v : Value) :
    (fun Y : World => Y.cell? ⟨w.heap.size, 1, none⟩ = some (.slice A n c) ∧ Y.cell? ⟨w.heap.size + 1, 0, none⟩ = some (.int .i64 k) ∧ Y.cell? ⟨w.heap.size + 1, 1, none⟩ = some (.int .i32 r) ∧ Y.cell? ⟨w.heap.size + 1, 2, none⟩ = some (.bool m) ∧ Y.cell? ⟨w.heap.size + 1, 3, none⟩ = some (.slice Ak nk ck)) ((X.setCell ⟨w.heap.size + 1 + 1, 0, none⟩ u).setCell ⟨w.heap.size + 1 + 1, 1, none⟩ v) := by
  have b1 := (h.b.far (p := ⟨w.heap.size + 1 + 1, 0, none⟩) (by show w.heap.size + 1 + 1 ≠ _; omega) u).far (p := ⟨w.heap.size + 1 + 1, 1, none⟩) (by show w.heap.size + 1 + 1 ≠ _; omega) v
  have b2 := (h.kb.far (p := ⟨w.heap.size + 1 + 1, 0, none⟩) (by show w.heap.size + 1 + 1 ≠ _; omega) u).far (p := ⟨w.heap.size + 1 + 1, 1, none⟩) (by show w.heap.size + 1 + 1 ≠ _; omega) v
  exact ⟨b1.2.1 1, b2.2.1 0, b2.2.1 1, b2.2.1 2, b2.2.1 3⟩
def FinR (w : World) (on : Bool) (A : Option Addr) (n c : Nat) (X : World) : Prop := X.cell? ⟨w.heap.size + 2, 0, none⟩ = some (.bool on) ∧ X.cell? ⟨w.heap.size + 2, 1, none⟩ = some (.slice A n c) ∧ Below w.heap.size w X
theorem fin_of {w X : World} {on : Bool} {A : Option Addr} {n c : Nat} (h : Blk X (w.heap.size + 2) #[.bool false, .slice none 0 0]) (hb : Below w.heap.size w X) : FinR w on A n c ((X.setCell ⟨w.heap.size + 2, 0, none⟩ (.bool on)).setCell ⟨w.heap.size + 2, 1, none⟩ (.slice A n c)) := by
  have b := (h.set_ 0 (by simp) (.bool on)).set_ 1 (by simp) (.slice A n c)
  exact ⟨b.2.1 0, b.2.1 1, (hb.setCell (p := ⟨w.heap.size + 2, 0, none⟩) (by show _ ≤ w.heap.size + 2; omega) _).setCell (p := ⟨w.heap.size + 2, 1, none⟩) (by show _ ≤ w.heap.size + 2; omega) _⟩

set_option maxHeartbeats 4000000 in
theorem strike_off (A : Option Addr) (n c : Nat) (k r : Int) (m : Bool) (Ak : Option Addr) (nk ck : Nat) (w : World) :
    Calls Try.prog 12 #[.agg #[.bool false, .slice A n c], keyV k r m Ak nk ck] w fun e w' => e = .returned (.tuple #[.agg #[.bool false, .slice A n c], .bool true]) ∧ Below w.heap.size w w' := by
  have V0 := Lib.hid (sk_start w false A n c k r m Ak nk ck)
  go_enter Try.func12, Try.ntmps12
  go_upto_region 1 with fail
  refine at_world (Sk w false A n c k r m Ak nk ck) V0.out ?_
  intro X hX
  have V1 := Lib.hid hX
  clear hX V0
  obtain ⟨y1, k1, j1⟩ := (show _ from V1.out.b)
  obtain ⟨y2, k2, j2⟩ := (show _ from V1.out.rs)
  go_wp2_with fail
  refine at_world (FinR w false A n c) (fin_of V1.out.rs V1.out.below) ?_
  rintro Z ⟨x0, x1, hb⟩
  have HZ := Lib.hid hb
  clear hb k1 j1 k2 j2 y1 y2
  refine bodyPost_ret (v := .tuple #[.agg #[.bool false, .slice A n c], .bool true]) (by simp [results, Try.results12, go_sem, x0, x1]) rfl ⟨rfl, HZ.out⟩

set_option maxHeartbeats 8000000 in
theorem strike_on {w : World} {S : Nat → Prop} {A : Option Addr} {n c : Nat} {ks : List Ky} (hk : KyS w S (.slice A n c) ks) (hn : n < 1000) (k r : Int) (m : Bool) (Ak : Option Addr) (nk ck : Nat) (t : List Int) (ht : Txt w (.slice Ak nk ck) t) (htl : t.length ≤ 1000000) :
    Calls Try.prog 12 #[.agg #[.bool true, .slice A n c], keyV k r m Ak nk ck] w fun e w' => ∃ A' c', e = .returned (.tuple #[.agg #[.bool true, .slice A' (n + 1) c'], .bool true]) ∧ KyS w' (fun b => S b ∨ w.heap.size ≤ b) (.slice A' (n + 1) c') (ks ++ [⟨k, r, m, t⟩]) ∧ Below w.heap.size w w' := by
  have V0 := Lib.hid (sk_start w true A n c k r m Ak nk ck)
  have HH := Lib.hid (And.intro hk (And.intro ht htl))
  have d1 : decide ((1000 : Int) ≤ (n : Int)) = false := decide_eq_false (by omega)
  clear hk ht htl
  go_enter Try.func12, Try.ntmps12
  go_upto_region 1 with fail
  refine at_world (Sk w true A n c k r m Ak nk ck) V0.out ?_
  intro X hX
  have V1 := Lib.hid hX
  clear hX V0
  obtain ⟨y1, k1, j1⟩ := (show _ from V1.out.b)
  go_wp2_with fail
  obtain ⟨y2, k2_, j2⟩ := (show _ from V1.out.kb)
  have k20 : X.cell? ⟨w.heap.size + 1, 0, none⟩ = some (.int .i64 k) := k2_ 0
  have k21 : X.cell? ⟨w.heap.size + 1, 1, none⟩ = some (.int .i32 r) := k2_ 1
  have k22 : X.cell? ⟨w.heap.size + 1, 2, none⟩ = some (.bool m) := k2_ 2
  have k23 : X.cell? ⟨w.heap.size + 1, 3, none⟩ = some (.slice Ak nk ck) := k2_ 3
  have k11 : X.cell? ⟨w.heap.size, 1, none⟩ = some (.slice A n c) := k1 1
  have C1 := Lib.hid (fun Y (hY : Below X.heap.size X Y) => keycopy_any k r m Ak nk ck t Y (HH.out.2.1.later (belowStep V1.out.below hY)) (by have := HH.out.2.2; omega))
  have HS := Lib.hid (show ∀ Y, Below X.heap.size X Y → (fun Y => Y.cell? ⟨w.heap.size, 1, none⟩ = some (.slice A n c) ∧ Y.cell? ⟨w.heap.size + 1, 0, none⟩ = some (.int .i64 k) ∧ Y.cell? ⟨w.heap.size + 1, 1, none⟩ = some (.int .i32 r) ∧ Y.cell? ⟨w.heap.size + 1, 2, none⟩ = some (.bool m) ∧ Y.cell? ⟨w.heap.size + 1, 3, none⟩ = some (.slice Ak nk ck)) Y from fun Y hY => by
    have h := V1.out.later hY
    exact ⟨h.b.2.1 1, h.kb.2.1 0, h.kb.2.1 1, h.kb.2.1 2, h.kb.2.1 3⟩)
  clear k1 k2_ j1 j2
  have hs0 := HS.out X (Below.refl _ _)
  obtain ⟨hs, hl, hks⟩ := HH.out.1
  have HL := Lib.hid (And.intro hl.old hks.old)
  clear hl hks
  go_region_held3 (fun Y => Y.cell? ⟨w.heap.size, 1, none⟩ = some (.slice A n c) ∧ Y.cell? ⟨w.heap.size + 1, 0, none⟩ = some (.int .i64 k) ∧ Y.cell? ⟨w.heap.size + 1, 1, none⟩ = some (.int .i32 r) ∧ Y.cell? ⟨w.heap.size + 1, 2, none⟩ = some (.bool m) ∧ Y.cell? ⟨w.heap.size + 1, 3, none⟩ = some (.slice Ak nk ck))
    (first | exact sk_S (V1.out.later B6.out) _ _ | exact HS.out _ (by first | assumption | exact B6.out | exact B5.out) | exact HS.out _ (belowStep B5.out (belAlloc w5 _)) | exact HS.out _ (belowStep B5.out (belPush (belAlloc w5 _) _)) | go_keep)
    (first
    | (go_at_call 28; refine (C1.out _ (by first | exact Below.refl _ _ | exact (Below.refl _ _).drew | exact selfDrew _ _)).mono ?_; rintro e w5 ⟨A5, n5, c5, rfl, t5, b5⟩; have B5 := Lib.hid (belowStep (W := X) (by first | exact Below.refl _ _ | exact (Below.refl _ _).drew | exact selfDrew _ _) b5); have T5 := Lib.hid t5; clear t5 b5)
    | (go_at_call 27; refine (catK _ _ _ _ _ _ _ _ _ _ hs [⟨k, r, m, A5, n5, c5⟩] _ (by simp) (HL.out.1.later (belowStep V1.out.below (belowStep B5.out (belAlloc w5 _)))) (key_newT w5 ⟨k, r, m, A5, n5, c5⟩ _) (by have h1 := HL.out.1.parts.1; simp; omega)).mono ?_; rintro e w6 ⟨A6, n6, c6, rfl, l6, b6⟩; have B6 := Lib.hid (belowStep (belowStep B5.out (belAlloc w5 _)) b6); have L6 := Lib.hid l6; have b56 := Lib.hid (show Below w5.heap.size w5 w6 from (belAlloc w5 _).trans (b6.mono (by simp))); clear l6 b6; obtain ⟨y6, r6, j6⟩ := (show _ from (V1.out.later B6.out).rs)))
  all_goals
    go_wp2_with fail
    refine at_world (fun Z => FinR w true A6 n6 c6 Z ∧ KyS Z (fun b => S b ∨ w.heap.size ≤ b) (.slice A6 n6 c6) (ks ++ [⟨k, r, m, t⟩])) ⟨fin_of (V1.out.later B6.out).rs (belowStep V1.out.below B6.out), ?_⟩ ?_
    · have hX3 : w.heap.size + 3 ≤ X.heap.size := by have := V1.out.rs.1; omega
      have h5 := B5.out.size
      have hL : LiV 4 encK w6 (fun b => (b < w.heap.size ∧ S b) ∨ w.heap.size + 3 ≤ b) (.slice A6 n6 c6) (hs ++ [⟨k, r, m, A5, n5, c5⟩]) := L6.out.mono fun b hb => .inr (by simp at hb; omega)
      have hK : KeysS w6 (fun b => (b < w.heap.size ∧ S b) ∨ w.heap.size + 3 ≤ b) (hs ++ [⟨k, r, m, A5, n5, c5⟩]) (ks ++ [⟨k, r, m, t⟩]) :=
        KeysS.snoc ((HL.out.2.later (belowStep V1.out.below B6.out)).mono fun b hb => .inl hb) rfl rfl rfl (Sl.mono (T5.out.later (by first | exact b56.out)) fun b hb => .inr (by have hb : X.heap.size ≤ b := hb; omega))
      have h0 : KyS w6 (fun b => (b < w.heap.size ∧ S b) ∨ w.heap.size + 3 ≤ b) (.slice A6 n6 c6) (ks ++ [⟨k, r, m, t⟩]) := ⟨_, hL, hK⟩
      exact ((h0.far (p := ⟨w.heap.size + 1 + 1, 0, none⟩) (by show ¬ ((w.heap.size + 1 + 1 < w.heap.size ∧ _) ∨ w.heap.size + 3 ≤ w.heap.size + 1 + 1); omega) _).far (p := ⟨w.heap.size + 1 + 1, 1, none⟩) (by show ¬ ((w.heap.size + 1 + 1 < w.heap.size ∧ _) ∨ w.heap.size + 3 ≤ w.heap.size + 1 + 1); omega) _).mono fun b hb => by
        rcases hb with hb | hb
        · exact .inl hb.2
        · exact .inr (by omega)
    rintro Z ⟨⟨x0, x1, hb⟩, hkz⟩
    have hn6 : n6 = n + 1 := by
      have h1 := L6.out.parts.1
      have h2 := HL.out.1.parts.1
      simp at h1
      omega
    subst hn6
    have HZ := Lib.hid (And.intro hkz hb)
    clear hkz hb y1 y6 r6 j6 k20 k21 k22 k23 k11 hs0 y2
    refine bodyPost_ret (v := .tuple #[.agg #[.bool true, .slice A6 (n + 1) c6], .bool true]) (by simp [results, Try.results12, go_sem, x0, x1]) rfl ⟨A6, c6, rfl, HZ.out⟩
end Go.Proofs.Ytgdfcojgifgjcaa
