/- undo: stacks told apart from a row that grows; the program's Add over them. -/
import Derived.Test.YtfmpldgeldocnaaUnJ
namespace Go.Proofs.Ytfmpldgeldocnaa
open Go.RowKit Go.Shelf
set_option linter.unusedVariables false
set_option linter.unusedSimpArgs false

def EdIsS (w : World) (S : Nat → Prop) (h : EdH) (e : AE) : Prop := h.at_ = e.at_ ∧ TxtS w S (.slice h.A h.n h.c) e.old ∧ TxtS w S (.slice h.B h.m h.d) e.new
def EdsS (w : World) (S : Nat → Prop) (v : Value) (L : List AE) : Prop := ∃ H : List EdH, LiV 3 encE w S v H ∧ Both (EdIsS w S) H L
def GrIsS (w : World) (S : Nat → Prop) (g : GrH) (a : AG) : Prop := g.cur = a.cur ∧ EdsS w S (.slice g.E g.n g.c) a.eds
def StkS (w : World) (S : Nat → Prop) (v : Value) (T : List AG) : Prop := ∃ H : List GrH, LiV 2 encG w S v H ∧ Both (GrIsS w S) H T
section
variable {w w' : World} {S S' : Nat → Prop}
theorem EdIsS.any {h : EdH} {e : AE} (k : EdIsS w S h e) : EdIs w h e := ⟨k.1, k.2.1.any, k.2.2.any⟩
theorem EdsS.any {v : Value} {L : List AE} (k : EdsS w S v L) : Eds w v L := by
  obtain ⟨H, h1, h2⟩ := k
  exact ⟨H, h1.mono fun _ _ => trivial, h2.imp fun _ _ => EdIsS.any⟩
theorem StkS.any {v : Value} {T : List AG} (k : StkS w S v T) : Stk w v T := by
  obtain ⟨H, h1, h2⟩ := k
  exact ⟨H, h1.mono fun _ _ => trivial, h2.imp fun _ _ k => ⟨k.1, k.2.any⟩⟩
theorem EdIsS.later {h : EdH} {e : AE} (k : EdIsS w S h e) (hb : Below w.heap.size w w') : EdIsS w' S h e := ⟨k.1, k.2.1.later hb, k.2.2.later hb⟩
theorem EdsS.later {v : Value} {L : List AE} (k : EdsS w S v L) (hb : Below w.heap.size w w') : EdsS w' S v L := by
  obtain ⟨H, h1, h2⟩ := k
  exact ⟨H, h1.later hb, h2.imp fun _ _ k => k.later hb⟩
theorem StkS.later {v : Value} {T : List AG} (k : StkS w S v T) (hb : Below w.heap.size w w') : StkS w' S v T := by
  obtain ⟨H, h1, h2⟩ := k
  exact ⟨H, h1.later hb, h2.imp fun _ _ k => ⟨k.1, k.2.later hb⟩⟩
theorem EdIsS.mono {h : EdH} {e : AE} (k : EdIsS w S h e) (hs : ∀ b, S b → S' b) : EdIsS w S' h e := ⟨k.1, Sl.mono k.2.1 hs, Sl.mono k.2.2 hs⟩
theorem EdsS.mono {v : Value} {L : List AE} (k : EdsS w S v L) (hs : ∀ b, S b → S' b) : EdsS w S' v L := by
  obtain ⟨H, h1, h2⟩ := k
  exact ⟨H, h1.mono hs, h2.imp fun _ _ k => k.mono hs⟩
theorem StkS.mono {v : Value} {T : List AG} (k : StkS w S v T) (hs : ∀ b, S b → S' b) : StkS w S' v T := by
  obtain ⟨H, h1, h2⟩ := k
  exact ⟨H, h1.mono hs, h2.imp fun _ _ k => ⟨k.1, k.2.mono hs⟩⟩
theorem EdIsS.old {h : EdH} {e : AE} (k : EdIsS w S h e) : EdIsS w (fun b => b < w.heap.size ∧ S b) h e := ⟨k.1, Sl.old k.2.1, Sl.old k.2.2⟩
theorem EdsS.old {v : Value} {L : List AE} (k : EdsS w S v L) : EdsS w (fun b => b < w.heap.size ∧ S b) v L := by
  obtain ⟨H, h1, h2⟩ := k
  exact ⟨H, h1.old, h2.imp fun _ _ k => k.old⟩
theorem StkS.old {v : Value} {T : List AG} (k : StkS w S v T) : StkS w (fun b => b < w.heap.size ∧ S b) v T := by
  obtain ⟨H, h1, h2⟩ := k
  exact ⟨H, h1.old, h2.imp fun _ _ k => ⟨k.1, k.2.old⟩⟩
theorem EdIsS.grown {h : EdH} {e : AE} {row : Option Nat} (k : EdIsS w S h e) (hg : w.grownBy w' row) (hS : ∀ b, S b → some b ≠ row) : EdIsS w' S h e := ⟨k.1, Sl.grown k.2.1 hg hS, Sl.grown k.2.2 hg hS⟩
theorem EdsS.grown {v : Value} {L : List AE} {row : Option Nat} (k : EdsS w S v L) (hg : w.grownBy w' row) (hS : ∀ b, S b → some b ≠ row) : EdsS w' S v L := by
  obtain ⟨H, h1, h2⟩ := k
  exact ⟨H, h1.grown hg hS, h2.imp fun _ _ k => k.grown hg hS⟩
theorem StkS.grown {v : Value} {T : List AG} {row : Option Nat} (k : StkS w S v T) (hg : w.grownBy w' row) (hS : ∀ b, S b → some b ≠ row) : StkS w' S v T := by
  obtain ⟨H, h1, h2⟩ := k
  exact ⟨H, h1.grown hg hS, h2.imp fun _ _ k => ⟨k.1, k.2.grown hg hS⟩⟩
variable {g : Nat} {cs : Array Value}
theorem TxtS.shape {v : Value} {l : List Int} (h : TxtS w S v l) (hB : Blk w g cs) (hn : NoTxt cs) (i : Nat) (u : Value) : TxtS (w.setCell ⟨g, i, none⟩ u) S v l := by
  obtain ⟨A, c, e, hr, h0, h1, h2, h3⟩ := h
  have h' : Sl w (fun b => S b ∧ b ≠ g) v l.length (liR l) := by
    refine ⟨A, c, e, hr, h0, h1, h2, fun a ha hl => ⟨h3 a ha hl, fun he => ?_⟩⟩
    obtain ⟨b, o, e1, _, hc⟩ := hr 0 hl
    rw [ha] at e1
    injection e1 with e1
    subst e1
    simp only at he
    subst he
    rw [hB.2.1] at hc
    exact hn _ _ hc
  exact Sl.mono (h'.far (p := ⟨g, i, none⟩) (fun h => h.2 rfl) u) fun _ h => h.1
theorem LiV.shapeS {α : Type} {enc : α → List Value} {k : Nat} {v : Value} {L : List α} (h : LiV k enc w S v L) (hk : ∀ x, (enc x).length = k) (hk0 : 0 < k) (hB : Blk w g cs) (hs : cs.size < k) (i : Nat) (u : Value) :
    LiV k enc (w.setCell ⟨g, i, none⟩ u) S v L := by
  obtain ⟨A, c, e, hl, hx⟩ := h
  have h' : LiV k enc w (fun b => S b ∧ b ≠ g) v L := by
    refine ⟨A, c, e, fun j x hj => ?_, hx⟩
    obtain ⟨b, o, e1, hb, hS, hc⟩ := hl j x hj
    refine ⟨b, o, e1, hb, ⟨hS, fun he => ?_⟩, hc⟩
    subst he
    have := hc (k - 1) ((enc x)[k - 1]'(by rw [hk]; omega)) (List.getElem?_eq_getElem _)
    rw [hB.2.1] at this
    obtain ⟨hlt, _⟩ := Array.getElem?_eq_some_iff.1 this
    omega
  exact (h'.far (p := ⟨g, i, none⟩) (fun h => h.2 rfl) u).mono fun _ h => h.1
theorem StkS.shape {v : Value} {T : List AG} (k : StkS w S v T) (hB : Blk w g cs) (hn : NoTxt cs) (hs : cs.size < 2) (i : Nat) (u : Value) : StkS (w.setCell ⟨g, i, none⟩ u) S v T := by
  obtain ⟨H, h1, h2⟩ := k
  refine ⟨H, h1.shapeS encG_len (by omega) hB hs i u, h2.imp fun x y k => ⟨k.1, ?_⟩⟩
  obtain ⟨H', h1', h2'⟩ := k.2
  exact ⟨H', h1'.shapeS encE_len (by omega) hB (by omega) i u, h2'.imp fun _ _ k => ⟨k.1, TxtS.shape k.2.1 hB hn i u, TxtS.shape k.2.2 hB hn i u⟩⟩
end
theorem StkS.cut {w : World} {S : Nat → Prop} {A : Option Addr} {n c : Nat} {T : List AG} (k : StkS w S (.slice A n c) T) (m : Nat) (hm : m ≤ T.length) : StkS w S (.slice (if c = m then A else Option.map (fun x => x.add (m * 2)) A) (n - m) (c - m)) (T.drop m) := by
  obtain ⟨H, h1, h2⟩ := k
  exact ⟨H.drop m, h1.cut m (by rw [h2.1]; exact hm), h2.drop m⟩
theorem edsS_new (Y : World) (S : Nat → Prop) (at_ : Int) (O : Option Addr) (on oc : Nat) (I : Option Addr) (im ic : Nat) (e : AE) (t : TypeId) (he : EdIsS Y S ⟨at_, O, on, oc, I, im, ic⟩ e) (b : Nat) (hb : b = Y.heap.size) :
    EdsS (Y.alloc (.cells #[.int .i64 at_, .slice O on oc, .slice I im ic] t)) (fun b => S b ∨ Y.heap.size ≤ b) (.slice (some ⟨b, 0, none⟩) 1 1) [e] := by
  subst hb
  refine ⟨[⟨at_, O, on, oc, I, im, ic⟩], ⟨_, 1, rfl, (Li.new encE_len Y _ t rfl).mono (fun _ h => .inr h), (fun e => by cases e), Nat.le_refl _, by unfold maxLen; omega⟩, Both.one ((he.later (belAlloc _ _)).mono fun _ h => .inl h)⟩
theorem stkS_new (Y : World) (S : Nat → Prop) (E : Option Addr) (n c : Nat) (cur : Int) (a : AG) (t : TypeId) (hg : GrIsS Y S ⟨E, n, c, cur⟩ a) (b : Nat) (hb : b = Y.heap.size) :
    StkS (Y.alloc (.cells #[.slice E n c, .int .i64 cur] t)) (fun b => S b ∨ Y.heap.size ≤ b) (.slice (some ⟨b, 0, none⟩) 1 1) [a] := by
  subst hb
  refine ⟨[⟨E, n, c, cur⟩], ⟨_, 1, rfl, (Li.new encG_len Y _ t rfl).mono (fun _ h => .inr h), (fun e => by cases e), Nat.le_refl _, by unfold maxLen; omega⟩, Both.one ⟨hg.1, (hg.2.later (belAlloc _ _)).mono fun _ h => .inl h⟩⟩
theorem catGS (Y : World) (S : Nat → Prop) (A1 A2 : Option Addr) (n1 c1 n2 c2 : Nat) (t : TypeId) (S1 S2 : List AG) (b : Nat) (hb : b = Y.heap.size) (h1 : StkS Y S (.slice A1 n1 c1) S1) (h2 : StkS Y S (.slice A2 n2 c2) S2) (hl : S1.length + S2.length ≤ 1000000) :
    Calls Try.prog 22 #[.slice (some ⟨b, 0, none⟩) 2 2] (Y.alloc (.cells #[.slice A1 n1 c1, .slice A2 n2 c2] t)) (fun e w' => ∃ A n c, e = .returned (.slice A n c) ∧ StkS w' (fun b => S b ∨ Y.heap.size ≤ b) (.slice A n c) (S1 ++ S2) ∧ Below Y.heap.size Y w') := by
  subst hb
  obtain ⟨H1, l1, r1⟩ := h1.later (belAlloc Y (.cells #[.slice A1 n1 c1, .slice A2 n2 c2] t))
  obtain ⟨H2, l2, r2⟩ := h2.later (belAlloc Y (.cells #[.slice A1 n1 c1, .slice A2 n2 c2] t))
  have e1 := l1.parts.1
  have e2 := l2.parts.1
  have hc := two_cells Y (.slice A1 n1 c1) (.slice A2 n2 c2) t
  have q1 := r1.1
  have q2 := r2.1
  refine (group_concat encG_len encG_one (some ⟨Y.heap.size, 0, none⟩) 2 (fun j => if j = 0 then A1 else A2) (fun j => if j = 0 then c1 else c2) [H1, H2] _ (by simp) ?_ (many_two (l1.mono fun _ _ => trivial) (l2.mono fun _ _ => trivial)) (by simp; omega)).mono ?_
  · intro j M hj
    match j, hj with
    | 0, hj => simp at hj; subst hj; exact ⟨_, 0, rfl, by simp, by rw [← e1]; exact hc.1⟩
    | 1, hj => simp at hj; subst hj; exact ⟨_, 0, rfl, by simp, by rw [← e2]; exact hc.2⟩
  · rintro e w' ⟨A, n, c, rfl, ho, hb⟩
    refine ⟨A, n, c, rfl, ⟨H1 ++ H2, ?_, (r1.append r2).imp fun x y k => ⟨k.1, (k.2.later hb).mono fun _ h => .inl h⟩⟩, (belAlloc _ _).trans (hb.mono (by simp))⟩
    have := LiV.own encG_len (by omega) ho
    simp only [List.flatten_cons, List.flatten_nil, List.append_nil] at this
    exact this.mono fun b hb => .inr (by simp at hb; omega)

structure StoredT (w : World) (g : Nat) (a : Value) (S : Nat → Prop) (T : List AG) (X : World) : Prop where
  c0 : X.cell? ⟨g, 0, none⟩ = some a
  st : StkS X S a T
  below : Below w.heap.size w X
theorem storedT {w v : World} {g : Nat} {a : Value} {A : Option Addr} {n c : Nat} {S : Nat → Prop} {T : List AG} (hB : Blk v g #[.slice A n c]) (hb : Below w.heap.size w v) (hg : w.heap.size ≤ g) (ht : StkS v S a T) : StoredT w g a S T (v.setCell ⟨g, 0, none⟩ a) :=
  ⟨(hB.set_ 0 (by simp) a).2.1 0, ht.shape hB (noTxt_slice _ _ _) (by simp) 0 a, hb.setCell (p := ⟨g, 0, none⟩) hg _⟩

set_option maxHeartbeats 1000000 in
theorem add_ownS (Q : Nat → Prop) (A : Option Addr) (n c : Nat) (at_ : Int) (O : Option Addr) (on oc : Nat) (I : Option Addr) (im ic : Nat) (cur : Int) (S : List AG) (e : AE) (w : World)
    (hS : StkS w Q (.slice A n c) S) (he : EdIsS w Q ⟨at_, O, on, oc, I, im, ic⟩ e) (hn : S.length ≤ 1000) :
    Calls Try.prog 8 #[.agg #[.slice A n c], .agg #[.int .i64 at_, .slice O on oc, .slice I im ic], .int .i64 cur, .bool false] w (fun e' w' => ∃ A n c, e' = .returned (.agg #[.slice A n c]) ∧ StkS w' (fun b => Q b ∨ w.heap.size ≤ b) (.slice A n c) (S.drop (S.length - 999) ++ [⟨[e], cur⟩]) ∧ Below w.heap.size w w') := by
  obtain ⟨A', c', e1, h1, h2⟩ := hS.any.is
  injection e1 with ea en ec
  subst ea; subst en; subst ec
  obtain ⟨K, hK⟩ : ∃ K, S.length - 999 = K := ⟨_, rfl⟩
  have hKl : K ≤ S.length := by omega
  obtain ⟨AA, hAA⟩ : ∃ AA, (if c = K then A else Option.map (fun x => x.add (K * 2)) A) = AA := ⟨_, rfl⟩
  have m0 : max ((S.length : Int) - 1000 + 1) 0 = (K : Int) := by omega
  have HC := Lib.hid (hS.cut K hKl)
  rw [hAA] at HC
  let W0 : World := (w.alloc (.cells #[.slice A S.length c] 25)).alloc (.cells #[.int .i64 at_, .slice O on oc, .slice I im ic] 34) |>.alloc (.cells #[.slice none 0 0] 25)
  have b0 : Below w.heap.size w W0 := belPush (belPush (belAlloc _ _) _) _
  have g1 := edsS_new W0 Q at_ O on oc I im ic e 34 (he.later b0) (w.heap.size + 1 + 1 + 1) (by simp [W0])
  have g2 := (stkS_new _ _ _ 1 1 cur ⟨[e], cur⟩ 40 ⟨rfl, g1⟩ (w.heap.size + 1 + 1 + 1 + 1) (by simp [W0])).mono (S' := fun b => Q b ∨ w.heap.size ≤ b) (fun b h => by rcases h with (h | h) | h; exact .inl h; exact .inr (Nat.le_trans b0.size h); exact .inr (Nat.le_trans (belPush b0 _).size h))
  have hk : Blk W0 (w.heap.size + 1 + 1) #[.slice none 0 0] := (blk_three w _ _ _ _ _ _).2.2
  have C := Lib.hid ((catGS _ (fun b => Q b ∨ w.heap.size ≤ b) AA _ (S.length - K) (c - K) 1 1 23 _ _ (w.heap.size + 1 + 1 + 1 + 1 + 1) (by simp [W0]) ((HC.out.later (belPush (belPush b0 _) _)).mono fun _ h => .inl h) g2 (by simp; omega)).mono (R' := fun e' w' => ∃ A n c, e' = .returned (.slice A n c) ∧ StkS w' (fun b => Q b ∨ w.heap.size ≤ b) (.slice A n c) (S.drop K ++ [⟨[e], cur⟩]) ∧ Below w.heap.size w w' ∧ Blk w' (w.heap.size + 1 + 1) #[.slice none 0 0]) (by
    rintro e' w' ⟨A, n, c, rfl, h1, h2⟩
    exact ⟨A, n, c, rfl, h1.mono (fun b h => by rcases h with h | h; exact h; exact .inr (Nat.le_trans (belPush (belPush b0 _) _).size h)), (belPush (belPush b0 _) _).trans (h2.mono (belPush (belPush b0 _) _).size), ((hk.alloc _).alloc _).later h2 (by simp [W0])⟩))
  simp only [W0] at C
  clear g1 g2 hk
  obtain ⟨N, hN⟩ : ∃ N, S.length = N := ⟨_, rfl⟩
  have HN2 := Lib.hid hN
  rw [hK]
  rw [hN] at m0 h1 hn hKl C
  rw [hN]
  have k1 : (K : Int) ≤ (c : Int) := by omega
  have k2 : (K : Int) ≤ (N : Int) := by omega
  have k3 : (0 : Int) ≤ (K : Int) := by omega
  clear hS he hK hKl hN b0 HC W0
  go_enter Try.func8, Try.ntmps8
  go_wp2_with fail
  (with_reducible refine C.out.mono ?_)
  rintro e w1 ⟨A1, n1, c1, rfl, ht1, hb1, hk1⟩
  have H1 := Lib.hid (storedT hk1 hb1 (by omega) ht1)
  obtain ⟨y0, k0, j0⟩ := (show _ from hk1)
  clear ht1 hb1 hk1
  go_wp2
  refine at_world (StoredT w (w.heap.size + 1 + 1) (.slice A1 n1 c1) _ _) H1.out ?_
  rintro X ⟨x0, hts, hX⟩
  refine bodyPost_ret (v := .agg #[.slice A1 n1 c1]) (by simp [results, Try.results8, go_sem, x0]) rfl ⟨_, _, _, rfl, hts, hX⟩
end Go.Proofs.Ytfmpldgeldocnaa
