/- macro: Set, as what a name stands for. -/
import Derived.Test.YtgdfcojgifgjcaaMcQ
namespace Go.Proofs.Ytgdfcojgifgjcaa
open Go.RowKit Go.Maps
set_option linter.unusedVariables false
set_option linter.unusedSimpArgs false
set_option maxRecDepth 100000

def setF (F : Int → Option (List MSt)) (name : Int) (M : List MSt) (s : Int) : Option (List MSt) := if s = name then some M else F s
/-- Steps, a book, whose memory lies in S. -/
def StS (X : World) (S : Nat → Prop) (v : Value) (M : List MSt) : Prop := ∃ H : List Sp, LiV 6 encS X S v H ∧ H.length = M.length ∧ ∀ (j : Nat) (x : Sp), H[j]? = some x → ∃ s : MSt, M[j]? = some s ∧ x.k = s.key.k ∧ x.r = s.key.r ∧ x.m = s.key.m ∧ x.call = s.call ∧ x.nm = s.nm ∧ (Lit.int .i32 s.nm).wf = true ∧ TxtS X S (.slice x.A x.n x.c) s.key.t ∧ s.key.t.length ≤ 1000000
theorem StS.any {X : World} {S : Nat → Prop} {v : Value} {M : List MSt} (h : StS X S v M) : StM X v M := by
  obtain ⟨H, h1, h2, h3⟩ := h
  refine ⟨H, h1.mono fun _ _ => trivial, h2, fun j x hx => ?_⟩
  obtain ⟨s, k1, k2, k3, k4, k5, k6, k7, k8, k9⟩ := h3 j x hx
  exact ⟨s, k1, k2, k3, k4, k5, k6, k7, k8.any, k9⟩
theorem StS.later {X Y : World} {S : Nat → Prop} {v : Value} {M : List MSt} (h : StS X S v M) (hb : Below X.heap.size X Y) : StS Y S v M := by
  obtain ⟨H, h1, h2, h3⟩ := h
  refine ⟨H, h1.later hb, h2, fun j x hx => ?_⟩
  obtain ⟨s, k1, k2, k3, k4, k5, k6, k7, k8, k9⟩ := h3 j x hx
  exact ⟨s, k1, k2, k3, k4, k5, k6, k7, k8.later hb, k9⟩
theorem StS.mono {X : World} {S S' : Nat → Prop} {v : Value} {M : List MSt} (h : StS X S v M) (hS : ∀ b, S b → S' b) : StS X S' v M := by
  obtain ⟨H, h1, h2, h3⟩ := h
  refine ⟨H, h1.mono hS, h2, fun j x hx => ?_⟩
  obtain ⟨s, k1, k2, k3, k4, k5, k6, k7, k8, k9⟩ := h3 j x hx
  exact ⟨s, k1, k2, k3, k4, k5, k6, k7, Sl.mono k8 hS, k9⟩
theorem StS.far {X : World} {S : Nat → Prop} {v : Value} {M : List MSt} (h : StS X S v M) {p : Addr} (hp : ¬ S p.block) (u : Value) : StS (X.setCell p u) S v M := by
  obtain ⟨H, h1, h2, h3⟩ := h
  refine ⟨H, h1.far hp u, h2, fun j x hx => ?_⟩
  obtain ⟨s, k1, k2, k3, k4, k5, k6, k7, k8, k9⟩ := h3 j x hx
  exact ⟨s, k1, k2, k3, k4, k5, k6, k7, Sl.far k8 hp u, k9⟩
theorem steps_StS {W w : World} {base : Nat} {v : Value} {H : List Sp} {M : List MSt} (hH : H.length = M.length)
    (hc : ∀ (j : Nat) (x : Sp), H[j]? = some x → ∃ s : MSt, M[j]? = some s ∧ x.k = s.key.k ∧ x.r = s.key.r ∧ x.m = s.key.m ∧ x.call = s.call ∧ x.nm = s.nm ∧ (Lit.int .i32 s.nm).wf = true ∧ Txt W (.slice x.A x.n x.c) s.key.t ∧ s.key.t.length ≤ 1000000)
    (h : StepsAt H (fun j => ((M[j]?).map fun s => s.key.t).getD []) base w v) : StS w (fun b => base ≤ b) v M := by
  obtain ⟨H', h1, h2, h3⟩ := h
  refine ⟨H', h1, h2.trans hH, fun j x' hx' => ?_⟩
  have hj : j < H.length := by rw [← h2]; exact (List.getElem?_eq_some_iff.1 hx').1
  obtain ⟨x'', k1, k2⟩ := h3 j H[j] (List.getElem?_eq_getElem hj)
  obtain rfl : x' = x'' := Option.some.inj (hx'.symm.trans k1)
  obtain ⟨s, s1, s2, s3, s4, s5, s6, s7, s8, s9⟩ := hc j H[j] (List.getElem?_eq_getElem hj)
  refine ⟨s, s1, k2.1.trans s2, k2.2.1.trans s3, k2.2.2.1.trans s4, k2.2.2.2.1.trans s5, k2.2.2.2.2.1.trans s6, s7, ?_, s9⟩
  have ht := k2.2.2.2.2.2
  simp only [s1] at ht
  exact ht
def BookS (w : World) (S : Nat → Prop) (v : Value) (n : Nat) (L : List (Int × Sv)) (F : Int → Option (List MSt)) : Prop := BookOf w v n L ∧ (∀ b, v = .map (some b) → S b) ∧ ∀ s, (lastB L s = none → F s = none) ∧ ∀ sv, lastB L s = some sv → ∃ M, F s = some M ∧ M.length ≤ 1000 ∧ StS w S (svV sv) M
section
variable {w w' : World} {S S' : Nat → Prop} {v : Value} {n : Nat} {L : List (Int × Sv)} {F : Int → Option (List MSt)}
theorem BookS.any (h : BookS w S v n L F) : BookF w v n L F := by
  refine ⟨h.1, fun s => ⟨(h.2.2 s).1, fun sv hs => ?_⟩⟩
  obtain ⟨M, h1, h2, h3⟩ := (h.2.2 s).2 sv hs
  exact ⟨M, h1, h2, h3.any⟩
theorem BookS.later (h : BookS w S v n L F) (hb : Below w.heap.size w w') : BookS w' S v n L F := by
  refine ⟨h.1.later hb, h.2.1, fun s => ⟨(h.2.2 s).1, fun sv hs => ?_⟩⟩
  obtain ⟨M, h1, h2, h3⟩ := (h.2.2 s).2 sv hs
  exact ⟨M, h1, h2, h3.later hb⟩
theorem BookS.mono (h : BookS w S v n L F) (hS : ∀ b, S b → S' b) : BookS w S' v n L F := by
  refine ⟨h.1, fun b hb => hS b (h.2.1 b hb), fun s => ⟨(h.2.2 s).1, fun sv hs => ?_⟩⟩
  obtain ⟨M, h1, h2, h3⟩ := (h.2.2 s).2 sv hs
  exact ⟨M, h1, h2, h3.mono hS⟩
theorem BookS.far (h : BookS w S v n L F) {p : Addr} (hp : ¬ S p.block) (u : Value) : BookS (w.setCell p u) S v n L F := by
  refine ⟨?_, h.2.1, fun s => ⟨(h.2.2 s).1, fun sv hs => ?_⟩⟩
  · rcases h.1 with h0 | ⟨b, D, rfl, h2, hq, h3⟩
    · exact .inl h0
    · exact .inr ⟨b, D, rfl, h2.setCell (fun e => hp (e ▸ h.2.1 b rfl)) _, hq, h3⟩
  · obtain ⟨M, h1, h2, h3⟩ := (h.2.2 s).2 sv hs
    exact ⟨M, h1, h2, h3.far hp u⟩
theorem bookS_nil (w : World) (S : Nat → Prop) : BookS w S (.map none) 0 [] (fun _ => none) := ⟨.inl ⟨rfl, rfl, rfl⟩, fun b h => (by cases h), fun s => ⟨fun _ => rfl, fun sv h => by cases h⟩⟩
end
theorem set_F {w : World} {S : Nat → Prop} {m : Value} {n : Nat} {L : List (Int × Sv)} {F : Int → Option (List MSt)} (hB : BookS w S m n L F) {name : Int} (hw : (Lit.int .i32 name).wf = true) {A : Option Addr} {N c : Nat} {M : List MSt} (hM : StM w (.slice A N c) M) (hl : M.length ≤ 1000) (hn : n < 100) (hL : L.length ≤ 100000) :
    Calls Try.prog 7 #[.agg #[m], .int .i32 name, .slice A N c] w fun e w' => ∃ q x, e = .returned (.tuple #[.agg #[.map q], .int .i64 0]) ∧ BookS w' (fun b => S b ∨ w.heap.size ≤ b) (.map q) (cntB n L name) (L ++ [(name, x)]) (setF F name M) ∧ Below w.heap.size w w' := by
  obtain ⟨H, h1, h2, h3⟩ := hM
  obtain rfl : N = H.length := h1.parts.1
  refine (set_any m n L name hw A c H (fun j => ((M[j]?).map fun s => s.key.t).getD []) w hB.1 hn hL h1 (fun j x hx => ?_) (by omega)).mono ?_
  · obtain ⟨s, s1, s2, s3, s4, s5, s6, s7, s8, s9⟩ := h3 j x hx
    rw [s1]
    exact ⟨s8, by simp; omega⟩
  · rintro e w' ⟨m', x, rfl, hb, hst, hbel, hblk⟩
    obtain ⟨q, rfl⟩ := book_shape hb
    refine ⟨q, x, rfl, ⟨hb, fun b hb => .inr (hblk b hb), fun s => ?_⟩, hbel⟩
    rw [lastB_snoc]
    unfold setF
    by_cases e : name = s
    · subst e
      rw [if_pos rfl, if_pos rfl]
      refine ⟨fun h => (by cases h), fun sv hsv => ?_⟩
      obtain rfl := Option.some.inj hsv
      exact ⟨M, rfl, hl, (steps_StS h2 h3 hst).mono fun _ h => .inr h⟩
    · rw [if_neg e, if_neg (fun h => e h.symm)]
      refine ⟨(hB.2.2 s).1, fun sv hsv => ?_⟩
      obtain ⟨M', k1, k2, k3⟩ := (hB.2.2 s).2 sv hsv
      exact ⟨M', k1, k2, (k3.later hbel).mono fun _ h => .inl h⟩
theorem stM_nil (w : World) : StM w (.slice none 0 0) [] := ⟨[], LiV.nil _ _, rfl, fun j x hx => by simp at hx⟩
/-- A step without a text. -/
def st0 (k r : Int) (call : Bool) (nm : Int) : MSt := ⟨⟨k, r, false, []⟩, call, nm⟩
def stV (k r : Int) (call : Bool) (nm : Int) : List Value := [.int .i64 k, .int .i32 r, .bool false, .slice none 0 0, .bool call, .int .i32 nm]
theorem stM_new1 (w : World) (t : TypeId) (k r : Int) (call : Bool) (nm : Int) (hn : (Lit.int .i32 nm).wf = true) : StM (w.alloc (.cells (stV k r call nm).toArray t)) (.slice (some ⟨w.heap.size, 0, none⟩) 1 1) [st0 k r call nm] := by
  refine ⟨[⟨k, r, false, none, 0, 0, call, nm⟩], ⟨_, 1, rfl, (Li.new encS_len w _ t (by simp [flatL, encS, stV])).mono fun _ _ => trivial, (fun h => by cases h), Nat.le_refl _, by decide⟩, rfl, fun j x hx => ?_⟩
  have hj : j = 0 := by have := (List.getElem?_eq_some_iff.1 hx).1; simp at this; omega
  subst hj
  obtain rfl := Option.some.inj hx
  exact ⟨_, rfl, rfl, rfl, rfl, rfl, rfl, hn, Txt.nil _, Nat.zero_le _⟩
theorem stM_new2 (w : World) (t : TypeId) (k r : Int) (call : Bool) (nm : Int) (k' r' : Int) (call' : Bool) (nm' : Int) (hn : (Lit.int .i32 nm).wf = true) (hn' : (Lit.int .i32 nm').wf = true) : StM (w.alloc (.cells (stV k r call nm ++ stV k' r' call' nm').toArray t)) (.slice (some ⟨w.heap.size, 0, none⟩) 2 2) [st0 k r call nm, st0 k' r' call' nm'] := by
  refine ⟨[⟨k, r, false, none, 0, 0, call, nm⟩, ⟨k', r', false, none, 0, 0, call', nm'⟩], ⟨_, 2, rfl, (Li.new encS_len w _ t (by simp [flatL, encS, stV])).mono fun _ _ => trivial, (fun h => by cases h), Nat.le_refl _, by decide⟩, rfl, fun j x hx => ?_⟩
  have hj : j = 0 ∨ j = 1 := by have := (List.getElem?_eq_some_iff.1 hx).1; simp at this; omega
  rcases hj with rfl | rfl
  · obtain rfl := Option.some.inj hx
    exact ⟨_, rfl, rfl, rfl, rfl, rfl, rfl, hn, Txt.nil _, Nat.zero_le _⟩
  · obtain rfl := Option.some.inj hx
    exact ⟨_, rfl, rfl, rfl, rfl, rfl, rfl, hn', Txt.nil _, Nat.zero_le _⟩
theorem kyV_new2 (w : World) (t : TypeId) (k r k' r' : Int) : KyV (w.alloc (.cells #[.int .i64 k, .int .i32 r, .bool false, .slice none 0 0, .int .i64 k', .int .i32 r', .bool false, .slice none 0 0] t)) (.slice (some ⟨w.heap.size, 0, none⟩) 2 2) [⟨k, r, false, []⟩, ⟨k', r', false, []⟩] := by
  refine ⟨[⟨k, r, false, none, 0, 0⟩, ⟨k', r', false, none, 0, 0⟩], ⟨_, 2, rfl, (Li.new encK_len w _ t (by simp [flatL, encK])).mono fun _ _ => trivial, (fun h => by cases h), Nat.le_refl _, by decide⟩, rfl, fun j x hx => ?_⟩
  have hj : j = 0 ∨ j = 1 := by have := (List.getElem?_eq_some_iff.1 hx).1; simp at this; omega
  rcases hj with rfl | rfl
  · obtain rfl := Option.some.inj hx
    exact ⟨_, rfl, rfl, rfl, rfl, Txt.nil _⟩
  · obtain rfl := Option.some.inj hx
    exact ⟨_, rfl, rfl, rfl, rfl, Txt.nil _⟩
end Go.Proofs.Ytgdfcojgifgjcaa
