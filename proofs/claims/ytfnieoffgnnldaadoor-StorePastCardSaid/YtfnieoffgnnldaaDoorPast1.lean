/- past: two slices one behind the other. -/
import Derived.Test.YtfnieoffgnnldaaDoorClonep
import Derived.Test.YtfnieoffgnnldaaDoorSlT
namespace Go.Proofs.YtfnieoffgnnldaaDoor
open Go.RowKit
set_option linter.unusedVariables false
set_option linter.unusedSimpArgs false

/-- A slice of texts that is told, lying in S or in new memory. -/
def TellsTs (L : List (List Int)) (S : Nat → Prop) (w : World) (e : Ending) (w' : World) : Prop := ∃ A n c, e = .returned (.slice A n c) ∧ TxtsS w' (fun b => w.heap.size ≤ b ∨ S b) (.slice A n c) L ∧ Below w.heap.size w w'

/-- Two values, by the place. -/
def two (a b : Value) (j : Nat) : Value := if j = 0 then a else b

theorem concatT2 (B : Option Addr) (d n1 c1 n2 c2 : Nat) (A1 A2 : Option Addr) (L1 L2 : List (List Int)) (S : Nat → Prop) (w : World) (hB : Rd w B 2 (two (.slice A1 n1 c1) (.slice A2 n2 c2))) (h1 : TxtsS w S (.slice A1 n1 c1) L1) (h2 : TxtsS w S (.slice A2 n2 c2) L2) (hl : L1.length + L2.length ≤ 1000000) :
    Calls Tryd.prog 50 #[.slice B 2 d] w (TellsTs (L1 ++ L2) S w) := by
  obtain ⟨f1, s1, t1⟩ := h1
  obtain ⟨f2, s2, t2⟩ := h2
  obtain ⟨rfl, r1, z1, p1, q1⟩ := s1.parts
  obtain ⟨rfl, r2, z2, p2, q2⟩ := s2.parts
  have hm : slTMany w 2 (fun j => if j = 0 then A1 else A2) (fun j => if j = 0 then L1.length else L2.length) (fun j => if j = 0 then c1 else c2) (fun j i => if j = 0 then (if i < L1.length then f1 i else .nilIface) else (if i < L2.length then f2 i else .nilIface)) := by
    refine ⟨fun j hj => ?_, fun j hj => ?_, fun j i => ?_⟩
    · obtain rfl | rfl : j = 0 ∨ j = 1 := by omega
      · exact r1.congr fun i hi => by simp [hi]
      · exact r2.congr fun i hi => by simp [hi]
    · obtain rfl | rfl : j = 0 ∨ j = 1 := by omega
      · exact z1
      · exact z2
    · by_cases hj : j = 0
      · by_cases hi : i < L1.length
        · simp only [hj, if_true, hi]; exact (t1 i hi).one
        · simp only [hj, if_true, hi, if_false]; rfl
      · by_cases hi : i < L2.length
        · simp only [hj, if_false, hi, if_true]; exact (t2 i hi).one
        · simp only [hj, hi, if_false]; rfl
  refine (slT_concat B 2 d _ _ _ _ w (by omega) (hB.congr fun j hj => ?_) hm ?_).mono fun e w' h => ?_
  · obtain rfl | rfl : j = 0 ∨ j = 1 := by omega
    · rfl
    · rfl
  · show 0 + L1.length + L2.length ≤ _
    omega
  · obtain ⟨A, c, he, hown, hb⟩ := h
    refine ⟨_, _, _, he, txts_own (base := w.heap.size) (by simp [sumTo]) hown (fun b hb => .inl hb) ?_, hb⟩
    intro j hj
    simp only [sumTo, if_pos, show ¬ (1 = 0) by omega, if_false, Nat.zero_add] at hj
    by_cases hlt : j < L1.length
    · refine ⟨f1 j, ?_, ?_⟩
      · simp [catTo, List.getElem?_append, hlt]
      · have := ((t1 j hlt).later hb)
        rw [show (L1 ++ L2).getD j [] = L1.getD j [] by simp [List.getD, List.getElem?_append, hlt]]
        exact Sl.mono this fun b hb => .inr hb
    · obtain ⟨i, rfl⟩ := Nat.le.dest (Nat.le_of_not_lt hlt)
      have hi : i < L2.length := by omega
      refine ⟨f2 i, ?_, ?_⟩
      · simp [catTo, List.getElem?_append, hi]
      · have := (t2 i hi).later hb
        rw [show (L1 ++ L2).getD (L1.length + i) [] = L2.getD i [] by simp [List.getD, List.getElem?_append, hlt]]
        exact Sl.mono this fun b hb => .inr hb

theorem two_new (w : World) (a b : Value) (t : TypeId) : Rd (w.alloc (.cells #[a, b] t)) (some ⟨w.heap.size, 0, none⟩) 2 (two a b) :=
  rd_new w _ t 2 _ fun j hj => by
    obtain rfl | rfl : j = 0 ∨ j = 1 := by omega
    · rfl
    · rfl

theorem two_new1 (w : World) (a b : Value) (o : Obj) (t : TypeId) : Rd ((w.alloc o).alloc (.cells #[a, b] t)) (some ⟨w.heap.size + 1, 0, none⟩) 2 (two a b) := by
  have h := two_new (w.alloc o) a b t
  rw [World.size_alloc] at h
  exact h

/-- One text, as a slice of texts. -/
theorem txts_one {w : World} {v : Value} {l : List Int} {S : Nat → Prop} (t : TypeId) (h : TxtS w S v l) (hS : S w.heap.size) : TxtsS (w.alloc (.cells #[v] t)) S (.slice (some ⟨w.heap.size, 0, none⟩) 1 1) [l] := by
  refine ⟨fun _ => v, ⟨_, _, rfl, rd_new w _ t 1 _ fun j hj => ?_, (fun e => by cases e), Nat.le_refl _, by decide, fun a ha _ => ?_⟩, fun j hj => ?_⟩
  · obtain rfl : j = 0 := by omega
    rfl
  · injection ha with ha
    subst ha
    exact hS
  · simp at hj
    subst hj
    exact h.later ((Below.refl _ _).alloc (Nat.le_refl _) _)

theorem below_two (w : World) (a b : Obj) : Below w.heap.size w ((w.alloc a).alloc b) := ((Below.refl _ _).alloc (Nat.le_refl _) _).alloc (by simp [World.size_alloc]) _

theorem two_laterP {w w' : World} {a b : Array Value} {s t : TypeId} (hb : Below ((w.alloc (.cells a s)).alloc (.cells b t)).heap.size ((w.alloc (.cells a s)).alloc (.cells b t)) w') :
    (w.heap.size < w'.heap.size ∧ w.heap.size + 1 < w'.heap.size) ∧ Blk w' w.heap.size a ∧ Blk w' (w.heap.size + 1) b ∧ Below w.heap.size w w' := by
  have h1 := (blk_new w a s).alloc (.cells b t)
  have h2 := blk_new (w.alloc (.cells a s)) b t
  rw [World.size_alloc] at h2
  have k1 := h1.later hb h1.1
  have k2 := h2.later hb h2.1
  exact ⟨⟨k1.1, k2.1⟩, k1, k2, (below_two w _ _).trans (hb.mono (below_two w _ _).size)⟩

/-- Blocks of S, or new ones. -/
def New (w : World) (S : Nat → Prop) (b : Nat) : Prop := w.heap.size ≤ b ∨ S b

/-- What is known when a ring has been stored as the result. -/
structure Stored (w : World) (S : Nat → Prop) (g : Nat) (a b : Value) (L : List (List Int)) (X : World) : Prop where
  c0 : X.cell? ⟨g, 0, none⟩ = some a
  c1 : X.cell? ⟨g, 1, none⟩ = some b
  ts : TxtsS X (New w S) a L
  below : Below w.heap.size w X

/-- Old blocks of S, or those behind two new ones. -/
def Out2 (w : World) (S : Nat → Prop) (b : Nat) : Prop := (b < w.heap.size ∧ S b) ∨ w.heap.size + 2 ≤ b
theorem Out2.new {w : World} {S : Nat → Prop} {b : Nat} (h : Out2 w S b) : New w S b := h.elim (fun h => .inr h.2) (fun h => .inl (by omega))
theorem not_out2 {w : World} {S : Nat → Prop} : ¬ Out2 w S (w.heap.size + 1) := fun h => by rcases h with h | h <;> omega

theorem stored_of {w v : World} {a b c d : Value} {L : List (List Int)} {S : Nat → Prop} (hB : Blk v (w.heap.size + 1) #[c, d]) (hb : Below w.heap.size w v) (ht : TxtsS v (Out2 w S) a L) :
    Stored w S (w.heap.size + 1) a b L ((v.setCell ⟨w.heap.size + 1, 0, none⟩ a).setCell ⟨w.heap.size + 1, 1, none⟩ b) := by
  have h := (hB.set_ 0 (by simp) a).set_ 1 (by simp) b
  refine ⟨h.2.1 0, h.2.1 1, ?_, (hb.setCell (p := ⟨w.heap.size + 1, 0, none⟩) (Nat.le_succ _) _).setCell (p := ⟨w.heap.size + 1, 1, none⟩) (Nat.le_succ _) _⟩
  exact ((ht.far (p := ⟨w.heap.size + 1, 0, none⟩) not_out2 a).far (p := ⟨w.heap.size + 1, 1, none⟩) not_out2 b).mono fun _ => Out2.new

theorem stored_new (w : World) (o : Obj) (a b : Value) (t : TypeId) (S : Nat → Prop) (L : List (List Int)) (ht : TxtsS w S a L) : Stored w S (w.heap.size + 1) a b L ((w.alloc o).alloc (.cells #[a, b] t)) := by
  have h := blk_new (w.alloc o) #[a, b] t
  rw [World.size_alloc] at h
  exact ⟨h.2.1 0, h.2.1 1, (ht.later (below_two w _ _)).mono fun _ => .inr, below_two w _ _⟩
theorem Stored.drew {w X : World} {S : Nat → Prop} {g : Nat} {a b : Value} {L : List (List Int)} (h : Stored w S g a b L X) : Stored w S g a b L X.drew := ⟨h.c0, h.c1, h.ts.later (Below.refl _ _).drew, h.below.drew⟩

end Go.Proofs.YtfnieoffgnnldaaDoor
