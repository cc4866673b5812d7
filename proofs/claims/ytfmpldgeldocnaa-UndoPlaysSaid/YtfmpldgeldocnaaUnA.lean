/- undo: edits, groups and stacks as they stand in memory. -/
import Derived.Test.YtfmpldgeldocnaaSh2
import Derived.Test.YtfmpldgeldocnaaSkEdit
import Derived.Test.YtfmpldgeldocnaaSkGroup
namespace Go.Proofs.Ytfmpldgeldocnaa
open Go.RowKit
set_option linter.unusedVariables false
set_option linter.unusedSimpArgs false

/-- Two lists, element by element. -/
def Both {α β : Type} (R : α → β → Prop) (H : List α) (L : List β) : Prop := H.length = L.length ∧ ∀ (j : Nat) (h : α) (e : β), H[j]? = some h → L[j]? = some e → R h e
section
variable {α β : Type} {R R' : α → β → Prop} {H : List α} {L : List β}
theorem Both.nil : Both R ([] : List α) ([] : List β) := ⟨rfl, fun j h e h1 => by simp at h1⟩
theorem Both.imp (h : Both R H L) (f : ∀ x y, R x y → R' x y) : Both R' H L := ⟨h.1, fun j x y h1 h2 => f x y (h.2 j x y h1 h2)⟩
theorem Both.append {H' : List α} {L' : List β} (h : Both R H L) (h' : Both R H' L') : Both R (H ++ H') (L ++ L') := by
  refine ⟨by simp [h.1, h'.1], fun j x y h1 h2 => ?_⟩
  have hl := h.1
  rcases Nat.lt_or_ge j H.length with hj | hj
  · rw [List.getElem?_append_left hj] at h1
    rw [List.getElem?_append_left (by omega)] at h2
    exact h.2 j x y h1 h2
  · rw [List.getElem?_append_right hj] at h1
    rw [List.getElem?_append_right (by omega), ← hl] at h2
    exact h'.2 _ x y h1 h2
theorem Both.one {x : α} {y : β} (h : R x y) : Both R [x] [y] := by
  refine ⟨rfl, fun j a b h1 h2 => ?_⟩
  cases j with
  | zero => simp at h1 h2; subst h1; subst h2; exact h
  | succ j => simp at h1
theorem Both.take (h : Both R H L) (n : Nat) : Both R (H.take n) (L.take n) := by
  refine ⟨by simp [h.1], fun j x y h1 h2 => ?_⟩
  rw [List.getElem?_take] at h1 h2
  split at h1
  · rw [if_pos (by assumption)] at h2
    exact h.2 j x y h1 h2
  · cases h1
theorem Both.drop (h : Both R H L) (n : Nat) : Both R (H.drop n) (L.drop n) := by
  refine ⟨by simp [h.1], fun j x y h1 h2 => ?_⟩
  rw [List.getElem?_drop] at h1 h2
  exact h.2 _ x y h1 h2
theorem Both.get (h : Both R H L) {j : Nat} {y : β} (hj : L[j]? = some y) : ∃ x, H[j]? = some x ∧ R x y := by
  have hl := h.1
  obtain ⟨hlt, _⟩ := List.getElem?_eq_some_iff.1 hj
  exact ⟨H[j]'(by omega), List.getElem?_eq_getElem _, h.2 j _ _ (List.getElem?_eq_getElem _) hj⟩
end

structure EdH where
  at_ : Int
  A : Option Addr
  n : Nat
  c : Nat
  B : Option Addr
  m : Nat
  d : Nat
def encE (h : EdH) : List Value := [.int .i64 h.at_, .slice h.A h.n h.c, .slice h.B h.m h.d]
theorem encE_len (h : EdH) : (encE h).length = 3 := rfl
theorem encE_one (h : EdH) : ∀ u ∈ encE h, u.oneCell' = true := by
  intro u hu
  simp only [encE, List.mem_cons, List.mem_nil_iff, or_false] at hu
  rcases hu with rfl | rfl | rfl <;> rfl
structure AE where
  at_ : Int
  old : List Int
  new : List Int
structure AG where
  eds : List AE
  cur : Int
def EdIs (w : World) (h : EdH) (e : AE) : Prop := h.at_ = e.at_ ∧ Txt w (.slice h.A h.n h.c) e.old ∧ Txt w (.slice h.B h.m h.d) e.new
structure GrH where
  E : Option Addr
  n : Nat
  c : Nat
  cur : Int
def encG (g : GrH) : List Value := [.slice g.E g.n g.c, .int .i64 g.cur]
theorem encG_len (h : GrH) : (encG h).length = 2 := rfl
theorem encG_one (h : GrH) : ∀ u ∈ encG h, u.oneCell' = true := by
  intro u hu
  simp only [encG, List.mem_cons, List.mem_nil_iff, or_false] at hu
  rcases hu with rfl | rfl <;> rfl
/-- A slice of edits. -/
def Eds (w : World) (v : Value) (L : List AE) : Prop := ∃ H : List EdH, LiV 3 encE w (fun _ => True) v H ∧ Both (EdIs w) H L
def GrIs (w : World) (g : GrH) (a : AG) : Prop := g.cur = a.cur ∧ Eds w (.slice g.E g.n g.c) a.eds
/-- A slice of groups. -/
def Stk (w : World) (v : Value) (S : List AG) : Prop := ∃ H : List GrH, LiV 2 encG w (fun _ => True) v H ∧ Both (GrIs w) H S

section
variable {w w' : World}
theorem EdIs.later {h : EdH} {e : AE} (k : EdIs w h e) (hb : Below w.heap.size w w') : EdIs w' h e := ⟨k.1, k.2.1.later hb, k.2.2.later hb⟩
theorem Eds.later {v : Value} {L : List AE} (k : Eds w v L) (hb : Below w.heap.size w w') : Eds w' v L := by
  obtain ⟨H, h1, h2⟩ := k
  exact ⟨H, h1.later hb, h2.imp fun x y k => k.later hb⟩
theorem GrIs.later {g : GrH} {a : AG} (k : GrIs w g a) (hb : Below w.heap.size w w') : GrIs w' g a := ⟨k.1, k.2.later hb⟩
theorem Stk.later {v : Value} {S : List AG} (k : Stk w v S) (hb : Below w.heap.size w w') : Stk w' v S := by
  obtain ⟨H, h1, h2⟩ := k
  exact ⟨H, h1.later hb, h2.imp fun x y k => k.later hb⟩
theorem Stk.nil (w : World) : Stk w (.slice none 0 0) [] := ⟨[], LiV.nil _ _, Both.nil⟩
theorem Eds.nil (w : World) : Eds w (.slice none 0 0) [] := ⟨[], LiV.nil _ _, Both.nil⟩
theorem Stk.is {v : Value} {S : List AG} (k : Stk w v S) : ∃ A c, v = .slice A S.length c ∧ S.length ≤ c ∧ c ≤ 9223372036854775807 := by
  obtain ⟨H, h1, h2⟩ := k
  have := h1.is
  rwa [h2.1] at this
theorem Eds.is {v : Value} {S : List AE} (k : Eds w v S) : ∃ A c, v = .slice A S.length c ∧ S.length ≤ c ∧ c ≤ 9223372036854775807 := by
  obtain ⟨H, h1, h2⟩ := k
  have := h1.is
  rwa [h2.1] at this
theorem Stk.take {A : Option Addr} {n c : Nat} {S : List AG} (k : Stk w (.slice A n c) S) (m : Nat) (hm : m ≤ S.length) : Stk w (.slice A m c) (S.take m) := by
  obtain ⟨H, h1, h2⟩ := k
  exact ⟨H.take m, h1.take m (by rw [h2.1]; exact hm), h2.take m⟩
end

/-- Without the first ones. -/
theorem LiV.cut {α : Type} {enc : α → List Value} {k : Nat} {w : World} {S : Nat → Prop} {A : Option Addr} {n c : Nat} {L : List α} (h : LiV k enc w S (.slice A n c) L) (m : Nat) (hm : m ≤ L.length) :
    LiV k enc w S (.slice (if c = m then A else Option.map (fun x => x.add (m * k)) A) (n - m) (c - m)) (L.drop m) := by
  obtain ⟨rfl, hl, h1, h2, h3⟩ := h.parts
  have hlen : (L.drop m).length = L.length - m := by simp
  refine ⟨_, c - m, by rw [hlen], ?_, ?_, by omega, by unfold maxLen; omega⟩
  · by_cases hc : c = m
    · rw [if_pos hc, List.drop_eq_nil_of_le (by omega)]
      exact Li.nil _ _ _
    · rw [if_neg hc]
      rcases A with _ | ⟨b, o, r⟩
      · have := h1 rfl
        omega
      · rcases Nat.lt_or_ge m L.length with hlt | hge
        · obtain ⟨b', o', e, _⟩ := hl.at hlt
          injection e with e
          injection e with e1 e2 e3
          subst e1; subst e2; subst e3
          simp only [Option.map_some, Go.WideShapes.add_plain]
          exact hl.drop m
        · rw [List.drop_eq_nil_of_le (by omega)]
          exact Li.nil _ _ _
  · intro e
    by_cases hc : c = m
    · rw [if_pos hc] at e
      have := h1 e
      omega
    · rw [if_neg hc] at e
      cases A with
      | none => have := h1 rfl; omega
      | some q => cases e
theorem Stk.cut {w : World} {A : Option Addr} {n c : Nat} {S : List AG} (k : Stk w (.slice A n c) S) (m : Nat) (hm : m ≤ S.length) : Stk w (.slice (if c = m then A else Option.map (fun x => x.add (m * 2)) A) (n - m) (c - m)) (S.drop m) := by
  obtain ⟨H, h1, h2⟩ := k
  exact ⟨H.drop m, h1.cut m (by rw [h2.1]; exact hm), h2.drop m⟩

/-- Two lists in a block of two slices. -/
theorem many_two {α : Type} {k : Nat} {enc : α → List Value} {w : World} {A A' : Option Addr} {n n' c c' : Nat} {L L' : List α} (h : LiV k enc w (fun _ => True) (.slice A n c) L) (h' : LiV k enc w (fun _ => True) (.slice A' n' c') L') :
    Many k enc w (fun j => if j = 0 then A else A') (fun j => if j = 0 then c else c') [L, L'] := by
  obtain ⟨rfl, _⟩ := h.parts
  obtain ⟨rfl, _⟩ := h'.parts
  refine ⟨fun j M hj => ?_⟩
  match j, hj with
  | 0, hj => simp at hj; subst hj; exact h
  | 1, hj => simp at hj; subst hj; exact h'
/-- Groups that are told, or one. -/
def TellsS (S : List AG) (w : World) (e : Ending) (w' : World) : Prop := ∃ A n c, e = .returned (.agg #[.slice A n c]) ∧ Stk w' (.slice A n c) S ∧ Below w.heap.size w w'
end Go.Proofs.Ytfmpldgeldocnaa
