/- past: Expand, where nothing is named. -/
import Derived.Test.YtmhjhndnbgabjaaPastF
namespace Go.Proofs.Ytmhjhndnbgabjaa
open Go.RowKit
set_option linter.unusedVariables false
set_option linter.unusedSimpArgs false

/-- A text in which each ! has a \ ahead, without these; none, where a ! stands bare. -/
def expP : List Int → Option (List Int)
  | [] => some []
  | [x] => if x = 33 then none else some [x]
  | x :: y :: t => if x = 33 then none else if x = 92 ∧ y = 33 then (expP t).map (33 :: ·) else (expP (y :: t)).map (x :: ·)

theorem expP_one {x : Int} {t r : List Int} (h : expP (x :: t) = some r) (hq : ¬ (x = 92 ∧ t.head? = some 33)) : x ≠ 33 ∧ ∃ r', expP t = some r' ∧ r = x :: r' := by
  cases t with
  | nil =>
    unfold expP at h
    split at h
    · cases h
    · injection h with h; exact ⟨by assumption, [], rfl, h.symm⟩
  | cons y t =>
    unfold expP at h
    split at h
    · cases h
    · rw [if_neg (fun e => hq ⟨e.1, by rw [e.2]; rfl⟩)] at h
      cases e : expP (y :: t) with
      | none => rw [e] at h; cases h
      | some r' => rw [e] at h; injection h with h; exact ⟨by assumption, r', rfl, h.symm⟩
theorem expP_two {t r : List Int} (h : expP (92 :: 33 :: t) = some r) : ∃ r', expP t = some r' ∧ r = 33 :: r' := by
  unfold expP at h
  rw [if_neg (by decide), if_pos ⟨rfl, rfl⟩] at h
  cases e : expP t with
  | none => rw [e] at h; cases h
  | some r' => rw [e] at h; injection h with h; exact ⟨r', rfl, h.symm⟩

/-- What holds at the head of Expand's round. -/
structure EX (w : World) (l r : List Int) (a n : Nat) (done : List Int) (v : Value) (X : World) : Prop where
  own : X.ownsRow (w.heap.size + 1) 21 1 v n (done.map (Value.int .i32))
  len : done.length = n
  rest : ∃ rest, expP (l.drop a) = some rest ∧ done ++ rest = r
  below : Below w.heap.size w X
  size : w.heap.size + 1 ≤ X.heap.size

theorem EX.push {w X Y : World} {l r done : List Int} {a a' n : Nat} {v : Value} {A : Option Addr} {c : Nat} {x : Int} (h : EX w l r a n done v X) (hp : Pushed X Y (w.heap.size + 1) 21 1 v (n + 1) (done.map (Value.int .i32) ++ [Value.int .i32 x]) A c)
    (hr : ∃ r', expP (l.drop a') = some r' ∧ ∀ rest, expP (l.drop a) = some rest → rest = x :: r') : EX w l r a' (n + 1) (done ++ [x]) (.slice A (n + 1) c) Y := by
  obtain ⟨rest, h1, h2⟩ := h.rest
  obtain ⟨r', h3, h4⟩ := hr
  refine ⟨by simpa using hp.own, by simp [h.len], ⟨r', h3, ?_⟩, hp.below h.below h.own (by omega), Nat.le_trans h.size hp.grown.size⟩
  rw [List.append_assoc, List.singleton_append, ← h4 rest h1]
  exact h2
end Go.Proofs.Ytmhjhndnbgabjaa
