/- past: PastPlain, pure and rows apart. -/
import Derived.Test.YtmhjhndnbgabjaaPastT
namespace Go.Proofs.Ytmhjhndnbgabjaa
open Go.RowKit
set_option linter.unusedVariables false
set_option linter.unusedSimpArgs false

/-- Without !. -/
def plainL (t : List Int) : List Int := t.filter fun x => x ≠ 33
/-- Without \. -/
def wantL (t : List Int) : List Int := t.filter fun x => x ≠ 92
/-- Without \, and a \ ahead of each !. -/
def quoteL (t : List Int) : List Int := t.flatMap fun x => if x = 92 then [] else if x = 33 then [92, 33] else [x]

theorem expP_cons {x : Int} {t r : List Int} (h33 : x ≠ 33) (hq : x = 92 → t.head? ≠ some 33) (h : expP t = some r) : expP (x :: t) = some (x :: r) := by
  cases t with
  | nil =>
    unfold expP at h
    injection h with h
    subst h
    unfold expP
    rw [if_neg h33]
  | cons y t =>
    unfold expP
    rw [if_neg h33, if_neg (fun e => hq e.1 (by rw [e.2]; rfl)), h]
    rfl
theorem expP_plain : ∀ (l : List Int), (∀ x ∈ l, x ≠ 33) → expP l = some l
  | [], _ => by unfold expP; rfl
  | x :: t, h => expP_cons (h x (by simp)) (fun _ e => by
      cases t with
      | nil => cases e
      | cons y t =>
        injection e with e
        exact h y (by simp) e) (expP_plain t fun y hy => h y (by simp [hy]))
theorem exp_plain (t : List Int) : expP (plainL t) = some (plainL t) := expP_plain _ fun x hx => by simpa [plainL] using (List.mem_filter.1 hx).2
theorem exp_quote : ∀ t : List Int, expP (quoteL t) = some (wantL t)
  | [] => by unfold expP quoteL; rfl
  | x :: t => by
    have ih := exp_quote t
    by_cases h92 : x = 92
    · subst h92
      have e1 : quoteL (92 :: t) = quoteL t := by simp [quoteL]
      have e2 : wantL (92 :: t) = wantL t := by simp [wantL]
      rw [e1, e2]; exact ih
    · have e2 : wantL (x :: t) = x :: wantL t := by simp [wantL, h92]
      rw [e2]
      by_cases h33 : x = 33
      · subst h33
        have e1 : quoteL (33 :: t) = 92 :: 33 :: quoteL t := by simp [quoteL]
        rw [e1]
        unfold expP
        rw [if_neg (by decide), if_pos ⟨rfl, rfl⟩, ih]
        rfl
      · have e1 : quoteL (x :: t) = x :: quoteL t := by simp [quoteL, h92, h33]
        rw [e1]
        exact expP_cons h33 (fun e => absurd e h92) ih
theorem plain_snoc (t : List Int) (x : Int) : plainL (t ++ [x]) = plainL t ++ if x = 33 then [] else [x] := by
  by_cases h : x = 33 <;> simp [plainL, h]
theorem want_snoc (t : List Int) (x : Int) : wantL (t ++ [x]) = wantL t ++ if x = 92 then [] else [x] := by
  by_cases h : x = 92 <;> simp [wantL, h]
theorem quote_snoc (t : List Int) (x : Int) : quoteL (t ++ [x]) = quoteL t ++ if x = 92 then [] else if x = 33 then [92, 33] else [x] := by
  simp [quoteL]

/-- Two rows in blocks of their own. -/
def Apart (v u : Value) : Prop := ∀ g, v.ownBlock = some g → u.ownBlock ≠ some g
theorem Apart.symm {v u : Value} (h : Apart v u) : Apart u v := fun g e e' => h g e' e

/-- A row of scalars of the call's own. -/
structure Row (B : Nat) (v : Value) (n : Nat) (l : List Int) (X : World) : Prop where
  own : X.ownsRow B 21 1 v n (l.map (Value.int .i32))
  len : l.length = n
theorem row_nil (B : Nat) (X : World) : Row B (.slice none 0 0) 0 [] X := ⟨World.ownsRow_nil _ _ _ _, rfl⟩
theorem Row.push {B : Nat} {X Y : World} {v : Value} {n : Nat} {l : List Int} {x : Int} {A : Option Addr} {c : Nat} (h : Row B v n l X) (hp : Pushed X Y B 21 1 v (n + 1) (l.map (Value.int .i32) ++ [Value.int .i32 x]) A c) : Row B (.slice A (n + 1) c) (n + 1) (l ++ [x]) Y := ⟨by simpa using hp.own, by simp [h.len]⟩
theorem Row.other {B : Nat} {X Y : World} {v u : Value} {n m : Nat} {l : List Int} {xs : List Value} {A : Option Addr} {c : Nat} (h : Row B u m l X) (ha : Apart v u) (hp : Pushed X Y B 21 1 v n xs A c) : Row B u m l Y := by
  refine ⟨h.own.kept hp.grown ?_, h.len⟩
  cases e : u.ownBlock with
  | none => exact .inl rfl
  | some g => exact .inr fun e' => ha g e'.symm e
theorem Row.apart {B : Nat} {X Y : World} {v u : Value} {n m : Nat} {l : List Int} {xs : List Value} {A : Option Addr} {c : Nat} (h : Row B u m l X) (ha : Apart v u) (hp : Pushed X Y B 21 1 v n xs A c) : Apart (.slice A n c) u := by
  intro g e e'
  rcases hp.at_ with h1 | ⟨k, h1, hk⟩
  · exact ha g (h1 ▸ e) e'
  · rw [h1] at e
    injection e with e
    have := (h.own.lt g e').2
    omega
theorem Row.txt {B : Nat} {X : World} {A : Option Addr} {n c : Nat} {l : List Int} (h : Row B (.slice A n c) n l X) : Txt X (.slice A n c) l := TxtS.any (txt_own h.len h.own)

/-- What PastPlain's second loop keeps. -/
structure PL (X0 : World) (v1 v2 v3 : Value) (n1 n2 n3 : Nat) (l1 l2 l3 : List Int) (X : World) : Prop where
  r1 : Row X0.heap.size v1 n1 l1 X
  r2 : Row X0.heap.size v2 n2 l2 X
  r3 : Row X0.heap.size v3 n3 l3 X
  a12 : Apart v1 v2
  a13 : Apart v1 v3
  a23 : Apart v2 v3
  below : Below X0.heap.size X0 X
section
variable {X0 X Y : World} {v1 v2 v3 : Value} {n1 n2 n3 c : Nat} {l1 l2 l3 : List Int} {x : Int} {A : Option Addr}
theorem PL.size (h : PL X0 v1 v2 v3 n1 n2 n3 l1 l2 l3 X) : X0.heap.size ≤ X.heap.size := h.below.size
theorem PL.push1 (h : PL X0 v1 v2 v3 n1 n2 n3 l1 l2 l3 X) (hp : Pushed X Y X0.heap.size 21 1 v1 (n1 + 1) (l1.map (Value.int .i32) ++ [Value.int .i32 x]) A c) : PL X0 (.slice A (n1 + 1) c) v2 v3 (n1 + 1) n2 n3 (l1 ++ [x]) l2 l3 Y :=
  ⟨h.r1.push hp, h.r2.other h.a12 hp, h.r3.other h.a13 hp, h.r2.apart h.a12 hp, h.r3.apart h.a13 hp, h.a23, hp.below h.below h.r1.own (Nat.le_refl _)⟩
theorem PL.push2 (h : PL X0 v1 v2 v3 n1 n2 n3 l1 l2 l3 X) (hp : Pushed X Y X0.heap.size 21 1 v2 (n2 + 1) (l2.map (Value.int .i32) ++ [Value.int .i32 x]) A c) : PL X0 v1 (.slice A (n2 + 1) c) v3 n1 (n2 + 1) n3 l1 (l2 ++ [x]) l3 Y :=
  ⟨h.r1.other h.a12.symm hp, h.r2.push hp, h.r3.other h.a23 hp, (h.r1.apart h.a12.symm hp).symm, h.a13, h.r3.apart h.a23 hp, hp.below h.below h.r2.own (Nat.le_refl _)⟩
theorem PL.push3 (h : PL X0 v1 v2 v3 n1 n2 n3 l1 l2 l3 X) (hp : Pushed X Y X0.heap.size 21 1 v3 (n3 + 1) (l3.map (Value.int .i32) ++ [Value.int .i32 x]) A c) : PL X0 v1 v2 (.slice A (n3 + 1) c) n1 n2 (n3 + 1) l1 l2 (l3 ++ [x]) Y :=
  ⟨h.r1.other h.a13.symm hp, h.r2.other h.a23.symm hp, h.r3.push hp, h.a12, (h.r1.apart h.a13.symm hp).symm, (h.r2.apart h.a23.symm hp).symm, hp.below h.below h.r3.own (Nat.le_refl _)⟩
end
theorem pl_nil (X : World) : PL X (.slice none 0 0) (.slice none 0 0) (.slice none 0 0) 0 0 0 [] [] [] X :=
  ⟨row_nil _ _, row_nil _ _, row_nil _ _, fun g e => (by cases e), fun g e => (by cases e), fun g e => (by cases e), Below.refl _ _⟩
end Go.Proofs.Ytmhjhndnbgabjaa
