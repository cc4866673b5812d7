/- ansi: the parts of Way: by, two lists joined, what it tries. -/
import Derived.Test.YtednedklkbjihaaDoorAnE
import Derived.Test.YtednedklkbjihaaDoorSkOq
import Derived.Test.YtednedklkbjihaaDoorChg
namespace Go.Proofs.YtednedklkbjihaaDoor
open Go.RowKit
set_option linter.unusedVariables false
set_option linter.unusedSimpArgs false

theorem encO_one : ∀ x : Ob, ∀ u ∈ encO x, u.oneCell' = true := by
  intro x u hu
  simp [encO] at hu
  rcases hu with rfl | rfl | rfl | rfl <;> rfl
theorem belAlloc (w : World) (o : Obj) : Below w.heap.size w (w.alloc o) := (Below.refl _ _).alloc (Nat.le_refl _) _
theorem belPush {w v : World} (h : Below w.heap.size w v) (o : Obj) : Below w.heap.size w (v.alloc o) := h.alloc h.size _
def byL (n up down : Int) : List Ob := if 0 < n then [⟨up, n, 0, ⟨#[]⟩⟩] else if n < 0 then [⟨down, -n, 0, ⟨#[]⟩⟩] else []
theorem op_newT (Y : World) (k a b : Int) (t : ByteArray) (ty : TypeId) (B : Nat) (hB : B = Y.heap.size) : LiV 4 encO (Y.alloc (.cells #[.int .i64 k, .int .i64 a, .int .i64 b, .string t] ty)) (fun b => Y.heap.size ≤ b) (.slice (some ⟨B, 0, none⟩) 1 1) [⟨k, a, b, t⟩] := by
  subst hB
  exact ⟨_, 1, rfl, Li.new encO_len Y _ ty (by simp [flatL, encO]), (fun h => by cases h), Nat.le_refl _, by decide⟩

set_option maxRecDepth 100000 in
set_option maxHeartbeats 2000000 in
theorem way_by (n up down : Int) (w : World) (n0 : -1000000 ≤ n) (n1 : n ≤ 1000000) : Calls Tryd.prog 44 #[.int .i64 n, .int .i64 up, .int .i64 down] w (TellsL 4 encO (byL n up down) w) := by
  by_cases h0 : 0 < n
  · have e : byL n up down = [⟨up, n, 0, ⟨#[]⟩⟩] := if_pos h0
    rw [e]
    have HN := Lib.hid (op_newT w up n 0 ⟨#[]⟩ 51 _ rfl)
    clear e
    go_enter Tryd.func44, Tryd.ntmps44
    go_wp2
    go_ret
    exact ⟨_, 1, 1, rfl, HN.out, belAlloc _ _⟩
  · by_cases h1 : n < 0
    · have e : byL n up down = [⟨down, -n, 0, ⟨#[]⟩⟩] := by rw [byL, if_neg h0, if_pos h1]
      rw [e]
      have HN := Lib.hid (op_newT w down (-n) 0 ⟨#[]⟩ 51 _ rfl)
      clear e
      go_enter Tryd.func44, Tryd.ntmps44
      go_wp2
      go_ret
      exact ⟨_, 1, 1, rfl, HN.out, belAlloc _ _⟩
    · have e : byL n up down = [] := by rw [byL, if_neg h0, if_neg h1]
      rw [e]
      clear e
      go_enter Tryd.func44, Tryd.ntmps44
      go_wp2
      go_ret
      exact ⟨_, 0, 0, rfl, LiV.nil _ _, Below.refl _ _⟩

theorem two_cells (Y : World) (u v : Value) (t : TypeId) : (Y.alloc (.cells #[u, v] t)).cell? ⟨Y.heap.size, 0 + 0, none⟩ = some u ∧ (Y.alloc (.cells #[u, v] t)).cell? ⟨Y.heap.size, 0 + 1, none⟩ = some v :=
  ⟨by rw [World.cell?_alloc_new]; rfl, by rw [World.cell?_alloc_new]; rfl⟩
theorem many_two {α : Type} {k : Nat} {enc : α → List Value} {w : World} {A A' : Option Addr} {n n' c c' : Nat} {L L' : List α} (h : LiV k enc w (fun _ => True) (.slice A n c) L) (h' : LiV k enc w (fun _ => True) (.slice A' n' c') L') :
    Many k enc w (fun j => if j = 0 then A else A') (fun j => if j = 0 then c else c') [L, L'] := by
  obtain ⟨rfl, _⟩ := h.parts
  obtain ⟨rfl, _⟩ := h'.parts
  refine ⟨fun j M hj => ?_⟩
  match j, hj with
  | 0, hj => simp at hj; subst hj; exact h
  | 1, hj => simp at hj; subst hj; exact h'
theorem catO (Y : World) (A1 A2 : Option Addr) (n1 c1 n2 c2 : Nat) (t : TypeId) (S : Nat → Prop) (L1 L2 : List Ob) (b : Nat) (hb : b = Y.heap.size) (h1 : LiV 4 encO Y S (.slice A1 n1 c1) L1) (h2 : LiV 4 encO Y S (.slice A2 n2 c2) L2) (hl : L1.length + L2.length ≤ 1000000) :
    Calls Tryd.prog 45 #[.slice (some ⟨b, 0, none⟩) 2 2] (Y.alloc (.cells #[.slice A1 n1 c1, .slice A2 n2 c2] t)) (TellsL 4 encO (L1 ++ L2) Y) := by
  subst hb
  have l1 := (h1.later (belAlloc Y (.cells #[.slice A1 n1 c1, .slice A2 n2 c2] t))).mono (S' := fun _ => True) fun _ _ => trivial
  have l2 := (h2.later (belAlloc Y (.cells #[.slice A1 n1 c1, .slice A2 n2 c2] t))).mono (S' := fun _ => True) fun _ _ => trivial
  have e1 := l1.parts.1
  have e2 := l2.parts.1
  have hc := two_cells Y (.slice A1 n1 c1) (.slice A2 n2 c2) t
  refine (oq_concat encO_len encO_one (some ⟨Y.heap.size, 0, none⟩) 2 (fun j => if j = 0 then A1 else A2) (fun j => if j = 0 then c1 else c2) [L1, L2] _ (by simp) ?_ (many_two l1 l2) (by simp; omega)).mono ?_
  · intro j M hj
    match j, hj with
    | 0, hj => simp at hj; subst hj; exact ⟨_, 0, rfl, by simp, by rw [← e1]; exact hc.1⟩
    | 1, hj => simp at hj; subst hj; exact ⟨_, 0, rfl, by simp, by rw [← e2]; exact hc.2⟩
  · rintro e w' ⟨A, n, c, rfl, ho, hb⟩
    have := LiV.own encO_len (by omega) ho
    simp only [List.flatten_cons, List.flatten_nil, List.append_nil] at this
    exact ⟨A, n, c, rfl, this.mono fun b hb => Nat.le_trans (by simp) hb, (belAlloc _ _).trans (hb.mono (by simp))⟩

/-- What was tried: the least size (below 0: none yet), the best. -/
structure Tri (w : World) (gl gb : Nat) (s : Int) (v : Value) (L : List Ob) (X : World) : Prop where
  below : Below w.heap.size w X
  l : Blk X gl #[.int .i64 s]
  b : Blk X gb #[v]
  ne : gl ≠ gb
  l0 : w.heap.size ≤ gl
  b0 : w.heap.size ≤ gb
  best : LiV 4 encO X (fun q => w.heap.size ≤ q ∧ q ≠ gl ∧ q ≠ gb) v L
theorem Tri.later {w X Y : World} {gl gb : Nat} {s : Int} {v : Value} {L : List Ob} (h : Tri w gl gb s v L X) (hb : Below X.heap.size X Y) : Tri w gl gb s v L Y :=
  ⟨h.below.trans (hb.mono h.below.size), h.l.later hb h.l.1, h.b.later hb h.b.1, h.ne, h.l0, h.b0, h.best.later hb⟩
theorem Tri.takes {w X : World} {gl gb : Nat} {s s' : Int} {v v' : Value} {L L' : List Ob} (h : Tri w gl gb s v L X) (h' : LiV 4 encO X (fun q => w.heap.size ≤ q ∧ q ≠ gl ∧ q ≠ gb) v' L') :
    Tri w gl gb s' v' L' ((X.setCell ⟨gb, 0, none⟩ v').setCell ⟨gl, 0, none⟩ (.int .i64 s')) := by
  have l1 := (h.l.far (p := ⟨gb, 0, none⟩) (fun e => h.ne e.symm) v').set_ 0 (by simp) (.int .i64 s')
  have b1 := (h.b.set_ 0 (by simp) v').far (p := ⟨gl, 0, none⟩) h.ne (.int .i64 s')
  refine ⟨?_, l1, b1, h.ne, h.l0, h.b0, (h'.far (p := ⟨gb, 0, none⟩) (fun q => q.2.2 rfl) _).far (p := ⟨gl, 0, none⟩) (fun q => q.2.1 rfl) _⟩
  exact (h.below.setCell h.b0 _).setCell h.l0 _
theorem tri_keeps {X : World} {gl gb : Nat} {u : Value} {u' : Value} {S : Nat → Prop} {v : Value} {L : List Ob} (h : LiV 4 encO X S v L) (hl : ¬ S gl) (hb : ¬ S gb) : LiV 4 encO ((X.setCell ⟨gb, 0, none⟩ u).setCell ⟨gl, 0, none⟩ u') S v L :=
  (h.far (p := ⟨gb, 0, none⟩) hb _).far (p := ⟨gl, 0, none⟩) hl _
end Go.Proofs.YtednedklkbjihaaDoor
