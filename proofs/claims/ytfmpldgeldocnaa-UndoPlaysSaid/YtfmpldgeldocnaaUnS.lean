/- undo: what a block's shape tells: a store into one that holds no scalar, and is too short for an element, turns no text and no list. -/
import Derived.Test.YtfmpldgeldocnaaUnA
namespace Go.Proofs.Ytfmpldgeldocnaa
open Go.RowKit
set_option linter.unusedVariables false
set_option linter.unusedSimpArgs false

def NoTxt (cs : Array Value) : Prop := ∀ (j : Nat) (x : Int), cs[j]? ≠ some (.int .i32 x)
theorem noTxt_of (cs : Array Value) (h : ∀ u ∈ cs, ∀ x : Int, u ≠ .int .i32 x) : NoTxt cs := fun j x e => h _ (Array.mem_of_getElem? e) x rfl

section
variable {w : World} {g : Nat} {cs : Array Value}
theorem Txt.shape {v : Value} {l : List Int} (h : Txt w v l) (hB : Blk w g cs) (hn : NoTxt cs) (i : Nat) (u : Value) : Txt (w.setCell ⟨g, i, none⟩ u) v l := by
  obtain ⟨A, c, e, hr, h0, h1, h2, _⟩ := h
  have h' : Sl w (fun b => b ≠ g) v l.length (liR l) := by
    refine ⟨A, c, e, hr, h0, h1, h2, fun a ha hl he => ?_⟩
    obtain ⟨b, o, e1, _, hc⟩ := hr 0 hl
    rw [ha] at e1
    injection e1 with e1
    subst e1
    simp only at he
    subst he
    rw [hB.2.1] at hc
    exact hn _ _ hc
  exact Sl.mono (h'.far (p := ⟨g, i, none⟩) (fun h => h rfl) u) fun _ _ => trivial
theorem LiV.shape {α : Type} {enc : α → List Value} {k : Nat} {v : Value} {L : List α} (h : LiV k enc w (fun _ => True) v L) (hk : ∀ x, (enc x).length = k) (hk0 : 0 < k) (hB : Blk w g cs) (hs : cs.size < k) (i : Nat) (u : Value) :
    LiV k enc (w.setCell ⟨g, i, none⟩ u) (fun _ => True) v L := by
  obtain ⟨A, c, e, hl, hx⟩ := h
  have h' : LiV k enc w (fun b => b ≠ g) v L := by
    refine ⟨A, c, e, fun j x hj => ?_, hx⟩
    obtain ⟨b, o, e1, hb, _, hc⟩ := hl j x hj
    refine ⟨b, o, e1, hb, fun he => ?_, hc⟩
    subst he
    have := hc (k - 1) ((enc x)[k - 1]'(by rw [hk]; omega)) (List.getElem?_eq_getElem _)
    rw [hB.2.1] at this
    obtain ⟨hlt, _⟩ := Array.getElem?_eq_some_iff.1 this
    omega
  exact (h'.far (p := ⟨g, i, none⟩) (fun h => h rfl) u).mono fun _ _ => trivial
theorem EdIs.shape {h : EdH} {e : AE} (k : EdIs w h e) (hB : Blk w g cs) (hn : NoTxt cs) (i : Nat) (u : Value) : EdIs (w.setCell ⟨g, i, none⟩ u) h e :=
  ⟨k.1, k.2.1.shape hB hn i u, k.2.2.shape hB hn i u⟩
theorem Eds.shape {v : Value} {L : List AE} (k : Eds w v L) (hB : Blk w g cs) (hn : NoTxt cs) (hs : cs.size < 3) (i : Nat) (u : Value) : Eds (w.setCell ⟨g, i, none⟩ u) v L := by
  obtain ⟨H, h1, h2⟩ := k
  exact ⟨H, h1.shape encE_len (by omega) hB hs i u, h2.imp fun x y k => k.shape hB hn i u⟩
theorem GrIs.shape {h : GrH} {a : AG} (k : GrIs w h a) (hB : Blk w g cs) (hn : NoTxt cs) (hs : cs.size < 3) (i : Nat) (u : Value) : GrIs (w.setCell ⟨g, i, none⟩ u) h a :=
  ⟨k.1, k.2.shape hB hn hs i u⟩
theorem Stk.shape {v : Value} {S : List AG} (k : Stk w v S) (hB : Blk w g cs) (hn : NoTxt cs) (hs : cs.size < 2) (i : Nat) (u : Value) : Stk (w.setCell ⟨g, i, none⟩ u) v S := by
  obtain ⟨H, h1, h2⟩ := k
  exact ⟨H, h1.shape encG_len (by omega) hB hs i u, h2.imp fun x y k => k.shape hB hn (by omega) i u⟩
end
theorem noTxt_slice (A : Option Addr) (n c : Nat) : NoTxt #[.slice A n c] := noTxt_of _ (by simp)
theorem noTxt_group (A : Option Addr) (n c : Nat) (x : Int) : NoTxt #[.slice A n c, .int .i64 x] := noTxt_of _ (by simp)
theorem noTxt_bool (b : Bool) : NoTxt #[.bool b] := noTxt_of _ (by simp)
theorem noTxt_int (x : Int) : NoTxt #[.int .i64 x] := noTxt_of _ (by simp)

/-- A stack that has been stored into a cell of its own. -/
structure StoredS (w : World) (g : Nat) (a : Value) (S : List AG) (X : World) : Prop where
  c0 : X.cell? ⟨g, 0, none⟩ = some a
  st : Stk X a S
  below : Below w.heap.size w X
theorem storedS {w v : World} {g : Nat} {a : Value} {A : Option Addr} {n c : Nat} {S : List AG} (hB : Blk v g #[.slice A n c]) (hb : Below w.heap.size w v) (hg : w.heap.size ≤ g) (ht : Stk v a S) : StoredS w g a S (v.setCell ⟨g, 0, none⟩ a) :=
  ⟨(hB.set_ 0 (by simp) a).2.1 0, ht.shape hB (noTxt_slice _ _ _) (by simp) 0 a, hb.setCell (p := ⟨g, 0, none⟩) hg _⟩
end Go.Proofs.Ytfmpldgeldocnaa
