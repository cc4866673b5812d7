/- macro: steps in memory; stepsCopy. -/
import Derived.Test.YtgdfcojgifgjcaaMcA
import Derived.Test.YtgdfcojgifgjcaaSkStp
namespace Go.Proofs.Ytgdfcojgifgjcaa
open Go.RowKit
set_option linter.unusedVariables false
set_option linter.unusedSimpArgs false
set_option maxRecDepth 100000

/-- A step, as it lies in memory. -/
structure Sp where
  k : Int
  r : Int
  m : Bool
  A : Option Addr
  n : Nat
  c : Nat
  call : Bool
  nm : Int
def encS (x : Sp) : List Value := [.int .i64 x.k, .int .i32 x.r, .bool x.m, .slice x.A x.n x.c, .bool x.call, .int .i32 x.nm]
theorem encS_len (x : Sp) : (encS x).length = 6 := rfl
theorem encS_one : ∀ x : Sp, ∀ u ∈ encS x, u.oneCell' = true := by
  intro x u hu
  simp [encS] at hu
  rcases hu with rfl | rfl | rfl | rfl | rfl | rfl <;> rfl
/-- Cells hold steps. -/
def Lay (cs : Array Value) (H : List Sp) : Prop := ∀ j x, H[j]? = some x → ∀ (i : Nat) (u : Value), (encS x)[i]? = some u → cs[j * 6 + i]? = some u
def putKey (cs : Array Value) (o : Nat) (x : Sp) : Array Value := (((cs.setIfInBounds o (.int .i64 x.k)).setIfInBounds (o + 1) (.int .i32 x.r)).setIfInBounds (o + 2) (.bool x.m)).setIfInBounds (o + 3) (.slice x.A x.n x.c)
theorem putKey_size (cs : Array Value) (o : Nat) (x : Sp) : (putKey cs o x).size = cs.size := by simp [putKey]
theorem Lay.put {cs : Array Value} {H : List Sp} {k : Nat} {x x' : Sp} (h : Lay cs H) (hx : H[k]? = some x) (hs : k * 6 + 6 ≤ cs.size) (h1 : x'.call = x.call) (h2 : x'.nm = x.nm) : Lay (putKey cs (k * 6) x') (H.set k x') := by
  intro j y hj i u hu
  have hi : i < 6 := (List.getElem?_eq_some_iff.1 hu).1
  have hk : k < H.length := (List.getElem?_eq_some_iff.1 hx).1
  by_cases e : j = k
  · subst e
    rw [List.getElem?_set_self hk] at hj
    obtain rfl : x' = y := Option.some.inj hj
    clear hj
    have h4 : cs[j * 6 + 4]? = some (.bool x.call) := h j x hx 4 _ (by simp [encS])
    have h5 : cs[j * 6 + 5]? = some (.int .i32 x.nm) := h j x hx 5 _ (by simp [encS])
    unfold putKey
    have hi6 : i = 0 ∨ i = 1 ∨ i = 2 ∨ i = 3 ∨ i = 4 ∨ i = 5 := by omega
    obtain ⟨o, ho⟩ : ∃ o, j * 6 = o := ⟨_, rfl⟩
    rw [ho] at h4 h5 hs ⊢
    clear h hx ho hk
    rcases hi6 with rfl | rfl | rfl | rfl | rfl | rfl
    · have hu' : Value.int .i64 x'.k = u := Option.some.inj hu
      simp only [Nat.add_zero]
      rw [Array.getElem?_setIfInBounds_ne (by omega), Array.getElem?_setIfInBounds_ne (by omega), Array.getElem?_setIfInBounds_ne (by omega), Array.getElem?_setIfInBounds_self_of_lt (by omega), hu']
    · have hu' : Value.int .i32 x'.r = u := Option.some.inj hu
      rw [Array.getElem?_setIfInBounds_ne (by omega), Array.getElem?_setIfInBounds_ne (by omega), Array.getElem?_setIfInBounds_self_of_lt (by simp; omega), hu']
    · have hu' : Value.bool x'.m = u := Option.some.inj hu
      rw [Array.getElem?_setIfInBounds_ne (by omega), Array.getElem?_setIfInBounds_self_of_lt (by simp; omega), hu']
    · have hu' : Value.slice x'.A x'.n x'.c = u := Option.some.inj hu
      rw [Array.getElem?_setIfInBounds_self_of_lt (by simp; omega), hu']
    · have hu' : Value.bool x'.call = u := Option.some.inj hu
      rw [Array.getElem?_setIfInBounds_ne (by omega), Array.getElem?_setIfInBounds_ne (by omega), Array.getElem?_setIfInBounds_ne (by omega), Array.getElem?_setIfInBounds_ne (by omega), h4, ← hu', h1]
    · have hu' : Value.int .i32 x'.nm = u := Option.some.inj hu
      rw [Array.getElem?_setIfInBounds_ne (by omega), Array.getElem?_setIfInBounds_ne (by omega), Array.getElem?_setIfInBounds_ne (by omega), Array.getElem?_setIfInBounds_ne (by omega), h5, ← hu', h2]
  · rw [List.getElem?_set_ne (fun q => e q.symm)] at hj
    have h0 := h j y hj i u hu
    unfold putKey
    rw [Array.getElem?_setIfInBounds_ne (by omega), Array.getElem?_setIfInBounds_ne (by omega), Array.getElem?_setIfInBounds_ne (by omega), Array.getElem?_setIfInBounds_ne (by omega)]
    exact h0
theorem Lay.li {cs : Array Value} {H : List Sp} {w : World} {g : Nat} {S : Nat → Prop} (h : Lay cs H) (hb : Blk w g cs) (hS : S g) : Li 6 encS w S (some ⟨g, 0, none⟩) H := by
  intro j x hj
  refine ⟨g, 0, rfl, hb.1, hS, fun i u hu => ?_⟩
  rw [hb.2.1, Nat.zero_add]
  exact h j x hj i u hu
theorem Blk.putKey {w : World} {g : Nat} {cs : Array Value} (h : Blk w g cs) (o : Nat) (x : Sp) (ho : o + 4 ≤ cs.size) : Blk ((((w.setCell ⟨g, o, none⟩ (.int .i64 x.k)).setCell ⟨g, o + 1, none⟩ (.int .i32 x.r)).setCell ⟨g, o + 2, none⟩ (.bool x.m)).setCell ⟨g, o + 3, none⟩ (.slice x.A x.n x.c)) g (putKey cs o x) :=
  (((h.set_ o (by omega) _).set_ (o + 1) (by simp; omega) _).set_ (o + 2) (by simp; omega) _).set_ (o + 3) (by simp; omega) _
end Go.Proofs.Ytgdfcojgifgjcaa
