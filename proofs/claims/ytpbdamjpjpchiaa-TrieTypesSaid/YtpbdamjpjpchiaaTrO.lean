/- trie: block, what it says. -/
import Derived.Test.YtpbdamjpjpchiaaTrN
import Derived.Test.YtpbdamjpjpchiaaRndQ
import Derived.Sort.BigQuietIn
import Derived.Sort.CutIn
import Derived.Deep.MidRow
import Derived.RangeFuncNested
namespace Go.Proofs.Ytpbdamjpjpchiaa
open Go.RowKit Go.BigFrame
set_option linter.unusedVariables false
set_option linter.unusedSimpArgs false
attribute [local go_sem] Oper.semAt_some

/-- A region that draws its order and only reads, in a round. -/
theorem region_round_lit {F : Fence} {n : Nat} {P : Program} {L : List Oper} {Q : Exit → Act → World → Prop} (l : Nat) {id : Nat} {a : Act} {w : World} (hro : F.round = none) (hm : P.follows .mixedOrders = true) (hB : Region.lexB .any L.toArray = true) (hd : L.all (fun o => match o.op with | .defer _ => false | _ => true) = true)
    (h : wpQuietIn F n P L.toArray (fun w' => ∃ m, w' = w.drewN m) (fun a' => ∀ w', (∃ m, w' = w.drewN m) → Q .normal a' w') L a) : (Code.region id L.toArray true).wpIn (F.inRound l) n P Q a w :=
  region_round _ l hro hm hB hd ⟨1, rfl⟩ h

/-! ### pure -/
section
variable {lo m : Int} {P : List (Pc Int)} {g : Int → Int}
theorem tile_next (h : Tile lo m P) {a : Nat} {x y : Pc Int} (hx : P[a]? = some x) (hy : P[a + 1]? = some y) : y.f = x.t + 1 := by
  obtain ⟨h1, _, _⟩ := tile_at h hy
  obtain ⟨_, _, h2⟩ := tile_at h hx
  exact tile_uniq h1 h2
theorem tile_last (h : Tile lo m P) {a : Nat} {x : Pc Int} (hx : P[a]? = some x) (ha : P.length ≤ a + 1) : x.t + 1 = m := by
  obtain ⟨_, _, h2⟩ := tile_at h hx
  rw [List.take_of_length_le ha] at h2
  exact tile_uniq h2 h
theorem tile_first (h : Tile lo m P) {x : Pc Int} (hx : P[0]? = some x) : x.f = lo := by
  cases P with
  | nil => cases hx
  | cons p P => simp at hx; subst hx; exact h.1
/-- The value that block tells. -/
def bval (g : Int → Int) (m first : Int) (i : Nat) : Int := g (min (first + i) (m - 1))
theorem bval_is (h : Tile lo m P) (hV : Vals g P) {a i : Nat} {x : Pc Int} {first : Int} (hx : P[a]? = some x) (h1 : x.f ≤ first + i) (h2 : first + i ≤ x.t ∨ P.length ≤ a + 1) : bval g m first i = x.v := by
  have hb := tile_bd h (List.mem_of_getElem? hx)
  have hv := hV x (List.mem_of_getElem? hx)
  unfold bval
  rcases h2 with h2 | h2
  · exact hv _ (by omega) (by omega)
  · have := tile_last h hx h2
    exact hv _ (by omega) (by omega)
/-- What stands in block's array when k rounds are over. -/
def outC (g : Int → Int) (m first : Int) (k : Nat) : List Value := (List.range 128).map fun i => .int .i64 (if i < k then bval g m first i else 0)
theorem outC_len (g : Int → Int) (m first : Int) (k : Nat) : (outC g m first k).length = 128 := by simp [outC]
theorem outC_set (g : Int → Int) (m first : Int) (k : Nat) (hk : k < 128) : (outC g m first k).set k (.int .i64 (bval g m first k)) = outC g m first (k + 1) := by
  apply List.ext_getElem
  · simp [outC]
  · intro i h1 h2
    simp only [outC, List.getElem_set, List.getElem_map, List.getElem_range]
    by_cases e : k = i
    · subst e; rw [if_pos rfl, if_pos (Nat.lt_succ_self _)]
    · rw [if_neg e]
      by_cases h : i < k
      · rw [if_pos h, if_pos (by omega)]
      · rw [if_neg h, if_neg (by omega)]
theorem outC_zero (g : Int → Int) (m first : Int) : (outC g m first 0).toArray = Try.zeroCells54 := by
  unfold outC
  simp only [Nat.not_lt_zero, if_false]
  rfl
/-- A block's values. -/
def blk (g : Int → Int) (m first : Int) : List Int := (List.range 128).map (bval g m first)
theorem outC_all (g : Int → Int) (m first : Int) : outC g m first 128 = (blk g m first).map (.int .i64) := by
  unfold outC blk
  rw [List.map_map]
  apply List.map_congr_left
  intro i hi
  rw [if_pos (List.mem_range.1 hi)]
  rfl
end

theorem grow_set (w : World) (g j : Nat) (u : Value) : w.grownBy (w.setCell ⟨g, j, none⟩ u) (some g) :=
  ⟨rfl, rfl, rfl, by simp, fun k _ hne => Below.heap_setCell _ _ _ _ (by intro e; exact hne (by rw [e]))⟩
theorem Blk.same {w w' : World} {b : Nat} {cs : Array Value} (h : Blk w b cs) (e : w'.heap[b]? = w.heap[b]?) (hs : w.heap.size ≤ w'.heap.size) : Blk w' b cs :=
  ⟨Nat.lt_of_lt_of_le h.1 hs, fun j => (World.cell?_of_block (a := ⟨b, j, none⟩) e).trans (h.2.1 j), fun j => (World.frozen?_of_block (a := ⟨b, j, none⟩) e).trans (h.2.2 j)⟩

/-! ### what stands in memory -/
/-- What a round of block keeps: s is the first of its blocks, j the piece, k the round. -/
structure BlI (w : World) (A : Option Addr) (nn c : Nat) (first : Int) (j : Nat) (cs : List Value) (W : World) : Prop where
  pcs : Boxed W w.heap.size 31 (.slice A nn c)
  fst : Boxed W (w.heap.size + 1) 3 (.int .i64 first)
  res : Blk W (w.heap.size + 1 + 1) Try.zeroCells54
  out : Blk W (w.heap.size + 1 + 1 + 1) cs.toArray
  at_ : Boxed W (w.heap.size + 1 + 1 + 1 + 1) 3 (.int .i64 j)
  be : Below w.heap.size w W
section
variable {w W W' : World} {A : Option Addr} {nn c : Nat} {first : Int} {j : Nat} {cs : List Value}
theorem BlI.grown (h : BlI w A nn c first j cs W) {row : Option Nat} (hg : W.grownBy W' row) (hr : ∀ r, row = some r → w.heap.size + 1 + 1 + 1 + 1 < r) : BlI w A nn c first j cs W' := by
  have n : ∀ k, k ≤ w.heap.size + 1 + 1 + 1 + 1 → some k ≠ row := fun k hk e => by have := hr k e.symm; omega
  exact ⟨Boxed.kept h.pcs hg (n _ (by omega)), Boxed.kept h.fst hg (n _ (by omega)), Blk.same h.res (hg.block _ h.res.1 (n _ (by omega))) hg.size, Blk.same h.out (hg.block _ h.out.1 (n _ (by omega))) hg.size, Boxed.kept h.at_ hg (n _ (by omega)), h.be.grown hg h.be.size (fun k e => by have := hr k e; omega)⟩
theorem BlI.drewN (h : BlI w A nn c first j cs W) (m : Nat) : BlI w A nn c first j cs (W.drewN m) :=
  h.grown (row := none) ⟨rfl, rfl, rfl, Nat.le_refl _, fun _ _ _ => rfl⟩ (fun r e => by cases e)
theorem BlI.next (h : BlI w A nn c first j cs W) (i : Nat) : BlI w A nn c first i cs (W.setCell ⟨w.heap.size + 1 + 1 + 1 + 1, 0, none⟩ (.int .i64 i)) :=
  ⟨Boxed.other h.pcs (by omega) _, Boxed.other h.fst (by omega) _, Blk.far h.res (by show w.heap.size + 1 + 1 + 1 + 1 ≠ _; omega) _, Blk.far h.out (by show w.heap.size + 1 + 1 + 1 + 1 ≠ _; omega) _, Boxed.set _ h.at_, h.be.setCell (p := ⟨w.heap.size + 1 + 1 + 1 + 1, 0, none⟩) (by simp; omega) _⟩
theorem BlI.put (h : BlI w A nn c first j cs W) (i : Nat) (hi : i < cs.length) (v : Value) : BlI w A nn c first j (cs.set i v) (W.setCell ⟨w.heap.size + 1 + 1 + 1, i, none⟩ v) := by
  have hg := grow_set W (w.heap.size + 1 + 1 + 1) i v
  have hs := Blk.set_ h.out i (by simpa using hi) v
  exact ⟨Boxed.kept h.pcs hg (by simp; omega), Boxed.kept h.fst hg (by simp), Blk.same h.res (hg.block _ h.res.1 (by simp)) hg.size, by simpa using hs, Boxed.kept h.at_ hg (by simp), h.be.setCell (p := ⟨w.heap.size + 1 + 1 + 1, i, none⟩) (by simp; omega) _⟩
end
end Go.Proofs.Ytpbdamjpjpchiaa
