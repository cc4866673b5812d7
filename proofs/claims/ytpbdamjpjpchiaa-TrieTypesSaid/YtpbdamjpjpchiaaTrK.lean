/- trie: two rows that grow in turns: cuts, and pieces. -/
import Derived.Test.YtpbdamjpjpchiaaTrF
import Derived.Test.YtpbdamjpjpchiaaTrJ
import Derived.Test.YtpbdamjpjpchiaaCmp
import Derived.Test.YtpbdamjpjpchiaaLayI
import Derived.Test.YtpbdamjpjpchiaaStepN
import Derived.Sort.OwnSortedInts
import Derived.IntWalk
namespace Go.Proofs.Ytpbdamjpjpchiaa
open Go.RowKit
set_option linter.unusedVariables false
set_option linter.unusedSimpArgs false

/-- The cuts and the pieces, each in a row of the call's own. -/
structure Two (w : World) (Ac : Option Addr) (nc cc : Nat) (Cs : List Int) (Af : Option Addr) (nf cf : Nat) (F : List (Pc Int)) (X : World) : Prop where
  cu : X.ownsRow w.heap.size 3 1 (.slice Ac nc cc) nc (flatL encI Cs)
  fi : X.ownsRow w.heap.size 34 3 (.slice Af nf cf) nf (flatL encP F)
  ap : ∀ b, (Value.slice Ac nc cc).ownBlock = some b → (Value.slice Af nf cf).ownBlock ≠ some b
  be : Below w.heap.size w X
theorem keptRow {X Y : World} {base n size : Nat} {E : TypeId} {v : Value} {xs : List Value} {row : Option Nat} (h : X.ownsRow base E size v n xs) (hg : X.grownBy Y row) (hne : ∀ b, v.ownBlock = some b → row ≠ some b) : Y.ownsRow base E size v n xs :=
  h.kept hg (by
    cases hv : v.ownBlock with
    | none => exact .inl rfl
    | some k => right; exact fun e => hne k hv e.symm)
theorem Two.later {w X Y : World} {Ac Af : Option Addr} {nc cc nf cf : Nat} {Cs : List Int} {F : List (Pc Int)} (h : Two w Ac nc cc Cs Af nf cf F X) (hb : Below X.heap.size X Y) : Two w Ac nc cc Cs Af nf cf F Y :=
  ⟨own_later h.cu hb, own_later h.fi hb, h.ap, h.be.trans (hb.mono h.be.size)⟩
theorem Two.pushF {w X Y : World} {Ac Af A' : Option Addr} {nc cc nf cf c' : Nat} {Cs : List Int} {F : List (Pc Int)} {p : Pc Int} {ys : List Value} (h : Two w Ac nc cc Cs Af nf cf F X) (hp : Pushed X Y w.heap.size 34 3 (.slice Af nf cf) (nf + 1) (flatL encP F ++ ys) A' c') (hy : ys = encP p) :
    Two w Ac nc cc Cs A' (nf + 1) c' (F ++ [p]) Y := by
  subst hy
  refine ⟨keptRow h.cu hp.grown h.ap, by rw [flatL_snoc]; exact hp.own, fun b hb e => ?_, hp.below h.be h.fi (Nat.le_refl _)⟩
  rcases hp.at_ with e1 | ⟨q, e1, hq⟩
  · exact h.ap b hb (e1.symm.trans e)
  · rw [e1] at e
    injection e with e
    have := (h.cu.lt b hb).2
    omega
theorem Two.pushC {w X Y : World} {Ac Af A' : Option Addr} {nc cc nf cf c' m : Nat} {Cs M : List Int} {F : List (Pc Int)} {ys : List Value} (h : Two w Ac nc cc Cs Af nf cf F X) (hp : Pushed X Y w.heap.size 3 1 (.slice Ac nc cc) (nc + m) (flatL encI Cs ++ ys) A' c') (hy : ys = flatL encI M) :
    Two w A' (nc + m) c' (Cs ++ M) Af nf cf F Y := by
  subst hy
  refine ⟨by rw [flatL_append]; exact hp.own, keptRow h.fi hp.grown fun b hb e => h.ap b e hb, fun b hb e => ?_, hp.below h.be h.cu (Nat.le_refl _)⟩
  rcases hp.at_ with e1 | ⟨q, e1, hq⟩
  · exact h.ap b (e1.symm.trans hb) e
  · rw [e1] at hb
    injection hb with hb
    have := (h.fi.lt b e).2
    omega
/-- The box that a round lays is neither row's. -/
theorem Two.far {w X : World} {Ac Af : Option Addr} {nc cc nf cf : Nat} {Cs : List Int} {F : List (Pc Int)} (h : Two w Ac nc cc Cs Af nf cf F X) : some X.heap.size ≠ (Value.slice Af nf cf).ownBlock ∧ some X.heap.size ≠ (Value.slice Ac nc cc).ownBlock :=
  ⟨fun e => by have := (h.fi.lt _ e.symm).2; omega, fun e => by have := (h.cu.lt _ e.symm).2; omega⟩

def endsP (F : List (Pc Int)) : List Int := F.flatMap fun p => [p.f, p.t + 1]
/-- The cuts, sorted, each once. -/
def cutsP (m : Int) (F : List (Pc Int)) : List Int := sortedOnce ([0, m] ++ endsP F)
theorem cutsP_ok (m : Int) (L : List (Pc Int)) (z : Int) : Cuts (fitz m L z) (cutsP m (fits m L)) := by
  refine ⟨sortedOnce_lt _, fun c => ?_⟩
  unfold cutsP
  rw [sortedOnce_mem]
  simp only [endsP, fitz, List.mem_append, List.mem_flatMap, List.mem_cons, List.mem_nil_iff, or_false]
  constructor
  · rintro ((h | h) | ⟨p, hp, h⟩)
    · exact ⟨⟨0, m - 1, z⟩, .inr rfl, .inl h⟩
    · exact ⟨⟨0, m - 1, z⟩, .inr rfl, .inr (by dsimp only; omega)⟩
    · exact ⟨p, .inl hp, h⟩
  · rintro ⟨s, (hs | rfl), h⟩
    · exact .inr ⟨s, hs, h⟩
    · left
      dsimp only at h
      omega
theorem endsP_len (F : List (Pc Int)) : (endsP F).length = 2 * F.length := by
  induction F with
  | nil => rfl
  | cons p F ih => simp only [endsP, List.flatMap_cons, List.length_append, List.length_cons, List.length_nil] at ih ⊢; omega
theorem endsP_snoc (F : List (Pc Int)) (p : Pc Int) : endsP (F ++ [p]) = endsP F ++ [p.f, p.t + 1] := by
  simp [endsP]
/-- A row that was sorted, and cut to what differs. -/
theorem cut_calls_out {w X : World} {no co n q g : Nat} {E : TypeId} {zs : List Int} {os : Array Obj} (h : X.ownsRow w.heap.size E 1 (.slice (some ⟨g, 0, none⟩) no co) no (flatL encI zs)) (hb : Below w.heap.size w X)
    (Y : World) (hY : Y = Go.Sort.grow (Go.Sort.putRow (Value.int .i64) (Go.Sort.ahead X n) g 0 (zs.mergeSort fun x y => decide (x ≤ y)).toArray) os) (Z : World) (hZ : Z = Go.Sort.putRow (Value.int .i64) (Go.Sort.ahead Y q) g 0 (sortedOnce zs ++ List.replicate ((zs.mergeSort fun x y => decide (x ≤ y)).length - (sortedOnce zs).length) 0).toArray) :
    Z.ownsRow w.heap.size E 1 (.slice (some ⟨g, 0, none⟩) (sortedOnce zs).length co) (sortedOnce zs).length (flatL encI (sortedOnce zs)) ∧ Below w.heap.size w Z := by
  have hl := own_count encI_len (by decide) h
  have hm : (zs.mergeSort fun x y => decide (x ≤ y)).length = no := by rw [List.length_mergeSort]; exact hl
  have hk := sortedOnce_len zs
  obtain ⟨h1, h2⟩ := own_sorted (os := os) (q := n) h hb hb.size hm
  rw [← hY] at h1 h2
  have hc := own_cut (q := q) (k := (sortedOnce zs).length) h1 h2 (ys := sortedOnce zs ++ List.replicate ((zs.mergeSort fun x y => decide (x ≤ y)).length - (sortedOnce zs).length) 0) (by simp; omega) (by omega)
  rw [← hZ] at hc
  rwa [List.take_left'] at hc
  rfl

theorem Two.sorted {w X : World} {g nc cc nf cf n q : Nat} {Af : Option Addr} {Cs : List Int} {F : List (Pc Int)} {os : Array Obj} (h : Two w (some ⟨g, 0, none⟩) nc cc Cs Af nf cf F X) (hnc : 0 < nc) (Y : World) (hY : Y = Go.Sort.grow (Go.Sort.putRow (Value.int .i64) (Go.Sort.ahead X n) g 0 (Cs.mergeSort fun x y => decide (x ≤ y)).toArray) os) (Z : World) (hZ : Z = Go.Sort.putRow (Value.int .i64) (Go.Sort.ahead Y q) g 0 (sortedOnce Cs ++ List.replicate ((Cs.mergeSort fun x y => decide (x ≤ y)).length - (sortedOnce Cs).length) 0).toArray) :
    Two w (some ⟨g, 0, none⟩) (sortedOnce Cs).length cc (sortedOnce Cs) Af nf cf F Z := by
  obtain ⟨c1, c2⟩ := cut_calls_out h.cu h.be Y hY Z hZ
  have hg1 : X.grownBy Y (some g) := by rw [hY]; exact Go.grownBy_sortedI _
  have hg2 : Y.grownBy Z (some g) := by
    have := Go.grownBy_sortedI (w := Y) (g := g) (n := q) (os := #[]) (sortedOnce Cs ++ List.replicate ((Cs.mergeSort fun x y => decide (x ≤ y)).length - (sortedOnce Cs).length) 0).toArray
    rwa [Go.Sort.grow_empty, ← hZ] at this
  have hob : ∀ k, (Value.slice (some ⟨g, 0, none⟩) k cc).ownBlock = some g := fun _ => rfl
  have hne : ∀ b, (Value.slice Af nf cf).ownBlock = some b → some g ≠ some b := fun b hb e => h.ap g (hob _) (by rw [hb, e])
  exact ⟨c1, keptRow (keptRow h.fi hg1 hne) hg2 hne, fun b hb e => h.ap b hb e, c2⟩
end Go.Proofs.Ytpbdamjpjpchiaa
