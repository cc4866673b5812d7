/- rows: the parts sorted by where they begin. -/
import Derived.Test.YtkcielidjlgedaaRw1
import Derived.Test.YtkcielidjlgedaaRwQ
import Derived.Shelf.SlSortCmp.WholeK
import Derived.Shelf.SlSortCmp.NoneTotal
import Derived.Shelf.SlicesG.Cmp
import Derived.Shelf.Lay
import Derived.Shelf.SlGeneric
import Derived.Ground.SlsfProg
import Derived.Ground.SlgcProg
namespace Go.Proofs
open Go.Shelf
shelf_lay_g SlLaysF0.n6 Slsf 6 at Try 21 as Ytkcielidjlgedaa.sortS
shelf_lay_g SlLaysC2.n5 Slgc 5 at Try 23 as Ytkcielidjlgedaa.cmpI
end Go.Proofs
namespace Go.Proofs.Ytkcielidjlgedaa
open Go.RowKit Go.Shelf Go.Sort Go.Lib
set_option linter.unusedVariables false
set_option linter.unusedSimpArgs false

instance : Inhabited Span := ⟨⟨0, 0, 0, 0⟩⟩

set_option maxHeartbeats 1000000 in
theorem of1_any (x y : Span) (W : World) : Calls Try.prog 22 #[.agg (encS x).toArray, .agg (encS y).toArray] W fun e w' => e = .returned (.int .i64 (Lib.compareInt x.f y.f)) ∧ ∃ q os', w' = grow (W.drewN q) os' := by
  have hcon := fun W' => AnyG.cmp_Compare_int cmpI x.f y.f W'
  change ∀ W', Calls Try.prog 23 _ _ _ at hcon
  generalize Lib.compareInt x.f y.f = r at hcon ⊢
  show Calls Try.prog 22 #[.agg #[.int .i64 x.f, .int .i64 x.t, .int .i64 x.a, .int .i64 x.b], .agg #[.int .i64 y.f, .int .i64 y.t, .int .i64 y.a, .int .i64 y.b]] W _
  go_enter Try.func22, Try.ntmps22
  go_wp2_with (go_at_call 23; refine (hcon _).mono ?_; rintro e w' ⟨rfl, rfl⟩)
  go_ret
  exact ⟨rfl, 0, _, by rw [alloc_eq_grow, alloc_eq_grow, grow_grow]; rfl⟩

theorem ltF (x y : Span) : ltOf (fun x y : Span => Lib.compareInt x.f y.f) x y = decide (x.f < y.f) := by
  unfold ltOf Lib.compareInt
  by_cases h1 : x.f < y.f
  · simp [h1]
  · by_cases h2 : y.f < x.f <;> simp [h1, h2]
theorem swoF : SWO (ltOf fun x y : Span => Lib.compareInt x.f y.f) where
  irrefl x := by rw [ltF]; simp
  trans x y z h1 h2 := by rw [ltF] at *; simp at *; omega
  ntrans x y z h1 h2 := by rw [ltF] at *; simp at *; omega

/-- The row reads as its spans, sorted. -/
theorem sortSpans (base n c : Nat) (A : Option Addr) (L : List Span) (w0 w : World) (h : w.ownsRow base 30 4 (.slice A n c) n (flatL encS L)) (hb : Below base w0 w) (hB : base ≤ w.heap.size) (hn : n ≤ 1000000) :
    Calls Try.prog 21 #[.slice A n c, .func (.func 22) #[] #[]] w fun e w' => e = .returned (.tuple #[]) ∧ ∃ d : List Span, d.Perm L ∧ d.Pairwise (fun x y => ¬ y.f < x.f) ∧ Li 4 encS w' (fun b => base ≤ b) A d ∧ Below base w0 w' ∧ w.heap.size ≤ w'.heap.size := by
  have hl := own_count encS_len (by decide) h
  rcases Nat.eq_zero_or_pos n with h0 | hpos
  · subst h0
    have hL := List.eq_nil_of_length_eq_zero hl
    subst hL
    refine (AnyF.slices_SortFunc_none { sortS with } A c (.func (.func 22) #[] #[]) w).mono ?_
    rintro e w' ⟨rfl, rfl⟩
    exact ⟨rfl, [], List.Perm.refl _, List.Pairwise.nil, Li.nil _ _ _, hb, Nat.le_refl _⟩
  · obtain ⟨g, rfl, hg, hgl, hnc, hc, hH⟩ := holdsK_own encS_len (by decide) h hpos
    have eg : ∀ args w, (callFunc 22 args).run Try.prog w = .ok (.enter 22 args) w := enters_of Try.func22 (by kernel_rfl) rfl
    have hcon := AnyQ.slices_SortFunc sortS 4 Try.isAgg30 Try.sizeOf30 encS (fun _ => rfl) (fun x v hv => by simp [encS] at hv; rcases hv with rfl | rfl | rfl | rfl <;> rfl) (fun x y => Lib.compareInt x.f y.f) swoF 22 #[] g 0 c L.toArray w eg (fun _ _ _ _ x y => of1_any x y _) hH hgl (by simp; omega)
    change Calls Try.prog 21 _ _ _ at hcon
    rw [show L.toArray.size = n by simpa using hl] at hcon
    refine hcon.mono ?_
    rintro e w' ⟨rfl, d, m, os, hp, hs, rfl⟩
    have hsz : d.size = L.toArray.size := hp.1
    have hsn : d.size = n := by rw [hsz]; simpa using hl
    refine ⟨rfl, d.toList, ?_, ?_, ?_, ?_, ?_⟩
    · have := hp.2.2
      rw [Array.extract_eq_self_of_le (by omega), Array.extract_eq_self_of_le (by simp; omega)] at this
      simpa using this
    · rw [List.pairwise_iff_getElem]
      intro i j hi hj hij
      simp at hi hj
      have := hs i j (Nat.zero_le _) hij (by omega)
      rw [ltF] at this
      simpa [hi, hj] using this
    · exact (sorted_li encS_len hH hgl hsz).mono fun b hb => by rw [hb]; exact hg
    · exact sorted_below hb hg hB
    · simp [sortWorldK, Go.Sort.size_putRowK]
end Go.Proofs.Ytkcielidjlgedaa
