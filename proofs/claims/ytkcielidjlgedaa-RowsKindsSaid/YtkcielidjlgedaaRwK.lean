/- rows: Kinds. -/
import Derived.Test.YtkcielidjlgedaaRw1
import Derived.Test.YtkcielidjlgedaaCmp
import Derived.Test.YtkcielidjlgedaaLayI
import Derived.Maps.RangeWalk
import Derived.Maps.OwnOps
import Derived.Maps.Views
import Derived.IntWalk
namespace Go.Proofs.Ytkcielidjlgedaa
open Go.RowKit Go.Maps
set_option linter.unusedVariables false
set_option linter.unusedSimpArgs false

def wfI (x : Int) : Prop := (Lit.int .i64 x).wf = true
theorem lawI : Keyed Try.prog 3 := int_keyed Try.underlying3
theorem zeroI (w : World) : (zeroValue 3).run Try.prog w = .ok (.int .i64 0) w := by kernel_rfl
abbrev MapD (w : World) (b n : Nat) (D : DataW Unit) : Prop := w.ownsMap Try.prog 3 (plainElem Try.prog 3) b n D

/-- The keys of a map are the kinds of rows. -/
def KeysOf (M : List Row) (D : DataW Unit) : Prop := ∀ x, wfI x → (Maps.has D (.int .i64 x) = true ↔ ∃ r ∈ M, r.k = x)
theorem KeysOf.start : KeysOf [] (.map []) := fun x hx => by simp [Maps.has]
theorem KeysOf.step {M : List Row} {D : DataW Unit} (h : KeysOf M D) (hD : IsMap D) (r : Row) (hr : wfI r.k) (d : DataW Unit) : KeysOf (M ++ [r]) (D.put (.int .i64 r.k) d) := by
  intro x hx
  by_cases e : x = r.k
  · subst e
    rw [has_put_same (k := .int .i64 r.k) hD trivial]
    simp
  · rw [has_put_other (by intro e'; injection e' with _ e'; exact e e'), h x hx]
    constructor
    · rintro ⟨s, hs, e'⟩
      exact ⟨s, by simp [hs], e'⟩
    · rintro ⟨s, hs, e'⟩
      rcases List.mem_append.1 hs with hs | hs
      · exact ⟨s, hs, e'⟩
      · rcases List.mem_singleton.1 hs with rfl
        exact absurd e'.symm e

/-- What has come of a map so far. -/
structure OutI (D : DataW Unit) (left : Lit → Bool) (O : List Int) : Prop where
  nodup : O.Nodup
  was : ∀ x ∈ O, wfI x ∧ Maps.has D (.int .i64 x) = true ∧ left (.int .i64 x) = false
  all : ∀ x, wfI x → Maps.has D (.int .i64 x) = true → left (.int .i64 x) = true ∨ x ∈ O
theorem OutI.start (D : DataW Unit) : OutI D (Maps.has D) [] := ⟨List.nodup_nil, by simp, fun x _ h => .inl h⟩
theorem same_self (x : Int) : (Lit.int .i64 x).sameKey (.int .i64 x) = true := by simp [Lit.sameKey]
theorem OutI.step {D : DataW Unit} {left : Lit → Bool} {O : List Int} (h : OutI D left O) {x : Int} (hx : wfI x) (hl : left (.int .i64 x) = true) (hh : Maps.has D (.int .i64 x) = true) : OutI D (fun z => left z && !z.sameKey (.int .i64 x)) (O ++ [x]) := by
  refine ⟨?_, ?_, ?_⟩
  · refine List.nodup_append.2 ⟨h.nodup, by simp, ?_⟩
    intro a ha b hb e
    rcases List.mem_singleton.1 hb with rfl
    subst e
    rw [(h.was a ha).2.2] at hl
    cases hl
  · intro y hy
    rcases List.mem_append.1 hy with hy | hy
    · obtain ⟨a, b, c⟩ := h.was y hy
      exact ⟨a, b, by simp [c]⟩
    · rcases List.mem_singleton.1 hy with rfl
      exact ⟨hx, hh, by simp [same_self]⟩
  · intro y hy hhy
    by_cases e : y = x
    · subst e; exact .inr (by simp)
    · rcases h.all y hy hhy with h' | h'
      · refine .inl ?_
        have : (Lit.int .i64 y).sameKey (.int .i64 x) = false := Maps.sameKey_ne (by intro e'; injection e' with _ e'; exact e e')
        simp [h', this]
      · exact .inr (by simp [h'])

def KindsOf (L : List Row) (K : List Int) : Prop := K.Pairwise (· < ·) ∧ ∀ x, x ∈ K ↔ ∃ r ∈ L, r.k = x
theorem kinds_of {L : List Row} {D : DataW Unit} {left : Lit → Bool} {O : List Int} (hL : ∀ r ∈ L, wfI r.k) (hD : KeysOf L D) (h : OutI D left O) (hl : ∀ kl, left kl = false) : KindsOf L (O.mergeSort fun x y => decide (x ≤ y)) := by
  have hp := List.mergeSort_perm O fun x y => decide (x ≤ y)
  refine ⟨?_, fun x => ?_⟩
  · have h1 := sorted_ints O
    have h2 : (O.mergeSort fun x y => decide (x ≤ y)).Nodup := hp.nodup_iff.2 h.nodup
    refine (h1.and h2).imp ?_
    rintro a b ⟨h3, h4⟩
    omega
  · rw [hp.mem_iff]
    constructor
    · intro hx
      obtain ⟨a, b, _⟩ := h.was x hx
      exact (hD x a).1 b
    · rintro ⟨r, hr, rfl⟩
      rcases h.all _ (hL r hr) ((hD _ (hL r hr)).2 ⟨r, hr, rfl⟩) with h' | h'
      · rw [hl] at h'; cases h'
      · exact h'

theorem own_off {w : World} {base n size : Nat} {E : TypeId} {v : Value} {xs : List Value} (h : w.ownsRow base E size v n xs) {r : Nat} (hr : r < base) : v.ownBlock = none ∨ v.ownBlock ≠ some r := by
  cases e : v.ownBlock with
  | none => exact .inl rfl
  | some g => exact .inr fun e' => by injection e' with e'; have := (h.lt g e).1; omega
set_option maxHeartbeats 4000000 in
set_option maxRecDepth 100000 in
theorem kinds_any (A : Option Addr) (c : Nat) (L : List Row) (w : World) (hL : Li 5 encR w (fun _ => True) A L) (hc : L.length ≤ c) (hn : L.length ≤ 10000) (hok : ∀ r ∈ L, wfI r.k) :
    Calls Try.prog 15 #[.slice A L.length c] w fun e w' => ∃ K, KindsOf L K ∧ TellsO 3 1 encI K w e w' := by
  have hmm := @run_makeMap Try.prog
  have HL := Lib.hid hL
  have HK := Lib.hid hok
  clear hL hok
  go_enter Try.func15, Try.ntmps15
  go_wp2_with fail
  go_loopw [11] (fun i wr => ∃ (k : Nat) (D : DataW Unit), k ≤ L.length ∧ i = .int .i64 k ∧ Hid (MapD wr w.heap.size k D ∧ KeysOf (L.take k) D ∧ Maps.size D ≤ k ∧ Below w.heap.size w wr)) (fun i _ => L.length - (intOf i).toNat)
  case atStart => exact ⟨0, .map [], Nat.zero_le _, rfl, World.ownsMap_made _ _ _ _, KeysOf.start, Nat.zero_le _, (Below.refl _ _).alloc (Nat.le_refl _) _⟩
  case round =>
    obtain ⟨k, D, hk, rfl, HD⟩ := hrel
    by_cases hlt : k < L.length
    · obtain ⟨x, b, o, hx, rfl, hbl, _, c0, c1, c2, c3, c4⟩ := (HL.out.later HD.out.2.2.2).row hlt
      have HX := Lib.hid (take_snoc' hx)
      have hwx := HK.out x (List.mem_of_getElem? hx)
      have hkey : keyOf Try.prog 3 (.int .i64 x.k) = some (.int .i64 x.k) := keyOf_int_mk Try.underlying3 hwx
      have HW := Lib.hid hwx
      clear hx hwx
      have hsz := HD.out.2.2.2.size
      go_wp2_with (first
        | (at_lookup; refine wpList_lookup_own_int _ rfl _ _ 54 rfl 3 3 .i64 lawI Try.underlying54 Try.underlying3 (zeroI _) w.heap.size k _ rfl (HD.out.1.alloc _) _ _ rfl hkey ?_; intro c hat hwc)
        | (at_mapUpdate; refine wpList_mapUpdate_own _ rfl _ _ _ 54 rfl 3 3 lawI Try.underlying54 _ w.heap.size k _ rfl (HD.out.1.alloc _) (by unfold maxLen; omega) _ _ _ rfl rfl hkey _ [] (plainElem_int Try.underlying3 (wrap64_wf _)) ?_; intro w1 hown1 hgrow1))
      have HR := Lib.hid (And.intro hown1 hgrow1)
      clear hown1 hgrow1
      go_roundw
      case rel =>
        refine ⟨k + 1, _, by omega, by go_num, HR.out.1, ?_, ?_, (HD.out.2.2.2.alloc hsz _).grown HR.out.2 (HD.out.2.2.2.alloc hsz _).size (fun j hj => by cases hj; exact Nat.le_refl _)⟩
        · rw [HX.out]; exact HD.out.2.1.step HD.out.1.isMap x HW.out _
        · have := size_put (H := Unit) (k := .int .i64 x.k) (HD.out.1.tidy lawI) (.lit (.int .i64 (wrap64 (c + 1))))
          have h2 := HD.out.2.2.1
          first | (rw [this]; split <;> omega) | (refine Nat.le_trans (Nat.le_of_eq this) ?_; split <;> omega)
      case measure => simp [intOf]; omega
    · obtain rfl : k = L.length := by omega
      have HM := Lib.hid HD.out.1
      have hbl := HM.out.lt
      clear hlt
      go_wp2_with (first
        | (at_range; refine wpList_range_own _ rfl _ 54 rfl 3 3 lawI Try.underlying54 _ w.heap.size L.length _ rfl HM.out ?_; intro w0 hrg0 hg0 hs0)
        | go_in)
      go_frame
      obtain ⟨r, hr⟩ : ∃ r, wr.heap.size = r := ⟨_, rfl⟩
      have hgr := Lib.hid hg0
      rw [hr] at hrg0 hs0 hbl ⊢
      have HR0 := Lib.hid (And.intro hrg0 (And.intro hg0 hs0))
      clear hrg0 hg0
      have hrB := HD.out.2.2.2.size
      have HB0 := Lib.hid (show Below w.heap.size w w0 from HD.out.2.2.2.grown HR0.out.2.1 HD.out.2.2.2.size (fun j hj => by cases hj))
      go_loopw [6] (fun v wq => ∃ (left : Lit → Bool) (cnt : Nat) (Ao : Option Addr) (no co : Nat) (O : List Int), v = .slice Ao no co ∧ cnt + no ≤ L.length ∧ Hid (wq.ranges Try.prog 3 (plainElem Try.prog 3) w.heap.size r L.length D left cnt) ∧ Hid (OutI D left O ∧ (wq.ownsRow w0.heap.size 3 1 (.slice Ao no co) no (flatL encI O)) ∧ Below w.heap.size w wq ∧ w0.heap.size ≤ wq.heap.size)) (fun _ wq => wq.rangeLeft w.heap.size r)
      case atStart => exact ⟨_, _, none, 0, 0, [], rfl, by have := HD.out.2.2.1; omega, HR0.out.1, OutI.start D, (Grows.start w0 3 1).own, HB0.out, Nat.le_refl _⟩
      case round =>
        obtain ⟨left, cnt, Ao, no, co, O, rfl, hcn, hrg, HO⟩ := hrel
        have HRG := Lib.hid hrg.out
        clear hrg
        go_wp2_with (first
          | (at_next; refine wpList_next_ranges_ii _ rfl _ rfl 3 3 .i64 .i64 lawI Try.underlying3 Try.underlying3 w.heap.size r L.length _ _ _ rfl HRG.out ?_ ?_)
          | go_in)
        · intro hc0 hl0
          have HKO := Lib.hid (kinds_of HK.out (by have := HD.out.2.1; rwa [List.take_length] at this) HO.out.1 hl0)
          have hlen := own_count encI_len (by decide) HO.out.2.1
          clear hl0 hc0
          rcases Nat.eq_zero_or_pos no with h0 | hpos
          · subst h0
            have hO := List.eq_nil_of_length_eq_zero hlen
            have HT := Lib.hid (show ∃ K, KindsOf L K ∧ TellsO 3 1 encI K w (.returned (.slice Ao 0 co)) wr from ⟨_, HKO.out, Ao, 0, co, rfl, by rw [hO]; have := HO.out.2.1; rw [hO] at this; simpa using ownLow this HB0.out.size, HO.out.2.2.1⟩)
            clear hlen hO
            go_wp2_with fail
            refine (sort_none _ _ _).mono ?_
            rintro e w' ⟨rfl, rfl⟩
            go_wp2_with fail
            go_ret
            exact HT.out
          · obtain ⟨g, rfl, hgb, hgs, hnc, hcm, hH⟩ := holds_own HO.out.2.1 hpos
            have c1 := sort_ints g 0 co O wr hH hgs (by omega)
            rw [hlen] at c1
            have C1 := Lib.hid c1
            have hml : (O.mergeSort fun x y => decide (x ≤ y)).length = no := by rw [List.length_mergeSort, hlen]
            have HML := Lib.hid hml
            clear c1 hH hlen hml
            go_wp2_with fail
            refine C1.out.mono ?_
            rintro e w1 ⟨rfl, q, os, hY⟩
            have hs := own_sorted (os := os) (q := q) (ownLow HO.out.2.1 HB0.out.size) HO.out.2.2.1 HO.out.2.2.1.size HML.out
            rw [← hY] at hs
            have HT := Lib.hid (show ∃ K, KindsOf L K ∧ TellsO 3 1 encI K w (.returned (.slice (some ⟨g, 0, none⟩) no co)) w1 from ⟨_, HKO.out, _, _, _, rfl, hs.1, hs.2⟩)
            clear hs hY C1
            go_wp2_with fail
            go_ret
            exact HT.out
        · intro x c w1 cnt1 hwx hwc hlx hat hrg1 hlt1 hg1 hs1 hen
          have HN := Lib.hid (HO.out.1.step hwx hlx (Maps.has_true_of_atKey hat))
          have HR1 := Lib.hid (And.intro hrg1 hg1)
          have own1 := Lib.hid (show w1.ownsRow w0.heap.size 3 1 (.slice Ao no co) no (flatL encI O) from HO.out.2.1.kept hg1 (own_off HO.out.2.1 (by omega)))
          have hz1 : w0.heap.size ≤ w1.heap.size := by rw [hs1]; exact HO.out.2.2.2
          clear hrg1 hg1 hat hlx
          go_wp2_with (first | (at_builtin; go_loud (refine wpList_push int_elt own1.out hz1 rfl rfl rfl rfl hs1.symm rfl rfl (by unfold maxLen; omega) (by omega) ?_; intro A3 c3 w3 hp; have HP := Lib.hid hp; clear hp)) | go_in)
          have hr3 := HR1.out.1.kept HP.out.grown (fun e => by have := (own1.out.lt _ e.symm).1; omega) (fun e => by have := (own1.out.lt _ e.symm).1; omega)
          have hb1 := HO.out.2.2.1.grown HR1.out.2 HO.out.2.2.1.size (fun j hj => by cases hj; omega)
          have HZ := Lib.hid (And.intro (hb1.grown HP.out.grown hb1.size (fun j hj => by have := (own1.out.lt j hj).1; omega)) (Nat.le_trans hz1 HP.out.grown.size))
          clear hb1
          go_roundw
          case rel => exact ⟨_, cnt1, _, _, _, _, rfl, by omega, hr3, HN.out, by rw [flatL_snoc]; exact HP.out.own, HZ.out.1, HZ.out.2⟩
          case measure => rw [hr3.left_eq, HRG.out.left_eq]; exact hlt1
end Go.Proofs.Ytkcielidjlgedaa
