/- seg: the document's Next. -/
import Derived.Test.YtggapcfjcdafpaaGreatGb01
import Derived.Test.YtggapcfjcdafpaaGreatGb30
import Derived.Test.YtggapcfjcdafpaaGreatGb27
namespace Go.Proofs.YtggapcfjcdafpaaGreat
open Go.ChangeShapes Go.WideShapes Go.ChangeAt Go.RowKit
set_option linter.unusedVariables false
set_option linter.unusedSimpArgs false

theorem wf_i32 {a : Int} (h : (Lit.int .i32 a).wf = true) : -2147483648 ≤ a ∧ a ≤ 2147483647 := by
  simp [Lit.wf, IntKind.min, IntKind.max, IntKind.bits, IntKind.signed] at h; omega
theorem wf_i64 {a : Int} (h : (Lit.int .i64 a).wf = true) : -9223372036854775808 ≤ a ∧ a ≤ 9223372036854775807 := by
  simp [Lit.wf, IntKind.min, IntKind.max, IntKind.bits, IntKind.signed] at h; omega
theorem wf_u8 {a : Int} (h : (Lit.int .u8 a).wf = true) : 0 ≤ a ∧ a ≤ 255 := by
  simp [Lit.wf, IntKind.min, IntKind.max, IntKind.bits, IntKind.signed] at h; omega

/-- What is known of a slice that came in: n places of one cell each. -/
structure Came (W : World) (v : Value) (A : Option Addr) (n c : Nat) (f : Nat → Value) : Prop where
  eq : v = .slice A n c
  rd : Rd W A n f
  le : n ≤ c
  max : c ≤ maxLen
  nil : A = none → n = 0 ∧ c = 0
  plain : ∀ a, A = some a → 0 < n → a.spot = none

theorem arg_ints {H : Type} {enc : TypeId × Value → H} {P : Program} {W : World} {base : Nat} {T E : TypeId} {k : IntKind} {r : Reach} {b0 : Nat} {v : Value} {d : DataW H} {p : List MemPlace} {spare : Nat → Bool} {held : Bool}
    (hT : P.underlying T = some (.slice E)) (hE : P.underlying E = some (.int k)) (hc : P.cellsOf E = 1) (hv : Value.okWide P W r b0 T v) (h : DataW.Trod enc P W base spare held T v d p) :
    ∃ A n c, ∃ f : Nat → Int, Came W v A n c (fun j => .int k (f j)) ∧ ∀ j, j < n → (Lit.int k (f j)).wf = true := by
  obtain ⟨a0, n, c, rfl⟩ := okWide_slice hT hv
  obtain ⟨fuel, hf⟩ := h
  rcases open_ints hT hE hc hf with ⟨hcs, _⟩ | ⟨a, len, cap, zs, hcs, _, hle, hmax, hlen, _, hcell, hwf⟩
  · simp [Value.cells] at hcs
    obtain ⟨rfl, rfl, rfl⟩ := hcs
    exact ⟨none, 0, 0, fun _ => 0, ⟨rfl, Rd.empty _ _ _, Nat.le_refl _, Nat.zero_le _, fun _ => ⟨rfl, rfl⟩, (fun a ha => by cases ha)⟩, fun j hj => absurd hj (by omega)⟩
  · simp [Value.cells] at hcs
    obtain ⟨rfl, rfl, rfl⟩ := hcs
    have hn : n ≤ zs.length := by rw [hlen]; split <;> omega
    refine ⟨some a, n, c, fun j => zs.getD j 0, ⟨rfl, ?_, hle, hmax, (fun e => by cases e), ?_⟩, fun j hj => ?_⟩
    · intro j hj
      obtain ⟨b, off, rfl, hc'⟩ := ints_at hcell (by omega)
      have := hc' j (by omega)
      exact ⟨b, off, rfl, World.block_lt_of_cell? _ _ this, this⟩
    · intro a' ha hp
      injection ha with ha
      subst ha
      obtain ⟨b, off, rfl, _⟩ := ints_at hcell (by omega)
      rfl
    · have hj' : j < zs.length := by omega
      show (Lit.int k (zs.getD j 0)).wf = true
      rw [show zs.getD j 0 = zs[j] by simp [List.getD, List.getElem?_eq_getElem hj']]
      exact hwf _ (List.getElem_mem hj')

end Go.Proofs.YtggapcfjcdafpaaGreat

namespace Go.Proofs.YtggapcfjcdafpaaGreat
open Go.RowKit
set_option linter.unusedVariables false
set_option linter.unusedSimpArgs false

/-- The text that comes in, not too much of it. -/
theorem came_text {w : World} {A0 : Option Addr} {n0 : Nat} {f0 : Nat → Int} (hA : Rd w A0 n0 (fun j => .int .i32 (f0 j))) (hp : ∀ j, j < n0 → (Lit.int .i32 (f0 j)).wf = true) (k : Nat) : ∃ l : List Int, l.length = min n0 k ∧ Li 1 encC w (fun _ => True) A0 l ∧ Sc l := by
  refine ⟨(List.range (min n0 k)).map f0, by simp, li_of_rd fun j hj => hA j (by omega), ?_⟩
  intro x hx
  obtain ⟨j, hj, rfl⟩ := List.mem_map.1 hx
  have := List.mem_range.1 hj
  exact wf_i32 (hp j (by omega))
set_option maxHeartbeats 8000000 in
set_option maxRecDepth 100000 in
theorem walk_SegStarts (w : World) (A0 : Option Addr) (n0 c0 : Nat) (f0 : Nat → Int) (hA : Rd w A0 n0 (fun j => .int .i32 (f0 j))) (hle : n0 ≤ c0) (hmax : c0 ≤ maxLen) (hp : ∀ j, j < n0 → (Lit.int .i32 (f0 j)).wf = true) :
    Calls Tryz.prog 3 #[.slice A0 n0 c0] w (Yes w) := by
  obtain ⟨T, hG, hT, C0⟩ := rows_li w
  obtain ⟨l, hll, hL0, hSc⟩ := came_text hA hp 200
  have hlc : l.length ≤ c0 := by omega
  have hl2 : l.length ≤ 200 := by omega
  have HG := Lib.hid hG
  have C0 := Lib.hid C0
  have HK := Lib.hid (show (KT T).ok by rw [← hT]; exact kt_ok given_conj)
  have AW := Lib.hid (fun X => awake10_yes X)
  have HL := Lib.hid (And.intro hL0 hSc)
  have CF := fews_any A0 n0 c0 200 w hle (by unfold maxLen at hmax; omega) (by omega)
  rw [← hll] at CF
  have CF := Lib.hid CF
  clear hG hA hp hT hL0 hSc hll hle hmax
  go_enter Tryz.func3, Tryz.ntmps3
  go_wp2_with fail
  refine CF.out.mono ?_
  rintro e w0 ⟨rfl, rfl⟩
  clear CF
  go_wp2_with fail
  refine C0.out.mono ?_
  rintro e w1 ⟨A, c, rfl, hL, hc, hm, hb1⟩
  have C1 := Lib.hid (build_tabs A c T w1 (hL.mono fun _ _ => trivial) hc HG.out)
  have L1 := Lib.hid (And.intro (hL.mono (S' := fun _ => True) fun _ _ => trivial) hb1)
  clear C0 hL hb1
  go_wp2_with fail
  refine C1.out.mono ?_
  rintro e w2 ⟨tp, rfl, hU, hb⟩
  have U2 := Lib.hid (And.intro hU (And.intro (L1.out.1.later hb) (L1.out.2.trans (hb.mono L1.out.2.size))))
  clear hU hb C1 L1
  have hT : T.length ≤ 100000 := by have := HG.out.len; omega
  obtain ⟨M, hM⟩ : ∃ M, (SG.startsP (KT T) l).map natI = M := ⟨_, rfl⟩
  have HM := Lib.hid hM
  have C2 := Lib.hid (starts_any (T := T) (tp := tp) A0 c0 l w2 U2.out.1 HK.out (HL.out.1.later U2.out.2.2) HL.out.2 hlc (by omega))
  rw [hM] at C2
  clear hM
  go_wp2_with fail
  refine C2.out.mono ?_
  rintro e w3 ⟨A3, n3, c3, rfl, ho, hb⟩
  have hn3 := own_count encI_len1 (by decide) ho
  have hli := (LiV.own encI_len1 (by decide) ho).parts.2.1
  subst hn3
  have U3 := Lib.hid (And.intro (RT.mk (U2.out.2.1.later hb) hc hT (HL.out.1.later (U2.out.2.2.trans (hb.mono U2.out.2.2.size))) HL.out.2 (by omega)) (And.intro (U2.out.2.2.trans (hb.mono U2.out.2.2.size)) hli))
  clear C2 ho hb hli U2
  have C3 := Lib.hid (rstarts_any c0 U3.out.1 hlc)
  rw [HM.out] at C3
  go_wp2_with fail
  refine C3.out.mono ?_
  rintro e w4 ⟨A4, n4, c4, rfl, ho, hb⟩
  have hn4 := own_count encI_len1 (by decide) ho
  have hli := (LiV.own encI_len1 (by decide) ho).parts.2.1
  subst hn4
  have hs : M.length ≤ 100000 := by
    rw [← HM.out, List.length_map]
    have := List.length_filter_le (SG.begAt (KT T) l) (List.range l.length)
    rw [List.length_range] at this
    exact Nat.le_trans this (by omega)
  have C4 := Lib.hid (samei_yes A3 A4 c3 c4 M w4 _ _ hs (U3.out.2.2.later hb) hli)
  have U4 := Lib.hid (U3.out.2.1.trans (hb.mono U3.out.2.1.size))
  clear C3 ho hb hli U3 hs HM
  go_wp2_with fail
  refine C4.out.mono ?_
  rintro e w5 ⟨rfl, hb⟩
  have U5 := Lib.hid (U4.out.trans (hb.mono U4.out.size))
  clear C4 hb U4
  go_wp2_with fail
  refine (AW.out _).mono ?_
  rintro e w6 ⟨rfl, hb⟩
  have U6 := Lib.hid (U5.out.trans (hb.mono U5.out.size))
  clear hb U5
  go_wp2
  go_ret
  exact ⟨rfl, U6.out⟩
end Go.Proofs.YtggapcfjcdafpaaGreat

namespace Go.Proofs.YtggapcfjcdafpaaGreat
open Go.RowKit
set_option linter.unusedVariables false
set_option linter.unusedSimpArgs false
def apartB (T : List RW.Row) : Bool := (T.filter fun y => y.k == 4 && (y.a == 1 || y.a == 2 || y.a == 3)).all fun y => (T.filter fun x => x.k == 5 || x.k == 6).all fun x => decide (x.t < y.f) || decide (y.t < x.f)
def linksB (T : List RW.Row) : Bool := (T.filter fun x => x.k == 6 && (x.a == 1 || x.a == 3)).all fun x => (List.range (x.t - x.f + 1).toNat).all fun j => breakB (vget 4 T) (x.f + (j : Nat)) == 4 || breakB (vget 4 T) (x.f + (j : Nat)) == 5
theorem rowHas {T : List RW.Row} {k r v : Int} (h : at0 0 (vget k T) r = v) (hv : v ≠ 0) : ∃ x ∈ T, x.k = k ∧ x.a = v ∧ x.f ≤ r ∧ r ≤ x.t := by
  unfold at0 at h
  split at h
  · unfold vget at h
    cases hr : RW.rval k T r with
    | none => rw [hr] at h; exact absurd h.symm hv
    | some p =>
      rw [hr] at h
      obtain ⟨x, hx, hk, h1, h2, rfl⟩ := rval_row hr
      exact ⟨x, hx, hk, h, h1, h2⟩
  · exact absurd h.symm hv
theorem br_row {T : List RW.Row} {r v : Int} (h : breakB (vget 4 T) r = v) (hv : v = 1 ∨ v = 2 ∨ v = 3) : ∃ x ∈ T, x.k = 4 ∧ x.a = v ∧ x.f ≤ r ∧ r ≤ x.t := by
  unfold breakB at h
  split at h
  · split at h <;> omega
  · exact rowHas h (by omega)
theorem apart_no {T : List RW.Row} (h : apartB T = true) {x y : RW.Row} {r : Int} (hx : x ∈ T) (hy : y ∈ T) (hk : x.k = 5 ∨ x.k = 6) (hy4 : y.k = 4) (ha : y.a = 1 ∨ y.a = 2 ∨ y.a = 3) (h1 : x.f ≤ r) (h2 : r ≤ x.t) (h3 : y.f ≤ r) (h4 : r ≤ y.t) : False := by
  have q := List.all_eq_true.1 h y (List.mem_filter.2 ⟨hy, by simp only [hy4, beq_self_eq_true, Bool.true_and, Bool.or_eq_true, beq_iff_eq]; omega⟩)
  have q := List.all_eq_true.1 q x (List.mem_filter.2 ⟨hx, by simp only [Bool.or_eq_true, beq_iff_eq]; exact hk⟩)
  simp only [Bool.or_eq_true, decide_eq_true_eq] at q
  omega
theorem kt_tidy {T : List RW.Row} (h : conjOk T = true) (hA : apartB T = true) (hL : linksB T = true) : (KT T).tidy := by
  have hc : ∀ r, (KT T).cj r ≠ 0 → (∃ x ∈ T, x.k = 6 ∧ x.a = (KT T).cj r ∧ x.f ≤ r ∧ r ≤ x.t) ∨ ((KT T).cj r = 3 ∧ ((KT T).br r = 4 ∨ (KT T).br r = 5)) := by
    intro r hr
    have e : (KT T).cj r = conjB (vget 6 T) (vget 4 T) r := rfl
    have eb : (KT T).br r = breakB (vget 4 T) r := rfl
    rw [e] at hr ⊢
    rw [eb]
    unfold conjB at hr ⊢
    by_cases h0 : at0 0 (vget 6 T) r = 0
    · rw [if_neg (by simpa using h0)] at hr ⊢
      split at hr
      · rename_i hh
        rw [if_pos hh]
        exact .inr ⟨rfl, hh.1⟩
      · exact absurd rfl hr
    · rw [if_pos (by simpa using h0)]
      exact .inl (rowHas rfl h0)
  refine ⟨kt_ok h, ?_, ?_⟩
  · intro r hr
    rcases hc r (by omega) with ⟨x, hx, hk, ha, h1, h2⟩ | h1
    · have q := List.all_eq_true.1 hL x (List.mem_filter.2 ⟨hx, by simp only [hk, beq_self_eq_true, Bool.true_and, Bool.or_eq_true, beq_iff_eq]; omega⟩)
      have q := List.all_eq_true.1 q (r - x.f).toNat (List.mem_range.2 (by omega))
      rw [show x.f + ((r - x.f).toNat : Int) = r by omega] at q
      have q' : breakB (vget 4 T) r = 4 ∨ breakB (vget 4 T) r = 5 := by simpa using q
      exact q'
    · exact h1.2
  · intro r hr
    obtain ⟨y, hy, hy4, hya, h3, h4⟩ := br_row (T := T) (r := r) rfl hr
    have hya' : y.a = 1 ∨ y.a = 2 ∨ y.a = 3 := by rw [hya]; exact hr
    constructor
    · by_cases h0 : (KT T).cj r = 0
      · exact h0
      · rcases hc r h0 with ⟨x, hx, hk, ha, h1, h2⟩ | h1
        · exact (apart_no hA hx hy (.inr hk) hy4 hya' h1 h2 h3 h4).elim
        · have := h1.2; omega
    · by_cases h0 : (KT T).pc r = true
      · have e : at0 0 (vget 5 T) r = 1 := by simpa using (show (at0 0 (vget 5 T) r == 1) = true from h0)
        obtain ⟨x, hx, hk, ha, h1, h2⟩ := rowHas e (by omega)
        exact (apart_no hA hx hy (.inl hk) hy4 hya' h1 h2 h3 h4).elim
      · simpa using h0
set_option maxRecDepth 100000 in
theorem given_tidy : apartB RW.rowsT = true ∧ linksB RW.rowsT = true := by
  constructor
  · decide +kernel
  · decide +kernel
theorem rows_tidy : (KT RW.rowsT).tidy := kt_tidy given_conj given_tidy.1 given_tidy.2
end Go.Proofs.YtggapcfjcdafpaaGreat

namespace Go.Proofs.YtggapcfjcdafpaaGreat.SG
open Go.RowKit
set_option linter.unusedVariables false
set_option linter.unusedSimpArgs false
theorem starts_sorted (K : Kinds) (s : List Int) : (startsP K s).Pairwise (· < ·) := (List.pairwise_lt_range).filter _
theorem starts_mem {K : Kinds} {s : List Int} {p : Nat} (h : p ∈ startsP K s) : p < s.length ∧ begAt K s p = true := by
  have := List.mem_filter.1 h
  exact ⟨List.mem_range.1 this.1, this.2⟩
theorem starts_nil {K : Kinds} {s : List Int} (h : (startsP K s).length = 0) : s.length = 0 := by
  rcases Nat.eq_zero_or_pos s.length with e | e
  · exact e
  · have : (0 : Nat) ∈ startsP K s := List.mem_filter.2 ⟨List.mem_range.2 e, rfl⟩
    rw [List.length_eq_zero_iff.1 h] at this
    cases this
theorem range_split (n p : Nat) (h : p ≤ n) : List.range n = List.range p ++ (List.range (n - p)).map (p + ·) := by
  rw [← List.range_add]
  congr 1
  omega
theorem starts_split {K : Kinds} (hK : K.tidy) {s : List Int} {p : Nat} (hp : p < s.length) (hb : begAt K s p = true) : startsP K s = upToP K s p ++ (startsP K (s.drop p)).map (p + ·) := by
  unfold startsP upToP
  rw [range_split s.length p (by omega), List.filter_append, List.filter_map, List.length_drop]
  congr 2
  apply List.filter_congr
  intro j hj
  have := List.mem_range.1 hj
  exact (begAt_drop hK hp hb (by omega)).symm
theorem starts_pos {K : Kinds} {s : List Int} (h : 0 < s.length) : ∃ q, startsP K s = 0 :: q := by
  unfold startsP
  obtain ⟨n, hn⟩ : ∃ n, s.length = n + 1 := ⟨s.length - 1, by omega⟩
  rw [hn, List.range_succ_eq_map, List.filter_cons_of_pos rfl]
  exact ⟨_, rfl⟩
/-- From the kth place on. -/
theorem starts_from {K : Kinds} (hK : K.tidy) {s : List Int} {k p : Nat} (hk : (startsP K s)[k]? = some p) : p < s.length ∧ (startsP K s).length = k + (startsP K (s.drop p)).length ∧ ∀ j, j < (startsP K (s.drop p)).length → (startsP K s).getD (k + j) 0 = (startsP K (s.drop p)).getD j 0 + p := by
  obtain ⟨hkl, hkp⟩ := List.getElem?_eq_some_iff.1 hk
  obtain ⟨hp, hb⟩ := starts_mem (List.mem_of_getElem? hk)
  have e := starts_split hK hp hb
  have hs := starts_sorted K s
  obtain ⟨q, hq⟩ := starts_pos (K := K) (s := s.drop p) (by simp; omega)
  have hlen : (startsP K s).length = (upToP K s p).length + (startsP K (s.drop p)).length := by
    have := congrArg List.length e
    rw [List.length_append, List.length_map] at this
    exact this
  have hpos : 0 < (startsP K (s.drop p)).length := by rw [hq]; simp
  have hm : (upToP K s p).length < (startsP K s).length := by omega
  have hmp : (startsP K s)[(upToP K s p).length]? = some p := by
    rw [e, List.getElem?_append_right (Nat.le_refl _), Nat.sub_self, hq]
    simp
  obtain ⟨_, hmp'⟩ := List.getElem?_eq_some_iff.1 hmp
  have hkm : k = (upToP K s p).length := by
    rcases Nat.lt_trichotomy k (upToP K s p).length with h | h | h
    · have := List.pairwise_iff_getElem.1 hs k _ hkl hm h
      omega
    · exact h
    · have := List.pairwise_iff_getElem.1 hs _ k hm hkl h
      omega
  refine ⟨hp, by omega, fun j hj => ?_⟩
  have : (startsP K s)[k + j]? = some (p + (startsP K (s.drop p))[j]) := by
    rw [e, hkm, List.getElem?_append_right (by omega), Nat.add_sub_cancel_left, List.getElem?_map, List.getElem?_eq_getElem hj]
    rfl
  simp only [List.getD, this, List.getElem?_eq_getElem hj, Option.getD_some]
  omega
end Go.Proofs.YtggapcfjcdafpaaGreat.SG

namespace Go.Proofs.YtggapcfjcdafpaaGreat
open Go.RowKit
set_option linter.unusedVariables false
set_option linter.unusedSimpArgs false

theorem li_drop {w : World} {S : Nat → Prop} {b o : Nat} {l : List Int} (h : Li 1 encC w S (some ⟨b, o, none⟩) l) (p : Nat) : Li 1 encC w S (some ⟨b, o + p, none⟩) (l.drop p) := by
  intro j x hj
  rw [List.getElem?_drop] at hj
  obtain ⟨b', o', e, hl, hs, hc⟩ := h (p + j) x hj
  injection e with e
  injection e with e1 e2
  subst e1; subst e2
  refine ⟨_, _, rfl, hl, hs, fun i u hu => ?_⟩
  have := hc i u hu
  rw [show o + p + (j * 1 + i) = o + ((p + j) * 1 + i) by omega]
  exact this
theorem map_getD (L : List Nat) (j : Nat) : (L.map natI).getD j 0 = ((L.getD j 0 : Nat) : Int) := by
  simp only [List.getD, List.getElem?_map]
  cases L[j]? <;> rfl
set_option maxHeartbeats 8000000 in
set_option maxRecDepth 100000 in
theorem walk_SegSuffix (w : World) (A0 : Option Addr) (n0 c0 : Nat) (f0 : Nat → Int) (hA : Rd w A0 n0 (fun j => .int .i32 (f0 j))) (hle : n0 ≤ c0) (hmax : c0 ≤ maxLen) (hp : ∀ j, j < n0 → (Lit.int .i32 (f0 j)).wf = true) (a1 : Int) (w1 : (Lit.int .i64 a1).wf = true) :
    Calls Tryz.prog 7 #[.slice A0 n0 c0, .int .i64 a1] w (Yes w) := by
  obtain ⟨T, hG, hT, C0⟩ := rows_li w
  obtain ⟨l, hll, hL0, hSc⟩ := came_text hA hp 200
  have hlc : l.length ≤ c0 := by omega
  have hl2 : l.length ≤ 200 := by omega
  have HG := Lib.hid hG
  have C0 := Lib.hid C0
  have HK := Lib.hid (show (KT T).tidy by rw [← hT]; exact rows_tidy)
  have AW := Lib.hid (fun X => awake10_yes X)
  have HL := Lib.hid (And.intro hL0 hSc)
  have CF := fews_any A0 n0 c0 200 w hle (by unfold maxLen at hmax; omega) (by omega)
  rw [← hll] at CF
  have CF := Lib.hid CF
  have hw := wf_i64 w1
  have hcm : c0 ≤ 9223372036854775807 := by unfold maxLen at hmax; omega
  clear hG hA hp hT hL0 hSc hll hle hmax w1
  go_enter Tryz.func7, Tryz.ntmps7
  go_wp2_with fail
  refine CF.out.mono ?_
  rintro e w0 ⟨rfl, rfl⟩
  clear CF
  go_wp2_with fail
  refine C0.out.mono ?_
  rintro e w1 ⟨A, c, rfl, hL, hc, hm, hb1⟩
  have C1 := Lib.hid (build_tabs A c T w1 (hL.mono fun _ _ => trivial) hc HG.out)
  have L1 := Lib.hid hb1
  clear C0 hL hb1
  go_wp2_with fail
  refine C1.out.mono ?_
  rintro e w2 ⟨tp, rfl, hU, hb⟩
  have U2 := Lib.hid (And.intro hU (L1.out.trans (hb.mono L1.out.size)))
  clear hU hb C1 L1 hc hm
  obtain ⟨M, hM⟩ : ∃ M, (SG.startsP (KT T) l).map natI = M := ⟨_, rfl⟩
  have HM := Lib.hid hM
  have C2 := Lib.hid (starts_any (T := T) (tp := tp) A0 c0 l w2 U2.out.1 HK.out.ok (HL.out.1.later U2.out.2) HL.out.2 hlc (by omega))
  rw [hM] at C2
  clear hM
  go_wp2_with fail
  refine C2.out.mono ?_
  rintro e w3 ⟨A3, n3, c3, rfl, ho, hb⟩
  have hn3 := own_count encI_len1 (by decide) ho
  have hli := (LiV.own encI_len1 (by decide) ho).parts.2.1
  subst hn3
  have U3 := Lib.hid (And.intro (U2.out.1.later hb) (And.intro (U2.out.2.trans (hb.mono U2.out.2.size)) hli))
  clear C2 ho hb hli U2
  have hs : M.length ≤ 200 := by
    rw [← HM.out, List.length_map]
    have := List.length_filter_le (SG.begAt (KT T) l) (List.range l.length)
    rw [List.length_range] at this
    exact Nat.le_trans this (by omega)
  by_cases hz : M.length = 0
  · have hl0 : l.length = 0 := SG.starts_nil (K := KT T) (by rw [← List.length_map (f := natI), HM.out]; exact hz)
    rw [hz, hl0]
    clear HM hz hl0 hs hl2 hlc HL
    go_wp2_with fail
    refine (AW.out _).mono ?_
    rintro e w6 ⟨rfl, hb⟩
    have U6 := Lib.hid (U3.out.2.1.trans (hb.mono U3.out.2.1.size))
    clear hb U3
    go_wp2
    go_ret
    exact ⟨rfl, U6.out⟩
  · obtain ⟨N, hN⟩ : ∃ N, M.length = N := ⟨_, rfl⟩
    have HN := Lib.hid hN
    rw [hN] at hs hz ⊢
    have z0 : ((N : Int) == 0) = false := by simp; omega
    have z1 : (N : Int) ≠ 0 := by omega
    have t0 := Int.tmod_lt_of_pos a1 (show (0 : Int) < N by omega)
    have t1 : -(N : Int) < a1.tmod N := by
      have := Int.lt_tmod_of_pos a1 (show (0 : Int) < N by omega)
      exact this
    clear hN
    go_upto_region 7 with fail
    obtain ⟨kk, hkk, hkN⟩ : ∃ kk : Nat, (a1.tmod N + N) % N = (kk : Int) ∧ kk < N := by
      have h0 := Int.emod_nonneg (a1.tmod N + N) z1
      have h1 := Int.emod_lt_of_pos (a1.tmod N + N) (show (0 : Int) < N by omega)
      exact ⟨((a1.tmod N + N) % N).toNat, by omega, by omega⟩
    rw [hkk]
    clear hkk t0 t1 hw
    obtain ⟨p, hkp⟩ : ∃ p, (SG.startsP (KT T) l)[kk]? = some p := by
      have : kk < (SG.startsP (KT T) l).length := by rw [← List.length_map (f := natI), HM.out, HN.out]; exact hkN
      exact ⟨_, List.getElem?_eq_getElem this⟩
    obtain ⟨hpl, hlen, hget⟩ := SG.starts_from HK.out hkp
    obtain ⟨M2, hM2⟩ : ∃ M, (SG.startsP (KT T) (l.drop p)).map natI = M := ⟨_, rfl⟩
    obtain ⟨R, hR⟩ : ∃ R, M2.length = R := ⟨_, rfl⟩
    have hNR : N = kk + R := by
      rw [← HN.out, ← HM.out, List.length_map, hlen, ← hR, ← hM2, List.length_map]
    have hMp : M.getD kk 0 = (p : Int) := by
      rw [← HM.out, map_getD, List.getD, hkp]
      rfl
    have HMM := Lib.hid (show ∀ j, j < R → M.getD (kk + j) 0 = M2.getD j 0 + p ∧ 0 ≤ M2.getD j 0 ∧ M2.getD j 0 ≤ 200 from by
      intro j hj
      have hj' : j < (SG.startsP (KT T) (l.drop p)).length := by rw [← List.length_map (f := natI), hM2, hR]; exact hj
      have h1 := hget j hj'
      have h2 : (SG.startsP (KT T) (l.drop p)).getD j 0 < (l.drop p).length := by
        rw [List.getD, List.getElem?_eq_getElem hj']
        exact (SG.starts_mem (List.getElem_mem hj')).1
      rw [List.length_drop] at h2
      rw [← HM.out, ← hM2, map_getD, map_getD, h1]
      omega)
    obtain ⟨b3, o3, rfl, hb3, hc3⟩ := (rdI U3.out.2.2).all (show 0 < M.length by have := HN.out; omega)
    rw [HN.out] at hc3
    obtain ⟨b0, o0, rfl, hb0, _, hc0⟩ := HL.out.1.scs (show 0 < l.length by omega)
    have HC3 := Lib.hid hc3
    have hcp : w3.cell? ⟨b3, o3 + kk, none⟩ = some (.int .i64 p) := by
      have := hc3 kk hkN
      rw [hMp] at this
      exact this
    have C5 := starts_any (T := T) (tp := tp) (some ⟨b0, o0 + p, none⟩) (c0 - p) (l.drop p) w3 U3.out.1 HK.out.ok (li_drop (HL.out.1.later U3.out.2.1) p) (HL.out.2.drop p) (by rw [List.length_drop]; omega) (by rw [List.length_drop]; omega)
    rw [hM2, List.length_drop] at C5
    have C5 := Lib.hid C5
    have HR := Lib.hid hR
    have q0 : ((R : Int) != (N : Int) - (kk : Int)) = false := by simp; omega
    have g0 : (kk : Int) < (N : Int) := by omega
    have g1 : (p : Int) ≤ (l.length : Int) := by omega
    have g2 : (l.length : Int) ≤ (c0 : Int) := by omega
    have g3 : (p : Int) ≤ (c0 : Int) := by omega
    have hp2 : p ≤ 200 := by omega
    have g4 : p < c0 := by omega
    have g5 : p < l.length := hpl
    have g6 : (p : Int) < (c0 : Int) := by omega
    have g7 : (c0 : Int) ≠ (p : Int) := by omega
    have g8 : c0 ≠ p := by omega
    clear hkp hpl hlen hget hM2 hR hMp hc3 hc0 HL HM HN HK hlc hl2
    go_wp2_with fail
    refine C5.out.mono ?_
    rintro e w5 ⟨A5, n5, c5, rfl, ho, hb⟩
    have hn5 := own_count encI_len1 (by decide) ho
    have hli := (LiV.own encI_len1 (by decide) ho).parts.2.1
    rw [HR.out] at hn5
    subst hn5
    have U5 := Lib.hid (And.intro (U3.out.2.1.trans (hb.mono U3.out.2.1.size)) (And.intro (And.intro hb3 (Below.refl w5.heap.size w5)) (And.intro (fun j hj => (hb.cell (p := ⟨b3, o3 + j, none⟩) hb3).trans (HC3.out j hj)) (rdI hli))))
    clear C5 ho hb hli U3 hcp HC3
    go_wp2_with fail
    go_loopw [9] (fun i wr => ∃ j : Nat, j ≤ R ∧ i = .int .i64 j ∧ ∃ m, wr = w5.drewN m) (fun i _ => R - (intOf i).toNat)
    case atStart => exact ⟨0, Nat.zero_le _, rfl, 0, rfl⟩
    case round =>
      obtain ⟨j, hj, rfl, m, rfl⟩ := hrel
      by_cases hlt : j < R
      · obtain ⟨b5, o5, rfl, _, hc5⟩ := U5.out.2.2.2 j (by rw [HR.out]; exact hlt)
        have hc4 := U5.out.2.2.1 (kk + j) (by omega)
        obtain ⟨e1, e2, e3⟩ := HMM.out j hlt
        rw [e1] at hc4
        obtain ⟨x, hx⟩ : ∃ x, M2.getD j 0 = x := ⟨_, rfl⟩
        dsimp only at hc5
        rw [hx] at hc4 hc5 e2 e3
        have h4 : ((x + (p : Int) != x + (p : Int))) = false := by simp
        have k0 : (kk : Int) + (j : Int) < (N : Int) := by omega
        have k1 : (0 : Int) ≤ (kk : Int) + (j : Int) := by omega
        clear e1 hx
        go_wp2
        go_quiet (fail)
        go_wp2
        go_roundw
        case rel => exact ⟨j + 1, by omega, by go_num, _, rfl⟩
        case measure => simp [intOf]; omega
      · obtain rfl : j = R := by omega
        go_wp2_with fail
        refine (AW.out _).mono ?_
        rintro e w6 ⟨rfl, hb⟩
        have U6 := Lib.hid (((belDrew U5.out.1 m).trans (hb.mono (belDrew U5.out.1 m).size)))
        clear hb U5
        go_wp2
        go_ret
        exact ⟨rfl, U6.out⟩
end Go.Proofs.YtggapcfjcdafpaaGreat

namespace Go.Proofs.YtggapcfjcdafpaaGreat
open Go.RowKit
set_option linter.unusedVariables false
set_option linter.unusedSimpArgs false

set_option maxHeartbeats 4000000 in
theorem rnext_any {W : World} {A : Option Addr} {c : Nat} {T : List RW.Row} {A2 : Option Addr} {l : List Int} (c2 : Nat) (h : RT W A c T A2 l) (hc2 : l.length ≤ c2) (at' : Nat) (hat : at' ≤ 1000000) :
    Calls Tryz.prog 25 #[.slice A T.length c, .slice A2 l.length c2, .int .i64 at'] W fun e w' => e = .returned (.int .i64 (SG.nextP (KT T) l (at' + 1) : Nat)) ∧ ∃ m, w' = W.drewN m := by
  have HB := Lib.hid (fun (n : Nat) (i : Nat) (hi : i < l.length) => begins_any c2 (h.later (selfDrew W n)) hc2 i hi)
  have hln := h.ln
  clear h
  obtain ⟨v, hv⟩ : ∃ v, SG.nextP (KT T) l (at' + 1) = v := ⟨_, rfl⟩
  rw [hv]
  have HV := Lib.hid hv
  clear hv
  go_enter Tryz.func25, Tryz.ntmps25
  go_wp2
  go_loopw [7] (fun i wr => ∃ k : Nat, k ≤ 1000001 + l.length ∧ i = .int .i64 k ∧ Hid (SG.nextP (KT T) l k = v) ∧ ∃ m, wr = W.drewN m) (fun i _ => l.length - (intOf i).toNat)
  case atStart => exact ⟨at' + 1, by have := HV.out; omega, by go_num, HV, 0, rfl⟩
  case round =>
    obtain ⟨k, hk, rfl, HK, m, rfl⟩ := hrel
    by_cases hlt : k < l.length
    · have C := Lib.hid (HB.out m k hlt)
      obtain ⟨q, hq⟩ : ∃ q, SG.begAt (KT T) l k = q := ⟨_, rfl⟩
      rw [hq] at C
      have HQ := Lib.hid hq
      clear hq
      have g0 : (k : Int) < (l.length : Int) := by omega
      go_wp2_with fail
      refine C.out.mono ?_
      rintro e w1 ⟨rfl, m2, rfl⟩
      clear C
      cases q
      case false =>
        have HN := Lib.hid (show SG.nextP (KT T) l (k + 1) = v by rw [← SG.nextP_no hlt HQ.out]; exact HK.out)
        clear HK HQ
        go_wp2
        go_roundw
        case rel => exact ⟨k + 1, by omega, by go_num, HN, _, rfl⟩
        case measure => simp [intOf]; omega
      case true =>
        obtain rfl : k = v := by rw [← HK.out, SG.nextP_yes hlt HQ.out]
        clear HK HQ HB HV
        go_wp2
        go_ret
        exact ⟨rfl, _, rfl⟩
    · obtain rfl : l.length = v := by rw [← HK.out, SG.nextP_end (by omega)]
      have g0 : (l.length : Int) ≤ (k : Int) := by omega
      clear HK HB HV
      go_wp2
      go_ret
      exact ⟨rfl, _, rfl⟩
end Go.Proofs.YtggapcfjcdafpaaGreat
