/- rows: At. -/
import Derived.Test.YtkcielidjlgedaaRw1
import Derived.Shelf.SlSorted.Search
import Derived.Shelf.Lay
import Derived.Ground.SlsoProg
namespace Go.Proofs
open Go.Shelf
shelf_lay SlLaysO.n16 Slso 16 at Try as Ytkcielidjlgedaa.searchF
end Go.Proofs
namespace Go.Proofs.Ytkcielidjlgedaa
open Go.RowKit Go.Shelf Go.Sort
set_option linter.unusedVariables false
set_option linter.unusedSimpArgs false

def atP (S : List Span) (r : Int) : Option Span := S.find? (Span.has r)
def atV : Option Span → Value
  | some s => .tuple #[.agg (encS s).toArray, .bool true]
  | none => .tuple #[.agg #[.int .i64 0, .int .i64 0, .int .i64 0, .int .i64 0], .bool false]
def tAt (S : List Span) (i : Nat) : Int := ((S[i]?).map Span.t).getD 0
def cntP (S : List Span) (r : Int) : Nat := (List.range S.length).countP fun i => !decide (r ≤ tAt S i)

theorem rise_t {S : List Span} (h : Rise S) {i j : Nat} (hij : i ≤ j) (hj : j < S.length) : tAt S i ≤ tAt S j := by
  rcases Nat.lt_or_eq_of_le hij with h1 | rfl
  · have h2 := List.pairwise_iff_getElem.1 h.1 i j (by omega) hj h1
    have h3 := h.2 S[j] (List.getElem_mem hj)
    simp [tAt, hj, show i < S.length by omega]
    omega
  · exact Int.le_refl _
theorem count_range {n : Nat} {p : Nat → Bool} (hm : ∀ a b, a ≤ b → b < n → p a = true → p b = true) : ∀ i, i < n → (i < (List.range n).countP (fun i => !p i) ↔ p i = false) := by
  induction n with
  | zero => intro i hi; omega
  | succ n ih =>
    have ih := ih fun a b h1 h2 h3 => hm a b h1 (by omega) h3
    intro i hi
    rw [List.range_succ, List.countP_append]
    have hle : (List.range n).countP (fun i => !p i) ≤ n := by have := List.countP_le_length (p := fun i => !p i) (l := List.range n); simpa using this
    by_cases hp : p n = true
    · have e : List.countP (fun i => !p i) [n] = 0 := by simp [hp]
      rw [e, Nat.add_zero]
      rcases Nat.lt_or_eq_of_le (Nat.le_of_lt_succ hi) with h | rfl
      · exact ih i h
      · constructor
        · intro h; omega
        · intro h; rw [hp] at h; cases h
    · have hp' : p n = false := by simpa using hp
      have e : List.countP (fun i => !p i) [n] = 1 := by simp [hp']
      rw [e]
      have hall : ∀ a, a < n → p a = false := fun a ha => by
        cases h : p a with
        | false => rfl
        | true => exact absurd (hm a n (by omega) (by omega) h) (by simp [hp'])
      have hcn : (List.range n).countP (fun i => !p i) = n := by
        have : (List.range n).countP (fun i => !p i) = (List.range n).length := List.countP_eq_length.2 fun a ha => by simp [hall a (List.mem_range.1 ha)]
        simpa using this
      rw [hcn]
      constructor
      · intro _
        rcases Nat.lt_or_eq_of_le (Nat.le_of_lt_succ hi) with h | rfl
        · exact hall i h
        · exact hp'
      · intro _; omega
theorem cnt_iff {S : List Span} (h : Rise S) (r : Int) (i : Nat) (hi : i < S.length) : i < cntP S r ↔ tAt S i < r := by
  have := count_range (n := S.length) (p := fun i => decide (r ≤ tAt S i)) (fun a b h1 h2 h3 => by have := rise_t h h1 h2; simp at h3 ⊢; omega) i hi
  unfold cntP
  rw [this]
  simp
theorem cnt_le (S : List Span) (r : Int) : cntP S r ≤ S.length := by
  have := List.countP_le_length (p := fun i => !decide (r ≤ tAt S i)) (l := List.range S.length)
  simpa [cntP] using this
theorem at_some {S : List Span} (h : Rise S) (r : Int) {x : Span} (hx : S[cntP S r]? = some x) (hf : x.f ≤ r) : atP S r = some x := by
  obtain ⟨hlt, hxe⟩ := List.getElem?_eq_some_iff.1 hx
  have h1 : ¬ tAt S (cntP S r) < r := fun h' => by have := (cnt_iff h r _ hlt).2 h'; omega
  have h2 : tAt S (cntP S r) = x.t := by simp [tAt, hx]
  unfold atP
  rw [List.find?_eq_some_iff_getElem]
  refine ⟨by simp [Span.has]; omega, cntP S r, hlt, hxe, fun j hj => ?_⟩
  have h3 := (cnt_iff h r j (by omega)).1 hj
  simp [tAt, show j < S.length by omega] at h3
  simp [Span.has]; omega
theorem at_none {S : List Span} (h : Rise S) (r : Int) (hn : ∀ x, S[cntP S r]? = some x → r < x.f) : atP S r = none := by
  unfold atP
  rw [List.find?_eq_none]
  intro s hs
  obtain ⟨j, hj, hje⟩ := List.getElem_of_mem hs
  simp [Span.has]
  intro h1
  rcases Nat.lt_trichotomy j (cntP S r) with h' | h' | h'
  · have h3 := (cnt_iff h r j hj).1 h'
    simp [tAt, hj, hje] at h3
    exact h3
  · subst h'
    have := hn s (by rw [List.getElem?_eq_getElem hj, hje])
    omega
  · have hc : cntP S r < S.length := by omega
    have h4 := hn _ (List.getElem?_eq_getElem hc)
    have h5 := List.pairwise_iff_getElem.1 h.1 (cntP S r) j hc hj h'
    have h6 := h.2 _ (List.getElem_mem hc)
    rw [hje] at h5
    omega

set_option maxHeartbeats 1000000 in
theorem at1_any (A : Option Addr) (c : Nat) (S : List Span) (r : Int) (p q i : Nat) (W : World) (hS : Li 4 encS W (fun _ => True) A S) (hp : W.cell? ⟨p, 0, none⟩ = some (.slice A S.length c)) (hq : W.cell? ⟨q, 0, none⟩ = some (.int .i32 r)) (hi : i < S.length) (hn : S.length ≤ 2000000) (hr1 : -2147483648 ≤ r) (hr2 : r ≤ 2147483647) :
    Calls Try.prog 27 #[.int .i64 i, .pointer (some ⟨p, 0, none⟩), .pointer (some ⟨q, 0, none⟩)] W fun e w' => e = .returned (.bool (decide (r ≤ tAt S i))) ∧ ∃ n, w' = W.drewN n := by
  obtain ⟨x, b, o, hx, rfl, _, _, _, c1, _, _⟩ := hS.span hi
  have ht : tAt S i = x.t := by simp [tAt, hx]
  rw [ht]
  have hi2 : (i : Int) < (S.length : Int) := by omega
  have hi3 : (0 : Int) ≤ (i : Int) := by omega
  clear hS hx ht
  go_enter Try.func27, Try.ntmps27
  go_wp2
  go_quiet (fail)
  go_wp2
  go_ret
  exact ⟨rfl, _, rfl⟩

set_option maxHeartbeats 4000000 in
theorem at_any (A : Option Addr) (c : Nat) (S : List Span) (r : Int) (w : World) (hS : Li 4 encS w (fun _ => True) A S) (hc : S.length ≤ c) (hc2 : c ≤ 9223372036854775807) (hn : S.length ≤ 2000000) (hR : Rise S) (hr1 : -2147483648 ≤ r) (hr2 : r ≤ 2147483647) :
    Calls Try.prog 11 #[.slice A S.length c, .int .i32 r] w fun e w' => e = .returned (atV (atP S r)) ∧ Below w.heap.size w w' := by
  have HS := Lib.hid hS
  have HR := Lib.hid hR
  have hcl := cnt_le S r
  have HC := Lib.hid (show (∀ x, S[cntP S r]? = some x → x.f ≤ r → atP S r = some x) ∧ ((∀ x, S[cntP S r]? = some x → r < x.f) → atP S r = none) from ⟨fun x h1 h2 => at_some hR r h1 h2, fun h => at_none hR r h⟩)
  clear hS hR
  go_enter Try.func11, Try.ntmps11
  go_wp2_with fail
  refine atCalls (fun X => Below w.heap.size w X ∧ Blk X w.heap.size #[.slice A S.length c] ∧ Blk X (w.heap.size + 1) #[.int .i32 r] ∧ Blk X (w.heap.size + 1 + 1) #[.int .i64 0, .int .i64 0, .int .i64 0, .int .i64 0]) ⟨(((Below.refl _ _).alloc (Nat.le_refl _) _).alloc (by simp) _).alloc (by simp; omega) _, (blk_three _ _ _ _ _ _ _).1, (blk_three _ _ _ _ _ _ _).2.1, (blk_three _ _ _ _ _ _ _).2.2⟩ ?_
  rintro X ⟨hX, b0, b1, b2⟩
  have HX := Lib.hid (And.intro hX (And.intro b0 (And.intro b1 b2)))
  clear hX b0 b1 b2
  have eg : ∀ args w, (callFunc 27 args).run Try.prog w = .ok (.enter 27 args) w := enters_of Try.func27 (by kernel_rfl) rfl
  have hs := Any.sort_Search searchF 27 #[.pointer (some ⟨w.heap.size, 0, none⟩), .pointer (some ⟨w.heap.size + 1, 0, none⟩)] S.length (fun i => decide (r ≤ tAt S i)) X eg (by omega)
    (fun m os i hi => by
      have hb : Below X.heap.size X (grow (X.drewN m) os) := (selfDrew X m).trans (belGrow (X.drewN m) os)
      have k0 := (HX.out.2.1.later hb HX.out.2.1.1).2.1 0
      have k1 := (HX.out.2.2.1.later hb HX.out.2.2.1.1).2.1 0
      refine (at1_any A c S r w.heap.size (w.heap.size + 1) i (grow (X.drewN m) os) ((HS.out.later HX.out.1).later hb) k0 k1 hi hn hr1 hr2).mono ?_
      rintro e w' ⟨he, n, rfl⟩
      exact ⟨he, n, #[], by rw [grow_empty]⟩)
    (fun a b h1 h2 h3 => by have := rise_t HR.out h1 h2; simp at h3 ⊢; omega)
  change Calls Try.prog 26 #[.int .i64 S.length, .func (.func 27) #[] #[.pointer (some ⟨w.heap.size, 0, none⟩), .pointer (some ⟨w.heap.size + 1, 0, none⟩)]] X _ at hs
  change Calls _ _ _ _ fun e w' => e = .returned (.int .i64 (cntP S r : Nat)) ∧ ∃ q os, w' = grow (X.drewN q) os at hs
  have H1 := Lib.hid hs
  clear hs
  refine H1.out.mono ?_
  rintro e w1 ⟨rfl, q, os, hw⟩
  have hb : Below X.heap.size X w1 := by rw [hw]; exact (selfDrew X q).trans (belGrow (X.drewN q) os)
  have HY := Lib.hid (show Below w.heap.size w w1 ∧ Blk w1 w.heap.size #[.slice A S.length c] ∧ Blk w1 (w.heap.size + 1) #[.int .i32 r] ∧ Blk w1 (w.heap.size + 1 + 1) #[.int .i64 0, .int .i64 0, .int .i64 0, .int .i64 0] from
    ⟨HX.out.1.trans (hb.mono HX.out.1.size), HX.out.2.1.later hb HX.out.2.1.1, HX.out.2.2.1.later hb HX.out.2.2.1.1, HX.out.2.2.2.later hb HX.out.2.2.2.1⟩)
  clear hw hb H1 HX
  have z0 : w1.cell? ⟨w.heap.size, 0, none⟩ = some (.slice A S.length c) := HY.out.2.1.2.1 0
  have z1 : w1.cell? ⟨w.heap.size + 1, 0, none⟩ = some (.int .i32 r) := HY.out.2.2.1.2.1 0
  have y0 : w1.cell? ⟨w.heap.size + 1 + 1, 0, none⟩ = some (.int .i64 0) := HY.out.2.2.2.2.1 0
  have y1 : w1.cell? ⟨w.heap.size + 1 + 1, 1, none⟩ = some (.int .i64 0) := HY.out.2.2.2.2.1 1
  have y2 : w1.cell? ⟨w.heap.size + 1 + 1, 2, none⟩ = some (.int .i64 0) := HY.out.2.2.2.2.1 2
  have y3 : w1.cell? ⟨w.heap.size + 1 + 1, 3, none⟩ = some (.int .i64 0) := HY.out.2.2.2.2.1 3
  have f0 := HY.out.2.2.2.2.2 0
  have f1 := HY.out.2.2.2.2.2 1
  have f2 := HY.out.2.2.2.2.2 2
  have f3 := HY.out.2.2.2.2.2 3
  have fl := HY.out.2.2.2.1
  obtain ⟨n, hne⟩ : ∃ n, cntP S r = n := ⟨_, rfl⟩
  rw [hne] at HC hcl
  rw [hne]
  clear hne
  by_cases hlt : n < S.length
  · obtain ⟨x, b, o, hx, rfl, hbl, _, c0, c1, c2, c3⟩ := (HS.out.later HY.out.1).span hlt
    have g1 : decide ((n : Int) < (S.length : Int)) = true := decide_eq_true (by omega)
    have g2 : (n : Int) < (S.length : Int) := by omega
    have g3 : (0 : Int) ≤ (n : Int) := by omega
    by_cases hf : x.f ≤ r
    · have HV := Lib.hid (HC.out.1 x hx hf)
      have g4 : decide (x.f ≤ r) = true := decide_eq_true hf
      clear hx HC
      go_wp2_with fail
      go_quiet (fail)
      go_wp2_with fail
      refine bodyPost_ret (v := .tuple #[.agg #[.int .i64 x.f, .int .i64 x.t, .int .i64 x.a, .int .i64 x.b], .bool true]) (by simp [results, Try.results11, go_sem, y0, y1, y2, y3, f0, f1, f2, f3, fl]) rfl ⟨by rw [HV.out]; rfl, ?_⟩
      exact ((((belDrew HY.out.1 _).setCell (by simp; omega) _).setCell (by simp; omega) _).setCell (by simp; omega) _).setCell (by simp; omega) _
    · have HV := Lib.hid (HC.out.2 fun y hy => by rw [hx] at hy; injection hy with hy; subst hy; omega)
      have g4 : decide (x.f ≤ r) = false := decide_eq_false hf
      clear hx HC
      go_wp2_with fail
      go_quiet (fail)
      go_wp2_with fail
      refine bodyPost_ret (v := .tuple #[.agg #[.int .i64 0, .int .i64 0, .int .i64 0, .int .i64 0], .bool false]) (by simp [results, Try.results11, go_sem, y0, y1, y2, y3, f0, f1, f2, f3, fl]) rfl ⟨by rw [HV.out]; rfl, ?_⟩
      exact ((((belDrew HY.out.1 _).setCell (by simp; omega) _).setCell (by simp; omega) _).setCell (by simp; omega) _).setCell (by simp; omega) _
  · have HV := Lib.hid (HC.out.2 fun y hy => by have := (List.getElem?_eq_some_iff.1 hy).1; omega)
    have g1 : decide ((n : Int) < (S.length : Int)) = false := decide_eq_false (by omega)
    clear HC
    go_wp2_with fail
    go_quiet (fail)
    go_wp2_with fail
    refine bodyPost_ret (v := .tuple #[.agg #[.int .i64 0, .int .i64 0, .int .i64 0, .int .i64 0], .bool false]) (by simp [results, Try.results11, go_sem, y0, y1, y2, y3, f0, f1, f2, f3, fl]) rfl ⟨by rw [HV.out]; rfl, ?_⟩
    exact ((((belDrew HY.out.1 _).setCell (by simp; omega) _).setCell (by simp; omega) _).setCell (by simp; omega) _).setCell (by simp; omega) _
end Go.Proofs.Ytkcielidjlgedaa
