/- grid: the document's grid in memory; In, New. -/
import Derived.Test.YtednedklkbjihaaDoorGeE

namespace Go.Proofs.YtednedklkbjihaaDoor

open Go.RowKit

set_option linter.unusedVariables false

set_option linter.unusedSimpArgs false
set_option maxRecDepth 100000

/-- The document's grid: rows in blocks of their own. -/
structure RG (w : World) (lo hi ob Co R n : Nat) (rb Cr : Nat → Nat) (F : Nat → Nat → Cl) : Prop where
  out : ∀ r, r < R → w.cell? ⟨ob, r, none⟩ = some (.slice (some ⟨rb r, 0, none⟩) n (Cr r))
  rows : ∀ r, r < R → ∃ cs, Blk w (rb r) cs ∧ n * 2 ≤ cs.size ∧ Is cs 0 n (F r)
  wf : ∀ r, r < R → WF n (F r)
  o0 : ob < w.heap.size
  o1 : lo ≤ ob
  o2 : ob < hi
  b1 : ∀ r, r < R → lo ≤ rb r ∧ rb r < hi ∧ rb r ≠ ob
  inj : ∀ r r', r < R → r' < R → r ≠ r' → rb r ≠ rb r'
  r1 : 1 ≤ R
  r2 : R ≤ 500
  n1 : 2 ≤ n
  n2 : n ≤ 1000
  cap : R ≤ Co ∧ Co ≤ 9223372036854775807
  caps : ∀ r, r < R → n ≤ Cr r ∧ Cr r ≤ 9223372036854775807

theorem cell_chg {S : Nat → Prop} {w v : World} (k : Chg S w v) {b j : Nat} (hb : b < w.heap.size) (hS : ¬ S b) : v.cell? ⟨b, j, none⟩ = w.cell? ⟨b, j, none⟩ := World.cell?_of_block (a := ⟨b, j, none⟩) (k.block b hb hS)

theorem RG.chg {S : Nat → Prop} {w v : World} {lo hi ob Co R n : Nat} {rb Cr : Nat → Nat} {F : Nat → Nat → Cl} (h : RG w lo hi ob Co R n rb Cr F) (k : Chg S w v) (hS : ∀ j, lo ≤ j → j < hi → ¬ S j) : RG v lo hi ob Co R n rb Cr F := by
  refine ⟨fun r hr => (cell_chg k h.o0 (hS _ h.o1 h.o2)).trans (h.out r hr), fun r hr => ?_, h.wf, Nat.lt_of_lt_of_le h.o0 k.size, h.o1, h.o2, h.b1, h.inj, h.r1, h.r2, h.n1, h.n2, h.cap, h.caps⟩
  obtain ⟨cs, hb, hs, hi'⟩ := h.rows r hr
  exact ⟨cs, hb.chg k (hS _ (h.b1 r hr).1 (h.b1 r hr).2.1), hs, hi'⟩
theorem RG.later {w v : World} {lo hi ob Co R n : Nat} {rb Cr : Nat → Nat} {F : Nat → Nat → Cl} (h : RG w lo hi ob Co R n rb Cr F) (k : Below w.heap.size w v) : RG v lo hi ob Co R n rb Cr F := h.chg (chg_below k) fun _ _ _ => id

theorem RG.rowAt {w : World} {lo hi ob Co R n : Nat} {rb Cr : Nat → Nat} {F : Nat → Nat → Cl} (h : RG w lo hi ob Co R n rb Cr F) {r : Nat} (hr : r < R) :
    ∃ cs, RowAt w (rb r) cs 0 n (F r) ∧ ∀ w' cs' G', Blk w' (rb r) cs' → Out cs cs' 0 n → Is cs' 0 n G' → WF n G' → Chg (fun k => k = rb r) w w' → RG w' lo hi ob Co R n rb Cr (updR F r G') := by
  obtain ⟨cs, hb, hs, hi'⟩ := h.rows r hr
  have hn2 := h.n2
  refine ⟨cs, ⟨hb, by omega, hi', h.wf r hr, by omega⟩, fun w' cs' G' hB hO hI hW hC => ?_⟩
  have hne := (h.b1 r hr).2.2
  refine ⟨fun r' hr' => (cell_chg hC h.o0 (Ne.symm hne)).trans (h.out r' hr'), fun r' hr' => ?_, fun r' hr' => ?_, Nat.lt_of_lt_of_le h.o0 hC.size, h.o1, h.o2, h.b1, h.inj, h.r1, h.r2, h.n1, h.n2, h.cap, h.caps⟩
  · unfold updR
    by_cases e : r' = r
    · subst e; rw [if_pos rfl]; exact ⟨cs', hB, by rw [hO.1]; exact hs, hI⟩
    · rw [if_neg e]
      obtain ⟨cs2, hb2, hs2, hi2⟩ := h.rows r' hr'
      exact ⟨cs2, hb2.chg hC (h.inj r' r hr' hr e), hs2, hi2⟩
  · unfold updR
    by_cases e : r' = r
    · rw [if_pos e]; exact hW
    · rw [if_neg e]; exact h.wf r' hr'

abbrev gv (ob R Co : Nat) : Value := .slice (some ⟨ob, 0, none⟩) R Co

/-! ### In -/
theorem in_nil (r c : Int) (w : World) : Calls Tryd.prog 50 #[.slice none 0 0, .int .i64 r, .int .i64 c] w fun e w' => e = .returned (.bool false) ∧ w = w' := by
  by_cases h0 : 0 ≤ r
  · have h1 : decide (r < 0) = false := decide_eq_false (by omega)
    go_enter Tryd.func50, Tryd.ntmps50
    go_wp2
    go_ret
    exact ⟨rfl, rfl⟩
  · go_enter Tryd.func50, Tryd.ntmps50
    go_wp2
    go_ret
    exact ⟨rfl, rfl⟩

theorem in_no {w : World} {lo hi ob Co R n : Nat} {rb Cr : Nat → Nat} {F : Nat → Nat → Cl} (h : RG w lo hi ob Co R n rb Cr F) {r c : Int} (hi' : ¬ ((0 ≤ r ∧ r < R) ∧ (0 ≤ c ∧ c < n))) :
    Calls Tryd.prog 50 #[gv ob R Co, .int .i64 r, .int .i64 c] w fun e w' => e = .returned (.bool false) ∧ w = w' := by
  have hR := h.r2
  have hn := h.n2
  have hx : r < 0 ∨ (0 ≤ r ∧ (R : Int) ≤ r) ∨ (0 ≤ r ∧ r < R ∧ c < 0) ∨ (0 ≤ r ∧ r < R ∧ 0 ≤ c ∧ (n : Int) ≤ c) := by omega
  have HO := Lib.hid h.out
  have hcap := h.cap
  clear h hi'
  rcases hx with h0 | ⟨h0, h1⟩ | ⟨h0, h1, h2⟩ | ⟨h0, h1, h2, h3⟩
  · go_enter Tryd.func50, Tryd.ntmps50
    go_wp2
    go_ret
    exact ⟨rfl, rfl⟩
  · go_enter Tryd.func50, Tryd.ntmps50
    go_wp2
    go_ret
    exact ⟨rfl, rfl⟩
  · go_enter Tryd.func50, Tryd.ntmps50
    go_wp2
    go_ret
    exact ⟨rfl, rfl⟩
  · obtain ⟨m, rfl⟩ := Int.eq_ofNat_of_zero_le h0
    have l := HO.out m (by omega)
    have d := decide_eq_false (show ¬ c < (n : Int) by omega)
    go_enter Tryd.func50, Tryd.ntmps50
    go_wp2
    go_ret
    exact ⟨rfl, rfl⟩

theorem in_yes {w : World} {lo hi ob Co R n : Nat} {rb Cr : Nat → Nat} {F : Nat → Nat → Cl} (h : RG w lo hi ob Co R n rb Cr F) {r c : Nat} (hr : r < R) (hc : c < n) :
    Calls Tryd.prog 50 #[gv ob R Co, .int .i64 r, .int .i64 c] w fun e w' => e = .returned (.bool true) ∧ w = w' := by
  have hR := h.r2
  have hn := h.n2
  have l := h.out r hr
  have hcap := h.cap
  have d1 : (r : Int) < (R : Int) := by omega
  have d2 : (c : Int) < (n : Int) := by omega
  clear h
  go_enter Tryd.func50, Tryd.ntmps50
  go_wp2
  go_ret
  exact ⟨rfl, rfl⟩

/-! ### New -/
theorem cellR_elt : Elt Tryd.prog 77 97 2 24 := elt_of Tryd.underlying77 (z := .agg #[.string ⟨#[]⟩, .int .i64 0]) (by kernel_rfl) rfl (by decide)
theorem rows_elt : Elt Tryd.prog 26 77 1 24 := elt_of Tryd.underlying26 (z := .slice none 0 0) (by kernel_rfl) rfl (by decide)

theorem newR_no {R n : Int} (w : World) (h : ¬ (1 ≤ R ∧ R ≤ 500 ∧ 2 ≤ n ∧ n ≤ 1000)) : Calls Tryd.prog 25 #[.int .i64 R, .int .i64 n] w fun e w' => e = .returned (.slice none 0 0) ∧ w = w' := by
  have hc : R < 1 ∨ (1 ≤ R ∧ 500 < R) ∨ (1 ≤ R ∧ R ≤ 500 ∧ n < 2) ∨ (1 ≤ R ∧ R ≤ 500 ∧ 2 ≤ n ∧ 1000 < n) := by omega
  clear h
  rcases hc with h | ⟨h, h1⟩ | ⟨h, h1, h2⟩ | ⟨h, h1, h2, h3⟩
  all_goals
    go_enter Tryd.func25, Tryd.ntmps25
    go_wp2
    go_ret
    exact ⟨rfl, rfl⟩

def blankF (_ _ : Nat) : Cl := blank
def blankR (_ : Nat) : Cl := blank

/-- The rows that were laid so far. -/
structure Made (w wr : World) (n k : Nat) (v : Value) (xs : List Value) (rb Cr : Nat → Nat) : Prop where
  own : wr.ownsRow w.heap.size 77 1 v k xs
  below : Below w.heap.size w wr
  cell : ∀ j, j < k → xs[j]? = some (.slice (some ⟨rb j, 0, none⟩) n (Cr j))
  row : ∀ j, j < k → w.heap.size ≤ rb j ∧ some (rb j) ≠ v.ownBlock ∧ ∃ cs, Blk wr (rb j) cs ∧ n * 2 ≤ cs.size ∧ Is cs 0 n blankR
  inj : ∀ i j, i < k → j < k → i ≠ j → rb i ≠ rb j
  caps : ∀ j, j < k → n ≤ Cr j ∧ Cr j ≤ 9223372036854775807

theorem Made.push {w wr wi w3 : World} {n k g c c3 : Nat} {v : Value} {A3 : Option Addr} {xs : List Value} {rb Cr : Nat → Nat} {cs : Array Value} (h : Made w wr n k v xs rb Cr) (hb : Below wr.heap.size wr wi)
    (hg : wr.heap.size ≤ g) (hB : Blk wi g cs) (hs : n * 2 ≤ cs.size) (hI : Is cs 0 n blankR) (hc : n ≤ c ∧ c ≤ 9223372036854775807)
    (P : Pushed wi w3 w.heap.size 77 1 v (k + 1) (xs ++ [.slice (some ⟨g, 0, none⟩) n c]) A3 c3) :
    Made w w3 n (k + 1) (.slice A3 (k + 1) c3) (xs ++ [.slice (some ⟨g, 0, none⟩) n c]) (fun j => if j = k then g else rb j) (fun j => if j = k then c else Cr j) := by
  have hx : xs.length = k := by have := h.own.1; omega
  have hz := h.below.size
  have hlt : ∀ j, j < k → rb j < wr.heap.size := fun j hj => by obtain ⟨_, _, cs2, b2, _⟩ := h.row j hj; exact b2.1
  have hgv : some g ≠ v.ownBlock := fun e => by have := (h.own.lt g e.symm).2; omega
  have hnew : ∀ b, b < wi.heap.size → some b ≠ v.ownBlock → some b ≠ (Value.slice A3 (k + 1) c3).ownBlock := by
    intro b hb' hne e
    rcases P.at_ with e1 | ⟨q, e1, hq⟩
    · exact hne (e.trans e1)
    · rw [e1] at e; injection e with e; omega
  refine ⟨P.own, ?_, fun j hj => ?_, fun j hj => ?_, fun i j hi hj hij => ?_, fun j hj => ?_⟩
  · exact P.below (h.below.trans (hb.mono hz)) (own_later h.own hb) (Nat.le_refl _)
  · by_cases e : j = k
    · subst e; rw [if_pos rfl, if_pos rfl, List.getElem?_append_right (by omega), hx]; simp
    · rw [if_neg e, if_neg e, List.getElem?_append_left (by omega)]; exact h.cell j (by omega)
  · by_cases e : j = k
    · simp only [if_pos e]
      exact ⟨by omega, hnew g hB.1 hgv, cs, hB.grown P.grown hgv, hs, hI⟩
    · simp only [if_neg e]
      obtain ⟨h1, h2, cs2, b2, s2, i2⟩ := h.row j (by omega)
      exact ⟨h1, hnew _ (Nat.lt_of_lt_of_le b2.1 hb.size) h2, cs2, (b2.later hb b2.1).grown P.grown h2, s2, i2⟩
  · by_cases e : i = k
    · have ej : j ≠ k := by omega
      simp only [if_pos e, if_neg ej]
      have := hlt j (by omega)
      omega
    · simp only [if_neg e]
      by_cases ej : j = k
      · simp only [if_pos ej]
        have := hlt i (by omega)
        omega
      · simp only [if_neg ej]
        exact h.inj i j (by omega) (by omega) hij
  · by_cases e : j = k
    · simp only [if_pos e]; exact hc
    · simp only [if_neg e]; exact h.caps j (by omega)

theorem is_rowCells {cs : Array Value} {G : Nat → Cl} {n : Nat} (h : ∀ (j : Nat) (u : Value), (rowCells G n)[j]? = some u → cs[j]? = some u) : Is cs 0 n G := fun j hj =>
  ⟨by rw [Nat.zero_add]; exact h _ _ (rowCells_fst G n j hj), by rw [Nat.zero_add]; exact h _ _ (rowCells_snd G n j hj)⟩

set_option maxHeartbeats 2000000 in
set_option maxRecDepth 100000 in
theorem newR_in {R n : Nat} (w : World) (h1 : 1 ≤ R) (h2 : R ≤ 500) (h3 : 2 ≤ n) (h4 : n ≤ 1000) :
    Calls Tryd.prog 25 #[.int .i64 R, .int .i64 n] w fun e w' => ∃ ob Co rb Cr, e = .returned (gv ob R Co) ∧ RG w' w.heap.size w'.heap.size ob Co R n rb Cr blankF ∧ Below w.heap.size w w' := by
  go_enter Tryd.func25, Tryd.ntmps25
  go_wp2_with fail
  go_loopw [5, 6] (fun v i wr => ∃ k : Nat, k ≤ R ∧ i = .int .i64 k ∧ Hid (∃ xs rb Cr, Made w wr n k v xs rb Cr)) (fun _ i _ => R - (intOf i).toNat)
  case atStart => exact ⟨0, Nat.zero_le _, rfl, ⟨[], fun _ => 0, fun _ => 0, World.ownsRow_nil _ _ _ _, Below.refl _ _, fun j h => absurd h (by omega), fun j h => absurd h (by omega), fun i j h => absurd h (by omega), fun j h => absurd h (by omega)⟩⟩
  case round =>
    obtain ⟨wo, hwo⟩ : ∃ wo, wo = wr := ⟨_, rfl⟩
    subst hwo
    obtain ⟨k, hk, rfl, HM⟩ := hrel
    by_cases hlt : k < R
    · go_wp2_with fail
      go_loopw [7, 8] (fun v i wr => ∃ c : Nat, c ≤ n ∧ i = .int .i64 c ∧ Hid (wr.ownsRow wo.heap.size 97 2 v c (rowCells blankR c) ∧ Below wo.heap.size wo wr)) (fun _ i _ => n - (intOf i).toNat)
      case atStart => exact ⟨0, Nat.zero_le _, rfl, ⟨World.ownsRow_nil _ _ _ _, Below.refl _ _⟩⟩
      case round =>
        obtain ⟨c, hc, rfl, HI⟩ := hrel
        by_cases hlc : c < n
        · have hA1 : c + 1 ≤ maxLen := by unfold maxLen; omega
          have hA2 : (c + 1) * 24 ≤ 140737488355328 := by omega
          go_wp2_with fail
          refine (blankR_any _).mono ?_
          rintro e w1 ⟨rfl, hb1⟩
          have HB := Lib.hid (And.intro (own_later HI.out.1 hb1) (HI.out.2.trans (hb1.mono HI.out.2.size)))
          clear hb1
          go_wp2_with (at_builtin; refine wpList_push cellR_elt HB.out.1 HB.out.2.size rfl rfl rfl rfl rfl rfl rfl hA1 hA2 ?_; intro A3 c3 w3 hp; have HP := Lib.hid hp; clear hp)
          go_roundw
          case rel => exact ⟨c + 1, by omega, by go_num, ⟨HP.out.own, HP.out.below HB.out.2 HB.out.1 (Nat.le_refl _)⟩⟩
          case measure => simp [intOf]; omega
        · obtain rfl : c = n := by omega
          obtain ⟨A1, c1, rfl⟩ := own_slice HI.out.1
          obtain ⟨g1, cs1, rfl, hg1, hB1, hc1, hc2, hs1, hx1⟩ := own_blk HI.out.1 (by omega)
          obtain ⟨xs, rb, Cr, M⟩ := HM.out
          have HX := Lib.hid (And.intro hg1 (And.intro hB1 (And.intro (show c * 2 ≤ cs1.size by omega) (And.intro (is_rowCells hx1) (And.intro (show c ≤ c1 ∧ c1 ≤ 9223372036854775807 from ⟨hc1, hc2⟩) HI.out.2)))))
          have HV := Lib.hid M
          have hA1 : k + 1 ≤ maxLen := by unfold maxLen; omega
          have hA2 : (k + 1) * 24 ≤ 140737488355328 := by omega
          have hz := Lib.hid (Nat.le_trans M.below.size HI.out.2.size)
          clear hg1 hB1 hs1 hx1 hc2 HI HM M
          go_wp2_with (at_builtin; refine wpList_push rows_elt (own_later HV.out.own HX.out.2.2.2.2.2) hz.out rfl rfl rfl rfl rfl rfl rfl hA1 hA2 ?_; intro A3 c3 w3 hp; have HP := Lib.hid hp; clear hp)
          go_roundw
          case rel => exact ⟨k + 1, by omega, by go_num, ⟨_, _, _, Made.push HV.out HX.out.2.2.2.2.2 HX.out.1 HX.out.2.1 HX.out.2.2.1 HX.out.2.2.2.1 HX.out.2.2.2.2.1 HP.out⟩⟩
          case measure => simp [intOf]; omega
    · obtain rfl : k = R := by omega
      obtain ⟨xs, rb, Cr, M⟩ := HM.out
      obtain ⟨A1, c1, rfl⟩ := own_slice M.own
      obtain ⟨g1, cs1, rfl, hg1, hB1, hc1, hc2, hs1, hx1⟩ := own_blk M.own (by omega)
      have HX := Lib.hid (And.intro hg1 (And.intro hB1 (And.intro hx1 hc2)))
      have HV := Lib.hid M
      clear hg1 hB1 hs1 hx1 hc2 M HM
      go_wp2
      go_ret
      have M := HV.out
      refine ⟨g1, c1, rb, Cr, rfl, ⟨fun r hr => (HX.out.2.1.2.1 r).trans (HX.out.2.2.1 _ _ (M.cell r hr)), fun r hr => (M.row r hr).2.2, fun r hr j hj => .inr (.inr rfl), HX.out.2.1.1, HX.out.1, HX.out.2.1.1, fun r hr => ⟨(M.row r hr).1, ?_, fun e => (M.row r hr).2.1 (by simp [Value.ownBlock, e])⟩, fun i j hi hj hij => M.inj i j hi hj hij, h1, h2, h3, h4, ⟨hc1, HX.out.2.2.2⟩, M.caps⟩, M.below⟩
      obtain ⟨cs, b, _⟩ := (M.row r hr).2.2
      exact b.1
end Go.Proofs.YtednedklkbjihaaDoor
