/- grid: what a deed does to a grid, and to the document's. -/
import Derived.Test.YtednedklkbjihaaDoorGeI

namespace Go.Proofs.YtednedklkbjihaaDoor

open Go.RowKit

set_option linter.unusedVariables false

set_option linter.unusedSimpArgs false
set_option maxRecDepth 100000

def okP (R n : Nat) (r c wd : Int) : Prop := ((0 ≤ r ∧ r < R) ∧ (0 ≤ c ∧ c < n)) ∧ (wd = 1 ∨ wd = 2 ∧ c + 1 < n)
instance (R n : Nat) (r c wd : Int) : Decidable (okP R n r c wd) := by unfold okP; infer_instance
def okB (R n : Nat) (r c wd : Int) : Bool := decide (okP R n r c wd)
def putF (R n : Nat) (F : Nat → Nat → Cl) (r c : Int) (t : ByteArray) (wd : Int) : Nat → Nat → Cl :=
  if okB R n r c wd = true then updR F r.toNat (putG (F r.toNat) c.toNat (t, wd)) else F
def inB (R n : Nat) (r c : Int) : Bool := decide ((0 ≤ r ∧ r < R) ∧ (0 ≤ c ∧ c < n))
def eraF (R n : Nat) (F : Nat → Nat → Cl) (r c : Int) : Nat → Nat → Cl :=
  if inB R n r c = true then updR F r.toNat (er (F r.toNat) c.toNat (n - c.toNat)) else F

/-- Behind a call that tells v: the grid is F'. -/
def ToP (lo hi g cb C R n : Nat) (F' : Nat → Nat → Cl) (w w' : World) : Prop := PG w' lo hi g cb C R n F' ∧ Chg (Iv lo hi) w w'

theorem PG.iv {w : World} {lo hi g cb C R n : Nat} {F : Nat → Nat → Cl} (h : PG w lo hi g cb C R n F) {v : World} (k : Chg (fun j => j = cb) w v) : Chg (Iv lo hi) w v := k.mono fun j _ e => e ▸ ⟨h.c1, h.c2⟩
theorem PG.same {w v : World} {lo hi g cb C R n : Nat} {F : Nat → Nat → Cl} (h : PG w lo hi g cb C R n F) (k : Below w.heap.size w v) : ToP lo hi g cb C R n F w v := ⟨h.later k, (Chg.refl _ w).later k⟩

theorem put_row {w : World} {lo hi g cb C R n : Nat} {F : Nat → Nat → Cl} (h : PG w lo hi g cb C R n F) {r : Nat} (hr : r < R) {G' : Nat → Cl} (hW : WF n G') {e : Ending} {w' : World} {v : Value}
    {cs : Array Value} (K : ∀ w' cs' G', Blk w' cb cs' → Out cs cs' (r * n * 2) n → Is cs' (r * n * 2) n G' → WF n G' → Chg (fun k => k = cb) w w' → PG w' lo hi g cb C R n (updR F r G'))
    (hx : ∃ cs', Blk w' cb cs' ∧ Out cs cs' (r * n * 2) n ∧ Is cs' (r * n * 2) n G' ∧ Chg (fun j => j = cb) w w') : ToP lo hi g cb C R n (updR F r G') w w' := by
  obtain ⟨cs', hB, hO, hI, hC⟩ := hx
  exact ⟨K w' cs' G' hB hO hI hW hC, h.iv hC⟩

theorem put_all {w : World} {lo hi g cb C R n : Nat} {F : Nat → Nat → Cl} (h : PG w lo hi g cb C R n F) (r c : Int) (t : ByteArray) (wd : Int) :
    Calls Tryd.prog 28 #[ptr g, .int .i64 r, .int .i64 c, .agg #[.string t, .int .i64 wd]] w fun e w' => e = .returned (.bool (okB R n r c wd)) ∧ ToP lo hi g cb C R n (putF R n F r c t wd) w w' := by
  have hn2 := h.n2
  by_cases ok : okP R n r c wd
  · have hB : okB R n r c wd = true := decide_eq_true ok
    unfold putF
    rw [if_pos hB, hB]
    obtain ⟨⟨⟨r0, r1⟩, c0, c1⟩, hw⟩ := ok
    obtain ⟨r, rfl⟩ := Int.eq_ofNat_of_zero_le r0
    obtain ⟨c, rfl⟩ := Int.eq_ofNat_of_zero_le c0
    simp only [Int.toNat_natCast]
    have hr : r < R := by omega
    obtain ⟨cs, hA, K⟩ := h.rowAt hr
    rcases hw with rfl | ⟨rfl, h3⟩
    · refine (gput_1 (E := c + 1) (tells_in h hr) hA (by omega) rfl).mono ?_
      rintro e w' ⟨he, hx⟩
      exact ⟨he, put_row h hr (v := .bool true) (e := e) (wf_put (h.wf r hr) (by omega) (.inl rfl)) K hx⟩
    · refine (gput_2 (E := c + 1) (tells_in h hr) hA (by omega) rfl).mono ?_
      rintro e w' ⟨he, hx⟩
      exact ⟨he, put_row h hr (v := .bool true) (e := e) (wf_put (h.wf r hr) (by omega) (.inr ⟨rfl, by omega⟩)) K hx⟩
  · have hB : okB R n r c wd = false := decide_eq_false ok
    unfold putF
    rw [if_neg (by rw [hB]; decide), hB]
    have key : ∃ A m K, TellsAt w (ptr g) r (.slice A m K) ∧ m ≤ 1000000 ∧ (wd = 1 ∨ wd = 2 → c < 0 ∨ (m : Int) - wd < c) := by
      by_cases hr : 0 ≤ r ∧ r < R
      · obtain ⟨r, rfl⟩ := Int.eq_ofNat_of_zero_le hr.1
        refine ⟨_, _, _, tells_in h (by omega), by omega, ?_⟩
        intro hw
        unfold okP at ok
        rcases hw with rfl | rfl <;> omega
      · exact ⟨_, _, _, tells_out h hr, by omega, fun hw => by rcases hw with rfl | rfl <;> omega⟩
    obtain ⟨A, m, K, hT, hm, hx⟩ := key
    by_cases w1 : wd = 1
    · subst w1
      by_cases c0 : c < 0
      · exact (put_no1n hT hm c0).mono fun _ _ ⟨he, hb⟩ => ⟨he, h.same hb⟩
      · exact (put_no1f hT hm (by omega) (by have := hx (.inl rfl); omega)).mono fun _ _ ⟨he, hb⟩ => ⟨he, h.same hb⟩
    · by_cases w2 : wd = 2
      · subst w2
        by_cases c0 : c < 0
        · exact (put_no2n hT hm c0).mono fun _ _ ⟨he, hb⟩ => ⟨he, h.same hb⟩
        · exact (put_no2f hT hm (by omega) (by have := hx (.inr rfl); omega)).mono fun _ _ ⟨he, hb⟩ => ⟨he, h.same hb⟩
      · exact (put_no0 hT hm w1 w2).mono fun _ _ ⟨he, hb⟩ => ⟨he, h.same hb⟩

theorem put_nil (r c : Int) (t : ByteArray) (wd : Int) (w : World) :
    Calls Tryd.prog 28 #[.pointer none, .int .i64 r, .int .i64 c, .agg #[.string t, .int .i64 wd]] w fun e w' => e = .returned (.bool false) ∧ Below w.heap.size w w' := by
  have hT := tells_nil w r
  by_cases w1 : wd = 1
  · subst w1
    by_cases c0 : c < 0
    · exact put_no1n hT (by omega) c0
    · exact put_no1f hT (by omega) (by omega) (by omega)
  · by_cases w2 : wd = 2
    · subst w2
      by_cases c0 : c < 0
      · exact put_no2n hT (by omega) c0
      · exact put_no2f hT (by omega) (by omega) (by omega)
    · exact put_no0 hT (by omega) w1 w2

theorem RG.same {w v : World} {lo hi ob Co R n : Nat} {rb Cr : Nat → Nat} {F : Nat → Nat → Cl} (h : RG w lo hi ob Co R n rb Cr F) (k : Below w.heap.size w v) : RowR lo hi ob Co R n rb Cr F w v := ⟨h.later k, (Chg.refl _ w).later k⟩
theorem tin_no {w : World} {lo hi ob Co R n : Nat} {rb Cr : Nat → Nat} {F : Nat → Nat → Cl} (h : RG w lo hi ob Co R n rb Cr F) {r c : Int} (hi' : ¬ ((0 ≤ r ∧ r < R) ∧ (0 ≤ c ∧ c < n))) : TellsIn w (gv ob R Co) r c false := fun X hX => in_no (h.later hX) hi'
theorem tin_yes {w : World} {lo hi ob Co R n : Nat} {rb Cr : Nat → Nat} {F : Nat → Nat → Cl} (h : RG w lo hi ob Co R n rb Cr F) {r c : Int} (hi' : (0 ≤ r ∧ r < R) ∧ (0 ≤ c ∧ c < n)) : TellsIn w (gv ob R Co) r c true := by
  obtain ⟨⟨r0, r1⟩, c0, c1⟩ := hi'
  obtain ⟨r, rfl⟩ := Int.eq_ofNat_of_zero_le r0
  obtain ⟨c, rfl⟩ := Int.eq_ofNat_of_zero_le c0
  exact fun X hX => in_yes (h.later hX) (by omega) (by omega)
theorem tin_nil (w : World) (r c : Int) : TellsIn w (.slice none 0 0) r c false := fun X _ => in_nil r c X

theorem putR_all {w : World} {lo hi ob Co R n : Nat} {rb Cr : Nat → Nat} {F : Nat → Nat → Cl} (h : RG w lo hi ob Co R n rb Cr F) (hhi : hi ≤ w.heap.size) (r c : Int) (t : ByteArray) (wd : Int) :
    Calls Tryd.prog 29 #[gv ob R Co, .int .i64 r, .int .i64 c, .agg #[.string t, .int .i64 wd]] w fun e w' => e = .returned (.bool (okB R n r c wd)) ∧ RowR lo hi ob Co R n rb Cr (putF R n F r c t wd) w w' := by
  have hn2 := h.n2
  by_cases ok : okP R n r c wd
  · have hB : okB R n r c wd = true := decide_eq_true ok
    unfold putF
    rw [if_pos hB, hB]
    obtain ⟨⟨⟨r0, r1⟩, c0, c1⟩, hw⟩ := ok
    obtain ⟨r, rfl⟩ := Int.eq_ofNat_of_zero_le r0
    obtain ⟨c, rfl⟩ := Int.eq_ofNat_of_zero_le c0
    simp only [Int.toNat_natCast]
    rcases hw with rfl | ⟨rfl, h3⟩
    · exact putR_1 (E := 0) h hhi (by omega) (by omega)
    · exact putR_2 (E := c + 1) h hhi (by omega) (by omega) rfl (by omega)
  · have hB : okB R n r c wd = false := decide_eq_false ok
    unfold putF
    rw [if_neg (by rw [hB]; decide), hB]
    by_cases hin : (0 ≤ r ∧ r < R) ∧ (0 ≤ c ∧ c < n)
    · have hT := tin_yes h hin
      by_cases w1 : wd = 1
      · exact absurd ⟨hin, .inl w1⟩ ok
      · by_cases w2 : wd = 2
        · subst w2
          obtain ⟨c, rfl⟩ := Int.eq_ofNat_of_zero_le hin.2.1
          have hc : ¬ ((c : Int) + 1 < n) := fun hc => ok ⟨hin, .inr ⟨rfl, hc⟩⟩
          exact (putR_far (E := c + 1) hT (tin_no h (by omega)) rfl (by omega)).mono fun _ _ ⟨he, hb⟩ => ⟨he, h.same hb⟩
        · exact (putR_bad hT w1 w2).mono fun _ _ ⟨he, hb⟩ => ⟨he, h.same hb⟩
    · exact (putR_no (tin_no h hin)).mono fun _ _ ⟨he, hb⟩ => ⟨he, h.same hb⟩

theorem erase_all {w : World} {lo hi g cb C R n : Nat} {F : Nat → Nat → Cl} (h : PG w lo hi g cb C R n F) (r c : Int) :
    Calls Tryd.prog 26 #[ptr g, .int .i64 r, .int .i64 c] w fun e w' => (∃ v, e = .returned v) ∧ ToP lo hi g cb C R n (eraF R n F r c) w w' := by
  by_cases hin : (0 ≤ r ∧ r < R) ∧ (0 ≤ c ∧ c < n)
  · have hB : inB R n r c = true := decide_eq_true hin
    unfold eraF
    rw [if_pos hB]
    obtain ⟨⟨r0, r1⟩, c0, c1⟩ := hin
    obtain ⟨r, rfl⟩ := Int.eq_ofNat_of_zero_le r0
    obtain ⟨c, rfl⟩ := Int.eq_ofNat_of_zero_le c0
    simp only [Int.toNat_natCast]
    have hr : r < R := by omega
    obtain ⟨cs, hA, K⟩ := h.rowAt hr
    refine (erase_in (tells_in h hr) hA (by omega)).mono ?_
    rintro e w' ⟨hv, hx⟩
    exact ⟨hv, put_row h hr (v := .bool true) (e := e) (wf_er (h.wf r hr) c (n - c) (by omega)) K hx⟩
  · have hB : inB R n r c = false := decide_eq_false hin
    unfold eraF
    rw [if_neg (by rw [hB]; decide)]
    have hn2 := h.n2
    have key : ∃ A m K, TellsAt w (ptr g) r (.slice A m K) ∧ m ≤ 1000000 ∧ (c < 0 ∨ (m : Int) ≤ c) := by
      by_cases hr : 0 ≤ r ∧ r < R
      · obtain ⟨r, rfl⟩ := Int.eq_ofNat_of_zero_le hr.1
        exact ⟨_, _, _, tells_in h (by omega), by omega, by omega⟩
      · exact ⟨_, _, _, tells_out h hr, by omega, by omega⟩
    obtain ⟨A, m, K, hT, hm, hx⟩ := key
    exact (erase_no hT hm hx).mono fun _ _ ⟨he, q, hq⟩ => ⟨he, h.same (hq ▸ below_drewN (Below.refl _ _) q)⟩

theorem eraseR_all {w : World} {lo hi ob Co R n : Nat} {rb Cr : Nat → Nat} {F : Nat → Nat → Cl} (h : RG w lo hi ob Co R n rb Cr F) (r c : Int) :
    Calls Tryd.prog 27 #[gv ob R Co, .int .i64 r, .int .i64 c] w fun e w' => (∃ v, e = .returned v) ∧ RowR lo hi ob Co R n rb Cr (eraF R n F r c) w w' := by
  by_cases hin : (0 ≤ r ∧ r < R) ∧ (0 ≤ c ∧ c < n)
  · have hB : inB R n r c = true := decide_eq_true hin
    unfold eraF
    rw [if_pos hB]
    obtain ⟨⟨r0, r1⟩, c0, c1⟩ := hin
    obtain ⟨r, rfl⟩ := Int.eq_ofNat_of_zero_le r0
    obtain ⟨c, rfl⟩ := Int.eq_ofNat_of_zero_le c0
    simp only [Int.toNat_natCast]
    exact eraseR_in h (by omega) (by omega)
  · have hB : inB R n r c = false := decide_eq_false hin
    unfold eraF
    rw [if_neg (by rw [hB]; decide)]
    exact (eraseR_no (tin_no h hin)).mono fun _ _ ⟨he, hq⟩ => ⟨he, h.same (hq ▸ Below.refl _ _)⟩
end Go.Proofs.YtednedklkbjihaaDoor
