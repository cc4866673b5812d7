/- grid: Row, Erase, Put. -/
import Derived.Test.YtednedklkbjihaaDoorGeB

namespace Go.Proofs.YtednedklkbjihaaDoor

open Go.RowKit

set_option linter.unusedVariables false

set_option linter.unusedSimpArgs false
set_option maxRecDepth 100000

def updR (F : Nat → Nat → Cl) (r : Nat) (G : Nat → Cl) (r' : Nat) : Nat → Cl := if r' = r then G else F r'

theorem rows_apart {r r' n : Nat} (h : r' ≠ r) : r' * n * 2 + n * 2 ≤ r * n * 2 ∨ r * n * 2 + n * 2 ≤ r' * n * 2 := by
  rcases Nat.lt_or_ge r' r with hl | hl
  · left
    have := Nat.mul_le_mul_right n (show r' + 1 ≤ r from hl)
    rw [Nat.succ_mul] at this
    omega
  · right
    have := Nat.mul_le_mul_right n (show r + 1 ≤ r' by omega)
    rw [Nat.succ_mul] at this
    omega

theorem row_fits {r R n : Nat} (hr : r < R) : r * n * 2 + n * 2 ≤ R * n * 2 := by
  have := Nat.mul_le_mul_right n (show r + 1 ≤ R from hr)
  rw [Nat.succ_mul] at this
  omega

theorem PG.rowAt {w : World} {lo hi g cb C R n : Nat} {F : Nat → Nat → Cl} (h : PG w lo hi g cb C R n F) {r : Nat} (hr : r < R) :
    ∃ cs, RowAt w cb cs (r * n * 2) n (F r) ∧ ∀ w' cs' G', Blk w' cb cs' → Out cs cs' (r * n * 2) n → Is cs' (r * n * 2) n G' → WF n G' → Chg (fun k => k = cb) w w' → PG w' lo hi g cb C R n (updR F r G') := by
  obtain ⟨cs, hb, hs, hi'⟩ := h.cells
  have hf := row_fits (n := n) hr
  have hn2 := h.n2
  refine ⟨cs, ⟨hb, by omega, hi' r hr, h.wf r hr, by omega⟩, fun w' cs' G' hB hO hI hW hC => ?_⟩
  refine ⟨h.blk.chg hC h.ne, ⟨cs', hB, by rw [hO.1]; exact hs, fun r' hr' => ?_⟩, fun r' hr' => ?_, h.g1, h.g2, h.c1, h.c2, h.ne, h.r1, h.r2, h.n1, h.n2, h.cap, h.cap2⟩
  · unfold updR
    by_cases e : r' = r
    · subst e; rw [if_pos rfl]; exact hI
    · rw [if_neg e]
      exact (hi' r' hr').out hO (rows_apart e)
  · unfold updR
    by_cases e : r' = r
    · rw [if_pos e]; exact hW
    · rw [if_neg e]; exact h.wf r' hr'

theorem below_undrew {w v : World} {q : Nat} (h : Below (w.drewN q).heap.size (w.drewN q) v) : Below w.heap.size w v := ⟨h.os, h.tape, h.output, h.size, h.block⟩

/-! ### Row -/
theorem cell_elt : Elt Tryd.prog 75 102 2 24 := elt_of Tryd.underlying75 (z := .agg #[.string ⟨#[]⟩, .int .i64 0]) (by kernel_rfl) rfl (by decide)

def rowCells (G : Nat → Cl) : Nat → List Value
  | 0 => []
  | k + 1 => rowCells G k ++ [.string (G k).1, .int .i64 (G k).2]
theorem rowCells_length (G : Nat → Cl) : ∀ k, (rowCells G k).length = k * 2
  | 0 => rfl
  | k + 1 => by rw [rowCells, List.length_append, rowCells_length G k]; simp; omega
theorem rowCells_fst (G : Nat → Cl) : ∀ k j, j < k → (rowCells G k)[j * 2]? = some (.string (G j).1)
  | 0, j, h => by omega
  | k + 1, j, h => by
    have hl := rowCells_length G k
    rw [rowCells]
    by_cases e : j = k
    · subst e
      rw [List.getElem?_append_right (by omega), hl]
      simp
    · rw [List.getElem?_append_left (by omega)]
      exact rowCells_fst G k j (by omega)
theorem rowCells_snd (G : Nat → Cl) : ∀ k j, j < k → (rowCells G k)[j * 2 + 1]? = some (.int .i64 (G j).2)
  | 0, j, h => by omega
  | k + 1, j, h => by
    have hl := rowCells_length G k
    rw [rowCells]
    by_cases e : j = k
    · subst e
      rw [List.getElem?_append_right (by omega), hl]
      simp
    · rw [List.getElem?_append_left (by omega)]
      exact rowCells_snd G k j (by omega)
theorem rowCells_one (G : Nat → Cl) : ∀ k, ∀ u ∈ rowCells G k, u.oneCell' = true
  | 0, u, h => by cases h
  | k + 1, u, h => by
    rw [rowCells, List.mem_append] at h
    rcases h with h | h
    · exact rowCells_one G k u h
    · simp at h
      rcases h with rfl | rfl <;> rfl
theorem rowCells_in {G : Nat → Cl} {k j : Nat} {u : Value} (h : (rowCells G k)[j]? = some u) : j / 2 < k ∧ u = (if j % 2 = 0 then .string (G (j / 2)).1 else .int .i64 (G (j / 2)).2) := by
  have hj : j < k * 2 := by
    rcases Nat.lt_or_ge j (k * 2) with hl | hl
    · exact hl
    · rw [List.getElem?_eq_none (by rw [rowCells_length]; exact hl)] at h; cases h
  have h2 : j / 2 < k := by omega
  refine ⟨h2, ?_⟩
  by_cases e : j % 2 = 0
  · rw [if_pos e]
    have := rowCells_fst G k (j / 2) h2
    rw [show j / 2 * 2 = j by omega, h] at this
    injection this
  · rw [if_neg e]
    have := rowCells_snd G k (j / 2) h2
    rw [show j / 2 * 2 + 1 = j by omega, h] at this
    injection this

/-- Cells that are told, in a block of their own. -/
def TellsRow (n : Nat) (G : Nat → Cl) (w : World) (e : Ending) (w' : World) : Prop :=
  ∃ b c cs, e = .returned (.slice (some ⟨b, 0, none⟩) n c) ∧ w.heap.size ≤ b ∧ Blk w' b cs ∧ n * 2 ≤ cs.size ∧ Is cs 0 n G ∧ n ≤ c ∧ c ≤ 9223372036854775807 ∧ Below w.heap.size w w'

set_option maxHeartbeats 1000000 in
theorem clone_cells {b o n c : Nat} {cs : Array Value} {G : Nat → Cl} {w : World} (hB : Blk w b cs) (hI : Is cs o n G) (hn : 0 < n) (hn2 : n ≤ 1000000) : Calls Tryd.prog 54 #[.slice (some ⟨b, o, none⟩) n c] w (TellsRow n G w) := by
  have hq := Lib.run_eql_slice_nil (P := Tryd.prog) w 75 102 (some ⟨b, o, none⟩) n c 0 0 Tryd.underlying75
  simp only [Option.isNone] at hq
  have HS := Lib.hid (fun (w' : World) (hb : Below w.heap.size w w') => show ∀ (j : Nat) (u : Value), (rowCells G n)[j]? = some u → w'.cell? ⟨b, o + j, none⟩ = some u from fun j u hj => by
    obtain ⟨h2, rfl⟩ := rowCells_in hj
    rw [(hB.later hb hB.1).2.1]
    have := hI (j / 2) h2
    by_cases e : j % 2 = 0
    · rw [if_pos e, show o + j = o + j / 2 * 2 by omega]; exact this.1
    · rw [if_neg e, show o + j = o + j / 2 * 2 + 1 by omega]; exact this.2)
  have HO := Lib.hid (own_newN w #[] 102 2 0 rfl (Nat.zero_le _))
  have HN := Lib.hid hn
  have HL := Lib.hid (rowCells_length G n)
  clear hB hI
  go_enter Tryd.func54, Tryd.ntmps54
  go_wp2_with (at_builtin; refine wpList_catN (ys := rowCells G n) cell_elt HO.out (by simp [World.size_alloc]) rfl rfl rfl rfl HL.out (HS.out _ ((Below.refl _ _).alloc (Nat.le_refl _) _)) (rowCells_one G n) (by unfold maxLen; omega) (by omega) ?_; intro A3 c3 w3 hp; have HP := Lib.hid hp; clear hp)
  go_ret
  obtain ⟨g, cs3, rfl, hg, hB3, h1, h2, h3, h4⟩ := own_blk HP.out.own (by have := HN.out; omega)
  unfold maxLen at h2
  refine ⟨g, c3, cs3, rfl, hg, hB3, by omega, fun j hj => ⟨?_, ?_⟩, by omega, h2, ?_⟩
  · rw [Nat.zero_add]; exact h4 _ _ (rowCells_fst G n j hj)
  · rw [Nat.zero_add]; exact h4 _ _ (rowCells_snd G n j hj)
  · exact ((Below.refl w.heap.size w).alloc (Nat.le_refl _) _).grown HP.out.grown (by simp [World.size_alloc]) (fun k hk => (HO.out.lt k hk).1)

theorem clone_nil (w : World) : Calls Tryd.prog 54 #[.slice none 0 0] w fun e w' => e = .returned (.slice none 0 0) ∧ w = w' := by
  have hq := Lib.run_eql_slice_nil (P := Tryd.prog) w 75 102 none 0 0 0 0 Tryd.underlying75
  simp only [Option.isNone] at hq
  go_enter Tryd.func54, Tryd.ntmps54
  go_wp2
  go_ret
  exact ⟨rfl, rfl⟩

set_option maxHeartbeats 1000000 in
theorem rowof_in {w : World} {lo hi g cb C R n : Nat} {F : Nat → Nat → Cl} (h : PG w lo hi g cb C R n F) {r : Nat} (hr : r < R) :
    Calls Tryd.prog 33 #[ptr g, .int .i64 r] w (TellsRow n (F r) w) := by
  obtain ⟨cs, hb, hs, hi⟩ := h.cells
  have hn := h.n2
  have hn1 := h.n1
  have H1 := Lib.hid (row_in h hr)
  have H2 := Lib.hid (fun q => clone_cells (o := r * n * 2) (n := n) (c := C - r * n) (hb.drewN q) (hi r hr) (by omega) (by omega))
  clear h hb hs hi
  obtain ⟨O, hO⟩ : ∃ O, r * n * 2 = O := ⟨_, rfl⟩
  obtain ⟨K, hK⟩ : ∃ K, C - r * n = K := ⟨_, rfl⟩
  rw [hO, hK] at H1 H2
  clear hO hK
  go_enter Tryd.func33, Tryd.ntmps33
  go_wp2_with fail
  refine H1.out.mono ?_
  rintro e w1 ⟨rfl, q, rfl⟩
  go_wp2_with fail
  refine (H2.out q).mono ?_
  rintro e w2 ⟨b, c, cs2, rfl, hx⟩
  have HX := Lib.hid hx
  clear hx
  go_wp2
  go_ret
  exact ⟨b, c, cs2, rfl, HX.out.1, HX.out.2.1, HX.out.2.2.1, HX.out.2.2.2.1, HX.out.2.2.2.2.1, HX.out.2.2.2.2.2.1, below_undrew HX.out.2.2.2.2.2.2⟩

theorem rowof_nil (r : Int) (w : World) : Calls Tryd.prog 33 #[.pointer none, .int .i64 r] w fun e w' => e = .returned (.slice none 0 0) ∧ w = w' := by
  go_enter Tryd.func33, Tryd.ntmps33
  go_wp2_with fail
  refine (row_nil r w).mono ?_
  rintro e w1 ⟨rfl, rfl⟩
  go_wp2_with fail
  refine (clone_nil w).mono ?_
  rintro e w1 ⟨rfl, rfl⟩
  go_wp2
  go_ret
  exact ⟨rfl, rfl⟩

/-! ### Erase -/
/-- What row tells, whatever the receiver is. -/
def TellsAt (w : World) (p : Value) (r : Int) (v : Value) : Prop := ∀ X, Below w.heap.size w X → Calls Tryd.prog 48 #[p, .int .i64 r] X fun e w' => e = .returned v ∧ ∃ q, w' = X.drewN q

theorem tells_nil (w : World) (r : Int) : TellsAt w (.pointer none) r (.slice none 0 0) := fun X _ => (row_nil r X).mono fun _ _ ⟨h, e⟩ => ⟨h, 0, e ▸ rfl⟩
theorem tells_out {w : World} {lo hi g cb C R n : Nat} {F : Nat → Nat → Cl} (h : PG w lo hi g cb C R n F) {r : Int} (hr : ¬ (0 ≤ r ∧ r < R)) : TellsAt w (ptr g) r (.slice none 0 0) := fun X hX => (row_out (h.later hX) hr).mono fun _ _ ⟨h, e⟩ => ⟨h, 0, e ▸ rfl⟩
theorem tells_in {w : World} {lo hi g cb C R n : Nat} {F : Nat → Nat → Cl} (h : PG w lo hi g cb C R n F) {r : Nat} (hr : r < R) : TellsAt w (ptr g) r (.slice (some ⟨cb, r * n * 2, none⟩) n (C - r * n)) := fun X hX => row_in (h.later hX) hr

set_option maxHeartbeats 1000000 in
theorem erase_no {w : World} {p : Value} {r c : Int} {A : Option Addr} {m K : Nat} (h : TellsAt w p r (.slice A m K)) (hm : m ≤ 1000000) (hc : c < 0 ∨ m ≤ c) :
    Calls Tryd.prog 26 #[p, .int .i64 r, .int .i64 c] w fun e w' => (∃ v, e = .returned v) ∧ ∃ q, w' = w.drewN q := by
  have H1 := Lib.hid (h w (Below.refl _ _))
  clear h
  by_cases h0 : c < 0
  · go_enter Tryd.func26, Tryd.ntmps26
    go_wp2_with fail
    refine H1.out.mono ?_
    rintro e w1 ⟨rfl, q, rfl⟩
    go_wp2
    exact bodyPost_ret (results_none rfl _ _ _) rfl ⟨⟨_, rfl⟩, _, rfl⟩
  · have h1 : ¬ c < (m : Int) := by omega
    clear hc
    go_enter Tryd.func26, Tryd.ntmps26
    go_wp2_with fail
    refine H1.out.mono ?_
    rintro e w1 ⟨rfl, q, rfl⟩
    go_wp2
    go_loopw [7] (fun i wr => i = .int .i64 c ∧ wr = w.drewN q) (fun _ _ => 0)
    case atStart => exact ⟨rfl, rfl⟩
    case round =>
      obtain ⟨rfl, rfl⟩ := hrel
      go_wp2
      exact bodyPost_end (results_none rfl _ _ _) rfl ⟨⟨_, rfl⟩, _, rfl⟩

set_option maxHeartbeats 1000000 in
theorem erase_in {w : World} {b o n c K : Nat} {cs : Array Value} {G : Nat → Cl} {p : Value} {r : Int} (h : TellsAt w p r (.slice (some ⟨b, o, none⟩) n K)) (hA : RowAt w b cs o n G) (hc : c < n) :
    Calls Tryd.prog 26 #[p, .int .i64 r, .int .i64 c] w (RowTo b cs o n (er G c (n - c)) w) := by
  have H1 := Lib.hid (h w (Below.refl _ _))
  have HA := Lib.hid hA
  have hn := hA.small
  clear h hA
  go_enter Tryd.func26, Tryd.ntmps26
  go_wp2_with fail
  refine H1.out.mono ?_
  rintro e w1 ⟨rfl, q, rfl⟩
  go_wp2
  go_loopw [7] (fun i wr => ∃ k : Nat, c + k ≤ n ∧ i = .int .i64 ((c + k : Nat) : Int) ∧ Hid (∃ cs', RowAt wr b cs' o n (er G c k) ∧ Out cs cs' o n ∧ Chg (fun j => j = b) w wr)) (fun i _ => n - (intOf i).toNat)
  case atStart => exact ⟨0, by omega, rfl, ⟨cs, ⟨HA.out.blk.drewN q, HA.out.size, HA.out.is, HA.out.wf, HA.out.small⟩, Out.refl _ _ _, (Chg.refl _ w).drewN q⟩⟩
  case round =>
    obtain ⟨k, hk, rfl, HR⟩ := hrel
    obtain ⟨E, hE⟩ : ∃ E, c + k = E := ⟨_, rfl⟩
    have HE := Lib.hid hE
    rw [hE] at hk ⊢
    clear hE
    by_cases hlt : E < n
    · go_wp2_with fail
      obtain ⟨cs1, A1, O1, C1⟩ := HR.out
      refine (loose_row A1 hlt).mono ?_
      rintro e w2 ⟨⟨v, rfl⟩, cs2, B2, O2, I2, C2⟩
      have W2 := wf_loose A1.wf hlt
      have HN := Lib.hid (And.intro (A1.to B2 O2 I2 W2) (And.intro (O1.trans O2) (C1.trans C2)))
      clear HR A1 O1 C1 B2 O2 I2 C2 W2
      go_wp2_with fail
      go_roundw
      case rel => exact ⟨k + 1, by have := HE.out; omega, by have := HE.out; congr 1; omega, ⟨cs2, by have h := HN.out.1; rw [← HE.out] at h; exact h, HN.out.2.1, HN.out.2.2⟩⟩
      case measure => simp [intOf]; omega
    · go_wp2
      obtain ⟨cs1, A1, O1, C1⟩ := HR.out
      have e1 : k = n - c := by have := HE.out; omega
      subst e1
      exact bodyPost_end (results_none rfl _ _ _) rfl ⟨⟨_, rfl⟩, cs1, A1.blk, O1, A1.is, C1⟩

/-! ### Put -/
set_option maxHeartbeats 1000000 in
theorem put_no0 {w : World} {p : Value} {r c wd : Int} {A : Option Addr} {m K : Nat} {t : ByteArray} (h : TellsAt w p r (.slice A m K)) (hm : m ≤ 1000000) (h1 : wd ≠ 1) (h2 : wd ≠ 2) :
    Calls Tryd.prog 28 #[p, .int .i64 r, .int .i64 c, .agg #[.string t, .int .i64 wd]] w fun e w' => e = .returned (.bool false) ∧ Below w.heap.size w w' := by
  have H1 := Lib.hid h
  clear h
  have d1 : (wd == 1) = false := by simpa using h1
  have d2 : (wd == 2) = false := by simpa using h2
  go_enter Tryd.func28, Tryd.ntmps28
  go_wp2_with fail
  refine at_calls (fun X => Below w.heap.size w X ∧ Blk X w.heap.size #[.string t, .int .i64 wd]) ⟨(Below.refl _ _).alloc (Nat.le_refl _) _, blk_new _ _ _⟩ ?_
  rintro X ⟨hb, B⟩
  have HH := Lib.hid (And.intro hb B)
  refine (H1.out X hb).mono ?_
  rintro e w1 ⟨rfl, q, rfl⟩
  have l1 := (B.drewN q).2.1 1
  simp at l1
  clear hb B
  go_wp2_with fail
  go_ret
  exact ⟨rfl, below_drewN HH.out.1 q⟩

set_option maxHeartbeats 1000000 in
theorem put_no1n {w : World} {p : Value} {r c : Int} {A : Option Addr} {m K : Nat} {t : ByteArray} (h : TellsAt w p r (.slice A m K)) (hm : m ≤ 1000000) (h0 : c < 0) :
    Calls Tryd.prog 28 #[p, .int .i64 r, .int .i64 c, .agg #[.string t, .int .i64 1]] w fun e w' => e = .returned (.bool false) ∧ Below w.heap.size w w' := by
  have H1 := Lib.hid h
  clear h
  go_enter Tryd.func28, Tryd.ntmps28
  go_wp2_with fail
  refine at_calls (fun X => Below w.heap.size w X ∧ Blk X w.heap.size #[.string t, .int .i64 1]) ⟨(Below.refl _ _).alloc (Nat.le_refl _) _, blk_new _ _ _⟩ ?_
  rintro X ⟨hb, B⟩
  have HH := Lib.hid (And.intro hb B)
  refine (H1.out X hb).mono ?_
  rintro e w1 ⟨rfl, q, rfl⟩
  have l1 := (B.drewN q).2.1 1
  simp at l1
  clear hb B
  go_wp2_with fail
  go_ret
  exact ⟨rfl, below_drewN HH.out.1 q⟩

set_option maxHeartbeats 1000000 in
theorem put_no1f {w : World} {p : Value} {r c : Int} {A : Option Addr} {m K : Nat} {t : ByteArray} (h : TellsAt w p r (.slice A m K)) (hm : m ≤ 1000000) (h0 : 0 ≤ c) (h3 : (m : Int) - 1 < c) :
    Calls Tryd.prog 28 #[p, .int .i64 r, .int .i64 c, .agg #[.string t, .int .i64 1]] w fun e w' => e = .returned (.bool false) ∧ Below w.heap.size w w' := by
  have H1 := Lib.hid h
  clear h
  go_enter Tryd.func28, Tryd.ntmps28
  go_wp2_with fail
  refine at_calls (fun X => Below w.heap.size w X ∧ Blk X w.heap.size #[.string t, .int .i64 1]) ⟨(Below.refl _ _).alloc (Nat.le_refl _) _, blk_new _ _ _⟩ ?_
  rintro X ⟨hb, B⟩
  have HH := Lib.hid (And.intro hb B)
  refine (H1.out X hb).mono ?_
  rintro e w1 ⟨rfl, q, rfl⟩
  have l1 := (B.drewN q).2.1 1
  simp at l1
  clear hb B
  go_wp2_with fail
  go_ret
  exact ⟨rfl, below_drewN HH.out.1 q⟩

set_option maxHeartbeats 1000000 in
theorem put_no2n {w : World} {p : Value} {r c : Int} {A : Option Addr} {m K : Nat} {t : ByteArray} (h : TellsAt w p r (.slice A m K)) (hm : m ≤ 1000000) (h0 : c < 0) :
    Calls Tryd.prog 28 #[p, .int .i64 r, .int .i64 c, .agg #[.string t, .int .i64 2]] w fun e w' => e = .returned (.bool false) ∧ Below w.heap.size w w' := by
  have H1 := Lib.hid h
  clear h
  go_enter Tryd.func28, Tryd.ntmps28
  go_wp2_with fail
  refine at_calls (fun X => Below w.heap.size w X ∧ Blk X w.heap.size #[.string t, .int .i64 2]) ⟨(Below.refl _ _).alloc (Nat.le_refl _) _, blk_new _ _ _⟩ ?_
  rintro X ⟨hb, B⟩
  have HH := Lib.hid (And.intro hb B)
  refine (H1.out X hb).mono ?_
  rintro e w1 ⟨rfl, q, rfl⟩
  have l1 := (B.drewN q).2.1 1
  simp at l1
  clear hb B
  go_wp2_with fail
  go_ret
  exact ⟨rfl, below_drewN HH.out.1 q⟩

set_option maxHeartbeats 1000000 in
theorem put_no2f {w : World} {p : Value} {r c : Int} {A : Option Addr} {m K : Nat} {t : ByteArray} (h : TellsAt w p r (.slice A m K)) (hm : m ≤ 1000000) (h0 : 0 ≤ c) (h3 : (m : Int) - 2 < c) :
    Calls Tryd.prog 28 #[p, .int .i64 r, .int .i64 c, .agg #[.string t, .int .i64 2]] w fun e w' => e = .returned (.bool false) ∧ Below w.heap.size w w' := by
  have H1 := Lib.hid h
  clear h
  go_enter Tryd.func28, Tryd.ntmps28
  go_wp2_with fail
  refine at_calls (fun X => Below w.heap.size w X ∧ Blk X w.heap.size #[.string t, .int .i64 2]) ⟨(Below.refl _ _).alloc (Nat.le_refl _) _, blk_new _ _ _⟩ ?_
  rintro X ⟨hb, B⟩
  have HH := Lib.hid (And.intro hb B)
  refine (H1.out X hb).mono ?_
  rintro e w1 ⟨rfl, q, rfl⟩
  have l1 := (B.drewN q).2.1 1
  simp at l1
  clear hb B
  go_wp2_with fail
  go_ret
  exact ⟨rfl, below_drewN HH.out.1 q⟩


set_option maxHeartbeats 2000000 in
set_option maxRecDepth 100000 in
theorem gput_1 {w : World} {b o n c E K : Nat} {cs : Array Value} {G : Nat → Cl} {p : Value} {r : Int} {t : ByteArray} (h : TellsAt w p r (.slice (some ⟨b, o, none⟩) n K)) (hA : RowAt w b cs o n G) (hc : c + 0 < n) (hE : c + 1 = E) :
    Calls Tryd.prog 28 #[p, .int .i64 r, .int .i64 c, .agg #[.string t, .int .i64 1]] w fun e w' => e = .returned (.bool true) ∧ ∃ cs', Blk w' b cs' ∧ Out cs cs' o n ∧ Is cs' o n (putG G c (t, 1)) ∧ Chg (fun j => j = b) w w' := by
  have H1 := Lib.hid h
  have HA := Lib.hid hA
  have hn := hA.small
  have hbw := hA.blk.1
  have d1 : (c : Int) ≤ (n : Int) - 1 := by omega
  have d2 : (c : Int) + 1 = (E : Int) := by omega
  have d3 : (c : Int) + 0 = (c : Int) := by omega
  have HE := Lib.hid hE
  clear h hA hE
  go_enter Tryd.func28, Tryd.ntmps28
  go_wp2_with fail
  refine at_calls (fun X => Below w.heap.size w X ∧ Blk X w.heap.size #[.string t, .int .i64 1]) ⟨(Below.refl _ _).alloc (Nat.le_refl _) _, blk_new _ _ _⟩ ?_
  rintro X ⟨hb, B⟩
  have HH := Lib.hid (And.intro hb B)
  refine (H1.out X hb).mono ?_
  rintro e w1 ⟨rfl, q, rfl⟩
  have l1 := (B.drewN q).2.1 1
  simp at l1
  clear hb B
  go_wp2_with fail
  go_loopw [37] (fun i wr => ∃ k : Nat, k ≤ 1 ∧ i = .int .i64 k ∧ Hid (∃ cs', RowAt wr b cs' o n (er G c k) ∧ Out cs cs' o n ∧ Chg (fun j => j = b) w wr ∧ Blk wr w.heap.size #[.string t, .int .i64 1])) (fun i _ => 1 - (intOf i).toNat)
  case atStart => exact ⟨0, Nat.zero_le _, rfl, ⟨cs, ⟨(HA.out.blk.later HH.out.1 HA.out.blk.1).drewN q, HA.out.size, HA.out.is, HA.out.wf, HA.out.small⟩, Out.refl _ _ _, ((Chg.refl _ w).later HH.out.1).drewN q, HH.out.2.drewN q⟩⟩
  case round =>
    clear l1
    obtain ⟨k, hk, rfl, HR⟩ := hrel
    by_cases hlt : k < 1
    · obtain ⟨J, hJ⟩ : ∃ J, c + k = J := ⟨_, rfl⟩
      have eJ : (c : Int) + (k : Int) = (J : Int) := by omega
      have hJn : J < n := by omega
      have HJ := Lib.hid hJ
      clear hJ
      go_wp2_with fail
      obtain ⟨cs1, A1, O1, C1, B1⟩ := HR.out
      refine (loose_row A1 hJn).mono ?_
      rintro e w2 ⟨⟨v, rfl⟩, cs2, B2, O2, I2, C2⟩
      have W2 := wf_loose A1.wf hJn
      have HN := Lib.hid (And.intro (A1.to B2 O2 I2 W2) (And.intro (O1.trans O2) (And.intro (C1.trans C2) (B1.chg C2 (by omega)))))
      clear HR A1 O1 C1 B1 B2 O2 I2 C2 W2
      go_wp2_with fail
      go_roundw
      case rel => exact ⟨k + 1, by omega, by go_num, ⟨cs2, by have h := HN.out.1; rw [← HJ.out] at h; exact h, HN.out.2.1, HN.out.2.2.1, HN.out.2.2.2⟩⟩
      case measure => simp [intOf]; omega
    · obtain rfl : k = 1 := by omega
      obtain ⟨cs1, A1, O1, C1, B1⟩ := HR.out
      have HA1 := Lib.hid A1
      have hcn : c < n := by omega
      have hs1 := A1.size
      obtain ⟨u1, v1, q1, q2, q3, q4⟩ := (Lib.hid (HA1.out.blk.two (p := o + c * 2) (by omega) (.string t))).out
      have m0 := B1.2.1 0
      have m1 := B1.2.1 1
      simp at m0 m1
      have P1 := Lib.hid (And.intro (HA1.out.blk.put2 (p := o + c * 2) (by omega) (t, 1)) (And.intro (C1.put2 (p := o + c * 2) rfl (t, 1)) (B1.chg ((Chg.refl _ _).put2 (S := fun j => j = b) (p := o + c * 2) rfl (t, 1)) (by omega))))
      have m3 := P1.out.2.2.2.1 1
      simp [World.put2] at m3
      have HO := Lib.hid O1
      clear HR A1 O1 C1 B1
      go_wp2_with fail
      go_ret
      exact ⟨rfl, _, P1.out.1, HO.out.trans (out_put2 _ hcn), is_put2 HA1.out.is _ hcn hs1, P1.out.2.1⟩


set_option maxHeartbeats 2000000 in
set_option maxRecDepth 100000 in
theorem gput_2 {w : World} {b o n c E K : Nat} {cs : Array Value} {G : Nat → Cl} {p : Value} {r : Int} {t : ByteArray} (h : TellsAt w p r (.slice (some ⟨b, o, none⟩) n K)) (hA : RowAt w b cs o n G) (hc : c + 1 < n) (hE : c + 1 = E) :
    Calls Tryd.prog 28 #[p, .int .i64 r, .int .i64 c, .agg #[.string t, .int .i64 2]] w fun e w' => e = .returned (.bool true) ∧ ∃ cs', Blk w' b cs' ∧ Out cs cs' o n ∧ Is cs' o n (putG G c (t, 2)) ∧ Chg (fun j => j = b) w w' := by
  have H1 := Lib.hid h
  have HA := Lib.hid hA
  have hn := hA.small
  have hbw := hA.blk.1
  have d1 : (c : Int) ≤ (n : Int) - 2 := by omega
  have d2 : (c : Int) + 1 = (E : Int) := by omega
  have d3 : (c : Int) + 0 = (c : Int) := by omega
  have HE := Lib.hid hE
  clear h hA hE
  go_enter Tryd.func28, Tryd.ntmps28
  go_wp2_with fail
  refine at_calls (fun X => Below w.heap.size w X ∧ Blk X w.heap.size #[.string t, .int .i64 2]) ⟨(Below.refl _ _).alloc (Nat.le_refl _) _, blk_new _ _ _⟩ ?_
  rintro X ⟨hb, B⟩
  have HH := Lib.hid (And.intro hb B)
  refine (H1.out X hb).mono ?_
  rintro e w1 ⟨rfl, q, rfl⟩
  have l1 := (B.drewN q).2.1 1
  simp at l1
  clear hb B
  go_wp2_with fail
  go_loopw [37] (fun i wr => ∃ k : Nat, k ≤ 2 ∧ i = .int .i64 k ∧ Hid (∃ cs', RowAt wr b cs' o n (er G c k) ∧ Out cs cs' o n ∧ Chg (fun j => j = b) w wr ∧ Blk wr w.heap.size #[.string t, .int .i64 2])) (fun i _ => 2 - (intOf i).toNat)
  case atStart => exact ⟨0, Nat.zero_le _, rfl, ⟨cs, ⟨(HA.out.blk.later HH.out.1 HA.out.blk.1).drewN q, HA.out.size, HA.out.is, HA.out.wf, HA.out.small⟩, Out.refl _ _ _, ((Chg.refl _ w).later HH.out.1).drewN q, HH.out.2.drewN q⟩⟩
  case round =>
    clear l1
    obtain ⟨k, hk, rfl, HR⟩ := hrel
    by_cases hlt : k < 2
    · obtain ⟨J, hJ⟩ : ∃ J, c + k = J := ⟨_, rfl⟩
      have eJ : (c : Int) + (k : Int) = (J : Int) := by omega
      have hJn : J < n := by omega
      have HJ := Lib.hid hJ
      clear hJ
      go_wp2_with fail
      obtain ⟨cs1, A1, O1, C1, B1⟩ := HR.out
      refine (loose_row A1 hJn).mono ?_
      rintro e w2 ⟨⟨v, rfl⟩, cs2, B2, O2, I2, C2⟩
      have W2 := wf_loose A1.wf hJn
      have HN := Lib.hid (And.intro (A1.to B2 O2 I2 W2) (And.intro (O1.trans O2) (And.intro (C1.trans C2) (B1.chg C2 (by omega)))))
      clear HR A1 O1 C1 B1 B2 O2 I2 C2 W2
      go_wp2_with fail
      go_roundw
      case rel => exact ⟨k + 1, by omega, by go_num, ⟨cs2, by have h := HN.out.1; rw [← HJ.out] at h; exact h, HN.out.2.1, HN.out.2.2.1, HN.out.2.2.2⟩⟩
      case measure => simp [intOf]; omega
    · obtain rfl : k = 2 := by omega
      obtain ⟨cs1, A1, O1, C1, B1⟩ := HR.out
      have HA1 := Lib.hid A1
      have hcn : c < n := by omega
      have hs1 := A1.size
      obtain ⟨u1, v1, q1, q2, q3, q4⟩ := (Lib.hid (HA1.out.blk.two (p := o + c * 2) (by omega) (.string t))).out
      have m0 := B1.2.1 0
      have m1 := B1.2.1 1
      simp at m0 m1
      have P1 := Lib.hid (And.intro (HA1.out.blk.put2 (p := o + c * 2) (by omega) (t, 2)) (And.intro (C1.put2 (p := o + c * 2) rfl (t, 2)) (B1.chg ((Chg.refl _ _).put2 (S := fun j => j = b) (p := o + c * 2) rfl (t, 2)) (by omega))))
      have m3 := P1.out.2.2.2.1 1
      simp [World.put2] at m3
      have HO := Lib.hid O1
      clear HR A1 O1 C1 B1
      have hc' : E < n := by have := HE.out; omega
      obtain ⟨u2, v2, q5, q6, q7, q8⟩ := (Lib.hid (P1.out.1.two (p := o + E * 2) (by rw [put2_size]; omega) (.string ⟨#[]⟩))).out
      simp only [World.put2] at q5 q6 q7 q8
      go_wp2_with fail
      go_ret
      refine ⟨rfl, _, P1.out.1.put2 (p := o + E * 2) (by rw [put2_size]; omega) nought, (HO.out.trans (out_put2 _ hcn)).trans (out_put2 _ hc'), ?_, P1.out.2.1.put2 rfl nought⟩
      have := is_put2 (is_put2 HA1.out.is (t, 2) hcn hs1) nought hc' (by rw [put2_size]; exact hs1)
      rw [← HE.out] at this ⊢
      exact this

end Go.Proofs.YtednedklkbjihaaDoor
