/- grid: does: Erase, Clear; nil. -/
import Derived.Test.YtcofhjipackldaaGrL
namespace Go.Proofs.Ytcofhjipackldaa
open Go.RowKit
set_option linter.unusedVariables false
set_option linter.unusedSimpArgs false

theorem wf_congr {n : Nat} {G H : Nat → Cl} (h : WF n G) (e : ∀ j, j < n → G j = H j) : WF n H := by
  intro j hj
  rw [← e j hj]
  rcases h j hj with ⟨a, b, c⟩ | ⟨a, b, c, d⟩ | a
  · exact .inl ⟨a, b, by rw [← e (j + 1) b]; exact c⟩
  · exact .inr (.inl ⟨a, b, by rw [← e (j - 1) (by omega)]; exact c, d⟩)
  · exact .inr (.inr a)
theorem RG.congr {w : World} {lo hi ob Co R n : Nat} {rb Cr : Nat → Nat} {F F' : Nat → Nat → Cl} (h : RG w lo hi ob Co R n rb Cr F) (e : ∀ r, r < R → ∀ j, j < n → F r j = F' r j) : RG w lo hi ob Co R n rb Cr F' :=
  ⟨h.out, fun r hr => by obtain ⟨cs, a, b, c⟩ := h.rows r hr; exact ⟨cs, a, b, c.congr (e r hr)⟩, fun r hr => wf_congr (h.wf r hr) (e r hr), h.o0, h.o1, h.o2, h.b1, h.inj, h.r1, h.r2, h.n1, h.n2, h.cap, h.caps⟩

/-- The rows that were made blank so far. -/
def cleared (F : Nat → Nat → Cl) (n k : Nat) (r : Nat) : Nat → Cl := if r < k then er (F r) 0 n else F r
theorem cleared_step (F : Nat → Nat → Cl) (n k : Nat) : updR (cleared F n k) k (er (cleared F n k k) 0 n) = cleared F n (k + 1) := by
  funext r
  unfold updR cleared
  by_cases e : r = k
  · subst e; rw [if_pos rfl, if_neg (by omega), if_pos (by omega)]
  · rw [if_neg e]
    by_cases h : r < k
    · rw [if_pos h, if_pos (by omega)]
    · rw [if_neg h, if_neg (by omega)]
theorem cleared_all {F : Nat → Nat → Cl} {R n : Nat} : ∀ r, r < R → ∀ j, j < n → cleared F n R r j = blankF r j := by
  intro r hr j hj
  unfold cleared
  rw [if_pos hr]
  exact er_blank _ 0 n j (by omega) (by omega)

set_option maxHeartbeats 2000000 in
set_option maxRecDepth 100000 in
theorem does_3 {w : World} {lo hi g cb C R n lo' hi' ob Co R' n' : Nat} {rb Cr : Nat → Nat} {F F' : Nat → Nat → Cl} (h : PG w lo hi g cb C R n F) (h' : RG w lo' hi' ob Co R' n' rb Cr F') (A : Apart lo hi lo' hi' w.heap.size) (r c : Int) (t : ByteArray) (wd : Int) :
    Calls Try.prog 19 #[ptr g, gv ob R' Co, dV 3 r c t wd] w (Did lo hi g cb C R n lo' hi' ob Co R' n' rb Cr (opF R n F 3 r c t wd) (opF R' n' F' 3 r c t wd) w) := by
  have H := Lib.hid (And.intro h h')
  have HA := Lib.hid A
  clear h h' A
  go_enter Try.func19, Try.ntmps19
  go_wp2_with fail
  refine at_calls (fun X => Below w.heap.size w X ∧ Blk X w.heap.size (dC 3 r c t wd)) ⟨(Below.refl _ _).alloc (Nat.le_refl _) _, blk_new _ _ _⟩ ?_
  rintro X ⟨hX, hB⟩
  have HX := Lib.hid (And.intro hX hB)
  have HP := Lib.hid (H.out.1.later hX)
  have HR := Lib.hid (H.out.2.later hX)
  have hzX := Lib.hid hX.size
  clear hX hB
  refine (erase_all HP.out r c).mono ?_
  rintro e w3 ⟨⟨v, rfl⟩, hp3⟩
  have B3 := HX.out.2.two' hp3.2 HA.out.b
  have H3 := Lib.hid hp3
  have R3 := Lib.hid (HR.out.two HA.out.a hp3.2)
  have l1 := B3.2.1 1
  have l2 := B3.2.1 2
  simp at l1 l2
  clear hp3 B3
  go_wp2_with fail
  refine (eraseR_all R3.out r c).mono ?_
  rintro e w4 ⟨⟨v, rfl⟩, hp4⟩
  have H4 := Lib.hid hp4
  clear hp4 l1 l2
  go_wp2_with fail
  go_ret
  have c1 := ((Chg.refl (Two lo hi lo' hi') w).later HX.out.1).trans (H3.out.2.mono fun j _ hj => Or.inl hj)
  have c2 := c1.trans (H4.out.2.mono fun j _ hj => Or.inr hj)
  refine ⟨⟨_, rfl, fun _ => rfl⟩, ?_, ?_, c2⟩
  · have := H3.out.1.two HA.out.a H4.out.2
    unfold opF; rw [if_neg (by decide), if_pos rfl]; exact this
  · unfold opF; rw [if_neg (by decide), if_pos rfl]; exact H4.out.1

set_option maxHeartbeats 2000000 in
set_option maxRecDepth 100000 in
theorem does_4 {w : World} {lo hi g cb C R n lo' hi' ob Co R' n' : Nat} {rb Cr : Nat → Nat} {F F' : Nat → Nat → Cl} (h : PG w lo hi g cb C R n F) (h' : RG w lo' hi' ob Co R' n' rb Cr F') (A : Apart lo hi lo' hi' w.heap.size) (k r c : Int) (t : ByteArray) (wd : Int) (k0 : k ≠ 0) (k1 : k ≠ 1) (k2 : k ≠ 2) (k3 : k ≠ 3) :
    Calls Try.prog 19 #[ptr g, gv ob R' Co, dV k r c t wd] w (Did lo hi g cb C R n lo' hi' ob Co R' n' rb Cr (opF R n F k r c t wd) (opF R' n' F' k r c t wd) w) := by
  have H := Lib.hid (And.intro h h')
  have HA := Lib.hid A
  have d0 : (k == 0) = false := by simpa using k0
  have d1 : (k == 1) = false := by simpa using k1
  have d2 : (k == 2) = false := by simpa using k2
  have d3 : (k == 3) = false := by simpa using k3
  have hR := h'.r2
  have hR1 := h'.r1
  have hn := h'.n2
  have hn1 := h'.n1
  have hcap := h'.cap
  clear h h' A
  go_enter Try.func19, Try.ntmps19
  go_wp2_with fail
  refine at_calls (fun X => Below w.heap.size w X) ((Below.refl _ _).alloc (Nat.le_refl _) _) ?_
  rintro X hX
  have HX := Lib.hid hX
  have HP := Lib.hid (H.out.1.later hX)
  have HR := Lib.hid (H.out.2.later hX)
  have hzX := Lib.hid hX.size
  clear hX
  refine (clear_any HP.out).mono ?_
  rintro e w3 ⟨⟨v, rfl⟩, hp3, hc3⟩
  have HC := Lib.hid (HP.out.iv hc3)
  have H3 := Lib.hid hp3
  have R3 := Lib.hid (HR.out.two HA.out.a HC.out)
  clear hp3 hc3
  go_wp2_with fail
  go_loopw [7] (fun i wr => ∃ m : Nat, m ≤ R' ∧ i = .int .i64 m ∧ Hid (RowR lo' hi' ob Co R' n' rb Cr (cleared F' n' m) w3 wr)) (fun i _ => R' - (intOf i).toNat)
  case atStart => exact ⟨0, Nat.zero_le _, rfl, ⟨by rw [show cleared F' n' 0 = F' from rfl]; exact R3.out, Chg.refl _ _⟩⟩
  case round =>
    obtain ⟨m, hm, rfl, HM⟩ := hrel
    by_cases hlt : m < R'
    · go_wp2_with fail
      refine (eraseR_in (c := 0) HM.out.1 hlt (by omega)).mono ?_
      rintro e w4 ⟨⟨v, rfl⟩, h4⟩
      have H4 := Lib.hid h4
      clear h4
      go_wp2_with fail
      go_roundw
      case rel => exact ⟨m + 1, by omega, by go_num, ⟨by have := H4.out.1; rw [Nat.sub_zero, cleared_step] at this; exact this, HM.out.2.trans H4.out.2⟩⟩
      case measure => simp [intOf]; omega
    · obtain rfl : m = R' := by omega
      go_wp2_with fail
      go_ret
      have c1 := ((Chg.refl (Two lo hi lo' hi') w).later HX.out).trans (HC.out.mono fun j _ hj => Or.inl hj)
      have c2 := c1.trans (HM.out.2.mono fun j _ hj => Or.inr hj)
      refine ⟨⟨_, rfl, fun _ => rfl⟩, ?_, ?_, c2⟩
      · have := H3.out.two HA.out.a HM.out.2
        unfold opF; rw [if_neg (by omega), if_neg k3]; exact this
      · unfold opF; rw [if_neg (by omega), if_neg k3]; exact HM.out.1.congr cleared_all

theorem does_any {w : World} {lo hi g cb C R n lo' hi' ob Co R' n' : Nat} {rb Cr : Nat → Nat} {F F' : Nat → Nat → Cl} (h : PG w lo hi g cb C R n F) (h' : RG w lo' hi' ob Co R' n' rb Cr F') (A : Apart lo hi lo' hi' w.heap.size) (k r c : Int) (t : ByteArray) (wd : Int) :
    Calls Try.prog 19 #[ptr g, gv ob R' Co, dV k r c t wd] w (Did lo hi g cb C R n lo' hi' ob Co R' n' rb Cr (opF R n F k r c t wd) (opF R' n' F' k r c t wd) w) := by
  by_cases k0 : k = 0
  · subst k0; exact does_0 h h' A r c t wd
  · by_cases k1 : k = 1
    · subst k1; exact does_1 h h' A r c t wd
    · by_cases k2 : k = 2
      · subst k2; exact does_2 h h' A r c t wd
      · by_cases k3 : k = 3
        · subst k3; exact does_3 h h' A r c t wd
        · exact does_4 h h' A k r c t wd k0 k1 k2 k3

theorem erase_nil (r c : Int) (w : World) : Calls Try.prog 9 #[.pointer none, .int .i64 r, .int .i64 c] w fun e w' => (∃ v, e = .returned v) ∧ ∃ q, w' = w.drewN q :=
  erase_no (tells_nil w r) (by omega) (by omega)
theorem eraseR_nil (r c : Int) (w : World) : Calls Try.prog 27 #[.slice none 0 0, .int .i64 r, .int .i64 c] w fun e w' => (∃ v, e = .returned v) ∧ w = w' := eraseR_no (tin_nil w r c)
theorem putR_nil (r c : Int) (t : ByteArray) (wd : Int) (w : World) : Calls Try.prog 26 #[.slice none 0 0, .int .i64 r, .int .i64 c, .agg #[.string t, .int .i64 wd]] w fun e w' => e = .returned (.bool false) ∧ Below w.heap.size w w' := putR_no (tin_nil w r c)

set_option maxHeartbeats 2000000 in
set_option maxRecDepth 100000 in
theorem doesnil_0 (w : World) (r c : Int) (t : ByteArray) (wd : Int) :
    Calls Try.prog 19 #[.pointer none, .slice none 0 0, dV 0 r c t wd] w fun e w' => e = .returned (.bool true) ∧ Below w.heap.size w w' := by
  go_enter Try.func19, Try.ntmps19
  go_wp2_with fail
  refine at_world (fun X => Below w.heap.size w X ∧ Blk X w.heap.size (dC 0 r c t wd)) ⟨(Below.refl _ _).alloc (Nat.le_refl _) _, blk_new _ _ _⟩ ?_
  rintro X ⟨hX, hB⟩
  have HX := Lib.hid (And.intro hX hB)
  have HS : Hid (∀ Y, Below X.heap.size X Y → (fun Y => Y.cell? ⟨w.heap.size, 1, none⟩ = some (.int .i64 r) ∧ Y.cell? ⟨w.heap.size, 2, none⟩ = some (.int .i64 c) ∧ Y.cell? ⟨w.heap.size, 3, none⟩ = some (.string t) ∧ Y.cell? ⟨w.heap.size, 4, none⟩ = some (.int .i64 wd)) Y) := Lib.hid (fun Y hY => by
    have hB := HX.out.2.later hY HX.out.2.1
    exact ⟨by have := hB.2.1 1; simpa using this, by have := hB.2.1 2; simpa using this, by have := hB.2.1 3; simpa using this, by have := hB.2.1 4; simpa using this⟩)
  obtain ⟨l1, l2, l3, l4⟩ := HS.out X (Below.refl _ _)
  clear hX hB
  have hD := (Below.refl X.heap.size X).drew
  go_region_held3 (fun Y => Y.cell? ⟨w.heap.size, 1, none⟩ = some (.int .i64 r) ∧ Y.cell? ⟨w.heap.size, 2, none⟩ = some (.int .i64 c) ∧ Y.cell? ⟨w.heap.size, 3, none⟩ = some (.string t) ∧ Y.cell? ⟨w.heap.size, 4, none⟩ = some (.int .i64 wd))
    (first | assumption | exact HS.out _ (by assumption) | go_keep)
    (first
    | (go_at_call 13; refine (put_nil r c t wd _).mono ?_; rintro e w3 ⟨rfl, hp3⟩; have hB3 := belowStep (A := X) (by assumption) hp3; clear hp3)
    | (go_at_call 26; refine (putR_nil r c t wd _).mono ?_; rintro e w4 ⟨rfl, hp4⟩; have hB4 := belowStep (A := X) hB3 hp4; clear hp4))
  all_goals
    clear HS
    go_wp2_with fail
    go_ret
    exact ⟨rfl, belowStep HX.out.1 hB4⟩

set_option maxHeartbeats 2000000 in
set_option maxRecDepth 100000 in
theorem doesnil_1 (w : World) (r c : Int) (t : ByteArray) (wd : Int) :
    Calls Try.prog 19 #[.pointer none, .slice none 0 0, dV 1 r c t wd] w fun e w' => e = .returned (.bool true) ∧ Below w.heap.size w w' := by
  go_enter Try.func19, Try.ntmps19
  go_wp2_with fail
  refine at_world (fun X => Below w.heap.size w X ∧ Blk X w.heap.size (dC 1 r c t wd)) ⟨(Below.refl _ _).alloc (Nat.le_refl _) _, blk_new _ _ _⟩ ?_
  rintro X ⟨hX, hB⟩
  have HX := Lib.hid (And.intro hX hB)
  have HS : Hid (∀ Y, Below X.heap.size X Y → (fun Y => Y.cell? ⟨w.heap.size, 1, none⟩ = some (.int .i64 r) ∧ Y.cell? ⟨w.heap.size, 2, none⟩ = some (.int .i64 c) ∧ Y.cell? ⟨w.heap.size, 3, none⟩ = some (.string t) ∧ Y.cell? ⟨w.heap.size, 4, none⟩ = some (.int .i64 wd)) Y) := Lib.hid (fun Y hY => by
    have hB := HX.out.2.later hY HX.out.2.1
    exact ⟨by have := hB.2.1 1; simpa using this, by have := hB.2.1 2; simpa using this, by have := hB.2.1 3; simpa using this, by have := hB.2.1 4; simpa using this⟩)
  obtain ⟨l1, l2, l3, l4⟩ := HS.out X (Below.refl _ _)
  clear hX hB
  have hD := (Below.refl X.heap.size X).drew
  go_region_held3 (fun Y => Y.cell? ⟨w.heap.size, 1, none⟩ = some (.int .i64 r) ∧ Y.cell? ⟨w.heap.size, 2, none⟩ = some (.int .i64 c) ∧ Y.cell? ⟨w.heap.size, 3, none⟩ = some (.string t) ∧ Y.cell? ⟨w.heap.size, 4, none⟩ = some (.int .i64 wd))
    (first | assumption | exact HS.out _ (by assumption) | go_keep)
    (first
    | (go_at_call 13; refine (put_nil r c t wd _).mono ?_; rintro e w3 ⟨rfl, hp3⟩; have hB3 := belowStep (A := X) (by assumption) hp3; clear hp3)
    | (go_at_call 26; refine (putR_nil r c t wd _).mono ?_; rintro e w4 ⟨rfl, hp4⟩; have hB4 := belowStep (A := X) hB3 hp4; clear hp4))
  all_goals
    clear HS
    go_wp2_with fail
    go_ret
    exact ⟨rfl, belowStep HX.out.1 hB4⟩

set_option maxHeartbeats 2000000 in
set_option maxRecDepth 100000 in
theorem doesnil_2 (w : World) (r c : Int) (t : ByteArray) (wd : Int) :
    Calls Try.prog 19 #[.pointer none, .slice none 0 0, dV 2 r c t wd] w fun e w' => e = .returned (.bool true) ∧ Below w.heap.size w w' := by
  go_enter Try.func19, Try.ntmps19
  go_wp2_with fail
  refine at_world (fun X => Below w.heap.size w X ∧ Blk X w.heap.size (dC 2 r c t wd)) ⟨(Below.refl _ _).alloc (Nat.le_refl _) _, blk_new _ _ _⟩ ?_
  rintro X ⟨hX, hB⟩
  have HX := Lib.hid (And.intro hX hB)
  have HS : Hid (∀ Y, Below X.heap.size X Y → (fun Y => Y.cell? ⟨w.heap.size, 1, none⟩ = some (.int .i64 r) ∧ Y.cell? ⟨w.heap.size, 2, none⟩ = some (.int .i64 c) ∧ Y.cell? ⟨w.heap.size, 3, none⟩ = some (.string t) ∧ Y.cell? ⟨w.heap.size, 4, none⟩ = some (.int .i64 wd)) Y) := Lib.hid (fun Y hY => by
    have hB := HX.out.2.later hY HX.out.2.1
    exact ⟨by have := hB.2.1 1; simpa using this, by have := hB.2.1 2; simpa using this, by have := hB.2.1 3; simpa using this, by have := hB.2.1 4; simpa using this⟩)
  obtain ⟨l1, l2, l3, l4⟩ := HS.out X (Below.refl _ _)
  clear hX hB
  have hD := (Below.refl X.heap.size X).drew
  go_region_held3 (fun Y => Y.cell? ⟨w.heap.size, 1, none⟩ = some (.int .i64 r) ∧ Y.cell? ⟨w.heap.size, 2, none⟩ = some (.int .i64 c) ∧ Y.cell? ⟨w.heap.size, 3, none⟩ = some (.string t) ∧ Y.cell? ⟨w.heap.size, 4, none⟩ = some (.int .i64 wd))
    (first | assumption | exact HS.out _ (by assumption) | go_keep)
    (first
    | (go_at_call 13; refine (put_nil r c t wd _).mono ?_; rintro e w3 ⟨rfl, hp3⟩; have hB3 := belowStep (A := X) (by assumption) hp3; clear hp3)
    | (go_at_call 26; refine (putR_nil r c t wd _).mono ?_; rintro e w4 ⟨rfl, hp4⟩; have hB4 := belowStep (A := X) hB3 hp4; clear hp4))
  all_goals
    clear HS
    go_wp2_with fail
    go_ret
    exact ⟨rfl, belowStep HX.out.1 hB4⟩

set_option maxHeartbeats 2000000 in
set_option maxRecDepth 100000 in
theorem doesnil_3 (w : World) (r c : Int) (t : ByteArray) (wd : Int) :
    Calls Try.prog 19 #[.pointer none, .slice none 0 0, dV 3 r c t wd] w fun e w' => e = .returned (.bool true) ∧ Below w.heap.size w w' := by
  go_enter Try.func19, Try.ntmps19
  go_wp2_with fail
  refine at_calls (fun X => Below w.heap.size w X ∧ Blk X w.heap.size (dC 3 r c t wd)) ⟨(Below.refl _ _).alloc (Nat.le_refl _) _, blk_new _ _ _⟩ ?_
  rintro X ⟨hX, hB⟩
  have HX := Lib.hid (And.intro hX hB)
  refine (erase_nil r c X).mono ?_
  rintro e w3 ⟨⟨v, rfl⟩, q, rfl⟩
  have l1 := hB.2.1 1
  have l2 := hB.2.1 2
  simp at l1 l2
  clear hX hB
  go_wp2_with fail
  refine (eraseR_nil r c _).mono ?_
  rintro e w3 ⟨⟨v, rfl⟩, rfl⟩
  go_wp2_with fail
  go_ret
  exact ⟨rfl, below_drewN HX.out.1 q⟩

set_option maxHeartbeats 2000000 in
set_option maxRecDepth 100000 in
theorem doesnil_4 (w : World) (k r c : Int) (t : ByteArray) (wd : Int) (k0 : k ≠ 0) (k1 : k ≠ 1) (k2 : k ≠ 2) (k3 : k ≠ 3) :
    Calls Try.prog 19 #[.pointer none, .slice none 0 0, dV k r c t wd] w fun e w' => e = .returned (.bool true) ∧ Below w.heap.size w w' := by
  have d0 : (k == 0) = false := by simpa using k0
  have d1 : (k == 1) = false := by simpa using k1
  have d2 : (k == 2) = false := by simpa using k2
  have d3 : (k == 3) = false := by simpa using k3
  go_enter Try.func19, Try.ntmps19
  go_wp2_with fail
  refine at_calls (fun X => Below w.heap.size w X) ((Below.refl _ _).alloc (Nat.le_refl _) _) ?_
  rintro X hX
  have HX := Lib.hid hX
  refine (clear_nil X).mono ?_
  rintro e w3 ⟨⟨v, rfl⟩, rfl⟩
  clear hX
  go_wp2_with fail
  go_loopw [7] (fun i wr => i = .int .i64 0 ∧ wr = X) (fun _ _ => 0)
  case atStart => exact ⟨rfl, rfl⟩
  case round =>
    obtain ⟨rfl, rfl⟩ := hrel
    go_wp2_with fail
    go_ret
    exact ⟨rfl, HX.out⟩

theorem doesnil_any (w : World) (k r c : Int) (t : ByteArray) (wd : Int) :
    Calls Try.prog 19 #[.pointer none, .slice none 0 0, dV k r c t wd] w fun e w' => e = .returned (.bool true) ∧ Below w.heap.size w w' := by
  by_cases k0 : k = 0
  · subst k0; exact doesnil_0 w r c t wd
  · by_cases k1 : k = 1
    · subst k1; exact doesnil_1 w r c t wd
    · by_cases k2 : k = 2
      · subst k2; exact doesnil_2 w r c t wd
      · by_cases k3 : k = 3
        · subst k3; exact doesnil_3 w r c t wd
        · exact doesnil_4 w k r c t wd k0 k1 k2 k3
end Go.Proofs.Ytcofhjipackldaa
