/- grid: does. -/
import Derived.Test.YtcofhjipackldaaGrK
namespace Go.Proofs.Ytcofhjipackldaa
open Go.RowKit
set_option linter.unusedVariables false
set_option linter.unusedSimpArgs false

abbrev dV (k r c : Int) (t : ByteArray) (wd : Int) : Value := .agg #[.int .i64 k, .int .i64 r, .int .i64 c, .string t, .int .i64 wd]
abbrev dC (k r c : Int) (t : ByteArray) (wd : Int) : Array Value := #[.int .i64 k, .int .i64 r, .int .i64 c, .string t, .int .i64 wd]

def opF (R n : Nat) (F : Nat → Nat → Cl) (k r c : Int) (t : ByteArray) (wd : Int) : Nat → Nat → Cl :=
  if k = 0 ∨ k = 1 ∨ k = 2 then putF R n F r c t wd else if k = 3 then eraF R n F r c else blankF

/-- Two blocks' ranges that are apart, both laid already. -/
structure Apart (lo hi lo' hi' B : Nat) : Prop where
  a : hi ≤ lo' ∨ hi' ≤ lo
  b : hi ≤ B
  c : hi' ≤ B
def Two (lo hi lo' hi' k : Nat) : Prop := Iv lo hi k ∨ Iv lo' hi' k

theorem PG.two {w v : World} {lo hi lo' hi' g cb C R n : Nat} {F : Nat → Nat → Cl} (h : PG w lo hi g cb C R n F) (A : hi ≤ lo' ∨ hi' ≤ lo) (k : Chg (Iv lo' hi') w v) : PG v lo hi g cb C R n F := h.chg k fun j h1 h2 h3 => by unfold Iv at h3; omega
theorem RG.two {w v : World} {lo hi lo' hi' ob Co R n : Nat} {rb Cr : Nat → Nat} {F : Nat → Nat → Cl} (h : RG w lo' hi' ob Co R n rb Cr F) (A : hi ≤ lo' ∨ hi' ≤ lo) (k : Chg (Iv lo hi) w v) : RG v lo' hi' ob Co R n rb Cr F := h.chg k fun j h1 h2 h3 => by unfold Iv at h3; omega
theorem Blk.two' {w v : World} {b lo hi : Nat} {cs : Array Value} (h : Blk w b cs) (k : Chg (Iv lo hi) w v) (hb : hi ≤ b) : Blk v b cs := h.chg k fun h3 => by unfold Iv at h3; omega

/-- What a deed leaves. -/
def Did (lo hi g cb C R n lo' hi' ob Co R' n' : Nat) (rb Cr : Nat → Nat) (F F' : Nat → Nat → Cl) (w : World) (e : Ending) (w' : World) : Prop :=
  (∃ bl, e = .returned (.bool bl) ∧ (R = R' ∧ n = n' → bl = true)) ∧ PG w' lo hi g cb C R n F ∧ RG w' lo' hi' ob Co R' n' rb Cr F' ∧ Chg (Two lo hi lo' hi') w w'

set_option maxHeartbeats 2000000 in
set_option maxRecDepth 100000 in
theorem does_0 {w : World} {lo hi g cb C R n lo' hi' ob Co R' n' : Nat} {rb Cr : Nat → Nat} {F F' : Nat → Nat → Cl} (h : PG w lo hi g cb C R n F) (h' : RG w lo' hi' ob Co R' n' rb Cr F') (A : Apart lo hi lo' hi' w.heap.size) (r c : Int) (t : ByteArray) (wd : Int) :
    Calls Try.prog 19 #[ptr g, gv ob R' Co, dV 0 r c t wd] w (Did lo hi g cb C R n lo' hi' ob Co R' n' rb Cr (opF R n F 0 r c t wd) (opF R' n' F' 0 r c t wd) w) := by
  have H := Lib.hid (And.intro h h')
  have HA := Lib.hid A
  clear h h' A
  go_enter Try.func19, Try.ntmps19
  go_wp2_with fail
  refine at_world (fun X => Below w.heap.size w X ∧ Blk X w.heap.size (dC 0 r c t wd)) ⟨(Below.refl _ _).alloc (Nat.le_refl _) _, blk_new _ _ _⟩ ?_
  rintro X ⟨hX, hB⟩
  have HX := Lib.hid (And.intro hX hB)
  have HP := Lib.hid (H.out.1.later hX)
  have HR := Lib.hid (H.out.2.later hX)
  have hzX := Lib.hid hX.size
  have S0 : (fun Y => Y.cell? ⟨w.heap.size, 1, none⟩ = some (.int .i64 r) ∧ Y.cell? ⟨w.heap.size, 2, none⟩ = some (.int .i64 c) ∧ Y.cell? ⟨w.heap.size, 3, none⟩ = some (.string t) ∧ Y.cell? ⟨w.heap.size, 4, none⟩ = some (.int .i64 wd)) X := by
    exact ⟨by have := hB.2.1 1; simpa using this, by have := hB.2.1 2; simpa using this, by have := hB.2.1 3; simpa using this, by have := hB.2.1 4; simpa using this⟩
  have HS : Hid (∀ Y, Blk Y w.heap.size (dC 0 r c t wd) → (fun Y => Y.cell? ⟨w.heap.size, 1, none⟩ = some (.int .i64 r) ∧ Y.cell? ⟨w.heap.size, 2, none⟩ = some (.int .i64 c) ∧ Y.cell? ⟨w.heap.size, 3, none⟩ = some (.string t) ∧ Y.cell? ⟨w.heap.size, 4, none⟩ = some (.int .i64 wd)) Y) := Lib.hid (fun Y hB => ⟨by have := hB.2.1 1; simpa using this, by have := hB.2.1 2; simpa using this, by have := hB.2.1 3; simpa using this, by have := hB.2.1 4; simpa using this⟩)
  obtain ⟨l1, l2, l3, l4⟩ := S0
  clear hX hB
  obtain ⟨b1, hb1⟩ : ∃ b1, okB R n r c wd = b1 := ⟨_, rfl⟩
  obtain ⟨b2, hb2⟩ : ∃ b2, okB R' n' r c wd = b2 := ⟨_, rfl⟩
  have HBB := Lib.hid (And.intro hb1 hb2)
  clear hb1 hb2
  go_region_held3 (fun Y => Y.cell? ⟨w.heap.size, 1, none⟩ = some (.int .i64 r) ∧ Y.cell? ⟨w.heap.size, 2, none⟩ = some (.int .i64 c) ∧ Y.cell? ⟨w.heap.size, 3, none⟩ = some (.string t) ∧ Y.cell? ⟨w.heap.size, 4, none⟩ = some (.int .i64 wd))
    (first | assumption | exact HS.out _ (by assumption) | exact HS.out _ (by exact Blk.drew (by assumption)) | go_keep)
    (first
    | (go_at_call 13; refine (put_all (HP.out.drewN 1) r c t wd).mono ?_; rw [HBB.out.1]; rintro e w3 ⟨rfl, hp3⟩; have B3 := (HX.out.2.drewN 1).two' hp3.2 HA.out.b; have H3 := Lib.hid hp3; have R3 := Lib.hid ((HR.out.drewN 1).two HA.out.a hp3.2); have z3 := Lib.hid hp3.2.size; clear hp3)
    | (go_at_call 26; refine (putR_all R3.out (Nat.le_trans HA.out.c (Nat.le_trans hzX.out z3.out)) r c t wd).mono ?_; rw [HBB.out.2]; rintro e w4 ⟨rfl, hp4⟩; have B4 := B3.two' hp4.2 HA.out.c; have H4 := Lib.hid hp4; clear hp4))
  all_goals
    clear HS
    go_wp2_with fail
    go_ret
    have c1 := (((Chg.refl (Two lo hi lo' hi') w).later HX.out.1).drewN 1).trans (H3.out.2.mono fun j _ hj => Or.inl hj)
    have c2 := c1.trans (H4.out.2.mono fun j _ hj => Or.inr hj)
    refine ⟨⟨_, rfl, ?_⟩, ?_, ?_, c2⟩
    · rintro ⟨rfl, rfl⟩
      rw [← HBB.out.1, ← HBB.out.2]
      simp
    · have := H3.out.1.two HA.out.a H4.out.2
      unfold opF; rw [if_pos (by decide)]; exact this
    · unfold opF; rw [if_pos (by decide)]; exact H4.out.1

set_option maxHeartbeats 2000000 in
set_option maxRecDepth 100000 in
theorem does_1 {w : World} {lo hi g cb C R n lo' hi' ob Co R' n' : Nat} {rb Cr : Nat → Nat} {F F' : Nat → Nat → Cl} (h : PG w lo hi g cb C R n F) (h' : RG w lo' hi' ob Co R' n' rb Cr F') (A : Apart lo hi lo' hi' w.heap.size) (r c : Int) (t : ByteArray) (wd : Int) :
    Calls Try.prog 19 #[ptr g, gv ob R' Co, dV 1 r c t wd] w (Did lo hi g cb C R n lo' hi' ob Co R' n' rb Cr (opF R n F 1 r c t wd) (opF R' n' F' 1 r c t wd) w) := by
  have H := Lib.hid (And.intro h h')
  have HA := Lib.hid A
  clear h h' A
  go_enter Try.func19, Try.ntmps19
  go_wp2_with fail
  refine at_world (fun X => Below w.heap.size w X ∧ Blk X w.heap.size (dC 1 r c t wd)) ⟨(Below.refl _ _).alloc (Nat.le_refl _) _, blk_new _ _ _⟩ ?_
  rintro X ⟨hX, hB⟩
  have HX := Lib.hid (And.intro hX hB)
  have HP := Lib.hid (H.out.1.later hX)
  have HR := Lib.hid (H.out.2.later hX)
  have hzX := Lib.hid hX.size
  have S0 : (fun Y => Y.cell? ⟨w.heap.size, 1, none⟩ = some (.int .i64 r) ∧ Y.cell? ⟨w.heap.size, 2, none⟩ = some (.int .i64 c) ∧ Y.cell? ⟨w.heap.size, 3, none⟩ = some (.string t) ∧ Y.cell? ⟨w.heap.size, 4, none⟩ = some (.int .i64 wd)) X := by
    exact ⟨by have := hB.2.1 1; simpa using this, by have := hB.2.1 2; simpa using this, by have := hB.2.1 3; simpa using this, by have := hB.2.1 4; simpa using this⟩
  have HS : Hid (∀ Y, Blk Y w.heap.size (dC 1 r c t wd) → (fun Y => Y.cell? ⟨w.heap.size, 1, none⟩ = some (.int .i64 r) ∧ Y.cell? ⟨w.heap.size, 2, none⟩ = some (.int .i64 c) ∧ Y.cell? ⟨w.heap.size, 3, none⟩ = some (.string t) ∧ Y.cell? ⟨w.heap.size, 4, none⟩ = some (.int .i64 wd)) Y) := Lib.hid (fun Y hB => ⟨by have := hB.2.1 1; simpa using this, by have := hB.2.1 2; simpa using this, by have := hB.2.1 3; simpa using this, by have := hB.2.1 4; simpa using this⟩)
  obtain ⟨l1, l2, l3, l4⟩ := S0
  clear hX hB
  obtain ⟨b1, hb1⟩ : ∃ b1, okB R n r c wd = b1 := ⟨_, rfl⟩
  obtain ⟨b2, hb2⟩ : ∃ b2, okB R' n' r c wd = b2 := ⟨_, rfl⟩
  have HBB := Lib.hid (And.intro hb1 hb2)
  clear hb1 hb2
  go_region_held3 (fun Y => Y.cell? ⟨w.heap.size, 1, none⟩ = some (.int .i64 r) ∧ Y.cell? ⟨w.heap.size, 2, none⟩ = some (.int .i64 c) ∧ Y.cell? ⟨w.heap.size, 3, none⟩ = some (.string t) ∧ Y.cell? ⟨w.heap.size, 4, none⟩ = some (.int .i64 wd))
    (first | assumption | exact HS.out _ (by assumption) | exact HS.out _ (by exact Blk.drew (by assumption)) | go_keep)
    (first
    | (go_at_call 13; refine (put_all (HP.out.drewN 1) r c t wd).mono ?_; rw [HBB.out.1]; rintro e w3 ⟨rfl, hp3⟩; have B3 := (HX.out.2.drewN 1).two' hp3.2 HA.out.b; have H3 := Lib.hid hp3; have R3 := Lib.hid ((HR.out.drewN 1).two HA.out.a hp3.2); have z3 := Lib.hid hp3.2.size; clear hp3)
    | (go_at_call 26; refine (putR_all R3.out (Nat.le_trans HA.out.c (Nat.le_trans hzX.out z3.out)) r c t wd).mono ?_; rw [HBB.out.2]; rintro e w4 ⟨rfl, hp4⟩; have B4 := B3.two' hp4.2 HA.out.c; have H4 := Lib.hid hp4; clear hp4))
  all_goals
    clear HS
    go_wp2_with fail
    go_ret
    have c1 := (((Chg.refl (Two lo hi lo' hi') w).later HX.out.1).drewN 1).trans (H3.out.2.mono fun j _ hj => Or.inl hj)
    have c2 := c1.trans (H4.out.2.mono fun j _ hj => Or.inr hj)
    refine ⟨⟨_, rfl, ?_⟩, ?_, ?_, c2⟩
    · rintro ⟨rfl, rfl⟩
      rw [← HBB.out.1, ← HBB.out.2]
      simp
    · have := H3.out.1.two HA.out.a H4.out.2
      unfold opF; rw [if_pos (by decide)]; exact this
    · unfold opF; rw [if_pos (by decide)]; exact H4.out.1

set_option maxHeartbeats 2000000 in
set_option maxRecDepth 100000 in
theorem does_2 {w : World} {lo hi g cb C R n lo' hi' ob Co R' n' : Nat} {rb Cr : Nat → Nat} {F F' : Nat → Nat → Cl} (h : PG w lo hi g cb C R n F) (h' : RG w lo' hi' ob Co R' n' rb Cr F') (A : Apart lo hi lo' hi' w.heap.size) (r c : Int) (t : ByteArray) (wd : Int) :
    Calls Try.prog 19 #[ptr g, gv ob R' Co, dV 2 r c t wd] w (Did lo hi g cb C R n lo' hi' ob Co R' n' rb Cr (opF R n F 2 r c t wd) (opF R' n' F' 2 r c t wd) w) := by
  have H := Lib.hid (And.intro h h')
  have HA := Lib.hid A
  clear h h' A
  go_enter Try.func19, Try.ntmps19
  go_wp2_with fail
  refine at_world (fun X => Below w.heap.size w X ∧ Blk X w.heap.size (dC 2 r c t wd)) ⟨(Below.refl _ _).alloc (Nat.le_refl _) _, blk_new _ _ _⟩ ?_
  rintro X ⟨hX, hB⟩
  have HX := Lib.hid (And.intro hX hB)
  have HP := Lib.hid (H.out.1.later hX)
  have HR := Lib.hid (H.out.2.later hX)
  have hzX := Lib.hid hX.size
  have S0 : (fun Y => Y.cell? ⟨w.heap.size, 1, none⟩ = some (.int .i64 r) ∧ Y.cell? ⟨w.heap.size, 2, none⟩ = some (.int .i64 c) ∧ Y.cell? ⟨w.heap.size, 3, none⟩ = some (.string t) ∧ Y.cell? ⟨w.heap.size, 4, none⟩ = some (.int .i64 wd)) X := by
    exact ⟨by have := hB.2.1 1; simpa using this, by have := hB.2.1 2; simpa using this, by have := hB.2.1 3; simpa using this, by have := hB.2.1 4; simpa using this⟩
  have HS : Hid (∀ Y, Blk Y w.heap.size (dC 2 r c t wd) → (fun Y => Y.cell? ⟨w.heap.size, 1, none⟩ = some (.int .i64 r) ∧ Y.cell? ⟨w.heap.size, 2, none⟩ = some (.int .i64 c) ∧ Y.cell? ⟨w.heap.size, 3, none⟩ = some (.string t) ∧ Y.cell? ⟨w.heap.size, 4, none⟩ = some (.int .i64 wd)) Y) := Lib.hid (fun Y hB => ⟨by have := hB.2.1 1; simpa using this, by have := hB.2.1 2; simpa using this, by have := hB.2.1 3; simpa using this, by have := hB.2.1 4; simpa using this⟩)
  obtain ⟨l1, l2, l3, l4⟩ := S0
  clear hX hB
  obtain ⟨b1, hb1⟩ : ∃ b1, okB R n r c wd = b1 := ⟨_, rfl⟩
  obtain ⟨b2, hb2⟩ : ∃ b2, okB R' n' r c wd = b2 := ⟨_, rfl⟩
  have HBB := Lib.hid (And.intro hb1 hb2)
  clear hb1 hb2
  go_region_held3 (fun Y => Y.cell? ⟨w.heap.size, 1, none⟩ = some (.int .i64 r) ∧ Y.cell? ⟨w.heap.size, 2, none⟩ = some (.int .i64 c) ∧ Y.cell? ⟨w.heap.size, 3, none⟩ = some (.string t) ∧ Y.cell? ⟨w.heap.size, 4, none⟩ = some (.int .i64 wd))
    (first | assumption | exact HS.out _ (by assumption) | exact HS.out _ (by exact Blk.drew (by assumption)) | go_keep)
    (first
    | (go_at_call 13; refine (put_all (HP.out.drewN 1) r c t wd).mono ?_; rw [HBB.out.1]; rintro e w3 ⟨rfl, hp3⟩; have B3 := (HX.out.2.drewN 1).two' hp3.2 HA.out.b; have H3 := Lib.hid hp3; have R3 := Lib.hid ((HR.out.drewN 1).two HA.out.a hp3.2); have z3 := Lib.hid hp3.2.size; clear hp3)
    | (go_at_call 26; refine (putR_all R3.out (Nat.le_trans HA.out.c (Nat.le_trans hzX.out z3.out)) r c t wd).mono ?_; rw [HBB.out.2]; rintro e w4 ⟨rfl, hp4⟩; have B4 := B3.two' hp4.2 HA.out.c; have H4 := Lib.hid hp4; clear hp4))
  all_goals
    clear HS
    go_wp2_with fail
    go_ret
    have c1 := (((Chg.refl (Two lo hi lo' hi') w).later HX.out.1).drewN 1).trans (H3.out.2.mono fun j _ hj => Or.inl hj)
    have c2 := c1.trans (H4.out.2.mono fun j _ hj => Or.inr hj)
    refine ⟨⟨_, rfl, ?_⟩, ?_, ?_, c2⟩
    · rintro ⟨rfl, rfl⟩
      rw [← HBB.out.1, ← HBB.out.2]
      simp
    · have := H3.out.1.two HA.out.a H4.out.2
      unfold opF; rw [if_pos (by decide)]; exact this
    · unfold opF; rw [if_pos (by decide)]; exact H4.out.1
end Go.Proofs.Ytcofhjipackldaa
