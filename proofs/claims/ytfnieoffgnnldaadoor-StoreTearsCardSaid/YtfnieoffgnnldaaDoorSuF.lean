/- utf: Decode. -/
import Derived.Test.YtfnieoffgnnldaaDoorSuE
import Derived.Deep.RegionWith
namespace Go.Proofs.YtfnieoffgnnldaaDoor
open Go.RowKit
set_option linter.unusedVariables false
set_option linter.unusedSimpArgs false

/-- The decoder behind bytes, and what it has told. -/
def runD (bs : List Int) : DS × List Int := bs.foldl (fun q b => ((stepD q.1 b).1, q.2 ++ (stepD q.1 b).2)) (DS.zero, [])

theorem runD_snoc (bs : List Int) (b : Int) : runD (bs ++ [b]) = ((stepD (runD bs).1 b).1, (runD bs).2 ++ (stepD (runD bs).1 b).2) := by
  simp [runD, List.foldl_append]

theorem zero_ok : DS.zero.Ok := ⟨by simp [DS.zero], .inl ⟨rfl, rfl, rfl, rfl⟩⟩

theorem fold_ok (bs : List Int) : ∀ (q : DS × List Int), q.1.Ok → (∀ b ∈ bs, 0 ≤ b ∧ b ≤ 255) → (bs.foldl (fun q b => ((stepD q.1 b).1, q.2 ++ (stepD q.1 b).2)) q).1.Ok := by
  induction bs with
  | nil => exact fun q h _ => h
  | cons b bs ih => exact fun q h hb => ih _ (stepD_ok _ _ h (hb b (by simp)).1 (hb b (by simp)).2) fun c hc => hb c (by simp [hc])

theorem runD_ok (bs : List Int) (hb : ∀ b ∈ bs, 0 ≤ b ∧ b ≤ 255) : (runD bs).1.Ok := fold_ok bs _ zero_ok hb

/-- A text's bytes. -/
def bts (s : ByteArray) : List Int := s.data.toList.map fun c => (c.toNat : Int)

theorem bts_length (s : ByteArray) : (bts s).length = s.size := by simp [bts]
theorem bts_take_succ (s : ByteArray) (k : Nat) (h : k < s.size) : (bts s).take (k + 1) = (bts s).take k ++ [(s[k].toNat : Int)] := by
  have hl : k < (bts s).length := by rw [bts_length]; exact h
  rw [List.take_succ_eq_append_getElem hl]
  congr 1
  simp [bts]
  rfl
theorem bts_range (s : ByteArray) : ∀ b ∈ bts s, 0 ≤ b ∧ b ≤ 255 := by
  intro b hb
  obtain ⟨c, _, rfl⟩ := List.mem_map.1 hb
  have := c.toNat_lt
  omega

def endD (s : DS) : List Int := if s.n = 0 then [] else [65533]
def decD (bs : List Int) : List Int := (runD bs).2 ++ endD (runD bs).1

theorem end_none (h0 h1 h2 : Int) (w : World) : Calls Tryd.prog 70 #[dcd h0 h1 h2 0] w fun e w' => e = .returned (.slice none 0 0) ∧ Below w.heap.size w w' := by
  go_enter Tryd.func70, Tryd.ntmps70
  go_wp2
  go_ret
  exact ⟨rfl, (Below.refl _ _).alloc (Nat.le_refl _) _⟩

theorem end_some (h0 h1 h2 n : Int) (hn : 0 < n) (w : World) : Calls Tryd.prog 70 #[dcd h0 h1 h2 n] w fun e w' => ∃ A, e = .returned (.slice (some A) 1 1) ∧ Rd w' (some A) 1 (li [65533]) ∧ Below w.heap.size w w' := by
  have E : (n == 0) = false := by simp; omega
  go_enter Tryd.func70, Tryd.ntmps70
  go_wp2
  go_ret
  have h := ((Below.refl w.heap.size w).alloc (Nat.le_refl _) (.cells #[.int .u8 h0, .int .u8 h1, .int .u8 h2, .int .i64 n] 99))
  refine ⟨_, rfl, ?_, h.alloc h.size _⟩
  have hr := rd_new (w.alloc (.cells #[.int .u8 h0, .int .u8 h1, .int .u8 h2, .int .i64 n] 99)) #[.int .i32 65533] 21 1 (li [65533]) (by intro j hj; obtain rfl : j = 0 := (by omega); rfl)
  rw [World.size_alloc] at hr
  exact hr

theorem stepD_len (s : DS) (b : Int) : (stepD s b).2.length ≤ 2 := by
  have h : (beginD b).2.length ≤ 1 := by
    unfold beginD
    split
    · simp
    · split <;> simp
  unfold stepD
  split
  · omega
  · split
    · split
      · simp
      · split <;> simp
    · simp; omega

theorem fold_len (bs : List Int) : ∀ (q : DS × List Int), (bs.foldl (fun q b => ((stepD q.1 b).1, q.2 ++ (stepD q.1 b).2)) q).2.length ≤ q.2.length + 2 * bs.length := by
  induction bs with
  | nil => exact fun q => by simp
  | cons b bs ih =>
    intro q
    have h1 := ih ((stepD q.1 b).1, q.2 ++ (stepD q.1 b).2)
    have h2 := stepD_len q.1 b
    simp only [List.foldl_cons, List.length_cons]
    simp only [List.length_append] at h1
    omega

theorem runD_len (bs : List Int) : (runD bs).2.length ≤ 2 * bs.length := by
  have := fold_len bs (DS.zero, [])
  simpa [runD] using this

/-- step's contract, the state taken apart. -/
theorem step_is (h0 h1 h2 m b : Int) (hs : DS.Ok ⟨h0, h1, h2, m⟩) (b0 : 0 ≤ b) (b1 : b ≤ 255) {x y z n : Int} {l : List Int} (e : stepD ⟨h0, h1, h2, m⟩ b = (⟨x, y, z, n⟩, l)) (w : World) :
    Calls Tryd.prog 69 #[dcd h0 h1 h2 m, .int .u8 b] w (StepIs x y z n l w) := by
  refine (step_any ⟨h0, h1, h2, m⟩ b hs b0 b1 w).mono fun en w' hh => ?_
  obtain ⟨p, q, k, hk, he, hl, hb⟩ := hh
  rw [e] at he hl
  refine ⟨p, q, ?_, hb⟩
  obtain rfl | rfl | rfl : k = 0 ∨ k = 1 ∨ k = 2 := by omega
  · exact .inl ⟨hl.symm, he⟩
  · exact .inr (.inl ⟨hl.symm, he⟩)
  · exact .inr (.inr ⟨hl.symm, he⟩)

/-- What step tells, how many as a number. -/
def StepK (x y z n : Int) (l : List Int) (w : World) (e : Ending) (w' : World) : Prop :=
  ∃ (p q : Int) (k : Nat), e = .returned (.tuple #[.agg #[.int .u8 x, .int .u8 y, .int .u8 z, .int .i64 n], .agg #[.int .i32 p, .int .i32 q], .int .i64 k]) ∧ Hid (k ≤ 2 ∧ [p, q].take k = l) ∧ Below w.heap.size w w'

theorem step_k (h0 h1 h2 m b : Int) (hs : DS.Ok ⟨h0, h1, h2, m⟩) (b0 : 0 ≤ b) (b1 : b ≤ 255) {x y z n : Int} {l : List Int} (e : stepD ⟨h0, h1, h2, m⟩ b = (⟨x, y, z, n⟩, l)) (w : World) :
    Calls Tryd.prog 69 #[dcd h0 h1 h2 m, .int .u8 b] w (StepK x y z n l w) := by
  refine (step_any ⟨h0, h1, h2, m⟩ b hs b0 b1 w).mono fun en w' hh => ?_
  obtain ⟨p, q, k, hk, he, hl, hb⟩ := hh
  rw [e] at he hl
  exact ⟨p, q, k, he, ⟨hk, hl⟩, hb⟩

theorem later_one {w w1 : World} {a : Array Value} {s : TypeId} (hb : Below ((w.alloc (.cells a s)).drew).heap.size ((w.alloc (.cells a s)).drew) w1) : Blk w1 w.heap.size a :=
  (blk_new w a s).drew.later hb (blk_new w a s).1

theorem later_two {w w1 : World} {a b : Array Value} {s t : TypeId} (hb : Below (((w.alloc (.cells a s)).alloc (.cells b t)).drew).heap.size (((w.alloc (.cells a s)).alloc (.cells b t)).drew) w1) : Blk w1 w.heap.size a ∧ Blk w1 (w.heap.size + 1) b := by
  have h1 := (blk_new w a s).alloc (.cells b t)
  have h2 := blk_new (w.alloc (.cells a s)) b t
  rw [World.size_alloc] at h2
  exact ⟨h1.drew.later hb h1.1, h2.drew.later hb h2.1⟩

theorem cdr {W : World} {a : Addr} {v : Value} (h : W.cell? a = some v) : W.drew.cell? a = some v := h

/-- What holds behind the call of step. -/
def Stp (wr : World) (x y z n : Int) (l : List Int) (v6 v7 v8 : Value) (wx : World) : Prop :=
  ∃ (g2 g3 : Nat) (p q : Int) (kk : Nat) (kz : Int), v6 = .pointer (some ⟨g2, 0, none⟩) ∧ v7 = .pointer (some ⟨g3, 0, none⟩) ∧ v8 = .int .i64 kz ∧ Hid (kk ≤ 2 ∧ kz = kk ∧ [p, q].take kk = l) ∧
    (wx.cell? ⟨g2, 0, none⟩ = some (.int .u8 x) ∧ wx.cell? ⟨g2, 1, none⟩ = some (.int .u8 y) ∧ wx.cell? ⟨g2, 2, none⟩ = some (.int .u8 z) ∧ wx.cell? ⟨g2, 3, none⟩ = some (.int .i64 n)) ∧
    (wx.cell? ⟨g3, 0, none⟩ = some (.int .i32 p) ∧ wx.cell? ⟨g3, 1, none⟩ = some (.int .i32 q)) ∧ (wr.heap.size ≤ g2 ∧ wr.heap.size ≤ g3 ∧ g3 < wx.heap.size ∧ g2 < wx.heap.size) ∧ Below wr.heap.size wr wx

theorem below_from {wr W w1 : World} (h0 : Below wr.heap.size wr W) (h1 : Below W.heap.size W w1) : Below wr.heap.size wr w1 := h0.trans (h1.mono h0.size)

/-- What holds at the head of Decode's round: k bytes have been fed. -/
def Fed (w : World) (r : DS × List Int) (out : Value) (wr : World) : Prop :=
  wr.ownsRow (w.heap.size + 1) 21 1 out r.2.length (r.2.map (Value.int .i32)) ∧ Blk wr w.heap.size #[.int .u8 r.1.h0, .int .u8 r.1.h1, .int .u8 r.1.h2, .int .i64 r.1.n] ∧ Below w.heap.size w wr

/-- The relation, one byte on. -/
theorem fed_next {w w3 : World} {r : DS × List Int} {l : List Int} {v : Value} {a b c d : Int} {e0 e1 e2 e3 : Value} (hown : w3.ownsRow (w.heap.size + 1) 21 1 v (r.2.length + l.length) (r.2.map (Value.int .i32) ++ l.map (Value.int .i32)))
    (hB : Blk w3 w.heap.size #[e0, e1, e2, e3]) (hb : Below w.heap.size w w3) {r' : DS × List Int} (hr : r' = (⟨a, b, c, d⟩, r.2 ++ l)) :
    Fed w r' v ((((w3.setCell ⟨w.heap.size, 0, none⟩ (.int .u8 a)).setCell ⟨w.heap.size, 1, none⟩ (.int .u8 b)).setCell ⟨w.heap.size, 2, none⟩ (.int .u8 c)).setCell ⟨w.heap.size, 3, none⟩ (.int .i64 d)) := by
  subst hr
  refine ⟨?_, (((hB.set_ 0 (by simp) _).set_ 1 (by simp) _).set_ 2 (by simp) _).set_ 3 (by simp) _, (((hb.setCell (Nat.le_refl _) _).setCell (Nat.le_refl _) _).setCell (Nat.le_refl _) _).setCell (Nat.le_refl _) _⟩
  have h := ownsRow_setCell_below (ownsRow_setCell_below (ownsRow_setCell_below (ownsRow_setCell_below hown (a := ⟨w.heap.size, 0, none⟩) (Nat.lt_succ_self _) (.int .u8 a)) (a := ⟨w.heap.size, 1, none⟩) (Nat.lt_succ_self _) (.int .u8 b))
    (a := ⟨w.heap.size, 2, none⟩) (Nat.lt_succ_self _) (.int .u8 c)) (a := ⟨w.heap.size, 3, none⟩) (Nat.lt_succ_self _) (.int .i64 d)
  simpa [List.map_append] using h

theorem take_map (p q : Int) (kk : Nat) (hk : kk ≤ 2) : (List.range kk).map (fun j => Value.int .i32 ([p, q].getD j 0)) = ([p, q].take kk).map (Value.int .i32) := by
  obtain rfl | rfl | rfl : kk = 0 ∨ kk = 1 ∨ kk = 2 := by omega
  · rfl
  · rfl
  · rfl

end Go.Proofs.YtfnieoffgnnldaaDoor
