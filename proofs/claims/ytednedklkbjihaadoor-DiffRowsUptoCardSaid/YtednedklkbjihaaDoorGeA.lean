/- grid: cells in memory; Blank; loose. -/
import Derived.Test.YtednedklkbjihaaDoorChg

import Derived.IntWalk

namespace Go.Proofs.YtednedklkbjihaaDoor

open Go.RowKit

set_option linter.unusedVariables false

set_option linter.unusedSimpArgs false
set_option maxRecDepth 100000

/-- A cell: a text, its width. -/
abbrev Cl := ByteArray × Int
def blank : Cl := (⟨#[32]⟩, 1)
def nought : Cl := (⟨#[]⟩, 0)
abbrev clV (v : Cl) : Value := .agg #[.string v.1, .int .i64 v.2]
/-- A cell is laid at a place of a block. -/
def put2 (cs : Array Value) (p : Nat) (v : Cl) : Array Value := (cs.setIfInBounds p (.string v.1)).setIfInBounds (p + 1) (.int .i64 v.2)

theorem put2_size (cs : Array Value) (p : Nat) (v : Cl) : (put2 cs p v).size = cs.size := by simp [put2]

theorem put2_other {cs : Array Value} {p j : Nat} (v : Cl) (h1 : j ≠ p) (h2 : j ≠ p + 1) : (put2 cs p v)[j]? = cs[j]? := by
  simp [put2, Array.getElem?_setIfInBounds, Ne.symm h1, Ne.symm h2]
theorem put2_fst {cs : Array Value} {p : Nat} (v : Cl) (h : p < cs.size) : (put2 cs p v)[p]? = some (.string v.1) := by
  simp [put2, Array.getElem?_setIfInBounds, h]
theorem put2_snd {cs : Array Value} {p : Nat} (v : Cl) (h : p + 1 < cs.size) : (put2 cs p v)[p + 1]? = some (.int .i64 v.2) := by
  simp [put2, Array.getElem?_setIfInBounds, h]

/-- What loose makes of a row. -/
def looseA (cs : Array Value) (o c : Nat) (wd : Int) : Array Value :=
  put2 (if wd = 2 then put2 cs (o + (c + 1) * 2) blank else if wd = 0 then put2 cs (o + (c - 1) * 2) blank else cs) (o + c * 2) blank

/-- Two cells are laid. -/
def World.put2 (w : World) (b p : Nat) (v : Cl) : World := (w.setCell ⟨b, p, none⟩ (.string v.1)).setCell ⟨b, p + 1, none⟩ (.int .i64 v.2)

theorem Blk.put2 {w : World} {b p : Nat} {cs : Array Value} (h : Blk w b cs) (hp : p + 1 < cs.size) (v : Cl) : Blk (World.put2 w b p v) b (put2 cs p v) :=
  (h.set_ p (by omega) _).set_ (p + 1) (by simpa using hp) _
/-- What a store of two cells wants. -/
theorem Blk.two {w : World} {b p : Nat} {cs : Array Value} (h : Blk w b cs) (hp : p + 1 < cs.size) (t : Value) :
    ∃ u v, w.cell? ⟨b, p, none⟩ = some u ∧ w.frozen? ⟨b, p, none⟩ = false ∧ (w.setCell ⟨b, p, none⟩ t).cell? ⟨b, p + 1, none⟩ = some v ∧ (w.setCell ⟨b, p, none⟩ t).frozen? ⟨b, p + 1, none⟩ = false := by
  have h2 := h.set_ p (by omega) t
  refine ⟨cs[p], (cs.setIfInBounds p t)[p + 1]'(by simpa using hp), ?_, h.2.2 p, ?_, h2.2.2 _⟩
  · rw [h.2.1]; exact Array.getElem?_eq_getElem _
  · rw [h2.2.1]; exact Array.getElem?_eq_getElem _

theorem Chg.put2 {S : Nat → Prop} {w v : World} {b p : Nat} (h : Chg S w v) (hb : S b) (x : Cl) : Chg S w (World.put2 v b p x) :=
  (h.setCell b p hb _).setCell b (p + 1) hb _

/-- The world of a call under a name. -/
theorem at_calls {P : Program} {f : FuncId} {args : Array Value} {Q : Ending → World → Prop} {X : World} (F : World → Prop) (hF : F X) (h : ∀ X, F X → Calls P f args X Q) : Calls P f args X Q := h X hF

theorem blank_any (w : World) : Calls Tryd.prog 59 #[] w fun e w' => e = .returned (.agg #[.string ⟨#[32]⟩, .int .i64 1]) ∧ Below w.heap.size w w' := by
  go_enter Tryd.func59, Tryd.ntmps59
  go_wp2
  exact bodyPost_ret (v := .agg #[.string ⟨#[32]⟩, .int .i64 1]) (by simp [results, Tryd.results59, go_sem]) rfl ⟨rfl, (Below.refl _ _).alloc (Nat.le_refl _) _⟩

theorem blankR_any (w : World) : Calls Tryd.prog 47 #[] w fun e w' => e = .returned (.agg #[.string ⟨#[32]⟩, .int .i64 1]) ∧ Below w.heap.size w w' := by
  go_enter Tryd.func47, Tryd.ntmps47
  go_wp2
  exact bodyPost_ret (v := .agg #[.string ⟨#[32]⟩, .int .i64 1]) (by simp [results, Tryd.results47, go_sem]) rfl ⟨rfl, (Below.refl _ _).alloc (Nat.le_refl _) _⟩

/-- Behind a call: block b holds cs; all else is as it was. -/
def Holds (b : Nat) (cs : Array Value) (w : World) (e : Ending) (w' : World) : Prop := (∃ v, e = .returned v) ∧ Blk w' b cs ∧ Chg (fun k => k = b) w w'

theorem Chg.later {S : Nat → Prop} {w v x : World} (h : Chg S w v) (k : Below v.heap.size v x) : Chg S w x := h.next (chg_below k) fun _ _ h => h.elim

set_option maxHeartbeats 1000000 in
theorem loose_wide (b o n c E C : Nat) (cs : Array Value) (w : World) (hB : Blk w b cs) (hE : c + 1 = E) (hEn : E < n) (hs : o + n * 2 ≤ cs.size) (hc : c < n) (hn : n ≤ 1000000) (hw : cs[o + c * 2 + 1]? = some (.int .i64 2)) :
    Calls Tryd.prog 49 #[.slice (some ⟨b, o, none⟩) n C, .int .i64 c] w (Holds b (put2 (put2 cs (o + E * 2) blank) (o + c * 2) blank) w) := by
  have HB := Lib.hid hB
  have k0 := (hB.2.1 (o + c * 2 + 1)).trans hw
  have e1 : (c : Int) + 1 = (E : Int) := by omega
  have z1 : o + E * 2 + 1 < cs.size := by omega
  have z2 : o + c * 2 + 1 < (put2 cs (o + E * 2) blank).size := by rw [put2_size]; omega
  have Z1 := Lib.hid z1
  have Z2 := Lib.hid z2
  have hw2 : (put2 cs (o + E * 2) blank)[o + c * 2 + 1]? = some (.int .i64 2) := by rw [put2_other _ (by omega) (by omega)]; exact hw
  have HW := Lib.hid hw2
  clear hB hE z1 z2 hw hw2
  go_enter Tryd.func49, Tryd.ntmps49
  go_wp2_with fail
  refine (blank_any w).mono ?_
  rintro e w1 ⟨rfl, hb⟩
  have HB1 := Lib.hid (HB.out.later hb HB.out.1)
  have HC1 := Lib.hid (show Chg (fun k => k = b) w w1 from (Chg.refl _ w).later hb)
  obtain ⟨u1, v1, q1, q2, q3, q4⟩ := HB1.out.two Z1.out (.string ⟨#[32]⟩)
  have k1 := ((HB1.out.put2 Z1.out blank).2.1 (o + c * 2 + 1)).trans HW.out
  simp only [World.put2, blank] at k1
  clear hb k0
  go_wp2_with fail
  refine at_calls (fun X => Blk X b (put2 cs (o + E * 2) blank) ∧ Chg (fun k => k = b) w X) ⟨HB1.out.put2 Z1.out blank, HC1.out.put2 rfl blank⟩ ?_
  rintro X ⟨B3, C3⟩
  refine (blank_any X).mono ?_
  rintro e w4 ⟨rfl, hb4⟩
  have HB4 := Lib.hid (B3.later hb4 B3.1)
  have HC4 := Lib.hid (C3.later hb4)
  clear B3 C3 hb4 q1 q2 q3 q4 k1
  obtain ⟨u4, v4, q1, q2, q3, q4⟩ := HB4.out.two Z2.out (.string ⟨#[32]⟩)
  go_wp2_with fail
  refine bodyPost_end (results_none rfl _ _ _) rfl ⟨⟨_, rfl⟩, HB4.out.put2 Z2.out blank, HC4.out.put2 rfl blank⟩

set_option maxHeartbeats 1000000 in
theorem loose_thin (b o n c E C : Nat) (cs : Array Value) (w : World) (hB : Blk w b cs) (hE : E + 1 = c) (hs : o + n * 2 ≤ cs.size) (hc : c < n) (hn : n ≤ 1000000) (hw : cs[o + c * 2 + 1]? = some (.int .i64 0)) :
    Calls Tryd.prog 49 #[.slice (some ⟨b, o, none⟩) n C, .int .i64 c] w (Holds b (put2 (put2 cs (o + E * 2) blank) (o + c * 2) blank) w) := by
  have HB := Lib.hid hB
  have k0 := (hB.2.1 (o + c * 2 + 1)).trans hw
  have e1 : (c : Int) - 1 = (E : Int) := by omega
  have e2 : 0 < c := by omega
  have z1 : o + E * 2 + 1 < cs.size := by omega
  have z2 : o + c * 2 + 1 < (put2 cs (o + E * 2) blank).size := by rw [put2_size]; omega
  have Z1 := Lib.hid z1
  have Z2 := Lib.hid z2
  have hw2 : (put2 cs (o + E * 2) blank)[o + c * 2 + 1]? = some (.int .i64 0) := by rw [put2_other _ (by omega) (by omega)]; exact hw
  have HW := Lib.hid hw2
  clear hB hE z1 z2 hw hw2
  go_enter Tryd.func49, Tryd.ntmps49
  go_wp2_with fail
  refine (blank_any w).mono ?_
  rintro e w1 ⟨rfl, hb⟩
  have HB1 := Lib.hid (HB.out.later hb HB.out.1)
  have HC1 := Lib.hid (show Chg (fun k => k = b) w w1 from (Chg.refl _ w).later hb)
  obtain ⟨u1, v1, q1, q2, q3, q4⟩ := HB1.out.two Z1.out (.string ⟨#[32]⟩)
  have k1 := ((HB1.out.put2 Z1.out blank).2.1 (o + c * 2 + 1)).trans HW.out
  simp only [World.put2, blank] at k1
  clear hb k0
  go_wp2_with fail
  refine at_calls (fun X => Blk X b (put2 cs (o + E * 2) blank) ∧ Chg (fun k => k = b) w X) ⟨HB1.out.put2 Z1.out blank, HC1.out.put2 rfl blank⟩ ?_
  rintro X ⟨B3, C3⟩
  refine (blank_any X).mono ?_
  rintro e w4 ⟨rfl, hb4⟩
  have HB4 := Lib.hid (B3.later hb4 B3.1)
  have HC4 := Lib.hid (C3.later hb4)
  clear B3 C3 hb4 q1 q2 q3 q4 k1
  obtain ⟨u4, v4, q1, q2, q3, q4⟩ := HB4.out.two Z2.out (.string ⟨#[32]⟩)
  go_wp2_with fail
  refine bodyPost_end (results_none rfl _ _ _) rfl ⟨⟨_, rfl⟩, HB4.out.put2 Z2.out blank, HC4.out.put2 rfl blank⟩

set_option maxHeartbeats 1000000 in
theorem loose_one (b o n c  C : Nat) (cs : Array Value) (w : World) (hB : Blk w b cs)  (hs : o + n * 2 ≤ cs.size) (hc : c < n) (hn : n ≤ 1000000) (hw : cs[o + c * 2 + 1]? = some (.int .i64 1)) :
    Calls Tryd.prog 49 #[.slice (some ⟨b, o, none⟩) n C, .int .i64 c] w (Holds b (put2 cs (o + c * 2) blank) w) := by
  have HB := Lib.hid hB
  have k0 := (hB.2.1 (o + c * 2 + 1)).trans hw
  have Z2 := Lib.hid (show o + c * 2 + 1 < cs.size by omega)
  clear hB hw
  go_enter Tryd.func49, Tryd.ntmps49
  go_wp2_with fail
  refine (blank_any w).mono ?_
  rintro e w1 ⟨rfl, hb⟩
  have HB1 := Lib.hid (HB.out.later hb HB.out.1)
  have HC1 := Lib.hid (show Chg (fun k => k = b) w w1 from (Chg.refl _ w).later hb)
  obtain ⟨u1, v1, q1, q2, q3, q4⟩ := HB1.out.two Z2.out (.string ⟨#[32]⟩)
  clear hb k0
  go_wp2_with fail
  refine bodyPost_end (results_none rfl _ _ _) rfl ⟨⟨_, rfl⟩, HB1.out.put2 Z2.out blank, HC1.out.put2 rfl blank⟩

theorem loose_any {b o n c C : Nat} {cs : Array Value} {w : World} {wd : Int} (hB : Blk w b cs) (hs : o + n * 2 ≤ cs.size) (hc : c < n) (hn : n ≤ 1000000) (hw : cs[o + c * 2 + 1]? = some (.int .i64 wd)) (hd : wd = 2 ∧ c + 1 < n ∨ wd = 0 ∧ 0 < c ∨ wd = 1) :
    Calls Tryd.prog 49 #[.slice (some ⟨b, o, none⟩) n C, .int .i64 c] w (Holds b (looseA cs o c wd) w) := by
  rcases hd with ⟨rfl, h⟩ | ⟨rfl, h⟩ | rfl
  · exact loose_wide b o n c (c + 1) C cs w hB rfl h hs hc hn hw
  · exact loose_thin b o n c (c - 1) C cs w hB (by omega) hs hc hn hw
  · exact loose_one b o n c C cs w hB hs hc hn hw

set_option maxHeartbeats 1000000 in
theorem looseR_wide (b o n c E C : Nat) (cs : Array Value) (w : World) (hB : Blk w b cs) (hE : c + 1 = E) (hEn : E < n) (hs : o + n * 2 ≤ cs.size) (hc : c < n) (hn : n ≤ 1000000) (hw : cs[o + c * 2 + 1]? = some (.int .i64 2)) :
    Calls Tryd.prog 51 #[.slice (some ⟨b, o, none⟩) n C, .int .i64 c] w (Holds b (put2 (put2 cs (o + E * 2) blank) (o + c * 2) blank) w) := by
  have HB := Lib.hid hB
  have k0 := (hB.2.1 (o + c * 2 + 1)).trans hw
  have e1 : (c : Int) + 1 = (E : Int) := by omega
  have z1 : o + E * 2 + 1 < cs.size := by omega
  have z2 : o + c * 2 + 1 < (put2 cs (o + E * 2) blank).size := by rw [put2_size]; omega
  have Z1 := Lib.hid z1
  have Z2 := Lib.hid z2
  have hw2 : (put2 cs (o + E * 2) blank)[o + c * 2 + 1]? = some (.int .i64 2) := by rw [put2_other _ (by omega) (by omega)]; exact hw
  have HW := Lib.hid hw2
  clear hB hE z1 z2 hw hw2
  go_enter Tryd.func51, Tryd.ntmps51
  go_wp2_with fail
  refine (blankR_any w).mono ?_
  rintro e w1 ⟨rfl, hb⟩
  have HB1 := Lib.hid (HB.out.later hb HB.out.1)
  have HC1 := Lib.hid (show Chg (fun k => k = b) w w1 from (Chg.refl _ w).later hb)
  obtain ⟨u1, v1, q1, q2, q3, q4⟩ := HB1.out.two Z1.out (.string ⟨#[32]⟩)
  have k1 := ((HB1.out.put2 Z1.out blank).2.1 (o + c * 2 + 1)).trans HW.out
  simp only [World.put2, blank] at k1
  clear hb k0
  go_wp2_with fail
  refine at_calls (fun X => Blk X b (put2 cs (o + E * 2) blank) ∧ Chg (fun k => k = b) w X) ⟨HB1.out.put2 Z1.out blank, HC1.out.put2 rfl blank⟩ ?_
  rintro X ⟨B3, C3⟩
  refine (blankR_any X).mono ?_
  rintro e w4 ⟨rfl, hb4⟩
  have HB4 := Lib.hid (B3.later hb4 B3.1)
  have HC4 := Lib.hid (C3.later hb4)
  clear B3 C3 hb4 q1 q2 q3 q4 k1
  obtain ⟨u4, v4, q1, q2, q3, q4⟩ := HB4.out.two Z2.out (.string ⟨#[32]⟩)
  go_wp2_with fail
  refine bodyPost_end (results_none rfl _ _ _) rfl ⟨⟨_, rfl⟩, HB4.out.put2 Z2.out blank, HC4.out.put2 rfl blank⟩

set_option maxHeartbeats 1000000 in
theorem looseR_thin (b o n c E C : Nat) (cs : Array Value) (w : World) (hB : Blk w b cs) (hE : E + 1 = c) (hs : o + n * 2 ≤ cs.size) (hc : c < n) (hn : n ≤ 1000000) (hw : cs[o + c * 2 + 1]? = some (.int .i64 0)) :
    Calls Tryd.prog 51 #[.slice (some ⟨b, o, none⟩) n C, .int .i64 c] w (Holds b (put2 (put2 cs (o + E * 2) blank) (o + c * 2) blank) w) := by
  have HB := Lib.hid hB
  have k0 := (hB.2.1 (o + c * 2 + 1)).trans hw
  have e1 : (c : Int) - 1 = (E : Int) := by omega
  have e2 : 0 < c := by omega
  have z1 : o + E * 2 + 1 < cs.size := by omega
  have z2 : o + c * 2 + 1 < (put2 cs (o + E * 2) blank).size := by rw [put2_size]; omega
  have Z1 := Lib.hid z1
  have Z2 := Lib.hid z2
  have hw2 : (put2 cs (o + E * 2) blank)[o + c * 2 + 1]? = some (.int .i64 0) := by rw [put2_other _ (by omega) (by omega)]; exact hw
  have HW := Lib.hid hw2
  clear hB hE z1 z2 hw hw2
  go_enter Tryd.func51, Tryd.ntmps51
  go_wp2_with fail
  refine (blankR_any w).mono ?_
  rintro e w1 ⟨rfl, hb⟩
  have HB1 := Lib.hid (HB.out.later hb HB.out.1)
  have HC1 := Lib.hid (show Chg (fun k => k = b) w w1 from (Chg.refl _ w).later hb)
  obtain ⟨u1, v1, q1, q2, q3, q4⟩ := HB1.out.two Z1.out (.string ⟨#[32]⟩)
  have k1 := ((HB1.out.put2 Z1.out blank).2.1 (o + c * 2 + 1)).trans HW.out
  simp only [World.put2, blank] at k1
  clear hb k0
  go_wp2_with fail
  refine at_calls (fun X => Blk X b (put2 cs (o + E * 2) blank) ∧ Chg (fun k => k = b) w X) ⟨HB1.out.put2 Z1.out blank, HC1.out.put2 rfl blank⟩ ?_
  rintro X ⟨B3, C3⟩
  refine (blankR_any X).mono ?_
  rintro e w4 ⟨rfl, hb4⟩
  have HB4 := Lib.hid (B3.later hb4 B3.1)
  have HC4 := Lib.hid (C3.later hb4)
  clear B3 C3 hb4 q1 q2 q3 q4 k1
  obtain ⟨u4, v4, q1, q2, q3, q4⟩ := HB4.out.two Z2.out (.string ⟨#[32]⟩)
  go_wp2_with fail
  refine bodyPost_end (results_none rfl _ _ _) rfl ⟨⟨_, rfl⟩, HB4.out.put2 Z2.out blank, HC4.out.put2 rfl blank⟩

set_option maxHeartbeats 1000000 in
theorem looseR_one (b o n c  C : Nat) (cs : Array Value) (w : World) (hB : Blk w b cs)  (hs : o + n * 2 ≤ cs.size) (hc : c < n) (hn : n ≤ 1000000) (hw : cs[o + c * 2 + 1]? = some (.int .i64 1)) :
    Calls Tryd.prog 51 #[.slice (some ⟨b, o, none⟩) n C, .int .i64 c] w (Holds b (put2 cs (o + c * 2) blank) w) := by
  have HB := Lib.hid hB
  have k0 := (hB.2.1 (o + c * 2 + 1)).trans hw
  have Z2 := Lib.hid (show o + c * 2 + 1 < cs.size by omega)
  clear hB hw
  go_enter Tryd.func51, Tryd.ntmps51
  go_wp2_with fail
  refine (blankR_any w).mono ?_
  rintro e w1 ⟨rfl, hb⟩
  have HB1 := Lib.hid (HB.out.later hb HB.out.1)
  have HC1 := Lib.hid (show Chg (fun k => k = b) w w1 from (Chg.refl _ w).later hb)
  obtain ⟨u1, v1, q1, q2, q3, q4⟩ := HB1.out.two Z2.out (.string ⟨#[32]⟩)
  clear hb k0
  go_wp2_with fail
  refine bodyPost_end (results_none rfl _ _ _) rfl ⟨⟨_, rfl⟩, HB1.out.put2 Z2.out blank, HC1.out.put2 rfl blank⟩

theorem looseR_any {b o n c C : Nat} {cs : Array Value} {w : World} {wd : Int} (hB : Blk w b cs) (hs : o + n * 2 ≤ cs.size) (hc : c < n) (hn : n ≤ 1000000) (hw : cs[o + c * 2 + 1]? = some (.int .i64 wd)) (hd : wd = 2 ∧ c + 1 < n ∨ wd = 0 ∧ 0 < c ∨ wd = 1) :
    Calls Tryd.prog 51 #[.slice (some ⟨b, o, none⟩) n C, .int .i64 c] w (Holds b (looseA cs o c wd) w) := by
  rcases hd with ⟨rfl, h⟩ | ⟨rfl, h⟩ | rfl
  · exact looseR_wide b o n c (c + 1) C cs w hB rfl h hs hc hn hw
  · exact looseR_thin b o n c (c - 1) C cs w hB (by omega) hs hc hn hw
  · exact looseR_one b o n c C cs w hB hs hc hn hw

end Go.Proofs.YtednedklkbjihaaDoor
