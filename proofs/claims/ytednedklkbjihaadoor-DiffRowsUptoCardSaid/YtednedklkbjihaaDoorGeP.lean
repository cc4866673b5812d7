/- grid: rows by the document, pure. -/
import Derived.Test.YtednedklkbjihaaDoorGeA

namespace Go.Proofs.YtednedklkbjihaaDoor

open Go.RowKit

set_option linter.unusedVariables false

set_option linter.unusedSimpArgs false
set_option maxRecDepth 100000

def upd (G : Nat → Cl) (c : Nat) (v : Cl) (j : Nat) : Cl := if j = c then v else G j
def looseG (G : Nat → Cl) (c : Nat) : Nat → Cl := upd (if (G c).2 = 2 then upd G (c + 1) blank else if (G c).2 = 0 then upd G (c - 1) blank else G) c blank
/-- Wide cells are whole. -/
def WF (n : Nat) (G : Nat → Cl) : Prop := ∀ j, j < n → ((G j).2 = 2 ∧ j + 1 < n ∧ (G (j + 1)).2 = 0) ∨ ((G j).2 = 0 ∧ 0 < j ∧ (G (j - 1)).2 = 2 ∧ (G j).1 = ⟨#[]⟩) ∨ (G j).2 = 1
/-- k cells from c on are made loose, one by one. -/
def er (G : Nat → Cl) (c : Nat) : Nat → Nat → Cl
  | 0 => G
  | k + 1 => looseG (er G c k) (c + k)
def putG (G : Nat → Cl) (c : Nat) (x : Cl) : Nat → Cl :=
  if x.2 = 2 then upd (upd (looseG (looseG G c) (c + 1)) c x) (c + 1) nought else upd (looseG G c) c x

theorem blank_wd : blank.2 = 1 := rfl
theorem nought_wd : nought.2 = 0 := rfl
theorem nought_tx : nought.1 = ⟨#[]⟩ := rfl

theorem wf_loose {n : Nat} {G : Nat → Cl} (h : WF n G) {c : Nat} (hc : c < n) : WF n (looseG G c) := by
  intro j hj
  have hcc := h c hc
  have hj0 := h j hj
  unfold looseG upd
  by_cases e : j = c
  · rw [if_pos e]; exact .inr (.inr rfl)
  rw [if_neg e]
  rcases hcc with ⟨h2, hn, h0⟩ | ⟨h0, hp, h2, _⟩ | h1
  · rw [if_pos h2]
    by_cases e1 : j = c + 1
    · rw [if_pos e1]; exact .inr (.inr rfl)
    rw [if_neg e1]
    rcases hj0 with ⟨a, b, d⟩ | ⟨a, b, d, t⟩ | a
    · refine .inl ⟨a, b, ?_⟩
      have q : j + 1 ≠ c := by intro q; rw [q] at d; omega
      rw [if_neg q, if_neg (by omega)]
      exact d
    · refine .inr (.inl ⟨a, b, ?_, t⟩)
      have q2 : j - 1 ≠ c + 1 := by intro q; rw [q] at d; omega
      rw [if_neg (by omega), if_neg q2]
      exact d
    · exact .inr (.inr a)
  · have n2 : (G c).2 ≠ 2 := by omega
    rw [if_neg n2, if_pos h0]
    by_cases e1 : j = c - 1
    · rw [if_pos e1]; exact .inr (.inr rfl)
    rw [if_neg e1]
    rcases hj0 with ⟨a, b, d⟩ | ⟨a, b, d, t⟩ | a
    · refine .inl ⟨a, b, ?_⟩
      rw [if_neg (by omega)]
      by_cases q : j + 1 = c - 1
      · exfalso
        rw [← q] at h2
        omega
      · rw [if_neg q]; exact d
    · refine .inr (.inl ⟨a, b, ?_, t⟩)
      have q : j - 1 ≠ c := by intro q; rw [q] at d; omega
      rw [if_neg q, if_neg (by omega)]
      exact d
    · exact .inr (.inr a)
  · have n2 : (G c).2 ≠ 2 := by omega
    have n0 : (G c).2 ≠ 0 := by omega
    rw [if_neg n2, if_neg n0]
    rcases hj0 with ⟨a, b, d⟩ | ⟨a, b, d, t⟩ | a
    · refine .inl ⟨a, b, ?_⟩
      have q : j + 1 ≠ c := by intro q; rw [q] at d; omega
      rw [if_neg q]; exact d
    · refine .inr (.inl ⟨a, b, ?_, t⟩)
      have q : j - 1 ≠ c := by intro q; rw [q] at d; omega
      rw [if_neg q]; exact d
    · exact .inr (.inr a)

theorem loose_at (G : Nat → Cl) (c : Nat) : looseG G c c = blank := by simp [looseG, upd]
theorem wf_er {n : Nat} {G : Nat → Cl} (h : WF n G) (c : Nat) : ∀ k, c + k ≤ n → WF n (er G c k)
  | 0, _ => h
  | k + 1, hk => wf_loose (wf_er h c k (by omega)) (by omega)

theorem loose_blank {G : Nat → Cl} {c j : Nat} (h : G j = blank) : looseG G c j = blank := by
  unfold looseG upd
  by_cases e : j = c
  · rw [if_pos e]
  rw [if_neg e]
  split
  · show (if j = c + 1 then blank else G j) = blank
    split
    · rfl
    · exact h
  · split
    · show (if j = c - 1 then blank else G j) = blank
      split
      · rfl
      · exact h
    · exact h
theorem er_blank (G : Nat → Cl) (c : Nat) : ∀ k j, c ≤ j → j < c + k → er G c k j = blank
  | 0, j, h1, h2 => by omega
  | k + 1, j, h1, h2 => by
    by_cases e : j = c + k
    · subst e; exact loose_at _ _
    · exact loose_blank (er_blank G c k j h1 (by omega))

theorem wf_put {n : Nat} {G : Nat → Cl} (h : WF n G) {c : Nat} (hc : c < n) {x : Cl} (hx : x.2 = 1 ∨ x.2 = 2 ∧ c + 1 < n) : WF n (putG G c x) := by
  unfold putG
  rcases hx with h1 | ⟨h2, hn⟩
  · rw [if_neg (by omega)]
    have hw := wf_loose h hc
    have hb := loose_at G c
    intro j hj
    unfold upd
    by_cases e : j = c
    · rw [if_pos e]; exact .inr (.inr h1)
    rw [if_neg e]
    rcases hw j hj with ⟨a, b, d⟩ | ⟨a, b, d, t⟩ | a
    · refine .inl ⟨a, b, ?_⟩
      have q : j + 1 ≠ c := by intro q; rw [q, hb] at d; exact absurd d (by decide)
      rw [if_neg q]; exact d
    · refine .inr (.inl ⟨a, b, ?_, t⟩)
      have q : j - 1 ≠ c := by intro q; rw [q, hb] at d; exact absurd d (by decide)
      rw [if_neg q]; exact d
    · exact .inr (.inr a)
  · rw [if_pos h2]
    have hw := wf_loose (wf_loose h hc) hn
    have hb1 := loose_at (looseG G c) (c + 1)
    have hb0 : looseG (looseG G c) (c + 1) c = blank := loose_blank (loose_at G c)
    intro j hj
    unfold upd
    by_cases e1 : j = c + 1
    · rw [if_pos e1]
      refine .inr (.inl ⟨rfl, by omega, ?_, rfl⟩)
      rw [if_neg (by omega), if_pos (by omega)]
      exact h2
    rw [if_neg e1]
    by_cases e : j = c
    · rw [if_pos e]
      refine .inl ⟨h2, by omega, ?_⟩
      rw [if_pos (by omega)]
      rfl
    rw [if_neg e]
    rcases hw j hj with ⟨a, b, d⟩ | ⟨a, b, d, t⟩ | a
    · refine .inl ⟨a, b, ?_⟩
      have q : j + 1 ≠ c := by intro q; rw [q, hb0] at d; exact absurd d (by decide)
      rw [if_neg (by omega), if_neg q]
      exact d
    · refine .inr (.inl ⟨a, b, ?_, t⟩)
      have q : j - 1 ≠ c + 1 := by intro q; rw [q, hb1] at d; exact absurd d (by decide)
      rw [if_neg q, if_neg (by omega)]
      exact d
    · exact .inr (.inr a)

/-! ### A row in a block -/
def Is (cs : Array Value) (o n : Nat) (G : Nat → Cl) : Prop := ∀ j, j < n → cs[o + j * 2]? = some (.string (G j).1) ∧ cs[o + j * 2 + 1]? = some (.int .i64 (G j).2)
/-- Beside the row all is as it was. -/
def Out (cs cs' : Array Value) (o n : Nat) : Prop := cs'.size = cs.size ∧ ∀ j, j < o ∨ o + n * 2 ≤ j → cs'[j]? = cs[j]?

theorem Out.refl (cs : Array Value) (o n : Nat) : Out cs cs o n := ⟨rfl, fun _ _ => rfl⟩
theorem Out.trans {a b c : Array Value} {o n : Nat} (h : Out a b o n) (k : Out b c o n) : Out a c o n := ⟨k.1.trans h.1, fun j hj => (k.2 j hj).trans (h.2 j hj)⟩
theorem Is.congr {cs : Array Value} {o n : Nat} {G H : Nat → Cl} (h : Is cs o n G) (e : ∀ j, j < n → G j = H j) : Is cs o n H := fun j hj => by rw [← e j hj]; exact h j hj
theorem Is.out {a b : Array Value} {o n o' n' : Nat} {G : Nat → Cl} (h : Is a o' n' G) (k : Out a b o n) (hd : o' + n' * 2 ≤ o ∨ o + n * 2 ≤ o') : Is b o' n' G := fun j hj => by
  rw [k.2 _ (by omega), k.2 _ (by omega)]
  exact h j hj

theorem out_put2 {cs : Array Value} {o n c : Nat} (v : Cl) (hc : c < n) : Out cs (put2 cs (o + c * 2) v) o n := by
  refine ⟨put2_size _ _ _, fun j hj => put2_other v (by omega) (by omega)⟩
theorem is_put2 {cs : Array Value} {o n c : Nat} {G : Nat → Cl} (h : Is cs o n G) (v : Cl) (hc : c < n) (hs : o + n * 2 ≤ cs.size) : Is (put2 cs (o + c * 2) v) o n (upd G c v) := by
  intro j hj
  unfold upd
  by_cases e : j = c
  · subst e
    rw [if_pos rfl]
    exact ⟨put2_fst v (by omega), put2_snd v (by omega)⟩
  · rw [if_neg e, put2_other v (by omega) (by omega), put2_other v (by omega) (by omega)]
    exact h j hj

theorem WF.legal {n : Nat} {G : Nat → Cl} (h : WF n G) {c : Nat} (hc : c < n) : (G c).2 = 2 ∧ c + 1 < n ∨ (G c).2 = 0 ∧ 0 < c ∨ (G c).2 = 1 := by
  rcases h c hc with ⟨a, b, _⟩ | ⟨a, b, _⟩ | a
  · exact .inl ⟨a, b⟩
  · exact .inr (.inl ⟨a, b⟩)
  · exact .inr (.inr a)

theorem is_loose {cs : Array Value} {o n c : Nat} {G : Nat → Cl} (h : Is cs o n G) (hw : WF n G) (hc : c < n) (hs : o + n * 2 ≤ cs.size) :
    Is (looseA cs o c (G c).2) o n (looseG G c) ∧ Out cs (looseA cs o c (G c).2) o n := by
  unfold looseA looseG
  rcases hw.legal hc with ⟨a, b⟩ | ⟨a, b⟩ | a
  · rw [if_pos a, if_pos a]
    have o1 := out_put2 (cs := cs) (o := o) (n := n) blank b
    exact ⟨is_put2 (is_put2 h blank b hs) blank hc (by rw [put2_size]; exact hs), o1.trans (out_put2 blank hc)⟩
  · have n2 : (G c).2 ≠ 2 := by omega
    rw [if_neg n2, if_neg n2, if_pos a, if_pos a]
    have b' : c - 1 < n := by omega
    have o1 := out_put2 (cs := cs) (o := o) (n := n) blank b'
    exact ⟨is_put2 (is_put2 h blank b' hs) blank hc (by rw [put2_size]; exact hs), o1.trans (out_put2 blank hc)⟩
  · have n2 : (G c).2 ≠ 2 := by omega
    have n0 : (G c).2 ≠ 0 := by omega
    rw [if_neg n2, if_neg n0, if_neg n2, if_neg n0]
    exact ⟨is_put2 h blank hc hs, out_put2 blank hc⟩

/-- Behind a call the block's row is G'; beside it nothing has turned. -/
def RowTo (b : Nat) (cs : Array Value) (o n : Nat) (G' : Nat → Cl) (w : World) (e : Ending) (w' : World) : Prop :=
  (∃ v, e = .returned v) ∧ ∃ cs', Blk w' b cs' ∧ Out cs cs' o n ∧ Is cs' o n G' ∧ Chg (fun k => k = b) w w'

/-- A row that may be changed. -/
structure RowAt (w : World) (b : Nat) (cs : Array Value) (o n : Nat) (G : Nat → Cl) : Prop where
  blk : Blk w b cs
  size : o + n * 2 ≤ cs.size
  is : Is cs o n G
  wf : WF n G
  small : n ≤ 1000000

theorem loose_row {w : World} {b o n c C : Nat} {cs : Array Value} {G : Nat → Cl} (h : RowAt w b cs o n G) (hc : c < n) :
    Calls Tryd.prog 49 #[.slice (some ⟨b, o, none⟩) n C, .int .i64 c] w (RowTo b cs o n (looseG G c) w) :=
  (loose_any h.blk h.size hc h.small (h.is c hc).2 (h.wf.legal hc)).mono fun _ _ ⟨he, hb, hc'⟩ => ⟨he, _, hb, (is_loose h.is h.wf hc h.size).2, (is_loose h.is h.wf hc h.size).1, hc'⟩
theorem looseR_row {w : World} {b o n c C : Nat} {cs : Array Value} {G : Nat → Cl} (h : RowAt w b cs o n G) (hc : c < n) :
    Calls Tryd.prog 51 #[.slice (some ⟨b, o, none⟩) n C, .int .i64 c] w (RowTo b cs o n (looseG G c) w) :=
  (looseR_any h.blk h.size hc h.small (h.is c hc).2 (h.wf.legal hc)).mono fun _ _ ⟨he, hb, hc'⟩ => ⟨he, _, hb, (is_loose h.is h.wf hc h.size).2, (is_loose h.is h.wf hc h.size).1, hc'⟩

theorem RowAt.to {w w' : World} {b : Nat} {cs cs' : Array Value} {o n : Nat} {G G' : Nat → Cl} (h : RowAt w b cs o n G) (hb : Blk w' b cs') (ho : Out cs cs' o n) (hi : Is cs' o n G') (hw : WF n G') : RowAt w' b cs' o n G' :=
  ⟨hb, by rw [ho.1]; exact h.size, hi, hw, h.small⟩
end Go.Proofs.YtednedklkbjihaaDoor
