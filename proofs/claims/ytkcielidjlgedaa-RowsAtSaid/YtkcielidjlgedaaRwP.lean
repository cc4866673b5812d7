/- rows: the mathematics of spans. -/
namespace Go.Proofs.Ytkcielidjlgedaa
set_option linter.unusedVariables false
set_option linter.unusedSimpArgs false

structure Row where
  k : Int
  f : Int
  t : Int
  a : Int
  b : Int
structure Span where
  f : Int
  t : Int
  a : Int
  b : Int
deriving DecidableEq
def MS : Int := 1114111

def cut1 (kind : Int) (x : Row) : Option Span := if x.k = kind ∧ max x.f 0 ≤ min x.t MS then some ⟨max x.f 0, min x.t MS, x.a, x.b⟩ else none
def ofK (kind : Int) (l : List Row) : List Span := l.filterMap (cut1 kind)
def Span.has (r : Int) (s : Span) : Bool := decide (s.f ≤ r ∧ r ≤ s.t)
def val (S : List Span) (r : Int) : Option (Int × Int) := (S.find? (Span.has r)).map fun s => (s.a, s.b)
def Row.has (kind r : Int) (x : Row) : Bool := decide (x.k = kind ∧ x.f ≤ r ∧ r ≤ x.t)
def rval (kind : Int) (l : List Row) (r : Int) : Option (Int × Int) := (l.find? (Row.has kind r)).map fun x => (x.a, x.b)

theorem val_ofK (kind : Int) (l : List Row) (r : Int) (h0 : 0 ≤ r) (h1 : r ≤ MS) : val (ofK kind l) r = rval kind l r := by
  induction l with
  | nil => rfl
  | cons x l ih =>
    unfold val ofK rval at ih ⊢
    by_cases hx : x.k = kind ∧ max x.f 0 ≤ min x.t MS
    · rw [List.filterMap_cons, show cut1 kind x = some ⟨max x.f 0, min x.t MS, x.a, x.b⟩ from if_pos hx]
      by_cases hr : x.f ≤ r ∧ r ≤ x.t
      · rw [List.find?_cons_of_pos (by simp [Span.has]; omega), List.find?_cons_of_pos (by simp [Row.has, hx.1]; omega)]
        rfl
      · rw [List.find?_cons_of_neg (by simp [Span.has]; omega), List.find?_cons_of_neg (by simp [Row.has]; omega)]
        exact ih
    · rw [List.filterMap_cons, show cut1 kind x = none from if_neg hx, List.find?_cons_of_neg (by simp [Row.has]; intro e; have : ¬ (max x.f 0 ≤ min x.t MS) := fun h => hx ⟨e, h⟩; omega)]
      exact ih

theorem ofK_bd {kind : Int} {l : List Row} {s : Span} (h : s ∈ ofK kind l) : 0 ≤ s.f ∧ s.f ≤ s.t ∧ s.t ≤ MS := by
  obtain ⟨x, _, hx⟩ := List.mem_filterMap.1 h
  unfold cut1 at hx
  split at hx
  · rename_i hc
    injection hx with hx
    subst hx
    obtain ⟨_, hc⟩ := hc
    exact ⟨by simp; omega, by simpa using hc, by simp; omega⟩
  · cases hx

theorem val_some {S : List Span} {r : Int} {p : Int × Int} (h : val S r = some p) : ∃ s ∈ S, s.f ≤ r ∧ r ≤ s.t ∧ (s.a, s.b) = p := by
  unfold val at h
  cases hf : S.find? (Span.has r) with
  | none => rw [hf] at h; cases h
  | some s =>
    rw [hf] at h
    injection h with h
    have h1 := List.find?_some hf
    simp [Span.has] at h1
    exact ⟨s, List.mem_of_find?_eq_some hf, h1.1, h1.2, h⟩
theorem val_none {S : List Span} {r : Int} (h : val S r = none) : ∀ s ∈ S, ¬ (s.f ≤ r ∧ r ≤ s.t) := by
  unfold val at h
  cases hf : S.find? (Span.has r) with
  | none =>
    intro s hs hh
    have := List.find?_eq_none.1 hf s hs
    simp [Span.has] at this
    omega
  | some s => rw [hf] at h; cases h

/-- Spans that rise, none of which has a scalar of another one. -/
def Rise (S : List Span) : Prop := S.Pairwise (fun x y => x.t < y.f) ∧ ∀ s ∈ S, s.f ≤ s.t
theorem rise_one {S : List Span} (h : Rise S) {s : Span} (hs : s ∈ S) {r : Int} (h1 : s.f ≤ r) (h2 : r ≤ s.t) : val S r = some (s.a, s.b) := by
  obtain ⟨hp, hb⟩ := h
  induction S with
  | nil => cases hs
  | cons x S ih =>
    obtain ⟨hx, hp⟩ := List.pairwise_cons.1 hp
    unfold val
    rcases List.mem_cons.1 hs with rfl | hs
    · rw [List.find?_cons_of_pos (by simp [Span.has]; omega)]
      rfl
    · have := hx s hs
      rw [List.find?_cons_of_neg (by simp [Span.has]; omega)]
      exact ih hs hp fun s hs => hb s (List.mem_cons_of_mem _ hs)

/-! ### cuts -/
def cAt (C : List Int) (i : Nat) : Int := C.getD i 0
theorem cAt_lt {C : List Int} (h : C.Pairwise (· < ·)) {i j : Nat} (hij : i < j) (hj : j < C.length) : cAt C i < cAt C j := by
  have := List.pairwise_iff_getElem.1 h i j (by omega) hj hij
  simpa [cAt, List.getD, hj, show i < C.length by omega] using this
theorem cAt_le {C : List Int} (h : C.Pairwise (· < ·)) {i j : Nat} (hij : i ≤ j) (hj : j < C.length) : cAt C i ≤ cAt C j := by
  rcases Nat.lt_or_eq_of_le hij with h1 | rfl
  · exact Int.le_of_lt (cAt_lt h h1 hj)
  · exact Int.le_refl _
theorem cAt_mem {C : List Int} {i : Nat} (hi : i < C.length) : cAt C i ∈ C := by
  simp [cAt, List.getD, hi]
/-- How many are less than a number that is there is where it stands. -/
theorem count_at {C : List Int} (h : C.Pairwise (· < ·)) {x : Int} (hx : x ∈ C) : C.countP (fun c => decide (c < x)) < C.length ∧ cAt C (C.countP (fun c => decide (c < x))) = x := by
  induction C with
  | nil => cases hx
  | cons c C ih =>
    obtain ⟨hc, hp⟩ := List.pairwise_cons.1 h
    rcases List.mem_cons.1 hx with rfl | hx
    · have h0 : C.countP (fun c => decide (c < x)) = 0 := by
        rw [List.countP_eq_zero]
        intro y hy
        have := hc y hy
        simp; omega
      rw [List.countP_cons_of_neg (by simp), h0]
      exact ⟨by simp, by simp [cAt]⟩
    · have := hc x hx
      rw [List.countP_cons_of_pos (by simpa using this)]
      obtain ⟨i1, i2⟩ := ih hp hx
      exact ⟨by simpa using i1, by simpa [cAt] using i2⟩
/-- The last cut that is not behind a number. -/
theorem cut_below {C : List Int} (h : C.Pairwise (· < ·)) {r lo hi : Int} (h1 : lo ∈ C) (h2 : hi ∈ C) (h3 : lo ≤ r) (h4 : r < hi) : ∃ q, q + 1 < C.length ∧ cAt C q ≤ r ∧ r < cAt C (q + 1) := by
  obtain ⟨j, hj, hjr⟩ := List.getElem_of_mem h1
  obtain ⟨k, hk, hkr⟩ := List.getElem_of_mem h2
  have e1 : cAt C j = lo := by simp [cAt, List.getD, hj, hjr]
  have e2 : cAt C k = hi := by simp [cAt, List.getD, hk, hkr]
  have hjk : j < k := by
    rcases Nat.lt_or_ge j k with h' | h'
    · exact h'
    · have := cAt_le h h' hj; omega
  have key : ∀ d q, q + d = k → cAt C q ≤ r → ∃ q, q + 1 < C.length ∧ cAt C q ≤ r ∧ r < cAt C (q + 1) := by
    intro d
    induction d with
    | zero => intro q e hq; have : q = k := by omega
              subst this; omega
    | succ d ih =>
      intro q e hq
      by_cases h' : cAt C (q + 1) ≤ r
      · exact ih (q + 1) (by omega) h'
      · exact ⟨q, by omega, hq, by omega⟩
  exact key (k - j) j (by omega) (by omega)

def Cuts (S : List Span) (C : List Int) : Prop := C.Pairwise (· < ·) ∧ ∀ c, c ∈ C ↔ ∃ s ∈ S, c = s.f ∨ c = s.t + 1
def cov (S : List Span) (r : Int) : Prop := ∃ s ∈ S, s.f ≤ r ∧ r ≤ s.t

/-- Between two cuts nothing begins or ends. -/
theorem cuts_same {S : List Span} {C : List Int} (h : Cuts S C) {q : Nat} (hq : q + 1 < C.length) {r : Int} (h1 : cAt C q ≤ r) (h2 : r < cAt C (q + 1)) {s : Span} (hs : s ∈ S) : (s.f ≤ r ∧ r ≤ s.t) ↔ (s.f ≤ cAt C q ∧ cAt C q ≤ s.t) := by
  have nb : ∀ x ∈ C, x ≤ cAt C q ∨ cAt C (q + 1) ≤ x := by
    intro x hx
    obtain ⟨j, hj, hjx⟩ := List.getElem_of_mem hx
    have e : cAt C j = x := by simp [cAt, List.getD, hj, hjx]
    rcases Nat.lt_or_ge q j with h' | h'
    · right; rw [← e]; exact cAt_le h.1 h' hj
    · left; rw [← e]; exact cAt_le h.1 h' (by omega)
  have b1 := nb s.f ((h.2 _).2 ⟨s, hs, .inl rfl⟩)
  have b2 := nb (s.t + 1) ((h.2 _).2 ⟨s, hs, .inr rfl⟩)
  omega
theorem cuts_val {S : List Span} {C : List Int} (h : Cuts S C) {q : Nat} (hq : q + 1 < C.length) {r : Int} (h1 : cAt C q ≤ r) (h2 : r < cAt C (q + 1)) : val S r = val S (cAt C q) := by
  have key : ∀ T : List Span, (∀ s ∈ T, s ∈ S) → val T r = val T (cAt C q) := by
    intro T
    induction T with
    | nil => intro _; rfl
    | cons s T ih =>
      intro hT
      have hs := cuts_same h hq h1 h2 (hT s (by simp))
      have := ih fun s hs => hT s (by simp [hs])
      unfold val at this ⊢
      by_cases hh : s.f ≤ r ∧ r ≤ s.t
      · rw [List.find?_cons_of_pos (by simpa [Span.has] using hh), List.find?_cons_of_pos (by simpa [Span.has] using hs.1 hh)]
      · rw [List.find?_cons_of_neg (by simpa [Span.has] using hh), List.find?_cons_of_neg (by simpa [Span.has] using fun a b => hh (hs.2 ⟨a, b⟩))]
        exact this
  exact key S fun _ h => h

/-- The part between two cuts, with what the first span says that has it. -/
def seg (S : List Span) (C : List Int) (q : Nat) : Span := ⟨cAt C q, cAt C (q + 1) - 1, ((val S (cAt C q)).getD (0, 0)).1, ((val S (cAt C q)).getD (0, 0)).2⟩

theorem cov_val {S : List Span} {r : Int} : cov S r ↔ (val S r).isSome := by
  constructor
  · intro ⟨s, hs, h1, h2⟩
    cases hv : val S r with
    | some p => rfl
    | none => exact absurd ⟨h1, h2⟩ (val_none hv s hs)
  · intro h
    obtain ⟨p, hp⟩ := Option.isSome_iff_exists.1 h
    obtain ⟨s, hs, h1, h2, _⟩ := val_some hp
    exact ⟨s, hs, h1, h2⟩

/-- The parts that are taken, sorted, say what the spans said. -/
theorem segs_rise {S : List Span} {C : List Int} (h : Cuts S C) {Q : List Nat} (hQ : ∀ q ∈ Q, q + 1 < C.length) (hs : Q.Pairwise (· < ·)) : Rise (Q.map (seg S C)) := by
  refine ⟨?_, ?_⟩
  · rw [List.pairwise_map]
    refine List.Pairwise.imp_of_mem ?_ hs
    intro a b ha hb hab
    have := cAt_le h.1 (show a + 1 ≤ b by omega) (by have := hQ b hb; omega)
    simp only [seg]; omega
  · intro s hs
    obtain ⟨q, hq, rfl⟩ := List.mem_map.1 hs
    have := cAt_lt h.1 (Nat.lt_succ_self q) (hQ q hq)
    simp only [seg]; simp only [Nat.succ_eq_add_one] at this; omega
theorem segs_val {S : List Span} {C : List Int} (h : Cuts S C) {Q : List Nat} (hQ : ∀ q, q ∈ Q ↔ q + 1 < C.length ∧ cov S (cAt C q)) (hs : Q.Pairwise (· < ·)) (r : Int) : val (Q.map (seg S C)) r = val S r := by
  have hR := segs_rise h (fun q hq => ((hQ q).1 hq).1) hs
  cases hv : val S r with
  | some p =>
    obtain ⟨s, hsm, h1, h2, _⟩ := val_some hv
    obtain ⟨q, hq, h3, h4⟩ := cut_below h.1 ((h.2 _).2 ⟨s, hsm, .inl rfl⟩) ((h.2 _).2 ⟨s, hsm, .inr rfl⟩) h1 (show r < s.t + 1 by omega)
    have hc := cuts_val h hq h3 h4
    have hm : q ∈ Q := (hQ q).2 ⟨hq, cov_val.2 (by rw [← hc, hv]; rfl)⟩
    have := rise_one hR (List.mem_map_of_mem hm) (r := r) (by simp only [seg]; omega) (by simp only [seg]; omega)
    rw [this]
    simp only [seg]
    rw [← hc, hv]
    rfl
  | none =>
    cases hw : val (Q.map (seg S C)) r with
    | none => rfl
    | some p =>
      obtain ⟨s, hsm, h1, h2, _⟩ := val_some hw
      obtain ⟨q, hq, rfl⟩ := List.mem_map.1 hsm
      obtain ⟨hq1, hq2⟩ := (hQ q).1 hq
      simp only [seg] at h1 h2
      rw [cuts_val h hq1 h1 (by omega)] at hv
      rw [cov_val, hv] at hq2
      cases hq2

/-! ### joined -/
def jstep (out : List Span) (x : Span) : List Span :=
  match out.getLast? with
  | some y => if y.t + 1 = x.f ∧ y.a = x.a ∧ y.b = x.b then out.dropLast ++ [⟨y.f, x.t, y.a, y.b⟩] else out ++ [x]
  | none => out ++ [x]
def joinP (l : List Span) : List Span := l.foldl jstep []
/-- No two that meet are the same. -/
def Apt (S : List Span) : Prop := ∀ i, i + 1 < S.length → ∀ x y, S[i]? = some x → S[i + 1]? = some y → ¬ (x.t + 1 = y.f ∧ x.a = y.a ∧ x.b = y.b)

theorem val_append (S T : List Span) (r : Int) : val (S ++ T) r = (val S r).or (val T r) := by
  unfold val
  rw [List.find?_append]
  cases S.find? (Span.has r) <;> simp

structure JI (D out : List Span) (lo hi : Int) : Prop where
  rise : Rise out
  apt : Apt out
  says : ∀ r, val out r = val D r
  bd : ∀ s ∈ out, lo ≤ s.f ∧ s.t ≤ hi
  last : ∀ y, out.getLast? = some y → ∃ z ∈ D, z.t = y.t
  len : out.length ≤ D.length

theorem rise_snoc {S : List Span} {x : Span} (h : Rise S) (hx : x.f ≤ x.t) (hl : ∀ y ∈ S, y.t < x.f) : Rise (S ++ [x]) := by
  refine ⟨List.pairwise_append.2 ⟨h.1, List.pairwise_singleton _ _, ?_⟩, ?_⟩
  · intro a ha b hb
    rcases List.mem_singleton.1 hb with rfl
    exact hl a ha
  · intro s hs
    rcases List.mem_append.1 hs with hs | hs
    · exact h.2 s hs
    · rcases List.mem_singleton.1 hs with rfl
      exact hx
theorem rise_last {S : List Span} {y : Span} (h : Rise (S ++ [y])) : Rise S ∧ y.f ≤ y.t ∧ ∀ z ∈ S, z.t < y.f := by
  obtain ⟨h1, h2⟩ := h
  obtain ⟨a, _, b⟩ := List.pairwise_append.1 h1
  exact ⟨⟨a, fun s hs => h2 s (by simp [hs])⟩, h2 y (by simp), fun z hz => b z hz y (by simp)⟩
theorem apt_snoc {S : List Span} {x : Span} (h : Apt S) (hl : ∀ y, S.getLast? = some y → ¬ (y.t + 1 = x.f ∧ y.a = x.a ∧ y.b = x.b)) : Apt (S ++ [x]) := by
  intro i hi u v hu hv
  simp at hi
  by_cases h1 : i + 1 < S.length
  · rw [List.getElem?_append_left (by omega)] at hu
    rw [List.getElem?_append_left h1] at hv
    exact h i h1 u v hu hv
  · have e : i + 1 = S.length := by omega
    rw [List.getElem?_append_left (by omega)] at hu
    rw [List.getElem?_append_right (by omega), e] at hv
    simp at hv
    subst hv
    refine hl u ?_
    rw [List.getLast?_eq_getElem?, ← hu]
    congr 1
    omega
theorem apt_take {S : List Span} {y : Span} (h : Apt (S ++ [y])) (x : Span) (e1 : x.f = y.f) (e2 : x.a = y.a) (e3 : x.b = y.b) : Apt (S ++ [x]) := by
  intro i hi u v hu hv
  simp at hi
  by_cases h1 : i + 1 < S.length
  · rw [List.getElem?_append_left (by omega)] at hu
    rw [List.getElem?_append_left h1] at hv
    refine h i (by simp; omega) u v ?_ ?_
    · rw [List.getElem?_append_left (by omega)]; exact hu
    · rw [List.getElem?_append_left h1]; exact hv
  · have e : i + 1 = S.length := by omega
    rw [List.getElem?_append_left (by omega)] at hu
    rw [List.getElem?_append_right (by omega), e] at hv
    simp at hv
    subst hv
    have := h i (by simp; omega) u y (by rw [List.getElem?_append_left (by omega)]; exact hu) (by rw [List.getElem?_append_right (by omega), e]; simp)
    rw [e1, e2, e3]
    exact this

theorem val_one (x : Span) (r : Int) : val [x] r = if x.f ≤ r ∧ r ≤ x.t then some (x.a, x.b) else none := by
  unfold val
  by_cases h : x.f ≤ r ∧ r ≤ x.t
  · rw [List.find?_cons_of_pos (by simpa [Span.has] using h), if_pos h]; rfl
  · rw [List.find?_cons_of_neg (by simpa [Span.has] using h), if_neg h]; rfl

theorem JI.step {D out : List Span} {lo hi : Int} {x : Span} (h : JI D out lo hi) (hx : x.f ≤ x.t) (h1 : lo ≤ x.f) (h2 : x.t ≤ hi) (hl : ∀ y ∈ D, y.t < x.f) : JI (D ++ [x]) (jstep out x) lo hi := by
  have hlast : ∀ y ∈ out, y.t < x.f := by
    rcases List.eq_nil_or_concat out with rfl | ⟨S, y, rfl⟩
    · intro y hy; cases hy
    · obtain ⟨z, hz, e⟩ := h.last y (by simp)
      intro u hu
      rw [List.concat_eq_append] at hu
      have hr := rise_last (by simpa using h.rise)
      have := hl z hz
      rcases List.mem_append.1 hu with hu | hu
      · have := hr.2.2 u hu
        have := hr.2.1
        omega
      · rcases List.mem_singleton.1 hu with rfl
        omega
  unfold jstep
  rcases List.eq_nil_or_concat out with rfl | ⟨S, y, rfl⟩
  · refine ⟨rise_snoc h.rise hx hlast, apt_snoc h.apt (by simp), fun r => ?_, ?_, ?_, by simp⟩
    · have := h.says r
      show val ([] ++ [x]) r = _
      rw [val_append, val_append, this]
    · intro s hs
      simp at hs
      subst hs
      exact ⟨h1, h2⟩
    · intro y hy
      simp at hy
      subst hy
      exact ⟨x, by simp, rfl⟩
  · simp only [List.concat_eq_append] at h hlast ⊢
    simp only [List.getLast?_append, List.getLast?_singleton, Option.some_or, List.dropLast_append_cons, List.dropLast_singleton, List.append_nil]
    obtain ⟨r1, r2, r3⟩ := rise_last h.rise
    have hy := hlast y (by simp)
    split
    · rename_i hc
      obtain ⟨c1, c2, c3⟩ := hc
      refine ⟨rise_snoc r1 (by simp; omega) r3, apt_take h.apt _ rfl rfl rfl, fun r => ?_, ?_, ?_, ?_⟩
      · have hv := h.says r
        rw [val_append] at hv
        rw [val_append, val_append, ← hv, val_one, val_one, val_one]
        cases val S r with
        | some p => simp
        | none =>
          simp only [Option.none_or]
          by_cases a1 : y.f ≤ r ∧ r ≤ y.t
          · rw [if_pos a1, if_pos ⟨a1.1, by omega⟩]; rfl
          · rw [if_neg a1]
            simp only [Option.none_or]
            by_cases a2 : x.f ≤ r ∧ r ≤ x.t
            · rw [if_pos a2, if_pos ⟨by omega, a2.2⟩, c2, c3]
            · rw [if_neg a2, if_neg (by omega)]
      · intro s hs
        rcases List.mem_append.1 hs with hs | hs
        · exact h.bd s (by simp [hs])
        · rcases List.mem_singleton.1 hs with rfl
          exact ⟨(h.bd y (by simp)).1, h2⟩
      · intro u hu
        simp at hu
        subst hu
        exact ⟨x, by simp, rfl⟩
      · have := h.len
        simp at this ⊢; omega
    · rename_i hc
      refine ⟨rise_snoc h.rise hx hlast, apt_snoc h.apt (by simpa using hc), fun r => ?_, ?_, ?_, ?_⟩
      · rw [val_append, val_append (S := D), h.says]
      · intro s hs
        rcases List.mem_append.1 hs with hs | hs
        · exact h.bd s hs
        · rcases List.mem_singleton.1 hs with rfl
          exact ⟨h1, h2⟩
      · intro u hu
        simp at hu
        subst hu
        exact ⟨x, by simp, rfl⟩
      · have := h.len
        simp at this ⊢; omega
theorem JI.start (lo hi : Int) : JI [] [] lo hi := ⟨⟨List.Pairwise.nil, by simp⟩, fun i hi => absurd hi (by simp), fun _ => rfl, by simp, by simp, by simp⟩

theorem joinP_JI {lo hi : Int} : ∀ (l D out : List Span), JI D out lo hi → Rise (D ++ l) → (∀ s ∈ l, lo ≤ s.f ∧ s.t ≤ hi) → JI (D ++ l) (l.foldl jstep out) lo hi
  | [], D, out, h, _, _ => by simpa using h
  | x :: l, D, out, h, hr, hb => by
    have e : D ++ x :: l = (D ++ [x]) ++ l := by simp
    rw [e] at hr ⊢
    have h0 := rise_last (S := D) (y := x) ⟨(List.pairwise_append.1 hr.1).1, fun s hs => hr.2 s (by simp at hs ⊢; rcases hs with a | a <;> simp [a])⟩
    exact joinP_JI l (D ++ [x]) (jstep out x) (h.step h0.2.1 (hb x (by simp)).1 (hb x (by simp)).2 h0.2.2) hr fun s hs => hb s (by simp [hs])

/-- What Of tells. -/
structure Good (kind : Int) (l : List Row) (S : List Span) : Prop where
  rise : Rise S
  apt : Apt S
  says : ∀ r, 0 ≤ r → r ≤ MS → val S r = rval kind l r
  bd : ∀ s ∈ S, 0 ≤ s.f ∧ s.t ≤ MS

theorem good_of {kind : Int} {l : List Row} {C : List Int} (h : Cuts (ofK kind l) C) {Q : List Nat} (hQ : ∀ q, q ∈ Q ↔ q + 1 < C.length ∧ cov (ofK kind l) (cAt C q)) (hs : Q.Pairwise (· < ·)) : Good kind l (joinP (Q.map (seg (ofK kind l) C))) := by
  have hR := segs_rise h (fun q hq => ((hQ q).1 hq).1) hs
  have hb : ∀ s ∈ Q.map (seg (ofK kind l) C), 0 ≤ s.f ∧ s.t ≤ MS := by
    intro s hs
    obtain ⟨q, hq, rfl⟩ := List.mem_map.1 hs
    obtain ⟨h1, h2⟩ := (hQ q).1 hq
    obtain ⟨s1, m1, e1⟩ := (h.2 _).1 (cAt_mem (show q < C.length by omega))
    obtain ⟨s2, m2, e2⟩ := (h.2 _).1 (cAt_mem h1)
    have b1 := ofK_bd m1
    have b2 := ofK_bd m2
    simp only [seg]
    omega
  have := joinP_JI _ [] [] (JI.start 0 MS) (by simpa using hR) hb
  simp only [List.nil_append] at this
  exact ⟨this.rise, this.apt, fun r h0 h1 => by rw [← val_ofK kind l r h0 h1, ← segs_val h hQ hs r]; exact this.says r, this.bd⟩
end Go.Proofs.Ytkcielidjlgedaa
