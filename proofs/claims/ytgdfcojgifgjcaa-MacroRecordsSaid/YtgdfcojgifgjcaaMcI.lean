/- macro: expand, whatever the name; Expand. -/
import Derived.Test.YtgdfcojgifgjcaaMcH
namespace Go.Proofs.Ytgdfcojgifgjcaa
open Go.RowKit Go.Maps
set_option linter.unusedVariables false
set_option linter.unusedSimpArgs false
set_option maxRecDepth 100000

theorem exX_none {F : Int → Option (List MSt)} {op : List Int} {nm : Int} {t : Nat} {ks : List Ky} (h : F nm = none) : ∀ d, exX F d op nm t ks = (5, t, ks)
  | 0 => by unfold exX; rw [h]
  | d + 1 => by unfold exX; rw [h]
theorem exX_open {F : Int → Option (List MSt)} {op : List Int} {nm : Int} {t : Nat} {ks : List Ky} {M : List MSt} (h : F nm = some M) (ho : nm ∈ op) : ∀ d, exX F d op nm t ks = (6, t, ks)
  | 0 => by unfold exX; rw [h]
  | d + 1 => by unfold exX; simp only [h]; rw [if_pos ho]
theorem exX_step {F : Int → Option (List MSt)} {op : List Int} {nm : Int} {t : Nat} {ks : List Ky} {M : List MSt} (h : F nm = some M) (ho : nm ∉ op) (d : Nat) : exX F (d + 1) op nm t ks = loopX (exX F d (nm :: op)) M t ks := by
  rw [exX]
  simp only [h]
  rw [if_neg ho]
theorem expand_any {W : World} {g bo B nB : Nat} {mb : Value} {L : List (Int × Sv)} {F : Int → Option (List MSt)} (hB : BookF W mb nB L F) : ∀ (d : Nat) (op : List Int) (q t n : Nat) (ks : List Ky) (A : Option Addr) (c : Nat) (hs : List Kp) (nm : Int) (w : World), (Lit.int .i32 nm).wf = true → q ≤ t → Cov F d op →
    Xp W g bo B mb op q t n ks A c hs w → Calls Try.prog 25 #[ptr g, .int .i32 nm] w (ExPost W g bo B mb op (exX F d op nm t ks)) := by
  intro d
  induction d with
  | zero =>
    intro op q t n ks A c hs nm w hw hq hc h
    cases hF : F nm with
    | none => rw [exX_none hF]; exact expand_none hB hw h hF
    | some M =>
      by_cases ho : nm ∈ op
      · rw [exX_open hF ho]; exact expand_open hB hw h hF ho
      · obtain ⟨d', h1, _⟩ := hc.step (by rw [hF]; rfl) ho
        omega
  | succ d ih =>
    intro op q t n ks A c hs nm w hw hq hc h
    cases hF : F nm with
    | none => rw [exX_none hF]; exact expand_none hB hw h hF
    | some M =>
      by_cases ho : nm ∈ op
      · rw [exX_open hF ho]; exact expand_open hB hw h hF ho
      · obtain ⟨d', h1, h2⟩ := hc.step (by rw [hF]; rfl) ho
        obtain rfl : d = d' := by omega
        rw [exX_step hF ho]
        exact expand_step hB hw h hq hF ho _ fun nm' t' q' n' ks' A' c' hs' X hw' hq' hX => ih (nm :: op) q' t' n' ks' A' c' hs' nm' X hw' hq' h2 hX
theorem book_cov {w : World} {m : Value} {n : Nat} {L : List (Int × Sv)} {F : Int → Option (List MSt)} (h : BookF w m n L F) : Cov F L.length [] := by
  refine ⟨L.map Prod.fst, by simp, fun s hs _ => ?_⟩
  have hl : lastB L s ≠ none := fun e => by
    rw [(h.2 s).1 e] at hs
    simp at hs
  clear hs
  induction L with
  | nil => exact absurd rfl hl
  | cons x L ih =>
    simp only [List.map_cons, List.mem_cons]
    by_cases e : x.1 = s
    · exact .inl e.symm
    · refine .inr ?_
      have hl' : lastB L s ≠ none := fun e' => hl (by unfold lastB; rw [e']; simp [e])
      clear h ih hl
      induction L with
      | nil => exact absurd rfl hl'
      | cons y L ih2 =>
        simp only [List.map_cons, List.mem_cons]
        by_cases e2 : y.1 = s
        · exact .inl e2.symm
        · exact .inr (ih2 fun e' => hl' (by unfold lastB; rw [e']; simp [e2]))
theorem book_shape {w : World} {m : Value} {n : Nat} {L : List (Int × Sv)} (h : BookOf w m n L) : ∃ q, m = .map q := by
  rcases h with ⟨rfl, _⟩ | ⟨b, D, rfl, _⟩
  · exact ⟨_, rfl⟩
  · exact ⟨_, rfl⟩
/-- A slice reads as keys. -/
def KyV (X : World) (v : Value) (ks : List Ky) : Prop := ∃ hs : List Kp, LiV 4 encK X Any v hs ∧ KeysS X Any hs ks
theorem KyV.later {X Y : World} {v : Value} {ks : List Ky} (h : KyV X v ks) (hb : Below X.heap.size X Y) : KyV Y v ks := by
  obtain ⟨hs, h1, h2⟩ := h
  exact ⟨hs, h1.later hb, h2.later hb⟩
/-- What Expand tells. -/
def ExTells (r : Nat × Nat × List Ky) (w : World) (e : Ending) (w' : World) : Prop := (∃ A n c, e = .returned (.tuple #[.slice A n c, .int .i64 r.1]) ∧ (r.1 = 0 → KyV w' (.slice A n c) r.2.2 ∧ n = r.2.2.length) ∧ (r.1 ≠ 0 → n = 0)) ∧ Below w.heap.size w w'
theorem xp_start (w : World) (m : Value) : Xp w (w.heap.size + 2) (w.heap.size + 1) (w.heap.size + 3) m [] 0 0 0 [] none 0 [] (((w.alloc (.cells #[m] 24)).alloc (.map #[] 0)).alloc (.cells #[m, .map (some (w.heap.size + 1)), .int .i64 0, .slice none 0 0] 70)) := by
  have hb : Below w.heap.size w (((w.alloc (.cells #[m] 24)).alloc (.map #[] 0)).alloc (.cells #[m, .map (some (w.heap.size + 1)), .int .i64 0, .slice none 0 0] 70)) := belPush (belPush (belAlloc _ _) _) _
  refine ⟨hb, ?_, ⟨by omega, by omega, by omega, by omega, by omega, by simp [World.size_alloc]⟩, ⟨.map [], ?_, fun s kl _ => by simp [Maps.has_eq]⟩, World.ownsRow_nil _ _ _ _, ⟨rfl, fun j x hx => by simp at hx⟩, ⟨rfl, Nat.le_refl _, by omega, by omega⟩⟩
  · have := blk_new ((w.alloc (.cells #[m] 24)).alloc (.map #[] 0)) #[m, .map (some (w.heap.size + 1)), .int .i64 0, .slice none 0 0] 70
    simpa using this
  · have := (World.ownsMap_made (w.alloc (.cells #[m] 24)) Try.prog 21 elI).alloc (.cells #[m, .map (some (w.heap.size + 1)), .int .i64 0, .slice none 0 0] 70)
    simpa using this
theorem xp_tells {w X : World} {g bo B q t c : Nat} {mb : Value} {op : List Int} {ks : List Ky} {A : Option Addr} {hs : List Kp} (h : Xp w g bo B mb op q t ks.length ks A c hs X) : KyV X (.slice A ks.length c) ks := by
  have h1 := LiV.own encK_len (by omega) h.row
  exact ⟨hs, h1.mono fun _ _ => trivial, h.keys.mono fun _ _ => trivial⟩

set_option maxHeartbeats 4000000 in
theorem Expand_any {w : World} {nB : Nat} {m : Value} {L : List (Int × Sv)} {F : Int → Option (List MSt)} (hB : BookF w m nB L F) {nm : Int} (hw : (Lit.int .i32 nm).wf = true) :
    Calls Try.prog 8 #[.agg #[m], .int .i32 nm] w (ExTells (exX F L.length [] nm 0 []) w) := by
  obtain ⟨mq, rfl⟩ := book_shape hB.1
  have C1 := Lib.hid (fun X => expand_any (g := w.heap.size + 2) (bo := w.heap.size + 1) (B := w.heap.size + 3) hB L.length [] 0 0 0 [] none 0 [] nm X hw (Nat.le_refl _) (book_cov hB))
  obtain ⟨r, hr⟩ : ∃ r, exX F L.length [] nm 0 [] = r := ⟨_, rfl⟩
  rw [hr] at C1 ⊢
  have V0 := Lib.hid (xp_start w (.map mq))
  have hmm := @run_makeMap Try.prog
  clear hB hr
  go_enter Try.func8, Try.ntmps8
  go_wp2_with (go_at_call 25; refine (C1.out _ V0.out).mono ?_; rintro e w1 ⟨q, A, c, hs, rfl, h1⟩; have V1 := Lib.hid h1; clear h1; obtain ⟨y1, k0, k1, k2, k3, j1⟩ := V1.out.cells)
  · rename_i hq
    have hr0 : r.1 ≠ 0 := by simpa using hq
    go_ret2
    exact ⟨⟨_, _, _, rfl, fun h => absurd h hr0, fun _ => rfl⟩, V1.out.below⟩
  · rename_i hq
    have hr0 : r.1 = 0 := by simpa using hq
    go_ret2
    exact ⟨⟨_, _, _, by rw [hr0]; rfl, fun _ => ⟨xp_tells V1.out, rfl⟩, fun h => absurd hr0 h⟩, V1.out.below⟩
end Go.Proofs.Ytgdfcojgifgjcaa
