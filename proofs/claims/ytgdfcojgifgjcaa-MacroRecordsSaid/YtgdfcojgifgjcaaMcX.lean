/- macro: an expansion in memory. -/
import Derived.Test.YtgdfcojgifgjcaaMcP
import Derived.Test.YtgdfcojgifgjcaaDfr
import Derived.Test.YtgdfcojgifgjcaaStepL
namespace Go.Proofs.Ytgdfcojgifgjcaa
open Go.RowKit Go.Maps
set_option linter.unusedVariables false
set_option linter.unusedSimpArgs false
set_option maxRecDepth 100000

/-- A slice reads as steps. -/
def StM (X : World) (v : Value) (M : List MSt) : Prop := ∃ H : List Sp, LiV 6 encS X Any v H ∧ H.length = M.length ∧ ∀ (j : Nat) (x : Sp), H[j]? = some x → ∃ s : MSt, M[j]? = some s ∧ x.k = s.key.k ∧ x.r = s.key.r ∧ x.m = s.key.m ∧ x.call = s.call ∧ x.nm = s.nm ∧ (Lit.int .i32 s.nm).wf = true ∧ Txt X (.slice x.A x.n x.c) s.key.t ∧ s.key.t.length ≤ 1000000
theorem StM.later {X Y : World} {v : Value} {M : List MSt} (h : StM X v M) (hb : Below X.heap.size X Y) : StM Y v M := by
  obtain ⟨H, h1, h2, h3⟩ := h
  refine ⟨H, h1.later hb, h2, fun j x hx => ?_⟩
  obtain ⟨s, k1, k2, k3, k4, k5, k6, k7, k8, k9⟩ := h3 j x hx
  exact ⟨s, k1, k2, k3, k4, k5, k6, k7, k8.later hb, k9⟩
/-- A book that reads as F. -/
def BookF (w : World) (v : Value) (n : Nat) (L : List (Int × Sv)) (F : Int → Option (List MSt)) : Prop := BookOf w v n L ∧ ∀ s, (lastB L s = none → F s = none) ∧ ∀ sv, lastB L s = some sv → ∃ M, F s = some M ∧ M.length ≤ 1000 ∧ StM w (svV sv) M
theorem BookF.later {X Y : World} {v : Value} {n : Nat} {L : List (Int × Sv)} {F : Int → Option (List MSt)} (h : BookF X v n L F) (hb : Below X.heap.size X Y) : BookF Y v n L F := by
  refine ⟨h.1.later hb, fun s => ⟨(h.2 s).1, fun sv hs => ?_⟩⟩
  obtain ⟨M, h1, h2, h3⟩ := (h.2 s).2 sv hs
  exact ⟨M, h1, h2, h3.later hb⟩
/-- A key in memory. -/
structure Kp where
  k : Int
  r : Int
  m : Bool
  A : Option Addr
  n : Nat
  c : Nat
def encK (x : Kp) : List Value := [.int .i64 x.k, .int .i32 x.r, .bool x.m, .slice x.A x.n x.c]
theorem encK_len (x : Kp) : (encK x).length = 4 := rfl
theorem encK_one : ∀ x : Kp, ∀ u ∈ encK x, u.oneCell' = true := by
  intro x u hu
  simp [encK] at hu
  rcases hu with rfl | rfl | rfl | rfl <;> rfl
def KeysS (X : World) (S : Nat → Prop) (hs : List Kp) (ks : List Ky) : Prop := hs.length = ks.length ∧ ∀ (j : Nat) (x : Kp), hs[j]? = some x → ∃ y : Ky, ks[j]? = some y ∧ x.k = y.k ∧ x.r = y.r ∧ x.m = y.m ∧ TxtS X S (.slice x.A x.n x.c) y.t
theorem KeysS.later {X Y : World} {S : Nat → Prop} {hs : List Kp} {ks : List Ky} (h : KeysS X S hs ks) (hb : Below X.heap.size X Y) : KeysS Y S hs ks := by
  refine ⟨h.1, fun j x hx => ?_⟩
  obtain ⟨y, h1, h2, h3, h4, h5⟩ := h.2 j x hx
  exact ⟨y, h1, h2, h3, h4, h5.later hb⟩
theorem KeysS.mono {X : World} {S S' : Nat → Prop} {hs : List Kp} {ks : List Ky} (h : KeysS X S hs ks) (hS : ∀ b, S b → S' b) : KeysS X S' hs ks := by
  refine ⟨h.1, fun j x hx => ?_⟩
  obtain ⟨y, h1, h2, h3, h4, h5⟩ := h.2 j x hx
  exact ⟨y, h1, h2, h3, h4, Sl.mono h5 hS⟩
theorem KeysS.old {X : World} {S : Nat → Prop} {hs : List Kp} {ks : List Ky} (h : KeysS X S hs ks) : KeysS X (fun b => b < X.heap.size ∧ S b) hs ks := by
  refine ⟨h.1, fun j x hx => ?_⟩
  obtain ⟨y, h1, h2, h3, h4, h5⟩ := h.2 j x hx
  exact ⟨y, h1, h2, h3, h4, Sl.old h5⟩
theorem KeysS.grown {X Y : World} {S : Nat → Prop} {hs : List Kp} {ks : List Ky} {row : Option Nat} (h : KeysS X S hs ks) (hg : X.grownBy Y row) (hS : ∀ b, S b → some b ≠ row) : KeysS Y S hs ks := by
  refine ⟨h.1, fun j x hx => ?_⟩
  obtain ⟨y, h1, h2, h3, h4, h5⟩ := h.2 j x hx
  exact ⟨y, h1, h2, h3, h4, Sl.grown h5 hg hS⟩
theorem KeysS.far {X : World} {S : Nat → Prop} {hs : List Kp} {ks : List Ky} (h : KeysS X S hs ks) {p : Addr} (hp : ¬ S p.block) (u : Value) : KeysS (X.setCell p u) S hs ks := by
  refine ⟨h.1, fun j x hx => ?_⟩
  obtain ⟨y, h1, h2, h3, h4, h5⟩ := h.2 j x hx
  exact ⟨y, h1, h2, h3, h4, Sl.far h5 hp u⟩
theorem KeysS.snoc {X : World} {S : Nat → Prop} {hs : List Kp} {ks : List Ky} (h : KeysS X S hs ks) {x : Kp} {y : Ky} (h1 : x.k = y.k) (h2 : x.r = y.r) (h3 : x.m = y.m) (h4 : TxtS X S (.slice x.A x.n x.c) y.t) : KeysS X S (hs ++ [x]) (ks ++ [y]) := by
  refine ⟨by simp [h.1], fun j z hz => ?_⟩
  rcases Nat.lt_or_ge j hs.length with hj | hj
  · rw [List.getElem?_append_left hj] at hz
    obtain ⟨y', k1, k2⟩ := h.2 j z hz
    exact ⟨y', by rw [List.getElem?_append_left (by rw [← h.1]; exact hj)]; exact k1, k2⟩
  · rw [List.getElem?_append_right hj] at hz
    have hj0 : j - hs.length = 0 := by have := (List.getElem?_eq_some_iff.1 hz).1; simp at this; omega
    rw [hj0] at hz
    obtain rfl : x = z := Option.some.inj hz
    exact ⟨y, by rw [List.getElem?_append_right (by rw [← h.1]; exact hj), ← h.1, hj0]; rfl, h1, h2, h3, h4⟩
/-- The open names' elements are not looked at. -/
def elI : Value → Option (DataW Unit × List MemPlace) := fun _ => some (.agg [], [])
/-- A map in which just the names of op are. -/
def OpenM (X : World) (bo q : Nat) (op : List Int) : Prop := ∃ D, X.ownsMap Try.prog 21 elI bo q D ∧ ∀ s kl, keyOf Try.prog 21 (.int .i32 s) = some kl → Maps.has D kl = decide (s ∈ op)
theorem OpenM.mono {X : World} {bo q q' : Nat} {op : List Int} (h : OpenM X bo q op) (hq : q ≤ q') : OpenM X bo q' op := by
  obtain ⟨D, h1, h2⟩ := h
  exact ⟨D, h1.mono hq, h2⟩
theorem OpenM.lt {X : World} {bo q : Nat} {op : List Int} (h : OpenM X bo q op) : bo < X.heap.size := by
  obtain ⟨D, h1, h2⟩ := h
  exact h1.lt
theorem ownsI_below {w w' : World} {b n B : Nat} {D : DataW Unit} (h : w.ownsMap Try.prog 21 elI b n D) (hb : Below B w w') (hB : b < B) : w'.ownsMap Try.prog 21 elI b n D := by
  obtain ⟨es, clock, hh, F, hs, hD⟩ := h
  exact ⟨es, clock, (hb.block _ hB).trans hh, F, hs, hD⟩
theorem OpenM.below {X Y : World} {bo q B : Nat} {op : List Int} (h : OpenM X bo q op) (hb : Below B X Y) (hB : bo < B) : OpenM Y bo q op := by
  obtain ⟨D, h1, h2⟩ := h
  exact ⟨D, ownsI_below h1 hb hB, h2⟩
theorem OpenM.grown {X Y : World} {bo q : Nat} {op : List Int} {row : Option Nat} (h : OpenM X bo q op) (hg : X.grownBy Y row) (hne : some bo ≠ row) : OpenM Y bo q op := by
  obtain ⟨D, h1, h2⟩ := h
  exact ⟨D, h1.kept hg hne, h2⟩
theorem OpenM.far {X : World} {bo q : Nat} {op : List Int} (h : OpenM X bo q op) {p : Addr} (hp : bo ≠ p.block) (u : Value) : OpenM (X.setCell p u) bo q op := by
  obtain ⟨D, h1, h2⟩ := h
  exact ⟨D, h1.setCell hp u, h2⟩
theorem zeroI (w : World) : (zeroValue 3).run Try.prog w = .ok (.int .i64 0) w := by kernel_rfl
theorem OpenM.look {X : World} {bo q : Nat} {op : List Int} (h : OpenM X bo q op) {s : Int} (hs : (Lit.int .i32 s).wf = true) : ∃ v, (Instr.lookup 68 (.map (some bo)) (.int .i32 s) true).run Try.prog X = .ok (.tuple #[v, .bool (decide (s ∈ op))]) X := by
  obtain ⟨D, h1, h2⟩ := h
  have hk := key_r s hs
  obtain ⟨v, ps, hrun, _⟩ := h1.look_ok lawR Try.underlying68 (zeroI _) (R := elI) (zd := .agg []) (zp := []) rfl hk
  exact ⟨v, by rw [hrun, h2 s _ hk]⟩
theorem OpenM.put {X Y : World} {bo q : Nat} {op : List Int} {D : DataW Unit} (h1 : X.ownsMap Try.prog 21 elI bo q D) (h2 : ∀ s kl, keyOf Try.prog 21 (.int .i32 s) = some kl → Maps.has D kl = decide (s ∈ op))
    {t : Int} (ht : (Lit.int .i32 t).wf = true) (h' : Y.ownsMap Try.prog 21 elI bo (q + 1) (D.put (.int .i32 t) (.agg []))) : OpenM Y bo (q + 1) (t :: op) := by
  refine ⟨_, h', fun s kl' hk' => ?_⟩
  have hm := h1.isMap
  have hk := key_r t ht
  by_cases e : t = s
  · subst e
    obtain rfl : Lit.int .i32 t = kl' := Option.some.inj (hk.symm.trans hk')
    rw [has_put_same hm (lawR.key hk)]
    simp
  · have hne : kl' ≠ .int .i32 t := fun e' => e (by
      have := lawR.inj hk (e' ▸ hk')
      simpa using this)
    rw [has_put_other hne, h2 s kl' hk']
    have : ¬ s = t := fun e' => e e'.symm
    simp [this]
theorem OpenM.drop {X : World} {bo q : Nat} {op : List Int} {t : Int} (h : OpenM X bo q (t :: op)) (hn : t ∉ op) (ht : (Lit.int .i32 t).wf = true) (ty : TypeId) :
    ∃ Y, (Builtin.delete_ #[68, 21] ty #[.map (some bo), .int .i32 t]).run Try.prog X = .ok (.tuple #[]) Y ∧ OpenM Y bo q op ∧ X.mapTurned Y bo := by
  obtain ⟨D, h1, h2⟩ := h
  have hk := key_r t ht
  obtain ⟨Y, hr, h3, h4⟩ := h1.drop lawR Try.underlying68 hk ty
  refine ⟨Y, hr, ⟨_, h3, fun s kl' hk' => ?_⟩, h4⟩
  by_cases e : t = s
  · subst e
    obtain rfl : Lit.int .i32 t = kl' := Option.some.inj (hk.symm.trans hk')
    rw [has_del_same]
    simp [hn]
  · have hne : kl' ≠ .int .i32 t := fun e' => e (by
      have := lawR.inj hk (e' ▸ hk')
      simpa using this)
    rw [has_del_other hne, h2 s kl' hk']
    have : ¬ s = t := fun e' => e e'.symm
    simp [this]
end Go.Proofs.Ytgdfcojgifgjcaa
