/- undo: edits that are done, added, and undone: plain mathematics. -/
import Derived.Test.YtfmpldgeldocnaaUnJ
namespace Go.Proofs.Ytfmpldgeldocnaa
open Go.RowKit
set_option linter.unusedVariables false
set_option linter.unusedSimpArgs false

/-- A stack with an edit more. -/
def addS (S : List AG) (e : AE) (cur : Int) (join : Bool) : List AG :=
  match join, S.getLast? with
  | true, some a => S.dropLast ++ [⟨a.eds ++ [e], a.cur⟩]
  | _, _ => S.drop (S.length - 999) ++ [⟨[e], cur⟩]
theorem addS_own (S : List AG) (e : AE) (cur : Int) : addS S e cur false = S.drop (S.length - 999) ++ [⟨[e], cur⟩] := by unfold addS; rfl
theorem addS_nil (e : AE) (cur : Int) (j : Bool) : addS [] e cur j = [⟨[e], cur⟩] := by cases j <;> (unfold addS; rfl)
theorem addS_join (T : List AG) (a : AG) (e : AE) (cur : Int) : addS (T ++ [a]) e cur true = T ++ [⟨a.eds ++ [e], a.cur⟩] := by
  have h : (T ++ [a]).getLast? = some a := by simp
  unfold addS
  rw [h]
  show (T ++ [a]).dropLast ++ _ = _
  rw [List.dropLast_concat]
theorem addS_len (S : List AG) (e : AE) (cur : Int) (j : Bool) : (addS S e cur j).length ≤ S.length + 1 ∧ 1 ≤ (addS S e cur j).length := by
  rcases List.eq_nil_or_concat S with rfl | ⟨T, a, rfl⟩
  · rw [addS_nil]; simp
  · rw [List.concat_eq_append]
    cases j
    · rw [addS_own]; simp
    · rw [addS_join]; simp
theorem addS_light {B k : Nat} {S : List AG} {e : AE} (cur : Int) (j : Bool) (h : ∀ g ∈ S, Light B g.eds ∧ g.eds.length ≤ k) (he : e.old.length ≤ B ∧ e.new.length ≤ B) : ∀ g ∈ addS S e cur j, Light B g.eds ∧ g.eds.length ≤ k + 1 := by
  have one : Light B [e] ∧ [e].length ≤ k + 1 := ⟨fun x hx => by simp at hx; subst hx; exact he, by simp⟩
  rcases List.eq_nil_or_concat S with rfl | ⟨T, a, rfl⟩
  · rw [addS_nil]
    intro g hg
    simp at hg
    subst hg
    exact one
  · rw [List.concat_eq_append] at h ⊢
    cases j
    · rw [addS_own]
      intro g hg
      rcases List.mem_append.1 hg with hg | hg
      · have := h g (List.mem_of_mem_drop hg)
        exact ⟨this.1, by omega⟩
      · simp at hg
        subst hg
        exact one
    · rw [addS_join]
      intro g hg
      rcases List.mem_append.1 hg with hg | hg
      · have := h g (List.mem_append_left _ hg)
        exact ⟨this.1, by omega⟩
      · simp at hg
        subst hg
        have := h a (by simp)
        refine ⟨fun x hx => ?_, by simp; omega⟩
        rcases List.mem_append.1 hx with hx | hx
        · exact this.1 x hx
        · simp at hx
          subst hx
          exact he

theorem doE_back {e : AE} {l m : List Int} (h : doE e l = some m) : doE e.back m = some l := by
  unfold doE at h
  split at h
  case isFalse => cases h
  case isTrue hc =>
    injection h with h
    obtain ⟨h0, h1, h2⟩ := hc
    obtain ⟨k, hk⟩ := Int.eq_ofNat_of_zero_le h0
    rw [hk] at h1 h2 h
    simp only [Int.toNat_natCast] at h h2
    have hkl : k + e.old.length ≤ l.length := by omega
    have ht : (l.take k).length = k := by simp; omega
    subst h
    have e1 : (l.take k ++ e.new ++ l.drop (k + e.old.length)).take k = l.take k := by
      rw [List.append_assoc, List.take_left' ht]
    have e2 : ((l.take k ++ e.new ++ l.drop (k + e.old.length)).drop k).take e.new.length = e.new := by
      rw [List.append_assoc, List.drop_left' ht, List.take_left' rfl]
    have e3 : (l.take k ++ e.new ++ l.drop (k + e.old.length)).drop (k + e.new.length) = l.drop (k + e.old.length) := by
      rw [List.drop_left' (by simp; omega)]
    unfold doE
    have hb : e.back.at_ = (k : Int) := hk
    rw [hb]
    simp only [Int.toNat_natCast]
    rw [if_pos ⟨by omega, by simp [AE.back]; omega, e2⟩, e1]
    show some (l.take k ++ e.old ++ (l.take k ++ e.new ++ l.drop (k + e.old.length)).drop (k + e.new.length)) = some l
    rw [e3]
    congr 1
    calc l.take k ++ e.old ++ l.drop (k + e.old.length) = l.take k ++ ((l.drop k).take e.old.length ++ (l.drop k).drop e.old.length) := by rw [h2, List.drop_drop, List.append_assoc]
      _ = l := by rw [List.take_append_drop, List.take_append_drop]

theorem runS_cur {S : List AG} (hS : S ≠ []) (l : List Int) (c d : Int) : runS S l c = runS S l d := by
  cases S with
  | nil => exact absurd rfl hS
  | cons g S => rw [runS_cons, runS_cons]

/-- What an edit that was done, and added, leaves to be undone. -/
theorem runS_add {S : List AG} {e : AE} {now next l0 : List Int} {f cur : Int} {j : Bool} (hS : S.length ≤ 999) (hd : doE e now = some next) (h : runS S.reverse now 0 = some (l0, f)) :
    runS (addS S e cur j).reverse next 0 = some (l0, if S = [] then cur else f) := by
  have hb := doE_back hd
  have r1 : ∀ es : List AE, runE (e :: es) next = runE es now := fun es => by rw [runE_cons, hb]; rfl
  rcases List.eq_nil_or_concat S with rfl | ⟨T, a, rfl⟩
  · rw [addS_nil]
    simp only [List.reverse_cons, List.reverse_nil, List.nil_append, runS_cons]
    rw [List.reverse_nil, runS_nil] at h
    injection h with h
    injection h with h1 h2
    subst h1
    rw [r1, runE_nil]
    rfl
  · rw [List.concat_eq_append] at h hS ⊢
    rw [if_neg (by simp)]
    cases j
    · rw [addS_own, show (T ++ [a]).length - 999 = 0 by omega, List.drop_zero, List.reverse_append]
      simp only [List.reverse_cons, List.reverse_nil, List.nil_append, List.singleton_append]
      rw [runS_cons]
      show (runE [e].reverse next).bind _ = _
      rw [show [e].reverse = [e] from rfl, r1, runE_nil]
      rw [← h]
      exact runS_cur (by simp) _ _ _
    · rw [addS_join, List.reverse_append]
      simp only [List.reverse_cons, List.reverse_nil, List.nil_append, List.singleton_append]
      rw [List.reverse_append] at h
      simp only [List.reverse_cons, List.reverse_nil, List.nil_append, List.singleton_append] at h
      rw [runS_cons] at h ⊢
      show (runE (a.eds ++ [e]).reverse next).bind _ = _
      rw [List.reverse_append, show [e].reverse = [e] from rfl, List.singleton_append, r1]
      exact h
end Go.Proofs.Ytfmpldgeldocnaa
