/- undo: what edits do, and the calls that do one. -/
import Derived.Test.YtfmpldgeldocnaaUnF
import Derived.Test.YtfmpldgeldocnaaClone
namespace Go.Proofs.Ytfmpldgeldocnaa
open Go.RowKit
set_option linter.unusedVariables false
set_option linter.unusedSimpArgs false

/-- A line behind an edit. -/
def doE (e : AE) (l : List Int) : Option (List Int) :=
  if 0 ≤ e.at_ ∧ e.at_ ≤ (l.length : Int) - e.old.length ∧ (l.drop e.at_.toNat).take e.old.length = e.old then some (l.take e.at_.toNat ++ e.new ++ l.drop (e.at_.toNat + e.old.length)) else none
def AE.back (e : AE) : AE := ⟨e.at_, e.new, e.old⟩
/-- Edits that are undone, the first one first. -/
def runE (es : List AE) (l : List Int) : Option (List Int) := es.foldl (fun o e => o.bind (doE e.back)) (some l)
theorem runE_nil (l : List Int) : runE [] l = some l := rfl
theorem runE_snoc (es : List AE) (e : AE) (l : List Int) : runE (es ++ [e]) l = (runE es l).bind (doE e.back) := by simp [runE]
theorem foldE_none (es : List AE) : es.foldl (fun o e => o.bind (doE e.back)) none = none := by
  induction es with
  | nil => rfl
  | cons e es ih => simpa using ih
theorem runE_cons (e : AE) (es : List AE) (l : List Int) : runE (e :: es) l = (doE e.back l).bind (runE es) := by
  unfold runE
  simp only [List.foldl_cons, Option.bind_some]
  cases h : doE e.back l with
  | none => simp [foldE_none]
  | some l' => simp
theorem runE_append (es fs : List AE) (l : List Int) : runE (es ++ fs) l = (runE es l).bind (runE fs) := by
  induction es generalizing l with
  | nil => simp [runE_nil]
  | cons e es ih =>
    rw [List.cons_append, runE_cons, runE_cons]
    cases doE e.back l with
    | none => rfl
    | some l' => simp [ih]
theorem doE_len {e : AE} {l l' : List Int} (h : doE e l = some l') : l'.length ≤ l.length + e.new.length := by
  unfold doE at h
  split at h
  · injection h with h
    subst h
    simp
    omega
  · cases h
/-- All edits are light. -/
def Light (B : Nat) (es : List AE) : Prop := ∀ e ∈ es, e.old.length ≤ B ∧ e.new.length ≤ B
theorem runE_len {B : Nat} : ∀ {es : List AE} {l l' : List Int}, Light B es → runE es l = some l' → l'.length ≤ l.length + B * es.length
  | [], l, l', _, h => by
    rw [runE_nil] at h
    injection h with h
    subst h
    simp
  | e :: es, l, l', hB, h => by
    rw [runE_cons] at h
    cases hd : doE e.back l with
    | none => rw [hd] at h; cases h
    | some m =>
      rw [hd] at h
      have h1 := doE_len hd
      have h2 := runE_len (B := B) (fun x hx => hB x (List.mem_cons_of_mem _ hx)) (show runE es m = some l' from h)
      have h3 := (hB e (List.mem_cons_self ..)).1
      have : e.back.new.length ≤ B := h3
      rw [List.length_cons, Nat.mul_add]
      omega

theorem do_is (at_ : Int) (O : Option Addr) (on oc : Nat) (I : Option Addr) (im ic : Nat) (x : Value) (e : AE) (l : List Int) (w : World) (he : EdIs w ⟨at_, O, on, oc, I, im, ic⟩ e) (hx : Txt w x l) (hl : l.length ≤ 100000) (ho : e.old.length ≤ 1000) (hn : e.new.length ≤ 1000) :
    Calls Try.prog 20 #[.agg #[.int .i64 at_, .slice O on oc, .slice I im ic], x] w (TellsE ((doE e l).getD []) (doE e l).isSome w) := by
  obtain ⟨h1, h2, h3⟩ := he
  dsimp only at h1 h2 h3
  subst h1
  rcases Int.lt_or_le e.at_ 0 with hneg | hpos
  · rw [show doE e l = none from if_neg (fun h => by omega)]
    exact do_neg _ _ _ _ [] w (by simpa using hneg)
  · rcases Int.lt_or_le ((l.length : Int) - e.old.length) e.at_ with hfar | hnear
    · rw [show doE e l = none from if_neg (fun h => by omega)]
      exact do_far _ _ _ _ e.old l w (by simp; omega) (by simpa using hfar) hx h2 (by omega) (by omega)
    · obtain ⟨k, hk⟩ := Int.eq_ofNat_of_zero_le hpos
      rw [hk] at hnear ⊢
      by_cases hq : (l.drop k).take e.old.length = e.old
      · rw [show doE e l = some (l.take k ++ e.new ++ l.drop (k + e.old.length)) from by unfold doE; rw [hk, if_pos ⟨by omega, hnear, by simpa using hq⟩]; rfl]
        exact do_yes k _ _ _ e.old e.new l w (by omega) hx h2 h3 hl (by omega) (by omega) hq
      · rw [show doE e l = none from by unfold doE; rw [hk]; exact if_neg (fun h => hq (by simpa using h.2.2))]
        exact do_not k _ _ _ e.old l w (by omega) hx h2 rfl (by omega) (by omega) hq

theorem back_is (at_ : Int) (O : Option Addr) (on oc : Nat) (I : Option Addr) (im ic : Nat) (w : World) :
    Calls Try.prog 35 #[.agg #[.int .i64 at_, .slice O on oc, .slice I im ic]] w (fun e w' => e = .returned (.agg #[.int .i64 at_, .slice I im ic, .slice O on oc]) ∧ Below w.heap.size w w') := by
  have k0 : ∀ u v x : Value, ∀ j, ((w.alloc (.cells #[.int .i64 at_, .slice O on oc, .slice I im ic] 34)).alloc (.cells #[u, v, x] 34)).cell? ⟨w.heap.size + 1, j, none⟩ = #[u, v, x][j]? := fun u v x => by
    have := (blk_new (w.alloc (.cells #[.int .i64 at_, .slice O on oc, .slice I im ic] 34)) #[u, v, x] 34).2.1
    rwa [World.size_alloc] at this
  go_enter Try.func35, Try.ntmps35
  go_wp2
  refine at_world (fun X => X.cell? ⟨w.heap.size + 1, 0, none⟩ = some (.int .i64 at_) ∧ X.cell? ⟨w.heap.size + 1, 1, none⟩ = some (.slice I im ic) ∧ X.cell? ⟨w.heap.size + 1, 2, none⟩ = some (.slice O on oc) ∧ Below w.heap.size w X) ⟨k0 _ _ _ 0, k0 _ _ _ 1, k0 _ _ _ 2, belPush (belAlloc _ _) _⟩ ?_
  rintro X ⟨x0, x1, x2, hX⟩
  refine bodyPost_ret (v := .agg #[.int .i64 at_, .slice I im ic, .slice O on oc]) (by simp [results, Try.results35, go_sem, x0, x1, x2]) rfl ⟨rfl, hX⟩
end Go.Proofs.Ytfmpldgeldocnaa
