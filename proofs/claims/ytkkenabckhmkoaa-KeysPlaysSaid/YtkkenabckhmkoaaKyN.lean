/- keys: a paste, its end: words. -/
import Derived.Test.YtkkenabckhmkoaaKyL
import Derived.Test.YtkkenabckhmkoaaKyM
import Derived.Test.YtkkenabckhmkoaaUtfG
namespace Go.Proofs.Ytkkenabckhmkoaa
open Go.RowKit
set_option linter.unusedVariables false
set_option linter.unusedSimpArgs false
set_option maxRecDepth 100000

def lenV (v : Value) : Nat := match v with | .slice _ n _ => n | _ => 0
def encB (b : Int) : List Value := [.int .u8 b]
theorem encB_len (b : Int) : (encB b).length = 1 := rfl
theorem encB_one : ∀ b : Int, ∀ u ∈ encB b, u.oneCell' = true := by
  intro b u hu
  simp only [encB, List.mem_cons, List.mem_nil_iff, or_false] at hu
  subst hu
  rfl
theorem byte_elt : Elt Try.prog 58 5 1 1 := elt_of Try.underlying58 (z := .int .u8 0) (by kernel_rfl) rfl (by decide)
theorem rvB_own {W X : World} {A : Option Addr} {N c : Nat} {l : List Int} (h : X.ownsRow W.heap.size 5 1 (.slice A N c) N (flatL encB l)) (hb : Below W.heap.size W X) (hn : N = l.length) (h0 : 0 < N) : ∃ g, A = some ⟨g, 0, none⟩ ∧ N ≤ c ∧ c ≤ maxLen ∧ RvB W g N l 0 X := by
  rcases h.2 with ⟨hv, hx⟩ | ⟨g, cap, cur, hv, h2, h3, h4, h5, h6, h7⟩
  · omega
  · injection hv with e1 e2 e3
    subst e1; subst e3
    refine ⟨g, rfl, h4, h5, cur, ⟨(Array.getElem?_eq_some_iff.1 h3).1, fun j => by simp [World.cell?, h3], fun j => by simp [World.frozen?, h3]⟩, fun j hj => ?_, h2, hb⟩
    have e : rvi N 0 j = j := by unfold rvi; rw [if_neg (by omega)]
    have hjl : j < l.length := by omega
    have h8 := flatL_get encB_len l j l[j] 0 (.int .u8 l[j]) (List.getElem?_eq_getElem hjl) rfl
    rw [← h7, List.getElem?_take, if_pos (by omega)] at h8
    rw [e, ← Array.getElem?_toList, show j = j * 1 + 0 by omega, h8]
    simp [List.getD, hjl]
theorem strN_data (l : List Int) : (strOfNums l).data.toList = l.map fun b => UInt8.ofNat b.toNat := by simp [strOfNums]
theorem bts_strN (l : List Int) (h : ∀ b ∈ l, 0 ≤ b ∧ b ≤ 255) : bts (strOfNums l) = l := by
  simp only [bts, strN_data, List.map_map]
  conv => rhs; rw [← List.map_id l]
  refine List.map_congr_left fun b hb => ?_
  obtain ⟨h0, h1⟩ := h b hb
  have e : (UInt8.ofNat b.toNat).toNat = b.toNat := by
    simp only [UInt8.toNat_ofNat']
    omega
  simp only [Function.comp, id, e]
  omega
/-- One node of the list, at hand in a later world. -/
theorem chain_next {X Y : World} {T : Option Addr} {l : List Int} {k : Nat} (h : Chain X T (l.drop k)) (hk : k < l.length) (hb : Below X.heap.size X Y) : ∃ g T', T = some ⟨g, 0, none⟩ ∧ g < X.heap.size ∧ Y.cell? ⟨g, 0, none⟩ = some (.int .u8 l[k]) ∧ Y.cell? ⟨g, 1, none⟩ = some (.pointer T') ∧ Chain X T' (l.drop (k + 1)) := by
  rw [List.drop_eq_getElem_cons hk] at h
  obtain ⟨g, T', h1, h2, h3, h4, h5⟩ := h
  exact ⟨g, T', h1, h2, (hb.cell (p := ⟨g, 0, none⟩) h2).trans h3, (hb.cell (p := ⟨g, 1, none⟩) h2).trans h4, h5⟩
theorem chain_end {X : World} {T : Option Addr} {l : List Int} {k : Nat} (h : Chain X T (l.drop k)) (hk : k = l.length) : T = none := by
  subst hk
  rw [List.drop_length] at h
  exact h
theorem kyW_text (w : World) (t : TypeId) (k r : Int) (m : Bool) (A : Option Addr) (n c : Nat) (tx : List Int) (hn : n = tx.length) (hr : Rd w A n (li tx)) : KyW (w.alloc (.cells #[.int .i64 k, .int .i32 r, .bool m, .slice A n c] t)) (.slice (some ⟨w.heap.size, 0, none⟩) 1 1) [⟨k, r, m, tx⟩] :=
  ⟨[⟨k, r, m, A, n, c⟩], (key_newT w ⟨k, r, m, A, n, c⟩ t).mono (fun _ _ => trivial), keysW_one ⟨rfl, rfl, rfl, hn, hr.later (belAlloc _ _)⟩⟩
end Go.Proofs.Ytkkenabckhmkoaa
