/- store: the law of the past: what stands in its variables. -/
import Derived.Test.YtfnieoffgnnldaaDoorStP
import Derived.Deep.RegionLaw
import Derived.Handy
namespace Go.Proofs.YtfnieoffgnnldaaDoor
open Go.RowKit
set_option linter.unusedVariables false
set_option linter.unusedSimpArgs false

theorem rdL_few : ∀ (l cur : List Int) (i : Nat), 4 * (rdL cur i l).length ≤ cur.length + l.length
  | [], cur, i => by simp [rdL]
  | b :: t, cur, i => by
    show 4 * (if b = 10 then (match linP cur with | none => [] | some l => (l, i + 1) :: rdL [] (i + 1) t) else rdL (cur ++ [b]) (i + 1) t).length ≤ _
    split
    · cases hl : linP cur with
      | none => simp
      | some l =>
        have h1 := (ent_parts (lin_ent hl)).1
        have := rdL_few t [] (i + 1)
        simp at this
        simp
        omega
    · have := rdL_few t (cur ++ [b]) (i + 1)
      simp at this
      simp
      omega
/-- The document's past p lies at block g, the lines in m. -/
structure PrI (w : World) (g : Nat) (A : Option Addr) (c : Nat) (B : Option Addr) (d : Nat) (M : List (List Int)) (Q : Option Addr) (q : Nat) (L : List (List Int)) (X : World) : Prop where
  blk : Blk X g #[.slice A M.length c, .int .i64 0, .slice B 0 d]
  ts : TxtsS X (fun b => b ≠ g) (.slice A M.length c) M
  ls : TxtsS X (fun b => b ≠ g) (.slice Q L.length q) L
  below : Below w.heap.size w X
  le : w.heap.size ≤ g
theorem PrI.later {w X Y : World} {g : Nat} {A B Q : Option Addr} {c d q : Nat} {M L : List (List Int)} (h : PrI w g A c B d M Q q L X) (hb : Below X.heap.size X Y) : PrI w g A c B d M Q q L Y :=
  ⟨h.blk.later hb h.blk.1, h.ts.later hb, h.ls.later hb, h.below.trans (hb.mono h.below.size), h.le⟩
theorem PrI.add {w X Y : World} {g : Nat} {A B Q A' B' : Option Addr} {c d q c' d' : Nat} {M M' L : List (List Int)} (h : PrI w g A c B d M Q q L X) (hb : Below X.heap.size X Y) (ht : TxtsS Y (fun b => b ≠ g) (.slice A' M'.length c') M') :
    PrI w g A' c' B' d' M' Q q L (put3 Y g (.slice A' M'.length c') (.int .i64 0) (.slice B' 0 d')) := by
  have h2 := h.later hb
  exact ⟨blk_put3 h2.blk _ _ _, ts_put3 (fun e => e rfl) ht _ _ _, ts_put3 (fun e => e rfl) h2.ls _ _ _, below_put3 h2.below h2.le _ _ _, h.le⟩
theorem prI_start {w w1 : World} {Q : Option Addr} {q : Nat} {L : List (List Int)} (t : TypeId) (ht : Txts w1 (.slice Q L.length q) L) (hb : Below w.heap.size w w1) :
    PrI w w1.heap.size none 0 none 0 [] Q q L (w1.alloc (.cells #[.slice none 0 0, .int .i64 0, .slice none 0 0] t)) := by
  have h1 := blk_new w1 #[.slice none 0 0, .int .i64 0, .slice none 0 0] t
  have hl : TxtsS (w1.alloc (.cells #[.slice none 0 0, .int .i64 0, .slice none 0 0] t)) (fun b => b ≠ w1.heap.size) (.slice Q L.length q) L := (ht.old.later (below_one w1 _)).mono fun b hb => by
    have := hb.1
    show b ≠ w1.heap.size
    omega
  exact ⟨h1, Txts.nil _ _, hl, hb.trans ((below_one w1 _).mono hb.size), hb.size⟩
end Go.Proofs.YtfnieoffgnnldaaDoor
