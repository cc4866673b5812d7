/- gap: Len, drop, move. -/
import Derived.Test.YtganehhcnflgaaaGapP
import Derived.StillTailTactics
import Derived.BigQuiet
import Derived.IntWalk
namespace Go.Proofs.Ytganehhcnflgaaa
open Go.RowKit
set_option linter.unusedVariables false
set_option linter.unusedSimpArgs false

/-- A list with a gap, in the block gb. -/
structure Gp (X : World) (gb B0 : Nat) (A : Option Addr) (N C fr te : Nat) (cur : List Int) : Prop where
  blk : Blk X gb #[.slice A N C, .int .i64 fr, .int .i64 te]
  mem : Mem X B0 A C cur
  len : cur.length = N
  ft : fr ≤ te
  tn : te ≤ N
  max : N ≤ 100000
  ne : ¬ Own A gb

abbrev ptr (gb : Nat) : Value := .pointer (some ⟨gb, 0, none⟩)

theorem zeroI (w : World) : (zeroValue 3).run Try.prog w = .ok (vI 0) w := Try.zeroValue3 w
theorem sizeI : (Try.prog.info? 3).map (·.size) = some 1 := by kernel_rfl

set_option maxHeartbeats 1000000 in
set_option maxRecDepth 100000 in
theorem len_any {w : World} {gb B0 : Nat} {A : Option Addr} {N C fr te : Nat} {cur : List Int} (G : Gp w gb B0 A N C fr te cur) :
    Calls Try.prog 8 #[ptr gb] w fun e w' => e = .returned (.int .i64 ((held fr te cur).length : Int)) ∧ ∃ q, w' = w.drewN q := by
  obtain ⟨_, k0, j0⟩ := (show Blk _ _ _ from G.blk)
  have h1 := G.ft
  have h2 := G.tn
  have h3 := G.max
  have h4 := Lib.hid (held_len (cur := cur) h1 (by rw [G.len]; exact h2))
  have h5 := Lib.hid G.len
  clear G
  go_enter Try.func8, Try.ntmps8
  go_wp2
  go_quiet (fail)
  go_wp2
  go_ret
  refine ⟨congrArg (fun z : Int => Ending.returned (.int .i64 z)) ?_, _, rfl⟩
  rw [h4.out, h5.out]
  omega

/-- What a step of the list's own changes. -/
abbrev Mine (gb : Nat) (A : Option Addr) (k : Nat) : Prop := k = gb ∨ Own A k

theorem Gp.drew {X : World} {gb B0 : Nat} {A : Option Addr} {N C fr te : Nat} {cur : List Int} (G : Gp X gb B0 A N C fr te cur) : Gp X.drew gb B0 A N C fr te cur :=
  ⟨G.blk.drew, G.mem, G.len, G.ft, G.tn, G.max, G.ne⟩

theorem own_gb {gb : Nat} {A : Option Addr} : ∀ b, Own A b → ¬ Own A gb → b ≠ gb := fun b hb h e => h (e ▸ hb)

/-- The list's cells are laid anew. -/
theorem Gp.set_ {X Y : World} {gb B0 : Nat} {A' : Option Addr} {N' C' fr' te' : Nat} {cur' : List Int} (hM : Mem X B0 A' C' cur') (hY : Chg (fun k => k = gb) X Y) (hB : Blk Y gb #[.slice A' N' C', .int .i64 fr', .int .i64 te'])
    (hl : cur'.length = N') (h1 : fr' ≤ te') (h2 : te' ≤ N') (h3 : N' ≤ 100000) (hne : ¬ Own A' gb) : Gp Y gb B0 A' N' C' fr' te' cur' :=
  ⟨hB, hM.chg hY (fun b hb => own_gb b hb hne), hl, h1, h2, h3, hne⟩

set_option maxHeartbeats 2000000 in
set_option maxRecDepth 100000 in
theorem drop_any {w : World} {gb B0 : Nat} {A : Option Addr} {N C fr te n : Nat} {cur : List Int} (G : Gp w gb B0 A N C fr te cur) (hn : te + n ≤ N) :
    Calls Try.prog 16 #[ptr gb, .int .i64 n] w fun e w' => (∃ v, e = .returned v) ∧ Gp w' gb B0 A N C fr (te + n) (splice cur te (List.replicate n 0)) ∧ Chg (Mine gb A) w w' := by
  have HG := Lib.hid G
  obtain ⟨y0, k0, j0⟩ := (show Blk _ _ _ from G.blk)
  have h1 := G.ft
  have h2 := G.tn
  have h3 : N ≤ C := by have := G.mem.cap; have := G.len; omega
  have h5 := G.max
  clear G
  obtain ⟨AA, hAA⟩ : ∃ AA, (if C = te then A else Option.map (fun x => x.add te) A) = AA := ⟨_, rfl⟩
  obtain ⟨E, hE⟩ : ∃ E, te + n = E := ⟨_, rfl⟩
  have ew : IntKind.i64.wrap (E : Int) = (E : Int) := IntWalk.i64_in _ (by omega)
  have hE1 : te ≤ E := by omega
  have hE2 : E ≤ C := by omega
  have hE3 : (te : Int) + (n : Int) = (E : Int) := by omega
  have e0 : (0 : Int) ≤ (te : Int) := by omega
  have e1 : (te : Int) ≤ (E : Int) := by omega
  have e2 : (E : Int) ≤ (C : Int) := by omega
  have HE := Lib.hid (show E - te = n by omega)
  have HA := Lib.hid (show 0 < E - te → AA = A.map (·.add te) from fun h => by rw [← hAA, if_neg (by omega)])
  have HE2 := Lib.hid hE
  go_enter Try.func16, Try.ntmps16
  go_wp2
  go_still_tail 15, (by kernel_rfl)
  change wpList _ _ _ _ _ w.drew
  refine wpList_clear_mem (off := te) (by rfl) (by rfl) Try.underlying22 zeroI (by rfl) HG.out.drew.mem HA.out (by have := HG.out.len; omega) ?_
  intro w3 hL
  have B3 := HG.out.blk.drew.chg hL.out.2 HG.out.ne
  have HB3 := Lib.hid B3
  obtain ⟨y3, k3, j3⟩ := (show Blk _ _ _ from B3)
  clear B3 y0 k0 j0
  go_wp2
  refine bodyPost_end (results_none rfl _ _ _) rfl ⟨⟨_, rfl⟩, ?_, ?_⟩
  · have e := HE2.out
    subst e
    have hM := hL.out.1
    rw [HE.out] at hM
    exact Gp.set_ hM ((Chg.refl (fun k => k = gb) w3).setCell gb 2 rfl _) (HB3.out.set_ 2 (by simp) _) ((length_splice _ _ _ (by have := HG.out.len; simp; omega)).trans HG.out.len) (by omega) hn h5 HG.out.ne
  · have hc : Chg (Mine gb A) w w3 := hL.out.base.2.mono fun k _ hk => Or.inr hk
    exact hc.setCell gb 2 (.inl rfl) _

theorem Gp.chg {S : Nat → Prop} {X Y : World} {gb B0 : Nat} {A : Option Addr} {N C fr te : Nat} {cur : List Int} (G : Gp X gb B0 A N C fr te cur) (k : Chg S X Y) (h1 : ¬ S gb) (h2 : ∀ b, Own A b → ¬ S b) : Gp Y gb B0 A N C fr te cur :=
  ⟨G.blk.chg k h1, G.mem.chg k h2, G.len, G.ft, G.tn, G.max, G.ne⟩

theorem Chg.next {S T : Nat → Prop} {w v x : World} (h : Chg S w v) (k : Chg T v x) (hT : ∀ j, j < w.heap.size → T j → S j) : Chg S w x :=
  ⟨k.os.trans h.os, k.tape.trans h.tape, k.output.trans h.output, Nat.le_trans h.size k.size, fun j hj hs => (k.block j (Nat.lt_of_lt_of_le hj h.size) (fun e => hs (hT j hj e))).trans (h.block j hj hs)⟩

/-- Behind a clear within the gap. -/
theorem Gp.cleared {Y w5 : World} {gb B0 : Nat} {A : Option Addr} {N C fr te off n : Nat} {cur : List Int} (G : Gp Y gb B0 A N C fr te cur) (hl : Laid Y w5 B0 A C (splice cur off (List.replicate n 0))) (hfit : off + n ≤ N) :
    Gp w5 gb B0 A N C fr te (splice cur off (List.replicate n 0)) :=
  ⟨G.blk.chg hl.2 G.ne, hl.1, (length_splice _ _ _ (by rw [List.length_replicate, G.len]; exact hfit)).trans G.len, G.ft, G.tn, G.max, G.ne⟩
theorem Gp.drewN {X : World} {gb B0 : Nat} {A : Option Addr} {N C fr te : Nat} {cur : List Int} (G : Gp X gb B0 A N C fr te cur) (q : Nat) : Gp (X.drewN q) gb B0 A N C fr te cur :=
  ⟨G.blk.drewN q, G.mem, G.len, G.ft, G.tn, G.max, G.ne⟩
end Go.Proofs.Ytganehhcnflgaaa
