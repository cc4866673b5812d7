/- keys: inPaste. -/
import Derived.Test.YtkkenabckhmkoaaKyK
namespace Go.Proofs.Ytkkenabckhmkoaa
open Go.RowKit
set_option linter.unusedVariables false
set_option linter.unusedSimpArgs false
set_option maxRecDepth 100000

theorem Fm.setTx {w X : World} {T : Option Addr} {sw : Int} {d : DS} {m : Bool} {row : ByteArray} {tx : List Int} {cl : Nat} (h : Fm w ⟨sw, d, m, row, tx, cl⟩ T X) (T' : Option Addr) (tx' : List Int) : Fm w ⟨sw, d, m, row, tx', cl⟩ T' (X.setCell ⟨w.heap.size, 7, none⟩ (.pointer T')) :=
  ⟨h.below.setCell (p := ⟨w.heap.size, 7, none⟩) (Nat.le_refl _) _, by have := h.b.set_ 7 (by simp) (.pointer T'); simpa using this, h.r.far (p := ⟨w.heap.size, 7, none⟩) (by simp) _⟩
theorem Fm.setCl {w X : World} {T : Option Addr} {sw : Int} {d : DS} {m : Bool} {row : ByteArray} {tx : List Int} {cl : Nat} (h : Fm w ⟨sw, d, m, row, tx, cl⟩ T X) (c : Nat) (z : Int) (hz : z = c) : Fm w ⟨sw, d, m, row, tx, c⟩ T (X.setCell ⟨w.heap.size, 8, none⟩ (.int .i64 z)) :=
  ⟨h.below.setCell (p := ⟨w.heap.size, 8, none⟩) (Nat.le_refl _) _, by subst hz; have := h.b.set_ 8 (by simp) (.int .i64 c); simpa using this, h.r.far (p := ⟨w.heap.size, 8, none⟩) (by simp) _⟩
theorem chain_far {X : World} {g : Nat} {z : Int} (hz : X.cell? ⟨g, 0, none⟩ = some (.int .i64 z)) (i : Nat) (v : Value) : ∀ {l : List Int} {T : Option Addr}, Chain X T l → Chain (X.setCell ⟨g, i, none⟩ v) T l
  | [], T, h => h
  | b :: l, T, h => by
    obtain ⟨p, T', h1, h2, h3, h4, h5⟩ := h
    have hne : p ≠ g := by
      intro e
      subst e
      rw [h3] at hz
      cases hz
    have hf : (X.setCell ⟨g, i, none⟩ v).heap[p]? = X.heap[p]? := Below.heap_setCell _ _ _ p hne
    exact ⟨p, T', h1, by rw [World.size_setCell]; exact h2, (World.cell?_of_block (a := ⟨p, 0, none⟩) hf).trans h3, (World.cell?_of_block (a := ⟨p, 1, none⟩) hf).trans h4, chain_far hz i v h5⟩
theorem chain_new {X : World} {T : Option Addr} {l : List Int} (h : Chain X T l) (b : Int) (t : TypeId) : Chain (X.alloc (.cells #[.int .u8 b, .pointer T] t)) (some ⟨X.heap.size, 0, none⟩) (b :: l) := by
  have hb := blk_new X #[.int .u8 b, .pointer T] t
  exact ⟨X.heap.size, T, rfl, hb.1, hb.2.1 0, hb.2.1 1, h.later (belAlloc _ _)⟩
theorem fc_tx {w X : World} {T : Option Addr} {tx : List Int} {cl : Nat} (h : Fm w ⟨4, ⟨0, 0, 0, 0⟩, false, ⟨#[]⟩, tx, cl⟩ T X) (hc : Chain X T tx) (b : Int) (t : TypeId) :
    Fm w ⟨4, ⟨0, 0, 0, 0⟩, false, ⟨#[]⟩, b :: tx, cl⟩ (some ⟨X.heap.size, 0, none⟩) ((X.alloc (.cells #[.int .u8 b, .pointer T] t)).setCell ⟨w.heap.size, 7, none⟩ (.pointer (some ⟨X.heap.size, 0, none⟩))) ∧ Chain ((X.alloc (.cells #[.int .u8 b, .pointer T] t)).setCell ⟨w.heap.size, 7, none⟩ (.pointer (some ⟨X.heap.size, 0, none⟩))) (some ⟨X.heap.size, 0, none⟩) (b :: tx) :=
  ⟨(h.later (belAlloc _ _)).setTx _ _, chain_far ((h.later (belAlloc _ _)).b.2.1 0) 7 _ (chain_new hc b t)⟩
theorem fc_cl {w X : World} {T : Option Addr} {tx : List Int} {cl : Nat} (h : Fm w ⟨4, ⟨0, 0, 0, 0⟩, false, ⟨#[]⟩, tx, cl⟩ T X ∧ Chain X T tx) (c : Nat) (z : Int) (hz : z = c) :
    Fm w ⟨4, ⟨0, 0, 0, 0⟩, false, ⟨#[]⟩, tx, c⟩ T (X.setCell ⟨w.heap.size, 8, none⟩ (.int .i64 z)) ∧ Chain (X.setCell ⟨w.heap.size, 8, none⟩ (.int .i64 z)) T tx :=
  ⟨h.1.setCl c z hz, chain_far (h.1.b.2.1 0) 8 _ h.2⟩

set_option maxHeartbeats 4000000 in
theorem paste_0_eq (tx : List Int) (T : Option Addr) (w : World) (hc : Chain w T tx) : Calls Try.prog 21 #[psV ⟨4, ⟨0, 0, 0, 0⟩, false, ⟨#[]⟩, tx, 0⟩ T, .int .u8 27] w (Tells (⟨4, ⟨0, 0, 0, 0⟩, false, ⟨#[]⟩, (27 :: tx), 1⟩, []) w) := by
  have V0 := Lib.hid (fm_start w ⟨4, ⟨0, 0, 0, 0⟩, false, ⟨#[]⟩, tx, 0⟩ T)
  have HC := Lib.hid hc
  clear hc
  go_enter Try.func21, Try.ntmps21
  go_upto_region 1 with fail
  refine at_world (fun X => Fm w ⟨4, ⟨0, 0, 0, 0⟩, false, ⟨#[]⟩, tx, 0⟩ T X) V0.out ?_
  intro X hX
  have V1 := Lib.hid (And.intro hX ((HC.out).later hX.below))
  clear hX V0 HC
  have HY := Lib.hid (V1.out.1.later (belAlloc X (.cells #[.int .u8 27, .pointer T] 65)))
  have u7' : X.cell? ⟨w.heap.size, 7, none⟩ = some (.pointer T) := V1.out.1.b.2.1 7
  obtain ⟨yb, rb, jb⟩ := (show _ from HY.out.b); have u0 : (X.alloc (.cells #[.int .u8 27, .pointer T] 65)).cell? ⟨w.heap.size, 0, none⟩ = some (.int .i64 4) := rb 0; have u1 : (X.alloc (.cells #[.int .u8 27, .pointer T] 65)).cell? ⟨w.heap.size, 1, none⟩ = some (.int .u8 0) := rb 1; have u2 : (X.alloc (.cells #[.int .u8 27, .pointer T] 65)).cell? ⟨w.heap.size, 2, none⟩ = some (.int .u8 0) := rb 2; have u3 : (X.alloc (.cells #[.int .u8 27, .pointer T] 65)).cell? ⟨w.heap.size, 3, none⟩ = some (.int .u8 0) := rb 3; have u4 : (X.alloc (.cells #[.int .u8 27, .pointer T] 65)).cell? ⟨w.heap.size, 4, none⟩ = some (.int .i64 0) := rb 4; have u5 : (X.alloc (.cells #[.int .u8 27, .pointer T] 65)).cell? ⟨w.heap.size, 5, none⟩ = some (.bool false) := rb 5; have u6 : (X.alloc (.cells #[.int .u8 27, .pointer T] 65)).cell? ⟨w.heap.size, 6, none⟩ = some (.string ⟨#[]⟩) := rb 6; have u7 : (X.alloc (.cells #[.int .u8 27, .pointer T] 65)).cell? ⟨w.heap.size, 7, none⟩ = some (.pointer T) := rb 7; have u8 : (X.alloc (.cells #[.int .u8 27, .pointer T] 65)).cell? ⟨w.heap.size, 8, none⟩ = some (.int .i64 0) := rb 8; have v0 := jb 0; have v1 := jb 1; have v2 := jb 2; have v3 := jb 3; have v4 := jb 4; have v5 := jb 5; have v6 := jb 6; have v7 := jb 7; have v8 := jb 8; clear rb jb
  go_upto_region 3 with fail
  refine at_world (fun X' => Fm w ⟨4, ⟨0, 0, 0, 0⟩, false, ⟨#[]⟩, (27 :: tx), 0⟩ (some ⟨X.heap.size, 0, none⟩) X' ∧ Chain X' (some ⟨X.heap.size, 0, none⟩) (27 :: tx)) (fc_tx V1.out.1 V1.out.2 27 _) ?_
  clear u0 u1 u2 u3 u4 u5 u6 u7 u8 v0 v1 v2 v3 v4 v5 v6 v7 v8 yb u7' HY
  obtain ⟨T', hT'⟩ : ∃ T', (some ⟨X.heap.size, 0, none⟩ : Option Addr) = T' := ⟨_, rfl⟩
  rw [hT']
  clear hT' V1
  intro X2 hX
  have V2 := Lib.hid hX
  clear hX
  obtain ⟨yb, rb, jb⟩ := (show _ from V2.out.1.b); have u0 : X2.cell? ⟨w.heap.size, 0, none⟩ = some (.int .i64 4) := rb 0; have u1 : X2.cell? ⟨w.heap.size, 1, none⟩ = some (.int .u8 0) := rb 1; have u2 : X2.cell? ⟨w.heap.size, 2, none⟩ = some (.int .u8 0) := rb 2; have u3 : X2.cell? ⟨w.heap.size, 3, none⟩ = some (.int .u8 0) := rb 3; have u4 : X2.cell? ⟨w.heap.size, 4, none⟩ = some (.int .i64 0) := rb 4; have u5 : X2.cell? ⟨w.heap.size, 5, none⟩ = some (.bool false) := rb 5; have u6 : X2.cell? ⟨w.heap.size, 6, none⟩ = some (.string ⟨#[]⟩) := rb 6; have u7 : X2.cell? ⟨w.heap.size, 7, none⟩ = some (.pointer T') := rb 7; have u8 : X2.cell? ⟨w.heap.size, 8, none⟩ = some (.int .i64 0) := rb 8; have v0 := jb 0; have v1 := jb 1; have v2 := jb 2; have v3 := jb 3; have v4 := jb 4; have v5 := jb 5; have v6 := jb 6; have v7 := jb 7; have v8 := jb 8; clear rb jb
  go_upto_region 7 with fail
  refine at_world (fun X' => Fm w ⟨4, ⟨0, 0, 0, 0⟩, false, ⟨#[]⟩, (27 :: tx), 1⟩ T' X' ∧ Chain X' T' (27 :: tx)) (fc_cl V2.out 1 _ (by rfl)) ?_
  clear u0 u1 u2 u3 u4 u5 u6 u7 u8 v0 v1 v2 v3 v4 v5 v6 v7 v8 yb V2
  intro X3 hX
  have V3 := Lib.hid hX
  clear hX
  obtain ⟨y1, k1, j1⟩ := (show _ from V3.out.1.b)
  obtain ⟨y6, r6, j6⟩ := (show _ from V3.out.1.r); have q0 : X3.cell? ⟨w.heap.size + 1, 0, none⟩ = some (.int .i64 0) := r6 0; have q1 : X3.cell? ⟨w.heap.size + 1, 1, none⟩ = some (.int .u8 0) := r6 1; have q2 : X3.cell? ⟨w.heap.size + 1, 2, none⟩ = some (.int .u8 0) := r6 2; have q3 : X3.cell? ⟨w.heap.size + 1, 3, none⟩ = some (.int .u8 0) := r6 3; have q4 : X3.cell? ⟨w.heap.size + 1, 4, none⟩ = some (.int .i64 0) := r6 4; have q5 : X3.cell? ⟨w.heap.size + 1, 5, none⟩ = some (.bool false) := r6 5; have q6 : X3.cell? ⟨w.heap.size + 1, 6, none⟩ = some (.string ⟨#[]⟩) := r6 6; have q7 : X3.cell? ⟨w.heap.size + 1, 7, none⟩ = some (.pointer none) := r6 7; have q8 : X3.cell? ⟨w.heap.size + 1, 8, none⟩ = some (.int .i64 0) := r6 8; have f0 := j6 0; have f1 := j6 1; have f2 := j6 2; have f3 := j6 3; have f4 := j6 4; have f5 := j6 5; have f6 := j6 6; have f7 := j6 7; have f8 := j6 8; clear r6 j6
  go_wp2_with fail
  refine at_world (FinP w ⟨4, ⟨0, 0, 0, 0⟩, false, ⟨#[]⟩, (27 :: tx), 1⟩ T' (.slice none 0 0) 0 []) (fin_put (s := ⟨4, ⟨0, 0, 0, 0⟩, false, ⟨#[]⟩, (27 :: tx), 1⟩) V3.out.1 (kyW_nil _) rfl V3.out.2) ?_
  rintro Z ⟨⟨y9, k9, j9⟩, hk, hn, hb, hc⟩
  have HZ := Lib.hid (And.intro hc (And.intro hk (And.intro hn hb)))
  have e0 := k9 0
  have e1 := k9 1
  have e2 := k9 2
  have e3 := k9 3
  have e4 := k9 4
  have e5 := k9 5
  have e6 := k9 6
  have e7 := k9 7
  have e8 := k9 8
  clear hc hk hn hb k9 j9 y9 q0 q1 q2 q3 q4 q5 q6 q7 q8 f0 f1 f2 f3 f4 f5 f6 f7 f8 y6 
  refine bodyPost_ret (v := .tuple #[psV ⟨4, ⟨0, 0, 0, 0⟩, false, ⟨#[]⟩, (27 :: tx), 1⟩ T', .slice none 0 0]) (by simp at e0 e1 e2 e3 e4 e5 e6 e7 e8; simp [results, Try.results21, go_sem, e0, e1, e2, e3, e4, e5, e6, e7, e8]) rfl ⟨T', none, 0, 0, rfl, HZ.out.1, HZ.out.2.1, HZ.out.2.2.1, HZ.out.2.2.2⟩

set_option maxHeartbeats 4000000 in
theorem paste_0_no (tx : List Int) (T : Option Addr) (b : Int) (n1 : (b == 27) = false) (n2 : (b == 27) = false) (w : World) (hc : Chain w T tx) : Calls Try.prog 21 #[psV ⟨4, ⟨0, 0, 0, 0⟩, false, ⟨#[]⟩, tx, 0⟩ T, .int .u8 b] w (Tells (⟨4, ⟨0, 0, 0, 0⟩, false, ⟨#[]⟩, (b :: tx), 0⟩, []) w) := by
  have m1 : (b == (((⟨#[27, 91, 50, 48, 49, 126]⟩ : ByteArray)[0]'(by decide)).toNat : Int)) = false := n1
  have m2 : (b == (((⟨#[27, 91, 50, 48, 49, 126]⟩ : ByteArray)[0]'(by decide)).toNat : Int)) = false := n2
  have V0 := Lib.hid (fm_start w ⟨4, ⟨0, 0, 0, 0⟩, false, ⟨#[]⟩, tx, 0⟩ T)
  have HC := Lib.hid hc
  clear hc
  go_enter Try.func21, Try.ntmps21
  go_upto_region 1 with fail
  refine at_world (fun X => Fm w ⟨4, ⟨0, 0, 0, 0⟩, false, ⟨#[]⟩, tx, 0⟩ T X) V0.out ?_
  intro X hX
  have V1 := Lib.hid (And.intro hX ((HC.out).later hX.below))
  clear hX V0 HC
  have HY := Lib.hid (V1.out.1.later (belAlloc X (.cells #[.int .u8 b, .pointer T] 65)))
  have u7' : X.cell? ⟨w.heap.size, 7, none⟩ = some (.pointer T) := V1.out.1.b.2.1 7
  obtain ⟨yb, rb, jb⟩ := (show _ from HY.out.b); have u0 : (X.alloc (.cells #[.int .u8 b, .pointer T] 65)).cell? ⟨w.heap.size, 0, none⟩ = some (.int .i64 4) := rb 0; have u1 : (X.alloc (.cells #[.int .u8 b, .pointer T] 65)).cell? ⟨w.heap.size, 1, none⟩ = some (.int .u8 0) := rb 1; have u2 : (X.alloc (.cells #[.int .u8 b, .pointer T] 65)).cell? ⟨w.heap.size, 2, none⟩ = some (.int .u8 0) := rb 2; have u3 : (X.alloc (.cells #[.int .u8 b, .pointer T] 65)).cell? ⟨w.heap.size, 3, none⟩ = some (.int .u8 0) := rb 3; have u4 : (X.alloc (.cells #[.int .u8 b, .pointer T] 65)).cell? ⟨w.heap.size, 4, none⟩ = some (.int .i64 0) := rb 4; have u5 : (X.alloc (.cells #[.int .u8 b, .pointer T] 65)).cell? ⟨w.heap.size, 5, none⟩ = some (.bool false) := rb 5; have u6 : (X.alloc (.cells #[.int .u8 b, .pointer T] 65)).cell? ⟨w.heap.size, 6, none⟩ = some (.string ⟨#[]⟩) := rb 6; have u7 : (X.alloc (.cells #[.int .u8 b, .pointer T] 65)).cell? ⟨w.heap.size, 7, none⟩ = some (.pointer T) := rb 7; have u8 : (X.alloc (.cells #[.int .u8 b, .pointer T] 65)).cell? ⟨w.heap.size, 8, none⟩ = some (.int .i64 0) := rb 8; have v0 := jb 0; have v1 := jb 1; have v2 := jb 2; have v3 := jb 3; have v4 := jb 4; have v5 := jb 5; have v6 := jb 6; have v7 := jb 7; have v8 := jb 8; clear rb jb
  go_upto_region 3 with fail
  refine at_world (fun X' => Fm w ⟨4, ⟨0, 0, 0, 0⟩, false, ⟨#[]⟩, (b :: tx), 0⟩ (some ⟨X.heap.size, 0, none⟩) X' ∧ Chain X' (some ⟨X.heap.size, 0, none⟩) (b :: tx)) (fc_tx V1.out.1 V1.out.2 b _) ?_
  clear u0 u1 u2 u3 u4 u5 u6 u7 u8 v0 v1 v2 v3 v4 v5 v6 v7 v8 yb u7' HY
  obtain ⟨T', hT'⟩ : ∃ T', (some ⟨X.heap.size, 0, none⟩ : Option Addr) = T' := ⟨_, rfl⟩
  rw [hT']
  clear hT' V1
  intro X2 hX
  have V2 := Lib.hid hX
  clear hX
  obtain ⟨yb, rb, jb⟩ := (show _ from V2.out.1.b); have u0 : X2.cell? ⟨w.heap.size, 0, none⟩ = some (.int .i64 4) := rb 0; have u1 : X2.cell? ⟨w.heap.size, 1, none⟩ = some (.int .u8 0) := rb 1; have u2 : X2.cell? ⟨w.heap.size, 2, none⟩ = some (.int .u8 0) := rb 2; have u3 : X2.cell? ⟨w.heap.size, 3, none⟩ = some (.int .u8 0) := rb 3; have u4 : X2.cell? ⟨w.heap.size, 4, none⟩ = some (.int .i64 0) := rb 4; have u5 : X2.cell? ⟨w.heap.size, 5, none⟩ = some (.bool false) := rb 5; have u6 : X2.cell? ⟨w.heap.size, 6, none⟩ = some (.string ⟨#[]⟩) := rb 6; have u7 : X2.cell? ⟨w.heap.size, 7, none⟩ = some (.pointer T') := rb 7; have u8 : X2.cell? ⟨w.heap.size, 8, none⟩ = some (.int .i64 0) := rb 8; have v0 := jb 0; have v1 := jb 1; have v2 := jb 2; have v3 := jb 3; have v4 := jb 4; have v5 := jb 5; have v6 := jb 6; have v7 := jb 7; have v8 := jb 8; clear rb jb
  go_upto_region 7 with fail
  refine at_world (fun X' => Fm w ⟨4, ⟨0, 0, 0, 0⟩, false, ⟨#[]⟩, (b :: tx), 0⟩ T' X' ∧ Chain X' T' (b :: tx)) (fc_cl V2.out 0 _ (by rfl)) ?_
  clear u0 u1 u2 u3 u4 u5 u6 u7 u8 v0 v1 v2 v3 v4 v5 v6 v7 v8 yb V2
  intro X3 hX
  have V3 := Lib.hid hX
  clear hX
  obtain ⟨y1, k1, j1⟩ := (show _ from V3.out.1.b)
  obtain ⟨y6, r6, j6⟩ := (show _ from V3.out.1.r); have q0 : X3.cell? ⟨w.heap.size + 1, 0, none⟩ = some (.int .i64 0) := r6 0; have q1 : X3.cell? ⟨w.heap.size + 1, 1, none⟩ = some (.int .u8 0) := r6 1; have q2 : X3.cell? ⟨w.heap.size + 1, 2, none⟩ = some (.int .u8 0) := r6 2; have q3 : X3.cell? ⟨w.heap.size + 1, 3, none⟩ = some (.int .u8 0) := r6 3; have q4 : X3.cell? ⟨w.heap.size + 1, 4, none⟩ = some (.int .i64 0) := r6 4; have q5 : X3.cell? ⟨w.heap.size + 1, 5, none⟩ = some (.bool false) := r6 5; have q6 : X3.cell? ⟨w.heap.size + 1, 6, none⟩ = some (.string ⟨#[]⟩) := r6 6; have q7 : X3.cell? ⟨w.heap.size + 1, 7, none⟩ = some (.pointer none) := r6 7; have q8 : X3.cell? ⟨w.heap.size + 1, 8, none⟩ = some (.int .i64 0) := r6 8; have f0 := j6 0; have f1 := j6 1; have f2 := j6 2; have f3 := j6 3; have f4 := j6 4; have f5 := j6 5; have f6 := j6 6; have f7 := j6 7; have f8 := j6 8; clear r6 j6
  go_wp2_with fail
  refine at_world (FinP w ⟨4, ⟨0, 0, 0, 0⟩, false, ⟨#[]⟩, (b :: tx), 0⟩ T' (.slice none 0 0) 0 []) (fin_put (s := ⟨4, ⟨0, 0, 0, 0⟩, false, ⟨#[]⟩, (b :: tx), 0⟩) V3.out.1 (kyW_nil _) rfl V3.out.2) ?_
  rintro Z ⟨⟨y9, k9, j9⟩, hk, hn, hb, hc⟩
  have HZ := Lib.hid (And.intro hc (And.intro hk (And.intro hn hb)))
  have e0 := k9 0
  have e1 := k9 1
  have e2 := k9 2
  have e3 := k9 3
  have e4 := k9 4
  have e5 := k9 5
  have e6 := k9 6
  have e7 := k9 7
  have e8 := k9 8
  clear hc hk hn hb k9 j9 y9 q0 q1 q2 q3 q4 q5 q6 q7 q8 f0 f1 f2 f3 f4 f5 f6 f7 f8 y6 
  refine bodyPost_ret (v := .tuple #[psV ⟨4, ⟨0, 0, 0, 0⟩, false, ⟨#[]⟩, (b :: tx), 0⟩ T', .slice none 0 0]) (by simp at e0 e1 e2 e3 e4 e5 e6 e7 e8; simp [results, Try.results21, go_sem, e0, e1, e2, e3, e4, e5, e6, e7, e8]) rfl ⟨T', none, 0, 0, rfl, HZ.out.1, HZ.out.2.1, HZ.out.2.2.1, HZ.out.2.2.2⟩

set_option maxHeartbeats 4000000 in
theorem paste_1_eq (tx : List Int) (T : Option Addr) (w : World) (hc : Chain w T tx) : Calls Try.prog 21 #[psV ⟨4, ⟨0, 0, 0, 0⟩, false, ⟨#[]⟩, tx, 1⟩ T, .int .u8 91] w (Tells (⟨4, ⟨0, 0, 0, 0⟩, false, ⟨#[]⟩, (91 :: tx), 2⟩, []) w) := by
  have V0 := Lib.hid (fm_start w ⟨4, ⟨0, 0, 0, 0⟩, false, ⟨#[]⟩, tx, 1⟩ T)
  have HC := Lib.hid hc
  clear hc
  go_enter Try.func21, Try.ntmps21
  go_upto_region 1 with fail
  refine at_world (fun X => Fm w ⟨4, ⟨0, 0, 0, 0⟩, false, ⟨#[]⟩, tx, 1⟩ T X) V0.out ?_
  intro X hX
  have V1 := Lib.hid (And.intro hX ((HC.out).later hX.below))
  clear hX V0 HC
  have HY := Lib.hid (V1.out.1.later (belAlloc X (.cells #[.int .u8 91, .pointer T] 65)))
  have u7' : X.cell? ⟨w.heap.size, 7, none⟩ = some (.pointer T) := V1.out.1.b.2.1 7
  obtain ⟨yb, rb, jb⟩ := (show _ from HY.out.b); have u0 : (X.alloc (.cells #[.int .u8 91, .pointer T] 65)).cell? ⟨w.heap.size, 0, none⟩ = some (.int .i64 4) := rb 0; have u1 : (X.alloc (.cells #[.int .u8 91, .pointer T] 65)).cell? ⟨w.heap.size, 1, none⟩ = some (.int .u8 0) := rb 1; have u2 : (X.alloc (.cells #[.int .u8 91, .pointer T] 65)).cell? ⟨w.heap.size, 2, none⟩ = some (.int .u8 0) := rb 2; have u3 : (X.alloc (.cells #[.int .u8 91, .pointer T] 65)).cell? ⟨w.heap.size, 3, none⟩ = some (.int .u8 0) := rb 3; have u4 : (X.alloc (.cells #[.int .u8 91, .pointer T] 65)).cell? ⟨w.heap.size, 4, none⟩ = some (.int .i64 0) := rb 4; have u5 : (X.alloc (.cells #[.int .u8 91, .pointer T] 65)).cell? ⟨w.heap.size, 5, none⟩ = some (.bool false) := rb 5; have u6 : (X.alloc (.cells #[.int .u8 91, .pointer T] 65)).cell? ⟨w.heap.size, 6, none⟩ = some (.string ⟨#[]⟩) := rb 6; have u7 : (X.alloc (.cells #[.int .u8 91, .pointer T] 65)).cell? ⟨w.heap.size, 7, none⟩ = some (.pointer T) := rb 7; have u8 : (X.alloc (.cells #[.int .u8 91, .pointer T] 65)).cell? ⟨w.heap.size, 8, none⟩ = some (.int .i64 1) := rb 8; have v0 := jb 0; have v1 := jb 1; have v2 := jb 2; have v3 := jb 3; have v4 := jb 4; have v5 := jb 5; have v6 := jb 6; have v7 := jb 7; have v8 := jb 8; clear rb jb
  go_upto_region 3 with fail
  refine at_world (fun X' => Fm w ⟨4, ⟨0, 0, 0, 0⟩, false, ⟨#[]⟩, (91 :: tx), 1⟩ (some ⟨X.heap.size, 0, none⟩) X' ∧ Chain X' (some ⟨X.heap.size, 0, none⟩) (91 :: tx)) (fc_tx V1.out.1 V1.out.2 91 _) ?_
  clear u0 u1 u2 u3 u4 u5 u6 u7 u8 v0 v1 v2 v3 v4 v5 v6 v7 v8 yb u7' HY
  obtain ⟨T', hT'⟩ : ∃ T', (some ⟨X.heap.size, 0, none⟩ : Option Addr) = T' := ⟨_, rfl⟩
  rw [hT']
  clear hT' V1
  intro X2 hX
  have V2 := Lib.hid hX
  clear hX
  obtain ⟨yb, rb, jb⟩ := (show _ from V2.out.1.b); have u0 : X2.cell? ⟨w.heap.size, 0, none⟩ = some (.int .i64 4) := rb 0; have u1 : X2.cell? ⟨w.heap.size, 1, none⟩ = some (.int .u8 0) := rb 1; have u2 : X2.cell? ⟨w.heap.size, 2, none⟩ = some (.int .u8 0) := rb 2; have u3 : X2.cell? ⟨w.heap.size, 3, none⟩ = some (.int .u8 0) := rb 3; have u4 : X2.cell? ⟨w.heap.size, 4, none⟩ = some (.int .i64 0) := rb 4; have u5 : X2.cell? ⟨w.heap.size, 5, none⟩ = some (.bool false) := rb 5; have u6 : X2.cell? ⟨w.heap.size, 6, none⟩ = some (.string ⟨#[]⟩) := rb 6; have u7 : X2.cell? ⟨w.heap.size, 7, none⟩ = some (.pointer T') := rb 7; have u8 : X2.cell? ⟨w.heap.size, 8, none⟩ = some (.int .i64 1) := rb 8; have v0 := jb 0; have v1 := jb 1; have v2 := jb 2; have v3 := jb 3; have v4 := jb 4; have v5 := jb 5; have v6 := jb 6; have v7 := jb 7; have v8 := jb 8; clear rb jb
  go_upto_region 7 with fail
  refine at_world (fun X' => Fm w ⟨4, ⟨0, 0, 0, 0⟩, false, ⟨#[]⟩, (91 :: tx), 2⟩ T' X' ∧ Chain X' T' (91 :: tx)) (fc_cl V2.out 2 _ (by rfl)) ?_
  clear u0 u1 u2 u3 u4 u5 u6 u7 u8 v0 v1 v2 v3 v4 v5 v6 v7 v8 yb V2
  intro X3 hX
  have V3 := Lib.hid hX
  clear hX
  obtain ⟨y1, k1, j1⟩ := (show _ from V3.out.1.b)
  obtain ⟨y6, r6, j6⟩ := (show _ from V3.out.1.r); have q0 : X3.cell? ⟨w.heap.size + 1, 0, none⟩ = some (.int .i64 0) := r6 0; have q1 : X3.cell? ⟨w.heap.size + 1, 1, none⟩ = some (.int .u8 0) := r6 1; have q2 : X3.cell? ⟨w.heap.size + 1, 2, none⟩ = some (.int .u8 0) := r6 2; have q3 : X3.cell? ⟨w.heap.size + 1, 3, none⟩ = some (.int .u8 0) := r6 3; have q4 : X3.cell? ⟨w.heap.size + 1, 4, none⟩ = some (.int .i64 0) := r6 4; have q5 : X3.cell? ⟨w.heap.size + 1, 5, none⟩ = some (.bool false) := r6 5; have q6 : X3.cell? ⟨w.heap.size + 1, 6, none⟩ = some (.string ⟨#[]⟩) := r6 6; have q7 : X3.cell? ⟨w.heap.size + 1, 7, none⟩ = some (.pointer none) := r6 7; have q8 : X3.cell? ⟨w.heap.size + 1, 8, none⟩ = some (.int .i64 0) := r6 8; have f0 := j6 0; have f1 := j6 1; have f2 := j6 2; have f3 := j6 3; have f4 := j6 4; have f5 := j6 5; have f6 := j6 6; have f7 := j6 7; have f8 := j6 8; clear r6 j6
  go_wp2_with fail
  refine at_world (FinP w ⟨4, ⟨0, 0, 0, 0⟩, false, ⟨#[]⟩, (91 :: tx), 2⟩ T' (.slice none 0 0) 0 []) (fin_put (s := ⟨4, ⟨0, 0, 0, 0⟩, false, ⟨#[]⟩, (91 :: tx), 2⟩) V3.out.1 (kyW_nil _) rfl V3.out.2) ?_
  rintro Z ⟨⟨y9, k9, j9⟩, hk, hn, hb, hc⟩
  have HZ := Lib.hid (And.intro hc (And.intro hk (And.intro hn hb)))
  have e0 := k9 0
  have e1 := k9 1
  have e2 := k9 2
  have e3 := k9 3
  have e4 := k9 4
  have e5 := k9 5
  have e6 := k9 6
  have e7 := k9 7
  have e8 := k9 8
  clear hc hk hn hb k9 j9 y9 q0 q1 q2 q3 q4 q5 q6 q7 q8 f0 f1 f2 f3 f4 f5 f6 f7 f8 y6 
  refine bodyPost_ret (v := .tuple #[psV ⟨4, ⟨0, 0, 0, 0⟩, false, ⟨#[]⟩, (91 :: tx), 2⟩ T', .slice none 0 0]) (by simp at e0 e1 e2 e3 e4 e5 e6 e7 e8; simp [results, Try.results21, go_sem, e0, e1, e2, e3, e4, e5, e6, e7, e8]) rfl ⟨T', none, 0, 0, rfl, HZ.out.1, HZ.out.2.1, HZ.out.2.2.1, HZ.out.2.2.2⟩

set_option maxHeartbeats 4000000 in
theorem paste_1_esc (tx : List Int) (T : Option Addr) (w : World) (hc : Chain w T tx) : Calls Try.prog 21 #[psV ⟨4, ⟨0, 0, 0, 0⟩, false, ⟨#[]⟩, tx, 1⟩ T, .int .u8 27] w (Tells (⟨4, ⟨0, 0, 0, 0⟩, false, ⟨#[]⟩, (27 :: tx), 1⟩, []) w) := by
  have V0 := Lib.hid (fm_start w ⟨4, ⟨0, 0, 0, 0⟩, false, ⟨#[]⟩, tx, 1⟩ T)
  have HC := Lib.hid hc
  clear hc
  go_enter Try.func21, Try.ntmps21
  go_upto_region 1 with fail
  refine at_world (fun X => Fm w ⟨4, ⟨0, 0, 0, 0⟩, false, ⟨#[]⟩, tx, 1⟩ T X) V0.out ?_
  intro X hX
  have V1 := Lib.hid (And.intro hX ((HC.out).later hX.below))
  clear hX V0 HC
  have HY := Lib.hid (V1.out.1.later (belAlloc X (.cells #[.int .u8 27, .pointer T] 65)))
  have u7' : X.cell? ⟨w.heap.size, 7, none⟩ = some (.pointer T) := V1.out.1.b.2.1 7
  obtain ⟨yb, rb, jb⟩ := (show _ from HY.out.b); have u0 : (X.alloc (.cells #[.int .u8 27, .pointer T] 65)).cell? ⟨w.heap.size, 0, none⟩ = some (.int .i64 4) := rb 0; have u1 : (X.alloc (.cells #[.int .u8 27, .pointer T] 65)).cell? ⟨w.heap.size, 1, none⟩ = some (.int .u8 0) := rb 1; have u2 : (X.alloc (.cells #[.int .u8 27, .pointer T] 65)).cell? ⟨w.heap.size, 2, none⟩ = some (.int .u8 0) := rb 2; have u3 : (X.alloc (.cells #[.int .u8 27, .pointer T] 65)).cell? ⟨w.heap.size, 3, none⟩ = some (.int .u8 0) := rb 3; have u4 : (X.alloc (.cells #[.int .u8 27, .pointer T] 65)).cell? ⟨w.heap.size, 4, none⟩ = some (.int .i64 0) := rb 4; have u5 : (X.alloc (.cells #[.int .u8 27, .pointer T] 65)).cell? ⟨w.heap.size, 5, none⟩ = some (.bool false) := rb 5; have u6 : (X.alloc (.cells #[.int .u8 27, .pointer T] 65)).cell? ⟨w.heap.size, 6, none⟩ = some (.string ⟨#[]⟩) := rb 6; have u7 : (X.alloc (.cells #[.int .u8 27, .pointer T] 65)).cell? ⟨w.heap.size, 7, none⟩ = some (.pointer T) := rb 7; have u8 : (X.alloc (.cells #[.int .u8 27, .pointer T] 65)).cell? ⟨w.heap.size, 8, none⟩ = some (.int .i64 1) := rb 8; have v0 := jb 0; have v1 := jb 1; have v2 := jb 2; have v3 := jb 3; have v4 := jb 4; have v5 := jb 5; have v6 := jb 6; have v7 := jb 7; have v8 := jb 8; clear rb jb
  go_upto_region 3 with fail
  refine at_world (fun X' => Fm w ⟨4, ⟨0, 0, 0, 0⟩, false, ⟨#[]⟩, (27 :: tx), 1⟩ (some ⟨X.heap.size, 0, none⟩) X' ∧ Chain X' (some ⟨X.heap.size, 0, none⟩) (27 :: tx)) (fc_tx V1.out.1 V1.out.2 27 _) ?_
  clear u0 u1 u2 u3 u4 u5 u6 u7 u8 v0 v1 v2 v3 v4 v5 v6 v7 v8 yb u7' HY
  obtain ⟨T', hT'⟩ : ∃ T', (some ⟨X.heap.size, 0, none⟩ : Option Addr) = T' := ⟨_, rfl⟩
  rw [hT']
  clear hT' V1
  intro X2 hX
  have V2 := Lib.hid hX
  clear hX
  obtain ⟨yb, rb, jb⟩ := (show _ from V2.out.1.b); have u0 : X2.cell? ⟨w.heap.size, 0, none⟩ = some (.int .i64 4) := rb 0; have u1 : X2.cell? ⟨w.heap.size, 1, none⟩ = some (.int .u8 0) := rb 1; have u2 : X2.cell? ⟨w.heap.size, 2, none⟩ = some (.int .u8 0) := rb 2; have u3 : X2.cell? ⟨w.heap.size, 3, none⟩ = some (.int .u8 0) := rb 3; have u4 : X2.cell? ⟨w.heap.size, 4, none⟩ = some (.int .i64 0) := rb 4; have u5 : X2.cell? ⟨w.heap.size, 5, none⟩ = some (.bool false) := rb 5; have u6 : X2.cell? ⟨w.heap.size, 6, none⟩ = some (.string ⟨#[]⟩) := rb 6; have u7 : X2.cell? ⟨w.heap.size, 7, none⟩ = some (.pointer T') := rb 7; have u8 : X2.cell? ⟨w.heap.size, 8, none⟩ = some (.int .i64 1) := rb 8; have v0 := jb 0; have v1 := jb 1; have v2 := jb 2; have v3 := jb 3; have v4 := jb 4; have v5 := jb 5; have v6 := jb 6; have v7 := jb 7; have v8 := jb 8; clear rb jb
  go_upto_region 7 with fail
  refine at_world (fun X' => Fm w ⟨4, ⟨0, 0, 0, 0⟩, false, ⟨#[]⟩, (27 :: tx), 1⟩ T' X' ∧ Chain X' T' (27 :: tx)) (fc_cl V2.out 1 _ (by rfl)) ?_
  clear u0 u1 u2 u3 u4 u5 u6 u7 u8 v0 v1 v2 v3 v4 v5 v6 v7 v8 yb V2
  intro X3 hX
  have V3 := Lib.hid hX
  clear hX
  obtain ⟨y1, k1, j1⟩ := (show _ from V3.out.1.b)
  obtain ⟨y6, r6, j6⟩ := (show _ from V3.out.1.r); have q0 : X3.cell? ⟨w.heap.size + 1, 0, none⟩ = some (.int .i64 0) := r6 0; have q1 : X3.cell? ⟨w.heap.size + 1, 1, none⟩ = some (.int .u8 0) := r6 1; have q2 : X3.cell? ⟨w.heap.size + 1, 2, none⟩ = some (.int .u8 0) := r6 2; have q3 : X3.cell? ⟨w.heap.size + 1, 3, none⟩ = some (.int .u8 0) := r6 3; have q4 : X3.cell? ⟨w.heap.size + 1, 4, none⟩ = some (.int .i64 0) := r6 4; have q5 : X3.cell? ⟨w.heap.size + 1, 5, none⟩ = some (.bool false) := r6 5; have q6 : X3.cell? ⟨w.heap.size + 1, 6, none⟩ = some (.string ⟨#[]⟩) := r6 6; have q7 : X3.cell? ⟨w.heap.size + 1, 7, none⟩ = some (.pointer none) := r6 7; have q8 : X3.cell? ⟨w.heap.size + 1, 8, none⟩ = some (.int .i64 0) := r6 8; have f0 := j6 0; have f1 := j6 1; have f2 := j6 2; have f3 := j6 3; have f4 := j6 4; have f5 := j6 5; have f6 := j6 6; have f7 := j6 7; have f8 := j6 8; clear r6 j6
  go_wp2_with fail
  refine at_world (FinP w ⟨4, ⟨0, 0, 0, 0⟩, false, ⟨#[]⟩, (27 :: tx), 1⟩ T' (.slice none 0 0) 0 []) (fin_put (s := ⟨4, ⟨0, 0, 0, 0⟩, false, ⟨#[]⟩, (27 :: tx), 1⟩) V3.out.1 (kyW_nil _) rfl V3.out.2) ?_
  rintro Z ⟨⟨y9, k9, j9⟩, hk, hn, hb, hc⟩
  have HZ := Lib.hid (And.intro hc (And.intro hk (And.intro hn hb)))
  have e0 := k9 0
  have e1 := k9 1
  have e2 := k9 2
  have e3 := k9 3
  have e4 := k9 4
  have e5 := k9 5
  have e6 := k9 6
  have e7 := k9 7
  have e8 := k9 8
  clear hc hk hn hb k9 j9 y9 q0 q1 q2 q3 q4 q5 q6 q7 q8 f0 f1 f2 f3 f4 f5 f6 f7 f8 y6 
  refine bodyPost_ret (v := .tuple #[psV ⟨4, ⟨0, 0, 0, 0⟩, false, ⟨#[]⟩, (27 :: tx), 1⟩ T', .slice none 0 0]) (by simp at e0 e1 e2 e3 e4 e5 e6 e7 e8; simp [results, Try.results21, go_sem, e0, e1, e2, e3, e4, e5, e6, e7, e8]) rfl ⟨T', none, 0, 0, rfl, HZ.out.1, HZ.out.2.1, HZ.out.2.2.1, HZ.out.2.2.2⟩

set_option maxHeartbeats 4000000 in
theorem paste_1_no (tx : List Int) (T : Option Addr) (b : Int) (n1 : (b == 91) = false) (n2 : (b == 27) = false) (w : World) (hc : Chain w T tx) : Calls Try.prog 21 #[psV ⟨4, ⟨0, 0, 0, 0⟩, false, ⟨#[]⟩, tx, 1⟩ T, .int .u8 b] w (Tells (⟨4, ⟨0, 0, 0, 0⟩, false, ⟨#[]⟩, (b :: tx), 0⟩, []) w) := by
  have m1 : (b == (((⟨#[27, 91, 50, 48, 49, 126]⟩ : ByteArray)[1]'(by decide)).toNat : Int)) = false := n1
  have m2 : (b == (((⟨#[27, 91, 50, 48, 49, 126]⟩ : ByteArray)[0]'(by decide)).toNat : Int)) = false := n2
  have V0 := Lib.hid (fm_start w ⟨4, ⟨0, 0, 0, 0⟩, false, ⟨#[]⟩, tx, 1⟩ T)
  have HC := Lib.hid hc
  clear hc
  go_enter Try.func21, Try.ntmps21
  go_upto_region 1 with fail
  refine at_world (fun X => Fm w ⟨4, ⟨0, 0, 0, 0⟩, false, ⟨#[]⟩, tx, 1⟩ T X) V0.out ?_
  intro X hX
  have V1 := Lib.hid (And.intro hX ((HC.out).later hX.below))
  clear hX V0 HC
  have HY := Lib.hid (V1.out.1.later (belAlloc X (.cells #[.int .u8 b, .pointer T] 65)))
  have u7' : X.cell? ⟨w.heap.size, 7, none⟩ = some (.pointer T) := V1.out.1.b.2.1 7
  obtain ⟨yb, rb, jb⟩ := (show _ from HY.out.b); have u0 : (X.alloc (.cells #[.int .u8 b, .pointer T] 65)).cell? ⟨w.heap.size, 0, none⟩ = some (.int .i64 4) := rb 0; have u1 : (X.alloc (.cells #[.int .u8 b, .pointer T] 65)).cell? ⟨w.heap.size, 1, none⟩ = some (.int .u8 0) := rb 1; have u2 : (X.alloc (.cells #[.int .u8 b, .pointer T] 65)).cell? ⟨w.heap.size, 2, none⟩ = some (.int .u8 0) := rb 2; have u3 : (X.alloc (.cells #[.int .u8 b, .pointer T] 65)).cell? ⟨w.heap.size, 3, none⟩ = some (.int .u8 0) := rb 3; have u4 : (X.alloc (.cells #[.int .u8 b, .pointer T] 65)).cell? ⟨w.heap.size, 4, none⟩ = some (.int .i64 0) := rb 4; have u5 : (X.alloc (.cells #[.int .u8 b, .pointer T] 65)).cell? ⟨w.heap.size, 5, none⟩ = some (.bool false) := rb 5; have u6 : (X.alloc (.cells #[.int .u8 b, .pointer T] 65)).cell? ⟨w.heap.size, 6, none⟩ = some (.string ⟨#[]⟩) := rb 6; have u7 : (X.alloc (.cells #[.int .u8 b, .pointer T] 65)).cell? ⟨w.heap.size, 7, none⟩ = some (.pointer T) := rb 7; have u8 : (X.alloc (.cells #[.int .u8 b, .pointer T] 65)).cell? ⟨w.heap.size, 8, none⟩ = some (.int .i64 1) := rb 8; have v0 := jb 0; have v1 := jb 1; have v2 := jb 2; have v3 := jb 3; have v4 := jb 4; have v5 := jb 5; have v6 := jb 6; have v7 := jb 7; have v8 := jb 8; clear rb jb
  go_upto_region 3 with fail
  refine at_world (fun X' => Fm w ⟨4, ⟨0, 0, 0, 0⟩, false, ⟨#[]⟩, (b :: tx), 1⟩ (some ⟨X.heap.size, 0, none⟩) X' ∧ Chain X' (some ⟨X.heap.size, 0, none⟩) (b :: tx)) (fc_tx V1.out.1 V1.out.2 b _) ?_
  clear u0 u1 u2 u3 u4 u5 u6 u7 u8 v0 v1 v2 v3 v4 v5 v6 v7 v8 yb u7' HY
  obtain ⟨T', hT'⟩ : ∃ T', (some ⟨X.heap.size, 0, none⟩ : Option Addr) = T' := ⟨_, rfl⟩
  rw [hT']
  clear hT' V1
  intro X2 hX
  have V2 := Lib.hid hX
  clear hX
  obtain ⟨yb, rb, jb⟩ := (show _ from V2.out.1.b); have u0 : X2.cell? ⟨w.heap.size, 0, none⟩ = some (.int .i64 4) := rb 0; have u1 : X2.cell? ⟨w.heap.size, 1, none⟩ = some (.int .u8 0) := rb 1; have u2 : X2.cell? ⟨w.heap.size, 2, none⟩ = some (.int .u8 0) := rb 2; have u3 : X2.cell? ⟨w.heap.size, 3, none⟩ = some (.int .u8 0) := rb 3; have u4 : X2.cell? ⟨w.heap.size, 4, none⟩ = some (.int .i64 0) := rb 4; have u5 : X2.cell? ⟨w.heap.size, 5, none⟩ = some (.bool false) := rb 5; have u6 : X2.cell? ⟨w.heap.size, 6, none⟩ = some (.string ⟨#[]⟩) := rb 6; have u7 : X2.cell? ⟨w.heap.size, 7, none⟩ = some (.pointer T') := rb 7; have u8 : X2.cell? ⟨w.heap.size, 8, none⟩ = some (.int .i64 1) := rb 8; have v0 := jb 0; have v1 := jb 1; have v2 := jb 2; have v3 := jb 3; have v4 := jb 4; have v5 := jb 5; have v6 := jb 6; have v7 := jb 7; have v8 := jb 8; clear rb jb
  go_upto_region 7 with fail
  refine at_world (fun X' => Fm w ⟨4, ⟨0, 0, 0, 0⟩, false, ⟨#[]⟩, (b :: tx), 0⟩ T' X' ∧ Chain X' T' (b :: tx)) (fc_cl V2.out 0 _ (by rfl)) ?_
  clear u0 u1 u2 u3 u4 u5 u6 u7 u8 v0 v1 v2 v3 v4 v5 v6 v7 v8 yb V2
  intro X3 hX
  have V3 := Lib.hid hX
  clear hX
  obtain ⟨y1, k1, j1⟩ := (show _ from V3.out.1.b)
  obtain ⟨y6, r6, j6⟩ := (show _ from V3.out.1.r); have q0 : X3.cell? ⟨w.heap.size + 1, 0, none⟩ = some (.int .i64 0) := r6 0; have q1 : X3.cell? ⟨w.heap.size + 1, 1, none⟩ = some (.int .u8 0) := r6 1; have q2 : X3.cell? ⟨w.heap.size + 1, 2, none⟩ = some (.int .u8 0) := r6 2; have q3 : X3.cell? ⟨w.heap.size + 1, 3, none⟩ = some (.int .u8 0) := r6 3; have q4 : X3.cell? ⟨w.heap.size + 1, 4, none⟩ = some (.int .i64 0) := r6 4; have q5 : X3.cell? ⟨w.heap.size + 1, 5, none⟩ = some (.bool false) := r6 5; have q6 : X3.cell? ⟨w.heap.size + 1, 6, none⟩ = some (.string ⟨#[]⟩) := r6 6; have q7 : X3.cell? ⟨w.heap.size + 1, 7, none⟩ = some (.pointer none) := r6 7; have q8 : X3.cell? ⟨w.heap.size + 1, 8, none⟩ = some (.int .i64 0) := r6 8; have f0 := j6 0; have f1 := j6 1; have f2 := j6 2; have f3 := j6 3; have f4 := j6 4; have f5 := j6 5; have f6 := j6 6; have f7 := j6 7; have f8 := j6 8; clear r6 j6
  go_wp2_with fail
  refine at_world (FinP w ⟨4, ⟨0, 0, 0, 0⟩, false, ⟨#[]⟩, (b :: tx), 0⟩ T' (.slice none 0 0) 0 []) (fin_put (s := ⟨4, ⟨0, 0, 0, 0⟩, false, ⟨#[]⟩, (b :: tx), 0⟩) V3.out.1 (kyW_nil _) rfl V3.out.2) ?_
  rintro Z ⟨⟨y9, k9, j9⟩, hk, hn, hb, hc⟩
  have HZ := Lib.hid (And.intro hc (And.intro hk (And.intro hn hb)))
  have e0 := k9 0
  have e1 := k9 1
  have e2 := k9 2
  have e3 := k9 3
  have e4 := k9 4
  have e5 := k9 5
  have e6 := k9 6
  have e7 := k9 7
  have e8 := k9 8
  clear hc hk hn hb k9 j9 y9 q0 q1 q2 q3 q4 q5 q6 q7 q8 f0 f1 f2 f3 f4 f5 f6 f7 f8 y6 
  refine bodyPost_ret (v := .tuple #[psV ⟨4, ⟨0, 0, 0, 0⟩, false, ⟨#[]⟩, (b :: tx), 0⟩ T', .slice none 0 0]) (by simp at e0 e1 e2 e3 e4 e5 e6 e7 e8; simp [results, Try.results21, go_sem, e0, e1, e2, e3, e4, e5, e6, e7, e8]) rfl ⟨T', none, 0, 0, rfl, HZ.out.1, HZ.out.2.1, HZ.out.2.2.1, HZ.out.2.2.2⟩

set_option maxHeartbeats 4000000 in
theorem paste_2_eq (tx : List Int) (T : Option Addr) (w : World) (hc : Chain w T tx) : Calls Try.prog 21 #[psV ⟨4, ⟨0, 0, 0, 0⟩, false, ⟨#[]⟩, tx, 2⟩ T, .int .u8 50] w (Tells (⟨4, ⟨0, 0, 0, 0⟩, false, ⟨#[]⟩, (50 :: tx), 3⟩, []) w) := by
  have V0 := Lib.hid (fm_start w ⟨4, ⟨0, 0, 0, 0⟩, false, ⟨#[]⟩, tx, 2⟩ T)
  have HC := Lib.hid hc
  clear hc
  go_enter Try.func21, Try.ntmps21
  go_upto_region 1 with fail
  refine at_world (fun X => Fm w ⟨4, ⟨0, 0, 0, 0⟩, false, ⟨#[]⟩, tx, 2⟩ T X) V0.out ?_
  intro X hX
  have V1 := Lib.hid (And.intro hX ((HC.out).later hX.below))
  clear hX V0 HC
  have HY := Lib.hid (V1.out.1.later (belAlloc X (.cells #[.int .u8 50, .pointer T] 65)))
  have u7' : X.cell? ⟨w.heap.size, 7, none⟩ = some (.pointer T) := V1.out.1.b.2.1 7
  obtain ⟨yb, rb, jb⟩ := (show _ from HY.out.b); have u0 : (X.alloc (.cells #[.int .u8 50, .pointer T] 65)).cell? ⟨w.heap.size, 0, none⟩ = some (.int .i64 4) := rb 0; have u1 : (X.alloc (.cells #[.int .u8 50, .pointer T] 65)).cell? ⟨w.heap.size, 1, none⟩ = some (.int .u8 0) := rb 1; have u2 : (X.alloc (.cells #[.int .u8 50, .pointer T] 65)).cell? ⟨w.heap.size, 2, none⟩ = some (.int .u8 0) := rb 2; have u3 : (X.alloc (.cells #[.int .u8 50, .pointer T] 65)).cell? ⟨w.heap.size, 3, none⟩ = some (.int .u8 0) := rb 3; have u4 : (X.alloc (.cells #[.int .u8 50, .pointer T] 65)).cell? ⟨w.heap.size, 4, none⟩ = some (.int .i64 0) := rb 4; have u5 : (X.alloc (.cells #[.int .u8 50, .pointer T] 65)).cell? ⟨w.heap.size, 5, none⟩ = some (.bool false) := rb 5; have u6 : (X.alloc (.cells #[.int .u8 50, .pointer T] 65)).cell? ⟨w.heap.size, 6, none⟩ = some (.string ⟨#[]⟩) := rb 6; have u7 : (X.alloc (.cells #[.int .u8 50, .pointer T] 65)).cell? ⟨w.heap.size, 7, none⟩ = some (.pointer T) := rb 7; have u8 : (X.alloc (.cells #[.int .u8 50, .pointer T] 65)).cell? ⟨w.heap.size, 8, none⟩ = some (.int .i64 2) := rb 8; have v0 := jb 0; have v1 := jb 1; have v2 := jb 2; have v3 := jb 3; have v4 := jb 4; have v5 := jb 5; have v6 := jb 6; have v7 := jb 7; have v8 := jb 8; clear rb jb
  go_upto_region 3 with fail
  refine at_world (fun X' => Fm w ⟨4, ⟨0, 0, 0, 0⟩, false, ⟨#[]⟩, (50 :: tx), 2⟩ (some ⟨X.heap.size, 0, none⟩) X' ∧ Chain X' (some ⟨X.heap.size, 0, none⟩) (50 :: tx)) (fc_tx V1.out.1 V1.out.2 50 _) ?_
  clear u0 u1 u2 u3 u4 u5 u6 u7 u8 v0 v1 v2 v3 v4 v5 v6 v7 v8 yb u7' HY
  obtain ⟨T', hT'⟩ : ∃ T', (some ⟨X.heap.size, 0, none⟩ : Option Addr) = T' := ⟨_, rfl⟩
  rw [hT']
  clear hT' V1
  intro X2 hX
  have V2 := Lib.hid hX
  clear hX
  obtain ⟨yb, rb, jb⟩ := (show _ from V2.out.1.b); have u0 : X2.cell? ⟨w.heap.size, 0, none⟩ = some (.int .i64 4) := rb 0; have u1 : X2.cell? ⟨w.heap.size, 1, none⟩ = some (.int .u8 0) := rb 1; have u2 : X2.cell? ⟨w.heap.size, 2, none⟩ = some (.int .u8 0) := rb 2; have u3 : X2.cell? ⟨w.heap.size, 3, none⟩ = some (.int .u8 0) := rb 3; have u4 : X2.cell? ⟨w.heap.size, 4, none⟩ = some (.int .i64 0) := rb 4; have u5 : X2.cell? ⟨w.heap.size, 5, none⟩ = some (.bool false) := rb 5; have u6 : X2.cell? ⟨w.heap.size, 6, none⟩ = some (.string ⟨#[]⟩) := rb 6; have u7 : X2.cell? ⟨w.heap.size, 7, none⟩ = some (.pointer T') := rb 7; have u8 : X2.cell? ⟨w.heap.size, 8, none⟩ = some (.int .i64 2) := rb 8; have v0 := jb 0; have v1 := jb 1; have v2 := jb 2; have v3 := jb 3; have v4 := jb 4; have v5 := jb 5; have v6 := jb 6; have v7 := jb 7; have v8 := jb 8; clear rb jb
  go_upto_region 7 with fail
  refine at_world (fun X' => Fm w ⟨4, ⟨0, 0, 0, 0⟩, false, ⟨#[]⟩, (50 :: tx), 3⟩ T' X' ∧ Chain X' T' (50 :: tx)) (fc_cl V2.out 3 _ (by rfl)) ?_
  clear u0 u1 u2 u3 u4 u5 u6 u7 u8 v0 v1 v2 v3 v4 v5 v6 v7 v8 yb V2
  intro X3 hX
  have V3 := Lib.hid hX
  clear hX
  obtain ⟨y1, k1, j1⟩ := (show _ from V3.out.1.b)
  obtain ⟨y6, r6, j6⟩ := (show _ from V3.out.1.r); have q0 : X3.cell? ⟨w.heap.size + 1, 0, none⟩ = some (.int .i64 0) := r6 0; have q1 : X3.cell? ⟨w.heap.size + 1, 1, none⟩ = some (.int .u8 0) := r6 1; have q2 : X3.cell? ⟨w.heap.size + 1, 2, none⟩ = some (.int .u8 0) := r6 2; have q3 : X3.cell? ⟨w.heap.size + 1, 3, none⟩ = some (.int .u8 0) := r6 3; have q4 : X3.cell? ⟨w.heap.size + 1, 4, none⟩ = some (.int .i64 0) := r6 4; have q5 : X3.cell? ⟨w.heap.size + 1, 5, none⟩ = some (.bool false) := r6 5; have q6 : X3.cell? ⟨w.heap.size + 1, 6, none⟩ = some (.string ⟨#[]⟩) := r6 6; have q7 : X3.cell? ⟨w.heap.size + 1, 7, none⟩ = some (.pointer none) := r6 7; have q8 : X3.cell? ⟨w.heap.size + 1, 8, none⟩ = some (.int .i64 0) := r6 8; have f0 := j6 0; have f1 := j6 1; have f2 := j6 2; have f3 := j6 3; have f4 := j6 4; have f5 := j6 5; have f6 := j6 6; have f7 := j6 7; have f8 := j6 8; clear r6 j6
  go_wp2_with fail
  refine at_world (FinP w ⟨4, ⟨0, 0, 0, 0⟩, false, ⟨#[]⟩, (50 :: tx), 3⟩ T' (.slice none 0 0) 0 []) (fin_put (s := ⟨4, ⟨0, 0, 0, 0⟩, false, ⟨#[]⟩, (50 :: tx), 3⟩) V3.out.1 (kyW_nil _) rfl V3.out.2) ?_
  rintro Z ⟨⟨y9, k9, j9⟩, hk, hn, hb, hc⟩
  have HZ := Lib.hid (And.intro hc (And.intro hk (And.intro hn hb)))
  have e0 := k9 0
  have e1 := k9 1
  have e2 := k9 2
  have e3 := k9 3
  have e4 := k9 4
  have e5 := k9 5
  have e6 := k9 6
  have e7 := k9 7
  have e8 := k9 8
  clear hc hk hn hb k9 j9 y9 q0 q1 q2 q3 q4 q5 q6 q7 q8 f0 f1 f2 f3 f4 f5 f6 f7 f8 y6 
  refine bodyPost_ret (v := .tuple #[psV ⟨4, ⟨0, 0, 0, 0⟩, false, ⟨#[]⟩, (50 :: tx), 3⟩ T', .slice none 0 0]) (by simp at e0 e1 e2 e3 e4 e5 e6 e7 e8; simp [results, Try.results21, go_sem, e0, e1, e2, e3, e4, e5, e6, e7, e8]) rfl ⟨T', none, 0, 0, rfl, HZ.out.1, HZ.out.2.1, HZ.out.2.2.1, HZ.out.2.2.2⟩

set_option maxHeartbeats 4000000 in
theorem paste_2_esc (tx : List Int) (T : Option Addr) (w : World) (hc : Chain w T tx) : Calls Try.prog 21 #[psV ⟨4, ⟨0, 0, 0, 0⟩, false, ⟨#[]⟩, tx, 2⟩ T, .int .u8 27] w (Tells (⟨4, ⟨0, 0, 0, 0⟩, false, ⟨#[]⟩, (27 :: tx), 1⟩, []) w) := by
  have V0 := Lib.hid (fm_start w ⟨4, ⟨0, 0, 0, 0⟩, false, ⟨#[]⟩, tx, 2⟩ T)
  have HC := Lib.hid hc
  clear hc
  go_enter Try.func21, Try.ntmps21
  go_upto_region 1 with fail
  refine at_world (fun X => Fm w ⟨4, ⟨0, 0, 0, 0⟩, false, ⟨#[]⟩, tx, 2⟩ T X) V0.out ?_
  intro X hX
  have V1 := Lib.hid (And.intro hX ((HC.out).later hX.below))
  clear hX V0 HC
  have HY := Lib.hid (V1.out.1.later (belAlloc X (.cells #[.int .u8 27, .pointer T] 65)))
  have u7' : X.cell? ⟨w.heap.size, 7, none⟩ = some (.pointer T) := V1.out.1.b.2.1 7
  obtain ⟨yb, rb, jb⟩ := (show _ from HY.out.b); have u0 : (X.alloc (.cells #[.int .u8 27, .pointer T] 65)).cell? ⟨w.heap.size, 0, none⟩ = some (.int .i64 4) := rb 0; have u1 : (X.alloc (.cells #[.int .u8 27, .pointer T] 65)).cell? ⟨w.heap.size, 1, none⟩ = some (.int .u8 0) := rb 1; have u2 : (X.alloc (.cells #[.int .u8 27, .pointer T] 65)).cell? ⟨w.heap.size, 2, none⟩ = some (.int .u8 0) := rb 2; have u3 : (X.alloc (.cells #[.int .u8 27, .pointer T] 65)).cell? ⟨w.heap.size, 3, none⟩ = some (.int .u8 0) := rb 3; have u4 : (X.alloc (.cells #[.int .u8 27, .pointer T] 65)).cell? ⟨w.heap.size, 4, none⟩ = some (.int .i64 0) := rb 4; have u5 : (X.alloc (.cells #[.int .u8 27, .pointer T] 65)).cell? ⟨w.heap.size, 5, none⟩ = some (.bool false) := rb 5; have u6 : (X.alloc (.cells #[.int .u8 27, .pointer T] 65)).cell? ⟨w.heap.size, 6, none⟩ = some (.string ⟨#[]⟩) := rb 6; have u7 : (X.alloc (.cells #[.int .u8 27, .pointer T] 65)).cell? ⟨w.heap.size, 7, none⟩ = some (.pointer T) := rb 7; have u8 : (X.alloc (.cells #[.int .u8 27, .pointer T] 65)).cell? ⟨w.heap.size, 8, none⟩ = some (.int .i64 2) := rb 8; have v0 := jb 0; have v1 := jb 1; have v2 := jb 2; have v3 := jb 3; have v4 := jb 4; have v5 := jb 5; have v6 := jb 6; have v7 := jb 7; have v8 := jb 8; clear rb jb
  go_upto_region 3 with fail
  refine at_world (fun X' => Fm w ⟨4, ⟨0, 0, 0, 0⟩, false, ⟨#[]⟩, (27 :: tx), 2⟩ (some ⟨X.heap.size, 0, none⟩) X' ∧ Chain X' (some ⟨X.heap.size, 0, none⟩) (27 :: tx)) (fc_tx V1.out.1 V1.out.2 27 _) ?_
  clear u0 u1 u2 u3 u4 u5 u6 u7 u8 v0 v1 v2 v3 v4 v5 v6 v7 v8 yb u7' HY
  obtain ⟨T', hT'⟩ : ∃ T', (some ⟨X.heap.size, 0, none⟩ : Option Addr) = T' := ⟨_, rfl⟩
  rw [hT']
  clear hT' V1
  intro X2 hX
  have V2 := Lib.hid hX
  clear hX
  obtain ⟨yb, rb, jb⟩ := (show _ from V2.out.1.b); have u0 : X2.cell? ⟨w.heap.size, 0, none⟩ = some (.int .i64 4) := rb 0; have u1 : X2.cell? ⟨w.heap.size, 1, none⟩ = some (.int .u8 0) := rb 1; have u2 : X2.cell? ⟨w.heap.size, 2, none⟩ = some (.int .u8 0) := rb 2; have u3 : X2.cell? ⟨w.heap.size, 3, none⟩ = some (.int .u8 0) := rb 3; have u4 : X2.cell? ⟨w.heap.size, 4, none⟩ = some (.int .i64 0) := rb 4; have u5 : X2.cell? ⟨w.heap.size, 5, none⟩ = some (.bool false) := rb 5; have u6 : X2.cell? ⟨w.heap.size, 6, none⟩ = some (.string ⟨#[]⟩) := rb 6; have u7 : X2.cell? ⟨w.heap.size, 7, none⟩ = some (.pointer T') := rb 7; have u8 : X2.cell? ⟨w.heap.size, 8, none⟩ = some (.int .i64 2) := rb 8; have v0 := jb 0; have v1 := jb 1; have v2 := jb 2; have v3 := jb 3; have v4 := jb 4; have v5 := jb 5; have v6 := jb 6; have v7 := jb 7; have v8 := jb 8; clear rb jb
  go_upto_region 7 with fail
  refine at_world (fun X' => Fm w ⟨4, ⟨0, 0, 0, 0⟩, false, ⟨#[]⟩, (27 :: tx), 1⟩ T' X' ∧ Chain X' T' (27 :: tx)) (fc_cl V2.out 1 _ (by rfl)) ?_
  clear u0 u1 u2 u3 u4 u5 u6 u7 u8 v0 v1 v2 v3 v4 v5 v6 v7 v8 yb V2
  intro X3 hX
  have V3 := Lib.hid hX
  clear hX
  obtain ⟨y1, k1, j1⟩ := (show _ from V3.out.1.b)
  obtain ⟨y6, r6, j6⟩ := (show _ from V3.out.1.r); have q0 : X3.cell? ⟨w.heap.size + 1, 0, none⟩ = some (.int .i64 0) := r6 0; have q1 : X3.cell? ⟨w.heap.size + 1, 1, none⟩ = some (.int .u8 0) := r6 1; have q2 : X3.cell? ⟨w.heap.size + 1, 2, none⟩ = some (.int .u8 0) := r6 2; have q3 : X3.cell? ⟨w.heap.size + 1, 3, none⟩ = some (.int .u8 0) := r6 3; have q4 : X3.cell? ⟨w.heap.size + 1, 4, none⟩ = some (.int .i64 0) := r6 4; have q5 : X3.cell? ⟨w.heap.size + 1, 5, none⟩ = some (.bool false) := r6 5; have q6 : X3.cell? ⟨w.heap.size + 1, 6, none⟩ = some (.string ⟨#[]⟩) := r6 6; have q7 : X3.cell? ⟨w.heap.size + 1, 7, none⟩ = some (.pointer none) := r6 7; have q8 : X3.cell? ⟨w.heap.size + 1, 8, none⟩ = some (.int .i64 0) := r6 8; have f0 := j6 0; have f1 := j6 1; have f2 := j6 2; have f3 := j6 3; have f4 := j6 4; have f5 := j6 5; have f6 := j6 6; have f7 := j6 7; have f8 := j6 8; clear r6 j6
  go_wp2_with fail
  refine at_world (FinP w ⟨4, ⟨0, 0, 0, 0⟩, false, ⟨#[]⟩, (27 :: tx), 1⟩ T' (.slice none 0 0) 0 []) (fin_put (s := ⟨4, ⟨0, 0, 0, 0⟩, false, ⟨#[]⟩, (27 :: tx), 1⟩) V3.out.1 (kyW_nil _) rfl V3.out.2) ?_
  rintro Z ⟨⟨y9, k9, j9⟩, hk, hn, hb, hc⟩
  have HZ := Lib.hid (And.intro hc (And.intro hk (And.intro hn hb)))
  have e0 := k9 0
  have e1 := k9 1
  have e2 := k9 2
  have e3 := k9 3
  have e4 := k9 4
  have e5 := k9 5
  have e6 := k9 6
  have e7 := k9 7
  have e8 := k9 8
  clear hc hk hn hb k9 j9 y9 q0 q1 q2 q3 q4 q5 q6 q7 q8 f0 f1 f2 f3 f4 f5 f6 f7 f8 y6 
  refine bodyPost_ret (v := .tuple #[psV ⟨4, ⟨0, 0, 0, 0⟩, false, ⟨#[]⟩, (27 :: tx), 1⟩ T', .slice none 0 0]) (by simp at e0 e1 e2 e3 e4 e5 e6 e7 e8; simp [results, Try.results21, go_sem, e0, e1, e2, e3, e4, e5, e6, e7, e8]) rfl ⟨T', none, 0, 0, rfl, HZ.out.1, HZ.out.2.1, HZ.out.2.2.1, HZ.out.2.2.2⟩

set_option maxHeartbeats 4000000 in
theorem paste_2_no (tx : List Int) (T : Option Addr) (b : Int) (n1 : (b == 50) = false) (n2 : (b == 27) = false) (w : World) (hc : Chain w T tx) : Calls Try.prog 21 #[psV ⟨4, ⟨0, 0, 0, 0⟩, false, ⟨#[]⟩, tx, 2⟩ T, .int .u8 b] w (Tells (⟨4, ⟨0, 0, 0, 0⟩, false, ⟨#[]⟩, (b :: tx), 0⟩, []) w) := by
  have m1 : (b == (((⟨#[27, 91, 50, 48, 49, 126]⟩ : ByteArray)[2]'(by decide)).toNat : Int)) = false := n1
  have m2 : (b == (((⟨#[27, 91, 50, 48, 49, 126]⟩ : ByteArray)[0]'(by decide)).toNat : Int)) = false := n2
  have V0 := Lib.hid (fm_start w ⟨4, ⟨0, 0, 0, 0⟩, false, ⟨#[]⟩, tx, 2⟩ T)
  have HC := Lib.hid hc
  clear hc
  go_enter Try.func21, Try.ntmps21
  go_upto_region 1 with fail
  refine at_world (fun X => Fm w ⟨4, ⟨0, 0, 0, 0⟩, false, ⟨#[]⟩, tx, 2⟩ T X) V0.out ?_
  intro X hX
  have V1 := Lib.hid (And.intro hX ((HC.out).later hX.below))
  clear hX V0 HC
  have HY := Lib.hid (V1.out.1.later (belAlloc X (.cells #[.int .u8 b, .pointer T] 65)))
  have u7' : X.cell? ⟨w.heap.size, 7, none⟩ = some (.pointer T) := V1.out.1.b.2.1 7
  obtain ⟨yb, rb, jb⟩ := (show _ from HY.out.b); have u0 : (X.alloc (.cells #[.int .u8 b, .pointer T] 65)).cell? ⟨w.heap.size, 0, none⟩ = some (.int .i64 4) := rb 0; have u1 : (X.alloc (.cells #[.int .u8 b, .pointer T] 65)).cell? ⟨w.heap.size, 1, none⟩ = some (.int .u8 0) := rb 1; have u2 : (X.alloc (.cells #[.int .u8 b, .pointer T] 65)).cell? ⟨w.heap.size, 2, none⟩ = some (.int .u8 0) := rb 2; have u3 : (X.alloc (.cells #[.int .u8 b, .pointer T] 65)).cell? ⟨w.heap.size, 3, none⟩ = some (.int .u8 0) := rb 3; have u4 : (X.alloc (.cells #[.int .u8 b, .pointer T] 65)).cell? ⟨w.heap.size, 4, none⟩ = some (.int .i64 0) := rb 4; have u5 : (X.alloc (.cells #[.int .u8 b, .pointer T] 65)).cell? ⟨w.heap.size, 5, none⟩ = some (.bool false) := rb 5; have u6 : (X.alloc (.cells #[.int .u8 b, .pointer T] 65)).cell? ⟨w.heap.size, 6, none⟩ = some (.string ⟨#[]⟩) := rb 6; have u7 : (X.alloc (.cells #[.int .u8 b, .pointer T] 65)).cell? ⟨w.heap.size, 7, none⟩ = some (.pointer T) := rb 7; have u8 : (X.alloc (.cells #[.int .u8 b, .pointer T] 65)).cell? ⟨w.heap.size, 8, none⟩ = some (.int .i64 2) := rb 8; have v0 := jb 0; have v1 := jb 1; have v2 := jb 2; have v3 := jb 3; have v4 := jb 4; have v5 := jb 5; have v6 := jb 6; have v7 := jb 7; have v8 := jb 8; clear rb jb
  go_upto_region 3 with fail
  refine at_world (fun X' => Fm w ⟨4, ⟨0, 0, 0, 0⟩, false, ⟨#[]⟩, (b :: tx), 2⟩ (some ⟨X.heap.size, 0, none⟩) X' ∧ Chain X' (some ⟨X.heap.size, 0, none⟩) (b :: tx)) (fc_tx V1.out.1 V1.out.2 b _) ?_
  clear u0 u1 u2 u3 u4 u5 u6 u7 u8 v0 v1 v2 v3 v4 v5 v6 v7 v8 yb u7' HY
  obtain ⟨T', hT'⟩ : ∃ T', (some ⟨X.heap.size, 0, none⟩ : Option Addr) = T' := ⟨_, rfl⟩
  rw [hT']
  clear hT' V1
  intro X2 hX
  have V2 := Lib.hid hX
  clear hX
  obtain ⟨yb, rb, jb⟩ := (show _ from V2.out.1.b); have u0 : X2.cell? ⟨w.heap.size, 0, none⟩ = some (.int .i64 4) := rb 0; have u1 : X2.cell? ⟨w.heap.size, 1, none⟩ = some (.int .u8 0) := rb 1; have u2 : X2.cell? ⟨w.heap.size, 2, none⟩ = some (.int .u8 0) := rb 2; have u3 : X2.cell? ⟨w.heap.size, 3, none⟩ = some (.int .u8 0) := rb 3; have u4 : X2.cell? ⟨w.heap.size, 4, none⟩ = some (.int .i64 0) := rb 4; have u5 : X2.cell? ⟨w.heap.size, 5, none⟩ = some (.bool false) := rb 5; have u6 : X2.cell? ⟨w.heap.size, 6, none⟩ = some (.string ⟨#[]⟩) := rb 6; have u7 : X2.cell? ⟨w.heap.size, 7, none⟩ = some (.pointer T') := rb 7; have u8 : X2.cell? ⟨w.heap.size, 8, none⟩ = some (.int .i64 2) := rb 8; have v0 := jb 0; have v1 := jb 1; have v2 := jb 2; have v3 := jb 3; have v4 := jb 4; have v5 := jb 5; have v6 := jb 6; have v7 := jb 7; have v8 := jb 8; clear rb jb
  go_upto_region 7 with fail
  refine at_world (fun X' => Fm w ⟨4, ⟨0, 0, 0, 0⟩, false, ⟨#[]⟩, (b :: tx), 0⟩ T' X' ∧ Chain X' T' (b :: tx)) (fc_cl V2.out 0 _ (by rfl)) ?_
  clear u0 u1 u2 u3 u4 u5 u6 u7 u8 v0 v1 v2 v3 v4 v5 v6 v7 v8 yb V2
  intro X3 hX
  have V3 := Lib.hid hX
  clear hX
  obtain ⟨y1, k1, j1⟩ := (show _ from V3.out.1.b)
  obtain ⟨y6, r6, j6⟩ := (show _ from V3.out.1.r); have q0 : X3.cell? ⟨w.heap.size + 1, 0, none⟩ = some (.int .i64 0) := r6 0; have q1 : X3.cell? ⟨w.heap.size + 1, 1, none⟩ = some (.int .u8 0) := r6 1; have q2 : X3.cell? ⟨w.heap.size + 1, 2, none⟩ = some (.int .u8 0) := r6 2; have q3 : X3.cell? ⟨w.heap.size + 1, 3, none⟩ = some (.int .u8 0) := r6 3; have q4 : X3.cell? ⟨w.heap.size + 1, 4, none⟩ = some (.int .i64 0) := r6 4; have q5 : X3.cell? ⟨w.heap.size + 1, 5, none⟩ = some (.bool false) := r6 5; have q6 : X3.cell? ⟨w.heap.size + 1, 6, none⟩ = some (.string ⟨#[]⟩) := r6 6; have q7 : X3.cell? ⟨w.heap.size + 1, 7, none⟩ = some (.pointer none) := r6 7; have q8 : X3.cell? ⟨w.heap.size + 1, 8, none⟩ = some (.int .i64 0) := r6 8; have f0 := j6 0; have f1 := j6 1; have f2 := j6 2; have f3 := j6 3; have f4 := j6 4; have f5 := j6 5; have f6 := j6 6; have f7 := j6 7; have f8 := j6 8; clear r6 j6
  go_wp2_with fail
  refine at_world (FinP w ⟨4, ⟨0, 0, 0, 0⟩, false, ⟨#[]⟩, (b :: tx), 0⟩ T' (.slice none 0 0) 0 []) (fin_put (s := ⟨4, ⟨0, 0, 0, 0⟩, false, ⟨#[]⟩, (b :: tx), 0⟩) V3.out.1 (kyW_nil _) rfl V3.out.2) ?_
  rintro Z ⟨⟨y9, k9, j9⟩, hk, hn, hb, hc⟩
  have HZ := Lib.hid (And.intro hc (And.intro hk (And.intro hn hb)))
  have e0 := k9 0
  have e1 := k9 1
  have e2 := k9 2
  have e3 := k9 3
  have e4 := k9 4
  have e5 := k9 5
  have e6 := k9 6
  have e7 := k9 7
  have e8 := k9 8
  clear hc hk hn hb k9 j9 y9 q0 q1 q2 q3 q4 q5 q6 q7 q8 f0 f1 f2 f3 f4 f5 f6 f7 f8 y6 
  refine bodyPost_ret (v := .tuple #[psV ⟨4, ⟨0, 0, 0, 0⟩, false, ⟨#[]⟩, (b :: tx), 0⟩ T', .slice none 0 0]) (by simp at e0 e1 e2 e3 e4 e5 e6 e7 e8; simp [results, Try.results21, go_sem, e0, e1, e2, e3, e4, e5, e6, e7, e8]) rfl ⟨T', none, 0, 0, rfl, HZ.out.1, HZ.out.2.1, HZ.out.2.2.1, HZ.out.2.2.2⟩

set_option maxHeartbeats 4000000 in
theorem paste_3_eq (tx : List Int) (T : Option Addr) (w : World) (hc : Chain w T tx) : Calls Try.prog 21 #[psV ⟨4, ⟨0, 0, 0, 0⟩, false, ⟨#[]⟩, tx, 3⟩ T, .int .u8 48] w (Tells (⟨4, ⟨0, 0, 0, 0⟩, false, ⟨#[]⟩, (48 :: tx), 4⟩, []) w) := by
  have V0 := Lib.hid (fm_start w ⟨4, ⟨0, 0, 0, 0⟩, false, ⟨#[]⟩, tx, 3⟩ T)
  have HC := Lib.hid hc
  clear hc
  go_enter Try.func21, Try.ntmps21
  go_upto_region 1 with fail
  refine at_world (fun X => Fm w ⟨4, ⟨0, 0, 0, 0⟩, false, ⟨#[]⟩, tx, 3⟩ T X) V0.out ?_
  intro X hX
  have V1 := Lib.hid (And.intro hX ((HC.out).later hX.below))
  clear hX V0 HC
  have HY := Lib.hid (V1.out.1.later (belAlloc X (.cells #[.int .u8 48, .pointer T] 65)))
  have u7' : X.cell? ⟨w.heap.size, 7, none⟩ = some (.pointer T) := V1.out.1.b.2.1 7
  obtain ⟨yb, rb, jb⟩ := (show _ from HY.out.b); have u0 : (X.alloc (.cells #[.int .u8 48, .pointer T] 65)).cell? ⟨w.heap.size, 0, none⟩ = some (.int .i64 4) := rb 0; have u1 : (X.alloc (.cells #[.int .u8 48, .pointer T] 65)).cell? ⟨w.heap.size, 1, none⟩ = some (.int .u8 0) := rb 1; have u2 : (X.alloc (.cells #[.int .u8 48, .pointer T] 65)).cell? ⟨w.heap.size, 2, none⟩ = some (.int .u8 0) := rb 2; have u3 : (X.alloc (.cells #[.int .u8 48, .pointer T] 65)).cell? ⟨w.heap.size, 3, none⟩ = some (.int .u8 0) := rb 3; have u4 : (X.alloc (.cells #[.int .u8 48, .pointer T] 65)).cell? ⟨w.heap.size, 4, none⟩ = some (.int .i64 0) := rb 4; have u5 : (X.alloc (.cells #[.int .u8 48, .pointer T] 65)).cell? ⟨w.heap.size, 5, none⟩ = some (.bool false) := rb 5; have u6 : (X.alloc (.cells #[.int .u8 48, .pointer T] 65)).cell? ⟨w.heap.size, 6, none⟩ = some (.string ⟨#[]⟩) := rb 6; have u7 : (X.alloc (.cells #[.int .u8 48, .pointer T] 65)).cell? ⟨w.heap.size, 7, none⟩ = some (.pointer T) := rb 7; have u8 : (X.alloc (.cells #[.int .u8 48, .pointer T] 65)).cell? ⟨w.heap.size, 8, none⟩ = some (.int .i64 3) := rb 8; have v0 := jb 0; have v1 := jb 1; have v2 := jb 2; have v3 := jb 3; have v4 := jb 4; have v5 := jb 5; have v6 := jb 6; have v7 := jb 7; have v8 := jb 8; clear rb jb
  go_upto_region 3 with fail
  refine at_world (fun X' => Fm w ⟨4, ⟨0, 0, 0, 0⟩, false, ⟨#[]⟩, (48 :: tx), 3⟩ (some ⟨X.heap.size, 0, none⟩) X' ∧ Chain X' (some ⟨X.heap.size, 0, none⟩) (48 :: tx)) (fc_tx V1.out.1 V1.out.2 48 _) ?_
  clear u0 u1 u2 u3 u4 u5 u6 u7 u8 v0 v1 v2 v3 v4 v5 v6 v7 v8 yb u7' HY
  obtain ⟨T', hT'⟩ : ∃ T', (some ⟨X.heap.size, 0, none⟩ : Option Addr) = T' := ⟨_, rfl⟩
  rw [hT']
  clear hT' V1
  intro X2 hX
  have V2 := Lib.hid hX
  clear hX
  obtain ⟨yb, rb, jb⟩ := (show _ from V2.out.1.b); have u0 : X2.cell? ⟨w.heap.size, 0, none⟩ = some (.int .i64 4) := rb 0; have u1 : X2.cell? ⟨w.heap.size, 1, none⟩ = some (.int .u8 0) := rb 1; have u2 : X2.cell? ⟨w.heap.size, 2, none⟩ = some (.int .u8 0) := rb 2; have u3 : X2.cell? ⟨w.heap.size, 3, none⟩ = some (.int .u8 0) := rb 3; have u4 : X2.cell? ⟨w.heap.size, 4, none⟩ = some (.int .i64 0) := rb 4; have u5 : X2.cell? ⟨w.heap.size, 5, none⟩ = some (.bool false) := rb 5; have u6 : X2.cell? ⟨w.heap.size, 6, none⟩ = some (.string ⟨#[]⟩) := rb 6; have u7 : X2.cell? ⟨w.heap.size, 7, none⟩ = some (.pointer T') := rb 7; have u8 : X2.cell? ⟨w.heap.size, 8, none⟩ = some (.int .i64 3) := rb 8; have v0 := jb 0; have v1 := jb 1; have v2 := jb 2; have v3 := jb 3; have v4 := jb 4; have v5 := jb 5; have v6 := jb 6; have v7 := jb 7; have v8 := jb 8; clear rb jb
  go_upto_region 7 with fail
  refine at_world (fun X' => Fm w ⟨4, ⟨0, 0, 0, 0⟩, false, ⟨#[]⟩, (48 :: tx), 4⟩ T' X' ∧ Chain X' T' (48 :: tx)) (fc_cl V2.out 4 _ (by rfl)) ?_
  clear u0 u1 u2 u3 u4 u5 u6 u7 u8 v0 v1 v2 v3 v4 v5 v6 v7 v8 yb V2
  intro X3 hX
  have V3 := Lib.hid hX
  clear hX
  obtain ⟨y1, k1, j1⟩ := (show _ from V3.out.1.b)
  obtain ⟨y6, r6, j6⟩ := (show _ from V3.out.1.r); have q0 : X3.cell? ⟨w.heap.size + 1, 0, none⟩ = some (.int .i64 0) := r6 0; have q1 : X3.cell? ⟨w.heap.size + 1, 1, none⟩ = some (.int .u8 0) := r6 1; have q2 : X3.cell? ⟨w.heap.size + 1, 2, none⟩ = some (.int .u8 0) := r6 2; have q3 : X3.cell? ⟨w.heap.size + 1, 3, none⟩ = some (.int .u8 0) := r6 3; have q4 : X3.cell? ⟨w.heap.size + 1, 4, none⟩ = some (.int .i64 0) := r6 4; have q5 : X3.cell? ⟨w.heap.size + 1, 5, none⟩ = some (.bool false) := r6 5; have q6 : X3.cell? ⟨w.heap.size + 1, 6, none⟩ = some (.string ⟨#[]⟩) := r6 6; have q7 : X3.cell? ⟨w.heap.size + 1, 7, none⟩ = some (.pointer none) := r6 7; have q8 : X3.cell? ⟨w.heap.size + 1, 8, none⟩ = some (.int .i64 0) := r6 8; have f0 := j6 0; have f1 := j6 1; have f2 := j6 2; have f3 := j6 3; have f4 := j6 4; have f5 := j6 5; have f6 := j6 6; have f7 := j6 7; have f8 := j6 8; clear r6 j6
  go_wp2_with fail
  refine at_world (FinP w ⟨4, ⟨0, 0, 0, 0⟩, false, ⟨#[]⟩, (48 :: tx), 4⟩ T' (.slice none 0 0) 0 []) (fin_put (s := ⟨4, ⟨0, 0, 0, 0⟩, false, ⟨#[]⟩, (48 :: tx), 4⟩) V3.out.1 (kyW_nil _) rfl V3.out.2) ?_
  rintro Z ⟨⟨y9, k9, j9⟩, hk, hn, hb, hc⟩
  have HZ := Lib.hid (And.intro hc (And.intro hk (And.intro hn hb)))
  have e0 := k9 0
  have e1 := k9 1
  have e2 := k9 2
  have e3 := k9 3
  have e4 := k9 4
  have e5 := k9 5
  have e6 := k9 6
  have e7 := k9 7
  have e8 := k9 8
  clear hc hk hn hb k9 j9 y9 q0 q1 q2 q3 q4 q5 q6 q7 q8 f0 f1 f2 f3 f4 f5 f6 f7 f8 y6 
  refine bodyPost_ret (v := .tuple #[psV ⟨4, ⟨0, 0, 0, 0⟩, false, ⟨#[]⟩, (48 :: tx), 4⟩ T', .slice none 0 0]) (by simp at e0 e1 e2 e3 e4 e5 e6 e7 e8; simp [results, Try.results21, go_sem, e0, e1, e2, e3, e4, e5, e6, e7, e8]) rfl ⟨T', none, 0, 0, rfl, HZ.out.1, HZ.out.2.1, HZ.out.2.2.1, HZ.out.2.2.2⟩

set_option maxHeartbeats 4000000 in
theorem paste_3_esc (tx : List Int) (T : Option Addr) (w : World) (hc : Chain w T tx) : Calls Try.prog 21 #[psV ⟨4, ⟨0, 0, 0, 0⟩, false, ⟨#[]⟩, tx, 3⟩ T, .int .u8 27] w (Tells (⟨4, ⟨0, 0, 0, 0⟩, false, ⟨#[]⟩, (27 :: tx), 1⟩, []) w) := by
  have V0 := Lib.hid (fm_start w ⟨4, ⟨0, 0, 0, 0⟩, false, ⟨#[]⟩, tx, 3⟩ T)
  have HC := Lib.hid hc
  clear hc
  go_enter Try.func21, Try.ntmps21
  go_upto_region 1 with fail
  refine at_world (fun X => Fm w ⟨4, ⟨0, 0, 0, 0⟩, false, ⟨#[]⟩, tx, 3⟩ T X) V0.out ?_
  intro X hX
  have V1 := Lib.hid (And.intro hX ((HC.out).later hX.below))
  clear hX V0 HC
  have HY := Lib.hid (V1.out.1.later (belAlloc X (.cells #[.int .u8 27, .pointer T] 65)))
  have u7' : X.cell? ⟨w.heap.size, 7, none⟩ = some (.pointer T) := V1.out.1.b.2.1 7
  obtain ⟨yb, rb, jb⟩ := (show _ from HY.out.b); have u0 : (X.alloc (.cells #[.int .u8 27, .pointer T] 65)).cell? ⟨w.heap.size, 0, none⟩ = some (.int .i64 4) := rb 0; have u1 : (X.alloc (.cells #[.int .u8 27, .pointer T] 65)).cell? ⟨w.heap.size, 1, none⟩ = some (.int .u8 0) := rb 1; have u2 : (X.alloc (.cells #[.int .u8 27, .pointer T] 65)).cell? ⟨w.heap.size, 2, none⟩ = some (.int .u8 0) := rb 2; have u3 : (X.alloc (.cells #[.int .u8 27, .pointer T] 65)).cell? ⟨w.heap.size, 3, none⟩ = some (.int .u8 0) := rb 3; have u4 : (X.alloc (.cells #[.int .u8 27, .pointer T] 65)).cell? ⟨w.heap.size, 4, none⟩ = some (.int .i64 0) := rb 4; have u5 : (X.alloc (.cells #[.int .u8 27, .pointer T] 65)).cell? ⟨w.heap.size, 5, none⟩ = some (.bool false) := rb 5; have u6 : (X.alloc (.cells #[.int .u8 27, .pointer T] 65)).cell? ⟨w.heap.size, 6, none⟩ = some (.string ⟨#[]⟩) := rb 6; have u7 : (X.alloc (.cells #[.int .u8 27, .pointer T] 65)).cell? ⟨w.heap.size, 7, none⟩ = some (.pointer T) := rb 7; have u8 : (X.alloc (.cells #[.int .u8 27, .pointer T] 65)).cell? ⟨w.heap.size, 8, none⟩ = some (.int .i64 3) := rb 8; have v0 := jb 0; have v1 := jb 1; have v2 := jb 2; have v3 := jb 3; have v4 := jb 4; have v5 := jb 5; have v6 := jb 6; have v7 := jb 7; have v8 := jb 8; clear rb jb
  go_upto_region 3 with fail
  refine at_world (fun X' => Fm w ⟨4, ⟨0, 0, 0, 0⟩, false, ⟨#[]⟩, (27 :: tx), 3⟩ (some ⟨X.heap.size, 0, none⟩) X' ∧ Chain X' (some ⟨X.heap.size, 0, none⟩) (27 :: tx)) (fc_tx V1.out.1 V1.out.2 27 _) ?_
  clear u0 u1 u2 u3 u4 u5 u6 u7 u8 v0 v1 v2 v3 v4 v5 v6 v7 v8 yb u7' HY
  obtain ⟨T', hT'⟩ : ∃ T', (some ⟨X.heap.size, 0, none⟩ : Option Addr) = T' := ⟨_, rfl⟩
  rw [hT']
  clear hT' V1
  intro X2 hX
  have V2 := Lib.hid hX
  clear hX
  obtain ⟨yb, rb, jb⟩ := (show _ from V2.out.1.b); have u0 : X2.cell? ⟨w.heap.size, 0, none⟩ = some (.int .i64 4) := rb 0; have u1 : X2.cell? ⟨w.heap.size, 1, none⟩ = some (.int .u8 0) := rb 1; have u2 : X2.cell? ⟨w.heap.size, 2, none⟩ = some (.int .u8 0) := rb 2; have u3 : X2.cell? ⟨w.heap.size, 3, none⟩ = some (.int .u8 0) := rb 3; have u4 : X2.cell? ⟨w.heap.size, 4, none⟩ = some (.int .i64 0) := rb 4; have u5 : X2.cell? ⟨w.heap.size, 5, none⟩ = some (.bool false) := rb 5; have u6 : X2.cell? ⟨w.heap.size, 6, none⟩ = some (.string ⟨#[]⟩) := rb 6; have u7 : X2.cell? ⟨w.heap.size, 7, none⟩ = some (.pointer T') := rb 7; have u8 : X2.cell? ⟨w.heap.size, 8, none⟩ = some (.int .i64 3) := rb 8; have v0 := jb 0; have v1 := jb 1; have v2 := jb 2; have v3 := jb 3; have v4 := jb 4; have v5 := jb 5; have v6 := jb 6; have v7 := jb 7; have v8 := jb 8; clear rb jb
  go_upto_region 7 with fail
  refine at_world (fun X' => Fm w ⟨4, ⟨0, 0, 0, 0⟩, false, ⟨#[]⟩, (27 :: tx), 1⟩ T' X' ∧ Chain X' T' (27 :: tx)) (fc_cl V2.out 1 _ (by rfl)) ?_
  clear u0 u1 u2 u3 u4 u5 u6 u7 u8 v0 v1 v2 v3 v4 v5 v6 v7 v8 yb V2
  intro X3 hX
  have V3 := Lib.hid hX
  clear hX
  obtain ⟨y1, k1, j1⟩ := (show _ from V3.out.1.b)
  obtain ⟨y6, r6, j6⟩ := (show _ from V3.out.1.r); have q0 : X3.cell? ⟨w.heap.size + 1, 0, none⟩ = some (.int .i64 0) := r6 0; have q1 : X3.cell? ⟨w.heap.size + 1, 1, none⟩ = some (.int .u8 0) := r6 1; have q2 : X3.cell? ⟨w.heap.size + 1, 2, none⟩ = some (.int .u8 0) := r6 2; have q3 : X3.cell? ⟨w.heap.size + 1, 3, none⟩ = some (.int .u8 0) := r6 3; have q4 : X3.cell? ⟨w.heap.size + 1, 4, none⟩ = some (.int .i64 0) := r6 4; have q5 : X3.cell? ⟨w.heap.size + 1, 5, none⟩ = some (.bool false) := r6 5; have q6 : X3.cell? ⟨w.heap.size + 1, 6, none⟩ = some (.string ⟨#[]⟩) := r6 6; have q7 : X3.cell? ⟨w.heap.size + 1, 7, none⟩ = some (.pointer none) := r6 7; have q8 : X3.cell? ⟨w.heap.size + 1, 8, none⟩ = some (.int .i64 0) := r6 8; have f0 := j6 0; have f1 := j6 1; have f2 := j6 2; have f3 := j6 3; have f4 := j6 4; have f5 := j6 5; have f6 := j6 6; have f7 := j6 7; have f8 := j6 8; clear r6 j6
  go_wp2_with fail
  refine at_world (FinP w ⟨4, ⟨0, 0, 0, 0⟩, false, ⟨#[]⟩, (27 :: tx), 1⟩ T' (.slice none 0 0) 0 []) (fin_put (s := ⟨4, ⟨0, 0, 0, 0⟩, false, ⟨#[]⟩, (27 :: tx), 1⟩) V3.out.1 (kyW_nil _) rfl V3.out.2) ?_
  rintro Z ⟨⟨y9, k9, j9⟩, hk, hn, hb, hc⟩
  have HZ := Lib.hid (And.intro hc (And.intro hk (And.intro hn hb)))
  have e0 := k9 0
  have e1 := k9 1
  have e2 := k9 2
  have e3 := k9 3
  have e4 := k9 4
  have e5 := k9 5
  have e6 := k9 6
  have e7 := k9 7
  have e8 := k9 8
  clear hc hk hn hb k9 j9 y9 q0 q1 q2 q3 q4 q5 q6 q7 q8 f0 f1 f2 f3 f4 f5 f6 f7 f8 y6 
  refine bodyPost_ret (v := .tuple #[psV ⟨4, ⟨0, 0, 0, 0⟩, false, ⟨#[]⟩, (27 :: tx), 1⟩ T', .slice none 0 0]) (by simp at e0 e1 e2 e3 e4 e5 e6 e7 e8; simp [results, Try.results21, go_sem, e0, e1, e2, e3, e4, e5, e6, e7, e8]) rfl ⟨T', none, 0, 0, rfl, HZ.out.1, HZ.out.2.1, HZ.out.2.2.1, HZ.out.2.2.2⟩

set_option maxHeartbeats 4000000 in
theorem paste_3_no (tx : List Int) (T : Option Addr) (b : Int) (n1 : (b == 48) = false) (n2 : (b == 27) = false) (w : World) (hc : Chain w T tx) : Calls Try.prog 21 #[psV ⟨4, ⟨0, 0, 0, 0⟩, false, ⟨#[]⟩, tx, 3⟩ T, .int .u8 b] w (Tells (⟨4, ⟨0, 0, 0, 0⟩, false, ⟨#[]⟩, (b :: tx), 0⟩, []) w) := by
  have m1 : (b == (((⟨#[27, 91, 50, 48, 49, 126]⟩ : ByteArray)[3]'(by decide)).toNat : Int)) = false := n1
  have m2 : (b == (((⟨#[27, 91, 50, 48, 49, 126]⟩ : ByteArray)[0]'(by decide)).toNat : Int)) = false := n2
  have V0 := Lib.hid (fm_start w ⟨4, ⟨0, 0, 0, 0⟩, false, ⟨#[]⟩, tx, 3⟩ T)
  have HC := Lib.hid hc
  clear hc
  go_enter Try.func21, Try.ntmps21
  go_upto_region 1 with fail
  refine at_world (fun X => Fm w ⟨4, ⟨0, 0, 0, 0⟩, false, ⟨#[]⟩, tx, 3⟩ T X) V0.out ?_
  intro X hX
  have V1 := Lib.hid (And.intro hX ((HC.out).later hX.below))
  clear hX V0 HC
  have HY := Lib.hid (V1.out.1.later (belAlloc X (.cells #[.int .u8 b, .pointer T] 65)))
  have u7' : X.cell? ⟨w.heap.size, 7, none⟩ = some (.pointer T) := V1.out.1.b.2.1 7
  obtain ⟨yb, rb, jb⟩ := (show _ from HY.out.b); have u0 : (X.alloc (.cells #[.int .u8 b, .pointer T] 65)).cell? ⟨w.heap.size, 0, none⟩ = some (.int .i64 4) := rb 0; have u1 : (X.alloc (.cells #[.int .u8 b, .pointer T] 65)).cell? ⟨w.heap.size, 1, none⟩ = some (.int .u8 0) := rb 1; have u2 : (X.alloc (.cells #[.int .u8 b, .pointer T] 65)).cell? ⟨w.heap.size, 2, none⟩ = some (.int .u8 0) := rb 2; have u3 : (X.alloc (.cells #[.int .u8 b, .pointer T] 65)).cell? ⟨w.heap.size, 3, none⟩ = some (.int .u8 0) := rb 3; have u4 : (X.alloc (.cells #[.int .u8 b, .pointer T] 65)).cell? ⟨w.heap.size, 4, none⟩ = some (.int .i64 0) := rb 4; have u5 : (X.alloc (.cells #[.int .u8 b, .pointer T] 65)).cell? ⟨w.heap.size, 5, none⟩ = some (.bool false) := rb 5; have u6 : (X.alloc (.cells #[.int .u8 b, .pointer T] 65)).cell? ⟨w.heap.size, 6, none⟩ = some (.string ⟨#[]⟩) := rb 6; have u7 : (X.alloc (.cells #[.int .u8 b, .pointer T] 65)).cell? ⟨w.heap.size, 7, none⟩ = some (.pointer T) := rb 7; have u8 : (X.alloc (.cells #[.int .u8 b, .pointer T] 65)).cell? ⟨w.heap.size, 8, none⟩ = some (.int .i64 3) := rb 8; have v0 := jb 0; have v1 := jb 1; have v2 := jb 2; have v3 := jb 3; have v4 := jb 4; have v5 := jb 5; have v6 := jb 6; have v7 := jb 7; have v8 := jb 8; clear rb jb
  go_upto_region 3 with fail
  refine at_world (fun X' => Fm w ⟨4, ⟨0, 0, 0, 0⟩, false, ⟨#[]⟩, (b :: tx), 3⟩ (some ⟨X.heap.size, 0, none⟩) X' ∧ Chain X' (some ⟨X.heap.size, 0, none⟩) (b :: tx)) (fc_tx V1.out.1 V1.out.2 b _) ?_
  clear u0 u1 u2 u3 u4 u5 u6 u7 u8 v0 v1 v2 v3 v4 v5 v6 v7 v8 yb u7' HY
  obtain ⟨T', hT'⟩ : ∃ T', (some ⟨X.heap.size, 0, none⟩ : Option Addr) = T' := ⟨_, rfl⟩
  rw [hT']
  clear hT' V1
  intro X2 hX
  have V2 := Lib.hid hX
  clear hX
  obtain ⟨yb, rb, jb⟩ := (show _ from V2.out.1.b); have u0 : X2.cell? ⟨w.heap.size, 0, none⟩ = some (.int .i64 4) := rb 0; have u1 : X2.cell? ⟨w.heap.size, 1, none⟩ = some (.int .u8 0) := rb 1; have u2 : X2.cell? ⟨w.heap.size, 2, none⟩ = some (.int .u8 0) := rb 2; have u3 : X2.cell? ⟨w.heap.size, 3, none⟩ = some (.int .u8 0) := rb 3; have u4 : X2.cell? ⟨w.heap.size, 4, none⟩ = some (.int .i64 0) := rb 4; have u5 : X2.cell? ⟨w.heap.size, 5, none⟩ = some (.bool false) := rb 5; have u6 : X2.cell? ⟨w.heap.size, 6, none⟩ = some (.string ⟨#[]⟩) := rb 6; have u7 : X2.cell? ⟨w.heap.size, 7, none⟩ = some (.pointer T') := rb 7; have u8 : X2.cell? ⟨w.heap.size, 8, none⟩ = some (.int .i64 3) := rb 8; have v0 := jb 0; have v1 := jb 1; have v2 := jb 2; have v3 := jb 3; have v4 := jb 4; have v5 := jb 5; have v6 := jb 6; have v7 := jb 7; have v8 := jb 8; clear rb jb
  go_upto_region 7 with fail
  refine at_world (fun X' => Fm w ⟨4, ⟨0, 0, 0, 0⟩, false, ⟨#[]⟩, (b :: tx), 0⟩ T' X' ∧ Chain X' T' (b :: tx)) (fc_cl V2.out 0 _ (by rfl)) ?_
  clear u0 u1 u2 u3 u4 u5 u6 u7 u8 v0 v1 v2 v3 v4 v5 v6 v7 v8 yb V2
  intro X3 hX
  have V3 := Lib.hid hX
  clear hX
  obtain ⟨y1, k1, j1⟩ := (show _ from V3.out.1.b)
  obtain ⟨y6, r6, j6⟩ := (show _ from V3.out.1.r); have q0 : X3.cell? ⟨w.heap.size + 1, 0, none⟩ = some (.int .i64 0) := r6 0; have q1 : X3.cell? ⟨w.heap.size + 1, 1, none⟩ = some (.int .u8 0) := r6 1; have q2 : X3.cell? ⟨w.heap.size + 1, 2, none⟩ = some (.int .u8 0) := r6 2; have q3 : X3.cell? ⟨w.heap.size + 1, 3, none⟩ = some (.int .u8 0) := r6 3; have q4 : X3.cell? ⟨w.heap.size + 1, 4, none⟩ = some (.int .i64 0) := r6 4; have q5 : X3.cell? ⟨w.heap.size + 1, 5, none⟩ = some (.bool false) := r6 5; have q6 : X3.cell? ⟨w.heap.size + 1, 6, none⟩ = some (.string ⟨#[]⟩) := r6 6; have q7 : X3.cell? ⟨w.heap.size + 1, 7, none⟩ = some (.pointer none) := r6 7; have q8 : X3.cell? ⟨w.heap.size + 1, 8, none⟩ = some (.int .i64 0) := r6 8; have f0 := j6 0; have f1 := j6 1; have f2 := j6 2; have f3 := j6 3; have f4 := j6 4; have f5 := j6 5; have f6 := j6 6; have f7 := j6 7; have f8 := j6 8; clear r6 j6
  go_wp2_with fail
  refine at_world (FinP w ⟨4, ⟨0, 0, 0, 0⟩, false, ⟨#[]⟩, (b :: tx), 0⟩ T' (.slice none 0 0) 0 []) (fin_put (s := ⟨4, ⟨0, 0, 0, 0⟩, false, ⟨#[]⟩, (b :: tx), 0⟩) V3.out.1 (kyW_nil _) rfl V3.out.2) ?_
  rintro Z ⟨⟨y9, k9, j9⟩, hk, hn, hb, hc⟩
  have HZ := Lib.hid (And.intro hc (And.intro hk (And.intro hn hb)))
  have e0 := k9 0
  have e1 := k9 1
  have e2 := k9 2
  have e3 := k9 3
  have e4 := k9 4
  have e5 := k9 5
  have e6 := k9 6
  have e7 := k9 7
  have e8 := k9 8
  clear hc hk hn hb k9 j9 y9 q0 q1 q2 q3 q4 q5 q6 q7 q8 f0 f1 f2 f3 f4 f5 f6 f7 f8 y6 
  refine bodyPost_ret (v := .tuple #[psV ⟨4, ⟨0, 0, 0, 0⟩, false, ⟨#[]⟩, (b :: tx), 0⟩ T', .slice none 0 0]) (by simp at e0 e1 e2 e3 e4 e5 e6 e7 e8; simp [results, Try.results21, go_sem, e0, e1, e2, e3, e4, e5, e6, e7, e8]) rfl ⟨T', none, 0, 0, rfl, HZ.out.1, HZ.out.2.1, HZ.out.2.2.1, HZ.out.2.2.2⟩

set_option maxHeartbeats 4000000 in
theorem paste_4_eq (tx : List Int) (T : Option Addr) (w : World) (hc : Chain w T tx) : Calls Try.prog 21 #[psV ⟨4, ⟨0, 0, 0, 0⟩, false, ⟨#[]⟩, tx, 4⟩ T, .int .u8 49] w (Tells (⟨4, ⟨0, 0, 0, 0⟩, false, ⟨#[]⟩, (49 :: tx), 5⟩, []) w) := by
  have V0 := Lib.hid (fm_start w ⟨4, ⟨0, 0, 0, 0⟩, false, ⟨#[]⟩, tx, 4⟩ T)
  have HC := Lib.hid hc
  clear hc
  go_enter Try.func21, Try.ntmps21
  go_upto_region 1 with fail
  refine at_world (fun X => Fm w ⟨4, ⟨0, 0, 0, 0⟩, false, ⟨#[]⟩, tx, 4⟩ T X) V0.out ?_
  intro X hX
  have V1 := Lib.hid (And.intro hX ((HC.out).later hX.below))
  clear hX V0 HC
  have HY := Lib.hid (V1.out.1.later (belAlloc X (.cells #[.int .u8 49, .pointer T] 65)))
  have u7' : X.cell? ⟨w.heap.size, 7, none⟩ = some (.pointer T) := V1.out.1.b.2.1 7
  obtain ⟨yb, rb, jb⟩ := (show _ from HY.out.b); have u0 : (X.alloc (.cells #[.int .u8 49, .pointer T] 65)).cell? ⟨w.heap.size, 0, none⟩ = some (.int .i64 4) := rb 0; have u1 : (X.alloc (.cells #[.int .u8 49, .pointer T] 65)).cell? ⟨w.heap.size, 1, none⟩ = some (.int .u8 0) := rb 1; have u2 : (X.alloc (.cells #[.int .u8 49, .pointer T] 65)).cell? ⟨w.heap.size, 2, none⟩ = some (.int .u8 0) := rb 2; have u3 : (X.alloc (.cells #[.int .u8 49, .pointer T] 65)).cell? ⟨w.heap.size, 3, none⟩ = some (.int .u8 0) := rb 3; have u4 : (X.alloc (.cells #[.int .u8 49, .pointer T] 65)).cell? ⟨w.heap.size, 4, none⟩ = some (.int .i64 0) := rb 4; have u5 : (X.alloc (.cells #[.int .u8 49, .pointer T] 65)).cell? ⟨w.heap.size, 5, none⟩ = some (.bool false) := rb 5; have u6 : (X.alloc (.cells #[.int .u8 49, .pointer T] 65)).cell? ⟨w.heap.size, 6, none⟩ = some (.string ⟨#[]⟩) := rb 6; have u7 : (X.alloc (.cells #[.int .u8 49, .pointer T] 65)).cell? ⟨w.heap.size, 7, none⟩ = some (.pointer T) := rb 7; have u8 : (X.alloc (.cells #[.int .u8 49, .pointer T] 65)).cell? ⟨w.heap.size, 8, none⟩ = some (.int .i64 4) := rb 8; have v0 := jb 0; have v1 := jb 1; have v2 := jb 2; have v3 := jb 3; have v4 := jb 4; have v5 := jb 5; have v6 := jb 6; have v7 := jb 7; have v8 := jb 8; clear rb jb
  go_upto_region 3 with fail
  refine at_world (fun X' => Fm w ⟨4, ⟨0, 0, 0, 0⟩, false, ⟨#[]⟩, (49 :: tx), 4⟩ (some ⟨X.heap.size, 0, none⟩) X' ∧ Chain X' (some ⟨X.heap.size, 0, none⟩) (49 :: tx)) (fc_tx V1.out.1 V1.out.2 49 _) ?_
  clear u0 u1 u2 u3 u4 u5 u6 u7 u8 v0 v1 v2 v3 v4 v5 v6 v7 v8 yb u7' HY
  obtain ⟨T', hT'⟩ : ∃ T', (some ⟨X.heap.size, 0, none⟩ : Option Addr) = T' := ⟨_, rfl⟩
  rw [hT']
  clear hT' V1
  intro X2 hX
  have V2 := Lib.hid hX
  clear hX
  obtain ⟨yb, rb, jb⟩ := (show _ from V2.out.1.b); have u0 : X2.cell? ⟨w.heap.size, 0, none⟩ = some (.int .i64 4) := rb 0; have u1 : X2.cell? ⟨w.heap.size, 1, none⟩ = some (.int .u8 0) := rb 1; have u2 : X2.cell? ⟨w.heap.size, 2, none⟩ = some (.int .u8 0) := rb 2; have u3 : X2.cell? ⟨w.heap.size, 3, none⟩ = some (.int .u8 0) := rb 3; have u4 : X2.cell? ⟨w.heap.size, 4, none⟩ = some (.int .i64 0) := rb 4; have u5 : X2.cell? ⟨w.heap.size, 5, none⟩ = some (.bool false) := rb 5; have u6 : X2.cell? ⟨w.heap.size, 6, none⟩ = some (.string ⟨#[]⟩) := rb 6; have u7 : X2.cell? ⟨w.heap.size, 7, none⟩ = some (.pointer T') := rb 7; have u8 : X2.cell? ⟨w.heap.size, 8, none⟩ = some (.int .i64 4) := rb 8; have v0 := jb 0; have v1 := jb 1; have v2 := jb 2; have v3 := jb 3; have v4 := jb 4; have v5 := jb 5; have v6 := jb 6; have v7 := jb 7; have v8 := jb 8; clear rb jb
  go_upto_region 7 with fail
  refine at_world (fun X' => Fm w ⟨4, ⟨0, 0, 0, 0⟩, false, ⟨#[]⟩, (49 :: tx), 5⟩ T' X' ∧ Chain X' T' (49 :: tx)) (fc_cl V2.out 5 _ (by rfl)) ?_
  clear u0 u1 u2 u3 u4 u5 u6 u7 u8 v0 v1 v2 v3 v4 v5 v6 v7 v8 yb V2
  intro X3 hX
  have V3 := Lib.hid hX
  clear hX
  obtain ⟨y1, k1, j1⟩ := (show _ from V3.out.1.b)
  obtain ⟨y6, r6, j6⟩ := (show _ from V3.out.1.r); have q0 : X3.cell? ⟨w.heap.size + 1, 0, none⟩ = some (.int .i64 0) := r6 0; have q1 : X3.cell? ⟨w.heap.size + 1, 1, none⟩ = some (.int .u8 0) := r6 1; have q2 : X3.cell? ⟨w.heap.size + 1, 2, none⟩ = some (.int .u8 0) := r6 2; have q3 : X3.cell? ⟨w.heap.size + 1, 3, none⟩ = some (.int .u8 0) := r6 3; have q4 : X3.cell? ⟨w.heap.size + 1, 4, none⟩ = some (.int .i64 0) := r6 4; have q5 : X3.cell? ⟨w.heap.size + 1, 5, none⟩ = some (.bool false) := r6 5; have q6 : X3.cell? ⟨w.heap.size + 1, 6, none⟩ = some (.string ⟨#[]⟩) := r6 6; have q7 : X3.cell? ⟨w.heap.size + 1, 7, none⟩ = some (.pointer none) := r6 7; have q8 : X3.cell? ⟨w.heap.size + 1, 8, none⟩ = some (.int .i64 0) := r6 8; have f0 := j6 0; have f1 := j6 1; have f2 := j6 2; have f3 := j6 3; have f4 := j6 4; have f5 := j6 5; have f6 := j6 6; have f7 := j6 7; have f8 := j6 8; clear r6 j6
  go_wp2_with fail
  refine at_world (FinP w ⟨4, ⟨0, 0, 0, 0⟩, false, ⟨#[]⟩, (49 :: tx), 5⟩ T' (.slice none 0 0) 0 []) (fin_put (s := ⟨4, ⟨0, 0, 0, 0⟩, false, ⟨#[]⟩, (49 :: tx), 5⟩) V3.out.1 (kyW_nil _) rfl V3.out.2) ?_
  rintro Z ⟨⟨y9, k9, j9⟩, hk, hn, hb, hc⟩
  have HZ := Lib.hid (And.intro hc (And.intro hk (And.intro hn hb)))
  have e0 := k9 0
  have e1 := k9 1
  have e2 := k9 2
  have e3 := k9 3
  have e4 := k9 4
  have e5 := k9 5
  have e6 := k9 6
  have e7 := k9 7
  have e8 := k9 8
  clear hc hk hn hb k9 j9 y9 q0 q1 q2 q3 q4 q5 q6 q7 q8 f0 f1 f2 f3 f4 f5 f6 f7 f8 y6 
  refine bodyPost_ret (v := .tuple #[psV ⟨4, ⟨0, 0, 0, 0⟩, false, ⟨#[]⟩, (49 :: tx), 5⟩ T', .slice none 0 0]) (by simp at e0 e1 e2 e3 e4 e5 e6 e7 e8; simp [results, Try.results21, go_sem, e0, e1, e2, e3, e4, e5, e6, e7, e8]) rfl ⟨T', none, 0, 0, rfl, HZ.out.1, HZ.out.2.1, HZ.out.2.2.1, HZ.out.2.2.2⟩

set_option maxHeartbeats 4000000 in
theorem paste_4_esc (tx : List Int) (T : Option Addr) (w : World) (hc : Chain w T tx) : Calls Try.prog 21 #[psV ⟨4, ⟨0, 0, 0, 0⟩, false, ⟨#[]⟩, tx, 4⟩ T, .int .u8 27] w (Tells (⟨4, ⟨0, 0, 0, 0⟩, false, ⟨#[]⟩, (27 :: tx), 1⟩, []) w) := by
  have V0 := Lib.hid (fm_start w ⟨4, ⟨0, 0, 0, 0⟩, false, ⟨#[]⟩, tx, 4⟩ T)
  have HC := Lib.hid hc
  clear hc
  go_enter Try.func21, Try.ntmps21
  go_upto_region 1 with fail
  refine at_world (fun X => Fm w ⟨4, ⟨0, 0, 0, 0⟩, false, ⟨#[]⟩, tx, 4⟩ T X) V0.out ?_
  intro X hX
  have V1 := Lib.hid (And.intro hX ((HC.out).later hX.below))
  clear hX V0 HC
  have HY := Lib.hid (V1.out.1.later (belAlloc X (.cells #[.int .u8 27, .pointer T] 65)))
  have u7' : X.cell? ⟨w.heap.size, 7, none⟩ = some (.pointer T) := V1.out.1.b.2.1 7
  obtain ⟨yb, rb, jb⟩ := (show _ from HY.out.b); have u0 : (X.alloc (.cells #[.int .u8 27, .pointer T] 65)).cell? ⟨w.heap.size, 0, none⟩ = some (.int .i64 4) := rb 0; have u1 : (X.alloc (.cells #[.int .u8 27, .pointer T] 65)).cell? ⟨w.heap.size, 1, none⟩ = some (.int .u8 0) := rb 1; have u2 : (X.alloc (.cells #[.int .u8 27, .pointer T] 65)).cell? ⟨w.heap.size, 2, none⟩ = some (.int .u8 0) := rb 2; have u3 : (X.alloc (.cells #[.int .u8 27, .pointer T] 65)).cell? ⟨w.heap.size, 3, none⟩ = some (.int .u8 0) := rb 3; have u4 : (X.alloc (.cells #[.int .u8 27, .pointer T] 65)).cell? ⟨w.heap.size, 4, none⟩ = some (.int .i64 0) := rb 4; have u5 : (X.alloc (.cells #[.int .u8 27, .pointer T] 65)).cell? ⟨w.heap.size, 5, none⟩ = some (.bool false) := rb 5; have u6 : (X.alloc (.cells #[.int .u8 27, .pointer T] 65)).cell? ⟨w.heap.size, 6, none⟩ = some (.string ⟨#[]⟩) := rb 6; have u7 : (X.alloc (.cells #[.int .u8 27, .pointer T] 65)).cell? ⟨w.heap.size, 7, none⟩ = some (.pointer T) := rb 7; have u8 : (X.alloc (.cells #[.int .u8 27, .pointer T] 65)).cell? ⟨w.heap.size, 8, none⟩ = some (.int .i64 4) := rb 8; have v0 := jb 0; have v1 := jb 1; have v2 := jb 2; have v3 := jb 3; have v4 := jb 4; have v5 := jb 5; have v6 := jb 6; have v7 := jb 7; have v8 := jb 8; clear rb jb
  go_upto_region 3 with fail
  refine at_world (fun X' => Fm w ⟨4, ⟨0, 0, 0, 0⟩, false, ⟨#[]⟩, (27 :: tx), 4⟩ (some ⟨X.heap.size, 0, none⟩) X' ∧ Chain X' (some ⟨X.heap.size, 0, none⟩) (27 :: tx)) (fc_tx V1.out.1 V1.out.2 27 _) ?_
  clear u0 u1 u2 u3 u4 u5 u6 u7 u8 v0 v1 v2 v3 v4 v5 v6 v7 v8 yb u7' HY
  obtain ⟨T', hT'⟩ : ∃ T', (some ⟨X.heap.size, 0, none⟩ : Option Addr) = T' := ⟨_, rfl⟩
  rw [hT']
  clear hT' V1
  intro X2 hX
  have V2 := Lib.hid hX
  clear hX
  obtain ⟨yb, rb, jb⟩ := (show _ from V2.out.1.b); have u0 : X2.cell? ⟨w.heap.size, 0, none⟩ = some (.int .i64 4) := rb 0; have u1 : X2.cell? ⟨w.heap.size, 1, none⟩ = some (.int .u8 0) := rb 1; have u2 : X2.cell? ⟨w.heap.size, 2, none⟩ = some (.int .u8 0) := rb 2; have u3 : X2.cell? ⟨w.heap.size, 3, none⟩ = some (.int .u8 0) := rb 3; have u4 : X2.cell? ⟨w.heap.size, 4, none⟩ = some (.int .i64 0) := rb 4; have u5 : X2.cell? ⟨w.heap.size, 5, none⟩ = some (.bool false) := rb 5; have u6 : X2.cell? ⟨w.heap.size, 6, none⟩ = some (.string ⟨#[]⟩) := rb 6; have u7 : X2.cell? ⟨w.heap.size, 7, none⟩ = some (.pointer T') := rb 7; have u8 : X2.cell? ⟨w.heap.size, 8, none⟩ = some (.int .i64 4) := rb 8; have v0 := jb 0; have v1 := jb 1; have v2 := jb 2; have v3 := jb 3; have v4 := jb 4; have v5 := jb 5; have v6 := jb 6; have v7 := jb 7; have v8 := jb 8; clear rb jb
  go_upto_region 7 with fail
  refine at_world (fun X' => Fm w ⟨4, ⟨0, 0, 0, 0⟩, false, ⟨#[]⟩, (27 :: tx), 1⟩ T' X' ∧ Chain X' T' (27 :: tx)) (fc_cl V2.out 1 _ (by rfl)) ?_
  clear u0 u1 u2 u3 u4 u5 u6 u7 u8 v0 v1 v2 v3 v4 v5 v6 v7 v8 yb V2
  intro X3 hX
  have V3 := Lib.hid hX
  clear hX
  obtain ⟨y1, k1, j1⟩ := (show _ from V3.out.1.b)
  obtain ⟨y6, r6, j6⟩ := (show _ from V3.out.1.r); have q0 : X3.cell? ⟨w.heap.size + 1, 0, none⟩ = some (.int .i64 0) := r6 0; have q1 : X3.cell? ⟨w.heap.size + 1, 1, none⟩ = some (.int .u8 0) := r6 1; have q2 : X3.cell? ⟨w.heap.size + 1, 2, none⟩ = some (.int .u8 0) := r6 2; have q3 : X3.cell? ⟨w.heap.size + 1, 3, none⟩ = some (.int .u8 0) := r6 3; have q4 : X3.cell? ⟨w.heap.size + 1, 4, none⟩ = some (.int .i64 0) := r6 4; have q5 : X3.cell? ⟨w.heap.size + 1, 5, none⟩ = some (.bool false) := r6 5; have q6 : X3.cell? ⟨w.heap.size + 1, 6, none⟩ = some (.string ⟨#[]⟩) := r6 6; have q7 : X3.cell? ⟨w.heap.size + 1, 7, none⟩ = some (.pointer none) := r6 7; have q8 : X3.cell? ⟨w.heap.size + 1, 8, none⟩ = some (.int .i64 0) := r6 8; have f0 := j6 0; have f1 := j6 1; have f2 := j6 2; have f3 := j6 3; have f4 := j6 4; have f5 := j6 5; have f6 := j6 6; have f7 := j6 7; have f8 := j6 8; clear r6 j6
  go_wp2_with fail
  refine at_world (FinP w ⟨4, ⟨0, 0, 0, 0⟩, false, ⟨#[]⟩, (27 :: tx), 1⟩ T' (.slice none 0 0) 0 []) (fin_put (s := ⟨4, ⟨0, 0, 0, 0⟩, false, ⟨#[]⟩, (27 :: tx), 1⟩) V3.out.1 (kyW_nil _) rfl V3.out.2) ?_
  rintro Z ⟨⟨y9, k9, j9⟩, hk, hn, hb, hc⟩
  have HZ := Lib.hid (And.intro hc (And.intro hk (And.intro hn hb)))
  have e0 := k9 0
  have e1 := k9 1
  have e2 := k9 2
  have e3 := k9 3
  have e4 := k9 4
  have e5 := k9 5
  have e6 := k9 6
  have e7 := k9 7
  have e8 := k9 8
  clear hc hk hn hb k9 j9 y9 q0 q1 q2 q3 q4 q5 q6 q7 q8 f0 f1 f2 f3 f4 f5 f6 f7 f8 y6 
  refine bodyPost_ret (v := .tuple #[psV ⟨4, ⟨0, 0, 0, 0⟩, false, ⟨#[]⟩, (27 :: tx), 1⟩ T', .slice none 0 0]) (by simp at e0 e1 e2 e3 e4 e5 e6 e7 e8; simp [results, Try.results21, go_sem, e0, e1, e2, e3, e4, e5, e6, e7, e8]) rfl ⟨T', none, 0, 0, rfl, HZ.out.1, HZ.out.2.1, HZ.out.2.2.1, HZ.out.2.2.2⟩

set_option maxHeartbeats 4000000 in
theorem paste_4_no (tx : List Int) (T : Option Addr) (b : Int) (n1 : (b == 49) = false) (n2 : (b == 27) = false) (w : World) (hc : Chain w T tx) : Calls Try.prog 21 #[psV ⟨4, ⟨0, 0, 0, 0⟩, false, ⟨#[]⟩, tx, 4⟩ T, .int .u8 b] w (Tells (⟨4, ⟨0, 0, 0, 0⟩, false, ⟨#[]⟩, (b :: tx), 0⟩, []) w) := by
  have m1 : (b == (((⟨#[27, 91, 50, 48, 49, 126]⟩ : ByteArray)[4]'(by decide)).toNat : Int)) = false := n1
  have m2 : (b == (((⟨#[27, 91, 50, 48, 49, 126]⟩ : ByteArray)[0]'(by decide)).toNat : Int)) = false := n2
  have V0 := Lib.hid (fm_start w ⟨4, ⟨0, 0, 0, 0⟩, false, ⟨#[]⟩, tx, 4⟩ T)
  have HC := Lib.hid hc
  clear hc
  go_enter Try.func21, Try.ntmps21
  go_upto_region 1 with fail
  refine at_world (fun X => Fm w ⟨4, ⟨0, 0, 0, 0⟩, false, ⟨#[]⟩, tx, 4⟩ T X) V0.out ?_
  intro X hX
  have V1 := Lib.hid (And.intro hX ((HC.out).later hX.below))
  clear hX V0 HC
  have HY := Lib.hid (V1.out.1.later (belAlloc X (.cells #[.int .u8 b, .pointer T] 65)))
  have u7' : X.cell? ⟨w.heap.size, 7, none⟩ = some (.pointer T) := V1.out.1.b.2.1 7
  obtain ⟨yb, rb, jb⟩ := (show _ from HY.out.b); have u0 : (X.alloc (.cells #[.int .u8 b, .pointer T] 65)).cell? ⟨w.heap.size, 0, none⟩ = some (.int .i64 4) := rb 0; have u1 : (X.alloc (.cells #[.int .u8 b, .pointer T] 65)).cell? ⟨w.heap.size, 1, none⟩ = some (.int .u8 0) := rb 1; have u2 : (X.alloc (.cells #[.int .u8 b, .pointer T] 65)).cell? ⟨w.heap.size, 2, none⟩ = some (.int .u8 0) := rb 2; have u3 : (X.alloc (.cells #[.int .u8 b, .pointer T] 65)).cell? ⟨w.heap.size, 3, none⟩ = some (.int .u8 0) := rb 3; have u4 : (X.alloc (.cells #[.int .u8 b, .pointer T] 65)).cell? ⟨w.heap.size, 4, none⟩ = some (.int .i64 0) := rb 4; have u5 : (X.alloc (.cells #[.int .u8 b, .pointer T] 65)).cell? ⟨w.heap.size, 5, none⟩ = some (.bool false) := rb 5; have u6 : (X.alloc (.cells #[.int .u8 b, .pointer T] 65)).cell? ⟨w.heap.size, 6, none⟩ = some (.string ⟨#[]⟩) := rb 6; have u7 : (X.alloc (.cells #[.int .u8 b, .pointer T] 65)).cell? ⟨w.heap.size, 7, none⟩ = some (.pointer T) := rb 7; have u8 : (X.alloc (.cells #[.int .u8 b, .pointer T] 65)).cell? ⟨w.heap.size, 8, none⟩ = some (.int .i64 4) := rb 8; have v0 := jb 0; have v1 := jb 1; have v2 := jb 2; have v3 := jb 3; have v4 := jb 4; have v5 := jb 5; have v6 := jb 6; have v7 := jb 7; have v8 := jb 8; clear rb jb
  go_upto_region 3 with fail
  refine at_world (fun X' => Fm w ⟨4, ⟨0, 0, 0, 0⟩, false, ⟨#[]⟩, (b :: tx), 4⟩ (some ⟨X.heap.size, 0, none⟩) X' ∧ Chain X' (some ⟨X.heap.size, 0, none⟩) (b :: tx)) (fc_tx V1.out.1 V1.out.2 b _) ?_
  clear u0 u1 u2 u3 u4 u5 u6 u7 u8 v0 v1 v2 v3 v4 v5 v6 v7 v8 yb u7' HY
  obtain ⟨T', hT'⟩ : ∃ T', (some ⟨X.heap.size, 0, none⟩ : Option Addr) = T' := ⟨_, rfl⟩
  rw [hT']
  clear hT' V1
  intro X2 hX
  have V2 := Lib.hid hX
  clear hX
  obtain ⟨yb, rb, jb⟩ := (show _ from V2.out.1.b); have u0 : X2.cell? ⟨w.heap.size, 0, none⟩ = some (.int .i64 4) := rb 0; have u1 : X2.cell? ⟨w.heap.size, 1, none⟩ = some (.int .u8 0) := rb 1; have u2 : X2.cell? ⟨w.heap.size, 2, none⟩ = some (.int .u8 0) := rb 2; have u3 : X2.cell? ⟨w.heap.size, 3, none⟩ = some (.int .u8 0) := rb 3; have u4 : X2.cell? ⟨w.heap.size, 4, none⟩ = some (.int .i64 0) := rb 4; have u5 : X2.cell? ⟨w.heap.size, 5, none⟩ = some (.bool false) := rb 5; have u6 : X2.cell? ⟨w.heap.size, 6, none⟩ = some (.string ⟨#[]⟩) := rb 6; have u7 : X2.cell? ⟨w.heap.size, 7, none⟩ = some (.pointer T') := rb 7; have u8 : X2.cell? ⟨w.heap.size, 8, none⟩ = some (.int .i64 4) := rb 8; have v0 := jb 0; have v1 := jb 1; have v2 := jb 2; have v3 := jb 3; have v4 := jb 4; have v5 := jb 5; have v6 := jb 6; have v7 := jb 7; have v8 := jb 8; clear rb jb
  go_upto_region 7 with fail
  refine at_world (fun X' => Fm w ⟨4, ⟨0, 0, 0, 0⟩, false, ⟨#[]⟩, (b :: tx), 0⟩ T' X' ∧ Chain X' T' (b :: tx)) (fc_cl V2.out 0 _ (by rfl)) ?_
  clear u0 u1 u2 u3 u4 u5 u6 u7 u8 v0 v1 v2 v3 v4 v5 v6 v7 v8 yb V2
  intro X3 hX
  have V3 := Lib.hid hX
  clear hX
  obtain ⟨y1, k1, j1⟩ := (show _ from V3.out.1.b)
  obtain ⟨y6, r6, j6⟩ := (show _ from V3.out.1.r); have q0 : X3.cell? ⟨w.heap.size + 1, 0, none⟩ = some (.int .i64 0) := r6 0; have q1 : X3.cell? ⟨w.heap.size + 1, 1, none⟩ = some (.int .u8 0) := r6 1; have q2 : X3.cell? ⟨w.heap.size + 1, 2, none⟩ = some (.int .u8 0) := r6 2; have q3 : X3.cell? ⟨w.heap.size + 1, 3, none⟩ = some (.int .u8 0) := r6 3; have q4 : X3.cell? ⟨w.heap.size + 1, 4, none⟩ = some (.int .i64 0) := r6 4; have q5 : X3.cell? ⟨w.heap.size + 1, 5, none⟩ = some (.bool false) := r6 5; have q6 : X3.cell? ⟨w.heap.size + 1, 6, none⟩ = some (.string ⟨#[]⟩) := r6 6; have q7 : X3.cell? ⟨w.heap.size + 1, 7, none⟩ = some (.pointer none) := r6 7; have q8 : X3.cell? ⟨w.heap.size + 1, 8, none⟩ = some (.int .i64 0) := r6 8; have f0 := j6 0; have f1 := j6 1; have f2 := j6 2; have f3 := j6 3; have f4 := j6 4; have f5 := j6 5; have f6 := j6 6; have f7 := j6 7; have f8 := j6 8; clear r6 j6
  go_wp2_with fail
  refine at_world (FinP w ⟨4, ⟨0, 0, 0, 0⟩, false, ⟨#[]⟩, (b :: tx), 0⟩ T' (.slice none 0 0) 0 []) (fin_put (s := ⟨4, ⟨0, 0, 0, 0⟩, false, ⟨#[]⟩, (b :: tx), 0⟩) V3.out.1 (kyW_nil _) rfl V3.out.2) ?_
  rintro Z ⟨⟨y9, k9, j9⟩, hk, hn, hb, hc⟩
  have HZ := Lib.hid (And.intro hc (And.intro hk (And.intro hn hb)))
  have e0 := k9 0
  have e1 := k9 1
  have e2 := k9 2
  have e3 := k9 3
  have e4 := k9 4
  have e5 := k9 5
  have e6 := k9 6
  have e7 := k9 7
  have e8 := k9 8
  clear hc hk hn hb k9 j9 y9 q0 q1 q2 q3 q4 q5 q6 q7 q8 f0 f1 f2 f3 f4 f5 f6 f7 f8 y6 
  refine bodyPost_ret (v := .tuple #[psV ⟨4, ⟨0, 0, 0, 0⟩, false, ⟨#[]⟩, (b :: tx), 0⟩ T', .slice none 0 0]) (by simp at e0 e1 e2 e3 e4 e5 e6 e7 e8; simp [results, Try.results21, go_sem, e0, e1, e2, e3, e4, e5, e6, e7, e8]) rfl ⟨T', none, 0, 0, rfl, HZ.out.1, HZ.out.2.1, HZ.out.2.2.1, HZ.out.2.2.2⟩

set_option maxHeartbeats 4000000 in
theorem paste_5_esc (tx : List Int) (T : Option Addr) (w : World) (hc : Chain w T tx) : Calls Try.prog 21 #[psV ⟨4, ⟨0, 0, 0, 0⟩, false, ⟨#[]⟩, tx, 5⟩ T, .int .u8 27] w (Tells (⟨4, ⟨0, 0, 0, 0⟩, false, ⟨#[]⟩, (27 :: tx), 1⟩, []) w) := by
  have V0 := Lib.hid (fm_start w ⟨4, ⟨0, 0, 0, 0⟩, false, ⟨#[]⟩, tx, 5⟩ T)
  have HC := Lib.hid hc
  clear hc
  go_enter Try.func21, Try.ntmps21
  go_upto_region 1 with fail
  refine at_world (fun X => Fm w ⟨4, ⟨0, 0, 0, 0⟩, false, ⟨#[]⟩, tx, 5⟩ T X) V0.out ?_
  intro X hX
  have V1 := Lib.hid (And.intro hX ((HC.out).later hX.below))
  clear hX V0 HC
  have HY := Lib.hid (V1.out.1.later (belAlloc X (.cells #[.int .u8 27, .pointer T] 65)))
  have u7' : X.cell? ⟨w.heap.size, 7, none⟩ = some (.pointer T) := V1.out.1.b.2.1 7
  obtain ⟨yb, rb, jb⟩ := (show _ from HY.out.b); have u0 : (X.alloc (.cells #[.int .u8 27, .pointer T] 65)).cell? ⟨w.heap.size, 0, none⟩ = some (.int .i64 4) := rb 0; have u1 : (X.alloc (.cells #[.int .u8 27, .pointer T] 65)).cell? ⟨w.heap.size, 1, none⟩ = some (.int .u8 0) := rb 1; have u2 : (X.alloc (.cells #[.int .u8 27, .pointer T] 65)).cell? ⟨w.heap.size, 2, none⟩ = some (.int .u8 0) := rb 2; have u3 : (X.alloc (.cells #[.int .u8 27, .pointer T] 65)).cell? ⟨w.heap.size, 3, none⟩ = some (.int .u8 0) := rb 3; have u4 : (X.alloc (.cells #[.int .u8 27, .pointer T] 65)).cell? ⟨w.heap.size, 4, none⟩ = some (.int .i64 0) := rb 4; have u5 : (X.alloc (.cells #[.int .u8 27, .pointer T] 65)).cell? ⟨w.heap.size, 5, none⟩ = some (.bool false) := rb 5; have u6 : (X.alloc (.cells #[.int .u8 27, .pointer T] 65)).cell? ⟨w.heap.size, 6, none⟩ = some (.string ⟨#[]⟩) := rb 6; have u7 : (X.alloc (.cells #[.int .u8 27, .pointer T] 65)).cell? ⟨w.heap.size, 7, none⟩ = some (.pointer T) := rb 7; have u8 : (X.alloc (.cells #[.int .u8 27, .pointer T] 65)).cell? ⟨w.heap.size, 8, none⟩ = some (.int .i64 5) := rb 8; have v0 := jb 0; have v1 := jb 1; have v2 := jb 2; have v3 := jb 3; have v4 := jb 4; have v5 := jb 5; have v6 := jb 6; have v7 := jb 7; have v8 := jb 8; clear rb jb
  go_upto_region 3 with fail
  refine at_world (fun X' => Fm w ⟨4, ⟨0, 0, 0, 0⟩, false, ⟨#[]⟩, (27 :: tx), 5⟩ (some ⟨X.heap.size, 0, none⟩) X' ∧ Chain X' (some ⟨X.heap.size, 0, none⟩) (27 :: tx)) (fc_tx V1.out.1 V1.out.2 27 _) ?_
  clear u0 u1 u2 u3 u4 u5 u6 u7 u8 v0 v1 v2 v3 v4 v5 v6 v7 v8 yb u7' HY
  obtain ⟨T', hT'⟩ : ∃ T', (some ⟨X.heap.size, 0, none⟩ : Option Addr) = T' := ⟨_, rfl⟩
  rw [hT']
  clear hT' V1
  intro X2 hX
  have V2 := Lib.hid hX
  clear hX
  obtain ⟨yb, rb, jb⟩ := (show _ from V2.out.1.b); have u0 : X2.cell? ⟨w.heap.size, 0, none⟩ = some (.int .i64 4) := rb 0; have u1 : X2.cell? ⟨w.heap.size, 1, none⟩ = some (.int .u8 0) := rb 1; have u2 : X2.cell? ⟨w.heap.size, 2, none⟩ = some (.int .u8 0) := rb 2; have u3 : X2.cell? ⟨w.heap.size, 3, none⟩ = some (.int .u8 0) := rb 3; have u4 : X2.cell? ⟨w.heap.size, 4, none⟩ = some (.int .i64 0) := rb 4; have u5 : X2.cell? ⟨w.heap.size, 5, none⟩ = some (.bool false) := rb 5; have u6 : X2.cell? ⟨w.heap.size, 6, none⟩ = some (.string ⟨#[]⟩) := rb 6; have u7 : X2.cell? ⟨w.heap.size, 7, none⟩ = some (.pointer T') := rb 7; have u8 : X2.cell? ⟨w.heap.size, 8, none⟩ = some (.int .i64 5) := rb 8; have v0 := jb 0; have v1 := jb 1; have v2 := jb 2; have v3 := jb 3; have v4 := jb 4; have v5 := jb 5; have v6 := jb 6; have v7 := jb 7; have v8 := jb 8; clear rb jb
  go_upto_region 7 with fail
  refine at_world (fun X' => Fm w ⟨4, ⟨0, 0, 0, 0⟩, false, ⟨#[]⟩, (27 :: tx), 1⟩ T' X' ∧ Chain X' T' (27 :: tx)) (fc_cl V2.out 1 _ (by rfl)) ?_
  clear u0 u1 u2 u3 u4 u5 u6 u7 u8 v0 v1 v2 v3 v4 v5 v6 v7 v8 yb V2
  intro X3 hX
  have V3 := Lib.hid hX
  clear hX
  obtain ⟨y1, k1, j1⟩ := (show _ from V3.out.1.b)
  obtain ⟨y6, r6, j6⟩ := (show _ from V3.out.1.r); have q0 : X3.cell? ⟨w.heap.size + 1, 0, none⟩ = some (.int .i64 0) := r6 0; have q1 : X3.cell? ⟨w.heap.size + 1, 1, none⟩ = some (.int .u8 0) := r6 1; have q2 : X3.cell? ⟨w.heap.size + 1, 2, none⟩ = some (.int .u8 0) := r6 2; have q3 : X3.cell? ⟨w.heap.size + 1, 3, none⟩ = some (.int .u8 0) := r6 3; have q4 : X3.cell? ⟨w.heap.size + 1, 4, none⟩ = some (.int .i64 0) := r6 4; have q5 : X3.cell? ⟨w.heap.size + 1, 5, none⟩ = some (.bool false) := r6 5; have q6 : X3.cell? ⟨w.heap.size + 1, 6, none⟩ = some (.string ⟨#[]⟩) := r6 6; have q7 : X3.cell? ⟨w.heap.size + 1, 7, none⟩ = some (.pointer none) := r6 7; have q8 : X3.cell? ⟨w.heap.size + 1, 8, none⟩ = some (.int .i64 0) := r6 8; have f0 := j6 0; have f1 := j6 1; have f2 := j6 2; have f3 := j6 3; have f4 := j6 4; have f5 := j6 5; have f6 := j6 6; have f7 := j6 7; have f8 := j6 8; clear r6 j6
  go_wp2_with fail
  refine at_world (FinP w ⟨4, ⟨0, 0, 0, 0⟩, false, ⟨#[]⟩, (27 :: tx), 1⟩ T' (.slice none 0 0) 0 []) (fin_put (s := ⟨4, ⟨0, 0, 0, 0⟩, false, ⟨#[]⟩, (27 :: tx), 1⟩) V3.out.1 (kyW_nil _) rfl V3.out.2) ?_
  rintro Z ⟨⟨y9, k9, j9⟩, hk, hn, hb, hc⟩
  have HZ := Lib.hid (And.intro hc (And.intro hk (And.intro hn hb)))
  have e0 := k9 0
  have e1 := k9 1
  have e2 := k9 2
  have e3 := k9 3
  have e4 := k9 4
  have e5 := k9 5
  have e6 := k9 6
  have e7 := k9 7
  have e8 := k9 8
  clear hc hk hn hb k9 j9 y9 q0 q1 q2 q3 q4 q5 q6 q7 q8 f0 f1 f2 f3 f4 f5 f6 f7 f8 y6 
  refine bodyPost_ret (v := .tuple #[psV ⟨4, ⟨0, 0, 0, 0⟩, false, ⟨#[]⟩, (27 :: tx), 1⟩ T', .slice none 0 0]) (by simp at e0 e1 e2 e3 e4 e5 e6 e7 e8; simp [results, Try.results21, go_sem, e0, e1, e2, e3, e4, e5, e6, e7, e8]) rfl ⟨T', none, 0, 0, rfl, HZ.out.1, HZ.out.2.1, HZ.out.2.2.1, HZ.out.2.2.2⟩

set_option maxHeartbeats 4000000 in
theorem paste_5_no (tx : List Int) (T : Option Addr) (b : Int) (n1 : (b == 126) = false) (n2 : (b == 27) = false) (w : World) (hc : Chain w T tx) : Calls Try.prog 21 #[psV ⟨4, ⟨0, 0, 0, 0⟩, false, ⟨#[]⟩, tx, 5⟩ T, .int .u8 b] w (Tells (⟨4, ⟨0, 0, 0, 0⟩, false, ⟨#[]⟩, (b :: tx), 0⟩, []) w) := by
  have m1 : (b == (((⟨#[27, 91, 50, 48, 49, 126]⟩ : ByteArray)[5]'(by decide)).toNat : Int)) = false := n1
  have m2 : (b == (((⟨#[27, 91, 50, 48, 49, 126]⟩ : ByteArray)[0]'(by decide)).toNat : Int)) = false := n2
  have V0 := Lib.hid (fm_start w ⟨4, ⟨0, 0, 0, 0⟩, false, ⟨#[]⟩, tx, 5⟩ T)
  have HC := Lib.hid hc
  clear hc
  go_enter Try.func21, Try.ntmps21
  go_upto_region 1 with fail
  refine at_world (fun X => Fm w ⟨4, ⟨0, 0, 0, 0⟩, false, ⟨#[]⟩, tx, 5⟩ T X) V0.out ?_
  intro X hX
  have V1 := Lib.hid (And.intro hX ((HC.out).later hX.below))
  clear hX V0 HC
  have HY := Lib.hid (V1.out.1.later (belAlloc X (.cells #[.int .u8 b, .pointer T] 65)))
  have u7' : X.cell? ⟨w.heap.size, 7, none⟩ = some (.pointer T) := V1.out.1.b.2.1 7
  obtain ⟨yb, rb, jb⟩ := (show _ from HY.out.b); have u0 : (X.alloc (.cells #[.int .u8 b, .pointer T] 65)).cell? ⟨w.heap.size, 0, none⟩ = some (.int .i64 4) := rb 0; have u1 : (X.alloc (.cells #[.int .u8 b, .pointer T] 65)).cell? ⟨w.heap.size, 1, none⟩ = some (.int .u8 0) := rb 1; have u2 : (X.alloc (.cells #[.int .u8 b, .pointer T] 65)).cell? ⟨w.heap.size, 2, none⟩ = some (.int .u8 0) := rb 2; have u3 : (X.alloc (.cells #[.int .u8 b, .pointer T] 65)).cell? ⟨w.heap.size, 3, none⟩ = some (.int .u8 0) := rb 3; have u4 : (X.alloc (.cells #[.int .u8 b, .pointer T] 65)).cell? ⟨w.heap.size, 4, none⟩ = some (.int .i64 0) := rb 4; have u5 : (X.alloc (.cells #[.int .u8 b, .pointer T] 65)).cell? ⟨w.heap.size, 5, none⟩ = some (.bool false) := rb 5; have u6 : (X.alloc (.cells #[.int .u8 b, .pointer T] 65)).cell? ⟨w.heap.size, 6, none⟩ = some (.string ⟨#[]⟩) := rb 6; have u7 : (X.alloc (.cells #[.int .u8 b, .pointer T] 65)).cell? ⟨w.heap.size, 7, none⟩ = some (.pointer T) := rb 7; have u8 : (X.alloc (.cells #[.int .u8 b, .pointer T] 65)).cell? ⟨w.heap.size, 8, none⟩ = some (.int .i64 5) := rb 8; have v0 := jb 0; have v1 := jb 1; have v2 := jb 2; have v3 := jb 3; have v4 := jb 4; have v5 := jb 5; have v6 := jb 6; have v7 := jb 7; have v8 := jb 8; clear rb jb
  go_upto_region 3 with fail
  refine at_world (fun X' => Fm w ⟨4, ⟨0, 0, 0, 0⟩, false, ⟨#[]⟩, (b :: tx), 5⟩ (some ⟨X.heap.size, 0, none⟩) X' ∧ Chain X' (some ⟨X.heap.size, 0, none⟩) (b :: tx)) (fc_tx V1.out.1 V1.out.2 b _) ?_
  clear u0 u1 u2 u3 u4 u5 u6 u7 u8 v0 v1 v2 v3 v4 v5 v6 v7 v8 yb u7' HY
  obtain ⟨T', hT'⟩ : ∃ T', (some ⟨X.heap.size, 0, none⟩ : Option Addr) = T' := ⟨_, rfl⟩
  rw [hT']
  clear hT' V1
  intro X2 hX
  have V2 := Lib.hid hX
  clear hX
  obtain ⟨yb, rb, jb⟩ := (show _ from V2.out.1.b); have u0 : X2.cell? ⟨w.heap.size, 0, none⟩ = some (.int .i64 4) := rb 0; have u1 : X2.cell? ⟨w.heap.size, 1, none⟩ = some (.int .u8 0) := rb 1; have u2 : X2.cell? ⟨w.heap.size, 2, none⟩ = some (.int .u8 0) := rb 2; have u3 : X2.cell? ⟨w.heap.size, 3, none⟩ = some (.int .u8 0) := rb 3; have u4 : X2.cell? ⟨w.heap.size, 4, none⟩ = some (.int .i64 0) := rb 4; have u5 : X2.cell? ⟨w.heap.size, 5, none⟩ = some (.bool false) := rb 5; have u6 : X2.cell? ⟨w.heap.size, 6, none⟩ = some (.string ⟨#[]⟩) := rb 6; have u7 : X2.cell? ⟨w.heap.size, 7, none⟩ = some (.pointer T') := rb 7; have u8 : X2.cell? ⟨w.heap.size, 8, none⟩ = some (.int .i64 5) := rb 8; have v0 := jb 0; have v1 := jb 1; have v2 := jb 2; have v3 := jb 3; have v4 := jb 4; have v5 := jb 5; have v6 := jb 6; have v7 := jb 7; have v8 := jb 8; clear rb jb
  go_upto_region 7 with fail
  refine at_world (fun X' => Fm w ⟨4, ⟨0, 0, 0, 0⟩, false, ⟨#[]⟩, (b :: tx), 0⟩ T' X' ∧ Chain X' T' (b :: tx)) (fc_cl V2.out 0 _ (by rfl)) ?_
  clear u0 u1 u2 u3 u4 u5 u6 u7 u8 v0 v1 v2 v3 v4 v5 v6 v7 v8 yb V2
  intro X3 hX
  have V3 := Lib.hid hX
  clear hX
  obtain ⟨y1, k1, j1⟩ := (show _ from V3.out.1.b)
  obtain ⟨y6, r6, j6⟩ := (show _ from V3.out.1.r); have q0 : X3.cell? ⟨w.heap.size + 1, 0, none⟩ = some (.int .i64 0) := r6 0; have q1 : X3.cell? ⟨w.heap.size + 1, 1, none⟩ = some (.int .u8 0) := r6 1; have q2 : X3.cell? ⟨w.heap.size + 1, 2, none⟩ = some (.int .u8 0) := r6 2; have q3 : X3.cell? ⟨w.heap.size + 1, 3, none⟩ = some (.int .u8 0) := r6 3; have q4 : X3.cell? ⟨w.heap.size + 1, 4, none⟩ = some (.int .i64 0) := r6 4; have q5 : X3.cell? ⟨w.heap.size + 1, 5, none⟩ = some (.bool false) := r6 5; have q6 : X3.cell? ⟨w.heap.size + 1, 6, none⟩ = some (.string ⟨#[]⟩) := r6 6; have q7 : X3.cell? ⟨w.heap.size + 1, 7, none⟩ = some (.pointer none) := r6 7; have q8 : X3.cell? ⟨w.heap.size + 1, 8, none⟩ = some (.int .i64 0) := r6 8; have f0 := j6 0; have f1 := j6 1; have f2 := j6 2; have f3 := j6 3; have f4 := j6 4; have f5 := j6 5; have f6 := j6 6; have f7 := j6 7; have f8 := j6 8; clear r6 j6
  go_wp2_with fail
  refine at_world (FinP w ⟨4, ⟨0, 0, 0, 0⟩, false, ⟨#[]⟩, (b :: tx), 0⟩ T' (.slice none 0 0) 0 []) (fin_put (s := ⟨4, ⟨0, 0, 0, 0⟩, false, ⟨#[]⟩, (b :: tx), 0⟩) V3.out.1 (kyW_nil _) rfl V3.out.2) ?_
  rintro Z ⟨⟨y9, k9, j9⟩, hk, hn, hb, hc⟩
  have HZ := Lib.hid (And.intro hc (And.intro hk (And.intro hn hb)))
  have e0 := k9 0
  have e1 := k9 1
  have e2 := k9 2
  have e3 := k9 3
  have e4 := k9 4
  have e5 := k9 5
  have e6 := k9 6
  have e7 := k9 7
  have e8 := k9 8
  clear hc hk hn hb k9 j9 y9 q0 q1 q2 q3 q4 q5 q6 q7 q8 f0 f1 f2 f3 f4 f5 f6 f7 f8 y6 
  refine bodyPost_ret (v := .tuple #[psV ⟨4, ⟨0, 0, 0, 0⟩, false, ⟨#[]⟩, (b :: tx), 0⟩ T', .slice none 0 0]) (by simp at e0 e1 e2 e3 e4 e5 e6 e7 e8; simp [results, Try.results21, go_sem, e0, e1, e2, e3, e4, e5, e6, e7, e8]) rfl ⟨T', none, 0, 0, rfl, HZ.out.1, HZ.out.2.1, HZ.out.2.2.1, HZ.out.2.2.2⟩

theorem pasteA_any (tx : List Int) (cl : Nat) (b : Int) (T : Option Addr) (hcl : cl < 6) (hA : closesK cl b < 6) (w : World) (hc : Chain w T tx) : Calls Try.prog 21 #[psV ⟨4, ⟨0, 0, 0, 0⟩, false, ⟨#[]⟩, tx, cl⟩ T, .int .u8 b] w (Tells (⟨4, ⟨0, 0, 0, 0⟩, false, ⟨#[]⟩, (b :: tx), (closesK cl b)⟩, []) w) := by
  obtain rfl | rfl | rfl | rfl | rfl | rfl : cl = 0 ∨ cl = 1 ∨ cl = 2 ∨ cl = 3 ∨ cl = 4 ∨ cl = 5 := by omega
  · by_cases h1 : b = 27
    · subst h1
      rw [show closesK 0 27 = 1 by decide]
      exact paste_0_eq tx T w hc
    by_cases h2 : b = 27
    · subst h2
      exact absurd rfl h1
    rw [show closesK 0 b = 0 by unfold closesK; rw [if_neg (show ¬ b = pasteEnd.getD 0 0 from h1), if_neg h2]]
    exact paste_0_no tx T b (by simpa using h1) (by simpa using h2) w hc
  · by_cases h1 : b = 91
    · subst h1
      rw [show closesK 1 91 = 2 by decide]
      exact paste_1_eq tx T w hc
    by_cases h2 : b = 27
    · subst h2
      rw [show closesK 1 27 = 1 by decide]
      exact paste_1_esc tx T w hc
    rw [show closesK 1 b = 0 by unfold closesK; rw [if_neg (show ¬ b = pasteEnd.getD 1 0 from h1), if_neg h2]]
    exact paste_1_no tx T b (by simpa using h1) (by simpa using h2) w hc
  · by_cases h1 : b = 50
    · subst h1
      rw [show closesK 2 50 = 3 by decide]
      exact paste_2_eq tx T w hc
    by_cases h2 : b = 27
    · subst h2
      rw [show closesK 2 27 = 1 by decide]
      exact paste_2_esc tx T w hc
    rw [show closesK 2 b = 0 by unfold closesK; rw [if_neg (show ¬ b = pasteEnd.getD 2 0 from h1), if_neg h2]]
    exact paste_2_no tx T b (by simpa using h1) (by simpa using h2) w hc
  · by_cases h1 : b = 48
    · subst h1
      rw [show closesK 3 48 = 4 by decide]
      exact paste_3_eq tx T w hc
    by_cases h2 : b = 27
    · subst h2
      rw [show closesK 3 27 = 1 by decide]
      exact paste_3_esc tx T w hc
    rw [show closesK 3 b = 0 by unfold closesK; rw [if_neg (show ¬ b = pasteEnd.getD 3 0 from h1), if_neg h2]]
    exact paste_3_no tx T b (by simpa using h1) (by simpa using h2) w hc
  · by_cases h1 : b = 49
    · subst h1
      rw [show closesK 4 49 = 5 by decide]
      exact paste_4_eq tx T w hc
    by_cases h2 : b = 27
    · subst h2
      rw [show closesK 4 27 = 1 by decide]
      exact paste_4_esc tx T w hc
    rw [show closesK 4 b = 0 by unfold closesK; rw [if_neg (show ¬ b = pasteEnd.getD 4 0 from h1), if_neg h2]]
    exact paste_4_no tx T b (by simpa using h1) (by simpa using h2) w hc
  · by_cases h1 : b = 126
    · subst h1
      exact absurd hA (by decide)
    by_cases h2 : b = 27
    · subst h2
      rw [show closesK 5 27 = 1 by decide]
      exact paste_5_esc tx T w hc
    rw [show closesK 5 b = 0 by unfold closesK; rw [if_neg (show ¬ b = pasteEnd.getD 5 0 from h1), if_neg h2]]
    exact paste_5_no tx T b (by simpa using h1) (by simpa using h2) w hc
end Go.Proofs.Ytkkenabckhmkoaa
