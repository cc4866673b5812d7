/- trie: made. -/
import Derived.Test.YtpbdamjpjpchiaaTrB
namespace Go.Proofs.Ytpbdamjpjpchiaa
open Go.RowKit Go.Maps
set_option linter.unusedVariables false
set_option linter.unusedSimpArgs false

/-- A piece's cells. -/
def S3 (b o : Nat) (p : Pc Int) (X : World) : Prop := X.cell? ⟨b, o, none⟩ = some (.int .i64 p.f) ∧ X.cell? ⟨b, o + 1, none⟩ = some (.int .i64 p.t) ∧ X.cell? ⟨b, o + 2, none⟩ = some (.int .i64 p.v)
theorem S3.kept {b o : Nat} {p : Pc Int} {X Y : World} (h : S3 b o p X) (hk : Y.heap[b]? = X.heap[b]?) : S3 b o p Y :=
  ⟨(World.cell?_of_block (a := ⟨b, o, none⟩) hk).trans h.1, (World.cell?_of_block (a := ⟨b, o + 1, none⟩) hk).trans h.2.1, (World.cell?_of_block (a := ⟨b, o + 2, none⟩) hk).trans h.2.2⟩

set_option maxHeartbeats 8000000 in
set_option maxRecDepth 100000 in
theorem made_with (s z : Int) (A : Option Addr) (c : Nat) (L : List (Pc Int)) (W : World) (R : Option Addr → World → Prop) (hL : Li 3 encP W (fun _ => True) A L) (hn : L.length ≤ 10000)
    (hR : ∀ A' c' X, Grows W 34 3 encP A' L.length c' L X → Calls Try.prog 15 #[.int .i64 s, .int .i64 z, .slice A' L.length c'] X (fun e w' => ∃ p, e = .returned (.pointer p) ∧ R p w')) :
    Calls Try.prog 9 #[.int .i64 s, .int .i64 z, .slice A L.length c] W (fun e w' => ∃ p, e = .returned (.pointer p) ∧ R p w') := by
  have HL := Lib.hid hL
  have HR := Lib.hid hR
  have H0 := Lib.hid (Grows.start (enc := encP) W 34 3)
  clear hL hR
  go_enter Try.func9, Try.ntmps9
  go_wp2
  go_loopw [7, 8] (fun v i wr => ∃ k : Nat, ∃ A' c', k ≤ L.length ∧ i = .int .i64 k ∧ v = .slice A' k c' ∧ Hid (Grows W 34 3 encP A' k c' (L.take k) wr)) (fun _ i _ => L.length - (intOf i).toNat)
  case atStart => exact ⟨0, none, 0, Nat.zero_le _, rfl, rfl, H0⟩
  case round =>
    obtain ⟨k, A', c', hk, rfl, rfl, HG⟩ := hrel
    by_cases hlt : k < L.length
    · obtain ⟨x, b, o, hx, rfl, hbl, _, c0, c1, c2⟩ := (HL.out.later HG.out.below).piece hlt
      obtain ⟨x', b', o', hx', e, hbl', _⟩ := HL.out.piece hlt
      injection e with e
      injection e with e e'
      subst e; subst e'
      have HK := Lib.hid (take_snoc' hx)
      have HS := Lib.hid (show S3 b (o + k * 3) x wr.drew from ⟨c0, c1, c2⟩)
      have hSa : ∀ ob, S3 b (o + k * 3) x ((wr.alloc ob).drew) := fun ob => HS.out.kept ((World.grownBy_alloc wr ob none).block b hbl (by simp))
      have hS3 : ∀ w3, wr.grownBy w3 (Value.slice A' k c').ownBlock → S3 b (o + k * 3) x w3 := fun w3 hg => HS.out.kept (hg.block b hbl fun e => by have := (HG.out.own.lt b e.symm).1; omega)
      have i1 : (k : Int) < (L.length : Int) := by omega
      have i2 : (0 : Int) ≤ (k : Int) := by omega
      clear hx hx' c0 c1 c2
      go_wp2_with fail
      refine wp_region_held (S := S3 b (o + k * 3) x) (by kernel_rfl) ?_
      change wpAnyH _ _ _ _ _ _ _ _ (World.drew _)
      refine wpAnyH_take (i := 0) (oi := { dst := some 15, op := Go.Op.move (Go.Operand.tmp 7), type := 31, pos := "law.go:27", after := #[], guard := none }) (v := ?_) rfl (by kernel_rfl) (by kernel_rfl) (by kernel_rfl) (fun _ _ _ h => h) (Or.inl ⟨by rfl, ?_⟩) (by first | exact HS.out | exact hSa _ | exact HS3.out) ?_
      rotate_left
      · intro Z hZ; clear hZ; go_simp; try with_reducible rfl
      simp only [Act.put, List.setIfInBounds_toArray, List.set_cons_zero, List.set_cons_succ]
      refine wpAnyH_take (i := 1) (oi := { dst := some 16, op := Go.Op.move (Go.Operand.tmp 2), type := 22, pos := "law.go:27", after := #[], guard := none }) (v := ?_) rfl (by kernel_rfl) (by kernel_rfl) (by kernel_rfl) (fun _ _ _ h => h) (Or.inl ⟨by rfl, ?_⟩) (by first | exact HS.out | exact hSa _ | exact HS3.out) ?_
      rotate_left
      · intro Z hZ; clear hZ; go_simp; try with_reducible rfl
      simp only [Act.put, List.setIfInBounds_toArray, List.set_cons_zero, List.set_cons_succ]
      refine wpAnyH_take (i := 2) (oi := { dst := some 17, op := Go.Op.move (Go.Operand.tmp 8), type := 3, pos := "law.go:27", after := #[], guard := none }) (v := ?_) rfl (by kernel_rfl) (by kernel_rfl) (by kernel_rfl) (fun _ _ _ h => h) (Or.inl ⟨by rfl, ?_⟩) (by first | exact HS.out | exact hSa _ | exact HS3.out) ?_
      rotate_left
      · intro Z hZ; clear hZ; go_simp; try with_reducible rfl
      simp only [Act.put, List.setIfInBounds_toArray, List.set_cons_zero, List.set_cons_succ]
      refine wpAnyH_take (i := 3) (oi := { dst := some 18, op := Go.Op.indexAddr 22 (Go.Operand.tmp 16) (Go.Operand.tmp 17), type := 0, pos := "law.go:27", after := #[{ on := 1, ground := Go.Ground.data }, { on := 2, ground := Go.Ground.data }], guard := none }) (v := ?_) rfl (by kernel_rfl) (by kernel_rfl) (by kernel_rfl) (fun _ _ _ h => h) (Or.inl ⟨by rfl, ?_⟩) (by first | exact HS.out | exact hSa _ | exact HS3.out) ?_
      rotate_left
      · intro Z hZ; clear hZ; go_simp; try with_reducible rfl
      simp only [Act.put, List.setIfInBounds_toArray, List.set_cons_zero, List.set_cons_succ]
      refine wpAnyH_take (i := 4) (oi := { dst := some 19, op := Go.Op.fieldAddr 49 (Go.Operand.tmp 18) 0, type := 0, pos := "law.go:27", after := #[{ on := 3, ground := Go.Ground.data }], guard := none }) (v := ?_) rfl (by kernel_rfl) (by kernel_rfl) (by kernel_rfl) (fun _ _ _ h => h) (Or.inl ⟨by rfl, ?_⟩) (by first | exact HS.out | exact hSa _ | exact HS3.out) ?_
      rotate_left
      · intro Z hZ; clear hZ; go_simp; try with_reducible rfl
      simp only [Act.put, List.setIfInBounds_toArray, List.set_cons_zero, List.set_cons_succ]
      refine wpAnyH_take (i := 5) (oi := { dst := some 20, op := Go.Op.load 3 (Go.Operand.tmp 19), type := 3, pos := "law.go:27", after := #[{ on := 4, ground := Go.Ground.data }], guard := none }) (v := ?_) rfl (by kernel_rfl) (by kernel_rfl) (by kernel_rfl) (fun _ _ _ h => h) (Or.inl ⟨by rfl, ?_⟩) (by first | exact HS.out | exact hSa _ | exact HS3.out) ?_
      rotate_left
      · intro Z hZ; obtain ⟨z1, z2, z3⟩ := hZ; go_simp; try with_reducible rfl
      simp only [Act.put, List.setIfInBounds_toArray, List.set_cons_zero, List.set_cons_succ]
      refine wpAnyH_take (i := 6) (oi := { dst := some 21, op := Go.Op.move (Go.Operand.tmp 2), type := 22, pos := "law.go:27", after := #[], guard := none }) (v := ?_) rfl (by kernel_rfl) (by kernel_rfl) (by kernel_rfl) (fun _ _ _ h => h) (Or.inl ⟨by rfl, ?_⟩) (by first | exact HS.out | exact hSa _ | exact HS3.out) ?_
      rotate_left
      · intro Z hZ; clear hZ; go_simp; try with_reducible rfl
      simp only [Act.put, List.setIfInBounds_toArray, List.set_cons_zero, List.set_cons_succ]
      refine wpAnyH_take (i := 7) (oi := { dst := some 22, op := Go.Op.move (Go.Operand.tmp 8), type := 3, pos := "law.go:27", after := #[], guard := none }) (v := ?_) rfl (by kernel_rfl) (by kernel_rfl) (by kernel_rfl) (fun _ _ _ h => h) (Or.inl ⟨by rfl, ?_⟩) (by first | exact HS.out | exact hSa _ | exact HS3.out) ?_
      rotate_left
      · intro Z hZ; clear hZ; go_simp; try with_reducible rfl
      simp only [Act.put, List.setIfInBounds_toArray, List.set_cons_zero, List.set_cons_succ]
      refine wpAnyH_take (i := 8) (oi := { dst := some 23, op := Go.Op.indexAddr 22 (Go.Operand.tmp 21) (Go.Operand.tmp 22), type := 0, pos := "law.go:27", after := #[{ on := 6, ground := Go.Ground.data }, { on := 7, ground := Go.Ground.data }], guard := none }) (v := ?_) rfl (by kernel_rfl) (by kernel_rfl) (by kernel_rfl) (fun _ _ _ h => h) (Or.inl ⟨by rfl, ?_⟩) (by first | exact HS.out | exact hSa _ | exact HS3.out) ?_
      rotate_left
      · intro Z hZ; clear hZ; go_simp; try with_reducible rfl
      simp only [Act.put, List.setIfInBounds_toArray, List.set_cons_zero, List.set_cons_succ]
      refine wpAnyH_take (i := 9) (oi := { dst := some 24, op := Go.Op.fieldAddr 49 (Go.Operand.tmp 23) 1, type := 0, pos := "law.go:27", after := #[{ on := 8, ground := Go.Ground.data }], guard := none }) (v := ?_) rfl (by kernel_rfl) (by kernel_rfl) (by kernel_rfl) (fun _ _ _ h => h) (Or.inl ⟨by rfl, ?_⟩) (by first | exact HS.out | exact hSa _ | exact HS3.out) ?_
      rotate_left
      · intro Z hZ; clear hZ; go_simp; try with_reducible rfl
      simp only [Act.put, List.setIfInBounds_toArray, List.set_cons_zero, List.set_cons_succ]
      refine wpAnyH_take (i := 10) (oi := { dst := some 25, op := Go.Op.load 3 (Go.Operand.tmp 24), type := 3, pos := "law.go:27", after := #[{ on := 9, ground := Go.Ground.data }], guard := none }) (v := ?_) rfl (by kernel_rfl) (by kernel_rfl) (by kernel_rfl) (fun _ _ _ h => h) (Or.inl ⟨by rfl, ?_⟩) (by first | exact HS.out | exact hSa _ | exact HS3.out) ?_
      rotate_left
      · intro Z hZ; obtain ⟨z1, z2, z3⟩ := hZ; go_simp; try with_reducible rfl
      simp only [Act.put, List.setIfInBounds_toArray, List.set_cons_zero, List.set_cons_succ]
      refine wpAnyH_take (i := 11) (oi := { dst := some 26, op := Go.Op.move (Go.Operand.tmp 2), type := 22, pos := "law.go:27", after := #[], guard := none }) (v := ?_) rfl (by kernel_rfl) (by kernel_rfl) (by kernel_rfl) (fun _ _ _ h => h) (Or.inl ⟨by rfl, ?_⟩) (by first | exact HS.out | exact hSa _ | exact HS3.out) ?_
      rotate_left
      · intro Z hZ; clear hZ; go_simp; try with_reducible rfl
      simp only [Act.put, List.setIfInBounds_toArray, List.set_cons_zero, List.set_cons_succ]
      refine wpAnyH_take (i := 12) (oi := { dst := some 27, op := Go.Op.move (Go.Operand.tmp 8), type := 3, pos := "law.go:27", after := #[], guard := none }) (v := ?_) rfl (by kernel_rfl) (by kernel_rfl) (by kernel_rfl) (fun _ _ _ h => h) (Or.inl ⟨by rfl, ?_⟩) (by first | exact HS.out | exact hSa _ | exact HS3.out) ?_
      rotate_left
      · intro Z hZ; clear hZ; go_simp; try with_reducible rfl
      simp only [Act.put, List.setIfInBounds_toArray, List.set_cons_zero, List.set_cons_succ]
      refine wpAnyH_take (i := 13) (oi := { dst := some 28, op := Go.Op.indexAddr 22 (Go.Operand.tmp 26) (Go.Operand.tmp 27), type := 0, pos := "law.go:27", after := #[{ on := 11, ground := Go.Ground.data }, { on := 12, ground := Go.Ground.data }], guard := none }) (v := ?_) rfl (by kernel_rfl) (by kernel_rfl) (by kernel_rfl) (fun _ _ _ h => h) (Or.inl ⟨by rfl, ?_⟩) (by first | exact HS.out | exact hSa _ | exact HS3.out) ?_
      rotate_left
      · intro Z hZ; clear hZ; go_simp; try with_reducible rfl
      simp only [Act.put, List.setIfInBounds_toArray, List.set_cons_zero, List.set_cons_succ]
      refine wpAnyH_take (i := 14) (oi := { dst := some 29, op := Go.Op.fieldAddr 49 (Go.Operand.tmp 28) 2, type := 0, pos := "law.go:27", after := #[{ on := 13, ground := Go.Ground.data }], guard := none }) (v := ?_) rfl (by kernel_rfl) (by kernel_rfl) (by kernel_rfl) (fun _ _ _ h => h) (Or.inl ⟨by rfl, ?_⟩) (by first | exact HS.out | exact hSa _ | exact HS3.out) ?_
      rotate_left
      · intro Z hZ; clear hZ; go_simp; try with_reducible rfl
      simp only [Act.put, List.setIfInBounds_toArray, List.set_cons_zero, List.set_cons_succ]
      refine wpAnyH_take (i := 15) (oi := { dst := some 30, op := Go.Op.load 3 (Go.Operand.tmp 29), type := 3, pos := "law.go:27", after := #[{ on := 14, ground := Go.Ground.data }], guard := none }) (v := ?_) rfl (by kernel_rfl) (by kernel_rfl) (by kernel_rfl) (fun _ _ _ h => h) (Or.inl ⟨by rfl, ?_⟩) (by first | exact HS.out | exact hSa _ | exact HS3.out) ?_
      rotate_left
      · intro Z hZ; obtain ⟨z1, z2, z3⟩ := hZ; go_simp; try with_reducible rfl
      simp only [Act.put, List.setIfInBounds_toArray, List.set_cons_zero, List.set_cons_succ]
      refine wpAnyH_take (i := 16) (oi := { dst := some 31, op := Go.Op.build 34 #[(0, Go.Operand.tmp 20), (1, Go.Operand.tmp 25), (2, Go.Operand.tmp 30)], type := 34, pos := "law.go:27", after := #[{ on := 5, ground := Go.Ground.data }, { on := 10, ground := Go.Ground.data }, { on := 15, ground := Go.Ground.data }], guard := none }) (v := ?_) rfl (by kernel_rfl) (by kernel_rfl) (by kernel_rfl) (fun _ _ _ h => h) (Or.inl ⟨by rfl, ?_⟩) (by first | exact HS.out | exact hSa _ | exact HS3.out) ?_
      rotate_left
      · intro Z hZ; clear hZ; go_simp; try with_reducible rfl
      simp only [Act.put, List.setIfInBounds_toArray, List.set_cons_zero, List.set_cons_succ]
      refine wpAnyH_all (rs := [17]) (by kernel_rfl) (by simp) (List.forall_mem_cons.2 ⟨wpOp_some (o := { dst := some 32, op := Go.Op.buildSlice 31 1 #[(0, Go.Operand.tmp 31)], type := 31, pos := "law.go:27", after := #[{ on := 16, ground := Go.Ground.data }], guard := none }) rfl (by rfl) (fun J hJ => ?_), (by simp)⟩)
      go_simp; refine hJ _ _ ⟨by first | exact HS.out | exact hSa _ | exact HS3.out, ?_⟩; clear hJ J
      refine wpAnyH_all (rs := [18]) (by kernel_rfl) (by simp) (List.forall_mem_cons.2 ⟨wpOp_some (o := { dst := some 33, op := Go.Op.call { callee := Go.Callee.builtin Go.Builtin.append, args := #[Go.Operand.tmp 15, Go.Operand.tmp 32], argTypes := #[31, 31] }, type := 31, pos := "law.go:27", after := #[{ on := 0, ground := Go.Ground.data }, { on := 17, ground := Go.Ground.data }], guard := none }) rfl (by rfl) (fun J hJ => ?_), (by simp)⟩)
      refine wp_pushN (w0 := wr) (cs := #[.int .i64 x.f, .int .i64 x.t, .int .i64 x.v]) piece_elt HG.out.own HG.out.below.size rfl rfl rfl rfl rfl rfl rfl rfl (by unfold maxLen; omega) (by omega) ?_; intro A3 c3 w3 hp; have HE := Lib.hid (HG.out.push (x := x) (Below.refl _ _) hp); have HS3 := Lib.hid (hS3 _ hp.grown); clear hp; simp only [Act.put, List.setIfInBounds_toArray, List.set_cons_zero, List.set_cons_succ]; refine hJ _ _ ⟨by first | exact HS.out | exact hSa _ | exact HS3.out, ?_⟩; clear hJ J
      refine wpAnyH_take (i := 19) (oi := { dst := some 7, op := Go.Op.assign (Go.Operand.tmp 33), type := 31, pos := "law.go:27", after := #[{ on := 18, ground := Go.Ground.data }, { on := 18, ground := Go.Ground.chain }, { on := 0, ground := Go.Ground.phase }, { on := 1, ground := Go.Ground.phase }, { on := 2, ground := Go.Ground.phase }, { on := 3, ground := Go.Ground.phase }, { on := 4, ground := Go.Ground.phase }, { on := 5, ground := Go.Ground.phase }, { on := 6, ground := Go.Ground.phase }, { on := 7, ground := Go.Ground.phase }, { on := 8, ground := Go.Ground.phase }, { on := 9, ground := Go.Ground.phase }, { on := 10, ground := Go.Ground.phase }, { on := 11, ground := Go.Ground.phase }, { on := 12, ground := Go.Ground.phase }, { on := 13, ground := Go.Ground.phase }, { on := 14, ground := Go.Ground.phase }, { on := 15, ground := Go.Ground.phase }, { on := 16, ground := Go.Ground.phase }, { on := 17, ground := Go.Ground.phase }, { on := 18, ground := Go.Ground.phase }], guard := none }) (v := ?_) rfl (by kernel_rfl) (by kernel_rfl) (by kernel_rfl) (fun _ _ _ h => h) (Or.inl ⟨by rfl, ?_⟩) (by first | exact HS.out | exact hSa _ | exact HS3.out) ?_
      rotate_left
      · intro Z hZ; clear hZ; go_simp; try with_reducible rfl
      simp only [Act.put, List.setIfInBounds_toArray, List.set_cons_zero, List.set_cons_succ]
      refine wpAnyH_done (by kernel_rfl) ?_ _
      go_wp2_with fail
      go_roundw
      case rel => exact ⟨k + 1, _, _, by omega, by go_num, rfl, by rw [HK.out]; exact HE.out⟩
      case measure => simp [intOf]; omega
    · obtain rfl : k = L.length := by omega
      rw [List.take_length] at HG
      have C := Lib.hid (HR.out A' c' wr HG.out)
      go_wp2_with fail
      refine C.out.mono ?_
      rintro e w5 ⟨p, rfl, h5⟩
      have H5 := Lib.hid h5
      clear h5 C
      go_wp2
      go_ret
      exact ⟨p, rfl, H5.out⟩

/-- made, of a size that has numbers. -/
theorem made_any (m : Nat) (z : Int) (A : Option Addr) (c : Nat) (L : List (Pc Int)) (W : World) (hL : Li 3 encP W (fun _ => True) A L) (hn : L.length ≤ 10000) (hm1 : 1 ≤ m) (hm : m ≤ 100000) (hg : ∀ r, (Lit.int .i64 (pval L z r)).wf = true) :
    Calls Try.prog 9 #[.int .i64 m, .int .i64 z, .slice A L.length c] W (fun e w' => ∃ tb mb base hd Bs Ix l, e = .returned (.pointer (some ⟨tb, 0, none⟩)) ∧ BtI base (pval L z) m tb mb hd Bs Ix l w' ∧ Below W.heap.size W w') := by
  refine (made_with m z A c L W (fun p w' => ∃ tb mb base hd Bs Ix l, p = some ⟨tb, 0, none⟩ ∧ BtI base (pval L z) m tb mb hd Bs Ix l w' ∧ Below W.heap.size W w') hL hn fun A' c' X h => ?_).mono ?_
  · refine (build_any m z A' _ c' L X ((LiV.own encP_len (by decide) h.own).mono fun _ _ => trivial) hn hm1 hm hg).mono ?_
    rintro e w' ⟨tb, mb, hd, Bs, Ix, l, rfl, hB, hb⟩
    exact ⟨_, rfl, tb, mb, _, hd, Bs, Ix, l, rfl, hB, h.below.trans (hb.mono h.below.size)⟩
  · rintro e w' ⟨p, rfl, tb, mb, base, hd, Bs, Ix, l, rfl, h⟩
    exact ⟨tb, mb, base, hd, Bs, Ix, l, rfl, h⟩
/-- .. of a size that has none. -/
theorem made_none (s z : Int) (hs : s < 1) (A : Option Addr) (c : Nat) (L : List (Pc Int)) (W : World) (hL : Li 3 encP W (fun _ => True) A L) (hn : L.length ≤ 10000) :
    Calls Try.prog 9 #[.int .i64 s, .int .i64 z, .slice A L.length c] W (fun e w' => e = .returned (.pointer none) ∧ Below W.heap.size W w') := by
  refine (made_with s z A c L W (fun p w' => p = none ∧ Below W.heap.size W w') hL hn fun A' c' X h => ?_).mono ?_
  · refine (build_none s z _ hs X).mono ?_
    rintro e w' ⟨rfl, hb⟩
    exact ⟨_, rfl, rfl, h.below.trans (hb.mono h.below.size)⟩
  · rintro e w' ⟨p, rfl, rfl, h⟩
    exact ⟨rfl, h⟩
end Go.Proofs.Ytpbdamjpjpchiaa
