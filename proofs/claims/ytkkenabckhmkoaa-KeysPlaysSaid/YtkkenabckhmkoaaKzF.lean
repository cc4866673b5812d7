/- keys: all keys are the document's. -/
import Derived.Test.YtkkenabckhmkoaaKzE
namespace Go.Proofs.Ytkkenabckhmkoaa
open Go.RowKit
set_option linter.unusedVariables false
set_option linter.unusedSimpArgs false
set_option maxRecDepth 100000

theorem put9_cell {X : World} {g b o : Nat} {v : Value} (h1 : X.cell? ⟨b, o, none⟩ = some v) (hne : b ≠ g) (a0 a1 a2 a3 a4 a5 a6 a7 a8 : Value) : (put9 X g a0 a1 a2 a3 a4 a5 a6 a7 a8).cell? ⟨b, o, none⟩ = some v :=
  (World.cell?_of_block (a := ⟨b, o, none⟩) (put9_heap _ _ _ _ _ _ _ _ _ _ _ hne)).trans h1
theorem tick_small (s : KS) : (tickK s).2.length ≤ 1000000 ∧ ∀ y ∈ (tickK s).2, y.t.length ≤ 1000000 := by
  have h1 : ∀ y : Ky, y.t = [] → [y].length ≤ 1000000 ∧ ∀ z ∈ [y], z.t.length ≤ 1000000 := fun y h => ⟨by simp, fun z hz => by rw [List.mem_singleton.1 hz, h]; exact Nat.zero_le _⟩
  unfold tickK
  split
  · exact ⟨by simp, fun z hz => by simp at hz⟩
  split
  · exact h1 _ rfl
  split
  · exact h1 _ rfl
  · refine ⟨?_, fun y hy => by rw [charsK_bare _ _ y hy]; exact Nat.zero_le _⟩
    have := endD_len s.d
    rw [charsK_len]
    omega
theorem tx_tick (s : KS) : (tickK s).1.tx.length ≤ s.tx.length := by
  unfold tickK
  split
  · exact Nat.le_refl _
  split
  · exact Nat.zero_le _
  split
  · exact Nat.zero_le _
  · exact Nat.zero_le _
theorem waits_same (s : KS) (hg : Good s) : waitsK s = (!(s.w == 0) || !((waitS s.d).toList == [])) := by
  unfold waitsK
  congr 1
  have h := waitB_len s.d hg.2.1.1
  by_cases hn : s.d.n = 0
  · have e : waitS s.d = ⟨#[]⟩ := by unfold waitS waitB; rw [hn]; rfl
    rw [e, hn]
    decide +kernel
  · have e : ¬ waitS s.d = ⟨#[]⟩ := by
      intro e
      have h2 : (waitS s.d).size = (waitB s.d).length := strOfNums_size _
      rw [e] at h2
      have h3 : (⟨#[]⟩ : ByteArray).size = 0 := rfl
      omega
    rw [ba_noL (l := []) e, decide_eq_true (by omega)]
    rfl
/-- What a round has behind the step. -/
def SteppedK (w : World) (gq : Nat) (R : KS) (T : Option Addr) (k : Nat) (v7 v8 : Value) (X : World) : Prop :=
  ∃ (R' : KS) (T' : Option Addr) (ks : List Ky), (PS w w.heap.size R T X ∧ Blk X gq (psC R' T') ∧ Chain X T' R'.tx ∧ KyW X v7 ks) ∧ (KyW X v8 ks ∧ Blk X (w.heap.size + 1) (rOf R')) ∧ Good R' ∧ R'.tx.length ≤ k + 1 ∧ ks.length ≤ 1000000 ∧ ∀ y ∈ ks, y.t.length ≤ 1000000
theorem steppedK {w Z w3 : World} {gq : Nat} {R R' r : KS} {T T' : Option Addr} {k : Nat} {v7 v8 : Value} {ks : List Ky} (h : PS w w.heap.size R T Z ∧ Blk Z gq (psC R' T') ∧ Chain Z T' R'.tx ∧ KyW Z v7 ks) (hr : Blk Z (w.heap.size + 1) (rOf r)) (hB : But (w.heap.size + 1) Z w3) (h8 : KyW w3 v8 ks) (hr3 : Blk w3 (w.heap.size + 1) (rOf R')) (hne : w.heap.size + 1 < gq) (hg : Good R') (ht : R'.tx.length ≤ k + 1) (hl : ks.length ≤ 1000000) (hy : ∀ y ∈ ks, y.t.length ≤ 1000000) : SteppedK w gq R T k v7 v8 w3 :=
  ⟨R', T', ks, ⟨ps_but h.1 hr hB (Nat.ne_of_lt (Nat.lt_succ_self _)) (Nat.le_succ _), blk_but h.2.1 hB (Nat.ne_of_gt hne), chain_but hr hB h.2.2.1, kyW_but h.2.2.2 hr hB⟩, ⟨h8, hr3⟩, hg, ht, hl, hy⟩

set_option maxHeartbeats 16000000 in
theorem walk_KeysPlays (w : World) (A : Option Addr) (n c : Nat) (p : Nat → Int) (hA : Rd w A n (fun j => .int .i64 (p j))) (hle : n ≤ c) (hmax : c ≤ maxLen) (hp : ∀ j, j < n → (Lit.int .i64 (p j)).wf = true) :
    Calls Try.prog 3 #[.slice A n c] w (Yes w) := by
  unfold maxLen at hmax
  have HA := Lib.hid hA
  have HP := Lib.hid (fun j (hj : j < n) => wf_i64 (hp j hj))
  have HW := Lib.hid awake_yes
  have hn9 : (n : Int) ≤ 9223372036854775807 := by omega
  clear hA hp hle hmax
  go_enter Try.func3, Try.ntmps3
  go_upto_region 3 with fail
  refine at_world (fun X => (PS w w.heap.size KS.zero none X ∧ Blk X (w.heap.size + 1) (rOf KS.zero))) ⟨(ps_start (Below.refl _ _) 28).later (belAlloc _ _), by have h := blk_new (w.alloc (.cells zeroC 28)) (rC 0 ⟨#[]⟩ ⟨#[]⟩ false) 31; rw [World.size_alloc] at h; exact h⟩ ?_
  intro X hX
  have V0 := Lib.hid hX
  clear hX
  go_wp2_with fail
  go_loopw [5] (fun i wr => ∃ (k : Nat) (R : KS) (T : Option Addr), k ≤ n ∧ k ≤ 400 ∧ i = .int .i64 (k : Nat) ∧ Hid ((PS w w.heap.size R T wr ∧ Blk wr (w.heap.size + 1) (rOf R)) ∧ Good R ∧ R.tx.length ≤ k)) (fun i _ => n - (intOf i).toNat)
  case atStart => exact ⟨0, KS.zero, none, Nat.zero_le _, Nat.zero_le _, rfl, V0.out, good_zero, Nat.zero_le _⟩
  case round =>
    obtain ⟨k, R, T, hk, hk4, rfl, HI⟩ := hrel
    clear V0
    by_cases hgo : k < n ∧ k < 400
    · obtain ⟨hlt, hlt4⟩ := hgo
      have hi1 : (k : Int) < (n : Int) := by omega
      have hi2 : (k : Int) < 400 := by omega
      obtain ⟨b, o, rfl, hbl, hc0⟩ := HA.out k hlt
      dsimp only at hc0
      obtain ⟨hr0, hr1⟩ := HP.out k hlt
      obtain ⟨x, hx⟩ : ∃ x, p k = x := ⟨_, rfl⟩
      rw [hx] at hc0 hr0 hr1
      have HC := Lib.hid (And.intro hbl hc0)
      clear hx hc0
      have VI := Lib.hid (show PS w w.heap.size R T wr ∧ Blk wr (w.heap.size + 1) (rOf R) from HI.out.1)
      go_upto_region 7 with fail
      refine at_world (fun X => PS w w.heap.size R T X ∧ Blk X (w.heap.size + 1) (rOf R) ∧ Blk X wr.heap.size zeroC) ⟨VI.out.1.later (belAlloc _ _), VI.out.2.alloc _, blk_new _ _ _⟩ ?_
      obtain ⟨gq, hgq0⟩ : ∃ gq, wr.heap.size = gq := ⟨_, rfl⟩
      have hgr1 : w.heap.size + 1 < gq := by rw [← hgq0]; exact VI.out.2.1
      rw [hgq0]
      clear hgq0 VI
      intro X hX
      have VX := Lib.hid hX.1
      have VR := Lib.hid hX.2.1
      have VQ := Lib.hid hX.2.2
      clear hX
      have hgw : w.heap.size < gq := by omega
      have hgq : gq ≠ w.heap.size := by omega
      have hgr : gq ≠ w.heap.size + 1 := by omega
      have hbl2 : b < X.heap.size := Nat.lt_of_lt_of_le hbl VX.out.below.size
      have hbq : b ≠ gq := by omega
      have hcw : X.cell? ⟨b, o + k, none⟩ = some (.int .i64 x) := (VX.out.below.cell (p := ⟨b, o + k, none⟩) hbl).trans HC.out.2
      have htx := HI.out.2.2
      have HG := Lib.hid HI.out.2.1
      clear HI
      obtain ⟨rv, hrv⟩ : ∃ rv, rOf R = rv := ⟨_, rfl⟩
      have HRV := Lib.hid hrv
      rw [hrv] at VR
      clear hrv
      obtain ⟨bx, hbx⟩ : ∃ bx, (decide (0 ≤ x) && decide (x ≤ 255)) = bx := ⟨_, rfl⟩
      have hcut1 : ∀ d1 d2, decide (0 ≤ x) = d1 → decide (x ≤ 255) = d2 → (d1 && d2) = bx := by rintro _ _ rfl rfl; exact hbx
      go_upto_region 8 with fail
      go_cut [32] (fun v32 wx => v32 = .bool bx ∧ X = wx)
      case first =>
        by_cases h0 : 0 ≤ x
        · by_cases h1 : x ≤ 255
          · have d1 : decide (0 ≤ x) = true := decide_eq_true h0
            have d2 : decide (x ≤ 255) = true := decide_eq_true h1
            have e : bx = true := by rw [← hcut1 _ _ d1 d2]; rfl
            subst e
            clear hcut1 hbx
            go_wp2_with fail
            go_meet
            first | exact ⟨rfl, rfl⟩ | trivial
          · have d1 : decide (0 ≤ x) = true := decide_eq_true h0
            have d2 : decide (x ≤ 255) = false := decide_eq_false h1
            have e : bx = false := by rw [← hcut1 _ _ d1 d2]; rfl
            subst e
            clear hcut1 hbx
            go_wp2_with fail
            go_meet
            first | exact ⟨rfl, rfl⟩ | trivial
        · have d1 : decide (0 ≤ x) = false := decide_eq_false h0
          have e : bx = false := by rw [← hcut1 _ _ d1 rfl]; rfl
          subst e
          clear hcut1 hbx
          go_wp2_with fail
          go_meet
          first | exact ⟨rfl, rfl⟩ | trivial
      case rest =>
        obtain ⟨rfl, rfl⟩ := hcut
        clear hcut1
        go_upto_if 32 with fail
        go_cut [7, 8] (fun v7 v8 wx => ∃ A7 n7 c7 A8 n8 c8, v7 = .slice A7 n7 c7 ∧ v8 = .slice A8 n8 c8 ∧ Hid (SteppedK w gq R T k v7 v8 wx))
        case first =>
          cases bx
          case true =>
            have h01 : 0 ≤ x ∧ x ≤ 255 := by simpa using hbx
            obtain ⟨h0, h1⟩ := h01
            have hwr : IntKind.u8.wrap x = x := by rw [IntKind.wrap_u8]; omega
            have hgd := good_feed R HG.out x h0 h1 (by omega)
            have htf := tx_feed R x
            have hsm := feedK_small R x 400 (by omega) (by omega)
            obtain ⟨⟨⟨rw_, ⟨xa, ya, za, nd⟩, rm, rrow, rtx, rcl⟩, ks⟩, hfd⟩ : ∃ r, feedK R x = r := ⟨_, rfl⟩
            have CF := Lib.hid (show ∀ Z, PS w w.heap.size R T Z → Below X.heap.size X Z → Calls Try.prog 7 #[psV R T, .int .u8 x] Z (Tells (⟨rw_, ⟨xa, ya, za, nd⟩, rm, rrow, rtx, rcl⟩, ks) Z) from fun Z hZ _ => by rw [← hfd]; exact feed_any R T _ h0 h1 HG.out.1 Z hZ.chain)
            have CR := Lib.hid (show ∀ Z, Blk Z (w.heap.size + 1) rv → Calls Try.prog 8 #[.pointer (some ⟨w.heap.size + 1, 0, none⟩), .int .u8 x] Z (TellsR (⟨rw_, ⟨xa, ya, za, nd⟩, rm, rrow, rtx, rcl⟩, ks) (w.heap.size + 1) Z) from fun Z hZ => by rw [← hfd]; exact rfeed_any R HG.out _ h0 h1 _ Z (by rw [HRV.out]; exact hZ))
            rw [hfd] at hgd htf hsm
            have HF := Lib.hid (And.intro hgd (And.intro (show (⟨rw_, ⟨xa, ya, za, nd⟩, rm, rrow, rtx, rcl⟩ : KS).tx.length ≤ k + 1 by dsimp only at htf ⊢; omega) hsm))
            have HRR := Lib.hid HRV.out
            clear hfd hgd htf htx hsm HG hbx
            obtain ⟨sw, ⟨h0_, h1_, h2_, dn⟩, sm, srow, stx, scl⟩ := R
            have HS := Lib.hid (show ∀ Z, Below X.heap.size X Z → (fun Z => SO w.heap.size ⟨sw, ⟨h0_, h1_, h2_, dn⟩, sm, srow, stx, scl⟩ T Z ∧ Z.cell? ⟨b, o + k, none⟩ = some (.int .i64 x)) Z from fun Z hZ => ⟨so_blk (VX.out.later hZ).p, (hZ.cell (p := ⟨b, o + k, none⟩) hbl2).trans hcw⟩)
            go_upto_region 9 with fail
            refine wp_region_held (S := fun Z => SO w.heap.size ⟨sw, ⟨h0_, h1_, h2_, dn⟩, sm, srow, stx, scl⟩ T Z ∧ Z.cell? ⟨b, o + k, none⟩ = some (.int .i64 x)) (by kernel_rfl) ?_
            change wpAnyH _ _ _ _ _ _ _ _ (World.drew _)
            refine wpAnyH_take (i := 0) (oi := { dst := some 34, op := Go.Op.load 28 (Go.Operand.tmp 3), type := 28, pos := "law.go:38", after := #[], guard := none }) (v := ?_) rfl (by kernel_rfl) (by kernel_rfl) (by kernel_rfl) (fun _ _ _ h => h) (Or.inl ⟨by rfl, ?_⟩) (by exact HS.out _ (Below.refl X.heap.size X).drew) ?_
            rotate_left
            · intro Z hZ; obtain ⟨⟨p0, p1, p2, p3, p4, p5, p6, p7, p8⟩, p9⟩ := hZ; dsimp only at p0 p1 p2 p3 p4 p5 p6 p7 p8; go_simp; try with_reducible rfl
            simp only [Act.put, List.setIfInBounds_toArray, List.set_cons_zero, List.set_cons_succ]
            refine wpAnyH_take (i := 1) (oi := { dst := some 35, op := Go.Op.move (Go.Operand.tmp 0), type := 22, pos := "law.go:38", after := #[], guard := none }) (v := ?_) rfl (by kernel_rfl) (by kernel_rfl) (by kernel_rfl) (fun _ _ _ h => h) (Or.inl ⟨by rfl, ?_⟩) (by exact HS.out _ (Below.refl X.heap.size X).drew) ?_
            rotate_left
            · intro Z hZ; clear hZ; go_simp; try with_reducible rfl
            simp only [Act.put, List.setIfInBounds_toArray, List.set_cons_zero, List.set_cons_succ]
            refine wpAnyH_take (i := 2) (oi := { dst := some 36, op := Go.Op.move (Go.Operand.tmp 5), type := 3, pos := "law.go:38", after := #[], guard := none }) (v := ?_) rfl (by kernel_rfl) (by kernel_rfl) (by kernel_rfl) (fun _ _ _ h => h) (Or.inl ⟨by rfl, ?_⟩) (by exact HS.out _ (Below.refl X.heap.size X).drew) ?_
            rotate_left
            · intro Z hZ; clear hZ; go_simp; try with_reducible rfl
            simp only [Act.put, List.setIfInBounds_toArray, List.set_cons_zero, List.set_cons_succ]
            refine wpAnyH_take (i := 3) (oi := { dst := some 37, op := Go.Op.indexAddr 22 (Go.Operand.tmp 35) (Go.Operand.tmp 36), type := 0, pos := "law.go:38", after := #[{ on := 1, ground := Go.Ground.data }, { on := 2, ground := Go.Ground.data }], guard := none }) (v := ?_) rfl (by kernel_rfl) (by kernel_rfl) (by kernel_rfl) (fun _ _ _ h => h) (Or.inl ⟨by rfl, ?_⟩) (by exact HS.out _ (Below.refl X.heap.size X).drew) ?_
            rotate_left
            · intro Z hZ; clear hZ; go_simp; try with_reducible rfl
            simp only [Act.put, List.setIfInBounds_toArray, List.set_cons_zero, List.set_cons_succ]
            refine wpAnyH_take (i := 4) (oi := { dst := some 38, op := Go.Op.load 33 (Go.Operand.tmp 37), type := 33, pos := "law.go:38", after := #[{ on := 3, ground := Go.Ground.data }], guard := none }) (v := ?_) rfl (by kernel_rfl) (by kernel_rfl) (by kernel_rfl) (fun _ _ _ h => h) (Or.inl ⟨by rfl, ?_⟩) (by exact HS.out _ (Below.refl X.heap.size X).drew) ?_
            rotate_left
            · intro Z hZ; obtain ⟨⟨p0, p1, p2, p3, p4, p5, p6, p7, p8⟩, p9⟩ := hZ; dsimp only at p0 p1 p2 p3 p4 p5 p6 p7 p8; go_simp; try with_reducible rfl
            simp only [Act.put, List.setIfInBounds_toArray, List.set_cons_zero, List.set_cons_succ]
            refine wpAnyH_take (i := 5) (oi := { dst := some 39, op := Go.Op.convert 33 5 (Go.Operand.tmp 38), type := 5, pos := "law.go:38", after := #[{ on := 4, ground := Go.Ground.data }], guard := none }) (v := ?_) rfl (by kernel_rfl) (by kernel_rfl) (by kernel_rfl) (fun _ _ _ h => h) (Or.inl ⟨by rfl, ?_⟩) (by exact HS.out _ (Below.refl X.heap.size X).drew) ?_
            rotate_left
            · intro Z hZ; clear hZ; go_simp; try with_reducible rfl
            simp only [Act.put, List.setIfInBounds_toArray, List.set_cons_zero, List.set_cons_succ]
            refine wpAnyH_all (rs := [6]) (by kernel_rfl) (by simp) (List.forall_mem_cons.2 ⟨wpOp_some (o := { dst := some 40, op := Go.Op.call { callee := Go.Callee.value (Go.Operand.func 7), args := #[Go.Operand.tmp 34, Go.Operand.tmp 39], argTypes := #[28, 5] }, type := 34, pos := "law.go:38", after := #[{ on := 0, ground := Go.Ground.data }, { on := 5, ground := Go.Ground.data }], guard := none }) rfl (by rfl) (fun J hJ => ?_), (by simp)⟩)
            go_simp; refine (CF.out _ (VX.out.later (by exact (Below.refl X.heap.size X).drew)) (by exact (Below.refl X.heap.size X).drew)).mono ?_; rintro e w6 ⟨T6, A6, n6, c6, rfl, ch, hk, hn, b6⟩; have V6 := Lib.hid (And.intro (VX.out.later (((Below.refl X.heap.size X).drew).trans b6)) (And.intro ch (And.intro hk (And.intro hn (((Below.refl X.heap.size X).drew).trans b6))))); have Z6 := Lib.hid (VQ.out.later (((Below.refl X.heap.size X).drew).trans b6) VQ.out.1); clear ch hk hn b6; dsimp only; refine hJ _ _ ⟨by exact ⟨so_blk V6.out.1.p, (V6.out.2.2.2.2.cell (p := ⟨b, o + k, none⟩) hbl2).trans hcw⟩, ?_⟩; clear hJ J
            refine wpAnyH_take (i := 7) (oi := { dst := some 33, op := Go.Op.move (Go.Operand.tmp 40), type := 34, pos := "law.go:38", after := #[{ on := 6, ground := Go.Ground.data }], guard := none }) (v := ?_) rfl (by kernel_rfl) (by kernel_rfl) (by kernel_rfl) (fun _ _ _ h => h) (Or.inl ⟨by rfl, ?_⟩) (by exact ⟨so_blk V6.out.1.p, (V6.out.2.2.2.2.cell (p := ⟨b, o + k, none⟩) hbl2).trans hcw⟩) ?_
            rotate_left
            · intro Z hZ; clear hZ; go_simp; try with_reducible rfl
            simp only [Act.put, List.setIfInBounds_toArray, List.set_cons_zero, List.set_cons_succ]
            refine wpAnyH_take (i := 8) (oi := { dst := some 41, op := Go.Op.extract (Go.Operand.tmp 33) 0, type := 28, pos := "law.go:38", after := #[{ on := 7, ground := Go.Ground.data }], guard := none }) (v := ?_) rfl (by kernel_rfl) (by kernel_rfl) (by kernel_rfl) (fun _ _ _ h => h) (Or.inl ⟨by rfl, ?_⟩) (by exact ⟨so_blk V6.out.1.p, (V6.out.2.2.2.2.cell (p := ⟨b, o + k, none⟩) hbl2).trans hcw⟩) ?_
            rotate_left
            · intro Z hZ; clear hZ; go_simp; try with_reducible rfl
            simp only [Act.put, List.setIfInBounds_toArray, List.set_cons_zero, List.set_cons_succ]
            refine wpAnyH_take (i := 9) (oi := { dst := some 42, op := Go.Op.extract (Go.Operand.tmp 33) 1, type := 32, pos := "law.go:38", after := #[{ on := 7, ground := Go.Ground.data }, { on := 10, ground := Go.Ground.gcOnly Go.Departure.lateStores }], guard := none }) (v := ?_) rfl (by kernel_rfl) (by kernel_rfl) (by kernel_rfl) (fun _ _ _ h => h) (Or.inl ⟨by rfl, ?_⟩) (by exact ⟨so_blk V6.out.1.p, (V6.out.2.2.2.2.cell (p := ⟨b, o + k, none⟩) hbl2).trans hcw⟩) ?_
            rotate_left
            · intro Z hZ; clear hZ; go_simp; try with_reducible rfl
            simp only [Act.put, List.setIfInBounds_toArray, List.set_cons_zero, List.set_cons_succ]
            refine wpAnyH_all (rs := [10]) (by kernel_rfl) (by simp) (List.forall_mem_cons.2 ⟨wpOp_some (o := { dst := none, op := Go.Op.store 28 (Go.Operand.tmp 6) (Go.Operand.tmp 41), type := 0, pos := "law.go:38", after := #[{ on := 8, ground := Go.Ground.data }, { on := 6, ground := Go.Ground.chain }, { on := 0, ground := Go.Ground.phase }, { on := 1, ground := Go.Ground.phase }, { on := 2, ground := Go.Ground.phase }, { on := 3, ground := Go.Ground.phase }, { on := 4, ground := Go.Ground.phase }, { on := 5, ground := Go.Ground.phase }, { on := 6, ground := Go.Ground.phase }, { on := 7, ground := Go.Ground.phase }, { on := 8, ground := Go.Ground.phase }, { on := 9, ground := Go.Ground.textOnly Go.Departure.lateStores }], guard := none }) rfl (by rfl) (fun J hJ => ?_), (by simp)⟩)
            obtain ⟨y6, r6, j6⟩ := (show _ from Z6.out); have q0 : w6.cell? ⟨gq, 0, none⟩ = some (.int .i64 0) := r6 0; have q1 : w6.cell? ⟨gq, 1, none⟩ = some (.int .u8 0) := r6 1; have q2 : w6.cell? ⟨gq, 2, none⟩ = some (.int .u8 0) := r6 2; have q3 : w6.cell? ⟨gq, 3, none⟩ = some (.int .u8 0) := r6 3; have q4 : w6.cell? ⟨gq, 4, none⟩ = some (.int .i64 0) := r6 4; have q5 : w6.cell? ⟨gq, 5, none⟩ = some (.bool false) := r6 5; have q6 : w6.cell? ⟨gq, 6, none⟩ = some (.string ⟨#[]⟩) := r6 6; have q7 : w6.cell? ⟨gq, 7, none⟩ = some (.pointer none) := r6 7; have q8 : w6.cell? ⟨gq, 8, none⟩ = some (.int .i64 0) := r6 8; have f0 : w6.frozen? ⟨gq, 0, none⟩ = false := j6 0; have f1 : w6.frozen? ⟨gq, 1, none⟩ = false := j6 1; have f2 : w6.frozen? ⟨gq, 2, none⟩ = false := j6 2; have f3 : w6.frozen? ⟨gq, 3, none⟩ = false := j6 3; have f4 : w6.frozen? ⟨gq, 4, none⟩ = false := j6 4; have f5 : w6.frozen? ⟨gq, 5, none⟩ = false := j6 5; have f6 : w6.frozen? ⟨gq, 6, none⟩ = false := j6 6; have f7 : w6.frozen? ⟨gq, 7, none⟩ = false := j6 7; have f8 : w6.frozen? ⟨gq, 8, none⟩ = false := j6 8; clear r6 j6; go_simp; refine hJ _ _ ⟨by exact ⟨so_blk (put9_far V6.out.1.p hgq _ _ _ _ _ _ _ _ _), put9_cell ((V6.out.2.2.2.2.cell (p := ⟨b, o + k, none⟩) hbl2).trans hcw) hbq _ _ _ _ _ _ _ _ _⟩, ?_⟩; clear hJ J
            refine wpAnyH_take (i := 11) (oi := { dst := some 7, op := Go.Op.assign (Go.Operand.tmp 42), type := 32, pos := "law.go:38", after := #[{ on := 9, ground := Go.Ground.data }, { on := 10, ground := Go.Ground.chain }, { on := 0, ground := Go.Ground.phase }, { on := 1, ground := Go.Ground.phase }, { on := 2, ground := Go.Ground.phase }, { on := 3, ground := Go.Ground.phase }, { on := 4, ground := Go.Ground.phase }, { on := 5, ground := Go.Ground.phase }, { on := 6, ground := Go.Ground.phase }, { on := 7, ground := Go.Ground.phase }, { on := 8, ground := Go.Ground.phase }, { on := 9, ground := Go.Ground.phase }, { on := 10, ground := Go.Ground.phase }], guard := none }) (v := ?_) rfl (by kernel_rfl) (by kernel_rfl) (by kernel_rfl) (fun _ _ _ h => h) (Or.inl ⟨by rfl, ?_⟩) (by exact ⟨so_blk (put9_far V6.out.1.p hgq _ _ _ _ _ _ _ _ _), put9_cell ((V6.out.2.2.2.2.cell (p := ⟨b, o + k, none⟩) hbl2).trans hcw) hbq _ _ _ _ _ _ _ _ _⟩) ?_
            rotate_left
            · intro Z hZ; clear hZ; go_simp; try with_reducible rfl
            simp only [Act.put, List.setIfInBounds_toArray, List.set_cons_zero, List.set_cons_succ]
            refine wpAnyH_done (by kernel_rfl) ?_ _
            go_upto_region 10 with fail
            refine at_world (fun Z => (PS w w.heap.size ⟨sw, ⟨h0_, h1_, h2_, dn⟩, sm, srow, stx, scl⟩ T Z ∧ Blk Z gq (psC ⟨rw_, ⟨xa, ya, za, nd⟩, rm, rrow, rtx, rcl⟩ T6) ∧ Chain Z T6 (⟨rw_, ⟨xa, ya, za, nd⟩, rm, rrow, rtx, rcl⟩ : KS).tx ∧ KyW Z (.slice A6 n6 c6) ks) ∧ Blk Z (w.heap.size + 1) rv) ⟨⟨ps_put (s := KS.zero) (T := none) V6.out.1 Z6.out hgq (Nat.le_of_lt hgw) _ _ _ _ _ _ _ _ _, put9_blk Z6.out _ _ _ _ _ _ _ _ _, chain_put9 Z6.out _ _ _ _ _ _ _ _ _ V6.out.2.1, kyW_put9 V6.out.2.2.1 Z6.out _ _ _ _ _ _ _ _ _⟩, put9_far (VR.out.later V6.out.2.2.2.2 VR.out.1) hgr _ _ _ _ _ _ _ _ _⟩ ?_
            intro Z hZ
            have VZ := Lib.hid hZ
            have hcZ : Z.cell? ⟨b, o + k, none⟩ = some (.int .i64 x) := (hZ.1.1.below.cell (p := ⟨b, o + k, none⟩) hbl).trans HC.out.2
            clear hZ V6 Z6 HS hcw q0 q1 q2 q3 q4 q5 q6 q7 q8 f0 f1 f2 f3 f4 f5 f6 f7 f8 y6
            go_wp2_with (go_at_call 8; refine (CR.out _ VZ.out.2).mono ?_; rintro e w3 ⟨A8, n8, c8, rfl, hb8, hk8, hn8, hB8⟩; have V8 := Lib.hid (steppedK (r := ⟨sw, ⟨h0_, h1_, h2_, dn⟩, sm, srow, stx, scl⟩) (R := ⟨sw, ⟨h0_, h1_, h2_, dn⟩, sm, srow, stx, scl⟩) (T := T) (k := k) VZ.out.1 (by rw [HRR.out]; exact VZ.out.2) hB8 hk8 hb8 hgr1 HF.out.1 HF.out.2.1 HF.out.2.2.1 HF.out.2.2.2); clear hb8 hk8 hn8 hB8)
            go_meet
            exact ⟨A6, n6, c6, A8, n8, c8, rfl, rfl, V8⟩
          case false =>
            have hgd := good_tick R HG.out
            have htf := tx_tick R
            have hsm := tick_small R
            obtain ⟨⟨⟨rw_, ⟨xa, ya, za, nd⟩, rm, rrow, rtx, rcl⟩, ks⟩, hfd⟩ : ∃ r, tickK R = r := ⟨_, rfl⟩
            have CF := Lib.hid (show ∀ Z, PS w w.heap.size R T Z → Calls Try.prog 9 #[psV R T] Z (Tells (⟨rw_, ⟨xa, ya, za, nd⟩, rm, rrow, rtx, rcl⟩, ks) Z) from fun Z hZ => by rw [← hfd]; exact tick_any R T HG.out.1 Z hZ.chain)
            have CR := Lib.hid (show ∀ Z, Blk Z (w.heap.size + 1) rv → Calls Try.prog 10 #[.pointer (some ⟨w.heap.size + 1, 0, none⟩)] Z (TellsR (⟨rw_, ⟨xa, ya, za, nd⟩, rm, rrow, rtx, rcl⟩, ks) (w.heap.size + 1) Z) from fun Z hZ => by rw [← hfd]; exact rtick_any R HG.out _ Z (by rw [HRV.out]; exact hZ))
            rw [hfd] at hgd htf hsm
            have HF := Lib.hid (And.intro hgd (And.intro (show (⟨rw_, ⟨xa, ya, za, nd⟩, rm, rrow, rtx, rcl⟩ : KS).tx.length ≤ k + 1 by dsimp only at htf ⊢; omega) hsm))
            have HRR := Lib.hid HRV.out
            clear hfd hgd htf htx hsm HG hbx
            obtain ⟨sw, ⟨h0_, h1_, h2_, dn⟩, sm, srow, stx, scl⟩ := R
            obtain ⟨yd, kd, jd⟩ := (show _ from VX.out.p)
            have d0 : X.cell? ⟨w.heap.size, 0, none⟩ = _ := kd 0
            have d1 : X.cell? ⟨w.heap.size, 1, none⟩ = _ := kd 1
            have d2 : X.cell? ⟨w.heap.size, 2, none⟩ = _ := kd 2
            have d3 : X.cell? ⟨w.heap.size, 3, none⟩ = _ := kd 3
            have d4 : X.cell? ⟨w.heap.size, 4, none⟩ = _ := kd 4
            have d5 : X.cell? ⟨w.heap.size, 5, none⟩ = _ := kd 5
            have d6 : X.cell? ⟨w.heap.size, 6, none⟩ = _ := kd 6
            have d7 : X.cell? ⟨w.heap.size, 7, none⟩ = _ := kd 7
            have d8 : X.cell? ⟨w.heap.size, 8, none⟩ = _ := kd 8
            simp at d0 d1 d2 d3 d4 d5 d6 d7 d8
            clear kd jd
            go_upto_region 12 with (go_at_call 9; refine (CF.out _ VX.out).mono ?_; rintro e w6 ⟨T6, A6, n6, c6, rfl, ch, hk_, hn, b6⟩; have V6 := Lib.hid (And.intro (VX.out.later b6) (And.intro ch (And.intro hk_ (And.intro hn b6)))); have Z6 := Lib.hid (VQ.out.later b6 VQ.out.1); clear ch hk_ hn b6; obtain ⟨y6, r6, j6⟩ := (show _ from Z6.out); have q0 : w6.cell? ⟨gq, 0, none⟩ = some (.int .i64 0) := r6 0; have q1 : w6.cell? ⟨gq, 1, none⟩ = some (.int .u8 0) := r6 1; have q2 : w6.cell? ⟨gq, 2, none⟩ = some (.int .u8 0) := r6 2; have q3 : w6.cell? ⟨gq, 3, none⟩ = some (.int .u8 0) := r6 3; have q4 : w6.cell? ⟨gq, 4, none⟩ = some (.int .i64 0) := r6 4; have q5 : w6.cell? ⟨gq, 5, none⟩ = some (.bool false) := r6 5; have q6 : w6.cell? ⟨gq, 6, none⟩ = some (.string ⟨#[]⟩) := r6 6; have q7 : w6.cell? ⟨gq, 7, none⟩ = some (.pointer none) := r6 7; have q8 : w6.cell? ⟨gq, 8, none⟩ = some (.int .i64 0) := r6 8; have f0 : w6.frozen? ⟨gq, 0, none⟩ = false := j6 0; have f1 : w6.frozen? ⟨gq, 1, none⟩ = false := j6 1; have f2 : w6.frozen? ⟨gq, 2, none⟩ = false := j6 2; have f3 : w6.frozen? ⟨gq, 3, none⟩ = false := j6 3; have f4 : w6.frozen? ⟨gq, 4, none⟩ = false := j6 4; have f5 : w6.frozen? ⟨gq, 5, none⟩ = false := j6 5; have f6 : w6.frozen? ⟨gq, 6, none⟩ = false := j6 6; have f7 : w6.frozen? ⟨gq, 7, none⟩ = false := j6 7; have f8 : w6.frozen? ⟨gq, 8, none⟩ = false := j6 8; clear r6 j6)
            refine at_world (fun Z => (PS w w.heap.size ⟨sw, ⟨h0_, h1_, h2_, dn⟩, sm, srow, stx, scl⟩ T Z ∧ Blk Z gq (psC ⟨rw_, ⟨xa, ya, za, nd⟩, rm, rrow, rtx, rcl⟩ T6) ∧ Chain Z T6 (⟨rw_, ⟨xa, ya, za, nd⟩, rm, rrow, rtx, rcl⟩ : KS).tx ∧ KyW Z (.slice A6 n6 c6) ks) ∧ Blk Z (w.heap.size + 1) rv) ⟨⟨ps_put (s := KS.zero) (T := none) V6.out.1 Z6.out hgq (Nat.le_of_lt hgw) _ _ _ _ _ _ _ _ _, put9_blk Z6.out _ _ _ _ _ _ _ _ _, chain_put9 Z6.out _ _ _ _ _ _ _ _ _ V6.out.2.1, kyW_put9 V6.out.2.2.1 Z6.out _ _ _ _ _ _ _ _ _⟩, put9_far (VR.out.later V6.out.2.2.2.2 VR.out.1) hgr _ _ _ _ _ _ _ _ _⟩ ?_
            intro Z hZ
            have VZ := Lib.hid hZ
            clear hZ V6 Z6 hcw q0 q1 q2 q3 q4 q5 q6 q7 q8 f0 f1 f2 f3 f4 f5 f6 f7 f8 y6 yd d0 d1 d2 d3 d4 d5 d6 d7 d8
            go_wp2_with (go_at_call 10; refine (CR.out _ VZ.out.2).mono ?_; rintro e w3 ⟨A8, n8, c8, rfl, hb8, hk8, hn8, hB8⟩; have V8 := Lib.hid (steppedK (r := ⟨sw, ⟨h0_, h1_, h2_, dn⟩, sm, srow, stx, scl⟩) (R := ⟨sw, ⟨h0_, h1_, h2_, dn⟩, sm, srow, stx, scl⟩) (T := T) (k := k) VZ.out.1 (by rw [HRR.out]; exact VZ.out.2) hB8 hk8 hb8 hgr1 HF.out.1 HF.out.2.1 HF.out.2.2.1 HF.out.2.2.2); clear hb8 hk8 hn8 hB8)
            go_meet
            exact ⟨A6, n6, c6, A8, n8, c8, rfl, rfl, V8⟩
        case rest =>
          obtain ⟨A7, n7, c7, A8, n8, c8, rfl, rfl, V8⟩ := hcut
          obtain ⟨R2, T2, ks, hp1, hp2, hg2, htx2, hl2, hy2⟩ := V8.out
          have VC := Lib.hid (And.intro hp1 hp2)
          have HF := Lib.hid (And.intro hg2 (And.intro htx2 (And.intro hl2 hy2)))
          have hws := waits_same R2 hg2
          clear V8 hp1 hp2 hg2 htx2 hl2 hy2 htx VX VR VQ HG HRV hcw hbx
          obtain ⟨sw, ⟨h0_, h1_, h2_, dn⟩, sm, srow, stx, scl⟩ := R2
          obtain ⟨ye, ke, je⟩ := (show _ from VC.out.1.2.1)
          obtain ⟨yd, kd, jd⟩ := (show _ from VC.out.1.1.p)
          have e0 : wc.cell? ⟨gq, 0, none⟩ = _ := ke 0
          have e1 : wc.cell? ⟨gq, 1, none⟩ = _ := ke 1
          have e2 : wc.cell? ⟨gq, 2, none⟩ = _ := ke 2
          have e3 : wc.cell? ⟨gq, 3, none⟩ = _ := ke 3
          have e4 : wc.cell? ⟨gq, 4, none⟩ = _ := ke 4
          have e5 : wc.cell? ⟨gq, 5, none⟩ = _ := ke 5
          have e6 : wc.cell? ⟨gq, 6, none⟩ = _ := ke 6
          have e7 : wc.cell? ⟨gq, 7, none⟩ = _ := ke 7
          have e8 : wc.cell? ⟨gq, 8, none⟩ = _ := ke 8
          have d0 : wc.cell? ⟨w.heap.size, 0, none⟩ = _ := kd 0
          have d1 : wc.cell? ⟨w.heap.size, 1, none⟩ = _ := kd 1
          have d2 : wc.cell? ⟨w.heap.size, 2, none⟩ = _ := kd 2
          have d3 : wc.cell? ⟨w.heap.size, 3, none⟩ = _ := kd 3
          have d4 : wc.cell? ⟨w.heap.size, 4, none⟩ = _ := kd 4
          have d5 : wc.cell? ⟨w.heap.size, 5, none⟩ = _ := kd 5
          have d6 : wc.cell? ⟨w.heap.size, 6, none⟩ = _ := kd 6
          have d7 : wc.cell? ⟨w.heap.size, 7, none⟩ = _ := kd 7
          have d8 : wc.cell? ⟨w.heap.size, 8, none⟩ = _ := kd 8
          have g0 := jd 0
          have g1 := jd 1
          have g2 := jd 2
          have g3 := jd 3
          have g4 := jd 4
          have g5 := jd 5
          have g6 := jd 6
          have g7 := jd 7
          have g8 := jd 8
          have hne1 : gq ≠ w.heap.size := hgq
          have hne2 : w.heap.size ≠ gq := Ne.symm hgq
          simp at e0 e1 e2 e3 e4 e5 e6 e7 e8 d0 d1 d2 d3 d4 d5 d6 d7 d8
          clear ke kd jd je
          go_upto_region 14 with fail
          refine at_world (fun Y => PS w w.heap.size ⟨sw, ⟨h0_, h1_, h2_, dn⟩, sm, srow, stx, scl⟩ T2 Y ∧ KyW Y (.slice A7 n7 c7) ks ∧ KyW Y (.slice A8 n8 c8) ks ∧ Blk Y (w.heap.size + 1) (rOf ⟨sw, ⟨h0_, h1_, h2_, dn⟩, sm, srow, stx, scl⟩)) ⟨⟨put9_low VC.out.1.1.below (Nat.le_refl _) _ _ _ _ _ _ _ _ _, put9_blk VC.out.1.1.p _ _ _ _ _ _ _ _ _, Nat.le_refl _, chain_ps VC.out.1.1.p (put9_size _ _ _ _ _ _ _ _ _ _ _) (fun _ h => put9_heap _ _ _ _ _ _ _ _ _ _ _ h) VC.out.1.2.2.1⟩, kyW_ps VC.out.1.2.2.2 VC.out.1.1.p _ _ _ _ _ _ _ _ _, kyW_ps VC.out.2.1 VC.out.1.1.p _ _ _ _ _ _ _ _ _, put9_far VC.out.2.2 (Nat.ne_of_lt (Nat.lt_succ_self _)) _ _ _ _ _ _ _ _ _⟩ ?_
          clear e0 e1 e2 e3 e4 e5 e6 e7 e8 d0 d1 d2 d3 d4 d5 d6 d7 d8 g0 g1 g2 g3 g4 g5 g6 g7 g8 ye yd hne1 hne2 VC
          intro Y hY
          have VY := Lib.hid hY
          clear hY
          have CS := Lib.hid (show ∀ Z, Below Y.heap.size Y Z → Calls Try.prog 11 #[.slice A7 n7 c7, .slice A8 n8 c8] Z (fun e w' => e = .returned (.bool true) ∧ Below Z.heap.size Z w') from fun Z hZ => sameK_eq _ _ ks Z (VY.out.2.1.later hZ) (VY.out.2.2.1.later hZ) HF.out.2.2.1 HF.out.2.2.2)
          obtain ⟨wt, hwt⟩ : ∃ wt, waitS ⟨h0_, h1_, h2_, dn⟩ = wt := ⟨_, rfl⟩
          dsimp only at hws
          rw [hwt] at hws
          have CW := Lib.hid (show ∀ Z, Calls Try.prog 12 #[psV ⟨sw, ⟨h0_, h1_, h2_, dn⟩, sm, srow, stx, scl⟩ T2] Z (fun e w' => e = .returned (.bool (!(sw == 0) || !(wt.toList == []))) ∧ Below Z.heap.size Z w') from fun Z => by rw [← hws]; exact waits_any _ T2 Z)
          have HS := Lib.hid (show ∀ Z, Below Y.heap.size Y Z → (fun Z => SO w.heap.size ⟨sw, ⟨h0_, h1_, h2_, dn⟩, sm, srow, stx, scl⟩ T2 Z ∧ Z.cell? ⟨w.heap.size + 1, 0, none⟩ = some (.int .i64 sw) ∧ Z.cell? ⟨w.heap.size + 1, 2, none⟩ = some (.string wt)) Z from fun Z hZ => ⟨so_blk (VY.out.1.later hZ).p, (hZ.cell (p := ⟨w.heap.size + 1, 0, none⟩) VY.out.2.2.2.1).trans (VY.out.2.2.2.2.1 0), by rw [← hwt]; exact (hZ.cell (p := ⟨w.heap.size + 1, 2, none⟩) VY.out.2.2.2.1).trans (VY.out.2.2.2.2.1 2)⟩)
          clear hws hwt
          obtain ⟨bz, hbz⟩ : ∃ bz, (sw == 0) = bz := ⟨_, rfl⟩
          obtain ⟨bq, hbq2⟩ : ∃ bq, (wt.toList == []) = bq := ⟨_, rfl⟩
          rw [hbz, hbq2] at CW
          cases bz
          case false =>
            have hbz2 : (sw != 0) = true := by simp [bne, hbz]
            clear hbq2
            simp only [Bool.not_false, Bool.true_or] at CW
            refine wp_region_held (S := fun Z => SO w.heap.size ⟨sw, ⟨h0_, h1_, h2_, dn⟩, sm, srow, stx, scl⟩ T2 Z ∧ Z.cell? ⟨w.heap.size + 1, 0, none⟩ = some (.int .i64 sw) ∧ Z.cell? ⟨w.heap.size + 1, 2, none⟩ = some (.string wt)) (by kernel_rfl) ?_
            change wpAnyH _ _ _ _ _ _ _ _ (World.drew _)
            refine wpAnyH_take (i := 0) (oi := { dst := some 58, op := Go.Op.move (Go.Operand.tmp 7), type := 32, pos := "law.go:45", after := #[], guard := none }) (v := ?_) rfl (by kernel_rfl) (by kernel_rfl) (by kernel_rfl) (fun _ _ _ h => h) (Or.inl ⟨by rfl, ?_⟩) (by exact HS.out _ (Below.refl Y.heap.size Y).drew) ?_
            rotate_left
            · intro Z hZ; clear hZ; go_simp; try with_reducible rfl
            simp only [Act.put, List.setIfInBounds_toArray, List.set_cons_zero, List.set_cons_succ]
            refine wpAnyH_take (i := 1) (oi := { dst := some 59, op := Go.Op.move (Go.Operand.tmp 8), type := 32, pos := "law.go:45", after := #[], guard := none }) (v := ?_) rfl (by kernel_rfl) (by kernel_rfl) (by kernel_rfl) (fun _ _ _ h => h) (Or.inl ⟨by rfl, ?_⟩) (by exact HS.out _ (Below.refl Y.heap.size Y).drew) ?_
            rotate_left
            · intro Z hZ; clear hZ; go_simp; try with_reducible rfl
            simp only [Act.put, List.setIfInBounds_toArray, List.set_cons_zero, List.set_cons_succ]
            refine wpAnyH_all (rs := [2]) (by kernel_rfl) (by simp) (List.forall_mem_cons.2 ⟨wpOp_some (o := { dst := some 60, op := Go.Op.call { callee := Go.Callee.value (Go.Operand.func 11), args := #[Go.Operand.tmp 58, Go.Operand.tmp 59], argTypes := #[32, 32] }, type := 4, pos := "law.go:45", after := #[{ on := 0, ground := Go.Ground.data }, { on := 1, ground := Go.Ground.data }], guard := none }) rfl (by rfl) (fun J hJ => ?_), (by simp)⟩)
            go_simp; (refine (CS.out _ (by exact (Below.refl Y.heap.size Y).drew)).mono ?_; rintro e w3 ⟨rfl, b3⟩; have B3 := Lib.hid ((Below.refl Y.heap.size Y).drew.trans b3); clear b3); refine hJ _ _ ⟨by exact HS.out _ B3.out, ?_⟩; clear hJ J
            refine wpAnyH_take (i := 3) (oi := { dst := some 61, op := Go.Op.unOp Go.UnOp.not 4 (Go.Operand.tmp 60), type := 4, pos := "law.go:45", after := #[{ on := 2, ground := Go.Ground.data }], guard := none }) (v := ?_) rfl (by kernel_rfl) (by kernel_rfl) (by kernel_rfl) (fun _ _ _ h => h) (Or.inl ⟨by rfl, ?_⟩) (by exact HS.out _ B3.out) ?_
            rotate_left
            · intro Z hZ; clear hZ; go_simp; try with_reducible rfl
            simp only [Act.put, List.setIfInBounds_toArray, List.set_cons_zero, List.set_cons_succ]
            refine wpAnyH_take (i := 4) (oi := { dst := some 62, op := Go.Op.move (Go.Operand.tmp 61), type := 4, pos := "law.go:45", after := #[{ on := 3, ground := Go.Ground.data }, { on := 2, ground := Go.Ground.chain }], guard := none }) (v := ?_) rfl (by kernel_rfl) (by kernel_rfl) (by kernel_rfl) (fun _ _ _ h => h) (Or.inl ⟨by rfl, ?_⟩) (by exact HS.out _ B3.out) ?_
            rotate_left
            · intro Z hZ; clear hZ; go_simp; try with_reducible rfl
            simp only [Act.put, List.setIfInBounds_toArray, List.set_cons_zero, List.set_cons_succ]
            refine wpAnyH_take (i := 5) (oi := { dst := some 63, op := Go.Op.load 28 (Go.Operand.tmp 3), type := 28, pos := "law.go:45", after := #[{ on := 4, ground := Go.Ground.guard }], guard := some (4, false) }) (v := ?_) rfl (by kernel_rfl) (by kernel_rfl) (by kernel_rfl) (fun _ _ _ h => h) (Or.inl ⟨by rfl, ?_⟩) (by exact HS.out _ B3.out) ?_
            rotate_left
            · intro Z hZ; obtain ⟨⟨p0, p1, p2, p3, p4, p5, p6, p7, p8⟩, p9, p10⟩ := hZ; dsimp only at p0 p1 p2 p3 p4 p5 p6 p7 p8; go_simp; try with_reducible rfl
            simp only [Act.put, List.setIfInBounds_toArray, List.set_cons_zero, List.set_cons_succ]
            refine wpAnyH_take (i := 7) (oi := { dst := some 65, op := Go.Op.move (Go.Operand.tmp 4), type := 29, pos := "law.go:45", after := #[{ on := 4, ground := Go.Ground.guard }], guard := some (4, false) }) (v := ?_) rfl (by kernel_rfl) (by kernel_rfl) (by kernel_rfl) (fun _ _ _ h => h) (Or.inl ⟨by rfl, ?_⟩) (by exact HS.out _ B3.out) ?_
            rotate_left
            · intro Z hZ; clear hZ; go_simp; try with_reducible rfl
            simp only [Act.put, List.setIfInBounds_toArray, List.set_cons_zero, List.set_cons_succ]
            refine wpAnyH_take (i := 8) (oi := { dst := some 66, op := Go.Op.nilCheck (Go.Operand.tmp 65), type := 0, pos := "law.go:45", after := #[{ on := 7, ground := Go.Ground.data }, { on := 4, ground := Go.Ground.guard }], guard := some (4, false) }) (v := ?_) rfl (by kernel_rfl) (by kernel_rfl) (by kernel_rfl) (fun _ _ _ h => h) (Or.inl ⟨by rfl, ?_⟩) (by exact HS.out _ B3.out) ?_
            rotate_left
            · intro Z hZ; clear hZ; go_simp; try with_reducible rfl
            simp only [Act.put, List.setIfInBounds_toArray, List.set_cons_zero, List.set_cons_succ]
            refine wpAnyH_take (i := 9) (oi := { dst := some 67, op := Go.Op.fieldAddr 31 (Go.Operand.tmp 66) 0, type := 0, pos := "law.go:45", after := #[{ on := 8, ground := Go.Ground.data }, { on := 4, ground := Go.Ground.guard }], guard := some (4, false) }) (v := ?_) rfl (by kernel_rfl) (by kernel_rfl) (by kernel_rfl) (fun _ _ _ h => h) (Or.inl ⟨by rfl, ?_⟩) (by exact HS.out _ B3.out) ?_
            rotate_left
            · intro Z hZ; clear hZ; go_simp; try with_reducible rfl
            simp only [Act.put, List.setIfInBounds_toArray, List.set_cons_zero, List.set_cons_succ]
            refine wpAnyH_take (i := 10) (oi := { dst := some 68, op := Go.Op.load 3 (Go.Operand.tmp 67), type := 3, pos := "law.go:45", after := #[{ on := 9, ground := Go.Ground.data }, { on := 4, ground := Go.Ground.guard }], guard := some (4, false) }) (v := ?_) rfl (by kernel_rfl) (by kernel_rfl) (by kernel_rfl) (fun _ _ _ h => h) (Or.inl ⟨by rfl, ?_⟩) (by exact HS.out _ B3.out) ?_
            rotate_left
            · intro Z hZ; obtain ⟨⟨p0, p1, p2, p3, p4, p5, p6, p7, p8⟩, p9, p10⟩ := hZ; dsimp only at p0 p1 p2 p3 p4 p5 p6 p7 p8; go_simp; try with_reducible rfl
            simp only [Act.put, List.setIfInBounds_toArray, List.set_cons_zero, List.set_cons_succ]
            refine wpAnyH_take (i := 11) (oi := { dst := some 69, op := Go.Op.binOp Go.BinOp.neq 3 (Go.Operand.tmp 68) (Go.Operand.const (Go.Value.int Go.IntKind.i64 0)) 3, type := 4, pos := "law.go:45", after := #[{ on := 10, ground := Go.Ground.data }, { on := 4, ground := Go.Ground.guard }], guard := some (4, false) }) (v := ?_) rfl (by kernel_rfl) (by kernel_rfl) (by kernel_rfl) (fun _ _ _ h => h) (Or.inl ⟨by rfl, ?_⟩) (by exact HS.out _ B3.out) ?_
            rotate_left
            · intro Z hZ; clear hZ; go_simp; try with_reducible rfl
            simp only [Act.put, List.setIfInBounds_toArray, List.set_cons_zero, List.set_cons_succ]
            refine wpAnyH_all (rs := [6]) (by kernel_rfl) (by simp) (List.forall_mem_cons.2 ⟨wpOp_some (o := { dst := some 64, op := Go.Op.call { callee := Go.Callee.value (Go.Operand.func 12), args := #[Go.Operand.tmp 63], argTypes := #[28] }, type := 4, pos := "law.go:45", after := #[{ on := 5, ground := Go.Ground.data }, { on := 4, ground := Go.Ground.chain }, { on := 4, ground := Go.Ground.guard }], guard := some (4, false) }) rfl (by rfl) (fun J hJ => ?_), (by simp)⟩)
            go_simp; (refine (CW.out _).mono ?_; rintro e w4 ⟨rfl, b4⟩; have B4 := Lib.hid (belowStep B3.out b4); clear b4); refine hJ _ _ ⟨by exact HS.out _ B4.out, ?_⟩; clear hJ J
            refine wpAnyH_take (i := 12) (oi := { dst := some 70, op := Go.Op.move (Go.Operand.tmp 69), type := 4, pos := "law.go:45", after := #[{ on := 11, ground := Go.Ground.data }, { on := 6, ground := Go.Ground.chain }, { on := 4, ground := Go.Ground.guard }], guard := some (4, false) }) (v := ?_) rfl (by kernel_rfl) (by kernel_rfl) (by kernel_rfl) (fun _ _ _ h => h) (Or.inl ⟨by rfl, ?_⟩) (by exact HS.out _ B4.out) ?_
            rotate_left
            · intro Z hZ; clear hZ; go_simp; try with_reducible rfl
            simp only [Act.put, List.setIfInBounds_toArray, List.set_cons_zero, List.set_cons_succ]
            refine wpAnyH_take (i := 13) (oi := { dst := some 71, op := Go.Op.move (Go.Operand.tmp 4), type := 29, pos := "law.go:45", after := #[{ on := 12, ground := Go.Ground.guard }], guard := some (12, false) }) (v := undef) rfl (by kernel_rfl) (by kernel_rfl) (by kernel_rfl) (fun _ _ _ h => h) (Or.inr ⟨by rfl, rfl⟩) (by exact HS.out _ B4.out) ?_
            simp only [Act.put, List.setIfInBounds_toArray, List.set_cons_zero, List.set_cons_succ]
            refine wpAnyH_take (i := 14) (oi := { dst := some 72, op := Go.Op.nilCheck (Go.Operand.tmp 71), type := 0, pos := "law.go:45", after := #[{ on := 13, ground := Go.Ground.data }, { on := 12, ground := Go.Ground.guard }], guard := some (12, false) }) (v := undef) rfl (by kernel_rfl) (by kernel_rfl) (by kernel_rfl) (fun _ _ _ h => h) (Or.inr ⟨by rfl, rfl⟩) (by exact HS.out _ B4.out) ?_
            simp only [Act.put, List.setIfInBounds_toArray, List.set_cons_zero, List.set_cons_succ]
            refine wpAnyH_take (i := 15) (oi := { dst := some 73, op := Go.Op.fieldAddr 31 (Go.Operand.tmp 72) 2, type := 0, pos := "law.go:45", after := #[{ on := 14, ground := Go.Ground.data }, { on := 12, ground := Go.Ground.guard }], guard := some (12, false) }) (v := undef) rfl (by kernel_rfl) (by kernel_rfl) (by kernel_rfl) (fun _ _ _ h => h) (Or.inr ⟨by rfl, rfl⟩) (by exact HS.out _ B4.out) ?_
            simp only [Act.put, List.setIfInBounds_toArray, List.set_cons_zero, List.set_cons_succ]
            refine wpAnyH_take (i := 16) (oi := { dst := some 74, op := Go.Op.load 9 (Go.Operand.tmp 73), type := 9, pos := "law.go:45", after := #[{ on := 15, ground := Go.Ground.data }, { on := 12, ground := Go.Ground.guard }], guard := some (12, false) }) (v := undef) rfl (by kernel_rfl) (by kernel_rfl) (by kernel_rfl) (fun _ _ _ h => h) (Or.inr ⟨by rfl, rfl⟩) (by exact HS.out _ B4.out) ?_
            simp only [Act.put, List.setIfInBounds_toArray, List.set_cons_zero, List.set_cons_succ]
            refine wpAnyH_take (i := 17) (oi := { dst := some 75, op := Go.Op.binOp Go.BinOp.neq 9 (Go.Operand.tmp 74) (Go.Operand.const (Go.Value.string { data := #[] })) 9, type := 4, pos := "law.go:45", after := #[{ on := 16, ground := Go.Ground.data }, { on := 12, ground := Go.Ground.guard }], guard := some (12, false) }) (v := undef) rfl (by kernel_rfl) (by kernel_rfl) (by kernel_rfl) (fun _ _ _ h => h) (Or.inr ⟨by rfl, rfl⟩) (by exact HS.out _ B4.out) ?_
            simp only [Act.put, List.setIfInBounds_toArray, List.set_cons_zero, List.set_cons_succ]
            refine wpAnyH_take (i := 18) (oi := { dst := some 76, op := Go.Op.pick (Go.Operand.tmp 70) (Go.Operand.const (Go.Value.bool true)) (Go.Operand.tmp 75), type := 4, pos := "law.go:45", after := #[{ on := 12, ground := Go.Ground.data }, { on := 17, ground := Go.Ground.data }, { on := 4, ground := Go.Ground.guard }], guard := some (4, false) }) (v := ?_) rfl (by kernel_rfl) (by kernel_rfl) (by kernel_rfl) (fun _ _ _ h => h) (Or.inl ⟨by rfl, ?_⟩) (by exact HS.out _ B4.out) ?_
            rotate_left
            · intro Z hZ; clear hZ; go_simp; try with_reducible rfl
            simp only [Act.put, List.setIfInBounds_toArray, List.set_cons_zero, List.set_cons_succ]
            refine wpAnyH_take (i := 19) (oi := { dst := some 77, op := Go.Op.binOp Go.BinOp.neq 4 (Go.Operand.tmp 64) (Go.Operand.tmp 76) 4, type := 4, pos := "law.go:45", after := #[{ on := 6, ground := Go.Ground.data }, { on := 18, ground := Go.Ground.data }, { on := 4, ground := Go.Ground.guard }], guard := some (4, false) }) (v := ?_) rfl (by kernel_rfl) (by kernel_rfl) (by kernel_rfl) (fun _ _ _ h => h) (Or.inl ⟨by rfl, ?_⟩) (by exact HS.out _ B4.out) ?_
            rotate_left
            · intro Z hZ; clear hZ; go_simp; try with_reducible rfl
            simp only [Act.put, List.setIfInBounds_toArray, List.set_cons_zero, List.set_cons_succ]
            refine wpAnyH_take (i := 20) (oi := { dst := some 78, op := Go.Op.pick (Go.Operand.tmp 62) (Go.Operand.const (Go.Value.bool true)) (Go.Operand.tmp 77), type := 4, pos := "law.go:45", after := #[{ on := 4, ground := Go.Ground.data }, { on := 19, ground := Go.Ground.data }], guard := none }) (v := ?_) rfl (by kernel_rfl) (by kernel_rfl) (by kernel_rfl) (fun _ _ _ h => h) (Or.inl ⟨by rfl, ?_⟩) (by exact HS.out _ B4.out) ?_
            rotate_left
            · intro Z hZ; clear hZ; go_simp; try with_reducible rfl
            simp only [Act.put, List.setIfInBounds_toArray, List.set_cons_zero, List.set_cons_succ]
            refine wpAnyH_done (by kernel_rfl) ?_ _
            go_wp2_with fail
            go_roundw
            case rel =>
              exact ⟨k + 1, ⟨sw, ⟨h0_, h1_, h2_, dn⟩, sm, srow, stx, scl⟩, T2, by omega, by omega, by go_num, ⟨VY.out.1.later B4.out, VY.out.2.2.2.later B4.out VY.out.2.2.2.1⟩, HF.out.1, HF.out.2.1⟩
            case measure => simp [intOf]; omega
          case true =>
            have hbz2 : (sw != 0) = false := by simp [bne, hbz]
            cases bq
            all_goals
              refine wp_region_held (S := fun Z => SO w.heap.size ⟨sw, ⟨h0_, h1_, h2_, dn⟩, sm, srow, stx, scl⟩ T2 Z ∧ Z.cell? ⟨w.heap.size + 1, 0, none⟩ = some (.int .i64 sw) ∧ Z.cell? ⟨w.heap.size + 1, 2, none⟩ = some (.string wt)) (by kernel_rfl) ?_
              change wpAnyH _ _ _ _ _ _ _ _ (World.drew _)
              refine wpAnyH_take (i := 0) (oi := { dst := some 58, op := Go.Op.move (Go.Operand.tmp 7), type := 32, pos := "law.go:45", after := #[], guard := none }) (v := ?_) rfl (by kernel_rfl) (by kernel_rfl) (by kernel_rfl) (fun _ _ _ h => h) (Or.inl ⟨by rfl, ?_⟩) (by exact HS.out _ (Below.refl Y.heap.size Y).drew) ?_
              rotate_left
              · intro Z hZ; clear hZ; go_simp; try with_reducible rfl
              simp only [Act.put, List.setIfInBounds_toArray, List.set_cons_zero, List.set_cons_succ]
              refine wpAnyH_take (i := 1) (oi := { dst := some 59, op := Go.Op.move (Go.Operand.tmp 8), type := 32, pos := "law.go:45", after := #[], guard := none }) (v := ?_) rfl (by kernel_rfl) (by kernel_rfl) (by kernel_rfl) (fun _ _ _ h => h) (Or.inl ⟨by rfl, ?_⟩) (by exact HS.out _ (Below.refl Y.heap.size Y).drew) ?_
              rotate_left
              · intro Z hZ; clear hZ; go_simp; try with_reducible rfl
              simp only [Act.put, List.setIfInBounds_toArray, List.set_cons_zero, List.set_cons_succ]
              refine wpAnyH_all (rs := [2]) (by kernel_rfl) (by simp) (List.forall_mem_cons.2 ⟨wpOp_some (o := { dst := some 60, op := Go.Op.call { callee := Go.Callee.value (Go.Operand.func 11), args := #[Go.Operand.tmp 58, Go.Operand.tmp 59], argTypes := #[32, 32] }, type := 4, pos := "law.go:45", after := #[{ on := 0, ground := Go.Ground.data }, { on := 1, ground := Go.Ground.data }], guard := none }) rfl (by rfl) (fun J hJ => ?_), (by simp)⟩)
              go_simp; (refine (CS.out _ (by exact (Below.refl Y.heap.size Y).drew)).mono ?_; rintro e w3 ⟨rfl, b3⟩; have B3 := Lib.hid ((Below.refl Y.heap.size Y).drew.trans b3); clear b3); refine hJ _ _ ⟨by exact HS.out _ B3.out, ?_⟩; clear hJ J
              refine wpAnyH_take (i := 3) (oi := { dst := some 61, op := Go.Op.unOp Go.UnOp.not 4 (Go.Operand.tmp 60), type := 4, pos := "law.go:45", after := #[{ on := 2, ground := Go.Ground.data }], guard := none }) (v := ?_) rfl (by kernel_rfl) (by kernel_rfl) (by kernel_rfl) (fun _ _ _ h => h) (Or.inl ⟨by rfl, ?_⟩) (by exact HS.out _ B3.out) ?_
              rotate_left
              · intro Z hZ; clear hZ; go_simp; try with_reducible rfl
              simp only [Act.put, List.setIfInBounds_toArray, List.set_cons_zero, List.set_cons_succ]
              refine wpAnyH_take (i := 4) (oi := { dst := some 62, op := Go.Op.move (Go.Operand.tmp 61), type := 4, pos := "law.go:45", after := #[{ on := 3, ground := Go.Ground.data }, { on := 2, ground := Go.Ground.chain }], guard := none }) (v := ?_) rfl (by kernel_rfl) (by kernel_rfl) (by kernel_rfl) (fun _ _ _ h => h) (Or.inl ⟨by rfl, ?_⟩) (by exact HS.out _ B3.out) ?_
              rotate_left
              · intro Z hZ; clear hZ; go_simp; try with_reducible rfl
              simp only [Act.put, List.setIfInBounds_toArray, List.set_cons_zero, List.set_cons_succ]
              refine wpAnyH_take (i := 5) (oi := { dst := some 63, op := Go.Op.load 28 (Go.Operand.tmp 3), type := 28, pos := "law.go:45", after := #[{ on := 4, ground := Go.Ground.guard }], guard := some (4, false) }) (v := ?_) rfl (by kernel_rfl) (by kernel_rfl) (by kernel_rfl) (fun _ _ _ h => h) (Or.inl ⟨by rfl, ?_⟩) (by exact HS.out _ B3.out) ?_
              rotate_left
              · intro Z hZ; obtain ⟨⟨p0, p1, p2, p3, p4, p5, p6, p7, p8⟩, p9, p10⟩ := hZ; dsimp only at p0 p1 p2 p3 p4 p5 p6 p7 p8; go_simp; try with_reducible rfl
              simp only [Act.put, List.setIfInBounds_toArray, List.set_cons_zero, List.set_cons_succ]
              refine wpAnyH_take (i := 7) (oi := { dst := some 65, op := Go.Op.move (Go.Operand.tmp 4), type := 29, pos := "law.go:45", after := #[{ on := 4, ground := Go.Ground.guard }], guard := some (4, false) }) (v := ?_) rfl (by kernel_rfl) (by kernel_rfl) (by kernel_rfl) (fun _ _ _ h => h) (Or.inl ⟨by rfl, ?_⟩) (by exact HS.out _ B3.out) ?_
              rotate_left
              · intro Z hZ; clear hZ; go_simp; try with_reducible rfl
              simp only [Act.put, List.setIfInBounds_toArray, List.set_cons_zero, List.set_cons_succ]
              refine wpAnyH_take (i := 8) (oi := { dst := some 66, op := Go.Op.nilCheck (Go.Operand.tmp 65), type := 0, pos := "law.go:45", after := #[{ on := 7, ground := Go.Ground.data }, { on := 4, ground := Go.Ground.guard }], guard := some (4, false) }) (v := ?_) rfl (by kernel_rfl) (by kernel_rfl) (by kernel_rfl) (fun _ _ _ h => h) (Or.inl ⟨by rfl, ?_⟩) (by exact HS.out _ B3.out) ?_
              rotate_left
              · intro Z hZ; clear hZ; go_simp; try with_reducible rfl
              simp only [Act.put, List.setIfInBounds_toArray, List.set_cons_zero, List.set_cons_succ]
              refine wpAnyH_take (i := 9) (oi := { dst := some 67, op := Go.Op.fieldAddr 31 (Go.Operand.tmp 66) 0, type := 0, pos := "law.go:45", after := #[{ on := 8, ground := Go.Ground.data }, { on := 4, ground := Go.Ground.guard }], guard := some (4, false) }) (v := ?_) rfl (by kernel_rfl) (by kernel_rfl) (by kernel_rfl) (fun _ _ _ h => h) (Or.inl ⟨by rfl, ?_⟩) (by exact HS.out _ B3.out) ?_
              rotate_left
              · intro Z hZ; clear hZ; go_simp; try with_reducible rfl
              simp only [Act.put, List.setIfInBounds_toArray, List.set_cons_zero, List.set_cons_succ]
              refine wpAnyH_take (i := 10) (oi := { dst := some 68, op := Go.Op.load 3 (Go.Operand.tmp 67), type := 3, pos := "law.go:45", after := #[{ on := 9, ground := Go.Ground.data }, { on := 4, ground := Go.Ground.guard }], guard := some (4, false) }) (v := ?_) rfl (by kernel_rfl) (by kernel_rfl) (by kernel_rfl) (fun _ _ _ h => h) (Or.inl ⟨by rfl, ?_⟩) (by exact HS.out _ B3.out) ?_
              rotate_left
              · intro Z hZ; obtain ⟨⟨p0, p1, p2, p3, p4, p5, p6, p7, p8⟩, p9, p10⟩ := hZ; dsimp only at p0 p1 p2 p3 p4 p5 p6 p7 p8; go_simp; try with_reducible rfl
              simp only [Act.put, List.setIfInBounds_toArray, List.set_cons_zero, List.set_cons_succ]
              refine wpAnyH_take (i := 11) (oi := { dst := some 69, op := Go.Op.binOp Go.BinOp.neq 3 (Go.Operand.tmp 68) (Go.Operand.const (Go.Value.int Go.IntKind.i64 0)) 3, type := 4, pos := "law.go:45", after := #[{ on := 10, ground := Go.Ground.data }, { on := 4, ground := Go.Ground.guard }], guard := some (4, false) }) (v := ?_) rfl (by kernel_rfl) (by kernel_rfl) (by kernel_rfl) (fun _ _ _ h => h) (Or.inl ⟨by rfl, ?_⟩) (by exact HS.out _ B3.out) ?_
              rotate_left
              · intro Z hZ; clear hZ; go_simp; try with_reducible rfl
              simp only [Act.put, List.setIfInBounds_toArray, List.set_cons_zero, List.set_cons_succ]
              refine wpAnyH_all (rs := [6]) (by kernel_rfl) (by simp) (List.forall_mem_cons.2 ⟨wpOp_some (o := { dst := some 64, op := Go.Op.call { callee := Go.Callee.value (Go.Operand.func 12), args := #[Go.Operand.tmp 63], argTypes := #[28] }, type := 4, pos := "law.go:45", after := #[{ on := 5, ground := Go.Ground.data }, { on := 4, ground := Go.Ground.chain }, { on := 4, ground := Go.Ground.guard }], guard := some (4, false) }) rfl (by rfl) (fun J hJ => ?_), (by simp)⟩)
              go_simp; (refine (CW.out _).mono ?_; rintro e w4 ⟨rfl, b4⟩; have B4 := Lib.hid (belowStep B3.out b4); clear b4); refine hJ _ _ ⟨by exact HS.out _ B4.out, ?_⟩; clear hJ J
              refine wpAnyH_take (i := 12) (oi := { dst := some 70, op := Go.Op.move (Go.Operand.tmp 69), type := 4, pos := "law.go:45", after := #[{ on := 11, ground := Go.Ground.data }, { on := 6, ground := Go.Ground.chain }, { on := 4, ground := Go.Ground.guard }], guard := some (4, false) }) (v := ?_) rfl (by kernel_rfl) (by kernel_rfl) (by kernel_rfl) (fun _ _ _ h => h) (Or.inl ⟨by rfl, ?_⟩) (by exact HS.out _ B4.out) ?_
              rotate_left
              · intro Z hZ; clear hZ; go_simp; try with_reducible rfl
              simp only [Act.put, List.setIfInBounds_toArray, List.set_cons_zero, List.set_cons_succ]
              refine wpAnyH_take (i := 13) (oi := { dst := some 71, op := Go.Op.move (Go.Operand.tmp 4), type := 29, pos := "law.go:45", after := #[{ on := 12, ground := Go.Ground.guard }], guard := some (12, false) }) (v := ?_) rfl (by kernel_rfl) (by kernel_rfl) (by kernel_rfl) (fun _ _ _ h => h) (Or.inl ⟨by rfl, ?_⟩) (by exact HS.out _ B4.out) ?_
              rotate_left
              · intro Z hZ; clear hZ; go_simp; try with_reducible rfl
              simp only [Act.put, List.setIfInBounds_toArray, List.set_cons_zero, List.set_cons_succ]
              refine wpAnyH_take (i := 14) (oi := { dst := some 72, op := Go.Op.nilCheck (Go.Operand.tmp 71), type := 0, pos := "law.go:45", after := #[{ on := 13, ground := Go.Ground.data }, { on := 12, ground := Go.Ground.guard }], guard := some (12, false) }) (v := ?_) rfl (by kernel_rfl) (by kernel_rfl) (by kernel_rfl) (fun _ _ _ h => h) (Or.inl ⟨by rfl, ?_⟩) (by exact HS.out _ B4.out) ?_
              rotate_left
              · intro Z hZ; clear hZ; go_simp; try with_reducible rfl
              simp only [Act.put, List.setIfInBounds_toArray, List.set_cons_zero, List.set_cons_succ]
              refine wpAnyH_take (i := 15) (oi := { dst := some 73, op := Go.Op.fieldAddr 31 (Go.Operand.tmp 72) 2, type := 0, pos := "law.go:45", after := #[{ on := 14, ground := Go.Ground.data }, { on := 12, ground := Go.Ground.guard }], guard := some (12, false) }) (v := ?_) rfl (by kernel_rfl) (by kernel_rfl) (by kernel_rfl) (fun _ _ _ h => h) (Or.inl ⟨by rfl, ?_⟩) (by exact HS.out _ B4.out) ?_
              rotate_left
              · intro Z hZ; clear hZ; go_simp; try with_reducible rfl
              simp only [Act.put, List.setIfInBounds_toArray, List.set_cons_zero, List.set_cons_succ]
              refine wpAnyH_take (i := 16) (oi := { dst := some 74, op := Go.Op.load 9 (Go.Operand.tmp 73), type := 9, pos := "law.go:45", after := #[{ on := 15, ground := Go.Ground.data }, { on := 12, ground := Go.Ground.guard }], guard := some (12, false) }) (v := ?_) rfl (by kernel_rfl) (by kernel_rfl) (by kernel_rfl) (fun _ _ _ h => h) (Or.inl ⟨by rfl, ?_⟩) (by exact HS.out _ B4.out) ?_
              rotate_left
              · intro Z hZ; obtain ⟨⟨p0, p1, p2, p3, p4, p5, p6, p7, p8⟩, p9, p10⟩ := hZ; dsimp only at p0 p1 p2 p3 p4 p5 p6 p7 p8; go_simp; try with_reducible rfl
              simp only [Act.put, List.setIfInBounds_toArray, List.set_cons_zero, List.set_cons_succ]
              refine wpAnyH_take (i := 17) (oi := { dst := some 75, op := Go.Op.binOp Go.BinOp.neq 9 (Go.Operand.tmp 74) (Go.Operand.const (Go.Value.string { data := #[] })) 9, type := 4, pos := "law.go:45", after := #[{ on := 16, ground := Go.Ground.data }, { on := 12, ground := Go.Ground.guard }], guard := some (12, false) }) (v := ?_) rfl (by kernel_rfl) (by kernel_rfl) (by kernel_rfl) (fun _ _ _ h => h) (Or.inl ⟨by rfl, ?_⟩) (by exact HS.out _ B4.out) ?_
              rotate_left
              · intro Z hZ; clear hZ; go_simp; try with_reducible rfl
              simp only [Act.put, List.setIfInBounds_toArray, List.set_cons_zero, List.set_cons_succ]
              refine wpAnyH_take (i := 18) (oi := { dst := some 76, op := Go.Op.pick (Go.Operand.tmp 70) (Go.Operand.const (Go.Value.bool true)) (Go.Operand.tmp 75), type := 4, pos := "law.go:45", after := #[{ on := 12, ground := Go.Ground.data }, { on := 17, ground := Go.Ground.data }, { on := 4, ground := Go.Ground.guard }], guard := some (4, false) }) (v := ?_) rfl (by kernel_rfl) (by kernel_rfl) (by kernel_rfl) (fun _ _ _ h => h) (Or.inl ⟨by rfl, ?_⟩) (by exact HS.out _ B4.out) ?_
              rotate_left
              · intro Z hZ; clear hZ; go_simp; try with_reducible rfl
              simp only [Act.put, List.setIfInBounds_toArray, List.set_cons_zero, List.set_cons_succ]
              refine wpAnyH_take (i := 19) (oi := { dst := some 77, op := Go.Op.binOp Go.BinOp.neq 4 (Go.Operand.tmp 64) (Go.Operand.tmp 76) 4, type := 4, pos := "law.go:45", after := #[{ on := 6, ground := Go.Ground.data }, { on := 18, ground := Go.Ground.data }, { on := 4, ground := Go.Ground.guard }], guard := some (4, false) }) (v := ?_) rfl (by kernel_rfl) (by kernel_rfl) (by kernel_rfl) (fun _ _ _ h => h) (Or.inl ⟨by rfl, ?_⟩) (by exact HS.out _ B4.out) ?_
              rotate_left
              · intro Z hZ; clear hZ; go_simp; try with_reducible rfl
              simp only [Act.put, List.setIfInBounds_toArray, List.set_cons_zero, List.set_cons_succ]
              refine wpAnyH_take (i := 20) (oi := { dst := some 78, op := Go.Op.pick (Go.Operand.tmp 62) (Go.Operand.const (Go.Value.bool true)) (Go.Operand.tmp 77), type := 4, pos := "law.go:45", after := #[{ on := 4, ground := Go.Ground.data }, { on := 19, ground := Go.Ground.data }], guard := none }) (v := ?_) rfl (by kernel_rfl) (by kernel_rfl) (by kernel_rfl) (fun _ _ _ h => h) (Or.inl ⟨by rfl, ?_⟩) (by exact HS.out _ B4.out) ?_
              rotate_left
              · intro Z hZ; clear hZ; go_simp; try with_reducible rfl
              simp only [Act.put, List.setIfInBounds_toArray, List.set_cons_zero, List.set_cons_succ]
              refine wpAnyH_done (by kernel_rfl) ?_ _
              go_wp2_with fail
              go_roundw
              case rel =>
                exact ⟨k + 1, ⟨sw, ⟨h0_, h1_, h2_, dn⟩, sm, srow, stx, scl⟩, T2, by omega, by omega, by go_num, ⟨VY.out.1.later B4.out, VY.out.2.2.2.later B4.out VY.out.2.2.2.1⟩, HF.out.1, HF.out.2.1⟩
              case measure => simp [intOf]; omega
    · have hgn : ¬ (k < n ∧ k < 400) := hgo
      by_cases hlt : k < n
      · have hi1 : (k : Int) < (n : Int) := by omega
        have hi2 : ¬ (k : Int) < 400 := by omega
        go_wp2_with (go_at_call 13; refine (HW.out _).mono ?_; rintro e w4 ⟨rfl, hb4⟩)
        go_ret
        exact ⟨rfl, belowStep HI.out.1.1.below hb4⟩
      · have hi1 : ¬ (k : Int) < (n : Int) := by omega
        go_wp2_with (go_at_call 13; refine (HW.out _).mono ?_; rintro e w4 ⟨rfl, hb4⟩)
        go_ret
        exact ⟨rfl, belowStep HI.out.1.1.below hb4⟩
end Go.Proofs.Ytkkenabckhmkoaa
