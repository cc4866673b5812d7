/- keys: the law's own trial. -/
import Derived.Test.YtkkenabckhmkoaaKzA
namespace Go.Proofs.Ytkkenabckhmkoaa
open Go.RowKit
set_option linter.unusedVariables false
set_option linter.unusedSimpArgs false
set_option maxRecDepth 100000

theorem awake_bare : ∀ k, k ≤ 10 → Bare (runK (KS.zero, []) (awakeB.take k)).2 := by
  have h : ∀ k, k < 11 → ∀ y ∈ (runK (KS.zero, []) (awakeB.take k)).2, y.t = [] := by decide +kernel
  exact fun k hk => h k (by omega)
theorem awake_tx : ∀ k, k ≤ 10 → (runK (KS.zero, []) (awakeB.take k)).1.tx = [] := by
  have h : ∀ k, k < 11 → (runK (KS.zero, []) (awakeB.take k)).1.tx = [] := by decide +kernel
  exact fun k hk => h k (by omega)
theorem awake_len : ∀ k, k ≤ 10 → (runK (KS.zero, []) (awakeB.take k)).2.length ≤ 5 := by
  have h : ∀ k, k < 11 → (runK (KS.zero, []) (awakeB.take k)).2.length ≤ 5 := by decide +kernel
  exact fun k hk => h k (by omega)
/-- The trial's loop: the parser, the keys so far. -/
structure AwI (w : World) (A : Option Addr) (n c : Nat) (k : Nat) (X : World) : Prop where
  ps : PS w w.heap.size (runK (KS.zero, []) (awakeB.take k)).1 none X
  out : KyO (w.heap.size + 1) X (.slice A n c) n (runK (KS.zero, []) (awakeB.take k)).2

theorem awI_zero {w X : World} (h : PS w w.heap.size KS.zero none X) : AwI w none 0 0 0 X := ⟨h, [], World.ownsRow_nil _ _ _ _, KeysW.nil _⟩
theorem awI_next {w X Z : World} {A A' : Option Addr} {n c c' k : Nat} {b : Int} {A6 : Option Addr} {n6 c6 : Nat} {s' : KS} {ks : List Ky} {T' : Option Addr} {Y : World} (hk : k < 10) (hb : awakeB[k]? = some b) (h : AwI w A n c k X) (hf : feedK (runK (KS.zero, []) (awakeB.take k)).1 b = (s', ks))
    (hn : PN w X w.heap.size s' T' (.slice A6 n6 c6) ks Y) {hs gs : List Kp} (h1 : KeysW X hs (runK (KS.zero, []) (awakeB.take k)).2) (h2 : KeysW Y gs ks) (ho : Y.ownsRow (w.heap.size + 1) 47 4 (.slice A n c) n (flatL encK hs))
    (hp : Pushed Y Z (w.heap.size + 1) 47 4 (.slice A n c) (n + n6) (flatL encK hs ++ flatL encK gs) A' c') : AwI w A' (n + n6) c' (k + 1) Z := by
  have e := runK_snoc (KS.zero, []) hb
  rw [hf] at e
  have h0 := awake_bare (k + 1) (by omega)
  have ht := awake_tx (k + 1) (by omega)
  have e1 : (runK (KS.zero, []) (awakeB.take (k + 1))).1 = s' := by rw [e]
  have e2 : (runK (KS.zero, []) (awakeB.take (k + 1))).2 = (runK (KS.zero, []) (awakeB.take k)).2 ++ ks := by rw [e]
  rw [e1] at ht
  have hT : T' = none := by have := hn.ps.chain; rw [ht] at this; exact this
  subst hT
  have hbl := hn.ps.below
  have hbb : Below (w.heap.size + 1) Y Z := (Below.refl _ Y).grown hp.grown (Nat.lt_of_lt_of_le (Nat.lt_succ_self _) hn.ps.p.1) (fun k hk => (ho.lt k hk).1)
  refine ⟨⟨?_, ?_, Nat.le_refl _, ?_⟩, ?_⟩
  · exact hbl.trans (hbb.mono (Nat.le_succ _))
  · rw [e1]; exact hn.ps.p.later hbb (Nat.lt_succ_self _)
  · rw [e1, ht]; rfl
  · rw [e2] at h0 ⊢
    exact ⟨hs ++ gs, by rw [flatL_append]; exact hp.own, keysW_move Z (h1.append (keysW_move X h2 (fun y hy => h0 y (by simp [hy])))) h0⟩

def six : List Ky := [⟨3, 1, false, []⟩, ⟨1, 97, true, []⟩, ⟨1, 233, false, []⟩, ⟨1, 65533, false, []⟩, ⟨2, 1, false, []⟩, ⟨2, 27, false, []⟩]
theorem six_bare : Bare six := show ∀ y ∈ six, y.t = [] by decide
theorem kyW_new6 (w : World) (t : TypeId) : KyW (w.alloc (.cells #[.int .i64 3, .int .i32 1, .bool false, .slice none 0 0, .int .i64 1, .int .i32 97, .bool true, .slice none 0 0, .int .i64 1, .int .i32 233, .bool false, .slice none 0 0, .int .i64 1, .int .i32 65533, .bool false, .slice none 0 0, .int .i64 2, .int .i32 1, .bool false, .slice none 0 0, .int .i64 2, .int .i32 27, .bool false, .slice none 0 0] t)) (.slice (some ⟨w.heap.size, 0, none⟩) 6 6) six :=
  ⟨bare six, ⟨_, 6, rfl, (Li.new encK_len w _ t rfl).mono fun _ _ => trivial, (fun h => by cases h), Nat.le_refl _, by decide⟩, keysW_bare _ six_bare⟩
theorem six_out {w X Y Z : World} {A A' : Option Addr} {n c c' n6 : Nat} {hs gs : List Kp} {ls ks : List Ky} (hb : Below w.heap.size w X) (hg : w.heap.size < X.heap.size) (hY : Below X.heap.size X Y) (h1 : KeysW X hs ls) (h2 : KeysW Y gs ks) (ho : Y.ownsRow (w.heap.size + 1) 47 4 (.slice A n c) n (flatL encK hs))
    (hp : Pushed Y Z (w.heap.size + 1) 47 4 (.slice A n c) (n + n6) (flatL encK hs ++ flatL encK gs) A' c') (ht : ls ++ ks = six) : KyW Z (.slice A' (n + n6) c') six ∧ Below w.heap.size w Z := by
  have hbb : Below (w.heap.size + 1) Y Z := (Below.refl _ Y).grown hp.grown (Nat.le_trans hg hY.size) (fun k hk => (ho.lt k hk).1)
  refine ⟨?_, (belowStep hb hY).trans (hbb.mono (Nat.le_succ _))⟩
  have h0 := six_bare
  rw [← ht] at h0 ⊢
  refine (kyW_own (base := w.heap.size + 1) ⟨hs ++ gs, by rw [flatL_append]; exact hp.own, keysW_move Z (h1.append (keysW_move X h2 (fun y hy => h0 y (by simp [hy])))) h0⟩).1

set_option maxHeartbeats 4000000 in
theorem awake_yes (w : World) : Calls Try.prog 13 #[] w fun e w' => e = .returned (.bool true) ∧ Below w.heap.size w w' := by
  obtain ⟨S0, hS0⟩ : ∃ S0 : ByteArray, (⟨#[27, 91, 65, 27, 97, 195, 169, 195, 1, 27]⟩ : ByteArray) = S0 := ⟨_, rfl⟩
  have hbt : bts S0 = awakeB := by rw [← hS0]; rfl
  have hsz : S0.size = 10 := by rw [← hS0]; rfl
  go_enter Try.func13, Try.ntmps13
  go_upto_region 2 with fail
  refine at_world (PS w w.heap.size KS.zero none) (ps_start (Below.refl _ _) _) ?_
  intro X hX
  have V0 := Lib.hid (awI_zero hX)
  clear hX
  go_upto_region 4 with fail
  rw [hS0]
  have HSB := Lib.hid (And.intro hbt hsz)
  clear hS0 hbt
  go_wp2_with fail
  go_loopw [2, 4] (fun out i wr => ∃ (k : Nat) (A : Option Addr) (n c : Nat), k ≤ 10 ∧ i = .int .i64 (k : Nat) ∧ out = .slice A n c ∧ Hid (AwI w A n c k wr)) (fun _ i _ => 10 - (intOf i).toNat)
  case atStart => exact ⟨0, none, 0, 0, by omega, rfl, rfl, V0.out⟩
  case round =>
    obtain ⟨k, A, n, c, hk, rfl, rfl, HG⟩ := hrel
    clear V0
    by_cases hlt : k < 10
    · have hks : k < S0.size := by omega
      have hlts : (k : Int) < (S0.size : Int) := by omega
      have hb0 : 0 ≤ (S0[k].toNat : Int) := by omega
      have hb1 : (S0[k].toNat : Int) ≤ 255 := by have := S0[k].toNat_lt; omega
      have hbq : awakeB[k]? = some (S0[k].toNat : Int) := by
        rw [← HSB.out.1]
        simp [bts, hks, ByteArray.getElem_eq_getElem_data]
      obtain ⟨R, hR⟩ : ∃ R, (runK (KS.zero, []) (awakeB.take k)).1 = R := ⟨_, rfl⟩
      have hok : R.Ok := by
        rw [← hR]
        exact (runK_ok _ (KS.zero, []) 0 ok_zero (fun b hb => by
          have h1 : ∀ b ∈ awakeB, 0 ≤ b ∧ b ≤ 255 := by decide
          exact h1 b (List.mem_of_mem_take hb)) (by simp [KS.zero]) (by simp [awakeB]; omega)).1
      have htx : R.tx = [] := by rw [← hR]; exact awake_tx k hk
      have hps := HG.out.ps
      rw [hR] at hps
      obtain ⟨⟨⟨rw_, ⟨x, y, z, nd⟩, rm, rrow, rtx, rcl⟩, ks⟩, hfd⟩ : ∃ r, feedK R (S0[k].toNat : Int) = r := ⟨_, rfl⟩
      have HF := Lib.hid (show feedK (runK (KS.zero, []) (awakeB.take k)).1 (S0[k].toNat : Int) = (⟨rw_, ⟨x, y, z, nd⟩, rm, rrow, rtx, rcl⟩, ks) by rw [hR]; exact hfd)
      have CF := Lib.hid (show ∀ Z, PS w w.heap.size R none Z → Below wr.heap.size wr Z → Calls Try.prog 7 #[psV R none, .int .u8 (S0[k].toNat : Int)] Z (Tells (⟨rw_, ⟨x, y, z, nd⟩, rm, rrow, rtx, rcl⟩, ks) Z) from fun Z hZ _ => by rw [← hfd]; exact feed_any R none _ hb0 hb1 hok Z hZ.chain)
      clear hfd hok hR
      obtain ⟨sw, ⟨h0, h1, h2, dn⟩, sm, srow, stx, scl⟩ := R
      dsimp only at htx
      subst htx
      have VX := Lib.hid hps
      have HS := Lib.hid (show ∀ Z, Below wr.heap.size wr Z → SO w.heap.size ⟨sw, ⟨h0, h1, h2, dn⟩, sm, srow, [], scl⟩ none Z from fun Z hZ => so_blk (VX.out.later hZ).p)
      clear hps
      go_wp2_with fail
      go_cut [5, 6] (fun v5 v6 wx => ∃ (gq : Nat) (T6 A6 : Option Addr) (n6 c6 : Nat), v5 = .pointer (some ⟨gq, 0, none⟩) ∧ v6 = .slice A6 n6 c6 ∧ n6 = ks.length ∧ Hid (PQ w wr w.heap.size gq ⟨sw, ⟨h0, h1, h2, dn⟩, sm, srow, [], scl⟩ ⟨rw_, ⟨x, y, z, nd⟩, rm, rrow, rtx, rcl⟩ none T6 (.slice A6 n6 c6) ks wx))
      case first =>
        refine wp_region_held (S := SO w.heap.size ⟨sw, ⟨h0, h1, h2, dn⟩, sm, srow, [], scl⟩ none) (by kernel_rfl) ?_
        change wpAnyH _ _ _ _ _ _ _ _ (World.drew _)
        refine wpAnyH_take (i := 0) (oi := { dst := some 16, op := Go.Op.load 28 (Go.Operand.tmp 1), type := 28, pos := "law.go:21", after := #[], guard := none }) (v := ?_) rfl (by kernel_rfl) (by kernel_rfl) (by kernel_rfl) (fun _ _ _ h => h) (Or.inl ⟨by rfl, ?_⟩) (by exact HS.out _ (Below.refl wr.heap.size wr).drew) ?_
        rotate_left
        · intro Z hZ; obtain ⟨p0, p1, p2, p3, p4, p5, p6, p7, p8⟩ := hZ; dsimp only at p0 p1 p2 p3 p4 p5 p6 p7 p8; go_simp; try with_reducible rfl
        simp only [Act.put, List.setIfInBounds_toArray, List.set_cons_zero, List.set_cons_succ]
        refine wpAnyH_take (i := 1) (oi := { dst := some 17, op := Go.Op.move (Go.Operand.tmp 3), type := 9, pos := "law.go:21", after := #[], guard := none }) (v := ?_) rfl (by kernel_rfl) (by kernel_rfl) (by kernel_rfl) (fun _ _ _ h => h) (Or.inl ⟨by rfl, ?_⟩) (by exact HS.out _ (Below.refl wr.heap.size wr).drew) ?_
        rotate_left
        · intro Z hZ; clear hZ; go_simp; try with_reducible rfl
        simp only [Act.put, List.setIfInBounds_toArray, List.set_cons_zero, List.set_cons_succ]
        refine wpAnyH_take (i := 2) (oi := { dst := some 18, op := Go.Op.move (Go.Operand.tmp 4), type := 3, pos := "law.go:21", after := #[], guard := none }) (v := ?_) rfl (by kernel_rfl) (by kernel_rfl) (by kernel_rfl) (fun _ _ _ h => h) (Or.inl ⟨by rfl, ?_⟩) (by exact HS.out _ (Below.refl wr.heap.size wr).drew) ?_
        rotate_left
        · intro Z hZ; clear hZ; go_simp; try with_reducible rfl
        simp only [Act.put, List.setIfInBounds_toArray, List.set_cons_zero, List.set_cons_succ]
        refine wpAnyH_take (i := 3) (oi := { dst := some 19, op := Go.Op.index 9 (Go.Operand.tmp 17) (Go.Operand.tmp 18), type := 5, pos := "law.go:21", after := #[{ on := 1, ground := Go.Ground.data }, { on := 2, ground := Go.Ground.data }], guard := none }) (v := ?_) rfl (by kernel_rfl) (by kernel_rfl) (by kernel_rfl) (fun _ _ _ h => h) (Or.inl ⟨by rfl, ?_⟩) (by exact HS.out _ (Below.refl wr.heap.size wr).drew) ?_
        rotate_left
        · intro Z hZ; clear hZ; go_simp; try with_reducible rfl
        simp only [Act.put, List.setIfInBounds_toArray, List.set_cons_zero, List.set_cons_succ]
        refine wpAnyH_all (rs := [4, 8]) (by kernel_rfl) (by simp) (List.forall_mem_cons.2 ⟨wpOp_some (o := { dst := some 20, op := Go.Op.call { callee := Go.Callee.value (Go.Operand.func 7), args := #[Go.Operand.tmp 16, Go.Operand.tmp 19], argTypes := #[28, 5] }, type := 34, pos := "law.go:21", after := #[{ on := 0, ground := Go.Ground.data }, { on := 3, ground := Go.Ground.data }], guard := none }) rfl (by rfl) (fun J hJ => ?_), (List.forall_mem_cons.2 ⟨wpOp_some (o := { dst := some 5, op := Go.Op.alloc 28, type := 0, pos := "law.go:21", after := #[], guard := none }) rfl (by rfl) (fun J hJ => ?_), (by simp)⟩)⟩)
        · go_simp; refine (CF.out _ (VX.out.later (by exact (Below.refl wr.heap.size wr).drew)) (by exact (Below.refl wr.heap.size wr).drew)).mono ?_; rintro e w6 ⟨T6, A6, n6, c6, rfl, ch, hk, hn, b6⟩; have V6 := Lib.hid (And.intro (VX.out.later (((Below.refl wr.heap.size wr).drew).trans b6)) (And.intro ch (And.intro hk (And.intro hn (((Below.refl wr.heap.size wr).drew).trans b6))))); clear ch hk hn b6; dsimp only; refine hJ _ _ ⟨by exact so_blk V6.out.1.p, ?_⟩; clear hJ J
          refine wpAnyH_take (i := 5) (oi := { dst := some 15, op := Go.Op.move (Go.Operand.tmp 20), type := 34, pos := "law.go:21", after := #[{ on := 4, ground := Go.Ground.data }], guard := none }) (v := ?_) rfl (by kernel_rfl) (by kernel_rfl) (by kernel_rfl) (fun _ _ _ h => h) (Or.inl ⟨by rfl, ?_⟩) (by exact so_blk V6.out.1.p) ?_
          rotate_left
          · intro Z hZ; clear hZ; go_simp; try with_reducible rfl
          simp only [Act.put, List.setIfInBounds_toArray, List.set_cons_zero, List.set_cons_succ]
          refine wpAnyH_take (i := 6) (oi := { dst := some 21, op := Go.Op.extract (Go.Operand.tmp 15) 0, type := 28, pos := "law.go:21", after := #[{ on := 5, ground := Go.Ground.data }], guard := none }) (v := ?_) rfl (by kernel_rfl) (by kernel_rfl) (by kernel_rfl) (fun _ _ _ h => h) (Or.inl ⟨by rfl, ?_⟩) (by exact so_blk V6.out.1.p) ?_
          rotate_left
          · intro Z hZ; clear hZ; go_simp; try with_reducible rfl
          simp only [Act.put, List.setIfInBounds_toArray, List.set_cons_zero, List.set_cons_succ]
          refine wpAnyH_take (i := 7) (oi := { dst := some 22, op := Go.Op.extract (Go.Operand.tmp 15) 1, type := 32, pos := "law.go:21", after := #[{ on := 5, ground := Go.Ground.data }, { on := 9, ground := Go.Ground.gcOnly Go.Departure.lateStores }], guard := none }) (v := ?_) rfl (by kernel_rfl) (by kernel_rfl) (by kernel_rfl) (fun _ _ _ h => h) (Or.inl ⟨by rfl, ?_⟩) (by exact so_blk V6.out.1.p) ?_
          rotate_left
          · intro Z hZ; clear hZ; go_simp; try with_reducible rfl
          simp only [Act.put, List.setIfInBounds_toArray, List.set_cons_zero, List.set_cons_succ]
          refine wpAnyH_all (rs := [8]) (by kernel_rfl) (by simp) (List.forall_mem_cons.2 ⟨wpOp_some (o := { dst := some 5, op := Go.Op.alloc 28, type := 0, pos := "law.go:21", after := #[], guard := none }) rfl (by rfl) (fun J hJ => ?_), (by simp)⟩)
          go_simp; refine hJ _ _ ⟨by exact so_blk (V6.out.1.later (belAlloc _ _)).p, ?_⟩; clear hJ J
          refine wpAnyH_all (rs := [9]) (by kernel_rfl) (by simp) (List.forall_mem_cons.2 ⟨wpOp_some (o := { dst := none, op := Go.Op.store 28 (Go.Operand.tmp 5) (Go.Operand.tmp 21), type := 0, pos := "law.go:21", after := #[{ on := 8, ground := Go.Ground.data }, { on := 6, ground := Go.Ground.data }, { on := 4, ground := Go.Ground.chain }, { on := 0, ground := Go.Ground.phase }, { on := 1, ground := Go.Ground.phase }, { on := 2, ground := Go.Ground.phase }, { on := 3, ground := Go.Ground.phase }, { on := 4, ground := Go.Ground.phase }, { on := 5, ground := Go.Ground.phase }, { on := 6, ground := Go.Ground.phase }, { on := 7, ground := Go.Ground.textOnly Go.Departure.lateStores }, { on := 8, ground := Go.Ground.phase }], guard := none }) rfl (by rfl) (fun J hJ => ?_), (by simp)⟩)
          obtain ⟨y6, r6, j6⟩ := (show _ from (blk_new w6 zeroC 28)); have q0 : (w6.alloc (.cells #[.int .i64 0, .int .u8 0, .int .u8 0, .int .u8 0, .int .i64 0, .bool false, .string ⟨#[]⟩, .pointer none, .int .i64 0] 28)).cell? ⟨w6.heap.size, 0, none⟩ = some (.int .i64 0) := r6 0; have q1 : (w6.alloc (.cells #[.int .i64 0, .int .u8 0, .int .u8 0, .int .u8 0, .int .i64 0, .bool false, .string ⟨#[]⟩, .pointer none, .int .i64 0] 28)).cell? ⟨w6.heap.size, 1, none⟩ = some (.int .u8 0) := r6 1; have q2 : (w6.alloc (.cells #[.int .i64 0, .int .u8 0, .int .u8 0, .int .u8 0, .int .i64 0, .bool false, .string ⟨#[]⟩, .pointer none, .int .i64 0] 28)).cell? ⟨w6.heap.size, 2, none⟩ = some (.int .u8 0) := r6 2; have q3 : (w6.alloc (.cells #[.int .i64 0, .int .u8 0, .int .u8 0, .int .u8 0, .int .i64 0, .bool false, .string ⟨#[]⟩, .pointer none, .int .i64 0] 28)).cell? ⟨w6.heap.size, 3, none⟩ = some (.int .u8 0) := r6 3; have q4 : (w6.alloc (.cells #[.int .i64 0, .int .u8 0, .int .u8 0, .int .u8 0, .int .i64 0, .bool false, .string ⟨#[]⟩, .pointer none, .int .i64 0] 28)).cell? ⟨w6.heap.size, 4, none⟩ = some (.int .i64 0) := r6 4; have q5 : (w6.alloc (.cells #[.int .i64 0, .int .u8 0, .int .u8 0, .int .u8 0, .int .i64 0, .bool false, .string ⟨#[]⟩, .pointer none, .int .i64 0] 28)).cell? ⟨w6.heap.size, 5, none⟩ = some (.bool false) := r6 5; have q6 : (w6.alloc (.cells #[.int .i64 0, .int .u8 0, .int .u8 0, .int .u8 0, .int .i64 0, .bool false, .string ⟨#[]⟩, .pointer none, .int .i64 0] 28)).cell? ⟨w6.heap.size, 6, none⟩ = some (.string ⟨#[]⟩) := r6 6; have q7 : (w6.alloc (.cells #[.int .i64 0, .int .u8 0, .int .u8 0, .int .u8 0, .int .i64 0, .bool false, .string ⟨#[]⟩, .pointer none, .int .i64 0] 28)).cell? ⟨w6.heap.size, 7, none⟩ = some (.pointer none) := r6 7; have q8 : (w6.alloc (.cells #[.int .i64 0, .int .u8 0, .int .u8 0, .int .u8 0, .int .i64 0, .bool false, .string ⟨#[]⟩, .pointer none, .int .i64 0] 28)).cell? ⟨w6.heap.size, 8, none⟩ = some (.int .i64 0) := r6 8; have f0 : (w6.alloc (.cells #[.int .i64 0, .int .u8 0, .int .u8 0, .int .u8 0, .int .i64 0, .bool false, .string ⟨#[]⟩, .pointer none, .int .i64 0] 28)).frozen? ⟨w6.heap.size, 0, none⟩ = false := j6 0; have f1 : (w6.alloc (.cells #[.int .i64 0, .int .u8 0, .int .u8 0, .int .u8 0, .int .i64 0, .bool false, .string ⟨#[]⟩, .pointer none, .int .i64 0] 28)).frozen? ⟨w6.heap.size, 1, none⟩ = false := j6 1; have f2 : (w6.alloc (.cells #[.int .i64 0, .int .u8 0, .int .u8 0, .int .u8 0, .int .i64 0, .bool false, .string ⟨#[]⟩, .pointer none, .int .i64 0] 28)).frozen? ⟨w6.heap.size, 2, none⟩ = false := j6 2; have f3 : (w6.alloc (.cells #[.int .i64 0, .int .u8 0, .int .u8 0, .int .u8 0, .int .i64 0, .bool false, .string ⟨#[]⟩, .pointer none, .int .i64 0] 28)).frozen? ⟨w6.heap.size, 3, none⟩ = false := j6 3; have f4 : (w6.alloc (.cells #[.int .i64 0, .int .u8 0, .int .u8 0, .int .u8 0, .int .i64 0, .bool false, .string ⟨#[]⟩, .pointer none, .int .i64 0] 28)).frozen? ⟨w6.heap.size, 4, none⟩ = false := j6 4; have f5 : (w6.alloc (.cells #[.int .i64 0, .int .u8 0, .int .u8 0, .int .u8 0, .int .i64 0, .bool false, .string ⟨#[]⟩, .pointer none, .int .i64 0] 28)).frozen? ⟨w6.heap.size, 5, none⟩ = false := j6 5; have f6 : (w6.alloc (.cells #[.int .i64 0, .int .u8 0, .int .u8 0, .int .u8 0, .int .i64 0, .bool false, .string ⟨#[]⟩, .pointer none, .int .i64 0] 28)).frozen? ⟨w6.heap.size, 6, none⟩ = false := j6 6; have f7 : (w6.alloc (.cells #[.int .i64 0, .int .u8 0, .int .u8 0, .int .u8 0, .int .i64 0, .bool false, .string ⟨#[]⟩, .pointer none, .int .i64 0] 28)).frozen? ⟨w6.heap.size, 7, none⟩ = false := j6 7; have f8 : (w6.alloc (.cells #[.int .i64 0, .int .u8 0, .int .u8 0, .int .u8 0, .int .i64 0, .bool false, .string ⟨#[]⟩, .pointer none, .int .i64 0] 28)).frozen? ⟨w6.heap.size, 8, none⟩ = false := j6 8; clear r6 j6; go_simp; refine hJ _ _ ⟨by exact so_blk (V6.out.1.later (belAlloc _ _)).p, ?_⟩; clear hJ J
          refine wpAnyH_take (i := 10) (oi := { dst := some 6, op := Go.Op.assign (Go.Operand.tmp 22), type := 32, pos := "law.go:21", after := #[{ on := 7, ground := Go.Ground.data }, { on := 9, ground := Go.Ground.chain }, { on := 0, ground := Go.Ground.phase }, { on := 1, ground := Go.Ground.phase }, { on := 2, ground := Go.Ground.phase }, { on := 3, ground := Go.Ground.phase }, { on := 4, ground := Go.Ground.phase }, { on := 5, ground := Go.Ground.phase }, { on := 6, ground := Go.Ground.phase }, { on := 7, ground := Go.Ground.phase }, { on := 8, ground := Go.Ground.phase }, { on := 9, ground := Go.Ground.phase }], guard := none }) (v := ?_) rfl (by kernel_rfl) (by kernel_rfl) (by kernel_rfl) (fun _ _ _ h => h) (Or.inl ⟨by rfl, ?_⟩) (by exact so_blk (V6.out.1.later (belAlloc _ _)).p) ?_
          rotate_left
          · intro Z hZ; clear hZ; go_simp; try with_reducible rfl
          simp only [Act.put, List.setIfInBounds_toArray, List.set_cons_zero, List.set_cons_succ]
          refine wpAnyH_done (by kernel_rfl) ?_ _
          go_wp2_with fail; go_meet; exact ⟨w6.heap.size, T6, A6, n6, c6, rfl, rfl, V6.out.2.2.2.1, Lib.hid (pq_new (s := ⟨sw, ⟨h0, h1, h2, dn⟩, sm, srow, [], scl⟩) (s' := ⟨rw_, ⟨x, y, z, nd⟩, rm, rrow, rtx, rcl⟩) V6.out.1 V6.out.2.1 V6.out.2.2.1 V6.out.2.2.2.2 _)⟩
        · go_simp; refine hJ _ _ ⟨by exact HS.out _ ((Below.refl wr.heap.size wr).drew.alloc (Nat.le_refl _) _), ?_⟩; clear hJ J
          refine wpAnyH_all (rs := [4]) (by kernel_rfl) (by simp) (List.forall_mem_cons.2 ⟨wpOp_some (o := { dst := some 20, op := Go.Op.call { callee := Go.Callee.value (Go.Operand.func 7), args := #[Go.Operand.tmp 16, Go.Operand.tmp 19], argTypes := #[28, 5] }, type := 34, pos := "law.go:21", after := #[{ on := 0, ground := Go.Ground.data }, { on := 3, ground := Go.Ground.data }], guard := none }) rfl (by rfl) (fun J hJ => ?_), (by simp)⟩)
          go_simp; refine (CF.out _ (VX.out.later (((Below.refl wr.heap.size wr).drew).alloc (Nat.le_refl _) _)) (((Below.refl wr.heap.size wr).drew).alloc (Nat.le_refl _) _)).mono ?_; rintro e w6 ⟨T6, A6, n6, c6, rfl, ch, hk, hn, b6⟩; have V6 := Lib.hid (And.intro (VX.out.later ((((Below.refl wr.heap.size wr).drew).alloc (Nat.le_refl _) (.cells #[.int .i64 0, .int .u8 0, .int .u8 0, .int .u8 0, .int .i64 0, .bool false, .string ⟨#[]⟩, .pointer none, .int .i64 0] 28)).trans (b6.mono (by rw [World.size_alloc]; exact Nat.le_succ _)))) (And.intro ch (And.intro hk (And.intro hn ((((Below.refl wr.heap.size wr).drew).alloc (Nat.le_refl _) (.cells #[.int .i64 0, .int .u8 0, .int .u8 0, .int .u8 0, .int .i64 0, .bool false, .string ⟨#[]⟩, .pointer none, .int .i64 0] 28)).trans (b6.mono (by rw [World.size_alloc]; exact Nat.le_succ _))))))); have Z6 := Lib.hid ((blk_new wr.drew zeroC 28).later b6 (by rw [World.size_alloc]; exact Nat.lt_succ_self _)); clear ch hk hn b6; dsimp only; refine hJ _ _ ⟨by exact so_blk V6.out.1.p, ?_⟩; clear hJ J
          refine wpAnyH_take (i := 5) (oi := { dst := some 15, op := Go.Op.move (Go.Operand.tmp 20), type := 34, pos := "law.go:21", after := #[{ on := 4, ground := Go.Ground.data }], guard := none }) (v := ?_) rfl (by kernel_rfl) (by kernel_rfl) (by kernel_rfl) (fun _ _ _ h => h) (Or.inl ⟨by rfl, ?_⟩) (by exact so_blk V6.out.1.p) ?_
          rotate_left
          · intro Z hZ; clear hZ; go_simp; try with_reducible rfl
          simp only [Act.put, List.setIfInBounds_toArray, List.set_cons_zero, List.set_cons_succ]
          refine wpAnyH_take (i := 6) (oi := { dst := some 21, op := Go.Op.extract (Go.Operand.tmp 15) 0, type := 28, pos := "law.go:21", after := #[{ on := 5, ground := Go.Ground.data }], guard := none }) (v := ?_) rfl (by kernel_rfl) (by kernel_rfl) (by kernel_rfl) (fun _ _ _ h => h) (Or.inl ⟨by rfl, ?_⟩) (by exact so_blk V6.out.1.p) ?_
          rotate_left
          · intro Z hZ; clear hZ; go_simp; try with_reducible rfl
          simp only [Act.put, List.setIfInBounds_toArray, List.set_cons_zero, List.set_cons_succ]
          refine wpAnyH_take (i := 7) (oi := { dst := some 22, op := Go.Op.extract (Go.Operand.tmp 15) 1, type := 32, pos := "law.go:21", after := #[{ on := 5, ground := Go.Ground.data }, { on := 9, ground := Go.Ground.gcOnly Go.Departure.lateStores }], guard := none }) (v := ?_) rfl (by kernel_rfl) (by kernel_rfl) (by kernel_rfl) (fun _ _ _ h => h) (Or.inl ⟨by rfl, ?_⟩) (by exact so_blk V6.out.1.p) ?_
          rotate_left
          · intro Z hZ; clear hZ; go_simp; try with_reducible rfl
          simp only [Act.put, List.setIfInBounds_toArray, List.set_cons_zero, List.set_cons_succ]
          refine wpAnyH_all (rs := [9]) (by kernel_rfl) (by simp) (List.forall_mem_cons.2 ⟨wpOp_some (o := { dst := none, op := Go.Op.store 28 (Go.Operand.tmp 5) (Go.Operand.tmp 21), type := 0, pos := "law.go:21", after := #[{ on := 8, ground := Go.Ground.data }, { on := 6, ground := Go.Ground.data }, { on := 4, ground := Go.Ground.chain }, { on := 0, ground := Go.Ground.phase }, { on := 1, ground := Go.Ground.phase }, { on := 2, ground := Go.Ground.phase }, { on := 3, ground := Go.Ground.phase }, { on := 4, ground := Go.Ground.phase }, { on := 5, ground := Go.Ground.phase }, { on := 6, ground := Go.Ground.phase }, { on := 7, ground := Go.Ground.textOnly Go.Departure.lateStores }, { on := 8, ground := Go.Ground.phase }], guard := none }) rfl (by rfl) (fun J hJ => ?_), (by simp)⟩)
          obtain ⟨y6, r6, j6⟩ := (show _ from Z6.out); have q0 : w6.cell? ⟨wr.heap.size, 0, none⟩ = some (.int .i64 0) := r6 0; have q1 : w6.cell? ⟨wr.heap.size, 1, none⟩ = some (.int .u8 0) := r6 1; have q2 : w6.cell? ⟨wr.heap.size, 2, none⟩ = some (.int .u8 0) := r6 2; have q3 : w6.cell? ⟨wr.heap.size, 3, none⟩ = some (.int .u8 0) := r6 3; have q4 : w6.cell? ⟨wr.heap.size, 4, none⟩ = some (.int .i64 0) := r6 4; have q5 : w6.cell? ⟨wr.heap.size, 5, none⟩ = some (.bool false) := r6 5; have q6 : w6.cell? ⟨wr.heap.size, 6, none⟩ = some (.string ⟨#[]⟩) := r6 6; have q7 : w6.cell? ⟨wr.heap.size, 7, none⟩ = some (.pointer none) := r6 7; have q8 : w6.cell? ⟨wr.heap.size, 8, none⟩ = some (.int .i64 0) := r6 8; have f0 : w6.frozen? ⟨wr.heap.size, 0, none⟩ = false := j6 0; have f1 : w6.frozen? ⟨wr.heap.size, 1, none⟩ = false := j6 1; have f2 : w6.frozen? ⟨wr.heap.size, 2, none⟩ = false := j6 2; have f3 : w6.frozen? ⟨wr.heap.size, 3, none⟩ = false := j6 3; have f4 : w6.frozen? ⟨wr.heap.size, 4, none⟩ = false := j6 4; have f5 : w6.frozen? ⟨wr.heap.size, 5, none⟩ = false := j6 5; have f6 : w6.frozen? ⟨wr.heap.size, 6, none⟩ = false := j6 6; have f7 : w6.frozen? ⟨wr.heap.size, 7, none⟩ = false := j6 7; have f8 : w6.frozen? ⟨wr.heap.size, 8, none⟩ = false := j6 8; clear r6 j6; go_simp; refine hJ _ _ ⟨by exact so_blk (put9_far V6.out.1.p (Nat.ne_of_gt VX.out.p.1) _ _ _ _ _ _ _ _ _), ?_⟩; clear hJ J
          refine wpAnyH_take (i := 10) (oi := { dst := some 6, op := Go.Op.assign (Go.Operand.tmp 22), type := 32, pos := "law.go:21", after := #[{ on := 7, ground := Go.Ground.data }, { on := 9, ground := Go.Ground.chain }, { on := 0, ground := Go.Ground.phase }, { on := 1, ground := Go.Ground.phase }, { on := 2, ground := Go.Ground.phase }, { on := 3, ground := Go.Ground.phase }, { on := 4, ground := Go.Ground.phase }, { on := 5, ground := Go.Ground.phase }, { on := 6, ground := Go.Ground.phase }, { on := 7, ground := Go.Ground.phase }, { on := 8, ground := Go.Ground.phase }, { on := 9, ground := Go.Ground.phase }], guard := none }) (v := ?_) rfl (by kernel_rfl) (by kernel_rfl) (by kernel_rfl) (fun _ _ _ h => h) (Or.inl ⟨by rfl, ?_⟩) (by exact so_blk (put9_far V6.out.1.p (Nat.ne_of_gt VX.out.p.1) _ _ _ _ _ _ _ _ _)) ?_
          rotate_left
          · intro Z hZ; clear hZ; go_simp; try with_reducible rfl
          simp only [Act.put, List.setIfInBounds_toArray, List.set_cons_zero, List.set_cons_succ]
          refine wpAnyH_done (by kernel_rfl) ?_ _
          go_wp2_with fail; go_meet; exact ⟨wr.heap.size, T6, A6, n6, c6, rfl, rfl, V6.out.2.2.2.1, Lib.hid (pq_put (w := w) (X0 := wr) (Z := w6) (g := w.heap.size) (gq := wr.heap.size) (T := none) (T' := T6) (v := .slice A6 n6 c6) (ks := ks) (s := ⟨sw, ⟨h0, h1, h2, dn⟩, sm, srow, [], scl⟩) (s' := ⟨rw_, ⟨x, y, z, nd⟩, rm, rrow, rtx, rcl⟩) V6.out.1 Z6.out (Nat.le_refl _) VX.out.p.1 V6.out.2.1 V6.out.2.2.1 V6.out.2.2.2.2)⟩
      case rest =>
        obtain ⟨gq, T6, A6, n6, c6, rfl, rfl, hn6, HQ⟩ := hcut
        obtain ⟨ye, ke, je⟩ := (show _ from HQ.out.q)
        obtain ⟨yd, kd, jd⟩ := (show _ from HQ.out.ps.p)
        have e0 : wc.cell? ⟨gq, 0, none⟩ = _ := ke 0
        have e1 : wc.cell? ⟨gq, 1, none⟩ = _ := ke 1
        have e2 : wc.cell? ⟨gq, 2, none⟩ = _ := ke 2
        have e3 : wc.cell? ⟨gq, 3, none⟩ = _ := ke 3
        have e4 : wc.cell? ⟨gq, 4, none⟩ = _ := ke 4
        have e5 : wc.cell? ⟨gq, 5, none⟩ = _ := ke 5
        have e6 : wc.cell? ⟨gq, 6, none⟩ = _ := ke 6
        have e7 : wc.cell? ⟨gq, 7, none⟩ = _ := ke 7
        have e8 : wc.cell? ⟨gq, 8, none⟩ = _ := ke 8
        have d0 : wc.cell? ⟨w.heap.size, 0, none⟩ = _ := kd 0
        have d1 : wc.cell? ⟨w.heap.size, 1, none⟩ = _ := kd 1
        have d2 : wc.cell? ⟨w.heap.size, 2, none⟩ = _ := kd 2
        have d3 : wc.cell? ⟨w.heap.size, 3, none⟩ = _ := kd 3
        have d4 : wc.cell? ⟨w.heap.size, 4, none⟩ = _ := kd 4
        have d5 : wc.cell? ⟨w.heap.size, 5, none⟩ = _ := kd 5
        have d6 : wc.cell? ⟨w.heap.size, 6, none⟩ = _ := kd 6
        have d7 : wc.cell? ⟨w.heap.size, 7, none⟩ = _ := kd 7
        have d8 : wc.cell? ⟨w.heap.size, 8, none⟩ = _ := kd 8
        have g0 := jd 0
        have g1 := jd 1
        have g2 := jd 2
        have g3 := jd 3
        have g4 := jd 4
        have g5 := jd 5
        have g6 := jd 6
        have g7 := jd 7
        have g8 := jd 8
        have hne1 : gq ≠ w.heap.size := Nat.ne_of_gt HQ.out.ne
        have hne2 : w.heap.size ≠ gq := Nat.ne_of_lt HQ.out.ne
        simp at e0 e1 e2 e3 e4 e5 e6 e7 e8 d0 d1 d2 d3 d4 d5 d6 d7 d8
        clear ke kd jd je
        go_upto_region 9 with fail
        refine at_world (PN w wr w.heap.size ⟨rw_, ⟨x, y, z, nd⟩, rm, rrow, rtx, rcl⟩ T6 (.slice A6 n6 c6) ks) (pn_put (w := w) (X0 := wr) (Y := wc) (g := w.heap.size) (gq := gq) (T' := T6) (s' := ⟨rw_, ⟨x, y, z, nd⟩, rm, rrow, rtx, rcl⟩) HQ.out) ?_
        clear e0 e1 e2 e3 e4 e5 e6 e7 e8 d0 d1 d2 d3 d4 d5 d6 d7 d8 g0 g1 g2 g3 g4 g5 g6 g7 g8 ye yd hne1 hne2 HQ
        intro Y hY
        have VY := Lib.hid hY
        clear hY
        obtain ⟨hs, ho, hkA⟩ := (show KyO _ _ _ _ _ from HG.out.out)
        obtain ⟨gs, hl, hkl⟩ := (show KyW _ _ _ from VY.out.l)
        have hoY := Lib.hid (own_kept ho VY.out.kept (Nat.lt_succ_self _))
        have HL := Lib.hid (And.intro hl (And.intro hkA hkl))
        have hsz1 : w.heap.size + 1 ≤ Y.heap.size := VY.out.ps.p.1
        have hl1 := awake_len (k + 1) (by omega)
        rw [runK_snoc (KS.zero, []) hbq, HF.out] at hl1
        have hnn : n = (runK (KS.zero, []) (awakeB.take k)).2.length := (kyW_own HG.out.out).2
        have hnb : n + n6 ≤ 5 := by
          rw [hnn, hn6]
          simpa using hl1
        have hmx : n + n6 ≤ maxLen := by unfold maxLen; omega
        have hmx2 : (n + n6) * 40 ≤ 140737488355328 := by omega
        clear ho hl hkA hkl hl1 hnn hn6
        go_wp2_with (at_builtin; go_loud (refine wpList_li encK_len encK_one key_elt hoY.out hsz1 rfl rfl rfl rfl HL.out.1 hmx hmx2 ?_; intro A3 c3 w3 hp; have V3 := Lib.hid (awI_next hlt hbq HG.out HF.out VY.out HL.out.2.1 HL.out.2.2 hoY.out hp); clear hp))
        go_roundw
        case rel => exact ⟨k + 1, A3, n + n6, c3, by omega, by go_num, rfl, V3.out⟩
        case measure => simp [intOf]; omega
    · obtain rfl : k = 10 := by omega
      obtain ⟨R, hR⟩ : ∃ R, (runK (KS.zero, []) (awakeB.take 10)).1 = R := ⟨_, rfl⟩
      have hok : R.Ok := by
        rw [← hR]
        exact (runK_ok _ (KS.zero, []) 0 ok_zero (fun b hb => by
          have h1 : ∀ b ∈ awakeB, 0 ≤ b ∧ b ≤ 255 := by decide
          exact h1 b (List.mem_of_mem_take hb)) (by simp [KS.zero]) (by simp [awakeB])).1
      have htx : R.tx = [] := by rw [← hR]; exact awake_tx 10 (by omega)
      have hps := HG.out.ps
      rw [hR] at hps
      obtain ⟨⟨⟨rw_, ⟨x, y, z, nd⟩, rm, rrow, rtx, rcl⟩, ks⟩, hfd⟩ : ∃ r, tickK R = r := ⟨_, rfl⟩
      have HF := Lib.hid (show tickK (runK (KS.zero, []) (awakeB.take 10)).1 = (⟨rw_, ⟨x, y, z, nd⟩, rm, rrow, rtx, rcl⟩, ks) by rw [hR]; exact hfd)
      have CT := Lib.hid (show Calls Try.prog 9 #[psV R none] wr (Tells (⟨rw_, ⟨x, y, z, nd⟩, rm, rrow, rtx, rcl⟩, ks) wr) from by rw [← hfd]; exact tick_any R none hok wr hps.chain)
      clear hfd hok hR
      obtain ⟨sw, ⟨h0, h1, h2, dn⟩, sm, srow, stx, scl⟩ := R
      dsimp only at htx
      subst htx
      obtain ⟨yd, kd, jd⟩ := (show _ from hps.p)
      have VX := Lib.hid hps
      clear hps
      have d0 : wr.cell? ⟨w.heap.size, 0, none⟩ = _ := kd 0
      have d1 : wr.cell? ⟨w.heap.size, 1, none⟩ = _ := kd 1
      have d2 : wr.cell? ⟨w.heap.size, 2, none⟩ = _ := kd 2
      have d3 : wr.cell? ⟨w.heap.size, 3, none⟩ = _ := kd 3
      have d4 : wr.cell? ⟨w.heap.size, 4, none⟩ = _ := kd 4
      have d5 : wr.cell? ⟨w.heap.size, 5, none⟩ = _ := kd 5
      have d6 : wr.cell? ⟨w.heap.size, 6, none⟩ = _ := kd 6
      have d7 : wr.cell? ⟨w.heap.size, 7, none⟩ = _ := kd 7
      have d8 : wr.cell? ⟨w.heap.size, 8, none⟩ = _ := kd 8
      simp at d0 d1 d2 d3 d4 d5 d6 d7 d8
      clear kd jd
      go_upto_region 11 with (go_at_call 9; refine CT.out.mono ?_; rintro e w6 ⟨T6, A6, n6, c6, rfl, ch, hk, hn, b6⟩; have V6 := Lib.hid (And.intro b6 (And.intro hk hn)); clear ch hk hn b6)
      refine at_world (fun Z => Below wr.heap.size wr Z ∧ KyW Z (.slice A6 n6 c6) ks) ⟨belowStep V6.out.1 (belAlloc _ _), V6.out.2.1.later (belAlloc _ _)⟩ ?_
      intro Y hY
      have VY := Lib.hid hY
      clear hY yd d0 d1 d2 d3 d4 d5 d6 d7 d8
      obtain ⟨hs, ho, hkA⟩ := (show KyO _ _ _ _ _ from HG.out.out)
      obtain ⟨gs, hl, hkl⟩ := (show KyW _ _ _ from VY.out.2)
      have hoY := Lib.hid (own_later ho VY.out.1)
      have HL := Lib.hid (And.intro hl (And.intro hkA hkl))
      have hsz1 : w.heap.size + 1 ≤ Y.heap.size := Nat.le_trans VX.out.p.1 VY.out.1.size
      have htot : (runK (KS.zero, []) (awakeB.take 10)).2 ++ ks = six := by
        have := awake_keys
        rw [show awakeB = awakeB.take 10 from rfl, HF.out] at this
        exact this
      have hnn : n = (runK (KS.zero, []) (awakeB.take 10)).2.length := (kyW_own HG.out.out).2
      have hks : n6 = ks.length := by
        obtain ⟨A', c', e, _⟩ := VY.out.2.is
        injection e
      have hnb : n + n6 = 6 := by
        have := congrArg List.length htot
        rw [List.length_append, ← hnn, ← hks] at this
        exact this
      have hmx : n + n6 ≤ maxLen := by unfold maxLen; omega
      have hmx2 : (n + n6) * 40 ≤ 140737488355328 := by omega
      have HT := Lib.hid htot
      have HN := Lib.hid hnb
      clear ho hl hkA hkl hnn hks htot hnb
      go_upto_region 12 with (at_builtin; refine wpList_li encK_len encK_one key_elt hoY.out hsz1 rfl rfl rfl rfl HL.out.1 hmx hmx2 ?_; intro A3 c3 w3 hp; have V3 := Lib.hid (six_out HG.out.ps.below HG.out.ps.p.1 VY.out.1 HL.out.2.1 HL.out.2.2 hoY.out hp HT.out); clear hp)
      clear hmx hmx2 hsz1
      go_wp2_with (go_at_call 11; refine (sameK_eq _ _ six _ (V3.out.1.later (belAlloc _ _)) (kyW_new6 w3 _) (by decide) (by decide)).mono ?_; rintro e w4 ⟨rfl, b4⟩)
      go_ret
      exact ⟨rfl, V3.out.2.trans (((belAlloc _ _).trans (b4.mono (by rw [World.size_alloc]; exact Nat.le_succ _))).mono V3.out.2.size)⟩
end Go.Proofs.Ytkkenabckhmkoaa
