/- keys: scalars are keys. -/
import Derived.Test.YtkkenabckhmkoaaKzB
import Derived.Test.YtkkenabckhmkoaaKyZ
import Derived.Test.YtkkenabckhmkoaaArg
namespace Go.Proofs.Ytkkenabckhmkoaa
open Go.RowKit
set_option linter.unusedVariables false
set_option linter.unusedSimpArgs false
set_option maxRecDepth 100000

theorem few_cut (A : Option Addr) (n c k : Nat) (w : World) (hle : n ≤ c) (hmax : c ≤ maxLen) (hk : k ≤ 1000000) : Calls Try.prog 14 #[.slice A n c, .int .i64 k] w fun e w' => e = .returned (.slice A (min n k) c) ∧ w = w' := by
  unfold maxLen at hmax
  rcases Nat.lt_or_ge k n with hlt | hge
  · have hlen : min n k = k := by omega
    rw [hlen]
    have d0 : decide ((k : Int) < (n : Int)) = true := by simp; omega
    have hcn : (k : Int) ≤ (c : Int) := by omega
    clear hlen
    go_enter Try.func14, Try.ntmps14
    go_wp2
    go_ret
    exact ⟨rfl, rfl⟩
  · have hlen : min n k = n := by omega
    rw [hlen]
    have d0 : decide ((k : Int) < (n : Int)) = false := by simp; omega
    clear hlen
    go_enter Try.func14, Try.ntmps14
    go_wp2
    go_ret
    exact ⟨rfl, rfl⟩
theorem ksD_zero : KS.zero = ksD DS.zero := rfl
theorem psD_next {w X : World} {g : Nat} {s' : KS} {d : DS} {T : Option Addr} (h : PS w g s' T X) (e : s' = ksD d) : PS w g (ksD d) none X := by
  subst e
  have hT : T = none := h.chain
  subst hT
  exact h
def Yes (w : World) (e : Ending) (w' : World) : Prop := e = .returned (.bool true) ∧ Below w.heap.size w w'
theorem kyW_char (w : World) (t : TypeId) (r : Int) : KyW (w.alloc (.cells #[.int .i64 1, .int .i32 r, .bool false, .slice none 0 0] t)) (.slice (some ⟨w.heap.size, 0, none⟩) 1 1) [⟨1, r, false, []⟩] := kyW_new1 w t 1 r false

set_option maxHeartbeats 8000000 in
theorem walk_KeysText (w : World) (A : Option Addr) (n c : Nat) (p : Nat → Int) (hA : Rd w A n (fun j => .int .i32 (p j))) (hle : n ≤ c) (hmax : c ≤ maxLen) (hp : ∀ j, j < n → (Lit.int .i32 (p j)).wf = true) :
    Calls Try.prog 4 #[.slice A n c] w (Yes w) := by
  have CFew := Lib.hid (few_cut A n c 60 w hle hmax (by omega))
  obtain ⟨m, hm⟩ : ∃ m, min n 60 = m := ⟨_, rfl⟩
  rw [hm] at CFew
  have hm1 : m ≤ n := by omega
  have hm2 : m ≤ 60 := by omega
  have HA := Lib.hid (show Rd w A m (fun j => .int .i32 (p j)) from fun j hj => hA j (by omega))
  have HP := Lib.hid (fun j (hj : j < m) => wf_i32 (hp j (by omega)))
  clear hA hp hm hm1 hle hmax
  go_enter Try.func4, Try.ntmps4
  go_upto_region 2 with (go_at_call 14; refine CFew.out.mono ?_; rintro e _ ⟨rfl, rfl⟩)
  clear CFew
  go_upto_region 3 with fail
  refine at_world (PS w w.heap.size KS.zero none) (ps_start (Below.refl _ _) _) ?_
  intro X hX
  have V0 := Lib.hid (show PS w w.heap.size (ksD DS.zero) none X from hX)
  clear hX
  go_wp2_with fail
  go_loopw [4] (fun i wr => ∃ k : Nat, k ≤ m ∧ i = .int .i64 (k : Nat) ∧ Hid (PS w w.heap.size (ksD DS.zero) none wr)) (fun i _ => m - (intOf i).toNat)
  case atStart => exact ⟨0, Nat.zero_le _, rfl, V0.out⟩
  case round =>
    obtain ⟨k, hk, rfl, HG⟩ := hrel
    clear V0
    by_cases hlt : k < m
    · obtain ⟨b, o, rfl, hbl, hc0⟩ := HA.out k hlt
      have hcw : wr.cell? ⟨b, o + k, none⟩ = some (.int .i32 (p k)) := (HG.out.below.cell (p := ⟨b, o + k, none⟩) hbl).trans hc0
      obtain ⟨hr0, hr1⟩ := HP.out k hlt
      dsimp only at hc0
      have HC := Lib.hid (And.intro hbl hc0)
      obtain ⟨r, hr⟩ : ∃ r, p k = r := ⟨_, rfl⟩
      rw [hr] at hcw HC hr0 hr1
      clear hr hbl hc0
      have CV := Lib.hid (fun w => rvalid_any r w)
      obtain ⟨b1, hb1⟩ : ∃ b1, decide (r < 32) = b1 := ⟨_, rfl⟩
      obtain ⟨b2, hb2⟩ : ∃ b2, (r == 127) = b2 := ⟨_, rfl⟩
      obtain ⟨b3, hb3⟩ : ∃ b3, okS r = b3 := ⟨_, rfl⟩
      rw [hb3] at CV
      have HB := Lib.hid (And.intro hb1 (And.intro hb2 hb3))
      clear hb3
      cases b1
      case true =>
        clear hb2 hr0 hr1
        go_wp2_with fail
        go_roundw
        case rel => exact ⟨k + 1, by omega, by go_num, HG.out⟩
        case measure => simp [intOf]; omega
      case false =>
        cases b2
        case true =>
          clear hr0 hr1
          go_wp2_with fail
          go_roundw
          case rel => exact ⟨k + 1, by omega, by go_num, HG.out⟩
          case measure => simp [intOf]; omega
        case false =>
          cases b3
          case false =>
            clear hr0 hr1
            go_wp2_with (go_at_call 15; refine (CV.out _).mono ?_; rintro e _ ⟨rfl, rfl⟩)
            go_roundw
            case rel => exact ⟨k + 1, by omega, by go_num, HG.out⟩
            case measure => simp [intOf]; omega
          case true =>
            go_upto_region 7 with (go_at_call 15; refine (CV.out _).mono ?_; rintro e _ ⟨rfl, rfl⟩)
            have hok := (okS_iff r).1 HB.out.2.2
            have hpu : putS r = putI r := by unfold putS scal; rw [if_pos HB.out.2.2]
            have h32 : 32 ≤ r := by have := HB.out.1; simp at this; omega
            have h127 : r ≠ 127 := by have := HB.out.2.1; simpa using this
            obtain ⟨ss, hss0, hssn, hss⟩ := feed_put r h32 h127 (by omega)
            obtain ⟨hq0, hq1, hq2⟩ := putS_range r
            obtain ⟨S, hS⟩ : ∃ S, strOfNums (putS r) = S := ⟨_, rfl⟩
            have CP := Lib.hid (show ∀ w, Calls Try.prog 16 #[.int .i32 r] w fun e w' => e = .returned (.string S) ∧ Below w.heap.size w w' from fun w => by rw [← hS]; exact rput_any r w hr0 hr1)
            have hbt : bts S = putI r := by rw [← hS, bts_str _ hq0, hpu]
            have hsz : S.size = (putI r).length := by rw [← hbt, bts_length]
            rw [hpu] at hq1 hq2
            rw [← hsz] at hq1 hq2
            have HS1 := Lib.hid (And.intro hss (And.intro hssn (And.intro hbt hsz)))
            have V0 := Lib.hid HG.out
            clear hss hssn hbt hsz hS hq0 hpu h127 h32 hok hr0 hr1 HB CV hb1
            go_upto_region 8 with (go_at_call 16; refine (CP.out _).mono ?_; rintro e w1 ⟨rfl, hb1⟩; have V1 := Lib.hid (V0.out.later hb1); clear hb1)
            clear hcw
            go_wp2_with fail
            go_loopw [6] (fun i wr => ∃ q : Nat, q ≤ S.size ∧ i = .int .i64 (q : Nat) ∧ Hid (PS w w.heap.size (ksD (ss q)) none wr ∧ (ksD (ss q)).Ok)) (fun i _ => S.size - (intOf i).toNat)
            case atStart => exact ⟨0, Nat.zero_le _, rfl, by rw [hss0]; exact V1.out, by rw [hss0]; exact ok_zero⟩
            case round =>
              obtain ⟨q, hq, rfl, HI⟩ := hrel
              clear V1 HG V0 hss0
              by_cases hlq : q < S.size
              · have hlts : (q : Int) < (S.size : Int) := by omega
                have hb0 : 0 ≤ (S[q].toNat : Int) := by omega
                have hb1 : (S[q].toNat : Int) ≤ 255 := by have := S[q].toNat_lt; omega
                have hbq : (putI r)[q]? = some (S[q].toNat : Int) := by
                  rw [← HS1.out.2.2.1]
                  simp [bts, hlq, ByteArray.getElem_eq_getElem_data]
                have hfs := HS1.out.1 q _ hbq
                rw [← HS1.out.2.2.2] at hfs
                obtain ⟨R, hR⟩ : ∃ R, ksD (ss q) = R := ⟨_, rfl⟩
                have hps := HI.out
                rw [hR] at hps hfs
                have hokq := ok_feed R hps.2 (S[q].toNat : Int) hb0 hb1 (by rw [← hR]; exact Nat.zero_lt_succ _)
                obtain ⟨⟨⟨rw_, ⟨x, y, z, nd⟩, rm, rrow, rtx, rcl⟩, ks⟩, hfd⟩ : ∃ r, feedK R (S[q].toNat : Int) = r := ⟨_, rfl⟩
                have CF := Lib.hid (show ∀ Z, PS w w.heap.size R none Z → Below wr.heap.size wr Z → Calls Try.prog 7 #[psV R none, .int .u8 (S[q].toNat : Int)] Z (Tells (⟨rw_, ⟨x, y, z, nd⟩, rm, rrow, rtx, rcl⟩, ks) Z) from fun Z hZ _ => by rw [← hfd]; exact feed_any R none _ hb0 hb1 hps.2 Z hZ.chain)
                rw [hfd] at hfs hokq
                have HF := Lib.hid (And.intro (congrArg Prod.fst hfs) (And.intro (congrArg Prod.snd hfs) hokq))
                have VX := Lib.hid (show PS w w.heap.size R none wr from hps.1)
                rw [← hR] at VX CF
                clear hfd hps hR hfs hokq R
                obtain ⟨dd, hdd⟩ : ∃ dd, ss q = dd := ⟨_, rfl⟩
                rw [hdd] at VX CF
                clear hdd
                obtain ⟨h0, h1, h2, dn⟩ := dd
                have HS := Lib.hid (show ∀ Z, Below wr.heap.size wr Z → SO w.heap.size ⟨0, ⟨h0, h1, h2, dn⟩, false, ⟨#[]⟩, [], 0⟩ none Z from fun Z hZ => so_blk (VX.out.later hZ).p)
                go_wp2_with fail
                go_cut [7, 8] (fun v5 v6 wx => ∃ (gq : Nat) (T6 A6 : Option Addr) (n6 c6 : Nat), v5 = .pointer (some ⟨gq, 0, none⟩) ∧ v6 = .slice A6 n6 c6 ∧ n6 = ks.length ∧ Hid (PQ w wr w.heap.size gq ⟨0, ⟨h0, h1, h2, dn⟩, false, ⟨#[]⟩, [], 0⟩ ⟨rw_, ⟨x, y, z, nd⟩, rm, rrow, rtx, rcl⟩ none T6 (.slice A6 n6 c6) ks wx))
                case first =>
                  refine wp_region_held (S := SO w.heap.size ⟨0, ⟨h0, h1, h2, dn⟩, false, ⟨#[]⟩, [], 0⟩ none) (by kernel_rfl) ?_
                  change wpAnyH _ _ _ _ _ _ _ _ (World.drew _)
                  refine wpAnyH_take (i := 0) (oi := { dst := some 49, op := Go.Op.load 28 (Go.Operand.tmp 3), type := 28, pos := "law.go:62", after := #[], guard := none }) (v := ?_) rfl (by kernel_rfl) (by kernel_rfl) (by kernel_rfl) (fun _ _ _ h => h) (Or.inl ⟨by rfl, ?_⟩) (by exact HS.out _ (Below.refl wr.heap.size wr).drew) ?_
                  rotate_left
                  · intro Z hZ; obtain ⟨p0, p1, p2, p3, p4, p5, p6, p7, p8⟩ := hZ; dsimp only at p0 p1 p2 p3 p4 p5 p6 p7 p8; go_simp; try with_reducible rfl
                  simp only [Act.put, List.setIfInBounds_toArray, List.set_cons_zero, List.set_cons_succ]
                  refine wpAnyH_take (i := 1) (oi := { dst := some 50, op := Go.Op.move (Go.Operand.tmp 5), type := 9, pos := "law.go:62", after := #[], guard := none }) (v := ?_) rfl (by kernel_rfl) (by kernel_rfl) (by kernel_rfl) (fun _ _ _ h => h) (Or.inl ⟨by rfl, ?_⟩) (by exact HS.out _ (Below.refl wr.heap.size wr).drew) ?_
                  rotate_left
                  · intro Z hZ; clear hZ; go_simp; try with_reducible rfl
                  simp only [Act.put, List.setIfInBounds_toArray, List.set_cons_zero, List.set_cons_succ]
                  refine wpAnyH_take (i := 2) (oi := { dst := some 51, op := Go.Op.move (Go.Operand.tmp 6), type := 3, pos := "law.go:62", after := #[], guard := none }) (v := ?_) rfl (by kernel_rfl) (by kernel_rfl) (by kernel_rfl) (fun _ _ _ h => h) (Or.inl ⟨by rfl, ?_⟩) (by exact HS.out _ (Below.refl wr.heap.size wr).drew) ?_
                  rotate_left
                  · intro Z hZ; clear hZ; go_simp; try with_reducible rfl
                  simp only [Act.put, List.setIfInBounds_toArray, List.set_cons_zero, List.set_cons_succ]
                  refine wpAnyH_take (i := 3) (oi := { dst := some 52, op := Go.Op.index 9 (Go.Operand.tmp 50) (Go.Operand.tmp 51), type := 5, pos := "law.go:62", after := #[{ on := 1, ground := Go.Ground.data }, { on := 2, ground := Go.Ground.data }], guard := none }) (v := ?_) rfl (by kernel_rfl) (by kernel_rfl) (by kernel_rfl) (fun _ _ _ h => h) (Or.inl ⟨by rfl, ?_⟩) (by exact HS.out _ (Below.refl wr.heap.size wr).drew) ?_
                  rotate_left
                  · intro Z hZ; clear hZ; go_simp; try with_reducible rfl
                  simp only [Act.put, List.setIfInBounds_toArray, List.set_cons_zero, List.set_cons_succ]
                  refine wpAnyH_all (rs := [4, 8]) (by kernel_rfl) (by simp) (List.forall_mem_cons.2 ⟨wpOp_some (o := { dst := some 53, op := Go.Op.call { callee := Go.Callee.value (Go.Operand.func 7), args := #[Go.Operand.tmp 49, Go.Operand.tmp 52], argTypes := #[28, 5] }, type := 34, pos := "law.go:62", after := #[{ on := 0, ground := Go.Ground.data }, { on := 3, ground := Go.Ground.data }], guard := none }) rfl (by rfl) (fun J hJ => ?_), (List.forall_mem_cons.2 ⟨wpOp_some (o := { dst := some 7, op := Go.Op.alloc 28, type := 0, pos := "law.go:62", after := #[], guard := none }) rfl (by rfl) (fun J hJ => ?_), (by simp)⟩)⟩)
                  · go_simp; refine (CF.out _ (VX.out.later (by exact (Below.refl wr.heap.size wr).drew)) (by exact (Below.refl wr.heap.size wr).drew)).mono ?_; rintro e w6 ⟨T6, A6, n6, c6, rfl, ch, hk, hn, b6⟩; have V6 := Lib.hid (And.intro (VX.out.later (((Below.refl wr.heap.size wr).drew).trans b6)) (And.intro ch (And.intro hk (And.intro hn (((Below.refl wr.heap.size wr).drew).trans b6))))); clear ch hk hn b6; dsimp only; refine hJ _ _ ⟨by exact so_blk V6.out.1.p, ?_⟩; clear hJ J
                    refine wpAnyH_take (i := 5) (oi := { dst := some 48, op := Go.Op.move (Go.Operand.tmp 53), type := 34, pos := "law.go:62", after := #[{ on := 4, ground := Go.Ground.data }], guard := none }) (v := ?_) rfl (by kernel_rfl) (by kernel_rfl) (by kernel_rfl) (fun _ _ _ h => h) (Or.inl ⟨by rfl, ?_⟩) (by exact so_blk V6.out.1.p) ?_
                    rotate_left
                    · intro Z hZ; clear hZ; go_simp; try with_reducible rfl
                    simp only [Act.put, List.setIfInBounds_toArray, List.set_cons_zero, List.set_cons_succ]
                    refine wpAnyH_take (i := 6) (oi := { dst := some 54, op := Go.Op.extract (Go.Operand.tmp 48) 0, type := 28, pos := "law.go:62", after := #[{ on := 5, ground := Go.Ground.data }], guard := none }) (v := ?_) rfl (by kernel_rfl) (by kernel_rfl) (by kernel_rfl) (fun _ _ _ h => h) (Or.inl ⟨by rfl, ?_⟩) (by exact so_blk V6.out.1.p) ?_
                    rotate_left
                    · intro Z hZ; clear hZ; go_simp; try with_reducible rfl
                    simp only [Act.put, List.setIfInBounds_toArray, List.set_cons_zero, List.set_cons_succ]
                    refine wpAnyH_take (i := 7) (oi := { dst := some 55, op := Go.Op.extract (Go.Operand.tmp 48) 1, type := 32, pos := "law.go:62", after := #[{ on := 5, ground := Go.Ground.data }, { on := 9, ground := Go.Ground.gcOnly Go.Departure.lateStores }], guard := none }) (v := ?_) rfl (by kernel_rfl) (by kernel_rfl) (by kernel_rfl) (fun _ _ _ h => h) (Or.inl ⟨by rfl, ?_⟩) (by exact so_blk V6.out.1.p) ?_
                    rotate_left
                    · intro Z hZ; clear hZ; go_simp; try with_reducible rfl
                    simp only [Act.put, List.setIfInBounds_toArray, List.set_cons_zero, List.set_cons_succ]
                    refine wpAnyH_all (rs := [8]) (by kernel_rfl) (by simp) (List.forall_mem_cons.2 ⟨wpOp_some (o := { dst := some 7, op := Go.Op.alloc 28, type := 0, pos := "law.go:62", after := #[], guard := none }) rfl (by rfl) (fun J hJ => ?_), (by simp)⟩)
                    go_simp; refine hJ _ _ ⟨by exact so_blk (V6.out.1.later (belAlloc _ _)).p, ?_⟩; clear hJ J
                    refine wpAnyH_all (rs := [9]) (by kernel_rfl) (by simp) (List.forall_mem_cons.2 ⟨wpOp_some (o := { dst := none, op := Go.Op.store 28 (Go.Operand.tmp 7) (Go.Operand.tmp 54), type := 0, pos := "law.go:62", after := #[{ on := 8, ground := Go.Ground.data }, { on := 6, ground := Go.Ground.data }, { on := 4, ground := Go.Ground.chain }, { on := 0, ground := Go.Ground.phase }, { on := 1, ground := Go.Ground.phase }, { on := 2, ground := Go.Ground.phase }, { on := 3, ground := Go.Ground.phase }, { on := 4, ground := Go.Ground.phase }, { on := 5, ground := Go.Ground.phase }, { on := 6, ground := Go.Ground.phase }, { on := 7, ground := Go.Ground.textOnly Go.Departure.lateStores }, { on := 8, ground := Go.Ground.phase }], guard := none }) rfl (by rfl) (fun J hJ => ?_), (by simp)⟩)
                    obtain ⟨y6, r6, j6⟩ := (show _ from (blk_new w6 zeroC 28)); have q0 : (w6.alloc (.cells #[.int .i64 0, .int .u8 0, .int .u8 0, .int .u8 0, .int .i64 0, .bool false, .string ⟨#[]⟩, .pointer none, .int .i64 0] 28)).cell? ⟨w6.heap.size, 0, none⟩ = some (.int .i64 0) := r6 0; have q1 : (w6.alloc (.cells #[.int .i64 0, .int .u8 0, .int .u8 0, .int .u8 0, .int .i64 0, .bool false, .string ⟨#[]⟩, .pointer none, .int .i64 0] 28)).cell? ⟨w6.heap.size, 1, none⟩ = some (.int .u8 0) := r6 1; have q2 : (w6.alloc (.cells #[.int .i64 0, .int .u8 0, .int .u8 0, .int .u8 0, .int .i64 0, .bool false, .string ⟨#[]⟩, .pointer none, .int .i64 0] 28)).cell? ⟨w6.heap.size, 2, none⟩ = some (.int .u8 0) := r6 2; have q3 : (w6.alloc (.cells #[.int .i64 0, .int .u8 0, .int .u8 0, .int .u8 0, .int .i64 0, .bool false, .string ⟨#[]⟩, .pointer none, .int .i64 0] 28)).cell? ⟨w6.heap.size, 3, none⟩ = some (.int .u8 0) := r6 3; have q4 : (w6.alloc (.cells #[.int .i64 0, .int .u8 0, .int .u8 0, .int .u8 0, .int .i64 0, .bool false, .string ⟨#[]⟩, .pointer none, .int .i64 0] 28)).cell? ⟨w6.heap.size, 4, none⟩ = some (.int .i64 0) := r6 4; have q5 : (w6.alloc (.cells #[.int .i64 0, .int .u8 0, .int .u8 0, .int .u8 0, .int .i64 0, .bool false, .string ⟨#[]⟩, .pointer none, .int .i64 0] 28)).cell? ⟨w6.heap.size, 5, none⟩ = some (.bool false) := r6 5; have q6 : (w6.alloc (.cells #[.int .i64 0, .int .u8 0, .int .u8 0, .int .u8 0, .int .i64 0, .bool false, .string ⟨#[]⟩, .pointer none, .int .i64 0] 28)).cell? ⟨w6.heap.size, 6, none⟩ = some (.string ⟨#[]⟩) := r6 6; have q7 : (w6.alloc (.cells #[.int .i64 0, .int .u8 0, .int .u8 0, .int .u8 0, .int .i64 0, .bool false, .string ⟨#[]⟩, .pointer none, .int .i64 0] 28)).cell? ⟨w6.heap.size, 7, none⟩ = some (.pointer none) := r6 7; have q8 : (w6.alloc (.cells #[.int .i64 0, .int .u8 0, .int .u8 0, .int .u8 0, .int .i64 0, .bool false, .string ⟨#[]⟩, .pointer none, .int .i64 0] 28)).cell? ⟨w6.heap.size, 8, none⟩ = some (.int .i64 0) := r6 8; have f0 : (w6.alloc (.cells #[.int .i64 0, .int .u8 0, .int .u8 0, .int .u8 0, .int .i64 0, .bool false, .string ⟨#[]⟩, .pointer none, .int .i64 0] 28)).frozen? ⟨w6.heap.size, 0, none⟩ = false := j6 0; have f1 : (w6.alloc (.cells #[.int .i64 0, .int .u8 0, .int .u8 0, .int .u8 0, .int .i64 0, .bool false, .string ⟨#[]⟩, .pointer none, .int .i64 0] 28)).frozen? ⟨w6.heap.size, 1, none⟩ = false := j6 1; have f2 : (w6.alloc (.cells #[.int .i64 0, .int .u8 0, .int .u8 0, .int .u8 0, .int .i64 0, .bool false, .string ⟨#[]⟩, .pointer none, .int .i64 0] 28)).frozen? ⟨w6.heap.size, 2, none⟩ = false := j6 2; have f3 : (w6.alloc (.cells #[.int .i64 0, .int .u8 0, .int .u8 0, .int .u8 0, .int .i64 0, .bool false, .string ⟨#[]⟩, .pointer none, .int .i64 0] 28)).frozen? ⟨w6.heap.size, 3, none⟩ = false := j6 3; have f4 : (w6.alloc (.cells #[.int .i64 0, .int .u8 0, .int .u8 0, .int .u8 0, .int .i64 0, .bool false, .string ⟨#[]⟩, .pointer none, .int .i64 0] 28)).frozen? ⟨w6.heap.size, 4, none⟩ = false := j6 4; have f5 : (w6.alloc (.cells #[.int .i64 0, .int .u8 0, .int .u8 0, .int .u8 0, .int .i64 0, .bool false, .string ⟨#[]⟩, .pointer none, .int .i64 0] 28)).frozen? ⟨w6.heap.size, 5, none⟩ = false := j6 5; have f6 : (w6.alloc (.cells #[.int .i64 0, .int .u8 0, .int .u8 0, .int .u8 0, .int .i64 0, .bool false, .string ⟨#[]⟩, .pointer none, .int .i64 0] 28)).frozen? ⟨w6.heap.size, 6, none⟩ = false := j6 6; have f7 : (w6.alloc (.cells #[.int .i64 0, .int .u8 0, .int .u8 0, .int .u8 0, .int .i64 0, .bool false, .string ⟨#[]⟩, .pointer none, .int .i64 0] 28)).frozen? ⟨w6.heap.size, 7, none⟩ = false := j6 7; have f8 : (w6.alloc (.cells #[.int .i64 0, .int .u8 0, .int .u8 0, .int .u8 0, .int .i64 0, .bool false, .string ⟨#[]⟩, .pointer none, .int .i64 0] 28)).frozen? ⟨w6.heap.size, 8, none⟩ = false := j6 8; clear r6 j6; go_simp; refine hJ _ _ ⟨by exact so_blk (V6.out.1.later (belAlloc _ _)).p, ?_⟩; clear hJ J
                    refine wpAnyH_take (i := 10) (oi := { dst := some 8, op := Go.Op.assign (Go.Operand.tmp 55), type := 32, pos := "law.go:62", after := #[{ on := 7, ground := Go.Ground.data }, { on := 9, ground := Go.Ground.chain }, { on := 0, ground := Go.Ground.phase }, { on := 1, ground := Go.Ground.phase }, { on := 2, ground := Go.Ground.phase }, { on := 3, ground := Go.Ground.phase }, { on := 4, ground := Go.Ground.phase }, { on := 5, ground := Go.Ground.phase }, { on := 6, ground := Go.Ground.phase }, { on := 7, ground := Go.Ground.phase }, { on := 8, ground := Go.Ground.phase }, { on := 9, ground := Go.Ground.phase }], guard := none }) (v := ?_) rfl (by kernel_rfl) (by kernel_rfl) (by kernel_rfl) (fun _ _ _ h => h) (Or.inl ⟨by rfl, ?_⟩) (by exact so_blk (V6.out.1.later (belAlloc _ _)).p) ?_
                    rotate_left
                    · intro Z hZ; clear hZ; go_simp; try with_reducible rfl
                    simp only [Act.put, List.setIfInBounds_toArray, List.set_cons_zero, List.set_cons_succ]
                    refine wpAnyH_done (by kernel_rfl) ?_ _
                    go_wp2_with fail; go_meet; exact ⟨w6.heap.size, T6, A6, n6, c6, rfl, rfl, V6.out.2.2.2.1, Lib.hid (pq_new (s := ⟨0, ⟨h0, h1, h2, dn⟩, false, ⟨#[]⟩, [], 0⟩) (s' := ⟨rw_, ⟨x, y, z, nd⟩, rm, rrow, rtx, rcl⟩) V6.out.1 V6.out.2.1 V6.out.2.2.1 V6.out.2.2.2.2 _)⟩
                  · go_simp; refine hJ _ _ ⟨by exact HS.out _ ((Below.refl wr.heap.size wr).drew.alloc (Nat.le_refl _) _), ?_⟩; clear hJ J
                    refine wpAnyH_all (rs := [4]) (by kernel_rfl) (by simp) (List.forall_mem_cons.2 ⟨wpOp_some (o := { dst := some 53, op := Go.Op.call { callee := Go.Callee.value (Go.Operand.func 7), args := #[Go.Operand.tmp 49, Go.Operand.tmp 52], argTypes := #[28, 5] }, type := 34, pos := "law.go:62", after := #[{ on := 0, ground := Go.Ground.data }, { on := 3, ground := Go.Ground.data }], guard := none }) rfl (by rfl) (fun J hJ => ?_), (by simp)⟩)
                    go_simp; refine (CF.out _ (VX.out.later (((Below.refl wr.heap.size wr).drew).alloc (Nat.le_refl _) _)) (((Below.refl wr.heap.size wr).drew).alloc (Nat.le_refl _) _)).mono ?_; rintro e w6 ⟨T6, A6, n6, c6, rfl, ch, hk, hn, b6⟩; have V6 := Lib.hid (And.intro (VX.out.later ((((Below.refl wr.heap.size wr).drew).alloc (Nat.le_refl _) (.cells #[.int .i64 0, .int .u8 0, .int .u8 0, .int .u8 0, .int .i64 0, .bool false, .string ⟨#[]⟩, .pointer none, .int .i64 0] 28)).trans (b6.mono (by rw [World.size_alloc]; exact Nat.le_succ _)))) (And.intro ch (And.intro hk (And.intro hn ((((Below.refl wr.heap.size wr).drew).alloc (Nat.le_refl _) (.cells #[.int .i64 0, .int .u8 0, .int .u8 0, .int .u8 0, .int .i64 0, .bool false, .string ⟨#[]⟩, .pointer none, .int .i64 0] 28)).trans (b6.mono (by rw [World.size_alloc]; exact Nat.le_succ _))))))); have Z6 := Lib.hid ((blk_new wr.drew zeroC 28).later b6 (by rw [World.size_alloc]; exact Nat.lt_succ_self _)); clear ch hk hn b6; dsimp only; refine hJ _ _ ⟨by exact so_blk V6.out.1.p, ?_⟩; clear hJ J
                    refine wpAnyH_take (i := 5) (oi := { dst := some 48, op := Go.Op.move (Go.Operand.tmp 53), type := 34, pos := "law.go:62", after := #[{ on := 4, ground := Go.Ground.data }], guard := none }) (v := ?_) rfl (by kernel_rfl) (by kernel_rfl) (by kernel_rfl) (fun _ _ _ h => h) (Or.inl ⟨by rfl, ?_⟩) (by exact so_blk V6.out.1.p) ?_
                    rotate_left
                    · intro Z hZ; clear hZ; go_simp; try with_reducible rfl
                    simp only [Act.put, List.setIfInBounds_toArray, List.set_cons_zero, List.set_cons_succ]
                    refine wpAnyH_take (i := 6) (oi := { dst := some 54, op := Go.Op.extract (Go.Operand.tmp 48) 0, type := 28, pos := "law.go:62", after := #[{ on := 5, ground := Go.Ground.data }], guard := none }) (v := ?_) rfl (by kernel_rfl) (by kernel_rfl) (by kernel_rfl) (fun _ _ _ h => h) (Or.inl ⟨by rfl, ?_⟩) (by exact so_blk V6.out.1.p) ?_
                    rotate_left
                    · intro Z hZ; clear hZ; go_simp; try with_reducible rfl
                    simp only [Act.put, List.setIfInBounds_toArray, List.set_cons_zero, List.set_cons_succ]
                    refine wpAnyH_take (i := 7) (oi := { dst := some 55, op := Go.Op.extract (Go.Operand.tmp 48) 1, type := 32, pos := "law.go:62", after := #[{ on := 5, ground := Go.Ground.data }, { on := 9, ground := Go.Ground.gcOnly Go.Departure.lateStores }], guard := none }) (v := ?_) rfl (by kernel_rfl) (by kernel_rfl) (by kernel_rfl) (fun _ _ _ h => h) (Or.inl ⟨by rfl, ?_⟩) (by exact so_blk V6.out.1.p) ?_
                    rotate_left
                    · intro Z hZ; clear hZ; go_simp; try with_reducible rfl
                    simp only [Act.put, List.setIfInBounds_toArray, List.set_cons_zero, List.set_cons_succ]
                    refine wpAnyH_all (rs := [9]) (by kernel_rfl) (by simp) (List.forall_mem_cons.2 ⟨wpOp_some (o := { dst := none, op := Go.Op.store 28 (Go.Operand.tmp 7) (Go.Operand.tmp 54), type := 0, pos := "law.go:62", after := #[{ on := 8, ground := Go.Ground.data }, { on := 6, ground := Go.Ground.data }, { on := 4, ground := Go.Ground.chain }, { on := 0, ground := Go.Ground.phase }, { on := 1, ground := Go.Ground.phase }, { on := 2, ground := Go.Ground.phase }, { on := 3, ground := Go.Ground.phase }, { on := 4, ground := Go.Ground.phase }, { on := 5, ground := Go.Ground.phase }, { on := 6, ground := Go.Ground.phase }, { on := 7, ground := Go.Ground.textOnly Go.Departure.lateStores }, { on := 8, ground := Go.Ground.phase }], guard := none }) rfl (by rfl) (fun J hJ => ?_), (by simp)⟩)
                    obtain ⟨y6, r6, j6⟩ := (show _ from Z6.out); have q0 : w6.cell? ⟨wr.heap.size, 0, none⟩ = some (.int .i64 0) := r6 0; have q1 : w6.cell? ⟨wr.heap.size, 1, none⟩ = some (.int .u8 0) := r6 1; have q2 : w6.cell? ⟨wr.heap.size, 2, none⟩ = some (.int .u8 0) := r6 2; have q3 : w6.cell? ⟨wr.heap.size, 3, none⟩ = some (.int .u8 0) := r6 3; have q4 : w6.cell? ⟨wr.heap.size, 4, none⟩ = some (.int .i64 0) := r6 4; have q5 : w6.cell? ⟨wr.heap.size, 5, none⟩ = some (.bool false) := r6 5; have q6 : w6.cell? ⟨wr.heap.size, 6, none⟩ = some (.string ⟨#[]⟩) := r6 6; have q7 : w6.cell? ⟨wr.heap.size, 7, none⟩ = some (.pointer none) := r6 7; have q8 : w6.cell? ⟨wr.heap.size, 8, none⟩ = some (.int .i64 0) := r6 8; have f0 : w6.frozen? ⟨wr.heap.size, 0, none⟩ = false := j6 0; have f1 : w6.frozen? ⟨wr.heap.size, 1, none⟩ = false := j6 1; have f2 : w6.frozen? ⟨wr.heap.size, 2, none⟩ = false := j6 2; have f3 : w6.frozen? ⟨wr.heap.size, 3, none⟩ = false := j6 3; have f4 : w6.frozen? ⟨wr.heap.size, 4, none⟩ = false := j6 4; have f5 : w6.frozen? ⟨wr.heap.size, 5, none⟩ = false := j6 5; have f6 : w6.frozen? ⟨wr.heap.size, 6, none⟩ = false := j6 6; have f7 : w6.frozen? ⟨wr.heap.size, 7, none⟩ = false := j6 7; have f8 : w6.frozen? ⟨wr.heap.size, 8, none⟩ = false := j6 8; clear r6 j6; go_simp; refine hJ _ _ ⟨by exact so_blk (put9_far V6.out.1.p (Nat.ne_of_gt VX.out.p.1) _ _ _ _ _ _ _ _ _), ?_⟩; clear hJ J
                    refine wpAnyH_take (i := 10) (oi := { dst := some 8, op := Go.Op.assign (Go.Operand.tmp 55), type := 32, pos := "law.go:62", after := #[{ on := 7, ground := Go.Ground.data }, { on := 9, ground := Go.Ground.chain }, { on := 0, ground := Go.Ground.phase }, { on := 1, ground := Go.Ground.phase }, { on := 2, ground := Go.Ground.phase }, { on := 3, ground := Go.Ground.phase }, { on := 4, ground := Go.Ground.phase }, { on := 5, ground := Go.Ground.phase }, { on := 6, ground := Go.Ground.phase }, { on := 7, ground := Go.Ground.phase }, { on := 8, ground := Go.Ground.phase }, { on := 9, ground := Go.Ground.phase }], guard := none }) (v := ?_) rfl (by kernel_rfl) (by kernel_rfl) (by kernel_rfl) (fun _ _ _ h => h) (Or.inl ⟨by rfl, ?_⟩) (by exact so_blk (put9_far V6.out.1.p (Nat.ne_of_gt VX.out.p.1) _ _ _ _ _ _ _ _ _)) ?_
                    rotate_left
                    · intro Z hZ; clear hZ; go_simp; try with_reducible rfl
                    simp only [Act.put, List.setIfInBounds_toArray, List.set_cons_zero, List.set_cons_succ]
                    refine wpAnyH_done (by kernel_rfl) ?_ _
                    go_wp2_with fail; go_meet; exact ⟨wr.heap.size, T6, A6, n6, c6, rfl, rfl, V6.out.2.2.2.1, Lib.hid (pq_put (w := w) (X0 := wr) (Z := w6) (g := w.heap.size) (gq := wr.heap.size) (T := none) (T' := T6) (v := .slice A6 n6 c6) (ks := ks) (s := ⟨0, ⟨h0, h1, h2, dn⟩, false, ⟨#[]⟩, [], 0⟩) (s' := ⟨rw_, ⟨x, y, z, nd⟩, rm, rrow, rtx, rcl⟩) V6.out.1 Z6.out (Nat.le_refl _) VX.out.p.1 V6.out.2.1 V6.out.2.2.1 V6.out.2.2.2.2)⟩
                case rest =>
                  obtain ⟨gq, T6, A6, n6, c6, rfl, rfl, hn6, HQ⟩ := hcut
                  obtain ⟨ye, ke, je⟩ := (show _ from HQ.out.q)
                  obtain ⟨yd, kd, jd⟩ := (show _ from HQ.out.ps.p)
                  have e0 : wc.cell? ⟨gq, 0, none⟩ = _ := ke 0
                  have e1 : wc.cell? ⟨gq, 1, none⟩ = _ := ke 1
                  have e2 : wc.cell? ⟨gq, 2, none⟩ = _ := ke 2
                  have e3 : wc.cell? ⟨gq, 3, none⟩ = _ := ke 3
                  have e4 : wc.cell? ⟨gq, 4, none⟩ = _ := ke 4
                  have e5 : wc.cell? ⟨gq, 5, none⟩ = _ := ke 5
                  have e6 : wc.cell? ⟨gq, 6, none⟩ = _ := ke 6
                  have e7 : wc.cell? ⟨gq, 7, none⟩ = _ := ke 7
                  have e8 : wc.cell? ⟨gq, 8, none⟩ = _ := ke 8
                  have d0 : wc.cell? ⟨w.heap.size, 0, none⟩ = _ := kd 0
                  have d1 : wc.cell? ⟨w.heap.size, 1, none⟩ = _ := kd 1
                  have d2 : wc.cell? ⟨w.heap.size, 2, none⟩ = _ := kd 2
                  have d3 : wc.cell? ⟨w.heap.size, 3, none⟩ = _ := kd 3
                  have d4 : wc.cell? ⟨w.heap.size, 4, none⟩ = _ := kd 4
                  have d5 : wc.cell? ⟨w.heap.size, 5, none⟩ = _ := kd 5
                  have d6 : wc.cell? ⟨w.heap.size, 6, none⟩ = _ := kd 6
                  have d7 : wc.cell? ⟨w.heap.size, 7, none⟩ = _ := kd 7
                  have d8 : wc.cell? ⟨w.heap.size, 8, none⟩ = _ := kd 8
                  have g0 := jd 0
                  have g1 := jd 1
                  have g2 := jd 2
                  have g3 := jd 3
                  have g4 := jd 4
                  have g5 := jd 5
                  have g6 := jd 6
                  have g7 := jd 7
                  have g8 := jd 8
                  have hne1 : gq ≠ w.heap.size := Nat.ne_of_gt HQ.out.ne
                  have hne2 : w.heap.size ≠ gq := Nat.ne_of_lt HQ.out.ne
                  simp at e0 e1 e2 e3 e4 e5 e6 e7 e8 d0 d1 d2 d3 d4 d5 d6 d7 d8
                  clear ke kd jd je
                  go_upto_region 13 with fail
                  refine at_world (PN w wr w.heap.size ⟨rw_, ⟨x, y, z, nd⟩, rm, rrow, rtx, rcl⟩ T6 (.slice A6 n6 c6) ks) (pn_put (w := w) (X0 := wr) (Y := wc) (g := w.heap.size) (gq := gq) (T' := T6) (s' := ⟨rw_, ⟨x, y, z, nd⟩, rm, rrow, rtx, rcl⟩) HQ.out) ?_
                  clear e0 e1 e2 e3 e4 e5 e6 e7 e8 d0 d1 d2 d3 d4 d5 d6 d7 d8 g0 g1 g2 g3 g4 g5 g6 g7 g8 ye yd hne1 hne2 HQ
                  intro Y hY
                  have VY := Lib.hid (And.intro (psD_next hY.ps HF.out.1) (And.intro hY.l HF.out.2.2))
                  have hks := HF.out.2.1
                  clear hY VX CF HS HI
                  have hcY : Y.cell? ⟨b, o + k, none⟩ = some (.int .i32 r) := (VY.out.1.below.cell (p := ⟨b, o + k, none⟩) HC.out.1).trans HC.out.2
                  by_cases hlast : q + 1 = S.size
                  · rw [if_pos hlast] at hks
                    have hn1 : n6 = 1 := by rw [hn6, hks]; rfl
                    subst hks hn1
                    have hd1 : decide ((q : Int) < (S.size : Int) - 1) = false := by simp; omega
                    have hd2 : ((q : Int) == (S.size : Int) - 1) = true := by simp; omega
                    have HLA := Lib.hid hlast
                    clear hlast hn6
                    go_wp2_with (go_at_call 11; refine (sameK_eq _ _ [⟨1, r, false, []⟩] _ (VY.out.2.1.later (belAlloc _ _)) (kyW_char Y _ r) (by simp) (by simp)).mono ?_; rintro e w4 ⟨rfl, b4⟩; have V4 := Lib.hid (VY.out.1.later ((belAlloc _ _).trans (b4.mono (by rw [World.size_alloc]; exact Nat.le_succ _)))); clear b4)
                    go_roundw
                    case rel => exact ⟨q + 1, by have := HLA.out; omega, by go_num, V4.out, (by have h := VY.out.2.2; rw [show _ = _ from HF.out.1] at h; exact h)⟩
                    case measure => simp [intOf]; omega
                  · rw [if_neg hlast] at hks
                    have hn1 : n6 = 0 := by rw [hn6, hks]; rfl
                    subst hks hn1
                    have hd1 : decide ((q : Int) < (S.size : Int) - 1) = true := by simp; omega
                    have hd2 : ((q : Int) == (S.size : Int) - 1) = false := by simp; omega
                    have HLA := Lib.hid hlast
                    clear hlast hn6
                    go_wp2_with fail
                    go_roundw
                    case rel => exact ⟨q + 1, by have := HLA.out; omega, by go_num, VY.out.1, (by have h := VY.out.2.2; rw [show _ = _ from HF.out.1] at h; exact h)⟩
                    case measure => simp [intOf]; omega
              · obtain rfl : q = S.size := by omega
                have hps : PS w w.heap.size KS.zero none wr := by have := HI.out.1; rw [HS1.out.2.2.2, HS1.out.2.1] at this; exact this
                have VX := Lib.hid hps
                have CW := Lib.hid (fun Z => waits_any KS.zero none Z)
                obtain ⟨yd, kd, jd⟩ := (show _ from hps.p)
                clear hps HI
                have d0 : wr.cell? ⟨w.heap.size, 0, none⟩ = _ := kd 0
                have d1 : wr.cell? ⟨w.heap.size, 1, none⟩ = _ := kd 1
                have d2 : wr.cell? ⟨w.heap.size, 2, none⟩ = _ := kd 2
                have d3 : wr.cell? ⟨w.heap.size, 3, none⟩ = _ := kd 3
                have d4 : wr.cell? ⟨w.heap.size, 4, none⟩ = _ := kd 4
                have d5 : wr.cell? ⟨w.heap.size, 5, none⟩ = _ := kd 5
                have d6 : wr.cell? ⟨w.heap.size, 6, none⟩ = _ := kd 6
                have d7 : wr.cell? ⟨w.heap.size, 7, none⟩ = _ := kd 7
                have d8 : wr.cell? ⟨w.heap.size, 8, none⟩ = _ := kd 8
                simp [KS.zero, DS.zero] at d0 d1 d2 d3 d4 d5 d6 d7 d8
                clear kd jd
                go_wp2_with (go_at_call 12; refine (CW.out _).mono ?_; rintro e w6 ⟨rfl, b6⟩; have V6 := Lib.hid (VX.out.later b6); clear b6)
                go_roundw
                case rel => exact ⟨k + 1, by omega, by go_num, V6.out⟩
                case measure => simp [intOf]; omega
    · obtain rfl : k = m := by omega
      have HW := Lib.hid awake_yes
      go_wp2_with (go_at_call 13; refine (HW.out _).mono ?_; rintro e w4 ⟨rfl, hb4⟩)
      go_ret
      exact ⟨rfl, belowStep HG.out.below hb4⟩
end Go.Proofs.Ytkkenabckhmkoaa
