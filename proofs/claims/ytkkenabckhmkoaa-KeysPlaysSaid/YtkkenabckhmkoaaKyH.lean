/- keys: odd. -/
import Derived.Test.YtkkenabckhmkoaaKyG
namespace Go.Proofs.Ytkkenabckhmkoaa
open Go.RowKit
set_option linter.unusedVariables false
set_option linter.unusedSimpArgs false
set_option maxRecDepth 100000

theorem step_li' {α : Type} {enc : α → List Value} {P : Program} {w : World} {o : Oper} {a : Act} {K : Act → World → Prop} {Q : Exit → Act → World → Prop} {k bytes base n m c : Nat} {t e : TypeId} {v : Value} {xs : List Value} {s x : Operand} {A : Option Addr} {S : Nat → Prop} {M : List α}
    (hk : ∀ x, (enc x).length = k) (hk1 : ∀ x, ∀ u ∈ enc x, u.oneCell' = true) (E : Elt P t e k bytes) (hown : w.ownsRow base e k v n xs) (hbase : base ≤ w.heap.size) (hgd : o.guard = none) (ho : o.op = .call { callee := .builtin .append, args := #[s, x], argTypes := #[t, t] })
    (hs : a.eval s = v) (hx : a.eval x = .slice A m c) (hL : LiV k enc w S (.slice A m c) M) (h63 : n + m ≤ maxLen) (hbytes : (n + m) * bytes ≤ 140737488355328)
    (h : ∀ A' c' w', Pushed w w' base e k v (n + m) (xs ++ flatL enc M) A' c' → K (a.put o.dst (.slice A' (n + m) c')) w') : Oper.wp P o a w K Q := by
  have hh := step_li (P := P) (ops := #[]) (Ep := True) (Q := Q) hk hk1 E hown hbase hgd ho hs hx hL h63 hbytes h
  rw [if_pos (by simp [Region.wanted, hgd])] at hh
  exact hh
theorem own_new1 (w : World) (base : Nat) (hb : base ≤ w.heap.size) (k r : Int) (m : Bool) : (w.alloc (.cells #[.int .i64 k, .int .i32 r, .bool m, .slice none 0 0] 47)).ownsRow base 47 4 (.slice (some ⟨w.heap.size, 0, none⟩) 1 1) 1 (flatL encK [⟨k, r, m, none, 0, 0⟩]) :=
  ⟨rfl, .inr ⟨w.heap.size, 1, #[.int .i64 k, .int .i32 r, .bool m, .slice none 0 0], rfl, hb, (show (w.heap.push _)[w.heap.size]? = some _ from Array.getElem?_push_size), Nat.le_refl _, by decide, rfl, rfl⟩⟩
theorem aloneK_len (d : DS) (m : Bool) (b : Int) : (aloneK d m b).2.length ≤ 3 := by
  have h1 : (endD d).length ≤ 1 := by unfold endD; split <;> simp
  have h2 := stepD_len d b
  unfold aloneK
  split
  · split
    · simp only [charsK_len]; omega
    · simp only [List.length_append, charsK_len, List.length_cons, List.length_nil]; omega
  · simp only [decodeK, charsK_len]; omega
/-- What odd has in hand: the result block, the parser's block. -/
structure Od (w : World) (g : Nat) (R : KS) (T : Option Addr) (v : Value) (ks : List Ky) (X : World) : Prop where
  below : Below w.heap.size w X
  r : Blk X w.heap.size zeroC
  p : Blk X g (psC R T)
  ne : w.heap.size < g
  k : KyW X v ks
  c : Chain X T R.tx
theorem Od.later {w X Y : World} {g : Nat} {R : KS} {T : Option Addr} {v : Value} {ks : List Ky} (h : Od w g R T v ks X) (hb : Below X.heap.size X Y) : Od w g R T v ks Y :=
  ⟨belowStep h.below hb, h.r.later hb h.r.1, h.p.later hb h.p.1, h.ne, h.k.later hb, h.c.later hb⟩
theorem od_put {w X : World} {R : KS} {T : Option Addr} {v : Value} {ks : List Ky} (hb : Below w.heap.size w X) (hr : Blk X w.heap.size zeroC) (hk : KyW X v ks) (hc : Chain X T R.tx) (t : TypeId) :
    Od w X.heap.size R T v ks (X.alloc (.cells (psC R T) t)) :=
  ⟨belowStep hb (belAlloc _ _), hr.alloc _, blk_new _ _ _, hr.1, hk.later (belAlloc _ _), hc.later (belAlloc _ _)⟩
theorem od_push {v' : Value} {w X Y : World} {g n c' : Nat} {A' : Option Addr} {R : KS} {T : Option Addr} {v : Value} {ks : List Ky} {ys : List Value} (h : Od w g R T v ks X) (hb : Below X.heap.size X Y) {xs : List Value} {m : Nat} (ho : Y.ownsRow X.heap.size 47 4 v' m xs) {Z : World} (hp : Pushed Y Z X.heap.size 47 4 v' n ys A' c') : Od w g R T v ks Z :=
  h.later (hp.below hb ho (Nat.le_refl _))
def SO (g : Nat) (R : KS) (T : Option Addr) (Z : World) : Prop := Z.cell? ⟨g, 0, none⟩ = some (.int .i64 R.w) ∧ Z.cell? ⟨g, 1, none⟩ = some (.int .u8 R.d.h0) ∧ Z.cell? ⟨g, 2, none⟩ = some (.int .u8 R.d.h1) ∧ Z.cell? ⟨g, 3, none⟩ = some (.int .u8 R.d.h2) ∧ Z.cell? ⟨g, 4, none⟩ = some (.int .i64 R.d.n) ∧ Z.cell? ⟨g, 5, none⟩ = some (.bool R.m) ∧ Z.cell? ⟨g, 6, none⟩ = some (.string R.row) ∧ Z.cell? ⟨g, 7, none⟩ = some (.pointer T) ∧ Z.cell? ⟨g, 8, none⟩ = some (.int .i64 R.cl)
theorem so_blk {g : Nat} {R : KS} {T : Option Addr} {Z : World} (h : Blk Z g (psC R T)) : SO g R T Z := ⟨h.2.1 0, h.2.1 1, h.2.1 2, h.2.1 3, h.2.1 4, h.2.1 5, h.2.1 6, h.2.1 7, h.2.1 8⟩
theorem keysW_cons {X : World} {v : Value} {ks : List Ky} {n c' : Nat} {A' : Option Addr} {hs : List Kp} {Y Z : World} {k r : Int} {m : Bool} (hk : KeysW Z hs ks) (hn : n = ks.length) (hp : Pushed Y Z X.heap.size 47 4 v (1 + n) (flatL encK [⟨k, r, m, none, 0, 0⟩] ++ flatL encK hs) A' c') : KyO X.heap.size Z (.slice A' (1 + n) c') (1 + n) (⟨k, r, m, []⟩ :: ks) :=
  ⟨⟨k, r, m, none, 0, 0⟩ :: hs, by have := hp.own; rw [← flatL_append] at this; exact this, (keysW_one (keyW_bare _ _ _ _)).append hk⟩
/-- The result of a function that keeps no parser has been stored. -/
def FinO (w : World) (s : KS) (T : Option Addr) (v : Value) (n : Nat) (ks : List Ky) (X : World) : Prop := Blk X w.heap.size (psC s T) ∧ KyW X v ks ∧ n = ks.length ∧ Below w.heap.size w X ∧ Chain X T s.tx
theorem finO_put {w X : World} {g : Nat} {R : KS} {T : Option Addr} {v v' : Value} {n : Nat} {ks ls : List Ky} (h : Od w g R T v ks X) (hk : KyW X v' ls) (hn : n = ls.length) :
    FinO w R T v' n ls (put9 X w.heap.size (.int .i64 R.w) (.int .u8 R.d.h0) (.int .u8 R.d.h1) (.int .u8 R.d.h2) (.int .i64 R.d.n) (.bool R.m) (.string R.row) (.pointer T) (.int .i64 R.cl)) :=
  ⟨put9_blk h.r _ _ _ _ _ _ _ _ _, kyW_put9 hk h.r _ _ _ _ _ _ _ _ _, hn, put9_below h.below (Nat.le_refl _) _ _ _ _ _ _ _ _ _, chain_put9 h.r _ _ _ _ _ _ _ _ _ h.c⟩

set_option maxHeartbeats 4000000 in
theorem odd_any (b : Int) (b0 : 0 ≤ b) (b1 : b ≤ 255) (w : World) : Calls Try.prog 39 #[.int .u8 b] w (Tells (oddK b) w) := by
  have CA := Lib.hid (fun X => alone_any ⟨0, ⟨0, 0, 0, 0⟩, false, ⟨#[]⟩, [], 0⟩ none b b0 b1 zero_ok X)
  have hks : (aloneK DS.zero false b).2.length ≤ 3 := aloneK_len _ _ _
  obtain ⟨R, hR⟩ : ∃ R, aloneK DS.zero false b = R := ⟨_, rfl⟩
  have e : oddK b = (R.1, ⟨5, 0, false, []⟩ :: R.2) := by unfold oddK; rw [hR]
  rw [e]
  dsimp only at CA
  rw [show aloneK ⟨0, 0, 0, 0⟩ false b = R from hR] at CA
  rw [hR] at hks
  clear hR e
  obtain ⟨⟨rw_, ⟨x, y, z, n⟩, rm, rrow, rtx, rcl⟩, ks⟩ := R
  have V0 := Lib.hid (And.intro (belAlloc w (.cells zeroC 28)) (blk_new w zeroC 28))
  go_enter Try.func39, Try.ntmps39
  go_upto_region 1 with fail
  refine at_world (fun X => Below w.heap.size w X ∧ Blk X w.heap.size zeroC) V0.out ?_
  intro X hX
  have V1 := Lib.hid hX
  clear hX V0
  go_upto_region 2 with (go_at_call 22; refine (CA.out _).mono ?_; rintro e w6 ⟨T6, A6, n6, c6, rfl, ch, hk, hn, b6⟩; have hn3 : n6 ≤ 3 := (by dsimp only at hks hn; omega); have V6 := Lib.hid (And.intro (belowStep V1.out.1 b6) (And.intro (V1.out.2.later b6 V1.out.2.1) (And.intro ch hk))); have HN := Lib.hid hn; clear ch hk hn b6)
  refine at_world (Od w w6.heap.size ⟨rw_, ⟨x, y, z, n⟩, rm, rrow, rtx, rcl⟩ T6 (.slice A6 n6 c6) ks) (od_put (R := ⟨rw_, ⟨x, y, z, n⟩, rm, rrow, rtx, rcl⟩) V6.out.1 V6.out.2.1 V6.out.2.2.2 V6.out.2.2.1 _) ?_
  obtain ⟨g, hg⟩ : ∃ g, w6.heap.size = g := ⟨_, rfl⟩
  rw [hg]
  clear hg
  intro Y hY
  have VY := Lib.hid hY
  clear hY V6 V1 CA hks
  obtain ⟨hs, hl, hkk⟩ := (show KyW Y _ ks from VY.out.k)
  have HL := Lib.hid (And.intro (hl.later ((Below.refl Y.heap.size Y).drew.alloc (Nat.le_refl _) (.cells #[.int .i64 5, .int .i32 0, .bool false, .slice none 0 0] 47))) hkk)
  clear hl hkk
  have HS := Lib.hid (show ∀ Z, Below Y.heap.size Y Z → SO g ⟨rw_, ⟨x, y, z, n⟩, rm, rrow, rtx, rcl⟩ T6 Z from fun Z hZ => so_blk (VY.out.later hZ).p)
  refine wp_region_held (S := SO g ⟨rw_, ⟨x, y, z, n⟩, rm, rrow, rtx, rcl⟩ T6) (by kernel_rfl) ?_
  change wpAnyH _ _ _ _ _ _ _ _ (World.drew _)
  refine wpAnyH_take (i := 0) (oi := { dst := some 12, op := Go.Op.load 28 (Go.Operand.tmp 4), type := 28, pos := "keys.go:103", after := #[], guard := none }) (v := ?_) rfl (by kernel_rfl) (by kernel_rfl) (by kernel_rfl) (fun _ _ _ h => h) (Or.inl ⟨by rfl, ?_⟩) (by exact HS.out _ (Below.refl _ _).drew) ?_
  rotate_left
  · intro Z hZ; obtain ⟨p0, p1, p2, p3, p4, p5, p6, p7, p8⟩ := hZ; dsimp only at p0 p1 p2 p3 p4 p5 p6 p7 p8; go_simp; try with_reducible rfl
  simp only [Act.put, List.setIfInBounds_toArray, List.set_cons_zero, List.set_cons_succ]
  refine wpAnyH_take (i := 1) (oi := { dst := some 13, op := Go.Op.build 47 #[(0, Go.Operand.const (Go.Value.int Go.IntKind.i64 5))], type := 47, pos := "keys.go:103", after := #[], guard := none }) (v := ?_) rfl (by kernel_rfl) (by kernel_rfl) (by kernel_rfl) (fun _ _ _ h => h) (Or.inl ⟨by rfl, ?_⟩) (by exact HS.out _ (Below.refl _ _).drew) ?_
  rotate_left
  · intro Z hZ; clear hZ; go_simp; try with_reducible rfl
  simp only [Act.put, List.setIfInBounds_toArray, List.set_cons_zero, List.set_cons_succ]
  refine wpAnyH_take (i := 3) (oi := { dst := some 15, op := Go.Op.move (Go.Operand.tmp 5), type := 32, pos := "keys.go:103", after := #[], guard := none }) (v := ?_) rfl (by kernel_rfl) (by kernel_rfl) (by kernel_rfl) (fun _ _ _ h => h) (Or.inl ⟨by rfl, ?_⟩) (by exact HS.out _ (Below.refl _ _).drew) ?_
  rotate_left
  · intro Z hZ; clear hZ; go_simp; try with_reducible rfl
  simp only [Act.put, List.setIfInBounds_toArray, List.set_cons_zero, List.set_cons_succ]
  refine wpAnyH_all (rs := [2]) (by kernel_rfl) (by simp) (List.forall_mem_cons.2 ⟨wpOp_some (o := { dst := some 14, op := Go.Op.buildSlice 32 1 #[(0, Go.Operand.tmp 13)], type := 32, pos := "keys.go:103", after := #[{ on := 1, ground := Go.Ground.data }], guard := none }) rfl (by rfl) (fun J hJ => ?_), (by simp)⟩)
  go_simp; refine hJ _ _ ⟨by exact HS.out _ ((Below.refl _ _).drew.alloc (Nat.le_refl _) _), ?_⟩; clear hJ J
  refine wpAnyH_all (rs := [4]) (by kernel_rfl) (by simp) (List.forall_mem_cons.2 ⟨wpOp_some (o := { dst := some 16, op := Go.Op.call { callee := Go.Callee.builtin Go.Builtin.append, args := #[Go.Operand.tmp 14, Go.Operand.tmp 15], argTypes := #[32, 32] }, type := 32, pos := "keys.go:103", after := #[{ on := 2, ground := Go.Ground.data }, { on := 3, ground := Go.Ground.data }], guard := none }) rfl (by rfl) (fun J hJ => ?_), (by simp)⟩)
  refine step_li' encK_len encK_one key_elt (own_new1 Y.drew Y.heap.size (Nat.le_refl _) 5 0 false) (by simp [World.size_alloc, World.drew]) rfl rfl (by rfl) (by rfl) HL.out.1 (by unfold maxLen; omega) (by omega) ?_; intro A8 c8 w8 hp; have V8 := Lib.hid (And.intro (od_push VY.out ((Below.refl _ _).drew.alloc (Nat.le_refl _) _) (own_new1 Y.drew Y.heap.size (Nat.le_refl _) 5 0 false) hp) hp); have B8 := Lib.hid (hp.below ((Below.refl Y.heap.size Y).drew.alloc (Nat.le_refl _) _) (own_new1 Y.drew Y.heap.size (Nat.le_refl _) 5 0 false) (Nat.le_refl _)); clear hp; obtain ⟨y6, r6, j6⟩ := (show _ from V8.out.1.r); have q0 : w8.cell? ⟨w.heap.size, 0, none⟩ = some (.int .i64 0) := r6 0; have q1 : w8.cell? ⟨w.heap.size, 1, none⟩ = some (.int .u8 0) := r6 1; have q2 : w8.cell? ⟨w.heap.size, 2, none⟩ = some (.int .u8 0) := r6 2; have q3 : w8.cell? ⟨w.heap.size, 3, none⟩ = some (.int .u8 0) := r6 3; have q4 : w8.cell? ⟨w.heap.size, 4, none⟩ = some (.int .i64 0) := r6 4; have q5 : w8.cell? ⟨w.heap.size, 5, none⟩ = some (.bool false) := r6 5; have q6 : w8.cell? ⟨w.heap.size, 6, none⟩ = some (.string ⟨#[]⟩) := r6 6; have q7 : w8.cell? ⟨w.heap.size, 7, none⟩ = some (.pointer none) := r6 7; have q8 : w8.cell? ⟨w.heap.size, 8, none⟩ = some (.int .i64 0) := r6 8; have f0 := j6 0; have f1 := j6 1; have f2 := j6 2; have f3 := j6 3; have f4 := j6 4; have f5 := j6 5; have f6 := j6 6; have f7 := j6 7; have f8 := j6 8; clear r6 j6; refine hJ _ _ ⟨by exact HS.out _ B8.out, ?_⟩; clear hJ J
  refine wpAnyH_all (rs := [5]) (by kernel_rfl) (by simp) (List.forall_mem_cons.2 ⟨wpOp_some (o := { dst := none, op := Go.Op.store 28 (Go.Operand.tmp 2) (Go.Operand.tmp 12), type := 0, pos := "keys.go:103", after := #[{ on := 0, ground := Go.Ground.data }, { on := 4, ground := Go.Ground.chain }, { on := 0, ground := Go.Ground.phase }, { on := 1, ground := Go.Ground.textOnly Go.Departure.lateStores }, { on := 2, ground := Go.Ground.textOnly Go.Departure.lateStores }, { on := 3, ground := Go.Ground.textOnly Go.Departure.lateStores }, { on := 4, ground := Go.Ground.textOnly Go.Departure.lateStoresUnsure }], guard := none }) rfl (by rfl) (fun J hJ => ?_), (by simp)⟩)
  go_simp; refine hJ _ _ ⟨by exact so_blk (put9_far V8.out.1.p (Nat.ne_of_lt V8.out.1.ne) _ _ _ _ _ _ _ _ _), ?_⟩; clear hJ J
  refine wpAnyH_take (i := 6) (oi := { dst := some 3, op := Go.Op.assign (Go.Operand.tmp 16), type := 32, pos := "keys.go:103", after := #[{ on := 4, ground := Go.Ground.data }, { on := 5, ground := Go.Ground.chain }, { on := 0, ground := Go.Ground.phase }, { on := 1, ground := Go.Ground.phase }, { on := 2, ground := Go.Ground.phase }, { on := 3, ground := Go.Ground.phase }, { on := 4, ground := Go.Ground.phase }, { on := 5, ground := Go.Ground.phase }], guard := none }) (v := ?_) rfl (by kernel_rfl) (by kernel_rfl) (by kernel_rfl) (fun _ _ _ h => h) (Or.inl ⟨by rfl, ?_⟩) (by exact so_blk (put9_far V8.out.1.p (Nat.ne_of_lt V8.out.1.ne) _ _ _ _ _ _ _ _ _)) ?_
  rotate_left
  · intro Z hZ; clear hZ; go_simp; try with_reducible rfl
  simp only [Act.put, List.setIfInBounds_toArray, List.set_cons_zero, List.set_cons_succ]
  refine wpAnyH_done (by kernel_rfl) ?_ _
  go_wp2_with fail
  have HK8 := Lib.hid (keysW_cons (X := Y) (k := 5) (r := 0) (m := false) (HL.out.2.later B8.out) HN.out V8.out.2)
  refine at_world (FinO w ⟨rw_, ⟨x, y, z, n⟩, rm, rrow, rtx, rcl⟩ T6 (.slice A8 (1 + n6) c8) (1 + n6) (⟨5, 0, false, []⟩ :: ks)) (finO_put (R := ⟨rw_, ⟨x, y, z, n⟩, rm, rrow, rtx, rcl⟩) V8.out.1 (kyW_own HK8.out).1 (kyW_own HK8.out).2) ?_
  rintro Z ⟨⟨y9, k9, j9⟩, hk, hn, hb, hc⟩
  have HZ := Lib.hid (And.intro hc (And.intro hk (And.intro hn hb)))
  have e0 := k9 0
  have e1 := k9 1
  have e2 := k9 2
  have e3 := k9 3
  have e4 := k9 4
  have e5 := k9 5
  have e6 := k9 6
  have e7 := k9 7
  have e8 := k9 8
  clear hc hk hn hb k9 j9 y9 q0 q1 q2 q3 q4 q5 q6 q7 q8 f0 f1 f2 f3 f4 f5 f6 f7 f8 y6 
  refine bodyPost_ret (v := .tuple #[psV ⟨rw_, ⟨x, y, z, n⟩, rm, rrow, rtx, rcl⟩ T6, .slice A8 (1 + n6) c8]) (by simp at e0 e1 e2 e3 e4 e5 e6 e7 e8; simp [results, Try.results39, go_sem, e0, e1, e2, e3, e4, e5, e6, e7, e8]) rfl ⟨T6, A8, (1 + n6), c8, rfl, HZ.out.1, HZ.out.2.1, HZ.out.2.2.1, HZ.out.2.2.2⟩

end Go.Proofs.Ytkkenabckhmkoaa
