/- trie: intern. -/
import Derived.Test.YtpbdamjpjpchiaaTrS
import Derived.Deep.MidRow
import Derived.StillTailTactics
import Derived.Deep.Cut
import Derived.Great.BuildSlice
namespace Go.Proofs.Ytpbdamjpjpchiaa
open Go.RowKit Go.Maps
set_option linter.unusedVariables false
set_option linter.unusedSimpArgs false

theorem range_blk {w : World} {g : Nat} {cs : List Value} (h : Blk w g cs.toArray) : w.rangeAt g 0 cs := fun i v hv => by
  rw [Nat.zero_add, h.2.1 i]
  simpa using hv
theorem still_load_mid {P : Program} {o : Oper} {a : Act} {w : World} {K : Act → Prop} (ty : TypeId) (x : Operand) (ho : o.op = .load ty x)
    (b off : Nat) (hx : a.eval x = .pointer (some ⟨b, off, none⟩)) (cs : List Value) (d : TypeDesc) (hc : w.rangeAt b off cs)
    (hu : P.underlying ty = some d) (hd : d.isRow = true) (hi : (P.info? ty).map (·.size) = some cs.length)
    (h : K (a.put o.dst (.agg cs.toArray))) : o.still P a w K := by
  unfold Oper.still execOp
  simp only [ho, hx, run_loadAt_mid w b off ty cs d hc hu hd hi, Sem.run_bind, Sem.run_pure, Result.andThen_ok]
  exact ⟨rfl, h⟩

theorem fill_one (cs base : Array Value) (hs : base.size = cs.size) (h0 : 0 < cs.size) : Instr.fill (fun i => some (i * cs.size, cs.size)) base [(0, .agg cs)] = some cs := by
  obtain ⟨r, h1, h2, h3⟩ := Great.fill_dense h0 [.agg cs] 0 base (by simp [Value.cells]) (by simp [hs])
  have e : ([Value.agg cs].zipIdx 0).map (fun x => (x.2, x.1)) = [(0, .agg cs)] := rfl
  rw [e] at h1
  rw [h1]
  congr 1
  apply Array.ext_getElem?
  intro k
  rw [h3 k]
  by_cases hk : k < cs.size
  · rw [if_pos ⟨by omega, by simpa using hk⟩]
    simp [Nat.div_eq_of_lt hk, Nat.mod_eq_of_lt hk, Value.cells]
  · rw [if_neg (by simp; omega), Array.getElem?_eq_none (by omega), Array.getElem?_eq_none (by omega)]
/-- A slice of one element that is made. -/
theorem wp_buildOne {P : Program} {o : Oper} {a : Act} {w : World} {K : Act → World → Prop} {Q : Exit → Act → World → Prop} {t e : TypeId} {size bytes : Nat} (E : Elt P t e size bytes) (x : Operand) (ho : o.op = .buildSlice t 1 #[(0, x)])
    (cs : Array Value) (hcs : cs.size = size) (hx : a.eval x = .agg cs) (hsm : size ≤ 2 ^ 24)
    (h : K (a.put o.dst (.slice (some ⟨w.heap.size, 0, none⟩) 1 1)) (w.alloc (.cells cs e))) : o.wp P a w K Q := by
  obtain ⟨ht, i, z, hi, hz, hsize, hby, hzs, hsz⟩ := E
  subst hcs
  refine wp_buildSlice t e 1 #[(0, x)] ho cs i z ht hi hz (by rw [hsize]; omega) (by rw [hsize]; omega) ?_ h
  rw [hsize]
  have e : (#[(0, x)].map fun (i, x) => (i, a.eval x)).toList = [(0, .agg cs)] := by simp [hx]
  rw [e]
  exact fill_one cs _ (by simp) hsz
set_option maxHeartbeats 4000000 in
set_option maxRecDepth 100000 in
theorem intern_old {base tb mb : Nat} {m : Int} {A A2 : Option Addr} {n c n2 c2 : Nat} {Bs : List (List Int)} {Ix : List Nat} {l : List Int → Option Nat} {W : World} (h : Tr base tb mb m A n c Bs A2 n2 c2 Ix l W) (B : List Int) (hB : WfB B) (hn : Bs.length ≤ 1000000) (e0 : Nat) (hl : l B = some e0) :
    Calls Try.prog 24 #[.pointer (some ⟨tb, 0, none⟩), .map (some mb), bv B] W (fun e w' => e = .returned (.int .i32 e0) ∧ Below W.heap.size W w') := by
  have hlen : (cellsB B).length = 128 := by rw [cellsB_len, hB.1]
  have hi : (Try.prog.info? 54).map (·.size) = some (cellsB B).length := by rw [hlen]; kernel_rfl
  have hone := all_oneCell_toArray (cellsB_one B)
  have HR := Lib.hid (range_blk (blk_new W (cellsB B).toArray 54))
  have HK := Lib.hid (((h.kn.later (belAlloc W (.cells (cellsB B).toArray 54)) h.kn.lt).look hB))
  rw [hl] at HK
  have hk := HK.out
  simp only [Option.getD_some, Option.isSome_some] at hk
  have HBe := Lib.hid (belAlloc W (.cells (cellsB B).toArray 54))
  have HI := Lib.hid hi
  clear h hl HK hi hone hlen
  go_enter Try.func24, Try.ntmps24
  go_upto_region 1 with fail
  apply wp_region_lit
  refine wpList_plain rfl fun K2 hK2 => ?_
  go_simp
  refine hK2 _ _ ?_
  clear hK2 K2
  refine wpList_load_mid rfl 54 (Operand.tmp 5) rfl W.heap.size 0 rfl (cellsB B) _ HR.out Try.underlying54 rfl HI.out ?_
  simp only [Act.put, List.setIfInBounds_toArray, List.set_cons_zero, List.set_cons_succ]
  go_wp2_with fail
  go_ret
  exact ⟨rfl, HBe.out⟩

/-- What intern leaves. -/
structure Frm (tb mb : Nat) (A : Option Addr) (n c : Nat) (A2 : Option Addr) (n2 c2 : Nat) (W w' : World) : Prop where
  os : w'.os = W.os
  tape : w'.tape = W.tape
  output : w'.output = W.output
  size : W.heap.size ≤ w'.heap.size
  old : ∀ k, k < W.heap.size → ¬ Ow tb mb A n c A2 n2 c2 k → w'.heap[k]? = W.heap[k]?

section
variable {base tb mb : Nat} {m : Int} {A A2 : Option Addr} {c n2 c2 : Nat} {Bs : List (List Int)} {Ix : List Nat} {l : List Int → Option Nat} {W : World}
/-- Behind the store into the map. -/
theorem intern_mid {B : List Int} {w1 : World} (h : Tr base tb mb m A Bs.length c Bs A2 n2 c2 Ix l W) (hx : Blk (W.alloc (.cells (cellsB B).toArray 54)) W.heap.size (cellsB B).toArray)
    (hg : (W.alloc (.cells (cellsB B).toArray 54)).grownBy w1 (some mb)) (hk : Kn w1 mb (Bs.length + 1) (also l B Bs.length)) :
    Blk w1 tb #[.int .i64 m, .slice A Bs.length c, .slice A2 n2 c2] ∧ Blk w1 W.heap.size (cellsB B).toArray ∧ w1.ownsRow base 54 128 (.slice A Bs.length c) Bs.length (flatL cellsB Bs) ∧ w1.ownsRow base 21 1 (.slice A2 n2 c2) n2 (flatL encN Ix) ∧ W.grownBy w1 (some mb) ∧ Kn w1 mb (Bs.length + 1) (also l B Bs.length) := by
  have hg0 : W.grownBy w1 (some mb) := (show W.grownBy (W.alloc (.cells (cellsB B).toArray 54)) (some mb) from ⟨rfl, rfl, rfl, by simp, fun k hk _ => (World.grownBy_alloc W _ none).block k hk (by simp)⟩).trans hg
  have hmt := h.mt
  refine ⟨h.cel.same (hg0.block _ h.cel.1 (fun e => by injection e with e; exact hmt e.symm)) hg0.size, hx.same (hg.block _ hx.1 (fun e => by injection e with e; have := h.kn.lt; omega)) hg.size, keptRow h.bl hg0 (fun g hg' e => by injection e with e; exact h.m1 g hg' e.symm), keptRow h.wh hg0 (fun g hg' e => by injection e with e; exact h.m2 g hg' e.symm), hg0, hk⟩
theorem intern_end {B : List Int} {w1 w3 : World} {A' : Option Addr} {c' : Nat} (h : Tr base tb mb m A Bs.length c Bs A2 n2 c2 Ix l W) (hl : l B = none) (hB : WfB B)
    (hv : Blk w1 tb #[.int .i64 m, .slice A Bs.length c, .slice A2 n2 c2] ∧ Blk w1 W.heap.size (cellsB B).toArray ∧ w1.ownsRow base 54 128 (.slice A Bs.length c) Bs.length (flatL cellsB Bs) ∧ w1.ownsRow base 21 1 (.slice A2 n2 c2) n2 (flatL encN Ix) ∧ W.grownBy w1 (some mb) ∧ Kn w1 mb (Bs.length + 1) (also l B Bs.length))
    (hp : Pushed w1 w3 base 54 128 (.slice A Bs.length c) (Bs.length + 1) (flatL cellsB Bs ++ (cellsB B).toArray.toList) A' c') :
    Frm tb mb A Bs.length c A2 n2 c2 W (w3.setCell ⟨tb, 1, none⟩ (.slice A' (Bs.length + 1) c')) ∧ ∃ A1 c1, Tr base tb mb m A1 (Bs.length + 1) c1 (Bs ++ [B]) A2 n2 c2 Ix (also l B Bs.length) (w3.setCell ⟨tb, 1, none⟩ (.slice A' (Bs.length + 1) c')) ∧ ∀ g, (Value.slice A1 (Bs.length + 1) c1).ownBlock = some g → (Value.slice A Bs.length c).ownBlock = some g ∨ W.heap.size ≤ g := by
  obtain ⟨v1, v2, v3, v4, v5, v6⟩ := hv
  have hg : w1.grownBy w3 (Value.slice A Bs.length c).ownBlock := hp.grown
  have hsz : W.heap.size ≤ w3.heap.size := Nat.le_trans v5.size hg.size
  have hn1 : ∀ g, (Value.slice A' (Bs.length + 1) c').ownBlock = some g → (Value.slice A Bs.length c).ownBlock = some g ∨ W.heap.size ≤ g := fun g e => by
    rcases hp.at_ with e1 | ⟨q, e1, hq⟩
    · exact .inl (e1 ▸ e)
    · rw [e1] at e
      injection e with e
      subst e
      exact .inr (Nat.le_trans v5.size hq)
  have hcl := h.cel.1
  have hnt : ∀ g, (Value.slice A' (Bs.length + 1) c').ownBlock = some g → g ≠ tb := fun g e => by
    rcases hn1 g e with e1 | e1
    · exact h.n1 g e1
    · omega
  have b3 := v1.grown hg (fun e => h.n1 tb e.symm rfl)
  have b4 := b3.set_ 1 (by simp) (.slice A' (Bs.length + 1) c')
  refine ⟨⟨hg.os.trans v5.os, hg.tape.trans v5.tape, hg.output.trans v5.output, by simpa using hsz, fun k hk ho => ?_⟩, A', c', ⟨by simpa using b4, ?_, ?_, ?_, h.ok.also hl, ?_, by simp, h.t0, h.m0, hnt, h.n2'⟩, hn1⟩
  · rw [Below.heap_setCell _ _ _ _ (by show k ≠ tb; exact fun e => ho (.inl e))]
    exact (hg.block k (Nat.lt_of_lt_of_le hk v5.size) (fun e => ho (.inr (.inr (.inl e.symm))))).trans (v5.block k hk (fun e => by injection e with e; exact ho (.inr (.inl e))))
  · have := keptRow hp.own (grow_set w3 tb 1 (.slice A' (Bs.length + 1) c')) (fun g e e' => by injection e' with e'; exact hnt g e e'.symm)
    rw [flatL_snoc]
    simpa using this
  · have := keptRow v4 hg (fun g e e' => h.n12 g e' e)
    exact keptRow this (grow_set w3 tb 1 (.slice A' (Bs.length + 1) c')) (fun g e e' => by injection e' with e'; exact h.n2' g e e'.symm)
  · have := v6.kept hg (fun e => h.m1 mb e.symm rfl)
    have := this.kept (grow_set w3 tb 1 (.slice A' (Bs.length + 1) c')) (fun e => by injection e with e; exact h.mt e)
    simpa using this
  · intro X hX
    rcases List.mem_append.1 hX with hX | hX
    · exact h.wf X hX
    · simp at hX; subst hX; exact hB
end

set_option maxHeartbeats 4000000 in
set_option maxRecDepth 100000 in
theorem intern_new {base tb mb : Nat} {m : Int} {A A2 : Option Addr} {n c n2 c2 : Nat} {Bs : List (List Int)} {Ix : List Nat} {l : List Int → Option Nat} {W : World} (h : Tr base tb mb m A n c Bs A2 n2 c2 Ix l W) (B : List Int) (hB : WfB B) (hn : Bs.length ≤ 1000000) (hbs : base ≤ W.heap.size) (hl : l B = none) :
    Calls Try.prog 24 #[.pointer (some ⟨tb, 0, none⟩), .map (some mb), bv B] W (fun e w' => e = .returned (.int .i32 n) ∧ Frm tb mb A n c A2 n2 c2 W w' ∧ ∃ A' c', Tr base tb mb m A' (n + 1) c' (Bs ++ [B]) A2 n2 c2 Ix (also l B Bs.length) w' ∧ ∀ g, (Value.slice A' (n + 1) c').ownBlock = some g → (Value.slice A n c).ownBlock = some g ∨ W.heap.size ≤ g) := by
  have hlen : (cellsB B).length = 128 := by rw [cellsB_len, hB.1]
  have hi : (Try.prog.info? 54).map (·.size) = some (cellsB B).length := by rw [hlen]; kernel_rfl
  have hone := all_oneCell_toArray (cellsB_one B)
  have HX := Lib.hid (And.intro (h.later (belAlloc W (.cells (cellsB B).toArray 54))) (blk_new W (cellsB B).toArray 54))
  have HR := Lib.hid (range_blk HX.out.2)
  have hk := HX.out.1.kn.look hB
  rw [hl] at hk
  simp only [Option.getD_none, Option.isSome_none] at hk
  obtain rfl := h.len
  obtain ⟨y0, k0, j0⟩ := (show Blk _ _ _ from h.cel)
  have k1 : W.cell? ⟨tb, 1, none⟩ = some (.slice A Bs.length c) := k0 1
  obtain ⟨kl, hkl⟩ := key_of B hB
  have v1 : IntKind.i32.wrap (Bs.length : Int) = (Bs.length : Int) := IntWalk.i32_in _ (by omega)
  have hwf : (Lit.int .i32 (Bs.length : Int)).wf = true := by
    have := wf_wrap .i32 (Bs.length : Int)
    rwa [v1] at this
  have HI := Lib.hid hi
  have HH := Lib.hid (And.intro h hl)
  clear h hl hi hone hlen k0
  go_enter Try.func24, Try.ntmps24
  go_upto_region 1 with fail
  apply wp_region_lit
  refine wpList_plain rfl fun K2 hK2 => ?_
  go_simp
  refine hK2 _ _ ?_
  clear hK2 K2
  refine wpList_load_mid rfl 54 (Operand.tmp 5) rfl W.heap.size 0 rfl (cellsB B) _ HR.out Try.underlying54 rfl HI.out ?_
  simp only [Act.put, List.setIfInBounds_toArray, List.set_cons_zero, List.set_cons_succ]
  go_upto_region 4 with fail
  apply wp_region_lit
  refine wpList_plain rfl fun K2 hK2 => ?_
  go_simp
  refine hK2 _ _ ?_
  clear hK2 K2
  refine wpList_load_mid rfl 54 (Operand.tmp 5) rfl W.heap.size 0 rfl (cellsB B) _ HR.out Try.underlying54 rfl HI.out ?_
  simp only [Act.put, List.setIfInBounds_toArray, List.set_cons_zero, List.set_cons_succ]
  obtain ⟨D, hD1, hD2⟩ := HX.out.1.kn
  have HD := Lib.hid (And.intro hD1 hD2)
  clear hD1 hD2
  go_wp2_with (at_mapUpdate; refine wpList_mapUpdate_own _ rfl _ _ _ 58 rfl 54 21 law Try.underlying58 el mb Bs.length _ rfl HD.out.1 (by unfold maxLen; omega) _ _ kl rfl rfl hkl _ [] (plainElem_int Try.underlying21 hwf) ?_; intro w1 hown1 hgrow1)
  have HV := Lib.hid (intern_mid HH.out.1 HX.out.2 hgrow1 (Kn.put HD.out.1 HD.out.2 hkl hown1))
  have hs1 := HV.out.2.2.2.2.1.size
  clear hown1 hgrow1 HD hk y0 j0 k1
  obtain ⟨y0, k0, j0⟩ := (show Blk _ _ _ from HV.out.1)
  have k1 : w1.cell? ⟨tb, 1, none⟩ = some (.slice A Bs.length c) := k0 1
  clear k0
  have HRG := Lib.hid (range_blk (HV.out.2.1.later (Below.refl _ _).drew HV.out.2.1.1))
  have HC := Lib.hid (show (cellsB B).toArray.size = 128 by rw [List.size_toArray, cellsB_len, hB.1])
  have HO := Lib.hid (show (cellsB B).toArray.toList.all Value.oneCell' = true from by have := all_oneCell_toArray (cellsB_one B); simpa using this)
  have hbs1 : base ≤ w1.heap.size := by omega
  have k2 : w1.drew.cell? ⟨tb, 1, none⟩ = some (.slice A Bs.length c) := k1
  refine wp_region_any (by kernel_rfl) ?_
  change wpAny _ _ _ _ _ _ _ (World.drew _)
  refine wpAny_take (i := 0) (oi := { dst := some 26, op := Go.Op.move (Go.Operand.tmp 0), type := 24, pos := "trie.go:86", after := #[], guard := none }) (v := ?_) rfl (by kernel_rfl) (by kernel_rfl) (by kernel_rfl) (fun _ _ _ h => h) (Or.inl ⟨by rfl, ?_⟩) ?_
  rotate_left
  · intro Z; go_simp; try with_reducible rfl
  simp only [Act.put, List.setIfInBounds_toArray, List.set_cons_zero, List.set_cons_succ]
  refine wpAny_take (i := 1) (oi := { dst := some 27, op := Go.Op.move (Go.Operand.tmp 0), type := 24, pos := "trie.go:86", after := #[], guard := none }) (v := ?_) rfl (by kernel_rfl) (by kernel_rfl) (by kernel_rfl) (fun _ _ _ h => h) (Or.inl ⟨by rfl, ?_⟩) ?_
  rotate_left
  · intro Z; go_simp; try with_reducible rfl
  simp only [Act.put, List.setIfInBounds_toArray, List.set_cons_zero, List.set_cons_succ]
  refine wpAny_take (i := 2) (oi := { dst := some 28, op := Go.Op.nilCheck (Go.Operand.tmp 27), type := 0, pos := "trie.go:86", after := #[{ on := 1, ground := Go.Ground.data }], guard := none }) (v := ?_) rfl (by kernel_rfl) (by kernel_rfl) (by kernel_rfl) (fun _ _ _ h => h) (Or.inl ⟨by rfl, ?_⟩) ?_
  rotate_left
  · intro Z; go_simp; try with_reducible rfl
  simp only [Act.put, List.setIfInBounds_toArray, List.set_cons_zero, List.set_cons_succ]
  refine wpAny_take (i := 3) (oi := { dst := some 29, op := Go.Op.fieldAddr 53 (Go.Operand.tmp 28) 1, type := 0, pos := "trie.go:86", after := #[{ on := 2, ground := Go.Ground.data }], guard := none }) (v := ?_) rfl (by kernel_rfl) (by kernel_rfl) (by kernel_rfl) (fun _ _ _ h => h) (Or.inl ⟨by rfl, ?_⟩) ?_
  rotate_left
  · intro Z; go_simp; try with_reducible rfl
  simp only [Act.put, List.setIfInBounds_toArray, List.set_cons_zero, List.set_cons_succ]
  refine wpAny_ready (rs := [4, 5]) (by kernel_rfl) (by simp) ?_
  refine AllReady.cons (o := { dst := some 30, op := Go.Op.load 50 (Go.Operand.tmp 29), type := 50, pos := "trie.go:86", after := #[{ on := 3, ground := Go.Ground.data }], guard := none }) rfl (fun K hK => ?_) (AllReady.cons (o := { dst := some 31, op := Go.Op.load 54 (Go.Operand.tmp 5), type := 54, pos := "trie.go:86", after := #[], guard := none }) rfl (fun K hK => ?_) AllReady.nil)
  · go_simp; refine hK _ _ ?_; clear hK K
    refine wpAny_ready (rs := [5]) (by kernel_rfl) (by simp) ?_
    refine AllReady.cons (o := { dst := some 31, op := Go.Op.load 54 (Go.Operand.tmp 5), type := 54, pos := "trie.go:86", after := #[], guard := none }) rfl (fun K hK => ?_) AllReady.nil
    rw [if_pos (by rfl)]; refine wp_load_mid 54 (Operand.tmp 5) rfl W.heap.size 0 rfl (cellsB B) _ HRG.out Try.underlying54 rfl HI.out ?_; simp only [Act.put, List.setIfInBounds_toArray, List.set_cons_zero, List.set_cons_succ]; refine hK _ _ ?_; clear hK K
    refine wpAny_ready (rs := [6]) (by kernel_rfl) (by simp) ?_
    refine AllReady.cons (o := { dst := some 32, op := Go.Op.buildSlice 50 1 #[(0, Go.Operand.tmp 31)], type := 50, pos := "trie.go:86", after := #[{ on := 5, ground := Go.Ground.data }], guard := none }) rfl (fun K hK => ?_) AllReady.nil
    rw [if_pos (by rfl)]; refine wp_buildOne block_elt (Operand.tmp 31) rfl (cellsB B).toArray HC.out rfl (by decide) ?_; simp only [Act.put, List.setIfInBounds_toArray, List.set_cons_zero, List.set_cons_succ]; refine hK _ _ ?_; clear hK K
    refine wpAny_ready (rs := [7]) (by kernel_rfl) (by simp) ?_
    refine AllReady.cons (o := { dst := some 33, op := Go.Op.call { callee := Go.Callee.builtin Go.Builtin.append, args := #[Go.Operand.tmp 30, Go.Operand.tmp 32], argTypes := #[50, 50] }, type := 50, pos := "trie.go:86", after := #[{ on := 4, ground := Go.Ground.data }, { on := 6, ground := Go.Ground.data }], guard := none }) rfl (fun K hK => ?_) AllReady.nil
    refine step_pushN block_elt HV.out.2.2.1 hbs1 rfl rfl rfl rfl rfl rfl HC.out HO.out (by unfold maxLen; omega) (by omega) ?_; intro A3 c3 w3 hp; have HE := Lib.hid (intern_end HH.out.1 HH.out.2 hB HV.out hp); have hb3 := (show Blk w1 tb _ from HV.out.1).grown hp.grown (fun e => HH.out.1.n1 tb e.symm rfl); have z0 := hb3.1; have z1 : w3.cell? ⟨tb, 1, none⟩ = some (.slice A Bs.length c) := hb3.2.1 1; have z2 : w3.frozen? ⟨tb, 1, none⟩ = false := hb3.2.2 1; clear hp hb3 y0 k1 j0; simp only [Act.put, List.setIfInBounds_toArray, List.set_cons_zero, List.set_cons_succ]; refine hK _ _ ?_; clear hK K
    refine wpAny_take (i := 8) (oi := { dst := some 34, op := Go.Op.nilCheck (Go.Operand.tmp 26), type := 0, pos := "trie.go:86", after := #[{ on := 0, ground := Go.Ground.data }, { on := 0, ground := Go.Ground.phase }, { on := 1, ground := Go.Ground.phase }, { on := 2, ground := Go.Ground.phase }, { on := 3, ground := Go.Ground.phase }, { on := 4, ground := Go.Ground.phase }, { on := 5, ground := Go.Ground.phase }, { on := 6, ground := Go.Ground.phase }, { on := 7, ground := Go.Ground.phase }], guard := none }) (v := ?_) rfl (by kernel_rfl) (by kernel_rfl) (by kernel_rfl) (fun _ _ _ h => h) (Or.inl ⟨by rfl, ?_⟩) ?_
    rotate_left
    · intro Z; go_simp; try with_reducible rfl
    simp only [Act.put, List.setIfInBounds_toArray, List.set_cons_zero, List.set_cons_succ]
    refine wpAny_take (i := 9) (oi := { dst := some 35, op := Go.Op.fieldAddr 53 (Go.Operand.tmp 34) 1, type := 0, pos := "trie.go:86", after := #[{ on := 8, ground := Go.Ground.data }, { on := 0, ground := Go.Ground.phase }, { on := 1, ground := Go.Ground.phase }, { on := 2, ground := Go.Ground.phase }, { on := 3, ground := Go.Ground.phase }, { on := 4, ground := Go.Ground.phase }, { on := 5, ground := Go.Ground.phase }, { on := 6, ground := Go.Ground.phase }, { on := 7, ground := Go.Ground.phase }], guard := none }) (v := ?_) rfl (by kernel_rfl) (by kernel_rfl) (by kernel_rfl) (fun _ _ _ h => h) (Or.inl ⟨by rfl, ?_⟩) ?_
    rotate_left
    · intro Z; go_simp; try with_reducible rfl
    simp only [Act.put, List.setIfInBounds_toArray, List.set_cons_zero, List.set_cons_succ]
    refine wpAny_ready (rs := [10]) (by kernel_rfl) (by simp) ?_
    refine AllReady.cons (o := { dst := none, op := Go.Op.store 50 (Go.Operand.tmp 35) (Go.Operand.tmp 33), type := 0, pos := "trie.go:86", after := #[{ on := 9, ground := Go.Ground.data }, { on := 7, ground := Go.Ground.data }, { on := 7, ground := Go.Ground.chain }, { on := 0, ground := Go.Ground.phase }, { on := 1, ground := Go.Ground.phase }, { on := 2, ground := Go.Ground.phase }, { on := 3, ground := Go.Ground.phase }, { on := 4, ground := Go.Ground.phase }, { on := 5, ground := Go.Ground.phase }, { on := 6, ground := Go.Ground.phase }, { on := 7, ground := Go.Ground.phase }], guard := none }) rfl (fun K hK => ?_) AllReady.nil
    go_simp; refine hK _ _ ?_; clear hK K
    refine wpAny_done (by kernel_rfl) ?_ _
    go_wp2; go_ret; exact ⟨rfl, HE.out⟩
  · rw [if_pos (by rfl)]; refine wp_load_mid 54 (Operand.tmp 5) rfl W.heap.size 0 rfl (cellsB B) _ HRG.out Try.underlying54 rfl HI.out ?_; simp only [Act.put, List.setIfInBounds_toArray, List.set_cons_zero, List.set_cons_succ]; refine hK _ _ ?_; clear hK K
    refine wpAny_ready (rs := [4, 6]) (by kernel_rfl) (by simp) ?_
    refine AllReady.cons (o := { dst := some 30, op := Go.Op.load 50 (Go.Operand.tmp 29), type := 50, pos := "trie.go:86", after := #[{ on := 3, ground := Go.Ground.data }], guard := none }) rfl (fun K hK => ?_) (AllReady.cons (o := { dst := some 32, op := Go.Op.buildSlice 50 1 #[(0, Go.Operand.tmp 31)], type := 50, pos := "trie.go:86", after := #[{ on := 5, ground := Go.Ground.data }], guard := none }) rfl (fun K hK => ?_) AllReady.nil)
    · go_simp; refine hK _ _ ?_; clear hK K
      refine wpAny_ready (rs := [6]) (by kernel_rfl) (by simp) ?_
      refine AllReady.cons (o := { dst := some 32, op := Go.Op.buildSlice 50 1 #[(0, Go.Operand.tmp 31)], type := 50, pos := "trie.go:86", after := #[{ on := 5, ground := Go.Ground.data }], guard := none }) rfl (fun K hK => ?_) AllReady.nil
      rw [if_pos (by rfl)]; refine wp_buildOne block_elt (Operand.tmp 31) rfl (cellsB B).toArray HC.out rfl (by decide) ?_; simp only [Act.put, List.setIfInBounds_toArray, List.set_cons_zero, List.set_cons_succ]; refine hK _ _ ?_; clear hK K
      refine wpAny_ready (rs := [7]) (by kernel_rfl) (by simp) ?_
      refine AllReady.cons (o := { dst := some 33, op := Go.Op.call { callee := Go.Callee.builtin Go.Builtin.append, args := #[Go.Operand.tmp 30, Go.Operand.tmp 32], argTypes := #[50, 50] }, type := 50, pos := "trie.go:86", after := #[{ on := 4, ground := Go.Ground.data }, { on := 6, ground := Go.Ground.data }], guard := none }) rfl (fun K hK => ?_) AllReady.nil
      refine step_pushN block_elt HV.out.2.2.1 hbs1 rfl rfl rfl rfl rfl rfl HC.out HO.out (by unfold maxLen; omega) (by omega) ?_; intro A3 c3 w3 hp; have HE := Lib.hid (intern_end HH.out.1 HH.out.2 hB HV.out hp); have hb3 := (show Blk w1 tb _ from HV.out.1).grown hp.grown (fun e => HH.out.1.n1 tb e.symm rfl); have z0 := hb3.1; have z1 : w3.cell? ⟨tb, 1, none⟩ = some (.slice A Bs.length c) := hb3.2.1 1; have z2 : w3.frozen? ⟨tb, 1, none⟩ = false := hb3.2.2 1; clear hp hb3 y0 k1 j0; simp only [Act.put, List.setIfInBounds_toArray, List.set_cons_zero, List.set_cons_succ]; refine hK _ _ ?_; clear hK K
      refine wpAny_take (i := 8) (oi := { dst := some 34, op := Go.Op.nilCheck (Go.Operand.tmp 26), type := 0, pos := "trie.go:86", after := #[{ on := 0, ground := Go.Ground.data }, { on := 0, ground := Go.Ground.phase }, { on := 1, ground := Go.Ground.phase }, { on := 2, ground := Go.Ground.phase }, { on := 3, ground := Go.Ground.phase }, { on := 4, ground := Go.Ground.phase }, { on := 5, ground := Go.Ground.phase }, { on := 6, ground := Go.Ground.phase }, { on := 7, ground := Go.Ground.phase }], guard := none }) (v := ?_) rfl (by kernel_rfl) (by kernel_rfl) (by kernel_rfl) (fun _ _ _ h => h) (Or.inl ⟨by rfl, ?_⟩) ?_
      rotate_left
      · intro Z; go_simp; try with_reducible rfl
      simp only [Act.put, List.setIfInBounds_toArray, List.set_cons_zero, List.set_cons_succ]
      refine wpAny_take (i := 9) (oi := { dst := some 35, op := Go.Op.fieldAddr 53 (Go.Operand.tmp 34) 1, type := 0, pos := "trie.go:86", after := #[{ on := 8, ground := Go.Ground.data }, { on := 0, ground := Go.Ground.phase }, { on := 1, ground := Go.Ground.phase }, { on := 2, ground := Go.Ground.phase }, { on := 3, ground := Go.Ground.phase }, { on := 4, ground := Go.Ground.phase }, { on := 5, ground := Go.Ground.phase }, { on := 6, ground := Go.Ground.phase }, { on := 7, ground := Go.Ground.phase }], guard := none }) (v := ?_) rfl (by kernel_rfl) (by kernel_rfl) (by kernel_rfl) (fun _ _ _ h => h) (Or.inl ⟨by rfl, ?_⟩) ?_
      rotate_left
      · intro Z; go_simp; try with_reducible rfl
      simp only [Act.put, List.setIfInBounds_toArray, List.set_cons_zero, List.set_cons_succ]
      refine wpAny_ready (rs := [10]) (by kernel_rfl) (by simp) ?_
      refine AllReady.cons (o := { dst := none, op := Go.Op.store 50 (Go.Operand.tmp 35) (Go.Operand.tmp 33), type := 0, pos := "trie.go:86", after := #[{ on := 9, ground := Go.Ground.data }, { on := 7, ground := Go.Ground.data }, { on := 7, ground := Go.Ground.chain }, { on := 0, ground := Go.Ground.phase }, { on := 1, ground := Go.Ground.phase }, { on := 2, ground := Go.Ground.phase }, { on := 3, ground := Go.Ground.phase }, { on := 4, ground := Go.Ground.phase }, { on := 5, ground := Go.Ground.phase }, { on := 6, ground := Go.Ground.phase }, { on := 7, ground := Go.Ground.phase }], guard := none }) rfl (fun K hK => ?_) AllReady.nil
      go_simp; refine hK _ _ ?_; clear hK K
      refine wpAny_done (by kernel_rfl) ?_ _
      go_wp2; go_ret; exact ⟨rfl, HE.out⟩
    · rw [if_pos (by rfl)]; refine wp_buildOne block_elt (Operand.tmp 31) rfl (cellsB B).toArray HC.out rfl (by decide) ?_; simp only [Act.put, List.setIfInBounds_toArray, List.set_cons_zero, List.set_cons_succ]; refine hK _ _ ?_; clear hK K
      refine wpAny_ready (rs := [4]) (by kernel_rfl) (by simp) ?_
      refine AllReady.cons (o := { dst := some 30, op := Go.Op.load 50 (Go.Operand.tmp 29), type := 50, pos := "trie.go:86", after := #[{ on := 3, ground := Go.Ground.data }], guard := none }) rfl (fun K hK => ?_) AllReady.nil
      go_simp; refine hK _ _ ?_; clear hK K
      refine wpAny_ready (rs := [7]) (by kernel_rfl) (by simp) ?_
      refine AllReady.cons (o := { dst := some 33, op := Go.Op.call { callee := Go.Callee.builtin Go.Builtin.append, args := #[Go.Operand.tmp 30, Go.Operand.tmp 32], argTypes := #[50, 50] }, type := 50, pos := "trie.go:86", after := #[{ on := 4, ground := Go.Ground.data }, { on := 6, ground := Go.Ground.data }], guard := none }) rfl (fun K hK => ?_) AllReady.nil
      refine step_pushN block_elt HV.out.2.2.1 hbs1 rfl rfl rfl rfl rfl rfl HC.out HO.out (by unfold maxLen; omega) (by omega) ?_; intro A3 c3 w3 hp; have HE := Lib.hid (intern_end HH.out.1 HH.out.2 hB HV.out hp); have hb3 := (show Blk w1 tb _ from HV.out.1).grown hp.grown (fun e => HH.out.1.n1 tb e.symm rfl); have z0 := hb3.1; have z1 : w3.cell? ⟨tb, 1, none⟩ = some (.slice A Bs.length c) := hb3.2.1 1; have z2 : w3.frozen? ⟨tb, 1, none⟩ = false := hb3.2.2 1; clear hp hb3 y0 k1 j0; simp only [Act.put, List.setIfInBounds_toArray, List.set_cons_zero, List.set_cons_succ]; refine hK _ _ ?_; clear hK K
      refine wpAny_take (i := 8) (oi := { dst := some 34, op := Go.Op.nilCheck (Go.Operand.tmp 26), type := 0, pos := "trie.go:86", after := #[{ on := 0, ground := Go.Ground.data }, { on := 0, ground := Go.Ground.phase }, { on := 1, ground := Go.Ground.phase }, { on := 2, ground := Go.Ground.phase }, { on := 3, ground := Go.Ground.phase }, { on := 4, ground := Go.Ground.phase }, { on := 5, ground := Go.Ground.phase }, { on := 6, ground := Go.Ground.phase }, { on := 7, ground := Go.Ground.phase }], guard := none }) (v := ?_) rfl (by kernel_rfl) (by kernel_rfl) (by kernel_rfl) (fun _ _ _ h => h) (Or.inl ⟨by rfl, ?_⟩) ?_
      rotate_left
      · intro Z; go_simp; try with_reducible rfl
      simp only [Act.put, List.setIfInBounds_toArray, List.set_cons_zero, List.set_cons_succ]
      refine wpAny_take (i := 9) (oi := { dst := some 35, op := Go.Op.fieldAddr 53 (Go.Operand.tmp 34) 1, type := 0, pos := "trie.go:86", after := #[{ on := 8, ground := Go.Ground.data }, { on := 0, ground := Go.Ground.phase }, { on := 1, ground := Go.Ground.phase }, { on := 2, ground := Go.Ground.phase }, { on := 3, ground := Go.Ground.phase }, { on := 4, ground := Go.Ground.phase }, { on := 5, ground := Go.Ground.phase }, { on := 6, ground := Go.Ground.phase }, { on := 7, ground := Go.Ground.phase }], guard := none }) (v := ?_) rfl (by kernel_rfl) (by kernel_rfl) (by kernel_rfl) (fun _ _ _ h => h) (Or.inl ⟨by rfl, ?_⟩) ?_
      rotate_left
      · intro Z; go_simp; try with_reducible rfl
      simp only [Act.put, List.setIfInBounds_toArray, List.set_cons_zero, List.set_cons_succ]
      refine wpAny_ready (rs := [10]) (by kernel_rfl) (by simp) ?_
      refine AllReady.cons (o := { dst := none, op := Go.Op.store 50 (Go.Operand.tmp 35) (Go.Operand.tmp 33), type := 0, pos := "trie.go:86", after := #[{ on := 9, ground := Go.Ground.data }, { on := 7, ground := Go.Ground.data }, { on := 7, ground := Go.Ground.chain }, { on := 0, ground := Go.Ground.phase }, { on := 1, ground := Go.Ground.phase }, { on := 2, ground := Go.Ground.phase }, { on := 3, ground := Go.Ground.phase }, { on := 4, ground := Go.Ground.phase }, { on := 5, ground := Go.Ground.phase }, { on := 6, ground := Go.Ground.phase }, { on := 7, ground := Go.Ground.phase }], guard := none }) rfl (fun K hK => ?_) AllReady.nil
      go_simp; refine hK _ _ ?_; clear hK K
      refine wpAny_done (by kernel_rfl) ?_ _
      go_wp2; go_ret; exact ⟨rfl, HE.out⟩
end Go.Proofs.Ytpbdamjpjpchiaa
