import Derived.Test.YtlopleeopnnoeaaGreatMb14
import Derived.Maps.Views
import Derived.Maps.OwnSet
import Derived.DeepKeys4
import Derived.Test.YtlopleeopnnoeaaGreatMb03
import Derived.Deep.MidRow
import Derived.StillTailTactics
import Derived.Deep.Cut
import Derived.Great.BuildSlice
set_option linter.unusedVariables false
set_option linter.unusedSimpArgs false
namespace Go.Proofs.YtlopleeopnnoeaaGreat.TK
open Go.RowKit Go.BigFrame
attribute [local go_sem] Oper.semAt_some
theorem opIn_load_mid {F:Fence}{m:Nat}{P:Program}{o:Oper}{a:Act}{w:World}{K:Act→World→Prop}{Q:Exit→Act→World→Prop}(ty:TypeId)(x:Operand)(ho:o.op= .load ty x)
  (b off:Nat) (hx:a.eval x= .pointer (some ⟨b,off,none⟩)) (cs:List Value) (d:TypeDesc) (hc:w.rangeAt b off cs)
  (hu:P.underlying ty=some d) (hd:d.isRow=true) (hi:(P.info? ty).map (·.size)=some cs.length)
  (h:K (a.put o.dst (.agg cs.toArray)) w):Oper.wpIn F m P o a w K Q:=by
 unfold Oper.wpIn
 refine⟨by simp [Oper.about,ho],?_⟩
 rw [Oper.semAt_plain F _ _ (by rw [ho];intro c hc';cases hc')]
 simp only [execOp,ho,hx,run_loadAt_mid w b off ty cs d hc hu hd hi,Sem.run_bind,Sem.run_pure,Result.andThen_ok]
 exact h
theorem opIn_store_mid {F:Fence}{m:Nat}{P:Program}{o:Oper}{a:Act}{w:World}{K:Act→World→Prop}{Q:Exit→Act→World→Prop}(ty:TypeId)(x y:Operand)(ho:o.op= .store ty x y)
  (b off:Nat) (cells:Array Value) (hx:a.eval x= .pointer (some ⟨b,off,none⟩)) (hy:a.eval y= .agg cells)
  (ht:w.there b off cells.size) (hi:(P.info? ty).map (·.size)=some cells.size) (h1:cells.all (·.oneCell')=true)
  (h:K (a.put o.dst undef) (w.setCells b off cells.toList)):Oper.wpIn F m P o a w K Q:=by
 unfold Oper.wpIn
 refine⟨by simp [Oper.about,ho],?_⟩
 rw [Oper.semAt_plain F _ _ (by rw [ho];intro c hc';cases hc')]
 simp only [execOp,ho,hx,hy,run_storeAt_mid w b off ty cells ht hi h1,Sem.run_bind,Sem.run_pure,Result.andThen_ok]
 exact h
theorem outC_one (g:Int→V3)(m first:Int)(k:Nat):∀v∈outC g m first k,v.oneCell'=true:=by
 intro v hv
 unfold outC flatL at hv
 obtain⟨i,_,hi⟩:=List.mem_flatMap.1 hv
 simp only [encV,List.mem_cons,List.mem_nil_iff,or_false]at hi
 rcases hi with rfl|rfl|rfl<;>rfl
theorem grow_setCells (b:Nat):∀ (vs:List Value) (o:Nat) (w:World),w.grownBy (w.setCells b o vs) (some b)
 |[],o,w=>World.grownBy.refl _ _
 |v::r,o,w=>by
  rw [World.setCells]
  exact(grow_set w b o v).trans (grow_setCells b r (o+1) _)
theorem results_cell_mid {P:Program}{fn:Func}{p:Tmp}{ty:TypeId}(h:fn.results=#[.cell p ty])(tmps:Array Value)(w:World)(b o:Nat)(hp:tmps.getD p undef= .pointer (some ⟨b,o,none⟩))(cs:List Value)(d:TypeDesc)(hc:w.rangeAt b o cs)
  (hu:P.underlying ty=some d) (hd:d.isRow=true) (hi:(P.info? ty).map (·.size)=some cs.length):(results fn tmps).run P w= .ok (.agg cs.toArray) w:=by
 have hp':tmps[p]?.getD undef= .pointer (some ⟨b,o,none⟩):=by simpa using hp
 simp [results,h,hp',asAddr,run_loadVar_mid w b o ty cs d hc hu hd hi]
def atOf (w:World)(b:Nat):Nat:=(intOf ((w.cell? ⟨b,0,none⟩).getD undef)).toNat
def TellsB (g:Int→V3)(m first:Int)(w:World)(e:Ending)(w':World):Prop:=e= .returned (.agg (flatL encV (blk g m first)).toArray)∧Below w.heap.size w w'
def BkI (w:World)(A:Option Addr)(c:Nat)(P:List (Pc V3))(g:Int→V3)(m first:Int)(pre:List Nat)(O:Nat→Prop)(W:World):Prop:=
 (∀k,O k↔(k=w.heap.size+1+1+1∨k=w.heap.size+1+1+1+1))∧∃j x,P[j]? =some x∧x.f≤first+pre.length∧BlI w A P.length c first j (outC g m first pre.length) W
def BkM (w:World)(A:Option Addr)(c:Nat)(P:List (Pc V3))(g:Int→V3)(m first:Int)(act:Nat→Act)(x:List Nat × Nat × Act)(O:Nat→Prop)(W:World):Prop:=
 BkI w A c P g m first x.1 O W∧upTo 128 x.1 x.2.1∧x.2.2=act x.2.1
theorem BkI.bears {w:World}{A:Option Addr}{c:Nat}{P:List (Pc V3)}{g:Int→V3}{m first:Int}{b:Nat}(hb:w.heap.size+1+1+1+1<b):BearsO (BkI w A c P g m first) b:=by
 rintro pre O A' B row ⟨h1,j,x,h2,h3,h4⟩ hg hr
 exact⟨h1,j,x,h2,h3,h4.grown hg fun r e=>by have:=(hr r e).1;omega⟩
theorem BkM.bears {w:World}{A:Option Addr}{c:Nat}{P:List (Pc V3)}{g:Int→V3}{m first:Int}{act:Nat→Act}{b:Nat}(hb:w.heap.size+1+1+1+1<b):BearsO (BkM w A c P g m first act) b:=by
 rintro⟨pre,x,a'⟩ O A' B row ⟨h,h2,h3⟩ hg hr
 exact⟨BkI.bears hb _ _ _ _ _ h hg hr,h2,h3⟩
theorem blk_round {w W wr:World}{A:Option Addr}{c j x:Nat}{P:List (Pc V3)}{g:Int→V3}{lo m first:Int}{y:Pc V3}{O:Nat→Prop}(hT:Tile lo m P)
  (hI:P[j]? =some y∧BlI w A P.length c first j (outC g m first x) wr∧wr.heap.size=W.heap.size∧∀k,k≠w.heap.size+1+1+1+1→wr.heap[k]? =W.heap[k]?) (hyf:y.f≤first+x)
  (hO:∀k,O k↔(k=w.heap.size+1+1+1∨k=w.heap.size+1+1+1+1)) (hs:wr.heap.size=W.heap.size) (hv:bval g m first x=y.v) (hx:x<128) (hlt:∀k,O k→k<W.heap.size) (nq:Nat):
  ∃O',KeepO O O' W ((((wr.drewN nq).setCell ⟨w.heap.size+1+1+1,x*3,none⟩ (.bool y.v.1)).setCell ⟨w.heap.size+1+1+1,x*3+1,none⟩ (.bool y.v.2.1)).setCell ⟨w.heap.size+1+1+1,x*3+2,none⟩ (.bool y.v.2.2))∧BkI w A c P g m first (List.range x++[x]) O' ((((wr.drewN nq).setCell ⟨w.heap.size+1+1+1,x*3,none⟩ (.bool y.v.1)).setCell ⟨w.heap.size+1+1+1,x*3+1,none⟩ (.bool y.v.2.1)).setCell ⟨w.heap.size+1+1+1,x*3+2,none⟩ (.bool y.v.2.2)):=by
 obtain⟨h1,h2,_,h4⟩:=hI
 refine⟨O,⟨by simp [hs],fun k hk ho=> ?_,fun k hk=> .inl hk,fun k hk=>by have:=hlt k hk;simp;omega⟩,hO,j,y,h1,by simp;omega,?_⟩
 ·have n1:k≠w.heap.size+1+1+1:=fun e=>ho ((hO k).2 (.inl e))
  have n2:k≠w.heap.size+1+1+1+1:=fun e=>ho ((hO k).2 (.inr e))
  exact(Below.heap_setCell _ _ _ _ n1).trans ((Below.heap_setCell _ _ _ _ n1).trans ((Below.heap_setCell _ _ _ _ n1).trans (h4 k n2)))
 ·have:=(((h2.drewN nq).put (x*3) (by rw [outC_len];omega) (.bool (bval g m first x).1)).put (x*3+1) (by rw [List.length_set,outC_len];omega) (.bool (bval g m first x).2.1)).put (x*3+2) (by rw [List.length_set,List.length_set,outC_len];omega) (.bool (bval g m first x).2.2)
  rw [outC_set _ _ _ _ hx,hv]at this
  rw [←List.range_succ,List.length_range]
  exact this
set_option maxRecDepth 100000 in
set_option maxHeartbeats 4000000 in
theorem block_in (A : Option Addr) (c : Nat) (P : List (Pc V3)) (g : Int → V3) (lo m first : Int) (w : World) (hLi : Li 5 encP w (fun _ => True) A P) (hT : Tile lo m P) (hV : Vals g P) (hne : 0 < P.length) (hlen : P.length ≤ 100000) (hcl : P.length ≤ c) (hf0 : 0 ≤ first) (hf : lo ≤ first) (hm : first < m) (hm2 : m ≤ 10000000) :
    CallsIn Fence.wide 5 Tryz.prog 151 #[.slice A P.length c, .int .i64 first] w (TellsB g m first w) := by
  have hro : Fence.wide.round = none := rfl
  have h1 : 1 ≤ 5 := by omega
  obtain ⟨p0, b, o, hp0, rfl, hb, _⟩ := hLi.pieceK hne
  have HL := Lib.hid hLi
  have HP0 := Lib.hid hp0
  have HT := Lib.hid (And.intro hT hV)
  clear hLi hp0 hT hV
  refine callsIn_of_wp_marks Tryz.func151 rfl trivial ?_ hro
  simp only [Tryz.ntmps151, List.size_toArray, List.length_cons, List.length_nil, Nat.reduceAdd, Nat.reduceSub, Array.replicate_succ, Array.replicate_zero, List.push_toArray, List.append_toArray, List.nil_append, List.cons_append]
  gi_wp2_with fail
  refine ⟨trivial, ?_⟩
  refine (numbers_in Fence.wide 4 trivial hro _ _ _).mono ?_
  rintro e w' ⟨rfl, rfl⟩
  have q0 := Boxed.new w 139 (.slice (some ⟨b, o, none⟩) P.length c)
  have q1 := Boxed.new (w.alloc (.cells #[.slice (some ⟨b, o, none⟩) P.length c] 139)) 3 (.int .i64 first)
  have q2 := blk_new ((w.alloc (.cells #[.slice (some ⟨b, o, none⟩) P.length c] 139)).alloc (.cells #[.int .i64 first] 3)) Tryz.zeroCells213 213
  have q3 := blk_new (((w.alloc (.cells #[.slice (some ⟨b, o, none⟩) P.length c] 139)).alloc (.cells #[.int .i64 first] 3)).alloc (.cells Tryz.zeroCells213 213)) Tryz.zeroCells213 213
  have q4 := Boxed.new ((((w.alloc (.cells #[.slice (some ⟨b, o, none⟩) P.length c] 139)).alloc (.cells #[.int .i64 first] 3)).alloc (.cells Tryz.zeroCells213 213)).alloc (.cells Tryz.zeroCells213 213)) 3 (.int .i64 0)
  simp only [World.size_alloc] at q1 q2 q3 q4 ⊢
  obtain ⟨Y, hY⟩ : ∃ Y, (((((w.alloc (.cells #[.slice (some ⟨b, o, none⟩) P.length c] 139)).alloc (.cells #[.int .i64 first] 3)).alloc (.cells Tryz.zeroCells213 213)).alloc (.cells Tryz.zeroCells213 213)).alloc (.cells #[.int .i64 0] 3)) = Y := ⟨_, rfl⟩
  have hYs : Y.heap.size = w.heap.size + 1 + 1 + 1 + 1 + 1 := by rw [← hY]; simp
  have hYI : BlI w (some ⟨b, o, none⟩) P.length c first (0 : Nat) (outC g m first 0) Y := by
    rw [← hY]
    exact ⟨(((q0.alloc _).alloc _).alloc _).alloc _, ((q1.alloc _).alloc _).alloc _, (q2.alloc _).alloc _, by rw [outC_zero]; exact q3.alloc _, q4, belPush (belPush (belPush (belPush (belAlloc _ _) _) _) _) _⟩
  clear q0 q1 q2 q3 q4
  rw [hY]
  clear hY
  obtain ⟨X, hX⟩ : ∃ X, (Y.alloc (.cells #[.int .i64 0] 3)).alloc (.cells #[.int .i64 128] 3) = X := ⟨_, rfl⟩
  have hXs : X.heap.size = w.heap.size + 1 + 1 + 1 + 1 + 1 + 1 + 1 := by rw [← hX]; simp [hYs]
  have hXg : Y.grownBy X none := by rw [← hX]; exact (World.grownBy_alloc _ _ _).trans (World.grownBy_alloc _ _ _)
  have c1 : X.cell? ⟨w.heap.size + 1 + 1 + 1 + 1 + 1, 0, none⟩ = some (.int .i64 0) := by
    have := (Boxed.new Y 3 (.int .i64 0)).alloc (.cells #[.int .i64 128] 3)
    rw [hX, hYs] at this
    exact this.cell
  have c2 : X.cell? ⟨w.heap.size + 1 + 1 + 1 + 1 + 1 + 1, 0, none⟩ = some (.int .i64 128) := by
    have := Boxed.new (Y.alloc (.cells #[.int .i64 0] 3)) 3 (.int .i64 128)
    rw [hX, World.size_alloc, hYs] at this
    exact this.cell
  have hXI := hYI.grown hXg (fun r e => by cases e)
  rw [hX]
  clear hX hXg hYI hYs
  have HX := Lib.hid hXI
  have hbe := hXI.be.size
  clear hXI
  gi_wp2_with fail
  refine wpIn_rangeBox hro h1 (gf := 158) (lb := #[.pointer (some ⟨w.heap.size + 1 + 1 + 1 + 1 + 1, 0, none⟩), .pointer (some ⟨w.heap.size + 1 + 1 + 1 + 1 + 1 + 1, 0, none⟩)]) rfl trivial (enters_of Tryz.func158 (by kernel_rfl) rfl)
    (numbers_seq Fence.wide (5 - 1) trivial hro (by omega) (w.heap.size + 1 + 1 + 1 + 1 + 1) (w.heap.size + 1 + 1 + 1 + 1 + 1 + 1) 0 128 (by omega) (by omega) X (by omega) (by omega) c1 c2) (fun _ => rfl)
    (fun k => k = w.heap.size + 1 + 1 + 1 ∨ k = w.heap.size + 1 + 1 + 1 + 1) ?hO (BkI w (some ⟨b, o, none⟩) c P g m first) (BkM w (some ⟨b, o, none⟩) c P g m first fun x => { tmps := #[.slice (some ⟨b, o, none⟩) P.length c, .int .i64 first,
      .pointer (some ⟨w.heap.size, 0, none⟩), .pointer (some ⟨w.heap.size + 1, 0, none⟩), .pointer (some ⟨w.heap.size + 1 + 1, 0, none⟩), .pointer (some ⟨w.heap.size + 1 + 1 + 1, 0, none⟩), .pointer (some ⟨w.heap.size + 1 + 1 + 1 + 1, 0, none⟩), .int .i64 (x : Int),
      .func (.func 158) #[] #[.pointer (some ⟨w.heap.size + 1 + 1 + 1 + 1 + 1, 0, none⟩), .pointer (some ⟨w.heap.size + 1 + 1 + 1 + 1 + 1 + 1, 0, none⟩)], .int .i64 (x : Int),
      undef, undef, undef, undef, undef, undef, undef, undef, undef, undef, undef, undef, undef, undef, undef, undef, undef, undef, undef, undef, undef, undef, undef, undef, undef, undef], defers := [] })
    (BkI.bears (by omega)) (BkM.bears (by omega)) ?start ?assign ?body ?done
  case hO =>
    rintro k (rfl | rfl)
    · exact ⟨by omega, by rintro (h | h) <;> omega⟩
    · exact ⟨by omega, by rintro (h | h) <;> omega⟩
  case start => exact ⟨fun _ => Iff.rfl, 0, p0, HP0.out, by have := tile_first HT.out.1 HP0.out; simp; omega, HX.out⟩
  case assign =>
    rintro l pre O x W hI hO hN
    simp only [encNum, Int.zero_add]
    gi_wp2
    exact ⟨World.grownBy.refl _ _, O, fun k h => .inl h, hO, hI, hN, rfl⟩
  case body =>
    rintro l pre O x a' W ⟨⟨hO, j, y, hy, hyf, hI⟩, ⟨hpre, hx⟩, hact⟩ hWs hlt
    dsimp only at hI hpre hx hact hyf
    subst hact
    subst hpre
    rw [List.length_range] at hyf hI
    have HI0 := Lib.hid hI
    have HO := Lib.hid hO
    have HY := Lib.hid hy
    clear hI hO hy
    have hx2 : (x : Int) < 128 := by omega
    have hx3 : (0 : Int) ≤ (x : Int) := by omega
    gi_wp2_with fail
    gi_loopw [] (fun wr => ∃ j y, Hid (P[j]? = some y ∧ BlI w (some ⟨b, o, none⟩) P.length c first j (outC g m first x) wr ∧ wr.heap.size = W.heap.size ∧ ∀ k, k ≠ w.heap.size + 1 + 1 + 1 + 1 → wr.heap[k]? = W.heap[k]?) ∧ y.f ≤ first + x) (fun wr => P.length - atOf wr (w.heap.size + 1 + 1 + 1 + 1))
    case atStart => exact ⟨j, y, Lib.hid ⟨HY.out, HI0.out, rfl, fun _ _ => rfl⟩, hyf⟩
    case round =>
      clear hyf HI0 HY
      obtain ⟨j, y, HI, hyf⟩ := hrel
      have hj : j < P.length := (List.getElem?_eq_some_iff.1 HI.out.1).1
      have hsz := HI.out.2.2.1
      have e0 := Boxed.cell HI.out.2.1.pcs
      have e1 := Boxed.cell HI.out.2.1.fst
      have e4 := Boxed.cell HI.out.2.1.at_
      have f4 := Boxed.frozen HI.out.2.1.at_
      obtain ⟨y', b', o', hy', e, _, _, c0, c1', c2', c3', c4'⟩ := (HL.out.later HI.out.2.1.be).pieceK hj
      injection e with e
      injection e with e e'
      subst e; subst e'
      obtain rfl : y' = y := Option.some.inj (hy'.symm.trans HI.out.1)
      clear hy' c0
      have hat : atOf wr (w.heap.size + 1 + 1 + 1 + 1) = j := by unfold atOf; rw [e4]; rfl
      have hb2 : b < wr.heap.size := Nat.lt_of_lt_of_le hb HI.out.2.1.be.size
      have hbd := tile_bd HT.out.1 (List.mem_of_getElem? HI.out.1)
      have i0 : (0 : Int) ≤ (j : Int) := by omega
      have i1 : (j : Int) < (P.length : Int) := by omega
      have i2 : (j : Int) + 1 ≤ 100001 := by omega
      have i3 : first + (x : Int) ≤ 10000128 := by omega
      have i4 : 0 ≤ first + (x : Int) := by omega
      have v1 : IntKind.i64.wrap (first + (x : Int)) = first + (x : Int) := IntWalk.i64_in _ (by omega)
      have v2 : IntKind.i64.wrap ((j : Int) + 1) = (j : Int) + 1 := IntWalk.i64_in _ (by omega)
      by_cases hgt : y'.t < first + (x : Int)
      · have d1 : decide (y'.t < first + (x : Int)) = true := decide_eq_true hgt
        by_cases hmore : j + 1 < P.length
        · have d2 : decide ((j : Int) + 1 < (P.length : Int)) = true := decide_eq_true (by omega)
          gi_upto_region 5 with fail
          refine region_round_lit l rfl (by kernel_rfl) (by kernel_rfl) (by kernel_rfl) ?_
          repeat (gi_big_quiet_step (fail))
          refine wpQuietIn_nil ?_
          rintro _ ⟨nq, rfl⟩
          gi_wp2_with fail
          go_roundw
          case rel =>
            have hnx : P[j + 1]? = some P[j + 1] := List.getElem?_eq_getElem hmore
            have hn2 := tile_next HT.out.1 HI.out.1 hnx
            refine ⟨j + 1, _, Lib.hid ⟨hnx, (HI.out.2.1.drewN nq).next (j + 1), by simpa using hsz, fun k hk => (Below.heap_setCell _ _ _ _ hk).trans (HI.out.2.2.2 k hk)⟩, by omega⟩
          case measure =>
            rw [hat]
            have := Boxed.cell ((HI.out.2.1.drewN nq).next (j + 1)).at_
            have h2 : atOf ((wr.drewN nq).setCell ⟨w.heap.size + 1 + 1 + 1 + 1, 0, none⟩ (.int .i64 ((j + 1 : Nat) : Int))) (w.heap.size + 1 + 1 + 1 + 1) = j + 1 := by unfold atOf; rw [this]; rfl
            first | (rw [h2]; omega) | (have h3 := h2; push_cast at h3; rw [h3]; omega)
        · have d2 : decide ((j : Int) + 1 < (P.length : Int)) = false := decide_eq_false (by omega)
          have hy0 := outC_len g m first x
          obtain ⟨u3, hu3⟩ := outC_at g m first x (x * 3) (by omega)
          obtain ⟨u4, hu4⟩ := outC_at g m first x (x * 3 + 1) (by omega)
          have o3 : wr.cell? ⟨w.heap.size + 1 + 1 + 1, x * 3, none⟩ = some u3 := by rw [HI.out.2.1.out.2.1 (x * 3)]; simpa using hu3
          have o4 : wr.cell? ⟨w.heap.size + 1 + 1 + 1, x * 3 + 1, none⟩ = some u4 := by rw [HI.out.2.1.out.2.1 (x * 3 + 1)]; simpa using hu4
          have f3 := HI.out.2.1.out.2.2 (x * 3)
          have f4_ := HI.out.2.1.out.2.2 (x * 3 + 1)
          obtain ⟨u5, hu5⟩ := outC_at g m first x (x * 3 + 2) (by omega)
          have o5 : wr.cell? ⟨w.heap.size + 1 + 1 + 1, x * 3 + 2, none⟩ = some u5 := by rw [HI.out.2.1.out.2.1 (x * 3 + 2)]; simpa using hu5
          have f5_ := HI.out.2.1.out.2.2 (x * 3 + 2)
          clear hu3 hu4 hu5
          have HV := Lib.hid (bval_is HT.out.1 HT.out.2 HI.out.1 hyf (.inr (by omega)))
          gi_upto_region 5 with fail
          refine region_round_lit l rfl (by kernel_rfl) (by kernel_rfl) (by kernel_rfl) ?_
          repeat (gi_big_quiet_step (fail))
          refine wpQuietIn_nil ?_
          rintro _ ⟨nq, rfl⟩
          gi_wp2_with fail
          exact blk_round HT.out.1 HI.out hyf HO.out hsz HV.out hx (fun k hk => hlt k hk) nq
      · have d1 : decide (y'.t < first + (x : Int)) = false := decide_eq_false hgt
        have hy0 := outC_len g m first x
        obtain ⟨u3, hu3⟩ := outC_at g m first x (x * 3) (by omega)
        obtain ⟨u4, hu4⟩ := outC_at g m first x (x * 3 + 1) (by omega)
        have o3 : wr.cell? ⟨w.heap.size + 1 + 1 + 1, x * 3, none⟩ = some u3 := by rw [HI.out.2.1.out.2.1 (x * 3)]; simpa using hu3
        have o4 : wr.cell? ⟨w.heap.size + 1 + 1 + 1, x * 3 + 1, none⟩ = some u4 := by rw [HI.out.2.1.out.2.1 (x * 3 + 1)]; simpa using hu4
        have f3 := HI.out.2.1.out.2.2 (x * 3)
        have f4_ := HI.out.2.1.out.2.2 (x * 3 + 1)
        obtain ⟨u5, hu5⟩ := outC_at g m first x (x * 3 + 2) (by omega)
        have o5 : wr.cell? ⟨w.heap.size + 1 + 1 + 1, x * 3 + 2, none⟩ = some u5 := by rw [HI.out.2.1.out.2.1 (x * 3 + 2)]; simpa using hu5
        have f5_ := HI.out.2.1.out.2.2 (x * 3 + 2)
        clear hu3 hu4 hu5
        have HV := Lib.hid (bval_is HT.out.1 HT.out.2 HI.out.1 hyf (.inl (by omega)))
        gi_upto_region 5 with fail
        refine region_round_lit l rfl (by kernel_rfl) (by kernel_rfl) (by kernel_rfl) ?_
        repeat (gi_big_quiet_step (fail))
        refine wpQuietIn_nil ?_
        rintro _ ⟨nq, rfl⟩
        gi_wp2_with fail
        exact blk_round HT.out.1 HI.out hyf HO.out hsz HV.out hx (fun k hk => hlt k hk) nq
  case done =>
    rintro xs O W rfl ⟨hO, j, y, _, _, hI⟩ hK hn
    gi_upto_region 8 with fail
    have hlen128 := outC_len g m first 128
    rw [List.length_range] at hI
    have r3 : W.rangeAt (w.heap.size + 1 + 1 + 1) 0 (outC g m first 128) := fun i v hv => by
      rw [Nat.zero_add, hI.out.2.1 i]
      simpa using hv
    apply wpIn_region_lit
    refine wpListIn_plain rfl fun K2 hK2 => ?_
    refine opIn_load_mid 213 (Operand.tmp 5) rfl (w.heap.size + 1 + 1 + 1) 0 rfl (outC g m first 128) _ r3 Tryz.underlying213 rfl (by rw [hlen128]; kernel_rfl) ?_
    refine hK2 _ _ ?_
    clear hK2 K2
    refine wpListIn_plain rfl fun K2 hK2 => ?_
    refine opIn_store_mid 213 (Operand.tmp 4) (Operand.tmp 35) rfl (w.heap.size + 1 + 1) 0 (outC g m first 128).toArray rfl rfl ?there (by rw [List.size_toArray, hlen128]; kernel_rfl) ?one ?_
    case there =>
      intro i hi
      rw [List.size_toArray, hlen128] at hi
      rw [Nat.zero_add]
      exact ⟨by rw [hI.res.2.1 i, Array.getElem?_eq_getElem (by have : (Tryz.zeroCells213).size = 384 := by kernel_rfl
                                                                omega)]; rfl, hI.res.2.2 i⟩
    case one => exact all_oneCell_toArray (outC_one g m first 128)
    refine hK2 _ _ ?_
    clear hK2 K2
    apply wpListIn_nil
    have hth : W.there (w.heap.size + 1 + 1) 0 (outC g m first 128).length := by
      intro i hi
      rw [hlen128] at hi
      rw [Nat.zero_add]
      exact ⟨by rw [hI.res.2.1 i, Array.getElem?_eq_getElem (by have : (Tryz.zeroCells213).size = 384 := by kernel_rfl
                                                                omega)]; rfl, hI.res.2.2 i⟩
    have r4 := W.rangeAt_setCells_same (w.heap.size + 1 + 1) 0 (outC g m first 128) hth
    have hg4 := grow_setCells (w.heap.size + 1 + 1) (outC g m first 128) 0 W
    have hK4 := (hg4.block X.heap.size (Array.getElem?_eq_some_iff.1 hK).1 (by intro e; injection e with e; omega)).trans hK
    have hb4 := hI.be.grown hg4 hI.be.size (fun k e => by cases e; omega)
    obtain ⟨V, hV⟩ : ∃ V, W.setCells (w.heap.size + 1 + 1) 0 (outC g m first 128) = V := ⟨_, rfl⟩
    rw [hV] at r4 hg4 hK4 hb4
    have hg5 := grownBy_putObj' V X.heap.size (.deferred none)
    have r5 : (V.putObj X.heap.size (.deferred none)).rangeAt (w.heap.size + 1 + 1) 0 (outC g m first 128) := fun i v hv => (World.cell?_of_block (a := ⟨w.heap.size + 1 + 1, 0 + i, none⟩) (hg5.block _ (World.block_lt_of_cell? V _ (r4 i v hv)) (by intro e; injection e with e; have e' : w.heap.size + 1 + 1 = X.heap.size := e; omega))).trans (r4 i v hv)
    gi_wp2
    rw [hV]
    refine ⟨by simp, .inl ⟨_, _, rfl, run_takeDeferred hK4, ?_⟩⟩
    refine ⟨.agg (outC g m first 128).toArray, results_cell_mid rfl _ _ (w.heap.size + 1 + 1) 0 rfl _ _ r5 Tryz.underlying213 rfl (by rw [hlen128]; kernel_rfl), by rw [outC_all], ?_⟩
    exact hb4.grown hg5 hb4.size (fun k e => by cases e; omega)
theorem block_any (A:Option Addr)(c:Nat)(P:List (Pc V3))(g:Int→V3)(lo m first:Int)(w:World)(hLi:Li 5 encP w (fun _=>True) A P)(hT:Tile lo m P)(hV:Vals g P)(hne:0<P.length)(hlen:P.length≤100000)(hcl:P.length≤c)(hf0:0≤first)(hf:lo≤first)(hm:first<m)(hm2:m≤10000000):
  Calls Tryz.prog 151 #[.slice A P.length c,.int .i64 first] w (TellsB g m first w):=
 (callsIn_wide (n:=5)).1 (block_in A c P g lo m first w hLi hT hV hne hlen hcl hf0 hf hm hm2)
end Go.Proofs.YtlopleeopnnoeaaGreat.TK
namespace Go.Proofs.YtlopleeopnnoeaaGreat.TK
open Go.RowKit Go.Maps
def cellsB (B:List V3):List Value:=flatL encV B
abbrev bv (B:List V3):Value:= .agg (cellsB B).toArray
theorem cellsB_len (B:List V3):(cellsB B).length=B.length*3:=flatL_len encV_len B
theorem cellsB_inj {A B:List V3}(h:cellsB A=cellsB B):A=B:=by
 induction A generalizing B with
 |nil=>cases B with
  |nil=>rfl
  |cons b B=>simp [cellsB,flatL,encV]at h
 |cons a A ih=>cases B with
  |nil=>simp [cellsB,flatL,encV]at h
  |cons b B=>
   have e:∀ (a:V3) (M:List V3),cellsB (a::M)= .bool a.1:: .bool a.2.1:: .bool a.2.2::cellsB M:=fun _ _=>rfl
   rw [e,e]at h
   simp only [List.cons.injEq,Value.bool.injEq]at h
   rw [ih h.2.2.2]
   congr 1
   exact Prod.ext h.1 (Prod.ext h.2.1 h.2.2.1)
theorem bv_inj {A B:List V3}(h:bv A=bv B):A=B:=by
 injection h with h
 have:=congrArg Array.toList h
 exact cellsB_inj (by simpa using this)
def WV (_:V3):Prop:=True
def WfB (B:List V3):Prop:=B.length=128∧∀x∈B,WV x
theorem laidOutP:laidOutB Tryz.prog=true:=by kernel_rfl
theorem law:Keyed Tryz.prog 213:=Keyed.of_law (deep_law_laid laidOutP (m:=3) (by omega) (of_decide_eq_true (by kernel_rfl)) (by kernel_rfl) (by rw [Tryz.underlying213]))
theorem mapM_some {α β:Type}{f:α→Option β}:∀ (l:List α),(∀i∈l,∃y,f i=some y)→∃ys,l.mapM f=some ys
 |[],_=>⟨[],rfl⟩
 |a::l,h=>by
  obtain⟨y,hy⟩:=h a (by simp)
  obtain⟨ys,hys⟩:=mapM_some l fun i hi=>h i (by simp [hi])
  exact⟨y::ys,by simp [List.mapM_cons,hy,hys]⟩
theorem flatV_part:∀ (B:List V3) (i:Nat) (h:i<B.length),((cellsB B).drop (i*3)).take 3=encV B[i]
 |[],i,h=>by simp at h
 |a::B,0,h=>rfl
 |a::B,i+1,h=>by
  have e:cellsB (a::B)= .bool a.1:: .bool a.2.1:: .bool a.2.2::cellsB B:=rfl
  rw [e,show (i+1)*3=i*3+1+1+1 by omega,List.drop_succ_cons,List.drop_succ_cons,List.drop_succ_cons,flatV_part B i (by simpa using h)]
  rfl
theorem key_in (x:V3)(h:WV x)(d:Nat):∃y,Tryz.prog.keyLits (d+1+1) 141 (encV x)=some y:=by
 have c1: Tryz.prog.cellsOf 4=1:=by kernel_rfl
 have c2: Tryz.prog.cellsOf 141=3:=by kernel_rfl
 have one:∀b:Bool,Tryz.prog.keyLits (d+1) 4 [.bool b]=some [.bool b]:=by
  intro b
  unfold Program.keyLits
  rw [Tryz.underlying4]
 unfold Program.keyLits
 rw [Tryz.underlying141]
 simp only [c1,encV,List.length_cons,List.length_nil]
 obtain⟨ys,hys⟩:=mapM_some (f:=fun i=> Tryz.prog.keyLits (d+1) 4 (([Value.bool x.1,.bool x.2.1,.bool x.2.2].drop (i*1)).take 1)) (List.range 3) (by
  intro i hi
  have hi:=List.mem_range.1 hi
  obtain rfl|rfl|rfl:i=0∨i=1∨i=2:=by omega
  ·exact⟨_,one x.1⟩
  ·exact⟨_,one x.2.1⟩
  ·exact⟨_,one x.2.2⟩)
 simp only [hys,Option.map_some,c2,Nat.zero_add,Nat.reduceAdd,if_true]
 exact⟨_,rfl⟩
set_option maxRecDepth 100000 in
theorem key_of (B:List V3)(h:WfB B):∃kl,keyOf Tryz.prog 213 (bv B)=some kl:=by
 obtain⟨h1,h2⟩:=h
 have hpos:2< Tryz.prog.types.size:=of_decide_eq_true (by kernel_rfl)
 obtain⟨d,hd⟩:∃d,Tryz.prog.types.size+1=d+1+1+1:=⟨Tryz.prog.types.size - 2,by omega⟩
 have kt: Tryz.prog.keyType 213=true:=by kernel_rfl
 have c1: Tryz.prog.cellsOf 141=3:=by kernel_rfl
 have c4: Tryz.prog.cellsOf 213=384:=by kernel_rfl
 have hl:(cellsB B).length=384:=by rw [cellsB_len,h1]
 obtain⟨ys,hys⟩:=mapM_some (f:=fun i=> Tryz.prog.keyLits (d+1+1) 141 (((cellsB B).drop (i*3)).take 3)) (List.range 128) (by
  intro i hi
  have hi:=List.mem_range.1 hi
  have hi2:i<B.length:=by omega
  have e:((cellsB B).drop (i*3)).take 3=encV B[i]:=flatV_part B i hi2
  rw [e]
  exact key_in _ (h2 _ (List.getElem_mem hi2)) d)
 unfold keyOf
 rw [Tryz.underlying213,hd]
 have hf:(bv B).formed Tryz.prog 213=true:=by
  simp only [bv,Value.formed,Tryz.underlying213,c4,List.size_toArray,hl,BEq.rfl]
 simp only [kt,hf,Bool.and_self,if_true]
 have hk: Tryz.prog.keyLits (d+1+1+1) 213 (bv B).cells.toList=some ys.flatten:=by
  unfold Program.keyLits
  rw [Tryz.underlying213]
  simp only [bv,Value.cells,c1,c4,hl,if_true,hys,Option.map_some]
 rw [hk]
 exact⟨_,rfl⟩
noncomputable abbrev el:Value→Option (DataW Unit × List MemPlace):=plainElem Tryz.prog 21
def Kn (w:World)(b n:Nat)(l:List V3→Option Nat):Prop:=∃D,w.ownsMap Tryz.prog 213 el b n D∧
 ∀B kl,keyOf Tryz.prog 213 (bv B)=some kl→D.atKey kl (.lit (.int .i32 0))= .lit (.int .i32 ((l B).getD 0:Nat))∧Maps.has D kl=(l B).isSome
def also (l:List V3→Option Nat)(B:List V3)(i:Nat):List V3→Option Nat:=fun X=>if B=X then some i else l X
theorem Kn.kept {w w':World}{b n:Nat}{l:List V3→Option Nat}{row:Option Nat}(h:Kn w b n l)(hg:w.grownBy w' row)(hne:some b≠row):Kn w' b n l:=by
 obtain⟨D,h1,h2⟩:=h
 exact⟨D,h1.kept hg hne,h2⟩
theorem Kn.lt {w:World}{b n:Nat}{l:List V3→Option Nat}(h:Kn w b n l):b<w.heap.size:=h.choose_spec.1.lt
theorem Kn.later {w w':World}{b n B:Nat}{l:List V3→Option Nat}(h:Kn w b n l)(hb:Below B w w')(hB:b<B):Kn w' b n l:=by
 obtain⟨D,⟨es,clock,hh,F,hs,hD⟩,h2⟩:=h
 exact⟨D,⟨es,clock,(hb.block _ hB).trans hh,F,hs,hD⟩,h2⟩
theorem Kn.made (w:World):Kn (w.alloc (.map #[] 0)) w.heap.size 0 (fun _=>none):=
 ⟨_,World.ownsMap_made w _ _ _,fun B kl _=>⟨rfl,rfl⟩⟩
theorem Kn.put {w:World}{b n:Nat}{l:List V3→Option Nat}{D:DataW Unit}(hown:w.ownsMap Tryz.prog 213 el b n D)(h:∀B kl,keyOf Tryz.prog 213 (bv B)=some kl→D.atKey kl (.lit (.int .i32 0))= .lit (.int .i32 ((l B).getD 0:Nat))∧Maps.has D kl=(l B).isSome)
  {w':World} {B:List V3} {i:Nat} {kl:Lit} (hk:keyOf Tryz.prog 213 (bv B)=some kl) (hown':w'.ownsMap Tryz.prog 213 el b (n+1) (D.put kl (.lit (.int .i32 i)))):Kn w' b (n+1) (also l B i):=by
 have hm:=hown.isMap
 refine⟨_,hown',fun X kx hx=> ?_⟩
 unfold also
 by_cases e:B=X
 ·subst e
  rw [hk]at hx
  cases hx
  rw [if_pos rfl,atKey_put_same hm (law.key hk),has_put_same hm (law.key hk)]
  exact⟨rfl,rfl⟩
 ·have hne:kx≠kl:=fun he=>e (bv_inj (law.inj hk (he▸hx)))
  rw [if_neg e,atKey_put_other hne,has_put_other hne]
  exact h X kx hx
theorem zeroI32 (w:World):(zeroValue 21).run Tryz.prog w= .ok (.int .i32 0) w:=by kernel_rfl
theorem Kn.look {w:World}{b n:Nat}{l:List V3→Option Nat}(h:Kn w b n l){B:List V3}(hB:WfB B):
  (Instr.lookup 210 (.map (some b)) (bv B) true).run Tryz.prog w= .ok (.tuple #[.int .i32 ((l B).getD 0:Nat),.bool (l B).isSome]) w:=by
 obtain⟨D,h2,h3⟩:=h
 obtain⟨kl,hk⟩:=key_of B hB
 obtain⟨ha,hh⟩:=h3 B kl hk
 obtain⟨u,ps,hrun,hv⟩:=h2.look_ok law Tryz.underlying210 (zeroI32 _) (plainElem_int Tryz.underlying21 (by decide)) hk
 rw [ha]at hv
 obtain⟨c,rfl,hc,_⟩:=plainElem_int_inv Tryz.underlying21 hv
 simp only [Prod.mk.injEq,DataW.lit.injEq,Lit.int.injEq,true_and]at hc
 rw [hrun,hh,←hc.1]
end Go.Proofs.YtlopleeopnnoeaaGreat.TK
namespace Go.Proofs.YtlopleeopnnoeaaGreat.TK
open Go.RowKit Go.Maps
theorem block_elt:Elt Tryz.prog 207 213 384 384:=elt_of Tryz.underlying207 (z:= .agg Tryz.zeroCells213) (by kernel_rfl) (by kernel_rfl) (by decide)
theorem id_elt:Elt Tryz.prog 22 21 1 4:=elt_of Tryz.underlying22 (z:= .int .i32 0) (by kernel_rfl) rfl (by decide)
def encN (i:Nat):List Value:=[.int .i32 i]
theorem cellsB_one (B:List V3):∀v∈cellsB B,v.oneCell'=true:=by
 intro v hv
 unfold cellsB flatL at hv
 obtain⟨i,_,hi⟩:=List.mem_flatMap.1 hv
 simp only [encV,List.mem_cons,List.mem_nil_iff,or_false]at hi
 rcases hi with rfl|rfl|rfl<;>rfl
structure LOk (l:List V3→Option Nat)(Bs:List (List V3)):Prop where
 yes:∀B i,l B=some i→Bs[i]? =some B
 no:∀B,l B=none→B ∉ Bs
 nd:Bs.Nodup
theorem LOk.nil:LOk (fun _=>none) []:=⟨fun _ _ h=>(by cases h),fun _ _=>by simp,List.nodup_nil⟩
theorem LOk.also {l:List V3→Option Nat}{Bs:List (List V3)}(h:LOk l Bs){B:List V3}(hB:l B=none):LOk (also l B Bs.length) (Bs++[B]):=by
 refine⟨fun X i hX=> ?_,fun X hX=> ?_,?_⟩
 ·unfold Go.Proofs.YtlopleeopnnoeaaGreat.TK.also at hX
  by_cases e:B=X
  ·rw [if_pos e]at hX
   cases hX
   simp [e]
  ·rw [if_neg e]at hX
   have:=h.yes X i hX
   have hl:=(List.getElem?_eq_some_iff.1 this).1
   rw [List.getElem?_append_left hl]
   exact this
 ·unfold Go.Proofs.YtlopleeopnnoeaaGreat.TK.also at hX
  by_cases e:B=X
  ·rw [if_pos e]at hX;cases hX
  ·rw [if_neg e]at hX
   have:=h.no X hX
   simp only [List.mem_append,List.mem_singleton,not_or]
   exact⟨this,fun h=>e h.symm⟩
 ·rw [List.nodup_append]
  exact⟨h.nd,by simp,fun a ha b hb e=>by simp at hb;subst hb;subst e;exact h.no _ hB ha⟩
structure Tr (base:Nat)(tb mb:Nat)(m:Int)(A:Option Addr)(n c:Nat)(Bs:List (List V3))(A2:Option Addr)(n2 c2:Nat)(Ix:List Nat)(l:List V3→Option Nat)(W:World):Prop where
 cel:Blk W tb #[.int .i64 m,.slice A n c,.slice A2 n2 c2]
 bl:W.ownsRow base 213 384 (.slice A n c) n (flatL cellsB Bs)
 wh:W.ownsRow base 21 1 (.slice A2 n2 c2) n2 (flatL encN Ix)
 kn:Kn W mb Bs.length l
 ok:LOk l Bs
 wf:∀B∈Bs,WfB B
 len:n=Bs.length
 t0:base≤tb
 m0:base≤mb
 n1:∀g,(Value.slice A n c).ownBlock=some g→g≠tb
 n2':∀g,(Value.slice A2 n2 c2).ownBlock=some g→g≠tb
def Ow (tb mb:Nat)(A:Option Addr)(n c:Nat)(A2:Option Addr)(n2 c2:Nat)(k:Nat):Prop:=k=tb∨k=mb∨(Value.slice A n c).ownBlock=some k∨(Value.slice A2 n2 c2).ownBlock=some k
theorem row_heap {w:World}{base size n:Nat}{e:TypeId}{v:Value}{xs:List Value}{g:Nat}(h:w.ownsRow base e size v n xs)(hg:v.ownBlock=some g):∃cur,w.heap[g]? =some (.cells cur e (0,0)):=by
 obtain⟨_,⟨rfl,_⟩|⟨g',cap,cur,rfl,_,hh,_⟩⟩:=h
 ·cases hg
 ·injection hg with hg
  subst hg
  exact⟨cur,hh⟩
theorem Kn.heap {w:World}{b n:Nat}{l:List V3→Option Nat}(h:Kn w b n l):∃es clock,w.heap[b]? =some (.map es clock):=by
 obtain⟨D,⟨es,clock,hh,_⟩,_⟩:=h
 exact⟨es,clock,hh⟩
section
variable {base tb mb:Nat}{m:Int}{A A2:Option Addr}{n c n2 c2:Nat}{Bs:List (List V3)}{Ix:List Nat}{l:List V3→Option Nat}{W W':World}
theorem Tr.mt (h:Tr base tb mb m A n c Bs A2 n2 c2 Ix l W):mb≠tb:=by
 rintro rfl
 obtain⟨es,clock,e⟩:=h.kn.heap
 have:=h.cel.2.1 0
 simp [World.cell?,e]at this
theorem Tr.m1 (h:Tr base tb mb m A n c Bs A2 n2 c2 Ix l W):∀g,(Value.slice A n c).ownBlock=some g→g≠mb:=by
 rintro g hg rfl
 obtain⟨es,clock,e⟩:=h.kn.heap
 obtain⟨cur,e2⟩:=row_heap h.bl hg
 rw [e]at e2;cases e2
theorem Tr.m2 (h:Tr base tb mb m A n c Bs A2 n2 c2 Ix l W):∀g,(Value.slice A2 n2 c2).ownBlock=some g→g≠mb:=by
 rintro g hg rfl
 obtain⟨es,clock,e⟩:=h.kn.heap
 obtain⟨cur,e2⟩:=row_heap h.wh hg
 rw [e]at e2;cases e2
theorem Tr.n12 (h:Tr base tb mb m A n c Bs A2 n2 c2 Ix l W):∀g,(Value.slice A n c).ownBlock=some g→(Value.slice A2 n2 c2).ownBlock≠some g:=by
 intro g hg hg2
 obtain⟨cur,e⟩:=row_heap h.bl hg
 obtain⟨cur2,e2⟩:=row_heap h.wh hg2
 rw [e]at e2
 injection e2 with e2
 injection e2 with _ e2 _
 exact absurd e2 (by decide)
theorem Tr.low (h:Tr base tb mb m A n c Bs A2 n2 c2 Ix l W):∀k,Ow tb mb A n c A2 n2 c2 k→base≤k∧k<W.heap.size:=by
 rintro k (rfl|rfl|hk|hk)
 ·exact⟨h.t0,h.cel.1⟩
 ·exact⟨h.m0,h.kn.lt⟩
 ·exact h.bl.lt k hk
 ·exact h.wh.lt k hk
theorem Tr.kept (h:Tr base tb mb m A n c Bs A2 n2 c2 Ix l W)(hs:W.heap.size≤W'.heap.size)(hk:∀k,Ow tb mb A n c A2 n2 c2 k→W'.heap[k]? =W.heap[k]?):Tr base tb mb m A n c Bs A2 n2 c2 Ix l W':=by
 refine⟨?_,?_,?_,?_,h.ok,h.wf,h.len,h.t0,h.m0,h.n1,h.n2'⟩
 ·exact Blk.same h.cel (hk tb (.inl rfl)) hs
 ·obtain⟨e1,h1|⟨g,cap,cur,e2,h2,h3,h4⟩⟩:=h.bl
  ·exact⟨e1,.inl h1⟩
  ·exact⟨e1,.inr ⟨g,cap,cur,e2,h2,(hk g (.inr (.inr (.inl (by rw [e2];rfl))))).trans h3,h4⟩⟩
 ·obtain⟨e1,h1|⟨g,cap,cur,e2,h2,h3,h4⟩⟩:=h.wh
  ·exact⟨e1,.inl h1⟩
  ·exact⟨e1,.inr ⟨g,cap,cur,e2,h2,(hk g (.inr (.inr (.inr (by rw [e2];rfl))))).trans h3,h4⟩⟩
 ·obtain⟨D,⟨es,clock,hh,F,hs,hD⟩,h2⟩:=h.kn
  exact⟨D,⟨es,clock,(hk mb (.inr (.inl rfl))).trans hh,F,hs,hD⟩,h2⟩
theorem Tr.later (h:Tr base tb mb m A n c Bs A2 n2 c2 Ix l W)(hb:Below W.heap.size W W'):Tr base tb mb m A n c Bs A2 n2 c2 Ix l W':=h.kept hb.size fun k hk=>hb.block k (h.low k hk).2
end
end Go.Proofs.YtlopleeopnnoeaaGreat.TK
namespace Go.Proofs.YtlopleeopnnoeaaGreat.TK
open Go.RowKit Go.Maps
theorem range_blk {w:World}{g:Nat}{cs:List Value}(h:Blk w g cs.toArray):w.rangeAt g 0 cs:=fun i v hv=>by
 rw [Nat.zero_add,h.2.1 i]
 simpa using hv
theorem still_load_mid {P:Program}{o:Oper}{a:Act}{w:World}{K:Act→Prop}(ty:TypeId)(x:Operand)(ho:o.op= .load ty x)
  (b off:Nat) (hx:a.eval x= .pointer (some ⟨b,off,none⟩)) (cs:List Value) (d:TypeDesc) (hc:w.rangeAt b off cs)
  (hu:P.underlying ty=some d) (hd:d.isRow=true) (hi:(P.info? ty).map (·.size)=some cs.length)
  (h:K (a.put o.dst (.agg cs.toArray))):o.still P a w K:=by
 unfold Oper.still execOp
 simp only [ho,hx,run_loadAt_mid w b off ty cs d hc hu hd hi,Sem.run_bind,Sem.run_pure,Result.andThen_ok]
 exact⟨rfl,h⟩
theorem fill_one (cs base:Array Value)(hs:base.size=cs.size)(h0:0<cs.size):Instr.fill (fun i=>some (i*cs.size,cs.size)) base [(0,.agg cs)]=some cs:=by
 obtain⟨r,h1,h2,h3⟩:=Great.fill_dense h0 [.agg cs] 0 base (by simp [Value.cells]) (by simp [hs])
 have e:([Value.agg cs].zipIdx 0).map (fun x=>(x.2,x.1))=[(0,.agg cs)]:=rfl
 rw [e]at h1
 rw [h1]
 congr 1
 apply Array.ext_getElem?
 intro k
 rw [h3 k]
 by_cases hk:k<cs.size
 ·rw [if_pos ⟨by omega,by simpa using hk⟩]
  simp [Nat.div_eq_of_lt hk,Nat.mod_eq_of_lt hk,Value.cells]
 ·rw [if_neg (by simp;omega),Array.getElem?_eq_none (by omega),Array.getElem?_eq_none (by omega)]
theorem wp_buildOne {P:Program}{o:Oper}{a:Act}{w:World}{K:Act→World→Prop}{Q:Exit→Act→World→Prop}{t e:TypeId}{size bytes:Nat}(E:Elt P t e size bytes)(x:Operand)(ho:o.op= .buildSlice t 1 #[(0,x)])
  (cs:Array Value) (hcs:cs.size=size) (hx:a.eval x= .agg cs) (hsm:size≤2 ^ 24)
  (h:K (a.put o.dst (.slice (some ⟨w.heap.size,0,none⟩) 1 1)) (w.alloc (.cells cs e))):o.wp P a w K Q:=by
 obtain⟨ht,i,z,hi,hz,hsize,hby,hzs,hsz⟩:=E
 subst hcs
 refine wp_buildSlice t e 1 #[(0,x)] ho cs i z ht hi hz (by rw [hsize];omega) (by rw [hsize];omega) ?_ h
 rw [hsize]
 have e:(#[(0,x)].map fun(i,x)=>(i,a.eval x)).toList=[(0,.agg cs)]:=by simp [hx]
 rw [e]
 exact fill_one cs _ (by simp) hsz
set_option maxHeartbeats 4000000 in
set_option maxRecDepth 100000 in
theorem intern_old {base tb mb:Nat}{m:Int}{A A2:Option Addr}{n c n2 c2:Nat}{Bs:List (List V3)}{Ix:List Nat}{l:List V3→Option Nat}{W:World}(h:Tr base tb mb m A n c Bs A2 n2 c2 Ix l W)(B:List V3)(hB:WfB B)(hn:Bs.length≤1000000)(e0:Nat)(hl:l B=some e0):
  Calls Tryz.prog 150 #[.pointer (some ⟨tb,0,none⟩),.map (some mb),bv B] W (fun e w'=>e= .returned (.int .i32 e0)∧Below W.heap.size W w'):=by
 have hlen:(cellsB B).length=384:=by rw [cellsB_len,hB.1]
 have hi:(Tryz.prog.info? 213).map (·.size)=some (cellsB B).length:=by rw [hlen];kernel_rfl
 have hone:=all_oneCell_toArray (cellsB_one B)
 have HR:=Lib.hid (range_blk (blk_new W (cellsB B).toArray 213))
 have HK:=Lib.hid (((h.kn.later (belAlloc W (.cells (cellsB B).toArray 213)) h.kn.lt).look hB))
 rw [hl]at HK
 have hk:=HK.out
 simp only [Option.getD_some,Option.isSome_some]at hk
 have HBe:=Lib.hid (belAlloc W (.cells (cellsB B).toArray 213))
 have HI:=Lib.hid hi
 clear h hl HK hi hone hlen
 go_enter Tryz.func150,Tryz.ntmps150
 go_upto_region 1 with fail
 apply wp_region_lit
 refine wpList_plain rfl fun K2 hK2=> ?_
 go_simp
 refine hK2 _ _ ?_
 clear hK2 K2
 refine wpList_load_mid rfl 213 (Operand.tmp 5) rfl W.heap.size 0 rfl (cellsB B) _ HR.out Tryz.underlying213 rfl HI.out ?_
 simp only [Act.put,List.setIfInBounds_toArray,List.set_cons_zero,List.set_cons_succ]
 go_wp2_with fail
 go_ret
 exact⟨rfl,HBe.out⟩
structure Frm (tb mb:Nat)(A:Option Addr)(n c:Nat)(A2:Option Addr)(n2 c2:Nat)(W w':World):Prop where
 os:w'.os=W.os
 tape:w'.tape=W.tape
 output:w'.output=W.output
 size:W.heap.size≤w'.heap.size
 old:∀k,k<W.heap.size→¬Ow tb mb A n c A2 n2 c2 k→w'.heap[k]? =W.heap[k]?
section
variable {base tb mb:Nat}{m:Int}{A A2:Option Addr}{c n2 c2:Nat}{Bs:List (List V3)}{Ix:List Nat}{l:List V3→Option Nat}{W:World}
theorem intern_mid {B:List V3}{w1:World}(h:Tr base tb mb m A Bs.length c Bs A2 n2 c2 Ix l W)(hx:Blk (W.alloc (.cells (cellsB B).toArray 213)) W.heap.size (cellsB B).toArray)
  (hg:(W.alloc (.cells (cellsB B).toArray 213)).grownBy w1 (some mb)) (hk:Kn w1 mb (Bs.length+1) (also l B Bs.length)):
  Blk w1 tb #[.int .i64 m,.slice A Bs.length c,.slice A2 n2 c2]∧Blk w1 W.heap.size (cellsB B).toArray∧w1.ownsRow base 213 384 (.slice A Bs.length c) Bs.length (flatL cellsB Bs)∧w1.ownsRow base 21 1 (.slice A2 n2 c2) n2 (flatL encN Ix)∧W.grownBy w1 (some mb)∧Kn w1 mb (Bs.length+1) (also l B Bs.length):=by
 have hg0:W.grownBy w1 (some mb):=(show W.grownBy (W.alloc (.cells (cellsB B).toArray 213)) (some mb)from⟨rfl,rfl,rfl,by simp,fun k hk _=>(World.grownBy_alloc W _ none).block k hk (by simp)⟩).trans hg
 have hmt:=h.mt
 refine⟨h.cel.same (hg0.block _ h.cel.1 (fun e=>by injection e with e;exact hmt e.symm)) hg0.size,hx.same (hg.block _ hx.1 (fun e=>by injection e with e;have:=h.kn.lt;omega)) hg.size,keptRow h.bl hg0 (fun g hg' e=>by injection e with e;exact h.m1 g hg' e.symm),keptRow h.wh hg0 (fun g hg' e=>by injection e with e;exact h.m2 g hg' e.symm),hg0,hk⟩
theorem intern_end {B:List V3}{w1 w3:World}{A':Option Addr}{c':Nat}(h:Tr base tb mb m A Bs.length c Bs A2 n2 c2 Ix l W)(hl:l B=none)(hB:WfB B)
  (hv:Blk w1 tb #[.int .i64 m,.slice A Bs.length c,.slice A2 n2 c2]∧Blk w1 W.heap.size (cellsB B).toArray∧w1.ownsRow base 213 384 (.slice A Bs.length c) Bs.length (flatL cellsB Bs)∧w1.ownsRow base 21 1 (.slice A2 n2 c2) n2 (flatL encN Ix)∧W.grownBy w1 (some mb)∧Kn w1 mb (Bs.length+1) (also l B Bs.length))
  (hp:Pushed w1 w3 base 213 384 (.slice A Bs.length c) (Bs.length+1) (flatL cellsB Bs++(cellsB B).toArray.toList) A' c'):
  Frm tb mb A Bs.length c A2 n2 c2 W (w3.setCell ⟨tb,1,none⟩ (.slice A' (Bs.length+1) c'))∧∃A1 c1,Tr base tb mb m A1 (Bs.length+1) c1 (Bs++[B]) A2 n2 c2 Ix (also l B Bs.length) (w3.setCell ⟨tb,1,none⟩ (.slice A' (Bs.length+1) c'))∧∀g,(Value.slice A1 (Bs.length+1) c1).ownBlock=some g→(Value.slice A Bs.length c).ownBlock=some g∨W.heap.size≤g:=by
 obtain⟨v1,v2,v3,v4,v5,v6⟩:=hv
 have hg:w1.grownBy w3 (Value.slice A Bs.length c).ownBlock:=hp.grown
 have hsz:W.heap.size≤w3.heap.size:=Nat.le_trans v5.size hg.size
 have hn1:∀g,(Value.slice A' (Bs.length+1) c').ownBlock=some g→(Value.slice A Bs.length c).ownBlock=some g∨W.heap.size≤g:=fun g e=>by
  rcases hp.at_ with e1|⟨q,e1,hq⟩
  ·exact .inl (e1▸e)
  ·rw [e1]at e
   injection e with e
   subst e
   exact .inr (Nat.le_trans v5.size hq)
 have hcl:=h.cel.1
 have hnt:∀g,(Value.slice A' (Bs.length+1) c').ownBlock=some g→g≠tb:=fun g e=>by
  rcases hn1 g e with e1|e1
  ·exact h.n1 g e1
  ·omega
 have b3:=v1.grown hg (fun e=>h.n1 tb e.symm rfl)
 have b4:=b3.set_ 1 (by simp) (.slice A' (Bs.length+1) c')
 refine⟨⟨hg.os.trans v5.os,hg.tape.trans v5.tape,hg.output.trans v5.output,by simpa using hsz,fun k hk ho=> ?_⟩,A',c',⟨by simpa using b4,?_,?_,?_,h.ok.also hl,?_,by simp,h.t0,h.m0,hnt,h.n2'⟩,hn1⟩
 ·rw [Below.heap_setCell _ _ _ _ (by show k≠tb;exact fun e=>ho (.inl e))]
  exact(hg.block k (Nat.lt_of_lt_of_le hk v5.size) (fun e=>ho (.inr (.inr (.inl e.symm))))).trans (v5.block k hk (fun e=>by injection e with e;exact ho (.inr (.inl e))))
 ·have:=keptRow hp.own (grow_set w3 tb 1 (.slice A' (Bs.length+1) c')) (fun g e e'=>by injection e' with e';exact hnt g e e'.symm)
  rw [flatL_snoc]
  simpa using this
 ·have:=keptRow v4 hg (fun g e e'=>h.n12 g e' e)
  exact keptRow this (grow_set w3 tb 1 (.slice A' (Bs.length+1) c')) (fun g e e'=>by injection e' with e';exact h.n2' g e e'.symm)
 ·have:=v6.kept hg (fun e=>h.m1 mb e.symm rfl)
  have:=this.kept (grow_set w3 tb 1 (.slice A' (Bs.length+1) c')) (fun e=>by injection e with e;exact h.mt e)
  simpa using this
 ·intro X hX
  rcases List.mem_append.1 hX with hX|hX
  ·exact h.wf X hX
  ·simp at hX;subst hX;exact hB
end
set_option maxHeartbeats 4000000 in
set_option maxRecDepth 100000 in
theorem intern_new {base tb mb:Nat}{m:Int}{A A2:Option Addr}{n c n2 c2:Nat}{Bs:List (List V3)}{Ix:List Nat}{l:List V3→Option Nat}{W:World}(h:Tr base tb mb m A n c Bs A2 n2 c2 Ix l W)(B:List V3)(hB:WfB B)(hn:Bs.length≤1000000)(hbs:base≤W.heap.size)(hl:l B=none):
  Calls Tryz.prog 150 #[.pointer (some ⟨tb,0,none⟩),.map (some mb),bv B] W (fun e w'=>e= .returned (.int .i32 n)∧Frm tb mb A n c A2 n2 c2 W w'∧∃A' c',Tr base tb mb m A' (n+1) c' (Bs++[B]) A2 n2 c2 Ix (also l B Bs.length) w'∧∀g,(Value.slice A' (n+1) c').ownBlock=some g→(Value.slice A n c).ownBlock=some g∨W.heap.size≤g):=by
 have hlen:(cellsB B).length=384:=by rw [cellsB_len,hB.1]
 have hi:(Tryz.prog.info? 213).map (·.size)=some (cellsB B).length:=by rw [hlen];kernel_rfl
 have hone:=all_oneCell_toArray (cellsB_one B)
 have HX:=Lib.hid (And.intro (h.later (belAlloc W (.cells (cellsB B).toArray 213))) (blk_new W (cellsB B).toArray 213))
 have HR:=Lib.hid (range_blk HX.out.2)
 have hk:=HX.out.1.kn.look hB
 rw [hl]at hk
 simp only [Option.getD_none,Option.isSome_none]at hk
 obtain rfl:=h.len
 obtain⟨y0,k0,j0⟩:=(show Blk _ _ _ from h.cel)
 have k1:W.cell? ⟨tb,1,none⟩=some (.slice A Bs.length c):=k0 1
 obtain⟨kl,hkl⟩:=key_of B hB
 have v1:IntKind.i32.wrap (Bs.length:Int)=(Bs.length:Int):=IntWalk.i32_in _ (by omega)
 have hwf:(Lit.int .i32 (Bs.length:Int)).wf=true:=by
  have:=wf_wrap .i32 (Bs.length:Int)
  rwa [v1]at this
 have HI:=Lib.hid hi
 have HH:=Lib.hid (And.intro h hl)
 clear h hl hi hone hlen k0
 go_enter Tryz.func150,Tryz.ntmps150
 go_upto_region 1 with fail
 apply wp_region_lit
 refine wpList_plain rfl fun K2 hK2=> ?_
 go_simp
 refine hK2 _ _ ?_
 clear hK2 K2
 refine wpList_load_mid rfl 213 (Operand.tmp 5) rfl W.heap.size 0 rfl (cellsB B) _ HR.out Tryz.underlying213 rfl HI.out ?_
 simp only [Act.put,List.setIfInBounds_toArray,List.set_cons_zero,List.set_cons_succ]
 go_upto_region 4 with fail
 apply wp_region_lit
 refine wpList_plain rfl fun K2 hK2=> ?_
 go_simp
 refine hK2 _ _ ?_
 clear hK2 K2
 refine wpList_load_mid rfl 213 (Operand.tmp 5) rfl W.heap.size 0 rfl (cellsB B) _ HR.out Tryz.underlying213 rfl HI.out ?_
 simp only [Act.put,List.setIfInBounds_toArray,List.set_cons_zero,List.set_cons_succ]
 obtain⟨D,hD1,hD2⟩:=HX.out.1.kn
 have HD:=Lib.hid (And.intro hD1 hD2)
 clear hD1 hD2
 go_wp2_with (at_mapUpdate;refine wpList_mapUpdate_own _ rfl _ _ _ 210 rfl 213 21 law Tryz.underlying210 el mb Bs.length _ rfl HD.out.1 (by unfold maxLen;omega) _ _ kl rfl rfl hkl _ [] (plainElem_int Tryz.underlying21 hwf) ?_;intro w1 hown1 hgrow1)
 have HV:=Lib.hid (intern_mid HH.out.1 HX.out.2 hgrow1 (Kn.put HD.out.1 HD.out.2 hkl hown1))
 have hs1:=HV.out.2.2.2.2.1.size
 clear hown1 hgrow1 HD hk y0 j0 k1
 obtain⟨y0,k0,j0⟩:=(show Blk _ _ _ from HV.out.1)
 have k1:w1.cell? ⟨tb,1,none⟩=some (.slice A Bs.length c):=k0 1
 clear k0
 have HRG:=Lib.hid (range_blk (HV.out.2.1.later (Below.refl _ _).drew HV.out.2.1.1))
 have HC:=Lib.hid (show (cellsB B).toArray.size=384 by rw [List.size_toArray,cellsB_len,hB.1])
 have HO:=Lib.hid (show (cellsB B).toArray.toList.all Value.oneCell'=true from by have:=all_oneCell_toArray (cellsB_one B);simpa using this)
 have hbs1:base≤w1.heap.size:=by omega
 have k2:w1.drew.cell? ⟨tb,1,none⟩=some (.slice A Bs.length c):=k1
 refine wp_region_any (by kernel_rfl) ?_
 change wpAny _ _ _ _ _ _ _ (World.drew _)
 refine wpAny_take (i:=0) (oi:=⟨some 26,.move (.tmp 0),86,"trie.go:86",#[],none⟩) (v:= ?_) rfl (by kernel_rfl) (by kernel_rfl) (by kernel_rfl) (fun _ _ _ h=>h) (Or.inl ⟨by rfl,?_⟩) ?_
 rotate_left
 ·intro Z;go_simp;try with_reducible rfl
 simp only [Act.put,List.setIfInBounds_toArray,List.set_cons_zero,List.set_cons_succ]
 refine wpAny_take (i:=1) (oi:=⟨some 27,.move (.tmp 0),86,"trie.go:86",#[],none⟩) (v:= ?_) rfl (by kernel_rfl) (by kernel_rfl) (by kernel_rfl) (fun _ _ _ h=>h) (Or.inl ⟨by rfl,?_⟩) ?_
 rotate_left
 ·intro Z;go_simp;try with_reducible rfl
 simp only [Act.put,List.setIfInBounds_toArray,List.set_cons_zero,List.set_cons_succ]
 refine wpAny_take (i:=2) (oi:=⟨some 28,.nilCheck (.tmp 27),0,"trie.go:86",#[⟨1,.data⟩],none⟩) (v:= ?_) rfl (by kernel_rfl) (by kernel_rfl) (by kernel_rfl) (fun _ _ _ h=>h) (Or.inl ⟨by rfl,?_⟩) ?_
 rotate_left
 ·intro Z;go_simp;try with_reducible rfl
 simp only [Act.put,List.setIfInBounds_toArray,List.set_cons_zero,List.set_cons_succ]
 refine wpAny_take (i:=3) (oi:=⟨some 29,.fieldAddr 209 (.tmp 28) 1,0,"trie.go:86",#[⟨2,.data⟩],none⟩) (v:= ?_) rfl (by kernel_rfl) (by kernel_rfl) (by kernel_rfl) (fun _ _ _ h=>h) (Or.inl ⟨by rfl,?_⟩) ?_
 rotate_left
 ·intro Z;go_simp;try with_reducible rfl
 simp only [Act.put,List.setIfInBounds_toArray,List.set_cons_zero,List.set_cons_succ]
 refine wpAny_ready (rs:=[4,5]) (by kernel_rfl) (by simp) ?_
 refine AllReady.cons (o:=⟨some 30,.load 207 (.tmp 29),207,"trie.go:86",#[⟨3,.data⟩],none⟩) rfl (fun K hK=> ?_) (AllReady.cons (o:=⟨some 31,.load 213 (.tmp 5),213,"trie.go:86",#[],none⟩) rfl (fun K hK=> ?_) AllReady.nil)
 ·go_simp;refine hK _ _ ?_;clear hK K
  refine wpAny_ready (rs:=[5]) (by kernel_rfl) (by simp) ?_
  refine AllReady.cons (o:=⟨some 31,.load 213 (.tmp 5),213,"trie.go:86",#[],none⟩) rfl (fun K hK=> ?_) AllReady.nil
  rw [if_pos (by rfl)];refine wp_load_mid 213 (Operand.tmp 5) rfl W.heap.size 0 rfl (cellsB B) _ HRG.out Tryz.underlying213 rfl HI.out ?_;simp only [Act.put,List.setIfInBounds_toArray,List.set_cons_zero,List.set_cons_succ];refine hK _ _ ?_;clear hK K
  refine wpAny_ready (rs:=[6]) (by kernel_rfl) (by simp) ?_
  refine AllReady.cons (o:=⟨some 32,.buildSlice 207 1 #[(0,.tmp 31)],207,"trie.go:86",#[⟨5,.data⟩],none⟩) rfl (fun K hK=> ?_) AllReady.nil
  rw [if_pos (by rfl)];refine wp_buildOne block_elt (Operand.tmp 31) rfl (cellsB B).toArray HC.out rfl (by decide) ?_;simp only [Act.put,List.setIfInBounds_toArray,List.set_cons_zero,List.set_cons_succ];refine hK _ _ ?_;clear hK K
  refine wpAny_ready (rs:=[7]) (by kernel_rfl) (by simp) ?_
  refine AllReady.cons (o:={dst:=some 33,op:=Go.Op.call {callee:=Go.Callee.builtin Go.Builtin.append,args:=#[Go.Operand.tmp 30,Go.Operand.tmp 32],argTypes:=#[207,207]},type:= 207,pos:= "trie.go:86",after:=#[⟨4,.data⟩,⟨6,.data⟩],guard:=none}) rfl (fun K hK=> ?_) AllReady.nil
  refine step_pushN block_elt HV.out.2.2.1 hbs1 rfl rfl rfl rfl rfl rfl HC.out HO.out (by unfold maxLen;omega) (by omega) ?_;intro A3 c3 w3 hp;have HE:=Lib.hid (intern_end HH.out.1 HH.out.2 hB HV.out hp);have hb3:=(show Blk w1 tb _ from HV.out.1).grown hp.grown (fun e=>HH.out.1.n1 tb e.symm rfl);have z0:=hb3.1;have z1:w3.cell? ⟨tb,1,none⟩=some (.slice A Bs.length c):=hb3.2.1 1;have z2:w3.frozen? ⟨tb,1,none⟩=false:=hb3.2.2 1;clear hp hb3 y0 k1 j0;simp only [Act.put,List.setIfInBounds_toArray,List.set_cons_zero,List.set_cons_succ];refine hK _ _ ?_;clear hK K
  refine wpAny_take (i:=8) (oi:=⟨some 34,.nilCheck (.tmp 26),0,"trie.go:86",#[⟨0,.data⟩,⟨0,.phase⟩,⟨1,.phase⟩,⟨2,.phase⟩,⟨3,.phase⟩,⟨4,.phase⟩,⟨5,.phase⟩,⟨6,.phase⟩,⟨7,.phase⟩],none⟩) (v:= ?_) rfl (by kernel_rfl) (by kernel_rfl) (by kernel_rfl) (fun _ _ _ h=>h) (Or.inl ⟨by rfl,?_⟩) ?_
  rotate_left
  ·intro Z;go_simp;try with_reducible rfl
  simp only [Act.put,List.setIfInBounds_toArray,List.set_cons_zero,List.set_cons_succ]
  refine wpAny_take (i:=9) (oi:=⟨some 35,.fieldAddr 209 (.tmp 34) 1,0,"trie.go:86",#[⟨8,.data⟩,⟨0,.phase⟩,⟨1,.phase⟩,⟨2,.phase⟩,⟨3,.phase⟩,⟨4,.phase⟩,⟨5,.phase⟩,⟨6,.phase⟩,⟨7,.phase⟩],none⟩) (v:= ?_) rfl (by kernel_rfl) (by kernel_rfl) (by kernel_rfl) (fun _ _ _ h=>h) (Or.inl ⟨by rfl,?_⟩) ?_
  rotate_left
  ·intro Z;go_simp;try with_reducible rfl
  simp only [Act.put,List.setIfInBounds_toArray,List.set_cons_zero,List.set_cons_succ]
  refine wpAny_ready (rs:=[10]) (by kernel_rfl) (by simp) ?_
  refine AllReady.cons (o:=⟨none,.store 207 (.tmp 35) (.tmp 33),0,"trie.go:86",#[⟨9,.data⟩,⟨7,.data⟩,⟨7,.chain⟩,⟨0,.phase⟩,⟨1,.phase⟩,⟨2,.phase⟩,⟨3,.phase⟩,⟨4,.phase⟩,⟨5,.phase⟩,⟨6,.phase⟩,⟨7,.phase⟩],none⟩) rfl (fun K hK=> ?_) AllReady.nil
  go_simp;refine hK _ _ ?_;clear hK K
  refine wpAny_done (by kernel_rfl) ?_ _
  go_wp2;go_ret;exact⟨rfl,HE.out⟩
 ·rw [if_pos (by rfl)];refine wp_load_mid 213 (Operand.tmp 5) rfl W.heap.size 0 rfl (cellsB B) _ HRG.out Tryz.underlying213 rfl HI.out ?_;simp only [Act.put,List.setIfInBounds_toArray,List.set_cons_zero,List.set_cons_succ];refine hK _ _ ?_;clear hK K
  refine wpAny_ready (rs:=[4,6]) (by kernel_rfl) (by simp) ?_
  refine AllReady.cons (o:=⟨some 30,.load 207 (.tmp 29),207,"trie.go:86",#[⟨3,.data⟩],none⟩) rfl (fun K hK=> ?_) (AllReady.cons (o:=⟨some 32,.buildSlice 207 1 #[(0,.tmp 31)],207,"trie.go:86",#[⟨5,.data⟩],none⟩) rfl (fun K hK=> ?_) AllReady.nil)
  ·go_simp;refine hK _ _ ?_;clear hK K
   refine wpAny_ready (rs:=[6]) (by kernel_rfl) (by simp) ?_
   refine AllReady.cons (o:=⟨some 32,.buildSlice 207 1 #[(0,.tmp 31)],207,"trie.go:86",#[⟨5,.data⟩],none⟩) rfl (fun K hK=> ?_) AllReady.nil
   rw [if_pos (by rfl)];refine wp_buildOne block_elt (Operand.tmp 31) rfl (cellsB B).toArray HC.out rfl (by decide) ?_;simp only [Act.put,List.setIfInBounds_toArray,List.set_cons_zero,List.set_cons_succ];refine hK _ _ ?_;clear hK K
   refine wpAny_ready (rs:=[7]) (by kernel_rfl) (by simp) ?_
   refine AllReady.cons (o:={dst:=some 33,op:=Go.Op.call {callee:=Go.Callee.builtin Go.Builtin.append,args:=#[Go.Operand.tmp 30,Go.Operand.tmp 32],argTypes:=#[207,207]},type:= 207,pos:= "trie.go:86",after:=#[⟨4,.data⟩,⟨6,.data⟩],guard:=none}) rfl (fun K hK=> ?_) AllReady.nil
   refine step_pushN block_elt HV.out.2.2.1 hbs1 rfl rfl rfl rfl rfl rfl HC.out HO.out (by unfold maxLen;omega) (by omega) ?_;intro A3 c3 w3 hp;have HE:=Lib.hid (intern_end HH.out.1 HH.out.2 hB HV.out hp);have hb3:=(show Blk w1 tb _ from HV.out.1).grown hp.grown (fun e=>HH.out.1.n1 tb e.symm rfl);have z0:=hb3.1;have z1:w3.cell? ⟨tb,1,none⟩=some (.slice A Bs.length c):=hb3.2.1 1;have z2:w3.frozen? ⟨tb,1,none⟩=false:=hb3.2.2 1;clear hp hb3 y0 k1 j0;simp only [Act.put,List.setIfInBounds_toArray,List.set_cons_zero,List.set_cons_succ];refine hK _ _ ?_;clear hK K
   refine wpAny_take (i:=8) (oi:=⟨some 34,.nilCheck (.tmp 26),0,"trie.go:86",#[⟨0,.data⟩,⟨0,.phase⟩,⟨1,.phase⟩,⟨2,.phase⟩,⟨3,.phase⟩,⟨4,.phase⟩,⟨5,.phase⟩,⟨6,.phase⟩,⟨7,.phase⟩],none⟩) (v:= ?_) rfl (by kernel_rfl) (by kernel_rfl) (by kernel_rfl) (fun _ _ _ h=>h) (Or.inl ⟨by rfl,?_⟩) ?_
   rotate_left
   ·intro Z;go_simp;try with_reducible rfl
   simp only [Act.put,List.setIfInBounds_toArray,List.set_cons_zero,List.set_cons_succ]
   refine wpAny_take (i:=9) (oi:=⟨some 35,.fieldAddr 209 (.tmp 34) 1,0,"trie.go:86",#[⟨8,.data⟩,⟨0,.phase⟩,⟨1,.phase⟩,⟨2,.phase⟩,⟨3,.phase⟩,⟨4,.phase⟩,⟨5,.phase⟩,⟨6,.phase⟩,⟨7,.phase⟩],none⟩) (v:= ?_) rfl (by kernel_rfl) (by kernel_rfl) (by kernel_rfl) (fun _ _ _ h=>h) (Or.inl ⟨by rfl,?_⟩) ?_
   rotate_left
   ·intro Z;go_simp;try with_reducible rfl
   simp only [Act.put,List.setIfInBounds_toArray,List.set_cons_zero,List.set_cons_succ]
   refine wpAny_ready (rs:=[10]) (by kernel_rfl) (by simp) ?_
   refine AllReady.cons (o:=⟨none,.store 207 (.tmp 35) (.tmp 33),0,"trie.go:86",#[⟨9,.data⟩,⟨7,.data⟩,⟨7,.chain⟩,⟨0,.phase⟩,⟨1,.phase⟩,⟨2,.phase⟩,⟨3,.phase⟩,⟨4,.phase⟩,⟨5,.phase⟩,⟨6,.phase⟩,⟨7,.phase⟩],none⟩) rfl (fun K hK=> ?_) AllReady.nil
   go_simp;refine hK _ _ ?_;clear hK K
   refine wpAny_done (by kernel_rfl) ?_ _
   go_wp2;go_ret;exact⟨rfl,HE.out⟩
  ·rw [if_pos (by rfl)];refine wp_buildOne block_elt (Operand.tmp 31) rfl (cellsB B).toArray HC.out rfl (by decide) ?_;simp only [Act.put,List.setIfInBounds_toArray,List.set_cons_zero,List.set_cons_succ];refine hK _ _ ?_;clear hK K
   refine wpAny_ready (rs:=[4]) (by kernel_rfl) (by simp) ?_
   refine AllReady.cons (o:=⟨some 30,.load 207 (.tmp 29),207,"trie.go:86",#[⟨3,.data⟩],none⟩) rfl (fun K hK=> ?_) AllReady.nil
   go_simp;refine hK _ _ ?_;clear hK K
   refine wpAny_ready (rs:=[7]) (by kernel_rfl) (by simp) ?_
   refine AllReady.cons (o:={dst:=some 33,op:=Go.Op.call {callee:=Go.Callee.builtin Go.Builtin.append,args:=#[Go.Operand.tmp 30,Go.Operand.tmp 32],argTypes:=#[207,207]},type:= 207,pos:= "trie.go:86",after:=#[⟨4,.data⟩,⟨6,.data⟩],guard:=none}) rfl (fun K hK=> ?_) AllReady.nil
   refine step_pushN block_elt HV.out.2.2.1 hbs1 rfl rfl rfl rfl rfl rfl HC.out HO.out (by unfold maxLen;omega) (by omega) ?_;intro A3 c3 w3 hp;have HE:=Lib.hid (intern_end HH.out.1 HH.out.2 hB HV.out hp);have hb3:=(show Blk w1 tb _ from HV.out.1).grown hp.grown (fun e=>HH.out.1.n1 tb e.symm rfl);have z0:=hb3.1;have z1:w3.cell? ⟨tb,1,none⟩=some (.slice A Bs.length c):=hb3.2.1 1;have z2:w3.frozen? ⟨tb,1,none⟩=false:=hb3.2.2 1;clear hp hb3 y0 k1 j0;simp only [Act.put,List.setIfInBounds_toArray,List.set_cons_zero,List.set_cons_succ];refine hK _ _ ?_;clear hK K
   refine wpAny_take (i:=8) (oi:=⟨some 34,.nilCheck (.tmp 26),0,"trie.go:86",#[⟨0,.data⟩,⟨0,.phase⟩,⟨1,.phase⟩,⟨2,.phase⟩,⟨3,.phase⟩,⟨4,.phase⟩,⟨5,.phase⟩,⟨6,.phase⟩,⟨7,.phase⟩],none⟩) (v:= ?_) rfl (by kernel_rfl) (by kernel_rfl) (by kernel_rfl) (fun _ _ _ h=>h) (Or.inl ⟨by rfl,?_⟩) ?_
   rotate_left
   ·intro Z;go_simp;try with_reducible rfl
   simp only [Act.put,List.setIfInBounds_toArray,List.set_cons_zero,List.set_cons_succ]
   refine wpAny_take (i:=9) (oi:=⟨some 35,.fieldAddr 209 (.tmp 34) 1,0,"trie.go:86",#[⟨8,.data⟩,⟨0,.phase⟩,⟨1,.phase⟩,⟨2,.phase⟩,⟨3,.phase⟩,⟨4,.phase⟩,⟨5,.phase⟩,⟨6,.phase⟩,⟨7,.phase⟩],none⟩) (v:= ?_) rfl (by kernel_rfl) (by kernel_rfl) (by kernel_rfl) (fun _ _ _ h=>h) (Or.inl ⟨by rfl,?_⟩) ?_
   rotate_left
   ·intro Z;go_simp;try with_reducible rfl
   simp only [Act.put,List.setIfInBounds_toArray,List.set_cons_zero,List.set_cons_succ]
   refine wpAny_ready (rs:=[10]) (by kernel_rfl) (by simp) ?_
   refine AllReady.cons (o:=⟨none,.store 207 (.tmp 35) (.tmp 33),0,"trie.go:86",#[⟨9,.data⟩,⟨7,.data⟩,⟨7,.chain⟩,⟨0,.phase⟩,⟨1,.phase⟩,⟨2,.phase⟩,⟨3,.phase⟩,⟨4,.phase⟩,⟨5,.phase⟩,⟨6,.phase⟩,⟨7,.phase⟩],none⟩) rfl (fun K hK=> ?_) AllReady.nil
   go_simp;refine hK _ _ ?_;clear hK K
   refine wpAny_done (by kernel_rfl) ?_ _
   go_wp2;go_ret;exact⟨rfl,HE.out⟩
end Go.Proofs.YtlopleeopnnoeaaGreat.TK
namespace Go.Proofs.YtlopleeopnnoeaaGreat.TK
open Go.RowKit Go.Maps
structure Hd where
 A:Option Addr
 n:Nat
 c:Nat
 A2:Option Addr
 n2:Nat
 c2:Nat
abbrev TrH (base tb mb:Nat)(m:Int)(h:Hd)(Bs:List (List V3))(Ix:List Nat)(l:List V3→Option Nat)(W:World):Prop:=Tr base tb mb m h.A h.n h.c Bs h.A2 h.n2 h.c2 Ix l W
abbrev OwH (tb mb:Nat)(h:Hd)(k:Nat):Prop:=Ow tb mb h.A h.n h.c h.A2 h.n2 h.c2 k
structure Turn (O:Nat→Prop)(W w':World):Prop where
 os:w'.os=W.os
 tape:w'.tape=W.tape
 output:w'.output=W.output
 size:W.heap.size≤w'.heap.size
 old:∀k,k<W.heap.size→¬O k→w'.heap[k]? =W.heap[k]?
theorem Turn.later {O:Nat→Prop}{W w1 w2:World}(hO:∀k,O k→k<W.heap.size)(hb:Below W.heap.size W w1)(h:Turn O w1 w2):Turn O W w2:=
 ⟨h.os.trans hb.os,h.tape.trans hb.tape,h.output.trans hb.output,Nat.le_trans hb.size h.size,fun k hk ho=>(h.old k (Nat.lt_of_lt_of_le hk hb.size) ho).trans (hb.block k hk)⟩
def Interned (base tb mb:Nat)(m:Int)(h:Hd)(Bs:List (List V3))(Ix:List Nat)(B:List V3)(W:World)(e:Ending)(w':World):Prop:=
 ∃ (i:Nat) (h':Hd) (Bs':List (List V3)) (l':List V3→Option Nat),e= .returned (.int .i32 i)∧TrH base tb mb m h' Bs' Ix l' w'∧Bs'[i]? =some B∧(Bs'=Bs∨Bs'=Bs++[B])∧Turn (OwH tb mb h) W w'∧(∀k,OwH tb mb h' k→OwH tb mb h k∨W.heap.size≤k)∧h'.A2=h.A2∧h'.n2=h.n2∧h'.c2=h.c2
theorem intern_any {base tb mb:Nat}{m:Int}{hd:Hd}{Bs:List (List V3)}{Ix:List Nat}{l:List V3→Option Nat}{W:World}(h:TrH base tb mb m hd Bs Ix l W)(B:List V3)(hB:WfB B)(hn:Bs.length≤1000000):
  Calls Tryz.prog 150 #[.pointer (some ⟨tb,0,none⟩),.map (some mb),bv B] W (Interned base tb mb m hd Bs Ix B W):=by
 cases hl:l B with
 |some e0=>
  refine(intern_old h B hB hn e0 hl).mono ?_
  rintro e w' ⟨rfl,hb⟩
  exact⟨e0,hd,Bs,l,rfl,h.later hb,h.ok.yes _ _ hl,.inl rfl,⟨hb.os,hb.tape,hb.output,hb.size,fun k hk _=>hb.block k hk⟩,fun k hk=> .inl hk,rfl,rfl,rfl⟩
 |none=>
  have hbs:base≤W.heap.size:=Nat.le_trans h.t0 (Nat.le_of_lt h.cel.1)
  refine(intern_new h B hB hn hbs hl).mono ?_
  rintro e w' ⟨rfl,hf,A',c',ht,hA⟩
  refine⟨hd.n,⟨A',hd.n+1,c',hd.A2,hd.n2,hd.c2⟩,Bs++[B],_,rfl,ht,?_,.inr rfl,⟨hf.os,hf.tape,hf.output,hf.size,hf.old⟩,?_,rfl,rfl,rfl⟩
  ·rw [h.len];simp
  ·rintro k (hk|hk|hk|hk)
   ·exact .inl (.inl hk)
   ·exact .inl (.inr (.inl hk))
   ·rcases hA k hk with h'|h'
    ·exact .inl (.inr (.inr (.inl h')))
    ·exact .inr h'
   ·exact .inl (.inr (.inr (.inr hk)))
section
variable {P:Program}{md:Region.Mode}{ops:Array Oper}{Q:Exit→Act→World→Prop}
theorem wpOp_some {K:Act→World→Prop}{i:Nat}{o:Oper}{a:Act}{w:World}(hi:ops[i]? =some o)(hw:Region.wanted o (yielded ops a.tmps)=true)(h:∀J:Act→World→Prop,(∀a w,K a w→J a w)→o.wp P a w J Q):wpOp P ops Q i K a w:=by
 unfold wpOp
 simp only [hi,hw,if_true]
 exact .inl (h K fun _ _ h=>h)
theorem rowsIn_of {n:Nat}{row:String}{args:Array Value}{w:World}{R:Value→World→Prop}(h:Rows P row args w R):RowsIn Fence.wide n P row args w R:=fun c cs _=>
 let ⟨v,w',r,s⟩:=h c cs
 ⟨v,w',r,stepsIn_wide.2 s⟩
theorem operIn_of {n:Nat}{o:Oper}{a:Act}{w:World}{K:Act→World→Prop}(h:o.wp P a w K Q):o.wpIn Fence.wide n P a w K Q:=by
 refine⟨fun _ _=>trivial,?_⟩
 have e:Oper.semAt Fence.wide.round a.eval o=execOp a.eval o:=rfl
 rw [e]
 unfold Oper.wp at h
 revert h
 generalize (execOp a.eval o).run P w=r
 intro h
 unfold Oper.upon at h
 unfold Oper.uponIn
 split at h
 ·exact h
 ·exact h
 ·exact h
 ·exact⟨fun h=>by simp [Fence.wide]at h,callsIn_wide.2 h⟩
 ·exact⟨fun h=>by simp [Fence.wide]at h,rowsIn_of h⟩
 ·exact h
 ·exact h.elim
theorem anyIn_of {n:Nat}(hno:¬LetsOut Q):∀ (fuel:Nat) (listed:Array Bool) (a:Act) (w:World),wpAny P md ops Q fuel listed a w→wpAnyIn Fence.wide n P md ops Q fuel listed a w
 |0,_,_,_,h=>h
 |fuel+1,listed,a,w,h=>by
  refine⟨h.1,fun i hi=> ?_⟩
  have hx:=h.2 i hi
  unfold wpOp at hx
  unfold wpOpIn
  cases ho:ops[i]? with
  |none=>
   rw [ho]at hx
   exact anyIn_of hno fuel _ _ _ hx
  |some o=>
   rw [ho]at hx
   dsimp only at hx ⊢
   by_cases hw:Region.wanted o (yielded ops a.tmps)=true
   ·rw [if_pos hw]at hx ⊢
    rcases hx with hx|hx
    ·exact Oper.wpIn_mono (fun a w h=>anyIn_of hno fuel _ a w h) (operIn_of hx)
    ·exact absurd hx.2 hno
   ·rw [if_neg hw]at hx ⊢
    exact⟨fun _ _=>trivial,anyIn_of hno fuel _ _ _ hx⟩
end
end Go.Proofs.YtlopleeopnnoeaaGreat.TK
