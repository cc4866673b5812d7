import Derived.Test.YtlopleeopnnoeaaGreatMb01
import Derived.Handy
import Derived.RegionTactic
import Derived.BigRegion
set_option linter.unusedVariables false
set_option linter.unusedSimpArgs false
namespace Go.Proofs.YtlopleeopnnoeaaGreat
open Go.RowKit
def iv (p:Nat→Int)(j:Nat):Value:= .int .i32 (p j)
set_option maxHeartbeats 400000 in
theorem same_no (A B:Option Addr)(n m c d:Nat)(w:World)(hn:n≤9223372036854775807)(hm:m≤9223372036854775807)(hne:n≠m):
  Calls Tryz.prog 41 #[.slice A n c,.slice B m d] w fun e w'=>e= .returned (.bool false)∧w=w':=by
 have h1:(((n:Int)==(m:Int)))=false:=by simp;omega
 have h2:(((n:Int) != (m:Int)))=true:=by simp;omega
 go_enter Tryz.func41,Tryz.ntmps41
 go_wp2
 go_ret
 exact⟨rfl,rfl⟩
set_option maxHeartbeats 400000 in
theorem same_yes (A B:Option Addr)(n c d:Nat)(p:Nat→Int)(w:World)(hn:n≤9223372036854775807)(hA:Rd w A n (iv p))(hB:Rd w B n (iv p)):
  Calls Tryz.prog 41 #[.slice A n c,.slice B n d] w fun e w'=>e= .returned (.bool true)∧∃k,w'=w.drewN k:=by
 have h1:(((n:Int)==(n:Int)))=true:=by simp
 have h2:(((n:Int) != (n:Int)))=false:=by simp
 go_enter Tryz.func41,Tryz.ntmps41
 go_wp2
 go_loopw [5] (fun i wr=>∃k:Nat,k≤n∧i= .int .i64 k∧∃q,wr=w.drewN q) (fun i _=>n -(intOf i).toNat)
 case atStart=>exact⟨0,Nat.zero_le _,rfl,0,rfl⟩
 case round=>
  obtain⟨k,hk,rfl,q,rfl⟩:=hrel
  by_cases hlt:k<n
  ·obtain⟨a,i,rfl,_,ha⟩:=hA k hlt
   obtain⟨b,j,rfl,_,hb⟩:=hB k hlt
   have h3:((p k==p k))=true:=by simp
   have h4:((p k != p k))=false:=by simp
   unfold iv at ha hb
   clear hA hB
   go_wp2
   go_quiet (fail)
   go_wp2
   go_roundw
   case rel=>exact⟨k+1,by omega,by go_num,_,rfl⟩
   case measure=>simp [intOf];omega
  ·go_wp2
   go_ret
   exact⟨rfl,_,rfl⟩
def rowN (b:Int):Int:=if b<128 then 1 else if b<194∨244<b then 0 else if b<224 then 2 else if b<240 then 3 else 4
def rowLo (b:Int):Int:=if b<194∨244<b then 0 else if b=224 then 160 else if b=240 then 144 else 128
def rowHi (b:Int):Int:=if b<194∨244<b then 0 else if b=237 then 159 else if b=244 then 143 else 191
theorem row_case (b:Int)(h0:0≤b)(h1:b≤255):b<128∨(128≤b∧b<194)∨(244<b)∨(194≤b∧b<224)∨b=224∨b=237∨(225≤b∧b<237)∨(238≤b∧b<240)∨b=240∨b=244∨(241≤b∧b<244):=by omega
def RowIs (b:Int):Prop:=∀w,Calls Tryz.prog 167 #[.int .u8 b] w fun e w'=>e= .returned (.tuple #[.int .i64 (rowN b),.int .u8 (rowLo b),.int .u8 (rowHi b)])∧w=w'
theorem row_low (b:Int)(h0:0≤b)(h1:b<128):RowIs b:=by
 intro w
 have E:=Lib.hid (show rowN b=1∧rowLo b=0∧rowHi b=0 by simp [rowN,rowLo,rowHi];omega)
 go_enter Tryz.func167,Tryz.ntmps167
 go_wp2
 go_ret3
 rw [E.out.1,E.out.2.1,E.out.2.2]
 exact⟨rfl,rfl⟩
theorem row_none (b:Int)(x1 x2:Bool)(d0:decide (b<128)=false)(d1:decide (b<194)=x1)(d2:decide (244<b)=x2)(hx:(x1||x2)=true):RowIs b:=by
 intro w
 have E:=Lib.hid (show rowN b=0∧rowLo b=0∧rowHi b=0 by
  have:b<194∨244<b:=by
   rcases x1 with _|_
   ·right;simpa [←d2]using hx
   ·left;simpa using d1
  have:¬b<128:=by simpa using d0
  simp [rowN,rowLo,rowHi];omega)
 cases x1<;>cases x2
 case false.false=>cases hx
 all_goals
  clear hx
  go_enter Tryz.func167,Tryz.ntmps167
  go_wp2
  go_ret3
  rw [E.out.1,E.out.2.1,E.out.2.2]
  exact⟨rfl,rfl⟩
theorem row_some (b n lo hi:Int)(h0:194≤b)(h1:b≤244)(x1 x2 x3 x4 x5 x6:Bool)(e0:decide (b<128)=false)(e1:decide (b<194)=false)(e2:decide (244<b)=false)
  (d1:decide (b<224)=x1) (d2:(b==224)=x2) (d3:(b==237)=x3) (d4:decide (b<240)=x4) (d5:(b==240)=x5) (d6:(b==244)=x6)
  (hn:n=bif x1 then 2 else bif x4 then 3 else 4) (hlo:lo=bif x1 then 128 else bif x2 then 160 else bif x5 then 144 else 128) (hhi:hi=bif x1 then 191 else bif x3 then 159 else bif x6 then 143 else 191)
  (hr:rowN b=n∧rowLo b=lo∧rowHi b=hi) (hc:(x1&&(x2||x3||x5||x6))=false∧(x2&& !x4)=false∧(x3&& !x4)=false∧(x1&& !x4)=false∧(x2&&(x3||x5||x6))=false∧(x3&&(x5||x6))=false∧(x5&&(x6||x4))=false∧(x6&&x4)=false):RowIs b:=by
 intro w
 have E:=Lib.hid hr
 clear hr
 cases x1<;>cases x2<;>cases x3<;>cases x4<;>cases x5<;>cases x6<;>simp at hc<;>simp at hn hlo hhi<;>subst hn<;>subst hlo<;>subst hhi
 all_goals
  go_enter Tryz.func167,Tryz.ntmps167
  go_wp2
  go_ret3
  rw [E.out.1,E.out.2.1,E.out.2.2]
  exact⟨rfl,rfl⟩
theorem row_any (b:Int)(h0:0≤b)(h1:b≤255):RowIs b:=by
 by_cases h2:b<128
 ·exact row_low b h0 h2
 ·by_cases h3:b<194∨244<b
  ·exact row_none b _ _ (decide_eq_false h2) rfl rfl (by simpa using h3)
  ·have h4:194≤b∧b≤244:=by omega
   refine row_some b _ _ _ h4.1 h4.2 _ _ _ _ _ _ (decide_eq_false h2) (decide_eq_false (by omega)) (decide_eq_false (by omega)) rfl rfl rfl rfl rfl rfl rfl rfl rfl ?_ ?_
   ·refine⟨?_,?_,?_⟩
    ·simp only [rowN,if_neg h2,if_neg h3,Bool.cond_decide]
    ·simp only [rowLo,if_neg h3]
     by_cases a:b=224
     ·simp [a]
     ·by_cases c:b=240
      ·simp [c]
      ·simp [beq_eq_false_iff_ne.2 a,beq_eq_false_iff_ne.2 c,a,c]
    ·simp only [rowHi,if_neg h3]
     by_cases a:b=237
     ·simp [a]
     ·by_cases c:b=244
      ·simp [c]
      ·simp [beq_eq_false_iff_ne.2 a,beq_eq_false_iff_ne.2 c,a,c]
   ·refine⟨?_,?_,?_,?_,?_,?_,?_,?_⟩<;>rw [Bool.eq_false_iff]<;>simp<;>omega
abbrev dcd (h0 h1 h2 n:Int):Value:= .agg #[.int .u8 h0,.int .u8 h1,.int .u8 h2,.int .i64 n]
def Begun (d:Value)(r:Int)(t:Bool)(w:World)(e:Ending)(w':World):Prop:=e= .returned (.tuple #[d,.int .i32 r,.bool t])∧Below w.heap.size w w'
set_option maxHeartbeats 400000 in
theorem begin_none (b:Int)(w:World)(h0:0≤b)(h1:b≤255)(hn:rowN b=0):Calls Tryz.prog 169 #[.int .u8 b] w (Begun (dcd 0 0 0 0) 65533 true w):=by
 have H:=Lib.hid (row_any b h0 h1)
 have E1:(rowN b==0)=true:=by simp [hn]
 clear hn
 go_enter Tryz.func169,Tryz.ntmps169
 go_wp2_with (go_at_call 167;refine(H.out _).mono ?_;rintro e w' ⟨rfl,rfl⟩)
 exact bodyPost_ret (v:= .tuple #[dcd 0 0 0 0,.int .i32 65533,.bool true]) (by simp [results,Tryz.results169,go_sem]) rfl ⟨rfl,(Below.refl _ _).alloc (Nat.le_refl _) _⟩
set_option maxHeartbeats 400000 in
theorem begin_one (b:Int)(w:World)(h0:0≤b)(h1:b≤255)(hn:rowN b=1):Calls Tryz.prog 169 #[.int .u8 b] w (Begun (dcd 0 0 0 0) b true w):=by
 have H:=Lib.hid (row_any b h0 h1)
 have E1:(rowN b==0)=false:=by simp [hn]
 have E2:(rowN b==1)=true:=by simp [hn]
 clear hn
 go_enter Tryz.func169,Tryz.ntmps169
 go_wp2_with (go_at_call 167;refine(H.out _).mono ?_;rintro e w' ⟨rfl,rfl⟩)
 exact bodyPost_ret (v:= .tuple #[dcd 0 0 0 0,.int .i32 b,.bool true]) (by simp [results,Tryz.results169,go_sem]) rfl ⟨rfl,(Below.refl _ _).alloc (Nat.le_refl _) _⟩
set_option maxHeartbeats 400000 in
theorem begin_more (b:Int)(w:World)(h0:0≤b)(h1:b≤255)(hn:1<rowN b):Calls Tryz.prog 169 #[.int .u8 b] w (Begun (dcd b 0 0 1) 0 false w):=by
 have H:=Lib.hid (row_any b h0 h1)
 have E1:(rowN b==0)=false:=by simp;omega
 have E2:(rowN b==1)=false:=by simp;omega
 clear hn
 go_enter Tryz.func169,Tryz.ntmps169
 go_wp2_with (go_at_call 167;refine(H.out _).mono ?_;rintro e w' ⟨rfl,rfl⟩)
 exact bodyPost_ret (v:= .tuple #[dcd b 0 0 1,.int .i32 0,.bool false]) (by simp [results,Tryz.results169,go_sem]) rfl ⟨rfl,((Below.refl _ _).alloc (Nat.le_refl _) _)⟩
def leadOf (n:Int):Int:=if n=2 then 192 else if n=3 then 224 else 240
theorem lead_any (n:Int)(w:World)(h0:0≤n)(h1:n≤4):Calls Tryz.prog 170 #[.int .i64 n] w fun e w'=>e= .returned (.int .u8 (leadOf n))∧w=w':=by
 by_cases h2:n=2
 ·subst h2
  go_enter Tryz.func170,Tryz.ntmps170
  go_wp2
  go_ret
  exact⟨rfl,rfl⟩
 ·by_cases h3:n=3
  ·subst h3
   go_enter Tryz.func170,Tryz.ntmps170
   go_wp2
   go_ret
   exact⟨rfl,rfl⟩
  ·have E:=Lib.hid (show leadOf n=240 by simp [leadOf,h2,h3])
   have d2:(n==2)=false:=by simp [h2]
   have d3:(n==3)=false:=by simp [h3]
   clear h2 h3
   go_enter Tryz.func170,Tryz.ntmps170
   go_wp2
   go_ret
   rw [E.out]
   exact⟨rfl,rfl⟩
def goes (h n b:Int):Bool:=if 1<n then decide (128≤b)&&decide (b≤191)else decide (rowLo h≤b)&&decide (b≤rowHi h)
set_option maxHeartbeats 400000 in
theorem goes_any (h0 h1 h2 n b:Int)(w:World)(g0:0≤h0)(g1:h0≤255)(n0:0≤n)(n1:n≤3):Calls Tryz.prog 166 #[dcd h0 h1 h2 n,.int .u8 b] w fun e w'=>e= .returned (.bool (goes h0 n b))∧Below w.heap.size w w':=by
 have H:=Lib.hid (row_any h0 g0 g1)
 have one (x y:Bool) (d:decide (1<n)=true) (e1:decide (128≤b)=x) (e2:decide (b≤191)=y):Calls Tryz.prog 166 #[dcd h0 h1 h2 n,.int .u8 b] w fun e w'=>e= .returned (.bool (x&&y))∧Below w.heap.size w w':=by
  cases x<;>cases y
  all_goals
   go_enter Tryz.func166,Tryz.ntmps166
   go_wp2_with (go_at_call 167;refine(H.out _).mono ?_;rintro e w' ⟨rfl,rfl⟩)
   go_ret
   exact⟨rfl,(Below.refl _ _).alloc (Nat.le_refl _) _⟩
 have two (x y:Bool) (d:decide (1<n)=false) (e1:decide (rowLo h0≤b)=x) (e2:decide (b≤rowHi h0)=y):Calls Tryz.prog 166 #[dcd h0 h1 h2 n,.int .u8 b] w fun e w'=>e= .returned (.bool (x&&y))∧Below w.heap.size w w':=by
  cases x<;>cases y
  all_goals
   go_enter Tryz.func166,Tryz.ntmps166
   go_wp2_with (go_at_call 167;refine(H.out _).mono ?_;rintro e w' ⟨rfl,rfl⟩)
   go_ret
   exact⟨rfl,(Below.refl _ _).alloc (Nat.le_refl _) _⟩
 unfold goes
 by_cases hn:1<n
 ·rw [if_pos hn]
  exact one _ _ (decide_eq_true hn) rfl rfl
 ·rw [if_neg hn]
  exact two _ _ (decide_eq_false hn) rfl rfl
theorem ofInt_i32 (a:Nat)(h:a<2147483648):BitVec.ofInt 32 (a:Int)=BitVec.ofNat 32 a:=by
 apply BitVec.eq_of_toNat_eq
 simp [BitVec.toNat_ofInt]
theorem or_i32 (x y:Nat)(hy:y<64)(hx:64*x+y<2147483648):bits .or .i32 ((x:Int)*64) (y:Int)=(x:Int)*64+y:=by
 have h1:(64*x)|||y=64*x+y:=by
  have:=Nat.two_pow_add_eq_or_of_lt (i:=6) (b:=y) (by simpa using hy) x
  simpa using this.symm
 have e:(x:Int)*64=((64*x:Nat):Int):=by omega
 rw [e]
 show IntKind.i32.wrap ((BitVec.ofInt 32 ((64*x:Nat):Int)|||BitVec.ofInt 32 (y:Int)).toNat:Int)=_
 rw [ofInt_i32 _ (by omega),ofInt_i32 _ (by omega),BitVec.toNat_or,BitVec.toNat_ofNat,BitVec.toNat_ofNat,Nat.mod_eq_of_lt (by omega),Nat.mod_eq_of_lt (by omega),h1,IntKind.wrap_i32]
 omega
theorem or_at (x y:Int)(x0:0≤x)(y0:0≤y)(y1:y<64)(h:64*x+y<2147483648):bits .or .i32 (x*64) y=x*64+y:=by
 obtain⟨a,rfl⟩:=Int.eq_ofNat_of_zero_le x0
 obtain⟨b,rfl⟩:=Int.eq_ofNat_of_zero_le y0
 exact or_i32 a b (by omega) (by omega)
theorem lead_tab:(List.range 256).all (fun k=>decide (rowN (k:Int)<2)||(bits .andNot .u8 (k:Int) (leadOf (rowN (k:Int)))==(k:Int) - leadOf (rowN (k:Int))))=true:=by kernel_rfl
theorem lead_off (h:Int)(h0:0≤h)(h1:h≤255)(hn:2≤rowN h):bits .andNot .u8 h (leadOf (rowN h))=h - leadOf (rowN h):=by
 obtain⟨a,rfl⟩:=Int.eq_ofNat_of_zero_le h0
 have:=List.all_eq_true.1 lead_tab a (List.mem_range.2 (by omega))
 simp only [Bool.or_eq_true,decide_eq_true_eq,beq_iff_eq]at this
 rcases this with h|h
 ·omega
 ·exact h
theorem row_bits (h:Int)(hn:2≤rowN h):0≤h - leadOf (rowN h)∧h - leadOf (rowN h)<32∧rowN h≤4:=by
 unfold rowN at*
 unfold leadOf
 split at hn
 ·omega
 ·split at hn
  ·omega
  ·split at hn
   ·simp_all;omega
   ·split at hn
    ·simp_all;omega
    ·simp_all;omega
section
variable (h0 x b:Int)(w:World)(g0:0≤h0)(g1:h0≤255)(b0:0≤b)(b1:b≤255)(n0:0≤rowN h0)(n1:rowN h0≤4)(hx:bits .andNot .u8 h0 (leadOf (rowN h0))=x)(x0:0≤x)(x1:x<32)
include g0 g1 b0 b1 n0 n1 hx x0 x1
set_option maxHeartbeats 1000000 in
theorem whole_one (h1 h2:Int):Calls Tryz.prog 168 #[dcd h0 h1 h2 1,.int .u8 b] w fun e w'=>e= .returned (.int .i32 (x*64+b%64))∧Below w.heap.size w w':=by
 have H:=Lib.hid (row_any h0 g0 g1)
 have e1:=or_at x (b%64) x0 (by omega) (by omega) (by omega)
 go_enter Tryz.func168,Tryz.ntmps168
 go_wp2_with (go_at_call 167;refine(H.out _).mono ?_;rintro e w' ⟨rfl,rfl⟩)
 go_quiet ((go_at_call 170;exact quiet_here (lead_any _ _ n0 n1)))
 go_wp2
 go_rounds 1
 go_wp2
 go_ret
 exact⟨rfl,below_drewN ((Below.refl _ _).alloc (Nat.le_refl _) _) _⟩
set_option maxHeartbeats 1000000 in
theorem whole_two (h1 h2:Int)(c0:0≤h1)(c1:h1≤255):Calls Tryz.prog 168 #[dcd h0 h1 h2 2,.int .u8 b] w fun e w'=>e= .returned (.int .i32 ((x*64+h1%64)*64+b%64))∧Below w.heap.size w w':=by
 have H:=Lib.hid (row_any h0 g0 g1)
 have e1:=or_at x (h1%64) x0 (by omega) (by omega) (by omega)
 have e2:=or_at (x*64+h1%64) (b%64) (by omega) (by omega) (by omega) (by omega)
 go_enter Tryz.func168,Tryz.ntmps168
 go_wp2_with (go_at_call 167;refine(H.out _).mono ?_;rintro e w' ⟨rfl,rfl⟩)
 go_quiet ((go_at_call 170;exact quiet_here (lead_any _ _ n0 n1)))
 go_wp2
 go_rounds 2
 go_wp2
 go_ret
 exact⟨rfl,below_drewN ((Below.refl _ _).alloc (Nat.le_refl _) _) _⟩
set_option maxHeartbeats 1000000 in
theorem whole_three (h1 h2:Int)(c0:0≤h1)(c1:h1≤255)(d0:0≤h2)(d1:h2≤255):Calls Tryz.prog 168 #[dcd h0 h1 h2 3,.int .u8 b] w fun e w'=>e= .returned (.int .i32 (((x*64+h1%64)*64+h2%64)*64+b%64))∧Below w.heap.size w w':=by
 have H:=Lib.hid (row_any h0 g0 g1)
 have e1:=or_at x (h1%64) x0 (by omega) (by omega) (by omega)
 have e2:=or_at (x*64+h1%64) (h2%64) (by omega) (by omega) (by omega) (by omega)
 have e3:=or_at ((x*64+h1%64)*64+h2%64) (b%64) (by omega) (by omega) (by omega) (by omega)
 go_enter Tryz.func168,Tryz.ntmps168
 go_wp2_with (go_at_call 167;refine(H.out _).mono ?_;rintro e w' ⟨rfl,rfl⟩)
 go_quiet ((go_at_call 170;exact quiet_here (lead_any _ _ n0 n1)))
 go_wp2
 go_rounds 3
 go_wp2
 go_ret
 exact⟨rfl,below_drewN ((Below.refl _ _).alloc (Nat.le_refl _) _) _⟩
end
open Go.RowKit
def Stepped (d:Value)(a b k:Int)(w:World)(e:Ending)(w':World):Prop:=e= .returned (.tuple #[d,.agg #[.int .i32 a,.int .i32 b],.int .i64 k])∧Below w.heap.size w w'
theorem three_later {w w':World}{a b c:Array Value}{s t u:TypeId}(hb:Below (((w.alloc (.cells a s)).alloc (.cells b t)).alloc (.cells c u)).heap.size (((w.alloc (.cells a s)).alloc (.cells b t)).alloc (.cells c u)) w'):
  (w.heap.size<w'.heap.size∧w.heap.size+1<w'.heap.size∧w.heap.size+1+1<w'.heap.size)∧Blk w' w.heap.size a∧Blk w' (w.heap.size+1) b∧Blk w' (w.heap.size+1+1) c:=by
 obtain⟨h1,h2,h3⟩:=blk_three w a b c s t u
 have k1:=h1.later hb h1.1
 have k2:=h2.later hb h2.1
 have k3:=h3.later hb h3.1
 exact⟨⟨k1.1,k2.1,k3.1⟩,k1,k2,k3⟩
structure Done (w:World)(d0 d1 d2 d3 a b:Value)(X:World):Prop where
 c1:∀j,X.cell? ⟨w.heap.size+1,j,none⟩=#[d0,d1,d2,d3][j]?
 c2:∀j,X.cell? ⟨w.heap.size+1+1,j,none⟩=#[a,b][j]?
 below:Below w.heap.size w X
theorem done_of {w v:World}{d0 d1 d2 d3 a b e0 e1 e2 e3 f0 f1:Value}(hb:Below w.heap.size w v)(h1:Blk v (w.heap.size+1) #[e0,e1,e2,e3])(h2:Blk v (w.heap.size+1+1) #[f0,f1]):
  Done w d0 d1 d2 d3 a b ((((((v.setCell ⟨w.heap.size+1,0,none⟩ d0).setCell ⟨w.heap.size+1,1,none⟩ d1).setCell ⟨w.heap.size+1,2,none⟩ d2).setCell ⟨w.heap.size+1,3,none⟩ d3).setCell ⟨w.heap.size+1+1,0,none⟩ a).setCell ⟨w.heap.size+1+1,1,none⟩ b):=by
 refine⟨?_,?_,?_⟩
 ·exact(((((((h1.set_ 0 (by simp) d0).set_ 1 (by simp) d1).set_ 2 (by simp) d2).set_ 3 (by simp) d3).far (p:=⟨w.heap.size+1+1,0,none⟩) (by simp) a).far (p:=⟨w.heap.size+1+1,1,none⟩) (by simp) b).2.1)
 ·exact((((((h2.far (p:=⟨w.heap.size+1,0,none⟩) (by simp) d0).far (p:=⟨w.heap.size+1,1,none⟩) (by simp) d1).far (p:=⟨w.heap.size+1,2,none⟩) (by simp) d2).far (p:=⟨w.heap.size+1,3,none⟩) (by simp) d3).set_ 0 (by simp) a).set_ 1 (by simp) b).2.1
 ·exact(((((hb.setCell (by simp) _).setCell (by simp) _).setCell (by simp) _).setCell (by simp) _).setCell (by simp;omega) _).setCell (by simp;omega) _
theorem Done.alloc {w X:World}{d0 d1 d2 d3 a b:Value}(h:Done w d0 d1 d2 d3 a b X)(hz:w.heap.size+1+1<X.heap.size)(o:Obj):Done w d0 d1 d2 d3 a b (X.alloc o):=by
 have hb:=(Below.refl X.heap.size X).alloc (Nat.le_refl _) o
 exact⟨fun j=>(hb.cell (p:=⟨w.heap.size+1,j,none⟩) (by show w.heap.size+1<_;omega)).trans (h.c1 j),fun j=>(hb.cell (p:=⟨w.heap.size+1+1,j,none⟩) hz).trans (h.c2 j),h.below.trans (hb.mono h.below.size)⟩
theorem Done.drew {w X:World}{d0 d1 d2 d3 a b:Value}(h:Done w d0 d1 d2 d3 a b X):Done w d0 d1 d2 d3 a b X.drew:=⟨h.c1,h.c2,h.below.drew⟩
theorem below_three {w w':World}{a b c:Array Value}{s t u:TypeId}(hb:Below (((w.alloc (.cells a s)).alloc (.cells b t)).alloc (.cells c u)).heap.size (((w.alloc (.cells a s)).alloc (.cells b t)).alloc (.cells c u)) w'):Below w.heap.size w w':=by
 have h:=(((Below.refl w.heap.size w).alloc (Nat.le_refl _) (.cells a s)).alloc (by simp [World.size_alloc]) (.cells b t)).alloc (by simp only [World.size_alloc];omega) (.cells c u)
 exact h.trans (hb.mono h.size)
set_option maxHeartbeats 2000000 in
theorem step_zero (b r:Int)(x y z n:Int)(t:Bool)(w:World)(b0:0≤b)(b1:b≤255)(hb:∀w,Calls Tryz.prog 169 #[.int .u8 b] w (Begun (dcd x y z n) r t w)):
  Calls Tryz.prog 121 #[dcd 0 0 0 0,.int .u8 b] w (Stepped (dcd x y z n) (if t then r else 0) 0 (if t then 1 else 0) w):=by
 have Hb:=Lib.hid hb
 clear hb
 cases t
 ·go_enter Tryz.func121,Tryz.ntmps121
  go_wp2_with (go_at_call 169;refine(Hb.out _).mono ?_;rintro e w' ⟨rfl,hb1⟩;obtain⟨⟨z0,z1,z2⟩,B0,B1,B2⟩:=three_later hb1;obtain⟨_,k0,j0⟩:=B0;obtain⟨_,k1,j1⟩:=(show _ from B1);obtain⟨_,k2,j2⟩:=(show _ from B2))
  go_region
  simp only [Exit.then]
  refine at_world (Done w (.int .u8 x) (.int .u8 y) (.int .u8 z) (.int .i64 n) (.int .i32 0) (.int .i32 0)) ?_ ?_
  rotate_left
  ·rintro X ⟨c1,c2,hX⟩
   clear k0 k1 k2 j0 j1 j2 z0 z1 z2 hb1 B1 B2
   go_wp2
   exact bodyPost_ret (v:= .tuple #[dcd x y z n,.agg #[.int .i32 0,.int .i32 0],.int .i64 0]) (by simp [results,Tryz.results121,go_sem,c1,c2]) rfl ⟨rfl,hX⟩
  ·exact(((done_of (below_three hb1) B1 B2).alloc (by simp only [World.size_setCell];exact z2) _).alloc (by simp only [World.size_setCell,World.size_alloc];omega) _).drew
 ·go_enter Tryz.func121,Tryz.ntmps121
  go_wp2_with (go_at_call 169;refine(Hb.out _).mono ?_;rintro e w' ⟨rfl,hb1⟩;obtain⟨⟨z0,z1,z2⟩,B0,B1,B2⟩:=three_later hb1;obtain⟨_,k0,j0⟩:=B0;obtain⟨_,k1,j1⟩:=(show _ from B1);obtain⟨_,k2,j2⟩:=(show _ from B2))
  go_region
  simp only [Exit.then]
  refine at_world (Done w (.int .u8 x) (.int .u8 y) (.int .u8 z) (.int .i64 n) (.int .i32 r) (.int .i32 0)) ?_ ?_
  rotate_left
  ·rintro X ⟨c1,c2,hX⟩
   clear k0 k1 k2 j0 j1 j2 z0 z1 z2 hb1 B1 B2
   go_wp2
   exact bodyPost_ret (v:= .tuple #[dcd x y z n,.agg #[.int .i32 r,.int .i32 0],.int .i64 1]) (by simp [results,Tryz.results121,go_sem,c1,c2]) rfl ⟨rfl,hX⟩
  ·exact(((done_of (below_three hb1) B1 B2).alloc (by simp only [World.size_setCell];exact z2) _).alloc (by simp only [World.size_setCell,World.size_alloc];omega) _).drew
set_option maxHeartbeats 2000000 in
theorem step_off (h0 h1 h2 m b r:Int)(x y z n:Int)(t:Bool)(w:World)(g0:0≤h0)(g1:h0≤255)(m0:0<m)(m1:m≤3)(b0:0≤b)(b1:b≤255)(hg:goes h0 m b=false)(hb:∀w,Calls Tryz.prog 169 #[.int .u8 b] w (Begun (dcd x y z n) r t w)):
  Calls Tryz.prog 121 #[dcd h0 h1 h2 m,.int .u8 b] w (Stepped (dcd x y z n) 65533 (if t then r else 0) (if t then 2 else 1) w):=by
 have Hb:=Lib.hid hb
 have d0:decide (0<m)=true:=decide_eq_true m0
 clear hb
 cases t
 ·go_enter Tryz.func121,Tryz.ntmps121
  go_wp2_with (first
   |(go_at_call 166;refine(goes_any h0 h1 h2 m b _ g0 g1 (by omega) m1).mono ?_;rintro e w1 ⟨rfl,hg1⟩;obtain⟨⟨z0,z1,z2⟩,B0,B1,B2⟩:=three_later hg1;obtain⟨_,k0,j0⟩:=(show _ from B0);obtain⟨_,k1,j1⟩:=(show _ from B1);obtain⟨_,k2,j2⟩:=(show _ from B2))
   |(go_at_call 169;refine(Hb.out _).mono ?_;rintro e w' ⟨rfl,hb1⟩;clear k0 k1 k2 j0 j1 j2;have C0:=B0.later hb1 B0.1;have C1:=B1.later hb1 B1.1;have C2:=B2.later hb1 B2.1;obtain⟨y0,k0,j0⟩:=(show _ from C0);obtain⟨y1,k1,j1⟩:=(show _ from C1);obtain⟨y2,k2,j2⟩:=(show _ from C2)))
  go_region
  simp only [Exit.then]
  refine at_world (Done w (.int .u8 x) (.int .u8 y) (.int .u8 z) (.int .i64 n) (.int .i32 65533) (.int .i32 0)) ?_ ?_
  rotate_left
  ·rintro X ⟨c1,c2,hX⟩
   clear k0 k1 k2 j0 j1 j2 z0 z1 z2 hb1 B0 B1 B2 C0 C1 C2 y0 y1 y2 hg1
   go_wp2
   exact bodyPost_ret (v:= .tuple #[dcd x y z n,.agg #[.int .i32 65533,.int .i32 0],.int .i64 1]) (by simp [results,Tryz.results121,go_sem,c1,c2]) rfl ⟨rfl,hX⟩
  ·exact(((done_of ((below_three hg1).trans (hb1.mono (below_three hg1).size)) C1 C2).alloc (by simp only [World.size_setCell];exact y2) _).alloc (by simp only [World.size_setCell,World.size_alloc];omega) _).drew
 ·go_enter Tryz.func121,Tryz.ntmps121
  go_wp2_with (first
   |(go_at_call 166;refine(goes_any h0 h1 h2 m b _ g0 g1 (by omega) m1).mono ?_;rintro e w1 ⟨rfl,hg1⟩;obtain⟨⟨z0,z1,z2⟩,B0,B1,B2⟩:=three_later hg1;obtain⟨_,k0,j0⟩:=(show _ from B0);obtain⟨_,k1,j1⟩:=(show _ from B1);obtain⟨_,k2,j2⟩:=(show _ from B2))
   |(go_at_call 169;refine(Hb.out _).mono ?_;rintro e w' ⟨rfl,hb1⟩;clear k0 k1 k2 j0 j1 j2;have C0:=B0.later hb1 B0.1;have C1:=B1.later hb1 B1.1;have C2:=B2.later hb1 B2.1;obtain⟨y0,k0,j0⟩:=(show _ from C0);obtain⟨y1,k1,j1⟩:=(show _ from C1);obtain⟨y2,k2,j2⟩:=(show _ from C2)))
  go_region
  simp only [Exit.then]
  refine at_world (Done w (.int .u8 x) (.int .u8 y) (.int .u8 z) (.int .i64 n) (.int .i32 65533) (.int .i32 r)) ?_ ?_
  rotate_left
  ·rintro X ⟨c1,c2,hX⟩
   clear k0 k1 k2 j0 j1 j2 z0 z1 z2 hb1 B0 B1 B2 C0 C1 C2 y0 y1 y2 hg1
   go_wp2
   exact bodyPost_ret (v:= .tuple #[dcd x y z n,.agg #[.int .i32 65533,.int .i32 r],.int .i64 2]) (by simp [results,Tryz.results121,go_sem,c1,c2]) rfl ⟨rfl,hX⟩
  ·exact(((done_of ((below_three hg1).trans (hb1.mono (below_three hg1).size)) C1 C2).alloc (by simp only [World.size_setCell];exact y2) _).alloc (by simp only [World.size_setCell,World.size_alloc];omega) _).drew
set_option maxHeartbeats 2000000 in
theorem step_whole_one (h0 x b v:Int)(w:World)(g0:0≤h0)(g1:h0≤255)(b0:0≤b)(b1:b≤255)(hg:goes h0 1 b=true)(hn:rowN h0=2)(hx:bits .andNot .u8 h0 (leadOf (rowN h0))=x)(x0:0≤x)(x1:x<32)(hv:x*64+b%64=v):
  Calls Tryz.prog 121 #[dcd h0 0 0 1,.int .u8 b] w (Stepped (dcd 0 0 0 0) v 0 1 w):=by
 have HR:=Lib.hid (row_any h0 g0 g1)
 have HX:=Lib.hid hx
 have HV:=Lib.hid hv
 have E:(rowN h0==2)=true:=by simp [hn]
 have n0:0≤rowN h0:=by omega
 have n1:rowN h0≤4:=by omega
 clear hx hn hv
 go_enter Tryz.func121,Tryz.ntmps121
 go_wp2_with (first
  |(go_at_call 166;refine(goes_any h0 0 0 1 b _ g0 g1 (by omega) (by omega)).mono ?_;rintro e w1 ⟨rfl,hg1⟩;obtain⟨⟨z0,z1,z2⟩,B0,B1,B2⟩:=three_later hg1;obtain⟨_,k0,j0⟩:=(show _ from B0);obtain⟨_,k1,j1⟩:=(show _ from B1);obtain⟨_,k2,j2⟩:=(show _ from B2))
  |(go_at_call 167;refine(HR.out _).mono ?_;rintro e w' ⟨rfl,rfl⟩)
  |(go_at_call 168;refine(whole_one h0 x b _ g0 g1 b0 b1 (by omega) (by omega) HX.out x0 x1 0 0).mono ?_;rw [HV.out];rintro e w' ⟨rfl,hb1⟩;clear k0 k1 k2 j0 j1 j2;have C0:=B0.later hb1 B0.1;have C1:=B1.later hb1 B1.1;have C2:=B2.later hb1 B2.1;obtain⟨y0,k0,j0⟩:=(show _ from C0);obtain⟨y1,k1,j1⟩:=(show _ from C1);obtain⟨y2,k2,j2⟩:=(show _ from C2)))
 refine at_world (Done w (.int .u8 0) (.int .u8 0) (.int .u8 0) (.int .i64 0) (.int .i32 v) (.int .i32 0)) (done_of ((below_three hg1).trans (hb1.mono (below_three hg1).size)) C1 C2) ?_
 rintro X ⟨c1,c2,hX⟩
 exact bodyPost_ret (v:= .tuple #[dcd 0 0 0 0,.agg #[.int .i32 v,.int .i32 0],.int .i64 1]) (by simp [results,Tryz.results121,go_sem,c1,c2]) rfl ⟨rfl,hX⟩
set_option maxHeartbeats 2000000 in
theorem step_whole_two (h0 x b v:Int)(h1:Int)(e0:0≤h1)(e1:h1≤255)(w:World)(g0:0≤h0)(g1:h0≤255)(b0:0≤b)(b1:b≤255)(hg:goes h0 2 b=true)(hn:rowN h0=3)(hx:bits .andNot .u8 h0 (leadOf (rowN h0))=x)(x0:0≤x)(x1:x<32)(hv:(x*64+h1%64)*64+b%64=v):
  Calls Tryz.prog 121 #[dcd h0 h1 0 2,.int .u8 b] w (Stepped (dcd 0 0 0 0) v 0 1 w):=by
 have HR:=Lib.hid (row_any h0 g0 g1)
 have HX:=Lib.hid hx
 have HV:=Lib.hid hv
 have E:(rowN h0==3)=true:=by simp [hn]
 have n0:0≤rowN h0:=by omega
 have n1:rowN h0≤4:=by omega
 clear hx hn hv
 go_enter Tryz.func121,Tryz.ntmps121
 go_wp2_with (first
  |(go_at_call 166;refine(goes_any h0 h1 0 2 b _ g0 g1 (by omega) (by omega)).mono ?_;rintro e w1 ⟨rfl,hg1⟩;obtain⟨⟨z0,z1,z2⟩,B0,B1,B2⟩:=three_later hg1;obtain⟨_,k0,j0⟩:=(show _ from B0);obtain⟨_,k1,j1⟩:=(show _ from B1);obtain⟨_,k2,j2⟩:=(show _ from B2))
  |(go_at_call 167;refine(HR.out _).mono ?_;rintro e w' ⟨rfl,rfl⟩)
  |(go_at_call 168;refine(whole_two h0 x b _ g0 g1 b0 b1 (by omega) (by omega) HX.out x0 x1 h1 0 e0 e1).mono ?_;rw [HV.out];rintro e w' ⟨rfl,hb1⟩;clear k0 k1 k2 j0 j1 j2;have C0:=B0.later hb1 B0.1;have C1:=B1.later hb1 B1.1;have C2:=B2.later hb1 B2.1;obtain⟨y0,k0,j0⟩:=(show _ from C0);obtain⟨y1,k1,j1⟩:=(show _ from C1);obtain⟨y2,k2,j2⟩:=(show _ from C2)))
 refine at_world (Done w (.int .u8 0) (.int .u8 0) (.int .u8 0) (.int .i64 0) (.int .i32 v) (.int .i32 0)) (done_of ((below_three hg1).trans (hb1.mono (below_three hg1).size)) C1 C2) ?_
 rintro X ⟨c1,c2,hX⟩
 exact bodyPost_ret (v:= .tuple #[dcd 0 0 0 0,.agg #[.int .i32 v,.int .i32 0],.int .i64 1]) (by simp [results,Tryz.results121,go_sem,c1,c2]) rfl ⟨rfl,hX⟩
set_option maxHeartbeats 2000000 in
theorem step_whole_three (h0 x b v:Int)(h1 h2:Int)(e0:0≤h1)(e1:h1≤255)(f0:0≤h2)(f1:h2≤255)(w:World)(g0:0≤h0)(g1:h0≤255)(b0:0≤b)(b1:b≤255)(hg:goes h0 3 b=true)(hn:rowN h0=4)(hx:bits .andNot .u8 h0 (leadOf (rowN h0))=x)(x0:0≤x)(x1:x<32)(hv:((x*64+h1%64)*64+h2%64)*64+b%64=v):
  Calls Tryz.prog 121 #[dcd h0 h1 h2 3,.int .u8 b] w (Stepped (dcd 0 0 0 0) v 0 1 w):=by
 have HR:=Lib.hid (row_any h0 g0 g1)
 have HX:=Lib.hid hx
 have HV:=Lib.hid hv
 have E:(rowN h0==4)=true:=by simp [hn]
 have n0:0≤rowN h0:=by omega
 have n1:rowN h0≤4:=by omega
 clear hx hn hv
 go_enter Tryz.func121,Tryz.ntmps121
 go_wp2_with (first
  |(go_at_call 166;refine(goes_any h0 h1 h2 3 b _ g0 g1 (by omega) (by omega)).mono ?_;rintro e w1 ⟨rfl,hg1⟩;obtain⟨⟨z0,z1,z2⟩,B0,B1,B2⟩:=three_later hg1;obtain⟨_,k0,j0⟩:=(show _ from B0);obtain⟨_,k1,j1⟩:=(show _ from B1);obtain⟨_,k2,j2⟩:=(show _ from B2))
  |(go_at_call 167;refine(HR.out _).mono ?_;rintro e w' ⟨rfl,rfl⟩)
  |(go_at_call 168;refine(whole_three h0 x b _ g0 g1 b0 b1 (by omega) (by omega) HX.out x0 x1 h1 h2 e0 e1 f0 f1).mono ?_;rw [HV.out];rintro e w' ⟨rfl,hb1⟩;clear k0 k1 k2 j0 j1 j2;have C0:=B0.later hb1 B0.1;have C1:=B1.later hb1 B1.1;have C2:=B2.later hb1 B2.1;obtain⟨y0,k0,j0⟩:=(show _ from C0);obtain⟨y1,k1,j1⟩:=(show _ from C1);obtain⟨y2,k2,j2⟩:=(show _ from C2)))
 refine at_world (Done w (.int .u8 0) (.int .u8 0) (.int .u8 0) (.int .i64 0) (.int .i32 v) (.int .i32 0)) (done_of ((below_three hg1).trans (hb1.mono (below_three hg1).size)) C1 C2) ?_
 rintro X ⟨c1,c2,hX⟩
 exact bodyPost_ret (v:= .tuple #[dcd 0 0 0 0,.agg #[.int .i32 v,.int .i32 0],.int .i64 1]) (by simp [results,Tryz.results121,go_sem,c1,c2]) rfl ⟨rfl,hX⟩
set_option maxHeartbeats 2000000 in
theorem step_more_one (h0 b:Int)(w:World)(g0:0≤h0)(g1:h0≤255)(b0:0≤b)(b1:b≤255)(hg:goes h0 1 b=true)(hn:rowN h0≠2):
  Calls Tryz.prog 121 #[dcd h0 0 0 1,.int .u8 b] w (Stepped (dcd h0 b 0 2) 0 0 0 w):=by
 have HR:=Lib.hid (row_any h0 g0 g1)
 have E:(rowN h0==2)=false:=by simp [hn]
 clear hn
 go_enter Tryz.func121,Tryz.ntmps121
 go_wp2_with (first
  |(go_at_call 166;refine(goes_any h0 0 0 1 b _ g0 g1 (by omega) (by omega)).mono ?_;rintro e w1 ⟨rfl,hg1⟩;obtain⟨⟨z0,z1,z2⟩,B0,B1,B2⟩:=three_later hg1;obtain⟨_,k0,j0⟩:=(show _ from B0);obtain⟨_,k1,j1⟩:=(show _ from B1);obtain⟨_,k2,j2⟩:=(show _ from B2))
  |(go_at_call 167;refine(HR.out _).mono ?_;rintro e w' ⟨rfl,rfl⟩))
 refine at_world (Done w (.int .u8 h0) (.int .u8 b) (.int .u8 0) (.int .i64 2) (.int .i32 0) (.int .i32 0)) ?_ ?_
 ·exact done_of (((below_three hg1).setCell (Nat.le_refl _) _).setCell (Nat.le_refl _) _) ((B1.far (by simp) _).far (by simp) _) ((B2.far (by show w.heap.size≠w.heap.size+1+1;omega) _).far (by show w.heap.size≠w.heap.size+1+1;omega) _)
 rintro X ⟨c1,c2,hX⟩
 exact bodyPost_ret (v:= .tuple #[dcd h0 b 0 2,.agg #[.int .i32 0,.int .i32 0],.int .i64 0]) (by simp [results,Tryz.results121,go_sem,c1,c2]) rfl ⟨rfl,hX⟩
set_option maxHeartbeats 2000000 in
theorem step_more_two (h0 b:Int)(h1:Int)(w:World)(g0:0≤h0)(g1:h0≤255)(b0:0≤b)(b1:b≤255)(hg:goes h0 2 b=true)(hn:rowN h0≠3):
  Calls Tryz.prog 121 #[dcd h0 h1 0 2,.int .u8 b] w (Stepped (dcd h0 h1 b 3) 0 0 0 w):=by
 have HR:=Lib.hid (row_any h0 g0 g1)
 have E:(rowN h0==3)=false:=by simp [hn]
 clear hn
 go_enter Tryz.func121,Tryz.ntmps121
 go_wp2_with (first
  |(go_at_call 166;refine(goes_any h0 h1 0 2 b _ g0 g1 (by omega) (by omega)).mono ?_;rintro e w1 ⟨rfl,hg1⟩;obtain⟨⟨z0,z1,z2⟩,B0,B1,B2⟩:=three_later hg1;obtain⟨_,k0,j0⟩:=(show _ from B0);obtain⟨_,k1,j1⟩:=(show _ from B1);obtain⟨_,k2,j2⟩:=(show _ from B2))
  |(go_at_call 167;refine(HR.out _).mono ?_;rintro e w' ⟨rfl,rfl⟩))
 refine at_world (Done w (.int .u8 h0) (.int .u8 h1) (.int .u8 b) (.int .i64 3) (.int .i32 0) (.int .i32 0)) ?_ ?_
 ·exact done_of (((below_three hg1).setCell (Nat.le_refl _) _).setCell (Nat.le_refl _) _) ((B1.far (by simp) _).far (by simp) _) ((B2.far (by show w.heap.size≠w.heap.size+1+1;omega) _).far (by show w.heap.size≠w.heap.size+1+1;omega) _)
 rintro X ⟨c1,c2,hX⟩
 exact bodyPost_ret (v:= .tuple #[dcd h0 h1 b 3,.agg #[.int .i32 0,.int .i32 0],.int .i64 0]) (by simp [results,Tryz.results121,go_sem,c1,c2]) rfl ⟨rfl,hX⟩
structure DS where
 h0:Int
 h1:Int
 h2:Int
 n:Int
def DS.zero:DS:=⟨0,0,0,0⟩
def DS.val (s:DS):Value:=dcd s.h0 s.h1 s.h2 s.n
def DS.Ok (s:DS):Prop:=(0≤s.h0∧s.h0≤255∧0≤s.h1∧s.h1≤255∧0≤s.h2∧s.h2≤255)∧
 ((s.n=0∧s.h0=0∧s.h1=0∧s.h2=0)∨(s.n=1∧s.h1=0∧s.h2=0∧2≤rowN s.h0)∨(s.n=2∧s.h2=0∧3≤rowN s.h0)∨(s.n=3∧4≤rowN s.h0))
def beginD (b:Int):DS × List Int:=if rowN b=0 then (DS.zero,[65533])else if rowN b=1 then (DS.zero,[b])else (⟨b,0,0,1⟩,[])
def wholeD (s:DS)(b:Int):Int:=
 if s.n=1 then (s.h0 - leadOf (rowN s.h0))*64+b%64
 else if s.n=2 then ((s.h0 - leadOf (rowN s.h0))*64+s.h1%64)*64+b%64
 else (((s.h0 - leadOf (rowN s.h0))*64+s.h1%64)*64+s.h2%64)*64+b%64
def stepD (s:DS)(b:Int):DS × List Int:=
 if s.n=0 then beginD b
 else if goes s.h0 s.n b=true then
  if rowN s.h0=s.n+1 then (DS.zero,[wholeD s b])
  else if s.n=1 then (⟨s.h0,b,0,2⟩,[])else (⟨s.h0,s.h1,b,3⟩,[])
 else ((beginD b).1,65533::(beginD b).2)
theorem rowN_le (b:Int):0≤rowN b∧rowN b≤4:=by
 unfold rowN
 split
 ·omega
 ·split
  ·omega
  ·split
   ·omega
   ·split<;>omega
theorem beginD_ok (b:Int)(b0:0≤b)(b1:b≤255):(beginD b).1.Ok:=by
 have:=rowN_le b
 unfold beginD
 split
 ·exact⟨by simp [DS.zero],.inl ⟨rfl,rfl,rfl,rfl⟩⟩
 ·split
  ·exact⟨by simp [DS.zero],.inl ⟨rfl,rfl,rfl,rfl⟩⟩
  ·exact⟨⟨b0,b1,by simp⟩,.inr (.inl ⟨rfl,rfl,rfl,by show 2≤rowN b;omega⟩)⟩
theorem stepD_ok (s:DS)(b:Int)(hs:s.Ok)(b0:0≤b)(b1:b≤255):(stepD s b).1.Ok:=by
 have hr:=rowN_le s.h0
 obtain⟨⟨g0,g1,g2,g3,g4,g5⟩,hs⟩:=hs
 unfold stepD
 split
 ·exact beginD_ok b b0 b1
 ·split
  ·split
   ·exact⟨by simp [DS.zero],.inl ⟨rfl,rfl,rfl,rfl⟩⟩
   ·split
    ·exact⟨⟨g0,g1,b0,b1,by simp⟩,.inr (.inr (.inl ⟨rfl,rfl,by show 3≤rowN s.h0;omega⟩))⟩
    ·exact⟨⟨g0,g1,g2,g3,b0,b1⟩,.inr (.inr (.inr ⟨rfl,by show 4≤rowN s.h0;omega⟩))⟩
  ·exact beginD_ok b b0 b1
def StepTo (s:DS)(b:Int)(w:World)(e:Ending)(w':World):Prop:=
 ∃ (x y:Int) (k:Nat),k≤2∧e= .returned (.tuple #[(stepD s b).1.val,.agg #[.int .i32 x,.int .i32 y],.int .i64 k])∧[x,y].take k=(stepD s b).2∧Below w.heap.size w w'
theorem begin_any (b:Int)(b0:0≤b)(b1:b≤255):∃x y z n r t,(∀w,Calls Tryz.prog 169 #[.int .u8 b] w (Begun (dcd x y z n) r t w))∧(beginD b).1=⟨x,y,z,n⟩∧(beginD b).2=if t then [r]else []:=by
 have:=rowN_le b
 by_cases h0:rowN b=0
 ·exact⟨_,_,_,_,_,_,fun w=>begin_none b w b0 b1 h0,by simp [beginD,h0,DS.zero],by simp [beginD,h0]⟩
 ·by_cases h1:rowN b=1
  ·exact⟨_,_,_,_,_,_,fun w=>begin_one b w b0 b1 h1,by simp [beginD,h1,DS.zero],by simp [beginD,h1]⟩
  ·exact⟨_,_,_,_,_,_,fun w=>begin_more b w b0 b1 (by omega),by simp [beginD,h0,h1],by simp [beginD,h0,h1]⟩
theorem ustep_any (s:DS)(b:Int)(hs:s.Ok)(b0:0≤b)(b1:b≤255)(w:World):Calls Tryz.prog 121 #[s.val,.int .u8 b] w (StepTo s b w):=by
 obtain⟨x,y,z,n,r,t,hb,he,hl⟩:=begin_any b b0 b1
 have hok:=hs
 obtain⟨⟨g0,g1,g2,g3,g4,g5⟩,hs⟩:=hs
 obtain⟨h0,h1,h2,m⟩:=s
 simp only at g0 g1 g2 g3 g4 g5 hs
 by_cases hm:m=0
 ·obtain⟨rfl,rfl,rfl,rfl⟩:m=0∧h0=0∧h1=0∧h2=0:=by omega
  refine(step_zero b r x y z n t w b0 b1 hb).mono fun e w' hh=> ?_
  obtain⟨rfl,hbw⟩:=hh
  have e1:stepD ⟨0,0,0,0⟩ b=beginD b:=by simp [stepD]
  unfold StepTo
  rw [e1,he,hl]
  cases t
  ·exact⟨_,_,0,by omega,rfl,rfl,hbw⟩
  ·exact⟨_,_,1,by omega,rfl,rfl,hbw⟩
 ·by_cases hg:goes h0 m b=true
  ·have hlo:=row_bits h0 (by omega)
   have hx:=lead_off h0 g0 g1 (by omega)
   have hr:=rowN_le h0
   by_cases hn:rowN h0=m+1
   ·have e1:stepD ⟨h0,h1,h2,m⟩ b=(DS.zero,[wholeD ⟨h0,h1,h2,m⟩ b]):=by simp [stepD,hm,hg,hn]
    unfold StepTo
    rw [e1]
    have hc:(m=1∧h1=0∧h2=0)∨(m=2∧h2=0)∨m=3:=by omega
    rcases hc with⟨rfl,rfl,rfl⟩|⟨rfl,rfl⟩|rfl
    ·exact(step_whole_one h0 _ b _ w g0 g1 b0 b1 hg hn hx hlo.1 hlo.2.1 rfl).mono fun e w' ⟨he,hbw⟩=>⟨_,_,1,by omega,he,by simp [wholeD],hbw⟩
    ·exact(step_whole_two h0 _ b _ h1 g2 g3 w g0 g1 b0 b1 hg hn hx hlo.1 hlo.2.1 rfl).mono fun e w' ⟨he,hbw⟩=>⟨_,_,1,by omega,he,by simp [wholeD],hbw⟩
    ·exact(step_whole_three h0 _ b _ h1 h2 g2 g3 g4 g5 w g0 g1 b0 b1 hg hn hx hlo.1 hlo.2.1 rfl).mono fun e w' ⟨he,hbw⟩=>⟨_,_,1,by omega,he,by simp [wholeD],hbw⟩
   ·have hc:(m=1∧h1=0∧h2=0)∨(m=2∧h2=0):=by omega
    unfold StepTo
    rcases hc with⟨rfl,rfl,rfl⟩|⟨rfl,rfl⟩
    ·have e1:stepD ⟨h0,0,0,1⟩ b=(⟨h0,b,0,2⟩,[]):=by simp [stepD,hg];omega
     rw [e1]
     exact(step_more_one h0 b w g0 g1 b0 b1 hg (by omega)).mono fun e w' ⟨he,hbw⟩=>⟨_,_,0,by omega,he,rfl,hbw⟩
    ·have e1:stepD ⟨h0,h1,0,2⟩ b=(⟨h0,h1,b,3⟩,[]):=by simp [stepD,hg];omega
     rw [e1]
     exact(step_more_two h0 b h1 w g0 g1 b0 b1 hg (by omega)).mono fun e w' ⟨he,hbw⟩=>⟨_,_,0,by omega,he,rfl,hbw⟩
  ·have e1:stepD ⟨h0,h1,h2,m⟩ b=((beginD b).1,65533::(beginD b).2):=by simp [stepD,hm,hg]
   unfold StepTo
   rw [e1]
   simp only
   rw [he,hl]
   refine(step_off h0 h1 h2 m b r x y z n t w g0 g1 (by omega) (by omega) b0 b1 (by simpa using hg) hb).mono fun e w' hh=> ?_
   obtain⟨rfl,hbw⟩:=hh
   cases t
   ·exact⟨_,_,1,by omega,rfl,rfl,hbw⟩
   ·exact⟨_,_,2,by omega,rfl,rfl,hbw⟩
theorem eltI:Elt Tryz.prog 22 21 1 4:=elt_of Tryz.underlying22 (z:= .int .i32 0) (by kernel_rfl) rfl (by decide)
def li (l:List Int)(j:Nat):Value:= .int .i32 (l.getD j 0)
def FeedTo (s:DS)(b:Int)(w:World)(e:Ending)(w':World):Prop:=
 ∃A c,e= .returned (.tuple #[(stepD s b).1.val,.slice A (stepD s b).2.length c])∧Rd w' A (stepD s b).2.length (li (stepD s b).2)∧Below w.heap.size w w'
def StepIs (x y z n:Int)(l:List Int)(w:World)(e:Ending)(w':World):Prop:=
 ∃ (p q:Int),((l=[]∧e= .returned (.tuple #[dcd x y z n,.agg #[.int .i32 p,.int .i32 q],.int .i64 0]))∨(l=[p]∧e= .returned (.tuple #[dcd x y z n,.agg #[.int .i32 p,.int .i32 q],.int .i64 1]))∨
  (l=[p,q]∧e= .returned (.tuple #[dcd x y z n,.agg #[.int .i32 p,.int .i32 q],.int .i64 2])))∧Below w.heap.size w w'
theorem two_later {w w':World}{a b:Array Value}{s t:TypeId}(hb:Below ((w.alloc (.cells a s)).alloc (.cells b t)).heap.size ((w.alloc (.cells a s)).alloc (.cells b t)) w'):
  (w.heap.size<w'.heap.size∧w.heap.size+1<w'.heap.size)∧Blk w' w.heap.size a∧Blk w' (w.heap.size+1) b∧Below w.heap.size w w':=by
 have h1:=(blk_new w a s).alloc (.cells b t)
 have h2:=blk_new (w.alloc (.cells a s)) b t
 rw [World.size_alloc]at h2
 have k1:=h1.later hb h1.1
 have k2:=h2.later hb h2.1
 have h:=((Below.refl w.heap.size w).alloc (Nat.le_refl _) (.cells a s)).alloc (by simp [World.size_alloc]) (.cells b t)
 exact⟨⟨k1.1,k2.1⟩,k1,k2,h.trans (hb.mono h.size)⟩
structure FDone (w:World)(d0 d1 d2 d3:Value)(A:Option Addr)(k:Nat)(f:Nat→Value)(X:World):Prop where
 c1:∀j,X.cell? ⟨w.heap.size+1,j,none⟩=#[d0,d1,d2,d3][j]?
 rd:Rd X A k f
 below:Below w.heap.size w X
theorem four_set {w v:World}{d0 d1 d2 d3 e0 e1 e2 e3:Value}(hb:Below w.heap.size w v)(h1:Blk v (w.heap.size+1) #[e0,e1,e2,e3]):
  Blk ((((v.setCell ⟨w.heap.size+1,0,none⟩ d0).setCell ⟨w.heap.size+1,1,none⟩ d1).setCell ⟨w.heap.size+1,2,none⟩ d2).setCell ⟨w.heap.size+1,3,none⟩ d3) (w.heap.size+1) #[d0,d1,d2,d3]∧
  Below w.heap.size w ((((v.setCell ⟨w.heap.size+1,0,none⟩ d0).setCell ⟨w.heap.size+1,1,none⟩ d1).setCell ⟨w.heap.size+1,2,none⟩ d2).setCell ⟨w.heap.size+1,3,none⟩ d3):=
 ⟨(((h1.set_ 0 (by simp) d0).set_ 1 (by simp) d1).set_ 2 (by simp) d2).set_ 3 (by simp) d3,(((hb.setCell (by simp) _).setCell (by simp) _).setCell (by simp) _).setCell (by simp) _⟩
theorem fdone_none {w v:World}{d0 d1 d2 d3:Value}{f:Nat→Value}{A:Option Addr}(hb:Below w.heap.size w v)(h1:Blk v (w.heap.size+1) #[d0,d1,d2,d3])(o1 o2:Obj):FDone w d0 d1 d2 d3 A 0 f ((v.alloc o1).alloc o2).drew:=
 ⟨((h1.alloc o1).alloc o2).2.1,Rd.empty _ _ _,((hb.alloc hb.size o1).alloc (by rw [World.size_alloc];exact Nat.le_succ_of_le hb.size) o2).drew⟩
theorem fdone_some {w v:World}{d0 d1 d2 d3:Value}{f:Nat→Value}{g k:Nat}(hb:Below w.heap.size w v)(h1:Blk v (w.heap.size+1) #[d0,d1,d2,d3])(o1 o2:Obj)(cs:Array Value)(t:TypeId)(hg:g=v.heap.size+1+1)
  (hcs:∀j,j<k→cs[j]? =some (f j)):FDone w d0 d1 d2 d3 (some ⟨g,0,none⟩) k f (((v.alloc o1).alloc o2).alloc (.cells cs t)).drew.drew:=by
 have hs:((v.alloc o1).alloc o2).heap.size=g:=by rw [World.size_alloc,World.size_alloc,hg]
 have hb2:=(hb.alloc hb.size o1).alloc (by rw [World.size_alloc];exact Nat.le_succ_of_le hb.size) o2
 have hr:=rd_new ((v.alloc o1).alloc o2) cs t k f hcs
 rw [hs]at hr
 exact⟨(((h1.alloc o1).alloc o2).alloc _).2.1,hr,(hb2.alloc hb2.size _).drew.drew⟩
theorem own_caps {w:World}{base:Nat}{e:TypeId}{size n c:Nat}{A:Option Addr}{xs:List Value}(h:w.ownsRow base e size (.slice A n c) n xs):n≤c∧c≤9223372036854775807:=by
 rcases h.2 with⟨hv,_⟩|⟨g,cap,cur,hv,_,_,h1,h2,_⟩
 ·injection hv with _ e2 e3
  omega
 ·injection hv with _ _ e3
  unfold maxLen at h2
  omega
end Go.Proofs.YtlopleeopnnoeaaGreat
