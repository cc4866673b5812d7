import Derived.Test.YtlopleeopnnoeaaGreatMb01
import Derived.Shelf.Strings.Builder1
import Derived.Shelf.Strings.Builder2
import Derived.Shelf.Strings.BuilderK
import Derived.Test.YtlopleeopnnoeaaGreatMy02
import Derived.Test.YtlopleeopnnoeaaGreatMb22
import Derived.Test.YtlopleeopnnoeaaGreatMb28
import Derived.Test.YtlopleeopnnoeaaGreatMb24
import Derived.Test.YtlopleeopnnoeaaGreatMb02
set_option linter.unusedVariables false
set_option linter.unusedSimpArgs false
namespace Go.Proofs.YtlopleeopnnoeaaGreat
open Go.RowKit Go.Shelf
def bldRen:Go.Shelf.Ren:=⟨fun|165=> 171|166=> 173|167=> 172|169=> 174|240=> 203|241=> 204|276=> 213|277=> 214|n=>n,fun|0=> 0|3=> 3|4=> 4|5=> 5|9=> 9|20=> 20|37=> 167|70=> 229|72=> 231|75=> 234|80=> 238|127=> 261|164=> 270|n=>n,fun n=>n⟩
theorem bldLays165:Go.Proofs.Lays.n165 Tryz.prog bldRen:={
 mixed:=by kernel_rfl
 f165:= Tryz.func171.trans (congrArg some (by kernel_rfl))
 f240:= Tryz.func203.trans (congrArg some (by kernel_rfl))
 f241:= Tryz.func204.trans (congrArg some (by kernel_rfl))
 f276:= Tryz.func213.trans (congrArg some (by kernel_rfl))
 f277:= Tryz.func214.trans (congrArg some (by kernel_rfl))
 t0:= Tryz.underlying0
 a0:= Tryz.isAgg0
 z0:= Tryz.sizeOf0
 v0:= Tryz.zeroValue0
 t3:= Tryz.underlying3
 a3:= Tryz.isAgg3
 z3:= Tryz.sizeOf3
 v3:= Tryz.zeroValue3
 t4:= Tryz.underlying4
 a4:= Tryz.isAgg4
 z4:= Tryz.sizeOf4
 v4:= Tryz.zeroValue4
 t9:= Tryz.underlying9
 a9:= Tryz.isAgg9
 z9:= Tryz.sizeOf9
 v9:= Tryz.zeroValue9
 t20:= Tryz.underlying20
 a20:= Tryz.isAgg20
 z20:= Tryz.sizeOf20
 v20:= Tryz.zeroValue20
 t37:= Tryz.underlying167
 a37:= Tryz.isAgg167
 z37:= Tryz.sizeOf167
 v37:= Tryz.zeroValue167
 t70:= Tryz.underlying229
 a70:= Tryz.isAgg229
 z70:= Tryz.sizeOf229
 v70:= Tryz.zeroValue229
 t72:= Tryz.underlying231
 a72:= Tryz.isAgg231
 z72:= Tryz.sizeOf231
 v72:= Tryz.zeroValue231
 t164:= Tryz.underlying270
 a164:= Tryz.isAgg270
 z164:= Tryz.sizeOf270
 v164:= Tryz.zeroValue270}
theorem bldLays166:Go.Proofs.Lays.n166 Tryz.prog bldRen:={
 mixed:=by kernel_rfl
 f166:= Tryz.func173.trans (congrArg some (by kernel_rfl))
 f240:= Tryz.func203.trans (congrArg some (by kernel_rfl))
 f276:= Tryz.func213.trans (congrArg some (by kernel_rfl))
 t0:= Tryz.underlying0
 a0:= Tryz.isAgg0
 z0:= Tryz.sizeOf0
 v0:= Tryz.zeroValue0
 t3:= Tryz.underlying3
 a3:= Tryz.isAgg3
 z3:= Tryz.sizeOf3
 v3:= Tryz.zeroValue3
 t4:= Tryz.underlying4
 a4:= Tryz.isAgg4
 z4:= Tryz.sizeOf4
 v4:= Tryz.zeroValue4
 t9:= Tryz.underlying9
 a9:= Tryz.isAgg9
 z9:= Tryz.sizeOf9
 v9:= Tryz.zeroValue9
 t20:= Tryz.underlying20
 a20:= Tryz.isAgg20
 z20:= Tryz.sizeOf20
 v20:= Tryz.zeroValue20
 t37:= Tryz.underlying167
 a37:= Tryz.isAgg167
 z37:= Tryz.sizeOf167
 v37:= Tryz.zeroValue167
 t70:= Tryz.underlying229
 a70:= Tryz.isAgg229
 z70:= Tryz.sizeOf229
 v70:= Tryz.zeroValue229
 t72:= Tryz.underlying231
 a72:= Tryz.isAgg231
 z72:= Tryz.sizeOf231
 v72:= Tryz.zeroValue231
 t75:= Tryz.underlying234
 a75:= Tryz.isAgg234
 z75:= Tryz.sizeOf234
 v75:= Tryz.zeroValue234
 t164:= Tryz.underlying270
 a164:= Tryz.isAgg270
 z164:= Tryz.sizeOf270
 v164:= Tryz.zeroValue270}
theorem bldLays167:Go.Proofs.Lays.n167 Tryz.prog bldRen:={
 mixed:=by kernel_rfl
 f167:= Tryz.func172.trans (congrArg some (by kernel_rfl))
 f240:= Tryz.func203.trans (congrArg some (by kernel_rfl))
 f276:= Tryz.func213.trans (congrArg some (by kernel_rfl))
 t0:= Tryz.underlying0
 a0:= Tryz.isAgg0
 z0:= Tryz.sizeOf0
 v0:= Tryz.zeroValue0
 t4:= Tryz.underlying4
 a4:= Tryz.isAgg4
 z4:= Tryz.sizeOf4
 v4:= Tryz.zeroValue4
 t5:= Tryz.underlying5
 a5:= Tryz.isAgg5
 z5:= Tryz.sizeOf5
 v5:= Tryz.zeroValue5
 t9:= Tryz.underlying9
 a9:= Tryz.isAgg9
 z9:= Tryz.sizeOf9
 v9:= Tryz.zeroValue9
 t20:= Tryz.underlying20
 a20:= Tryz.isAgg20
 z20:= Tryz.sizeOf20
 v20:= Tryz.zeroValue20
 t37:= Tryz.underlying167
 a37:= Tryz.isAgg167
 z37:= Tryz.sizeOf167
 v37:= Tryz.zeroValue167
 t70:= Tryz.underlying229
 a70:= Tryz.isAgg229
 z70:= Tryz.sizeOf229
 v70:= Tryz.zeroValue229
 t72:= Tryz.underlying231
 a72:= Tryz.isAgg231
 z72:= Tryz.sizeOf231
 v72:= Tryz.zeroValue231
 t75:= Tryz.underlying234
 a75:= Tryz.isAgg234
 z75:= Tryz.sizeOf234
 v75:= Tryz.zeroValue234
 t164:= Tryz.underlying270
 a164:= Tryz.isAgg270
 z164:= Tryz.sizeOf270
 v164:= Tryz.zeroValue270}
theorem bldLays169:Go.Proofs.Lays.n169 Tryz.prog bldRen:={
 mixed:=by kernel_rfl
 f169:= Tryz.func174.trans (congrArg some (by kernel_rfl))
 t0:= Tryz.underlying0
 a0:= Tryz.isAgg0
 z0:= Tryz.sizeOf0
 v0:= Tryz.zeroValue0
 t3:= Tryz.underlying3
 a3:= Tryz.isAgg3
 z3:= Tryz.sizeOf3
 v3:= Tryz.zeroValue3
 t9:= Tryz.underlying9
 a9:= Tryz.isAgg9
 z9:= Tryz.sizeOf9
 v9:= Tryz.zeroValue9
 t37:= Tryz.underlying167
 a37:= Tryz.isAgg167
 z37:= Tryz.sizeOf167
 v37:= Tryz.zeroValue167
 t70:= Tryz.underlying229
 a70:= Tryz.isAgg229
 z70:= Tryz.sizeOf229
 v70:= Tryz.zeroValue229
 t72:= Tryz.underlying231
 a72:= Tryz.isAgg231
 z72:= Tryz.sizeOf231
 v72:= Tryz.zeroValue231
 t127:= Tryz.underlying261
 a127:= Tryz.isAgg261
 z127:= Tryz.sizeOf261
 v127:= Tryz.zeroValue261}
theorem bldExtra:Builder.Extra Tryz.prog bldRen:={
 sizeBuilder:=by kernel_rfl
 liesBuilder:=by kernel_rfl
 t5:= Tryz.underlying5
 a5:= Tryz.isAgg5
 z5:= Tryz.sizeOf5
 v5:= Tryz.zeroValue5
 infoByte:=by kernel_rfl
 cellsByte:=by kernel_rfl
 sizeByte:=by kernel_rfl
 neB5:=by decide}
def Bld (B b:Nat)(l:List UInt8)(w:World):Prop:=Lib.IsBuilderF 231 5 B b (Lib.byteCells l) w
theorem bld_grow (B b n:Nat)(w:World)(hB:B≤b)(hbk:w.heap[b]? =some (.cells #[.pointer none,.slice none 0 0] 231 (0,0)))(hBw:B≤w.heap.size)(hn:n≤281474976710656):
  Calls Tryz.prog 171 #[.pointer (some ⟨b,0,none⟩),.int .i64 n] w fun e w'=>e= .returned (.tuple #[])∧(Lib.BuilderAt 231 5 B b (.pointer (some ⟨b,0,none⟩)) [] w'∧Below B w w'):=Any.Builder_Grow_fresh bldLays165 bldExtra B b n w hB hbk hBw hn
theorem bld_byte (B b:Nat)(bs:List Value)(c:Int)(w:World)(h:Lib.IsBuilderF 231 5 B b bs w)(hlen:bs.length+1≤140737488355328)(hBw:B≤w.heap.size):
  Calls Tryz.prog 172 #[.pointer (some ⟨b,0,none⟩),.int .u8 c] w fun e w'=>e= .returned .nilIface∧(Lib.BuilderAtF 231 5 B b (.pointer (some ⟨b,0,none⟩)) (bs++[.int .u8 c]) w'∧Below B w w'∧Lib.OthersKept 5 (some b) w w'):=Any.Builder_WriteByte_k bldLays167 bldExtra B b bs c w h hlen hBw
theorem bld_string (B b:Nat)(bs:List Value)(s:ByteArray)(w:World)(h:Lib.IsBuilderF 231 5 B b bs w)(hlen:bs.length+s.size≤140737488355328)(hBw:B≤w.heap.size):
  Calls Tryz.prog 173 #[.pointer (some ⟨b,0,none⟩),.string s] w fun e w'=>e= .returned (.tuple #[.int .i64 s.size,.nilIface])∧(Lib.BuilderAtF 231 5 B b (.pointer (some ⟨b,0,none⟩)) (bs++Lib.strCells s) w'∧Below B w w'∧Lib.OthersKept 5 (some b) w w'):=Any.Builder_WriteString_k bldLays166 bldExtra B b bs s w h hlen hBw
theorem bld_text (B b:Nat)(l:List UInt8)(w:World)(h:Lib.IsBuilderF 231 5 B b (Lib.byteCells l) w)(hBw:B≤w.heap.size):
  Calls Tryz.prog 174 #[.pointer (some ⟨b,0,none⟩)] w fun e w'=>e= .returned (.string ⟨l.toArray⟩)∧(Lib.IsBuilderF 231 5 B b (Lib.byteCells l) w'∧Below B w w'∧Lib.OthersKept 5 (some b) w w'):=Any.Builder_String_any_k bldLays169 bldExtra B b l w h hBw
open Go.RowKit
def cellsI (l:List Int):List Value:=l.map (Value.int .u8)
theorem cellsI_length (l:List Int):(cellsI l).length=l.length:=by simp [cellsI]
theorem cellsI_append (a b:List Int):cellsI a++cellsI b=cellsI (a++b):=by simp [cellsI]
theorem strCells_nums (l:List Int)(h:∀b∈l,0≤b∧b≤255):Lib.strCells (strOfNums l)=cellsI l:=by
 simp only [Lib.strCells,strOfNums_data,List.map_map,cellsI]
 apply List.map_congr_left
 intro a ha
 have:=h a ha
 simp [UInt8.toNat_ofNat]
 omega
theorem byteCells_nums (l:List Int)(h:∀b∈l,0≤b∧b≤255):Lib.byteCells (l.map fun n=>UInt8.ofNat n.toNat)=cellsI l:=by
 simp only [Lib.byteCells,List.map_map,cellsI]
 apply List.map_congr_left
 intro a ha
 have:=h a ha
 simp [UInt8.toNat_ofNat]
 omega
def Bat (g:Nat)(l:List Int)(w:World):Prop:=Lib.BuilderAtF 231 5 g g (.pointer (some ⟨g,0,none⟩)) (cellsI l) w
theorem Bat.later {g:Nat}{l:List Int}{w w':World}(h:Bat g l w)(hb:Below w.heap.size w w'):Bat g l w':=by
 obtain⟨hB,v,hbk,hown,hne⟩:=h
 have hlt:g<w.heap.size:=Lib.BuilderAtF.lt ⟨hB,v,hbk,hown,hne⟩
 refine⟨hB,v,(hb.block g hlt).trans hbk,?_,hne⟩
 exact hown.kept (grown_of_below hb) (by cases hv:v.ownBlock with
  |none=>exact .inl rfl
  |some k=>exact .inr (by simp))
theorem grow_at (w:World)(n:Nat)(hn:n≤1000000):Calls Tryz.prog 171 #[.pointer (some ⟨w.heap.size,0,none⟩),.int .i64 n] (w.alloc (.cells #[.pointer none,.slice none 0 0] 231))
  fun e w'=>e= .returned (.tuple #[])∧Bat w.heap.size [] w'∧Below w.heap.size w w':=by
 refine(bld_grow w.heap.size w.heap.size n _ (Nat.le_refl _) (heap_alloc_new w _) (by simp [World.size_alloc]) (by omega)).mono fun e w' h=> ?_
 exact⟨h.1,Lib.BuilderAtF.of h.2.1,((Below.refl _ _).alloc (Nat.le_refl _) _).trans h.2.2⟩
theorem byte_at (w wr:World)(l:List Int)(c:Int)(hb:Below w.heap.size w wr)(h:Bat w.heap.size l wr)(hl:l.length≤10000000):Calls Tryz.prog 172 #[.pointer (some ⟨w.heap.size,0,none⟩),.int .u8 c] wr
  fun e w'=>e= .returned .nilIface∧Bat w.heap.size (l++[c]) w'∧Below w.heap.size w w':=by
 refine(bld_byte w.heap.size w.heap.size (cellsI l) c wr (.inr h) (by rw [cellsI_length];omega) hb.size).mono fun e w' h=> ?_
 refine⟨h.1,?_,hb.trans h.2.2.1⟩
 have:=h.2.1
 rwa [show cellsI l++[Value.int .u8 c]=cellsI (l++[c])by simp [cellsI]]at this
theorem string_at (w wr:World)(l m:List Int)(hb:Below w.heap.size w wr)(h:Bat w.heap.size l wr)(hl:l.length≤10000000)(hm:m.length≤1000)(hr:∀b∈m,0≤b∧b≤255):Calls Tryz.prog 173 #[.pointer (some ⟨w.heap.size,0,none⟩),.string (strOfNums m)] wr
  fun e w'=>(∃k,e= .returned (.tuple #[.int .i64 k,.nilIface]))∧Bat w.heap.size (l++m) w'∧Below w.heap.size w w':=by
 refine(bld_string w.heap.size w.heap.size (cellsI l) (strOfNums m) wr (.inr h) (by rw [cellsI_length,strOfNums_size];omega) hb.size).mono fun e w' h=> ?_
 refine⟨⟨_,h.1⟩,?_,hb.trans h.2.2.1⟩
 have:=h.2.1
 rwa [strCells_nums m hr,cellsI_append]at this
theorem text_at (w wr:World)(l:List Int)(hb:Below w.heap.size w wr)(h:Bat w.heap.size l wr)(hr:∀b∈l,0≤b∧b≤255):Calls Tryz.prog 174 #[.pointer (some ⟨w.heap.size,0,none⟩)] wr
  fun e w'=>e= .returned (.string (strOfNums l))∧Below w.heap.size w w':=by
 have h':Lib.IsBuilderF 231 5 w.heap.size w.heap.size (Lib.byteCells (l.map fun n=>UInt8.ofNat n.toNat)) wr:=by
  rw [byteCells_nums l hr];exact .inr h
 refine(bld_text w.heap.size w.heap.size _ wr h' hb.size).mono fun e w' h=> ?_
 exact⟨h.1,hb.trans h.2.2.1⟩
theorem put_low (r:Int)(h0:0≤r)(h1:r<128):putS r=[r]:=by
 unfold putS scal
 rw [if_pos ((okS_iff r).2 (by omega))]
 unfold putI
 rw [if_pos h1]
set_option maxHeartbeats 1000000 in
theorem enc_any (A:Option Addr)(n c:Nat)(p:Nat→Int)(w:World)(hn:n≤1000000)(hA:Rd w A n (iv p))(hp:∀j,j<n→ -2147483648≤p j∧p j≤2147483647):
  Calls Tryz.prog 124 #[.slice A n c] w (TellsS (encU (upToU p n)) w):=by
 have HA:=Lib.hid hA
 have HP:=Lib.hid hp
 clear hA hp
 go_enter Tryz.func124,Tryz.ntmps124
 go_wp2_with (go_at_call 171;refine(grow_at _ _ hn).mono ?_;rintro e w1 ⟨rfl,hg1,hb1⟩)
 go_loopw [5,11] (fun _ i wr=>∃k:Nat,k≤n∧i= .int .i64 k∧Hid (Bat w.heap.size (encU (upToU p k)) wr∧Below w.heap.size w wr)) (fun _ i _=>n -(intOf i).toNat)
 case atStart=>exact⟨0,Nat.zero_le _,rfl,⟨hg1,hb1⟩⟩
 case round=>
  obtain⟨k,hk,rfl,HB⟩:=hrel
  by_cases hlt:k<n
  ·obtain⟨b,o,rfl,hbl,hc⟩:=HA.out.later HB.out.2 k hlt
   unfold iv at hc
   have hrng:=HP.out k hlt
   have h0:=hrng.1
   have h1:=hrng.2
   have hl1:=encU_len (upToU p k)
   rw [upTo_len]at hl1
   have hl2:(encU (upToU p k)).length≤10000000:=by omega
   have hl3:=(putS_range (p k)).2.2
   have HR:=Lib.hid (putS_range (p k)).1
   clear hrng hl1
   by_cases c1:0≤p k
   ·by_cases c2:p k<128
    ·have HE:=Lib.hid (put_low (p k) c1 c2)
     clear hl3
     go_wp2_with (go_at_call 172;refine(byte_at w _ _ (p k) HB.out.2 HB.out.1 hl2).mono ?_;rintro e w2 ⟨rfl,hg2,hb2⟩;have HG:=Lib.hid (And.intro hg2 hb2);clear hg2 hb2)
     go_roundw
     case rel=>exact⟨k+1,by omega,by go_num,⟨by rw [enc_succ,HE.out];exact HG.out.1,HG.out.2⟩⟩
     case measure=>simp [intOf];omega
    ·have d2:decide (p k<128)=false:=decide_eq_false c2
     clear c2
     go_wp2_with (first
      |(go_at_call 123;refine(put_any _ _ h0 h1).mono ?_;rintro e w2 ⟨rfl,hb2⟩;have HG:=Lib.hid (And.intro (HB.out.1.later hb2) (HB.out.2.trans (hb2.mono HB.out.2.size)));clear hb2)
      |(go_at_call 173;refine(string_at w _ _ _ HG.out.2 HG.out.1 hl2 (by omega) HR.out).mono ?_;rintro e w3 ⟨⟨q,rfl⟩,hg3,hb3⟩;have HJ:=Lib.hid (And.intro hg3 hb3);clear hg3 hb3))
     go_roundw
     case rel=>exact⟨k+1,by omega,by go_num,⟨by rw [enc_succ];exact HJ.out.1,HJ.out.2⟩⟩
     case measure=>simp [intOf];omega
   ·have d1:decide (0≤p k)=false:=decide_eq_false c1
    clear c1
    go_wp2_with (first
      |(go_at_call 123;refine(put_any _ _ h0 h1).mono ?_;rintro e w2 ⟨rfl,hb2⟩;have HG:=Lib.hid (And.intro (HB.out.1.later hb2) (HB.out.2.trans (hb2.mono HB.out.2.size)));clear hb2)
      |(go_at_call 173;refine(string_at w _ _ _ HG.out.2 HG.out.1 hl2 (by omega) HR.out).mono ?_;rintro e w3 ⟨⟨q,rfl⟩,hg3,hb3⟩;have HJ:=Lib.hid (And.intro hg3 hb3);clear hg3 hb3))
    go_roundw
    case rel=>exact⟨k+1,by omega,by go_num,⟨by rw [enc_succ];exact HJ.out.1,HJ.out.2⟩⟩
    case measure=>simp [intOf];omega
  ·obtain rfl:k=n:=by omega
   go_wp2_with (go_at_call 174;refine(text_at w _ _ HB.out.2 HB.out.1 (encI_range _)).mono ?_;rintro e w1 ⟨rfl,hb1⟩)
   go_ret
   exact⟨rfl,hb1⟩
namespace GY
structure Kw where
 br:Int→Int
 pc:Int→Bool
 wd:Int→Bool
def picB (K:Kw)(c:List Int):Bool:=decide (1<c.length)&&(K.pc (c.getD 0 0)&&(c.drop 1).contains 65039)
def flgB (K:Kw)(c:List Int):Bool:=decide (1<c.length)&&(K.br (c.getD 0 0)==6&&K.br (c.getD 1 0)==6)
def widthG (K:Kw)(c:List Int):Int:=if c.any K.wd=true then 2 else if picB K c=true then 2 else if flgB K c=true then 2 else 1
def ctlB (b:Int):Bool:=b==1||b==2||b==3
def extB (b:Int):Bool:=b==4||b==5||b==8
def ctlG (r:Int):List (List Int × Int):=if 0≤r∧r<32 then [([94],1),(putS (r+64),1)]else if r=127 then [([94],1),([63],1)]else [(putS 65533,1)]
def preC (K:Kw)(c:List Int):List Int:=if extB (K.br (c.getD 0 0))=true then [9676]else []
def sufC (K:Kw)(c:List Int):List Int:=if K.br (c.getD (c.length - 1) 0)=7 then [9676]else []
def fullC (K:Kw)(c:List Int):List Int:=preC K c++c++sufC K c
def wholeG (K:Kw)(c:List Int):List Int × Int:=(encU c,widthG K c)
def ofG (K:Kw)(c:List Int):List (List Int × Int):=if c=[]then []else if ctlB (K.br (c.getD 0 0))=true then c.flatMap ctlG else [wholeG K (fullC K c)]
theorem widthG_range (K:Kw)(c:List Int):widthG K c=1∨widthG K c=2:=by
 unfold widthG
 split
 ·exact .inr rfl
 ·split
  ·exact .inr rfl
  ·split
   ·exact .inr rfl
   ·exact .inl rfl
theorem fullC_len (K:Kw)(c:List Int):(fullC K c).length≤c.length+2:=by
 unfold fullC preC sufC
 split<;>split<;>simp<;>omega
theorem ctlG_len (r:Int):(ctlG r).length≤2∧1≤(ctlG r).length:=by
 unfold ctlG
 split
 ·exact⟨by simp,by simp⟩
 ·split
  ·exact⟨by simp,by simp⟩
  ·exact⟨by simp,by simp⟩
end GY
def encG (g:List Int × Int):List Value:=[.string (strOfNums g.1),.int .i64 g.2]
theorem encG_len (g:List Int × Int):(encG g).length=2:=rfl
open Go.RowKit
def KG (T:List RW.Row):GY.Kw:=⟨breakB (vget 4 T),fun r=>at0 0 (vget 5 T) r==1,fun r=>at0 0 (vget 7 T) r==1⟩
theorem take_not {l:List Int}{v:Int}{k:Nat}(hk:k<l.length)(h:v ∉ l.take k)(e:v≠l.getD k 0):v ∉ l.take (k+1):=by
 rw [take_snoc' (x:=l.getD k 0) (by simp [List.getD,hk])]
 intro hm
 rcases List.mem_append.1 hm with hm|hm
 ·exact h hm
 ·exact e (List.mem_singleton.1 hm)
set_option maxHeartbeats 1000000 in
theorem index_any {A:Option Addr}{l:List Int}(c:Nat)(w:World)(hL:Li 1 encC w (fun _=>True) A l)(hn:l.length≤1000000)(v:Int):
  Calls Tryz.prog 117 #[.slice A l.length c,.int .i32 v] w fun e w'=>(∃i:Int,e= .returned (.int .i64 i)∧decide (0≤i)=l.contains v)∧w=w':=by
 have HL:=Lib.hid hL
 clear hL
 obtain⟨N,hN⟩:∃N,l.length=N:=⟨_,rfl⟩
 rw [hN]at hn ⊢
 have HN:=Lib.hid hN
 clear hN
 go_enter Tryz.func117,Tryz.ntmps117
 go_wp2
 go_loopw [5,8] (fun _ i wr=>∃k:Nat,k≤N∧i= .int .i64 k∧wr=w∧Hid (v ∉ l.take k)) (fun _ i _=>N -(intOf i).toNat)
 case atStart=>exact⟨0,Nat.zero_le _,rfl,rfl,Lib.hid (by simp)⟩
 case round=>
  obtain⟨k,hk,rfl,rfl,H⟩:=hrel
  by_cases hlt:k<N
  ·obtain⟨b,o,rfl,hb,_,hcell⟩:=HL.out.scs (by have:=HN.out;omega)
   have h0:=hcell k (by have:=HN.out;omega)
   obtain⟨x,hx⟩:∃x,l.getD k 0=x:=⟨_,rfl⟩
   rw [hx]at h0
   have HX:=Lib.hid hx
   clear hcell hx
   by_cases e:v=x
   ·subst e
    go_wp2
    go_ret
    refine⟨⟨k,rfl,?_⟩,rfl⟩
    rw [show decide ((0:Int)≤(k:Int))=true by simp,←HX.out]
    exact(List.contains_iff_mem.2 (by rw [show l.getD k 0=l[k]'(by have:=HN.out;omega)by simp [List.getD,show k<l.length by have:=HN.out;omega]];exact List.getElem_mem _)).symm
   ·have d:(v==x)=false:=by simpa using e
    have HE:=Lib.hid e
    clear e
    go_wp2
    go_roundw
    case rel=>exact⟨k+1,by omega,by go_num,trivial,Lib.hid (take_not (by have:=HN.out;omega) H.out (by rw [HX.out];exact HE.out))⟩
    case measure=>simp [intOf];omega
  ·obtain rfl:k=N:=by omega
   go_wp2
   go_ret
   refine⟨⟨-1,rfl,?_⟩,rfl⟩
   have h:=H.out
   rw [←HN.out,List.take_length]at h
   rw [show decide ((0:Int)≤ -1)=false from rfl]
   exact(Bool.eq_false_iff.2 (fun hc=>h (List.contains_iff_mem.1 hc))).symm
theorem contains_any {A:Option Addr}{l:List Int}(c:Nat)(w:World)(hL:Li 1 encC w (fun _=>True) A l)(hn:l.length≤1000000)(v:Int)(b:Bool)(hb:l.contains v=b):
  Calls Tryz.prog 70 #[.slice A l.length c,.int .i32 v] w fun e w'=>e= .returned (.bool b)∧w=w':=by
 have C:=Lib.hid (index_any c w hL hn v)
 obtain⟨N,hN⟩:∃N,l.length=N:=⟨_,rfl⟩
 rw [hN]at C ⊢
 have HB:=Lib.hid hb
 clear hL hb hN
 go_enter Tryz.func70,Tryz.ntmps70
 go_wp2_with fail
 refine C.out.mono ?_
 rintro e w1 ⟨⟨i,rfl,hi⟩,rfl⟩
 rw [HB.out]at hi
 clear C
 cases b
 ·have hi2:¬0≤i:=by simpa using hi
  clear hi2
  go_wp2
  go_ret
  exact⟨rfl,rfl⟩
 ·have hi2:0≤i:=by simpa using hi
  clear hi
  go_wp2
  go_ret
  exact⟨rfl,rfl⟩
section
variable {T:List RW.Row}{tp:Nat}{W:World}
theorem gwide (h:Tabs T tp W)(r:Int)(r0: -2147483648≤r)(r1:r≤2147483647):
  Calls Tryz.prog 68 #[.pointer (some ⟨tp,0,none⟩),.int .i32 r] W (fun e w'=>e= .returned (.bool ((KG T).wd r))∧Below W.heap.size W w'):=by
 obtain⟨lo,hi,_,h⟩:=h
 exact uwide h r r0 r1
theorem gpict (h:Tabs T tp W)(r:Int)(r0: -2147483648≤r)(r1:r≤2147483647):
  Calls Tryz.prog 69 #[.pointer (some ⟨tp,0,none⟩),.int .i32 r] W (fun e w'=>e= .returned (.bool ((KG T).pc r))∧Below W.heap.size W w'):=by
 obtain⟨lo,hi,_,h⟩:=h
 exact upict h r r0 r1
theorem gbrk (h:Tabs T tp W)(r:Int)(r0: -2147483648≤r)(r1:r≤2147483647):
  Calls Tryz.prog 71 #[.pointer (some ⟨tp,0,none⟩),.int .i32 r] W (fun e w'=>e= .returned (.int .i64 ((KG T).br r))∧Below W.heap.size W w'):=tbreak h r r0 r1
end
def restW (K:GY.Kw)(l:List Int):Int:=if GY.picB K l=true then 2 else if GY.flgB K l=true then 2 else 1
theorem any_take {l:List Int}{p:Int→Bool}{k:Nat}(hk:k<l.length)(h:(l.take k).any p=false)(e:p (l.getD k 0)=false):(l.take (k+1)).any p=false:=by
 rw [take_snoc' (x:=l.getD k 0) (by simp [List.getD,hk]),List.any_append,h]
 simp only [List.any_cons,List.any_nil,e]
 rfl
theorem any_at {l:List Int}{p:Int→Bool}{k:Nat}(hk:k<l.length)(e:p (l.getD k 0)=true):l.any p=true:=by
 rw [show l.getD k 0=l[k]by simp [List.getD,hk]]at e
 exact List.any_eq_true.2 ⟨_,List.getElem_mem hk,e⟩
set_option maxHeartbeats 8000000 in
set_option maxRecDepth 100000 in
theorem width_any {T:List RW.Row}{tp:Nat}{A:Option Addr}{l:List Int}(c:Nat)(w:World)(hT:Tabs T tp w)(hL:Li 1 encC w (fun _=>True) A l)(hsc:Sc l)(hc:l.length≤c)(hm:c≤maxLen)(hn:l.length≤100000):
  Calls Tryz.prog 21 #[.pointer (some ⟨tp,0,none⟩),.slice A l.length c] w fun e w'=>e= .returned (.int .i64 (GY.widthG (KG T) l))∧Below w.heap.size w w':=by
 have HL:=Lib.hid hL
 have HT:=Lib.hid hT
 have HS:=Lib.hid hsc
 obtain⟨V,hV⟩:∃V,GY.widthG (KG T) l=V:=⟨_,rfl⟩
 rw [hV]
 have HV:=Lib.hid hV
 obtain⟨N,hN⟩:∃N,l.length=N:=⟨_,rfl⟩
 rw [hN]at hc hn ⊢
 have HN:=Lib.hid hN
 unfold maxLen at hm
 clear hL hT hsc hV hN
 go_enter Tryz.func21,Tryz.ntmps21
 go_wp2
 go_loopw [6,9] (fun _ i wr=>∃k:Nat,k≤N∧i= .int .i64 k∧Hid (Below w.heap.size w wr∧(l.take k).any (KG T).wd=false)) (fun _ i _=>N -(intOf i).toNat)
 case atStart=>exact⟨0,Nat.zero_le _,rfl,⟨Below.refl _ _,rfl⟩⟩
 case round=>
  obtain⟨k,hk,rfl,H⟩:=hrel
  by_cases hlt:k<N
  ·obtain⟨b,o,rfl,hb,_,hcell⟩:=(HL.out.later H.out.1).scs (by have:=HN.out;omega)
   have h0:=hcell k (by have:=HN.out;omega)
   have hr:=HS.out.at (j:=k) (by have:=HN.out;omega)
   obtain⟨x,hx⟩:∃x,l.getD k 0=x:=⟨_,rfl⟩
   rw [hx]at h0 hr
   have HX:=Lib.hid hx
   have C:=Lib.hid (gwide (HT.out.later H.out.1) x hr.1 hr.2)
   obtain⟨q,hq⟩:∃q,(KG T).wd x=q:=⟨_,rfl⟩
   rw [hq]at C
   have HQ:=Lib.hid hq
   clear hcell hx hr hq
   go_wp2_with fail
   refine C.out.mono ?_
   rintro e w1 ⟨rfl,hb1⟩
   have H1:=Lib.hid (H.out.1.trans (hb1.mono H.out.1.size))
   clear C hb1
   cases q
   ·go_wp2
    go_roundw
    case rel=>exact⟨k+1,by omega,by go_num,⟨H1.out,any_take (by have:=HN.out;omega) H.out.2 (by rw [HX.out];exact HQ.out)⟩⟩
    case measure=>simp [intOf];omega
   ·obtain rfl:2=V:=by rw [←HV.out,GY.widthG,if_pos (any_at (k:=k) (by have:=HN.out;omega) (by rw [HX.out];exact HQ.out))]
    go_wp2
    go_ret
    exact⟨rfl,H1.out⟩
  ·obtain rfl:k=N:=by omega
   have HB:=Lib.hid H.out.1
   have HV2:=Lib.hid (show restW (KG T) l=V by
    have h:=H.out.2
    rw [←HN.out,List.take_length]at h
    rw [←HV.out];unfold GY.widthG;rw [if_neg (show ¬l.any (KG T).wd=true by simp [h])];rfl)
   clear H HV
   by_cases h1:1<k
   ·obtain⟨b,o,rfl,hb,_,hcell⟩:=(HL.out.later HB.out).scs (by have:=HN.out;omega)
    have h00:=hcell 0 (by have:=HN.out;omega)
    have h01:=hcell 1 (by have:=HN.out;omega)
    have hr0:=HS.out.at (j:=0) (by have:=HN.out;omega)
    have hr1:=HS.out.at (j:=1) (by have:=HN.out;omega)
    obtain⟨x,hx⟩:∃x,l.getD 0 0=x:=⟨_,rfl⟩
    obtain⟨y,hy⟩:∃y,l.getD 1 0=y:=⟨_,rfl⟩
    rw [hx]at h00 hr0
    rw [hy]at h01 hr1
    rw [Nat.add_zero]at h00
    have HC:=Lib.hid (fun(X:World) (hX:Below w.heap.size w X)=>contains_any (c - 1) X (((HL.out.later hX).drop 1)) (by rw [List.length_drop];have:=HN.out;omega) 65039 _ rfl)
    have CP:=Lib.hid (fun(X:World) (hX:Below w.heap.size w X)=>gpict (HT.out.later hX) x hr0.1 hr0.2)
    have CX:=Lib.hid (fun(X:World) (hX:Below w.heap.size w X)=>gbrk (HT.out.later hX) x hr0.1 hr0.2)
    have CY:=Lib.hid (fun(X:World) (hX:Below w.heap.size w X)=>gbrk (HT.out.later hX) y hr1.1 hr1.2)
    obtain⟨p,hp⟩:∃p,(KG T).pc x=p:=⟨_,rfl⟩
    obtain⟨u,hu⟩:∃u,(KG T).br x=u:=⟨_,rfl⟩
    obtain⟨v,hv⟩:∃v,(KG T).br y=v:=⟨_,rfl⟩
    obtain⟨q,hq⟩:∃q,(l.drop 1).contains 65039=q:=⟨_,rfl⟩
    rw [hp]at CP
    rw [hu]at CX
    rw [hv]at CY
    rw [hq]at HC
    have HV3:=Lib.hid (show (if (p&&q)=true then (2:Int)else if (u==6&&v==6)=true then 2 else 1)=V by
     rw [←HV2.out];unfold restW GY.picB GY.flgB
     rw [hx,hy,hp,hu,hv,hq,HN.out,show decide (1<k)=true by simpa using h1];simp only [Bool.true_and])
    have HCc:=Lib.hid (show ∀X,Below w.heap.size w X→Calls Tryz.prog 70 #[.slice (some ⟨b,o+1,none⟩) (k - 1) (c - 1),.int .i32 65039] X fun e w'=>e= .returned (.bool q)∧X=w' from fun X hX=>by
     have:=HC.out X hX
     rw [List.length_drop,HN.out,Nat.mul_one]at this
     exact this)
    clear hcell hr0 hr1 hx hy hp hu hv hq HC HV2
    have d1:(1:Int)<(k:Int):=by omega
    have d2:(1:Int)≤(k:Int):=by omega
    have d3:(k:Int)≤(c:Int):=by omega
    have d4:(1:Int)≠(c:Int):=by omega
    have d5:c≠1:=by omega
    have d6:(1:Int)<(c:Int):=by omega
    have d7:(c:Int)≠1:=by omega
    go_wp2_with fail
    refine(CP.out _ HB.out).mono ?_
    rintro e w1 ⟨rfl,hb1⟩
    have k0:=(hb1.cell (p:=⟨b,o,none⟩) hb).trans h00
    have k1:=(hb1.cell (p:=⟨b,o+1,none⟩) hb).trans h01
    have hbl:=Nat.lt_of_lt_of_le hb hb1.size
    have HB1:=Lib.hid (bStepS HB.out hb1)
    clear hb1 h00 h01 CP
    cases p
    ·have HV4:=Lib.hid (show (if (u==6&&v==6)=true then (2:Int)else 1)=V from HV3.out)
     clear HV3 HCc
     go_wp2_with fail
     refine(CX.out _ HB1.out).mono ?_
     rintro e w2 ⟨rfl,hb2⟩
     have m1:=(hb2.cell (p:=⟨b,o+1,none⟩) hbl).trans k1
     have HB2:=Lib.hid (bStepS HB1.out hb2)
     clear hb2 k0 k1
     by_cases hu:u=6
     ·subst hu
      go_wp2_with fail
      refine(CY.out _ HB2.out).mono ?_
      rintro e w3 ⟨rfl,hb3⟩
      have HB3:=Lib.hid (bStepS HB2.out hb3)
      clear hb3 m1
      by_cases hv:v=6
      ·subst hv
       obtain rfl:2=V:=HV4.out
       go_wp2
       go_ret
       exact⟨rfl,HB3.out⟩
      ·have dv:(v==6)=false:=by simpa using hv
       obtain rfl:1=V:=by rw [←HV4.out,dv];rfl
       clear hv
       go_wp2
       go_ret
       exact⟨rfl,HB3.out⟩
     ·have du:(u==6)=false:=by simpa using hu
      obtain rfl:1=V:=by rw [←HV4.out,du];rfl
      clear hu
      go_wp2
      go_ret
      exact⟨rfl,HB2.out⟩
    ·go_wp2_with fail
     refine(HCc.out _ HB1.out).mono ?_
     rintro e w4 ⟨rfl,rfl⟩
     clear HCc
     cases q
     ·have HV4:=Lib.hid (show (if (u==6&&v==6)=true then (2:Int)else 1)=V from HV3.out)
      clear HV3
      go_wp2_with fail
      refine(CX.out _ HB1.out).mono ?_
      rintro e w2 ⟨rfl,hb2⟩
      have m1:=(hb2.cell (p:=⟨b,o+1,none⟩) hbl).trans k1
      have HB2:=Lib.hid (bStepS HB1.out hb2)
      clear hb2 k0 k1
      by_cases hu:u=6
      ·subst hu
       go_wp2_with fail
       refine(CY.out _ HB2.out).mono ?_
       rintro e w3 ⟨rfl,hb3⟩
       have HB3:=Lib.hid (bStepS HB2.out hb3)
       clear hb3 m1
       by_cases hv:v=6
       ·subst hv
        obtain rfl:2=V:=HV4.out
        go_wp2
        go_ret
        exact⟨rfl,HB3.out⟩
       ·have dv:(v==6)=false:=by simpa using hv
        obtain rfl:1=V:=by rw [←HV4.out,dv];rfl
        clear hv
        go_wp2
        go_ret
        exact⟨rfl,HB3.out⟩
      ·have du:(u==6)=false:=by simpa using hu
       obtain rfl:1=V:=by rw [←HV4.out,du];rfl
       clear hu
       go_wp2
       go_ret
       exact⟨rfl,HB2.out⟩
     ·obtain rfl:2=V:=HV3.out
      go_wp2
      go_ret
      exact⟨rfl,HB1.out⟩
   ·obtain rfl:1=V:=by
     rw [←HV2.out];unfold restW GY.picB GY.flgB
     rw [HN.out,show decide (1<k)=false by simpa using h1]
     rfl
    have d1:decide ((1:Int)<(k:Int))=false:=by simp;omega
    clear h1
    go_wp2
    go_ret
    exact⟨rfl,HB.out⟩
open Go.RowKit
def rwS (K:GY.Kw)(l:List Int)(k:Nat):Bool:=(l.take k).any K.wd||(K.pc (l.getD 0 0)&&((l.take k).drop 1).contains 65039)
theorem rwS_zero (K:GY.Kw)(l:List Int):rwS K l 0=false:=by simp [rwS]
theorem rwS_succ {K:GY.Kw}{l:List Int}{k:Nat}(hk:k<l.length):rwS K l (k+1)=(rwS K l k||K.wd (l.getD k 0)||(decide (0<k)&&(l.getD k 0==65039&&K.pc (l.getD 0 0)))):=by
 unfold rwS
 rw [take_snoc' (x:=l.getD k 0) (by simp [List.getD,hk])]
 rcases k with _|k
 ·simp
 ·have hl:(l.take (k+1)).length=k+1:=by rw [List.length_take];omega
  rw [List.drop_append_of_le_length (by omega),List.any_append]
  have e:((l.take (k+1)).drop 1++[l.getD (k+1) 0]).contains 65039=(((l.take (k+1)).drop 1).contains 65039||(l.getD (k+1) 0==65039)):=by
   rw [List.contains_append]
   congr 1
   simp only [List.contains_cons,List.contains_nil,Bool.or_false]
   exact Bool.beq_comm
  rw [e]
  simp only [List.any_cons,List.any_nil,Bool.or_false,show decide (0<k+1)=true by simp,Bool.true_and]
  generalize (l.take (k+1)).any K.wd=p1
  generalize ((l.take (k+1)).drop 1).contains 65039=p2
  generalize K.wd (l.getD (k+1) 0)=p3
  generalize K.pc (l.getD 0 0)=p4
  generalize (l.getD (k+1) 0==65039)=p5
  cases p1<;>cases p2<;>cases p3<;>cases p4<;>cases p5<;>rfl
theorem rwS_end (K:GY.Kw)(l:List Int):GY.widthG K l=if GY.flgB K l=true then 2 else if rwS K l l.length=true then 2 else 1:=by
 have e:rwS K l l.length=(l.any K.wd||GY.picB K l):=by
  unfold rwS GY.picB
  rw [List.take_length]
  rcases Nat.lt_or_ge 1 l.length with h|h
  ·rw [show decide (1<l.length)=true by simpa using h,Bool.true_and]
  ·rw [List.drop_eq_nil_of_le h]
   simp
 rw [e]
 unfold GY.widthG
 generalize l.any K.wd=p1
 generalize GY.picB K l=p2
 generalize GY.flgB K l=p3
 cases p1<;>cases p2<;>cases p3<;>rfl
def nwV (b:Bool):Value:= .int .i64 (if b=true then 2 else 1)
theorem nwV_true:nwV true= .int .i64 2:=rfl
theorem nwV_false:nwV false= .int .i64 1:=rfl
section
variable {W:World}{A:Option Addr}{c:Nat}{T:List RW.Row}{A2:Option Addr}{l:List Int}
theorem RT.is1 (h:RT W A c T A2 l){j:Nat}(hj:j<l.length)(k:Int)(q:Bool)(hq:(at0 0 (vget k T) (l.getD j 0)==1)=q):Calls Tryz.prog 72 #[.slice A T.length c,.int .i64 k,.int .i32 (l.getD j 0)] W fun e w'=>(∃v:Int,e= .returned (.int .i64 v)∧(v==1)=q)∧W=w':=by
 refine(RW.ofR_any A c T k _ W h.rows h.rc h.rn (h.sc.at hj).1 (h.sc.at hj).2).mono ?_
 rintro e w' ⟨rfl,rfl⟩
 rw [aR_eq]
 exact⟨⟨_,rfl,hq⟩,rfl⟩
end
set_option maxHeartbeats 8000000 in
set_option maxRecDepth 100000 in
theorem rwidth_any {T:List RW.Row}{A A2:Option Addr}{l:List Int}{c:Nat}(c2:Nat)(w:World)(h:RT w A c T A2 l)(hc2:l.length≤c2):
  Calls Tryz.prog 22 #[.slice A T.length c,.slice A2 l.length c2] w fun e w'=>e= .returned (.int .i64 (GY.widthG (KG T) l))∧w=w':=by
 have HR:=Lib.hid h
 obtain⟨V,hV⟩:∃V,GY.widthG (KG T) l=V:=⟨_,rfl⟩
 rw [hV]
 have HV:=Lib.hid hV
 obtain⟨N,hN⟩:∃N,l.length=N:=⟨_,rfl⟩
 have hn:=h.ln
 rw [hN]at hc2 hn ⊢
 have HN:=Lib.hid hN
 clear h hV hN
 go_enter Tryz.func22,Tryz.ntmps22
 go_wp2
 go_loopw [5,6] (fun v i wr=>∃ (k:Nat) (s:Bool),k≤N∧i= .int .i64 k∧v=nwV s∧wr=w∧Hid (rwS (KG T) l k=s)) (fun _ i _=>N -(intOf i).toNat)
 case atStart=>exact⟨0,false,Nat.zero_le _,rfl,rfl,rfl,Lib.hid (rwS_zero _ _)⟩
 case round=>
  obtain⟨k,s,hk,rfl,rfl,rfl,HS⟩:=hrel
  by_cases hlt:k<N
  ·obtain⟨b,o,rfl,hb,_,hcell⟩:=HR.out.txt.scs (by have:=HN.out;omega)
   have k0:=hcell 0 (by have:=HN.out;omega)
   rw [Nat.add_zero]at k0
   have kk:=hcell k (by have:=HN.out;omega)
   have C7:=Lib.hid (HR.out.is1 (j:=k) (by have:=HN.out;omega) 7 _ rfl)
   have C5:=Lib.hid (HR.out.is1 (j:=0) (by have:=HN.out;omega) 5 _ rfl)
   have hu:=rwS_succ (K:=KG T) (l:=l) (k:=k) (by have:=HN.out;omega)
   rw [HS.out]at hu
   obtain⟨x,hx⟩:∃x,l.getD k 0=x:=⟨_,rfl⟩
   obtain⟨y,hy⟩:∃y,l.getD 0 0=y:=⟨_,rfl⟩
   rw [hx]at kk C7 hu
   rw [hy]at k0 C5 hu
   obtain⟨q,hq⟩:∃q,(at0 0 (vget 7 T) x==1)=q:=⟨_,rfl⟩
   obtain⟨p,hp⟩:∃p,(at0 0 (vget 5 T) y==1)=p:=⟨_,rfl⟩
   have HU:=Lib.hid (show rwS (KG T) l (k+1)=(s||q||(decide (0<k)&&(x==65039&&p)))by rw [hu,←hq,←hp];rfl)
   rw [hq]at C7
   rw [hp]at C5
   clear hcell hx hy hq hp hu
   go_wp2_with fail
   refine C7.out.mono ?_
   rintro e w1 ⟨⟨v7,rfl,h7⟩,rfl⟩
   clear C7
   cases q
   ·skip
    by_cases hk0:0<k
    ·have d1:(0:Int)<(k:Int):=by omega
     have e1:decide (0<k)=true:=by simpa using hk0
     by_cases hx:x=65039
     ·subst hx
      go_wp2_with fail
      refine C5.out.mono ?_
      rintro e w2 ⟨⟨v5,rfl,h5⟩,rfl⟩
      clear C5
      cases p
      ·skip
       skip
       go_wp2
       go_roundw
       case rel=>exact⟨k+1,s,by omega,by go_num,rfl,trivial,Lib.hid (by rw [HU.out,e1];cases s<;>rfl)⟩
       case measure=>simp [intOf];omega
      ·obtain rfl:v5=1:=by simpa using h5
       clear h5
       go_wp2
       go_roundw
       case rel=>exact⟨k+1,true,by omega,by go_num,rfl,trivial,Lib.hid (by rw [HU.out,e1];cases s<;>rfl)⟩
       case measure=>simp [intOf];omega
     ·have dx:(x==65039)=false:=by simpa using hx
      clear hx
      go_wp2
      go_roundw
      case rel=>exact⟨k+1,s,by omega,by go_num,rfl,trivial,Lib.hid (by rw [HU.out,e1,dx];cases s<;>rfl)⟩
      case measure=>simp [intOf];omega
    ·have d1:decide ((0:Int)<(k:Int))=false:=by simp;omega
     have e1:decide (0<k)=false:=by simpa using hk0
     clear hk0
     go_wp2
     go_roundw
     case rel=>exact⟨k+1,s,by omega,by go_num,rfl,trivial,Lib.hid (by rw [HU.out,e1];cases s<;>rfl)⟩
     case measure=>simp [intOf];omega
   ·obtain rfl:v7=1:=by simpa using h7
    clear h7
    by_cases hk0:0<k
    ·have d1:(0:Int)<(k:Int):=by omega
     have e1:decide (0<k)=true:=by simpa using hk0
     by_cases hx:x=65039
     ·subst hx
      go_wp2_with fail
      refine C5.out.mono ?_
      rintro e w2 ⟨⟨v5,rfl,h5⟩,rfl⟩
      clear C5
      cases p
      ·skip
       skip
       go_wp2
       go_roundw
       case rel=>exact⟨k+1,true,by omega,by go_num,rfl,trivial,Lib.hid (by rw [HU.out,e1];cases s<;>rfl)⟩
       case measure=>simp [intOf];omega
      ·obtain rfl:v5=1:=by simpa using h5
       clear h5
       go_wp2
       go_roundw
       case rel=>exact⟨k+1,true,by omega,by go_num,rfl,trivial,Lib.hid (by rw [HU.out,e1];cases s<;>rfl)⟩
       case measure=>simp [intOf];omega
     ·have dx:(x==65039)=false:=by simpa using hx
      clear hx
      go_wp2
      go_roundw
      case rel=>exact⟨k+1,true,by omega,by go_num,rfl,trivial,Lib.hid (by rw [HU.out,e1,dx];cases s<;>rfl)⟩
      case measure=>simp [intOf];omega
    ·have d1:decide ((0:Int)<(k:Int))=false:=by simp;omega
     have e1:decide (0<k)=false:=by simpa using hk0
     clear hk0
     go_wp2
     go_roundw
     case rel=>exact⟨k+1,true,by omega,by go_num,rfl,trivial,Lib.hid (by rw [HU.out,e1];cases s<;>rfl)⟩
     case measure=>simp [intOf];omega
  ·obtain rfl:k=N:=by omega
   have HE:=Lib.hid (show (if GY.flgB (KG T) l=true then (2:Int)else if s=true then 2 else 1)=V by rw [←HV.out,rwS_end,HN.out,HS.out])
   clear HV HS
   by_cases h1:1<k
   ·obtain⟨b,o,rfl,hb,_,hcell⟩:=HR.out.txt.scs (by have:=HN.out;omega)
    have k0:=hcell 0 (by have:=HN.out;omega)
    rw [Nat.add_zero]at k0
    have k1:=hcell 1 (by have:=HN.out;omega)
    have CX:=Lib.hid (HR.out.br (j:=0) (by have:=HN.out;omega))
    have CY:=Lib.hid (HR.out.br (j:=1) (by have:=HN.out;omega))
    have hf:GY.flgB (KG T) l=((KT T).br (l.getD 0 0)==6&&(KT T).br (l.getD 1 0)==6):=by unfold GY.flgB;rw [HN.out,show decide (1<k)=true by simpa using h1,Bool.true_and];rfl
    obtain⟨x,hx⟩:∃x,l.getD 0 0=x:=⟨_,rfl⟩
    obtain⟨y,hy⟩:∃y,l.getD 1 0=y:=⟨_,rfl⟩
    rw [hx]at k0 CX hf
    rw [hy]at k1 CY hf
    obtain⟨u,hu⟩:∃u,(KT T).br x=u:=⟨_,rfl⟩
    obtain⟨v,hv⟩:∃v,(KT T).br y=v:=⟨_,rfl⟩
    rw [hu]at CX hf
    rw [hv]at CY hf
    have HF:=Lib.hid hf
    have d1:(1:Int)<(k:Int):=by omega
    clear hcell hx hy hu hv hf
    go_wp2_with fail
    refine CX.out.mono ?_
    rintro e w2 ⟨rfl,rfl⟩
    clear CX k0
    by_cases hu:u=6
    ·subst hu
     go_wp2_with fail
     refine CY.out.mono ?_
     rintro e w3 ⟨rfl,rfl⟩
     clear CY k1
     by_cases hv:v=6
     ·subst hv
      obtain rfl:2=V:=by rw [←HE.out,HF.out];rfl
      go_wp2
      go_ret
      exact⟨rfl,rfl⟩
     ·have dv:(v==6)=false:=by simpa using hv
      have HS:=Lib.hid (show nwV s= .int .i64 V by rw [←HE.out,HF.out,dv];rfl)
      clear hv HE
      go_wp2
      go_ret
      exact⟨congrArg Ending.returned HS.out,rfl⟩
    ·have du:(u==6)=false:=by simpa using hu
     have HS:=Lib.hid (show nwV s= .int .i64 V by rw [←HE.out,HF.out,du];rfl)
     clear hu HE
     go_wp2
     go_ret
     exact⟨congrArg Ending.returned HS.out,rfl⟩
   ·have d1:decide ((1:Int)<(k:Int))=false:=by simp;omega
    have HS:=Lib.hid (show nwV s= .int .i64 V by rw [←HE.out,show GY.flgB (KG T) l=false by unfold GY.flgB;rw [HN.out,show decide (1<k)=false by simpa using h1];rfl];rfl)
    clear h1 HE
    go_wp2
    go_ret
    exact⟨congrArg Ending.returned HS.out,rfl⟩
open Go.RowKit
theorem encG_one (g:List Int × Int):∀u∈encG g,u.oneCell'=true:=by
 intro u hu
 simp only [encG,List.mem_cons,List.not_mem_nil,or_false]at hu
 rcases hu with rfl|rfl<;>rfl
theorem glyph_elt:Elt Tryz.prog 29 41 2 24:=elt_of Tryz.underlying29 (z:= .agg #[.string ⟨#[]⟩,.int .i64 0]) (by kernel_rfl) rfl (by decide)
theorem Pushed.step {w X Y Z:World}{base n1 n2 k c1 c2:Nat}{E:TypeId}{v:Value}{xs1 xs2:List Value}{A1 A2:Option Addr}(h:Pushed w X base E k v n1 xs1 A1 c1)(hb:Below X.heap.size X Y)(g:Pushed Y Z base E k (.slice A1 n1 c1) n2 xs2 A2 c2):Pushed w Z base E k v n2 xs2 A2 c2:=by
 have hs:w.heap.size≤X.heap.size:=h.grown.size
 have g0:X.grownBy Y (Value.slice A1 n1 c1).ownBlock:=⟨hb.os,hb.tape,hb.output,hb.size,fun k hk _=>hb.block k hk⟩
 have g1:X.grownBy Z (Value.slice A1 n1 c1).ownBlock:=g0.trans g.grown
 refine⟨g.own,⟨g1.os.trans h.grown.os,g1.tape.trans h.grown.tape,g1.output.trans h.grown.output,Nat.le_trans hs g1.size,fun i hi hne=> ?_⟩,?_⟩
 ·have e:some i≠(Value.slice A1 n1 c1).ownBlock:=by
   rcases h.at_ with e1|⟨q,e1,hq⟩
   ·rw [e1];exact hne
   ·rw [e1];intro e2;injection e2 with e2;omega
  exact(g1.block i (by omega) e).trans (h.grown.block i hi hne)
 ·rcases g.at_ with e1|⟨q,e1,hq⟩
  ·rw [e1]
   exact h.at_
  ·exact .inr ⟨q,e1,Nat.le_trans hs (Nat.le_trans hb.size hq)⟩
theorem Pushed.zero {w:World}{base n c k:Nat}{E:TypeId}{A:Option Addr}{xs:List Value}(h:w.ownsRow base E k (.slice A n c) n xs):Pushed w w base E k (.slice A n c) n xs A c:=⟨h,World.grownBy.refl _ _,.inl rfl⟩
def lenC (l:List Int)(k:Nat):Nat:=((l.take k).flatMap GY.ctlG).length
theorem ctl_succ {l:List Int}{k:Nat}(hk:k<l.length):(l.take (k+1)).flatMap GY.ctlG=(l.take k).flatMap GY.ctlG++GY.ctlG (l.getD k 0):=by
 rw [take_snoc' (x:=l.getD k 0) (by simp [List.getD,hk]),List.flatMap_append]
 simp
theorem lenC_succ {l:List Int}{k:Nat}(hk:k<l.length):lenC l (k+1)=lenC l k+(GY.ctlG (l.getD k 0)).length:=by
 unfold lenC
 rw [ctl_succ hk,List.length_append]
theorem lenC_le (l:List Int)(k:Nat):lenC l k≤2*k:=by
 unfold lenC
 induction k generalizing l with
 |zero=>simp
 |succ k ih=>
  cases l with
  |nil=>simp
  |cons x l=>
   simp only [List.take_succ_cons,List.flatMap_cons,List.length_append]
   have:=ih l
   have:=(GY.ctlG_len x).1
   omega
theorem str94:strOfNums [94]=⟨#[94]⟩:=rfl
theorem str63:strOfNums [63]=⟨#[63]⟩:=rfl
theorem ctl_lo {x:Int}(h0:0≤x)(h1:x<32):GY.ctlG x=[([94],1),(putS (x+64),1)]:=by unfold GY.ctlG;rw [if_pos ⟨h0,h1⟩]
theorem ctl_del:GY.ctlG 127=[([94],1),([63],1)]:=rfl
theorem ctl_bad {x:Int}(h0:¬(0≤x∧x<32))(h1:x≠127):GY.ctlG x=[(putS 65533,1)]:=by unfold GY.ctlG;rw [if_neg h0,if_neg h1]
set_option maxHeartbeats 8000000 in
set_option maxRecDepth 100000 in
theorem ctls_any {S:Nat→Prop}{A A2:Option Addr}{n cA base:Nat}{D:List (List Int × Int)}{l:List Int}(c2:Nat)(w:World)(hO:w.ownsRow base 41 2 (.slice A n cA) n (flatL encG D))(hB:base≤w.heap.size)(hL:Li 1 encC w S A2 l)(hS:∀b,S b→some b≠(Value.slice A n cA).ownBlock)(hsc:Sc l)(hn:n+2*l.length≤1000000):
  Calls Tryz.prog 115 #[.slice A n cA,.slice A2 l.length c2] w fun e w'=>∃A' c',e= .returned (.slice A' (n+(l.flatMap GY.ctlG).length) c')∧Pushed w w' base 41 2 (.slice A n cA) (n+(l.flatMap GY.ctlG).length) (flatL encG (D++l.flatMap GY.ctlG)) A' c':=by
 have HL:=Lib.hid hL
 have HS:=Lib.hid hS
 have HC:=Lib.hid hsc
 have H0:=Lib.hid (show Pushed w w base 41 2 (.slice A n cA) (n+lenC l 0) (flatL encG (D++(l.take 0).flatMap GY.ctlG)) A cA by
  have:=Pushed.zero hO
  simpa [lenC]using this)
 obtain⟨N,hN⟩:∃N,l.length=N:=⟨_,rfl⟩
 have HE:=Lib.hid (show n+(l.flatMap GY.ctlG).length=n+lenC l N∧D++l.flatMap GY.ctlG=D++(l.take N).flatMap GY.ctlG by rw [←hN];unfold lenC;rw [List.take_length];exact⟨rfl,rfl⟩)
 rw [hN]at hn ⊢
 rw [HE.out.1,HE.out.2]
 have HN:=Lib.hid hN
 clear hL hS hsc hO hN HE
 go_enter Tryz.func115,Tryz.ntmps115
 go_wp2
 go_loopw [0,6,9] (fun o _ i wr=>∃ (k q:Nat) (Ao:Option Addr) (co:Nat),k≤N∧i= .int .i64 k∧o= .slice Ao q co∧q≤n+2*k∧Hid (q=n+lenC l k∧Pushed w wr base 41 2 (.slice A n cA) q (flatL encG (D++(l.take k).flatMap GY.ctlG)) Ao co)) (fun _ _ i _=>N -(intOf i).toNat)
 case atStart=>exact⟨0,n,A,cA,Nat.zero_le _,rfl,rfl,by omega,⟨by simp [lenC],by have:=H0.out;simpa [lenC]using this⟩⟩
 case round=>
  obtain⟨k,q,Ao,co,hk,rfl,rfl,hq,H⟩:=hrel
  by_cases hlt:k<N
  ·obtain⟨b,o,rfl,hb,_,hcell⟩:=(HL.out.grown H.out.2.grown HS.out).scs (by have:=HN.out;omega)
   have h0:=hcell k (by have:=HN.out;omega)
   have hr:=HC.out.at (j:=k) (by have:=HN.out;omega)
   obtain⟨x,hx⟩:∃x,l.getD k 0=x:=⟨_,rfl⟩
   rw [hx]at h0 hr
   have HX:=Lib.hid (show lenC l (k+1)=lenC l k+(GY.ctlG x).length∧(l.take (k+1)).flatMap GY.ctlG=(l.take k).flatMap GY.ctlG++GY.ctlG x by
    rw [←hx];exact⟨lenC_succ (by have:=HN.out;omega),ctl_succ (by have:=HN.out;omega)⟩)
   have HQ:=Lib.hid (show base≤wr.heap.size from Nat.le_trans hB H.out.2.grown.size)
   have hr0:=hr.1
   have hr1:=hr.2
   have HW:=Lib.hid (fun(ys:List Value) (m:Nat) (hy:flatL encG (GY.ctlG x)=ys) (hm:(GY.ctlG x).length=m) (Y Z:World) (A3:Option Addr) (c3:Nat) (hYb:Below wr.heap.size wr Y) (hp:Pushed Y Z base 41 2 (.slice Ao q co) (q+m) (flatL encG (D++(l.take k).flatMap GY.ctlG)++ys) A3 c3)=>show q+m=n+lenC l (k+1)∧Pushed w Z base 41 2 (.slice A n cA) (q+m) (flatL encG (D++(l.take (k+1)).flatMap GY.ctlG)) A3 c3 by
    refine⟨by rw [HX.out.1,hm,H.out.1];omega,?_⟩
    have:=H.out.2.step hYb hp
    rw [HX.out.2,←List.append_assoc,flatL_append,hy]
    exact this)
   clear hcell hx hr
   by_cases c1:0≤x
   ·by_cases c2:x<32
    ·have CP:=Lib.hid (fun X=>put_any X (r:=x+64) (by omega) (by omega))
     have HF:=Lib.hid (show flatL encG (GY.ctlG x)=[.string ⟨#[94]⟩,.int .i64 1,.string (strOfNums (putS (x+64))),.int .i64 1]∧(GY.ctlG x).length=2 by rw [ctl_lo c1 c2];exact⟨rfl,rfl⟩)
     have hw64:IntKind.i32.wrap (x+64)=x+64:=IntWalk.i32_in _ (by omega)
     go_wp2_with (first
      |(go_at_call 123;refine(CP.out _).mono ?_;rintro e w1 ⟨rfl,hb1⟩;have HB1:=Lib.hid hb1;have HO1:=Lib.hid (own_later H.out.2.own hb1);have hz1:=Nat.le_trans HQ.out hb1.size;clear hb1)
      |(at_builtin;refine wpList_pushM (m:=2) glyph_elt HO1.out hz1 rfl rfl rfl rfl (by simp) rfl rfl (by unfold maxLen;omega) (by omega) ?_;intro A6 c6 w6 hp;have HP:=Lib.hid hp;clear hp))
     go_roundw
     case rel=>exact⟨k+1,q+2,A6,c6,by omega,by go_num,rfl,by omega,HW.out _ 2 HF.out.1 HF.out.2 _ _ _ _ HB1.out HP.out⟩
     case measure=>simp [intOf];omega
    ·have d2:decide (x<32)=false:=by simp;omega
     by_cases c3:x=127
     ·subst c3
      have HF:=Lib.hid (show flatL encG (GY.ctlG 127)=[.string ⟨#[94]⟩,.int .i64 1,.string ⟨#[63]⟩,.int .i64 1]∧(GY.ctlG 127).length=2 from⟨rfl,rfl⟩)
      have HO1:=Lib.hid H.out.2.own
      have hz1:=HQ.out
      go_wp2_with (at_builtin;refine wpList_pushM (m:=2) glyph_elt HO1.out hz1 rfl rfl rfl rfl (by simp) rfl rfl (by unfold maxLen;omega) (by omega) ?_;intro A6 c6 w6 hp;have HP:=Lib.hid hp;clear hp)
      go_roundw
      case rel=>exact⟨k+1,q+2,A6,c6,by omega,by go_num,rfl,by omega,HW.out _ 2 HF.out.1 HF.out.2 _ _ _ _ (Below.refl _ _) HP.out⟩
      case measure=>simp [intOf];omega
     ·have d3:(x==127)=false:=by simpa using c3
      have CP:=Lib.hid (fun X=>put_any X (r:=65533) (by omega) (by omega))
      have HF:=Lib.hid (show flatL encG (GY.ctlG x)=[.string (strOfNums (putS 65533)),.int .i64 1]∧(GY.ctlG x).length=1 by rw [ctl_bad (by omega) c3];exact⟨rfl,rfl⟩)
      go_wp2_with (first
       |(go_at_call 123;refine(CP.out _).mono ?_;rintro e w1 ⟨rfl,hb1⟩;have HB1:=Lib.hid hb1;have HO1:=Lib.hid (own_later H.out.2.own hb1);have hz1:=Nat.le_trans HQ.out hb1.size;clear hb1)
       |(at_builtin;refine wpList_pushM (m:=1) glyph_elt HO1.out hz1 rfl rfl rfl rfl (by simp) rfl rfl (by unfold maxLen;omega) (by omega) ?_;intro A6 c6 w6 hp;have HP:=Lib.hid hp;clear hp))
      go_roundw
      case rel=>exact⟨k+1,q+1,A6,c6,by omega,by go_num,rfl,by omega,HW.out _ 1 HF.out.1 HF.out.2 _ _ _ _ HB1.out HP.out⟩
      case measure=>simp [intOf];omega
   ·have d1:decide (0≤x)=false:=by simp;omega
    have d3:(x==127)=false:=by simp;omega
    have CP:=Lib.hid (fun X=>put_any X (r:=65533) (by omega) (by omega))
    have HF:=Lib.hid (show flatL encG (GY.ctlG x)=[.string (strOfNums (putS 65533)),.int .i64 1]∧(GY.ctlG x).length=1 by rw [ctl_bad (by omega) (by omega)];exact⟨rfl,rfl⟩)
    go_wp2_with (first
     |(go_at_call 123;refine(CP.out _).mono ?_;rintro e w1 ⟨rfl,hb1⟩;have HB1:=Lib.hid hb1;have HO1:=Lib.hid (own_later H.out.2.own hb1);have hz1:=Nat.le_trans HQ.out hb1.size;clear hb1)
     |(at_builtin;refine wpList_pushM (m:=1) glyph_elt HO1.out hz1 rfl rfl rfl rfl (by simp) rfl rfl (by unfold maxLen;omega) (by omega) ?_;intro A6 c6 w6 hp;have HP:=Lib.hid hp;clear hp))
    go_roundw
    case rel=>exact⟨k+1,q+1,A6,c6,by omega,by go_num,rfl,by omega,HW.out _ 1 HF.out.1 HF.out.2 _ _ _ _ HB1.out HP.out⟩
    case measure=>simp [intOf];omega
  ·obtain rfl:k=N:=by omega
   obtain rfl:=H.out.1
   go_wp2
   go_ret
   exact⟨_,_,rfl,H.out.2⟩
end Go.Proofs.YtlopleeopnnoeaaGreat
