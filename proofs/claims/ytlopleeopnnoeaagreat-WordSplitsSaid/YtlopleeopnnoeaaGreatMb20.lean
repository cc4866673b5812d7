import Derived.Test.YtlopleeopnnoeaaGreatMb07
import Derived.Test.YtlopleeopnnoeaaGreatMb01
set_option linter.unusedVariables false
set_option linter.unusedSimpArgs false
namespace Go.Proofs.YtlopleeopnnoeaaGreat.RW
set_option maxRecDepth 100000
def classesT:List Row:=[⟨1,768,788,230,0⟩,⟨1,789,789,232,0⟩,⟨1,790,793,220,0⟩,⟨1,794,794,232,0⟩,⟨1,795,795,216,0⟩,⟨1,796,800,220,0⟩,⟨1,801,802,202,0⟩,⟨1,803,806,220,0⟩,⟨1,807,808,202,0⟩,⟨1,809,819,220,0⟩,⟨1,820,824,1,0⟩,⟨1,825,828,220,0⟩,⟨1,829,836,230,0⟩,⟨1,837,837,240,0⟩,⟨1,838,838,230,0⟩,⟨1,839,841,220,0⟩,⟨1,842,844,230,0⟩,⟨1,845,846,220,0⟩,⟨1,848,850,230,0⟩,⟨1,851,854,220,0⟩,⟨1,855,855,230,0⟩,⟨1,856,856,232,0⟩,⟨1,857,858,220,0⟩,⟨1,859,859,230,0⟩,⟨1,860,860,233,0⟩,⟨1,861,862,234,0⟩,⟨1,863,863,233,0⟩,⟨1,864,865,234,0⟩,⟨1,866,866,233,0⟩,⟨1,867,879,230,0⟩,⟨1,1155,1159,230,0⟩,⟨1,1456,1456,10,0⟩,⟨1,1457,1457,11,0⟩,⟨1,1458,1458,12,0⟩,⟨1,1459,1459,13,0⟩,⟨1,1460,1460,14,0⟩,⟨1,1461,1461,15,0⟩,⟨1,1462,1462,16,0⟩,⟨1,1463,1463,17,0⟩,⟨1,1464,1464,18,0⟩,⟨1,1465,1466,19,0⟩,⟨1,1467,1467,20,0⟩,⟨1,1468,1468,21,0⟩,⟨1,1469,1469,22,0⟩,⟨1,1471,1471,23,0⟩,⟨1,1473,1473,24,0⟩,⟨1,1474,1474,25,0⟩,⟨1,1479,1479,18,0⟩,⟨1,1611,1611,27,0⟩,⟨1,1612,1612,28,0⟩,⟨1,1613,1613,29,0⟩,⟨1,1614,1614,30,0⟩,⟨1,1615,1615,31,0⟩,⟨1,1616,1616,32,0⟩,⟨1,1617,1617,33,0⟩,⟨1,1618,1618,34,0⟩,⟨1,1619,1620,230,0⟩,⟨1,1621,1622,220,0⟩,⟨1,1648,1648,35,0⟩,⟨1,2364,2364,7,0⟩,⟨1,2381,2381,9,0⟩,⟨1,2385,2385,230,0⟩,⟨1,2386,2386,220,0⟩,⟨1,2387,2388,230,0⟩,⟨1,2492,2492,7,0⟩,⟨1,2509,2509,9,0⟩,⟨1,3021,3021,9,0⟩,⟨1,3640,3641,103,0⟩,⟨1,3642,3642,9,0⟩,⟨1,3656,3659,107,0⟩,⟨1,3953,3953,129,0⟩,⟨1,3954,3954,130,0⟩,⟨1,3956,3956,132,0⟩,⟨1,8400,8401,230,0⟩,⟨1,8402,8403,1,0⟩,⟨1,8404,8407,230,0⟩,⟨1,8411,8412,230,0⟩,⟨1,8417,8417,230,0⟩,⟨1,8424,8424,220,0⟩,⟨1,12441,12442,8,0⟩,⟨1,65056,65062,230,0⟩,⟨1,119141,119141,216,0⟩]
def pairsT:List Row:=[⟨2,192,192,65,768⟩,⟨2,193,193,65,769⟩,⟨2,194,194,65,770⟩,⟨2,195,195,65,771⟩,⟨2,196,196,65,776⟩,⟨2,197,197,65,778⟩,⟨2,199,199,67,807⟩,⟨2,200,200,69,768⟩,⟨2,201,201,69,769⟩,⟨2,202,202,69,770⟩,⟨2,203,203,69,776⟩,⟨2,204,204,73,768⟩,⟨2,205,205,73,769⟩,⟨2,206,206,73,770⟩,⟨2,207,207,73,776⟩,⟨2,209,209,78,771⟩,⟨2,210,210,79,768⟩,⟨2,211,211,79,769⟩,⟨2,212,212,79,770⟩,⟨2,213,213,79,771⟩,⟨2,214,214,79,776⟩,⟨2,217,217,85,768⟩,⟨2,218,218,85,769⟩,⟨2,219,219,85,770⟩,⟨2,220,220,85,776⟩,⟨2,221,221,89,769⟩,⟨2,224,224,97,768⟩,⟨2,225,225,97,769⟩,⟨2,226,226,97,770⟩,⟨2,227,227,97,771⟩,⟨2,228,228,97,776⟩,⟨2,229,229,97,778⟩,⟨2,231,231,99,807⟩,⟨2,232,232,101,768⟩,⟨2,233,233,101,769⟩,⟨2,234,234,101,770⟩,⟨2,235,235,101,776⟩,⟨2,236,236,105,768⟩,⟨2,237,237,105,769⟩,⟨2,238,238,105,770⟩,⟨2,239,239,105,776⟩,⟨2,241,241,110,771⟩,⟨2,242,242,111,768⟩,⟨2,243,243,111,769⟩,⟨2,244,244,111,770⟩,⟨2,245,245,111,771⟩,⟨2,246,246,111,776⟩,⟨2,249,249,117,768⟩,⟨2,250,250,117,769⟩,⟨2,251,251,117,770⟩,⟨2,252,252,117,776⟩,⟨2,253,253,121,769⟩,⟨2,255,255,121,776⟩,⟨2,256,256,65,772⟩,⟨2,257,257,97,772⟩,⟨2,258,258,65,774⟩,⟨2,259,259,97,774⟩,⟨2,260,260,65,808⟩,⟨2,261,261,97,808⟩,⟨2,262,262,67,769⟩,⟨2,263,263,99,769⟩,⟨2,268,268,67,780⟩,⟨2,269,269,99,780⟩,⟨2,274,274,69,772⟩,⟨2,275,275,101,772⟩,⟨2,280,280,69,808⟩,⟨2,281,281,101,808⟩,⟨2,304,304,73,775⟩,⟨2,323,323,78,769⟩,⟨2,324,324,110,769⟩,⟨2,352,352,83,780⟩,⟨2,353,353,115,780⟩,⟨2,381,381,90,780⟩,⟨2,382,382,122,780⟩,⟨2,416,416,79,795⟩,⟨2,417,417,111,795⟩,⟨2,431,431,85,795⟩,⟨2,432,432,117,795⟩,⟨2,469,469,220,772⟩,⟨2,470,470,252,772⟩,⟨2,471,471,220,769⟩,⟨2,472,472,252,769⟩,⟨2,480,480,550,772⟩,⟨2,481,481,551,772⟩,⟨2,550,550,65,775⟩,⟨2,551,551,97,775⟩,⟨2,832,832,768,0⟩,⟨2,833,833,769,0⟩,⟨2,835,835,787,0⟩,⟨2,836,836,776,769⟩,⟨2,884,884,697,0⟩,⟨2,894,894,59,0⟩,⟨2,901,901,168,769⟩,⟨2,902,902,913,769⟩,⟨2,903,903,183,0⟩,⟨2,904,904,917,769⟩,⟨2,912,912,970,769⟩,⟨2,940,940,945,769⟩,⟨2,941,941,949,769⟩,⟨2,944,944,971,769⟩,⟨2,970,970,953,776⟩,⟨2,971,971,965,776⟩,⟨2,2345,2345,2344,2364⟩,⟨2,2353,2353,2352,2364⟩,⟨2,2356,2356,2355,2364⟩,⟨2,2392,2392,2325,2364⟩,⟨2,2393,2393,2326,2364⟩,⟨2,2396,2396,2337,2364⟩,⟨2,2507,2507,2503,2494⟩,⟨2,2508,2508,2503,2519⟩,⟨2,3018,3018,3014,3006⟩,⟨2,3955,3955,3953,3954⟩,⟨2,3957,3957,3953,3956⟩,⟨2,7692,7692,68,803⟩,⟨2,7693,7693,100,803⟩,⟨2,7776,7776,83,775⟩,⟨2,7777,7777,115,775⟩,⟨2,7778,7778,83,803⟩,⟨2,7779,7779,115,803⟩,⟨2,7784,7784,7778,775⟩,⟨2,7785,7785,7779,775⟩,⟨2,7840,7840,65,803⟩,⟨2,7841,7841,97,803⟩,⟨2,7842,7842,65,777⟩,⟨2,7843,7843,97,777⟩,⟨2,7844,7844,194,769⟩,⟨2,7845,7845,226,769⟩,⟨2,7846,7846,194,768⟩,⟨2,7847,7847,226,768⟩,⟨2,7848,7848,194,777⟩,⟨2,7849,7849,226,777⟩,⟨2,7850,7850,194,771⟩,⟨2,7851,7851,226,771⟩,⟨2,7852,7852,7840,770⟩,⟨2,7853,7853,7841,770⟩,⟨2,7854,7854,258,769⟩,⟨2,7855,7855,259,769⟩,⟨2,7856,7856,258,768⟩,⟨2,7857,7857,259,768⟩,⟨2,7858,7858,258,777⟩,⟨2,7859,7859,259,777⟩,⟨2,7860,7860,258,771⟩,⟨2,7861,7861,259,771⟩,⟨2,7862,7862,7840,774⟩,⟨2,7863,7863,7841,774⟩,⟨2,7884,7884,79,803⟩,⟨2,7885,7885,111,803⟩,⟨2,7896,7896,7884,770⟩,⟨2,7897,7897,7885,770⟩,⟨2,7936,7936,945,787⟩,⟨2,7937,7937,945,788⟩,⟨2,7938,7938,7936,768⟩,⟨2,7939,7939,7937,768⟩,⟨2,8049,8049,940,0⟩,⟨2,8064,8064,7936,837⟩,⟨2,8115,8115,945,837⟩,⟨2,8486,8486,937,0⟩,⟨2,8490,8490,75,0⟩,⟨2,8491,8491,197,0⟩,⟨2,8800,8800,61,824⟩,⟨2,8814,8814,60,824⟩,⟨2,10972,10972,10973,824⟩,⟨2,12364,12364,12363,12441⟩,⟨2,12366,12366,12365,12441⟩,⟨2,12400,12400,12399,12441⟩,⟨2,12401,12401,12399,12442⟩,⟨2,12460,12460,12459,12441⟩,⟨2,12497,12497,12495,12442⟩,⟨2,12532,12532,12454,12441⟩,⟨2,63744,63744,35912,0⟩,⟨2,63745,63745,26356,0⟩,⟨2,64285,64285,1497,1460⟩,⟨2,64287,64287,1522,1463⟩,⟨2,64298,64298,1513,1473⟩,⟨2,64299,64299,1513,1474⟩,⟨2,64300,64300,64329,1473⟩,⟨2,64329,64329,1513,1468⟩,⟨2,119134,119134,119127,119141⟩]
def outsT:List Row:=[⟨3,2392,2393,1,0⟩,⟨3,2396,2396,1,0⟩,⟨3,10972,10972,1,0⟩,⟨3,64285,64285,1,0⟩,⟨3,64287,64287,1,0⟩,⟨3,64298,64300,1,0⟩,⟨3,64329,64329,1,0⟩,⟨3,119134,119134,1,0⟩]
def breaksT:List Row:=[⟨4,0,9,3,0⟩,⟨4,10,10,2,0⟩,⟨4,11,12,3,0⟩,⟨4,13,13,1,0⟩,⟨4,14,31,3,0⟩,⟨4,127,159,3,0⟩,⟨4,173,173,3,0⟩,⟨4,768,879,4,0⟩,⟨4,1155,1161,4,0⟩,⟨4,1425,1469,4,0⟩,⟨4,1471,1471,4,0⟩,⟨4,1473,1474,4,0⟩,⟨4,1479,1479,4,0⟩,⟨4,1536,1541,7,0⟩,⟨4,1611,1631,4,0⟩,⟨4,1648,1648,4,0⟩,⟨4,1757,1757,7,0⟩,⟨4,1807,1807,7,0⟩,⟨4,2307,2307,8,0⟩,⟨4,2362,2362,4,0⟩,⟨4,2363,2363,8,0⟩,⟨4,2364,2364,4,0⟩,⟨4,2366,2368,8,0⟩,⟨4,2369,2376,4,0⟩,⟨4,2377,2380,8,0⟩,⟨4,2381,2381,4,0⟩,⟨4,2385,2391,4,0⟩,⟨4,2434,2435,8,0⟩,⟨4,2492,2492,4,0⟩,⟨4,2494,2494,4,0⟩,⟨4,2495,2496,8,0⟩,⟨4,2503,2504,8,0⟩,⟨4,2507,2508,8,0⟩,⟨4,2509,2509,4,0⟩,⟨4,2519,2519,4,0⟩,⟨4,3006,3006,4,0⟩,⟨4,3007,3007,8,0⟩,⟨4,3014,3016,8,0⟩,⟨4,3018,3020,8,0⟩,⟨4,3021,3021,4,0⟩,⟨4,3633,3633,4,0⟩,⟨4,3635,3635,8,0⟩,⟨4,3636,3642,4,0⟩,⟨4,3655,3662,4,0⟩,⟨4,3953,3966,4,0⟩,⟨4,4352,4447,9,0⟩,⟨4,4448,4519,10,0⟩,⟨4,4520,4607,11,0⟩,⟨4,8203,8203,3,0⟩,⟨4,8204,8204,4,0⟩,⟨4,8205,8205,5,0⟩,⟨4,8206,8207,3,0⟩,⟨4,8232,8238,3,0⟩,⟨4,8288,8303,3,0⟩,⟨4,8400,8432,4,0⟩,⟨4,12330,12335,4,0⟩,⟨4,12441,12442,4,0⟩,⟨4,43360,43388,9,0⟩,⟨4,55216,55238,10,0⟩,⟨4,55243,55291,11,0⟩,⟨4,65024,65039,4,0⟩,⟨4,65056,65071,4,0⟩,⟨4,65279,65279,3,0⟩,⟨4,119141,119141,4,0⟩,⟨4,127462,127487,6,0⟩,⟨4,127995,127999,4,0⟩,⟨4,917505,917535,3,0⟩,⟨4,917536,917631,4,0⟩,⟨4,917760,917999,4,0⟩]
def pictsT:List Row:=[⟨5,169,169,1,0⟩,⟨5,174,174,1,0⟩,⟨5,8252,8252,1,0⟩,⟨5,8265,8265,1,0⟩,⟨5,8482,8482,1,0⟩,⟨5,8505,8505,1,0⟩,⟨5,8596,8601,1,0⟩,⟨5,8617,8618,1,0⟩,⟨5,8986,8987,1,0⟩,⟨5,9193,9203,1,0⟩,⟨5,9728,9733,1,0⟩,⟨5,9735,9746,1,0⟩,⟨5,9748,9861,1,0⟩,⟨5,9872,9989,1,0⟩,⟨5,9992,10002,1,0⟩,⟨5,10084,10087,1,0⟩,⟨5,127744,127994,1,0⟩,⟨5,128000,128317,1,0⟩,⟨5,128326,128591,1,0⟩,⟨5,128640,128767,1,0⟩,⟨5,129292,129338,1,0⟩,⟨5,129351,129791,1,0⟩]
def conjsT:List Row:=[⟨6,2325,2361,2,0⟩,⟨6,2381,2381,1,0⟩,⟨6,2392,2399,2,0⟩,⟨6,2453,2472,2,0⟩,⟨6,2509,2509,1,0⟩]
def widesT:List Row:=[⟨7,4352,4447,1,0⟩,⟨7,8986,8987,1,0⟩,⟨7,9193,9196,1,0⟩,⟨7,9748,9749,1,0⟩,⟨7,11904,12350,1,0⟩,⟨7,12353,13311,1,0⟩,⟨7,13312,19903,1,0⟩,⟨7,19968,40959,1,0⟩,⟨7,43360,43388,1,0⟩,⟨7,44032,55203,1,0⟩,⟨7,63744,64255,1,0⟩,⟨7,65072,65135,1,0⟩,⟨7,65281,65376,1,0⟩,⟨7,65504,65510,1,0⟩,⟨7,127744,127994,1,0⟩,⟨7,128000,128317,1,0⟩,⟨7,128326,128591,1,0⟩,⟨7,128640,128767,1,0⟩,⟨7,129292,129338,1,0⟩,⟨7,129351,129791,1,0⟩,⟨7,131072,262141,1,0⟩]
def lettersT:List Row:=[⟨8,48,57,1,0⟩,⟨8,65,90,1,0⟩,⟨8,95,95,1,0⟩,⟨8,97,122,1,0⟩,⟨8,170,170,1,0⟩,⟨8,181,181,1,0⟩,⟨8,186,186,1,0⟩,⟨8,192,214,1,0⟩,⟨8,216,246,1,0⟩,⟨8,248,705,1,0⟩,⟨8,880,883,1,0⟩,⟨8,886,887,1,0⟩,⟨8,902,902,1,0⟩,⟨8,904,1023,1,0⟩,⟨8,1024,1153,1,0⟩,⟨8,1162,1327,1,0⟩,⟨8,1329,1366,1,0⟩,⟨8,1488,1514,1,0⟩,⟨8,1568,1610,1,0⟩,⟨8,2308,2361,1,0⟩,⟨8,2392,2401,1,0⟩,⟨8,2437,2489,1,0⟩,⟨8,3585,3632,1,0⟩,⟨8,4352,4607,1,0⟩,⟨8,7680,8191,1,0⟩,⟨8,8486,8486,1,0⟩,⟨8,8490,8491,1,0⟩,⟨8,12353,12438,1,0⟩,⟨8,12449,12538,1,0⟩,⟨8,13312,19903,1,0⟩,⟨8,19968,40959,1,0⟩,⟨8,44032,55203,1,0⟩,⟨8,63744,64255,1,0⟩,⟨8,131072,262141,1,0⟩]
def rowsT:List Row:=classesT++pairsT++outsT++breaksT++pictsT++conjsT++widesT++lettersT
end Go.Proofs.YtlopleeopnnoeaaGreat.RW
namespace Go.Proofs.YtlopleeopnnoeaaGreat
open Go.RowKit
theorem wpList_one {P:Program}{ops:Array Oper}{Q:Exit→Act→World→Prop}{o:Oper}{rest:List Oper}{a:Act}{w w':World}{v:Value}(hg:o.guard=none)(hr:(execOp a.eval o).run P w= .ok (.value v) w')(h:wpList P ops Q rest (a.put o.dst v) w'):wpList P ops Q (o::rest) a w:=by
 refine wpList_plain hg fun K hK=> ?_
 unfold Oper.wp
 rw [hr,Oper.upon_value]
 exact hK _ _ h
def Builds (P:Program)(bs:List Oper)(vs:List (Value × Nat)):Prop:=
 ∀ (a:Act) (w:World),bs.map (fun o=>(o.guard,o.dst,(execOp a.eval o).run P w))=vs.map fun x=>(none,some x.2,.ok (.value x.1) w)
theorem wpList_builds {P:Program}{ops:Array Oper}{Q:Exit→Act→World→Prop}{rest:List Oper}{w:World}{m:Nat}:∀ (bs:List Oper) (vs:List Value) (s:Nat) (a:Act),Builds P bs (vs.zipIdx s)→a.tmps.size=m→s+vs.length≤m→
  (∀a':Act,a'.defers=a.defers→a'.tmps.size=m→(∀j,j<s→a'.tmps.getD j undef=a.tmps.getD j undef)→(∀ (j:Nat) (v:Value),vs[j]? =some v→a'.tmps.getD (s+j) undef=v)→wpList P ops Q rest a' w)→wpList P ops Q (bs++rest) a w
 |[],[],s,a,_,hm,_,h=>h a rfl hm (fun _ _=>rfl) (fun j v hv=>by simp at hv)
 |[],v::vs,s,a,hb,_,_,h=>by have:=hb a w;simp at this
 |o::bs,[],s,a,hb,_,_,h=>by have:=hb a w;simp at this
 |o::bs,v::vs,s,a,hb,hm,hl,h=>by
  have h0:∀ (a:Act) (w:World),o.guard=none∧o.dst=some s∧(execOp a.eval o).run P w= .ok (.value v) w:=by
   intro a w
   have:=hb a w
   simp only [List.zipIdx_cons,List.map_cons,List.cons.injEq,Prod.mk.injEq]at this
   exact⟨this.1.1,this.1.2.1,this.1.2.2⟩
  have hb':Builds P bs (vs.zipIdx (s+1)):=by
   intro a w
   have:=hb a w
   simp only [List.zipIdx_cons,List.map_cons,List.cons.injEq]at this
   exact this.2
  obtain⟨g1,g2,g3⟩:=h0 a w
  refine wpList_one g1 g3 ?_
  simp at hl
  refine wpList_builds bs vs (s+1) (a.put o.dst v) hb' (by rw [g2];simpa [Act.put]using hm) (by omega) fun a' e1 e2 e3 e4=>h a' (by rw [e1,g2];rfl) e2 (fun j hj=> ?_) (fun j u hu=> ?_)
  ·rw [e3 j (by omega),g2]
   simp only [Act.put,Array.getD_eq_getD_getElem?]
   rw [Array.getElem?_setIfInBounds_ne (by omega)]
  ·cases j with
   |zero=>
    simp at hu
    subst hu
    rw [Nat.add_zero,e3 s (by omega),g2]
    simp only [Act.put,Array.getD_eq_getD_getElem?]
    rw [Array.getElem?_setIfInBounds_self,if_pos (by omega)]
    rfl
   |succ j=>
    have:=e4 j u (by simpa using hu)
    rwa [show s+(j+1)=s+1+j by omega]
theorem put_cells (off:Nat):∀ (l:List Value) (j:Nat) (cs:Array Value),off+j+l.length≤cs.size→((l.zipIdx j).foldl (fun cs (x:Value × Nat)=>cs.setIfInBounds (off+x.2) x.1) cs).toList=cs.toList.take (off+j)++l++cs.toList.drop (off+j+l.length)
 |[],j,cs,h=>by simp
 |v::l,j,cs,h=>by
  simp at h
  rw [List.zipIdx_cons,List.foldl_cons,put_cells off l (j+1) _ (by simp;omega)]
  have hlt:off+j<cs.toList.length:=by simp;omega
  rw [Array.toList_setIfInBounds]
  rw [show off+(j+1)=off+j+1 by omega,List.take_succ_eq_append_getElem (by simpa using hlt),List.take_set_of_le (by omega)]
  have e:(cs.toList.set (off+j) v)[off+j]'(by simpa using hlt)=v:=by simp
  have e2:(cs.toList.set (off+j) v).drop (off+j+1+l.length)=cs.toList.drop (off+j+(l.length+1)):=by
   rw [List.drop_set_of_lt (by omega)]
   congr 1
   omega
  rw [e,e2]
  simp
theorem fill_all {k:Nat}:∀ (vs:List Value) (s:Nat) (cs:Array Value),(∀v∈vs,v.cells.size=k)→s*k+vs.length*k≤cs.size→
  Instr.fill (fun i=>some (i*k,k)) cs ((vs.zipIdx s).map fun x=>(x.2,x.1))=some (cs.toList.take (s*k)++(vs.flatMap fun v=>v.cells.toList)++cs.toList.drop (s*k+vs.length*k)).toArray
 |[],s,cs,_,h=>by simp [Instr.fill]
 |v::vs,s,cs,hv,h=>by
  have h0:=hv v (by simp)
  have hl:(v::vs).length*k=k+vs.length*k:=by simp [Nat.add_mul];omega
  rw [hl]at h
  simp only [List.zipIdx_cons,List.map_cons,Instr.fill]
  rw [if_neg (by simp [h0];omega)]
  have hp:=put_cells (s*k) v.cells.toList 0 cs (by simp [h0];omega)
  simp only [Nat.add_zero,Array.length_toList,h0]at hp
  have hz:v.cells.zipIdx.foldl (fun cs (x:Value × Nat)=>cs.setIfInBounds (s*k+x.2) x.1) cs=(v.cells.toList.zipIdx.foldl (fun cs (x:Value × Nat)=>cs.setIfInBounds (s*k+x.2) x.1) cs):=by
   rw [←Array.foldl_toList]
   simp
  have e1:(s+1)*k=s*k+k:=by rw [Nat.add_mul,Nat.one_mul]
  have hsz:(v.cells.toList.zipIdx.foldl (fun cs (x:Value × Nat)=>cs.setIfInBounds (s*k+x.2) x.1) cs).size=cs.size:=by
   have:=congrArg List.length hp
   simp only [Array.length_toList,List.length_append,List.length_take,List.length_drop,h0]at this
   omega
  have:=fill_all vs (s+1) (v.cells.toList.zipIdx.foldl (fun cs (x:Value × Nat)=>cs.setIfInBounds (s*k+x.2) x.1) cs) (fun u hu=>hv u (by simp [hu])) (by rw [hsz,e1];omega)
  rw [←hz]at this
  refine(show _=_ from this).trans ?_
  rw [hz,hp,e1,hl]
  congr 1
  simp only [List.flatMap_cons,List.append_assoc]
  have hk:(cs.toList.take (s*k)++v.cells.toList).length=s*k+k:=by simp [h0];omega
  have e2:List.drop (s*k+k+vs.length*k) (cs.toList.take (s*k)++v.cells.toList++cs.toList.drop (s*k+k))=cs.toList.drop (s*k+(k+vs.length*k)):=by
   rw [List.drop_append,List.drop_eq_nil_of_le (by omega),hk,List.nil_append,List.drop_drop]
   congr 1
   omega
  have e3:List.take (s*k+k) (cs.toList.take (s*k)++(v.cells.toList++cs.toList.drop (s*k+k)))=cs.toList.take (s*k)++v.cells.toList:=by
   rw [←List.append_assoc,List.take_append_of_le_length (by omega),List.take_of_length_le (by omega)]
  rw [List.append_assoc]at e2
  rw [e2,e3]
  simp
theorem buildSlice_all {P:Program}{T E:TypeId}{k N:Nat}{z:Value}{vs:List Value}{w:World}(hT:P.underlying T=some (.slice E))(hs:∀w,(sizeOf E).run P w= .ok k w)(hz:∀w,(zeroValue E).run P w= .ok z w)(hzk:z.cells.size=k)(hk:0<k)(hN:vs.length=N)(h0:0<N)(hb:N*k≤16777216)(hv:∀v∈vs,v.cells.size=k):
  (Instr.buildSlice T N ((vs.zipIdx).map fun x=>(x.2,x.1)).toArray).run P w= .ok (.slice (some ⟨w.heap.size,0,none⟩) N N) (w.alloc (.cells (vs.flatMap fun v=>v.cells.toList).toArray E)):=by
 have hu:∀w,(underlying T).run P w= .ok (.slice E) w:=run_underlying hT
 have hn0:N*k≠0:=by have:=Nat.mul_pos h0 hk;omega
 unfold Instr.buildSlice
 have hf:=fill_all vs 0 ((Array.range (N*k)).map (z.cells[· %z.cells.size]!)) hv (by simp [hN])
 simp only [Nat.zero_mul,Nat.zero_add,hN]at hf
 rw [show List.drop (N*k) ((Array.range (N*k)).map (z.cells[· %z.cells.size]!)).toList=[]from List.drop_eq_nil_of_le (by simp)]at hf
 simp only [List.take_zero,List.nil_append,List.append_nil]at hf
 simp only [Sem.run_bind,hu,hs,hz,Result.andThen_ok]
 rw [if_neg (by omega)]
 simp only [Sem.run_bind,hz,Result.andThen_ok,if_neg hn0,Sem.run_pure,hf]
 rfl
theorem pairs_eq {vs:List Value}{s N:Nat}(a:Act)(hN:vs.length=N)(h:∀ (j:Nat) (v:Value),vs[j]? =some v→a.tmps.getD (s+j) undef=v):
  (((List.range N).map fun i=>(i,Operand.tmp (s+i))).toArray.map fun(x:Nat × Operand)=>(x.1,a.eval x.2))=((vs.zipIdx).map fun x=>(x.2,x.1)).toArray:=by
 rw [List.map_toArray]
 congr 1
 rw [List.map_map]
 apply List.ext_getElem
 ·simp [hN]
 ·intro i h1 h2
  simp at h1 h2
  simp only [List.getElem_map,List.getElem_range,List.getElem_zipIdx,Function.comp,Nat.zero_add]
  rw [Prod.mk.injEq]
  exact⟨rfl,h i vs[i] (List.getElem?_eq_getElem (by omega))⟩
theorem calls_table {P:Program}{fn:Func}{i j:Nat}{o0 os oa:Oper}{bs:List Oper}{R:Ending→World→Prop}{a:Act}{w:World}{T E:TypeId}{k N:Nat}{z:Value}{vs:List Value}
  (hT:P.underlying T=some (.slice E)) (hs:∀w,(sizeOf E).run P w= .ok k w) (hz:∀w,(zeroValue E).run P w= .ok z w) (hzk:z.cells.size=k) (hk:0<k) (hN:vs.length=N) (h0:0<N) (hb:N*k≤16777216) (hv:∀v∈vs,v.cells.size=k)
  (hres:fn.results=#[.tmp 0]) (ha:a.tmps.size=N+2) (hd:a.defers=[])
  (p0:o0.guard=none∧o0.dst=some 0∧o0.op= .assign (.const (.slice none 0 0)))
  (pb:Builds P bs (vs.zipIdx 1)) (ps:os.guard=none∧os.dst=some (N+1)∧os.op= .buildSlice T N ((List.range N).map fun i=>(i,Operand.tmp (1+i))).toArray) (pa:oa.guard=none∧oa.dst=some 0∧oa.op= .assign (.tmp (N+1)))
  (hR:R (.returned (.slice (some ⟨w.heap.size,0,none⟩) N N)) (w.alloc (.cells (vs.flatMap fun v=>v.cells.toList).toArray E))):
  ((Code.region i [o0].toArray false).seq ((Code.region j (bs++[os,oa]).toArray false).seq Code.ret)).wp P (bodyPost P fn R) a w:=by
 refine wp_seq (wp_region_lit (wpList_one p0.1 (v:= .slice none 0 0) (w':=w) (by simp [execOp,p0.2.2,Act.eval]) (wpList_nil ?_)))
 refine wp_seq (wp_region_lit ?_)
 refine wpList_builds (m:=N+2) bs vs 1 _ pb (by rw [p0.2.1];simpa [Act.put]using ha) (by omega) fun a' e1 e2 e3 e4=> ?_
 have hpe:=pairs_eq (s:=1) a' hN e4
 refine wpList_one ps.1 (v:= .slice (some ⟨w.heap.size,0,none⟩) N N) (w':=w.alloc (.cells (vs.flatMap fun v=>v.cells.toList).toArray E)) ?_ ?_
 ·simp only [execOp,ps.2.2]
  rw [hpe,Sem.run_bind,buildSlice_all hT hs hz hzk hk hN h0 hb hv]
  rfl
 ·refine wpList_one pa.1 (v:= .slice (some ⟨w.heap.size,0,none⟩) N N) (w':=w.alloc (.cells (vs.flatMap fun v=>v.cells.toList).toArray E)) ?_ (wpList_nil (wp_ret ?_))
  ·simp only [execOp,pa.2.2,Act.eval,ps.2.1,Act.put]
   rw [Array.getD_eq_getD_getElem?,Array.getElem?_setIfInBounds_self,if_pos (by omega)]
   rfl
  ·refine bodyPost_ret (results_tmp hres _ _ _) ?_ ?_
   ·rw [ps.2.1,pa.2.1]
    simp only [Act.put]
    rw [e1,p0.2.1]
    exact hd
   ·rw [ps.2.1,pa.2.1]
    simp only [Act.put]
    rw [Array.getD_eq_getD_getElem?,Array.getElem?_setIfInBounds_self,if_pos (by simp;omega)]
    exact hR
theorem calls_table_at {P:Program}{fn:Func}{i j:Nat}{l0 l:List Oper}{R:Ending→World→Prop}{a:Act}{w:World}(T E:TypeId)(k N:Nat)(z:Value)(vs:List Value)
  (hT:P.underlying T=some (.slice E)) (hs:∀w,(sizeOf E).run P w= .ok k w) (hz:∀w,(zeroValue E).run P w= .ok z w) (hzk:z.cells.size=k) (hk:0<k) (hN:vs.length=N) (h0:0<N) (hb:N*k≤16777216) (hv:vs.all (fun v=>v.cells.size==k)=true)
  (hres:fn.results=#[.tmp 0]) (ha:a.tmps.size=N+2) (hd:a.defers=[])
  (p0:l0.map (fun o=>(o.guard,o.dst,o.op))=[(none,some 0,.assign (.const (.slice none 0 0)))])
  (pb:Builds P (l.take N) (vs.zipIdx 1)) (ps:(l.drop N).map (fun o=>(o.guard,o.dst,o.op))=[(none,some (N+1),.buildSlice T N ((List.range N).map fun i=>(i,Operand.tmp (1+i))).toArray),(none,some 0,.assign (.tmp (N+1)))])
  (hR:R (.returned (.slice (some ⟨w.heap.size,0,none⟩) N N)) (w.alloc (.cells (vs.flatMap fun v=>v.cells.toList).toArray E))):
  ((Code.region i l0.toArray false).seq ((Code.region j l.toArray false).seq Code.ret)).wp P (bodyPost P fn R) a w:=by
 have hl:=List.take_append_drop N l
 generalize l.take N=bs at pb hl
 generalize l.drop N=rest at ps hl
 subst hl
 rcases l0 with _|⟨o0,_|⟨o1,l0⟩⟩
 ·cases p0
 ·rcases rest with _|⟨os,_|⟨oa,_|⟨o2,rest⟩⟩⟩
  ·cases ps
  ·simp at ps
  ·simp only [List.map_cons,List.map_nil,List.cons.injEq,Prod.mk.injEq,and_true]at p0 ps
   exact calls_table hT hs hz hzk hk hN h0 hb (fun v hv'=>by have:=List.all_eq_true.1 hv v hv';simpa using this) hres ha hd p0 pb ps.1 ps.2 hR
  ·simp at ps
 ·simp at p0
end Go.Proofs.YtlopleeopnnoeaaGreat
namespace Go.Proofs.YtlopleeopnnoeaaGreat.RW
open Go.RowKit
set_option maxRecDepth 100000
def rowV (x:Row):Value:= .agg (encR x).toArray
theorem rows_flat (L:List Row):((L.map rowV).flatMap fun v=>v.cells.toList)=flatL encR L:=by
 induction L with
 |nil=>rfl
 |cons x L ih=>simp only [List.map_cons,List.flatMap_cons,flatL]at ih ⊢;rw [ih];rfl
theorem rows_size:∀L:List Row,(L.map rowV).all (fun v=>v.cells.size==5)=true
 |[]=>rfl
 |x::L=>by simp only [List.map_cons,List.all_cons,rows_size L,Bool.and_true];rfl
theorem rows_sizeOf:∀w,(sizeOf 131).run Tryz.prog w= .ok 5 w:=fun w=>by kernel_rfl
theorem rows_zero:∀w,(zeroValue 131).run Tryz.prog w= .ok (.agg #[.int .i64 0,.int .i64 0,.int .i64 0,.int .i64 0,.int .i64 0]) w:=fun w=>by kernel_rfl
theorem rows_tells (L:List Row)(N:Nat)(hN:L.length=N)(hm:N≤1000)(w:World):TellsO 131 5 encR L w (.returned (.slice (some ⟨w.heap.size,0,none⟩) N N)) (w.alloc (.cells ((L.map rowV).flatMap fun v=>v.cells.toList).toArray 131)):=by
 rw [rows_flat]
 refine⟨_,_,_,rfl,?_,(Below.refl _ _).alloc (Nat.le_refl _) _⟩
 have:=own_newN w (flatL encR L).toArray 131 5 N (by simp [flatL_len encR_len,hN]) (by unfold maxLen;omega)
 simpa using this
theorem classes_any (w:World):Calls Tryz.prog 51 #[] w (TellsO 131 5 encR classesT w):=by
 refine calls_of_wp Tryz.func51 rfl ?_
 exact calls_table_at 24 131 5 82 _ (classesT.map rowV) Tryz.underlying24 rows_sizeOf rows_zero rfl (by decide) (by as_aux_lemma=>kernel_rfl) (by decide) (by decide) (rows_size _) rfl (by as_aux_lemma=>kernel_rfl) rfl (by as_aux_lemma=>kernel_rfl) (fun a w=>by as_aux_lemma=>kernel_rfl) (by as_aux_lemma=>kernel_rfl) (rows_tells _ _ (by as_aux_lemma=>kernel_rfl) (by decide) w)
theorem pairs_any (w:World):Calls Tryz.prog 52 #[] w (TellsO 131 5 encR pairsT w):=by
 refine calls_of_wp Tryz.func52 rfl ?_
 exact calls_table_at 24 131 5 178 _ (pairsT.map rowV) Tryz.underlying24 rows_sizeOf rows_zero rfl (by decide) (by as_aux_lemma=>kernel_rfl) (by decide) (by decide) (rows_size _) rfl (by as_aux_lemma=>kernel_rfl) rfl (by as_aux_lemma=>kernel_rfl) (fun a w=>by as_aux_lemma=>kernel_rfl) (by as_aux_lemma=>kernel_rfl) (rows_tells _ _ (by as_aux_lemma=>kernel_rfl) (by decide) w)
theorem outs_any (w:World):Calls Tryz.prog 53 #[] w (TellsO 131 5 encR outsT w):=by
 refine calls_of_wp Tryz.func53 rfl ?_
 exact calls_table_at 24 131 5 8 _ (outsT.map rowV) Tryz.underlying24 rows_sizeOf rows_zero rfl (by decide) (by as_aux_lemma=>kernel_rfl) (by decide) (by decide) (rows_size _) rfl (by as_aux_lemma=>kernel_rfl) rfl (by as_aux_lemma=>kernel_rfl) (fun a w=>by as_aux_lemma=>kernel_rfl) (by as_aux_lemma=>kernel_rfl) (rows_tells _ _ (by as_aux_lemma=>kernel_rfl) (by decide) w)
theorem breaks_any (w:World):Calls Tryz.prog 54 #[] w (TellsO 131 5 encR breaksT w):=by
 refine calls_of_wp Tryz.func54 rfl ?_
 exact calls_table_at 24 131 5 69 _ (breaksT.map rowV) Tryz.underlying24 rows_sizeOf rows_zero rfl (by decide) (by as_aux_lemma=>kernel_rfl) (by decide) (by decide) (rows_size _) rfl (by as_aux_lemma=>kernel_rfl) rfl (by as_aux_lemma=>kernel_rfl) (fun a w=>by as_aux_lemma=>kernel_rfl) (by as_aux_lemma=>kernel_rfl) (rows_tells _ _ (by as_aux_lemma=>kernel_rfl) (by decide) w)
theorem picts_any (w:World):Calls Tryz.prog 55 #[] w (TellsO 131 5 encR pictsT w):=by
 refine calls_of_wp Tryz.func55 rfl ?_
 exact calls_table_at 24 131 5 22 _ (pictsT.map rowV) Tryz.underlying24 rows_sizeOf rows_zero rfl (by decide) (by as_aux_lemma=>kernel_rfl) (by decide) (by decide) (rows_size _) rfl (by as_aux_lemma=>kernel_rfl) rfl (by as_aux_lemma=>kernel_rfl) (fun a w=>by as_aux_lemma=>kernel_rfl) (by as_aux_lemma=>kernel_rfl) (rows_tells _ _ (by as_aux_lemma=>kernel_rfl) (by decide) w)
theorem conjs_any (w:World):Calls Tryz.prog 56 #[] w (TellsO 131 5 encR conjsT w):=by
 refine calls_of_wp Tryz.func56 rfl ?_
 exact calls_table_at 24 131 5 5 _ (conjsT.map rowV) Tryz.underlying24 rows_sizeOf rows_zero rfl (by decide) (by as_aux_lemma=>kernel_rfl) (by decide) (by decide) (rows_size _) rfl (by as_aux_lemma=>kernel_rfl) rfl (by as_aux_lemma=>kernel_rfl) (fun a w=>by as_aux_lemma=>kernel_rfl) (by as_aux_lemma=>kernel_rfl) (rows_tells _ _ (by as_aux_lemma=>kernel_rfl) (by decide) w)
theorem wides_any (w:World):Calls Tryz.prog 57 #[] w (TellsO 131 5 encR widesT w):=by
 refine calls_of_wp Tryz.func57 rfl ?_
 exact calls_table_at 24 131 5 21 _ (widesT.map rowV) Tryz.underlying24 rows_sizeOf rows_zero rfl (by decide) (by as_aux_lemma=>kernel_rfl) (by decide) (by decide) (rows_size _) rfl (by as_aux_lemma=>kernel_rfl) rfl (by as_aux_lemma=>kernel_rfl) (fun a w=>by as_aux_lemma=>kernel_rfl) (by as_aux_lemma=>kernel_rfl) (rows_tells _ _ (by as_aux_lemma=>kernel_rfl) (by decide) w)
theorem letters_any (w:World):Calls Tryz.prog 58 #[] w (TellsO 131 5 encR lettersT w):=by
 refine calls_of_wp Tryz.func58 rfl ?_
 exact calls_table_at 24 131 5 34 _ (lettersT.map rowV) Tryz.underlying24 rows_sizeOf rows_zero rfl (by decide) (by as_aux_lemma=>kernel_rfl) (by decide) (by decide) (rows_size _) rfl (by as_aux_lemma=>kernel_rfl) rfl (by as_aux_lemma=>kernel_rfl) (fun a w=>by as_aux_lemma=>kernel_rfl) (by as_aux_lemma=>kernel_rfl) (rows_tells _ _ (by as_aux_lemma=>kernel_rfl) (by decide) w)
end Go.Proofs.YtlopleeopnnoeaaGreat.RW
namespace Go.Proofs.YtlopleeopnnoeaaGreat.RW
open Go.RowKit
set_option maxRecDepth 100000
theorem row_elt:Elt Tryz.prog 24 131 5 40:=elt_of Tryz.underlying24 (z:= .agg #[.int .i64 0,.int .i64 0,.int .i64 0,.int .i64 0,.int .i64 0]) (by kernel_rfl) rfl (by decide)
theorem own_cells {α:Type}{enc:α→List Value}{X:World}{base n c k:Nat}{E:TypeId}{A:Option Addr}{L:List α}(h:X.ownsRow base E k (.slice A n c) n (flatL enc L))(hn:0<n):
  ∃g,A=some ⟨g,0,none⟩∧base≤g∧∀ (j:Nat) (u:Value),(flatL enc L)[j]? =some u→X.cell? ⟨g,0+j,none⟩=some u:=by
 obtain⟨g,cs,rfl,hg,hB,_,_,_,hc⟩:=own_blk h hn
 exact⟨g,rfl,hg,fun j u hu=>by rw [hB.2.1,Nat.zero_add];exact hc j u hu⟩
theorem encR_one (L:List Row):∀u∈flatL encR L,u.oneCell'=true:=by
 intro u hu
 obtain⟨x,_,hx⟩:=List.mem_flatMap.1 hu
 simp [encR]at hx
 rcases hx with rfl|rfl|rfl|rfl|rfl<;>rfl
def TabI (w:World)(A:Option Addr)(n c:Nat)(L:List Row)(X:World):Prop:=Grows w 131 5 encR A n c L X
set_option maxHeartbeats 4000000 in
theorem rows_any (w:World):Calls Tryz.prog 16 #[] w (TellsO 131 5 encR rowsT w):=by
 go_enter Tryz.func16,Tryz.ntmps16
 go_wp2_with fail
 refine(classes_any w).mono ?_
 rintro e y1 ⟨A,n,c,rfl,ho,hb⟩
 obtain rfl:82=n:=by have:=own_count encR_len (by decide) ho;rw [show classesT.length=82 from by as_aux_lemma=>kernel_rfl]at this;exact this
 obtain⟨g,rfl,hg,hc⟩:=own_cells ho (by decide)
 have G:=Lib.hid (show Grows w 131 5 encR none 0 0 ([]:List Row) y1 from(Grows.start w _ _).later hb)
 have C:=Lib.hid hc
 clear ho hc hb hg
 go_wp2_with (at_builtin;refine wpList_catN (n:=0) (m:=82) (ys:=flatL encR classesT) row_elt G.out.own G.out.below.size rfl rfl rfl rfl (by rw [flatL_len encR_len,show classesT.length=82 from by as_aux_lemma=>kernel_rfl]) C.out (encR_one _) (by unfold maxLen;decide) (by decide) ?_;intro A1 c1 x1 hp;have G1:=Lib.hid (G.out.pushM (m:=82) (M:=classesT) (Below.refl _ _) rfl hp);clear hp G C)
 rw [List.nil_append]at G1
 go_wp2_with fail
 refine(pairs_any x1).mono ?_
 rintro e y2 ⟨A,n,c,rfl,ho,hb⟩
 obtain rfl:178=n:=by have:=own_count encR_len (by decide) ho;rw [show pairsT.length=178 from by as_aux_lemma=>kernel_rfl]at this;exact this
 obtain⟨g,rfl,hg,hc⟩:=own_cells ho (by decide)
 have G:=Lib.hid (G1.out.later hb)
 have C:=Lib.hid hc
 clear ho hc hb hg
 clear G1
 go_wp2_with (at_builtin;refine wpList_catN (n:=82) (m:=178) (ys:=flatL encR pairsT) row_elt G.out.own G.out.below.size rfl rfl rfl rfl (by rw [flatL_len encR_len,show pairsT.length=178 from by as_aux_lemma=>kernel_rfl]) C.out (encR_one _) (by unfold maxLen;decide) (by decide) ?_;intro A2 c2 x2 hp;have G2:=Lib.hid (G.out.pushM (m:=178) (M:=pairsT) (Below.refl _ _) rfl hp);clear hp G C)
 go_wp2_with fail
 refine(outs_any x2).mono ?_
 rintro e y3 ⟨A,n,c,rfl,ho,hb⟩
 obtain rfl:8=n:=by have:=own_count encR_len (by decide) ho;rw [show outsT.length=8 from by as_aux_lemma=>kernel_rfl]at this;exact this
 obtain⟨g,rfl,hg,hc⟩:=own_cells ho (by decide)
 have G:=Lib.hid (G2.out.later hb)
 have C:=Lib.hid hc
 clear ho hc hb hg
 clear G2
 go_wp2_with (at_builtin;refine wpList_catN (n:=260) (m:=8) (ys:=flatL encR outsT) row_elt G.out.own G.out.below.size rfl rfl rfl rfl (by rw [flatL_len encR_len,show outsT.length=8 from by as_aux_lemma=>kernel_rfl]) C.out (encR_one _) (by unfold maxLen;decide) (by decide) ?_;intro A3 c3 x3 hp;have G3:=Lib.hid (G.out.pushM (m:=8) (M:=outsT) (Below.refl _ _) rfl hp);clear hp G C)
 go_wp2_with fail
 refine(breaks_any x3).mono ?_
 rintro e y4 ⟨A,n,c,rfl,ho,hb⟩
 obtain rfl:69=n:=by have:=own_count encR_len (by decide) ho;rw [show breaksT.length=69 from by as_aux_lemma=>kernel_rfl]at this;exact this
 obtain⟨g,rfl,hg,hc⟩:=own_cells ho (by decide)
 have G:=Lib.hid (G3.out.later hb)
 have C:=Lib.hid hc
 clear ho hc hb hg
 clear G3
 go_wp2_with (at_builtin;refine wpList_catN (n:=268) (m:=69) (ys:=flatL encR breaksT) row_elt G.out.own G.out.below.size rfl rfl rfl rfl (by rw [flatL_len encR_len,show breaksT.length=69 from by as_aux_lemma=>kernel_rfl]) C.out (encR_one _) (by unfold maxLen;decide) (by decide) ?_;intro A4 c4 x4 hp;have G4:=Lib.hid (G.out.pushM (m:=69) (M:=breaksT) (Below.refl _ _) rfl hp);clear hp G C)
 go_wp2_with fail
 refine(picts_any x4).mono ?_
 rintro e y5 ⟨A,n,c,rfl,ho,hb⟩
 obtain rfl:22=n:=by have:=own_count encR_len (by decide) ho;rw [show pictsT.length=22 from by as_aux_lemma=>kernel_rfl]at this;exact this
 obtain⟨g,rfl,hg,hc⟩:=own_cells ho (by decide)
 have G:=Lib.hid (G4.out.later hb)
 have C:=Lib.hid hc
 clear ho hc hb hg
 clear G4
 go_wp2_with (at_builtin;refine wpList_catN (n:=337) (m:=22) (ys:=flatL encR pictsT) row_elt G.out.own G.out.below.size rfl rfl rfl rfl (by rw [flatL_len encR_len,show pictsT.length=22 from by as_aux_lemma=>kernel_rfl]) C.out (encR_one _) (by unfold maxLen;decide) (by decide) ?_;intro A5 c5 x5 hp;have G5:=Lib.hid (G.out.pushM (m:=22) (M:=pictsT) (Below.refl _ _) rfl hp);clear hp G C)
 go_wp2_with fail
 refine(conjs_any x5).mono ?_
 rintro e y6 ⟨A,n,c,rfl,ho,hb⟩
 obtain rfl:5=n:=by have:=own_count encR_len (by decide) ho;rw [show conjsT.length=5 from by as_aux_lemma=>kernel_rfl]at this;exact this
 obtain⟨g,rfl,hg,hc⟩:=own_cells ho (by decide)
 have G:=Lib.hid (G5.out.later hb)
 have C:=Lib.hid hc
 clear ho hc hb hg
 clear G5
 go_wp2_with (at_builtin;refine wpList_catN (n:=359) (m:=5) (ys:=flatL encR conjsT) row_elt G.out.own G.out.below.size rfl rfl rfl rfl (by rw [flatL_len encR_len,show conjsT.length=5 from by as_aux_lemma=>kernel_rfl]) C.out (encR_one _) (by unfold maxLen;decide) (by decide) ?_;intro A6 c6 x6 hp;have G6:=Lib.hid (G.out.pushM (m:=5) (M:=conjsT) (Below.refl _ _) rfl hp);clear hp G C)
 go_wp2_with fail
 refine(wides_any x6).mono ?_
 rintro e y7 ⟨A,n,c,rfl,ho,hb⟩
 obtain rfl:21=n:=by have:=own_count encR_len (by decide) ho;rw [show widesT.length=21 from by as_aux_lemma=>kernel_rfl]at this;exact this
 obtain⟨g,rfl,hg,hc⟩:=own_cells ho (by decide)
 have G:=Lib.hid (G6.out.later hb)
 have C:=Lib.hid hc
 clear ho hc hb hg
 clear G6
 go_wp2_with (at_builtin;refine wpList_catN (n:=364) (m:=21) (ys:=flatL encR widesT) row_elt G.out.own G.out.below.size rfl rfl rfl rfl (by rw [flatL_len encR_len,show widesT.length=21 from by as_aux_lemma=>kernel_rfl]) C.out (encR_one _) (by unfold maxLen;decide) (by decide) ?_;intro A7 c7 x7 hp;have G7:=Lib.hid (G.out.pushM (m:=21) (M:=widesT) (Below.refl _ _) rfl hp);clear hp G C)
 go_wp2_with fail
 refine(letters_any x7).mono ?_
 rintro e y8 ⟨A,n,c,rfl,ho,hb⟩
 obtain rfl:34=n:=by have:=own_count encR_len (by decide) ho;rw [show lettersT.length=34 from by as_aux_lemma=>kernel_rfl]at this;exact this
 obtain⟨g,rfl,hg,hc⟩:=own_cells ho (by decide)
 have G:=Lib.hid (G7.out.later hb)
 have C:=Lib.hid hc
 clear ho hc hb hg
 clear G7
 go_wp2_with (at_builtin;refine wpList_catN (n:=385) (m:=34) (ys:=flatL encR lettersT) row_elt G.out.own G.out.below.size rfl rfl rfl rfl (by rw [flatL_len encR_len,show lettersT.length=34 from by as_aux_lemma=>kernel_rfl]) C.out (encR_one _) (by unfold maxLen;decide) (by decide) ?_;intro A8 c8 x8 hp;have G8:=Lib.hid (G.out.pushM (m:=34) (M:=lettersT) (Below.refl _ _) rfl hp);clear hp G C)
 go_ret
 have h:=G8.out.tells
 exact h
end Go.Proofs.YtlopleeopnnoeaaGreat.RW
