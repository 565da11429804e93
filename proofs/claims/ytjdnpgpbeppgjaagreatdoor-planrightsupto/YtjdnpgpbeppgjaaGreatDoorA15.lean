import Derived.Test.YtjdnpgpbeppgjaaGreatDoorA14
import Derived.Test.YtjdnpgpbeppgjaaGreatDoorA8
import Derived.Test.YtjdnpgpbeppgjaaGreatDoorA11
set_option linter.unusedSimpArgs false
set_option linter.unusedVariables false
set_option maxHeartbeats 3200000
set_option maxRecDepth 100000
namespace Go.Proofs.YtjdnpgpbeppgjaaGreatDoor
section
open Go.RowKit Go.Maps Go.ChangeMaps
attribute [local go_sem ↓] Go.wp_at_zero Go.wp_at_succ
def Z7(ss l:List ByteArray):List T:=(l.filter (fun n=>inB ss n)).map (fun n=>T.mk n V0)
theorem ZiZ{ss l:List ByteArray}{k:Nat}(hk:k<l.length):Z7 ss (l.take (k+1))=if inB ss (atS l k)=true then Z7 ss (l.take k)++[T.mk (atS l k) V0]else Z7 ss (l.take k):=by
 unfold Z7;rw[ZfQ hk,List.filter_append,List.map_append]
 by_cases h:inB ss (atS l k)=true
 ·rw[if_pos h];simp[h]
 ·rw[if_neg h];simp[h]
theorem ZfS(ss l:List ByteArray):(Z7 ss l).length≤l.length:=by
 unfold Z7;rw[List.length_map];exact List.length_filter_le _ _
theorem Zmd:(Tryz.prog.info? 100).map (fun i=>(i.zero,i.size,i.bytes))=some (some (.agg #[.string ⟨#[]⟩,.int .i8 0,.int .i64 0,.string ⟨#[]⟩]),4,48):=by kernel_rfl
theorem Zme{w0 u:World}{B:Nat}{a:Option Addr}{c:Nat}{out:List T}(x:ByteArray)(own:u.ownsRow B 100 4 (.slice a out.length c) out.length (out.flatMap T.cells))(hb:Below B w0 u)(hB:B≤w0.heap.size)(hl:out.length≤1000000000) :
  ∃a6 c6 w5,(Builtin.append_ #[91,91] 91 #[.slice a out.length c,.slice (some ⟨u.heap.size,0,none⟩) 1 1]).run Tryz.prog (u.alloc (.cells #[.string x,.int .i8 0,.int .i64 0,.string ⟨#[]⟩] 100))=.ok (.slice a6 (out.length+1) c6) w5∧w5.ownsRow B 100 4 (.slice a6 (out++[T.mk x V0]).length c6) (out++[T.mk x V0]).length ((out++[T.mk x V0]).flatMap T.cells)∧Below B w0 w5:=by
 obtain⟨i0,hi0,hz0,hz1,hz2⟩:=info_parts Zmd;have hA:=Zp (w:=u) (.cells #[.string x,.int .i8 0,.int .i64 0,.string ⟨#[]⟩] 100);have hzu:B≤u.heap.size:=Nat.le_trans hB hb.size;have hb5:Below B w0 (u.alloc (.cells #[.string x,.int .i8 0,.int .i64 0,.string ⟨#[]⟩] 100)):=hb.trans (hA.mono hzu);have hz5:B≤(u.alloc (.cells #[.string x,.int .i8 0,.int .i64 0,.string ⟨#[]⟩] 100)).heap.size:=Nat.le_trans hzu hA.size
 have ho:=Zn own hA;obtain⟨v',w5,hrun,hown',hgrow,hnil,hloc⟩:=run_append_own_at (P:=Tryz.prog) (u.alloc (.cells #[.string x,.int .i8 0,.int .i64 0,.string ⟨#[]⟩] 100)) B 91 91 100 i0 _ 4 48 Tryz.underlying91 hi0 hz0 hz1 hz2 rfl (by decide) _ _ _ ho ⟨_,0,none⟩ 1 1 [.string x,.int .i8 0,.int .i64 0,.string ⟨#[]⟩] rfl (ZR _ #[.string x,.int .i8 0,.int .i64 0,.string ⟨#[]⟩] _) (by simp[Value.oneCell']) (by unfold maxLen;omega) (by omega) hz5
 obtain⟨a6,c6,rfl,_⟩:=ZB hown';refine⟨a6,c6,w5,hrun,?_,hb5.grown hgrow hz5 (fun j hj=>(ho.lt j hj).1)⟩;rw[List.length_append,List.flatMap_append];exact hown'
attribute [-go_sem] loadVar Builtin.append_ Instr.buildSlice
theorem Zmf(x:ByteArray)(u:World):(Instr.buildSlice 91 1 #[(0,.agg #[.string x,.int .i8 0,.int .i64 0,.string ⟨#[]⟩])]).run Tryz.prog u=.ok (.slice (some ⟨u.heap.size,0,none⟩) 1 1) (u.alloc (.cells #[.string x,.int .i8 0,.int .i64 0,.string ⟨#[]⟩] 100)):=by
 simp[Instr.buildSlice,Instr.fill,go_sem]
theorem Zmg(a:Value)(ha:a.oneCell'=true)(u:World):(Instr.buildSlice 23 1 #[(0,.agg #[.int .i8 1,.string ⟨#[]⟩,a,.int .i8 0,.int .i8 0,.string ⟨#[]⟩,.int .i8 0,.int .i64 0,.string ⟨#[]⟩,.slice none 0 0,.int .i8 0,.string ⟨#[]⟩,.int .i8 0,.int .i64 0,.string ⟨#[]⟩,.slice none 0 0])]).run Tryz.prog u=.ok (.slice (some ⟨u.heap.size,0,none⟩) 1 1) (u.alloc (.cells #[.int .i8 1,.string ⟨#[]⟩,a,.int .i8 0,.int .i8 0,.string ⟨#[]⟩,.int .i8 0,.int .i64 0,.string ⟨#[]⟩,.slice none 0 0,.int .i8 0,.string ⟨#[]⟩,.int .i8 0,.int .i64 0,.string ⟨#[]⟩,.slice none 0 0] 105)):=by
 simp[Instr.buildSlice,Instr.fill,go_sem]
theorem ZoY(a1 a2:Option Addr)(n1 n2 c1 c2:Nat)(u:World):(Instr.buildSlice 386 2 #[(0,.slice a1 n1 c1),(1,.slice a2 n2 c2)]).run Tryz.prog u=.ok (.slice (some ⟨u.heap.size,0,none⟩) 2 2) (u.alloc (.cells #[.slice a1 n1 c1,.slice a2 n2 c2] 23)):=by
 simp[Instr.buildSlice,Instr.fill,go_sem]
def Zaq(ts:List T)(a:Option Addr)(c:Nat):XL:=⟨⟨1,noS,ts,0,E0,E0⟩,⟨a,c,none,0,none,0⟩⟩
theorem ZnC(w:World)(d:Nat):EIs w (d+1) E0 none 0:=⟨by decide,T0.ok,by decide,by decide,fun h=>absurd h (by decide)⟩
theorem ZfT(l:List XL):Za1 (l.map XL.cells)=l.flatMap XL.cells:=by
 unfold Za1;rw[List.flatMap_map]
theorem Zlj(d:Nat):∀l:List XL,(avL l).length≤(l.flatMap (fun y=>Zl d y.x)).length
 | []=>Nat.le_refl _
 | y::l=>by
  have h1:=Zlj d l;unfold avL at h1⊢;rw[List.flatMap_cons,List.flatMap_cons,List.length_append,List.length_append]
  have h2:(avX y).length≤(Zl d y.x).length:=by
   unfold avX Zl
   split
   ·have:=Zaw y.x.ts [];simp only[List.length_nil,List.length_append]at this⊢;omega
   ·exact Nat.zero_le _
  omega
theorem Zdw(f:XL→List T):∀(l:List XL) (y:XL),y∈l→(f y).length≤(l.flatMap f).length
 | [],y,h=>absurd h (by simp)
 | x::l,y,h=>by
  rw[List.flatMap_cons,List.length_append];rcases List.mem_cons.1 h with rfl | h
  ·omega
  ·have:=Zdw f l y h;omega
theorem Zqq(d:Nat):szD (d+1) E0=1:=by
 simp[szD,Zg,E0,E.kids,E.t,E.op]
def kbL(d:Nat)(ss:List ByteArray)(r:R3):List XL:=Zaq (Z7 ss (vsT [] (Zi d r))) none 0::r.bd
theorem Zmh(d:Nat)(ts:List T)(a:Option Addr)(c:Nat)(l:List XL):eqL d (Zaq ts a c::l)=eqL d (Zaq ts none 0::l):=rfl
theorem Zmi(ts:List T)(a:Option Addr)(c:Nat)(l:List XL):atN (Zaq ts a c::l)=atN (Zaq ts none 0::l):=rfl
theorem Zmj(d:Nat)(r:R3)(p:RP){ss:List ByteArray}{b:Nat}(w:World)(h:SetIs w b ss)(hR:RIs w (d+1) r p)(hT:(Zi (d+1) r).length≤1048576)(hbd:r.bd.length≤16)(hsz:∀i,i<(vsT [] (Zi (d+1) r)).length→(atS (vsT [] (Zi (d+1) r)) i).size≤maxLen) :
  Calls Tryz.prog 100 #[.map (some b),r.val p] w fun e w'=>Below w.heap.size w w'∧∃fs,(∃k,fs=itQ (eqL (d+1) (kbL (d+1) ss r)) k (atN (kbL (d+1) ss r)))∧Zbz (eqL (d+1) (kbL (d+1) ss r)) fs=fs∧e=.returned (.bool ((fs.length:Int)==((vsT [] (Zi (d+1) r)).length:Int))):=by
 have HTL:Hid (∀y∈r.bd,(Zl (d+1) y.x).length≤1048576):=fun y hy=>by
  have h1:=Zdw (fun y=>Zl (d+1) y.x) r.bd y hy;unfold Zi at hT;rw[List.length_append]at hT;omega
 have HAV:Hid ((avL r.bd).length≤1048576):=by
  have h1:=Zlj (d+1) r.bd;unfold Zi at hT;rw[List.length_append]at hT;exact Nat.le_trans h1 (by omega)
 have hkb:kbL (d+1) ss r=Zaq (Z7 ss (vsT [] (Zi (d+1) r))) none 0::r.bd:=rfl;rw[hkb];clear hkb;have hA0:=Zp (w:=w) (.cells #[.string r.pr,.slice p.a r.hd.length p.c,.slice p.ba r.bd.length p.bc] 25);have HR:=Lib.hid (hR.below hA0);have HS:=Lib.hid (h.of_block (hA0.block b h.lt));have HB0:=Lib.hid hA0;have hld:(loadVar 25 ⟨w.heap.size,0,none⟩).run Tryz.prog (w.alloc (.cells #[.string r.pr,.slice p.a r.hd.length p.c,.slice p.ba r.bd.length p.bc] 25))=.ok (.agg #[.string r.pr,.slice p.a r.hd.length p.c,.slice p.ba r.bd.length p.bc]) _:=run_loadVar_mid _ _ 0 25 [.string r.pr,.slice p.a r.hd.length p.c,.slice p.ba r.bd.length p.bc] _ (RL.range (Zk w #[.string r.pr,.slice p.a r.hd.length p.c,.slice p.ba r.bd.length p.bc] 25)) Tryz.underlying25 rfl (by kernel_rfl)
 have HRL:=Lib.hid (Zk w #[.string r.pr,.slice p.a r.hd.length p.c,.slice p.ba r.bd.length p.bc] 25);have HRV:=Lib.hid (ZdG (d+1) r p _ (hR.below hA0) (by omega));unfold R3.val at HRV;clear h hR hA0;unfold R3.val;go_enter Tryz.func100,Tryz.ntmps100;go_upto_region 1 with fail
 generalize w.alloc (.cells #[.string r.pr,.slice p.a r.hd.length p.c,.slice p.ba r.bd.length p.bc] 25)=W at HR HS HB0 hld HRL HRV⊢;go_wp2_with fail;refine HRV.out.mono ?_;rintro e w1 ⟨sv,rfl,hls,b1⟩;have HB1:=Lib.hid (HB0.out.trans (b1.mono HB0.out.size));have HBW:=Lib.hid b1;have HVL:=Lib.hid hls
 have hvn:(vsT [] (Zi (d+1) r)).length≤1048576:=by
  have:=Zaw (Zi (d+1) r) [];simp only[List.length_nil]at this;omega
 have HTW:Hid (∀t∈Z7 ss (vsT [] (Zi (d+1) r)),t.wf):=by
  intro t ht;obtain⟨n,hn,rfl⟩:=List.mem_map.1 ht;obtain⟨i,hi,rfl⟩:=List.getElem_of_mem (List.mem_filter.1 hn).1;have:=hsz i hi;unfold atS at this;rw[List.getD,List.getElem?_eq_getElem hi]at this;exact⟨this,ZpG⟩
 have HSZ:Hid (∀i,i<(vsT [] (Zi (d+1) r)).length→(atS (vsT [] (Zi (d+1) r)) i).size≤maxLen):=hsz;obtain⟨vs,hvs⟩:∃vs,vs=vsT [] (Zi (d+1) r):=⟨_,rfl⟩;rw[←hvs]at hls HVL hvn HSZ HTW;have HVS:=Lib.hid hvs;clear hvs;obtain⟨va,vc,rfl,hc1,hc2,hat⟩:=Z3 hls;have HAT:=Lib.hid hat;clear hls hat b1 HRV hld;have HO0:Hid (w1.ownsRow w1.heap.size 100 4 (.slice none (Z7 ss (vs.take 0)).length 0) (Z7 ss (vs.take 0)).length ((Z7 ss (vs.take 0)).flatMap T.cells)∧Below w1.heap.size w1 w1):=⟨World.ownsRow_nil _ _ _ _,Below.refl _ _⟩
 go_wp2;go_loopw [6,14] (fun ov i wr=>∃(k:Nat) (a':Option Addr) (c':Nat),k≤vs.length∧i=.int .i64 k∧ov=.slice a' (Z7 ss (vs.take k)).length c'∧Hid (wr.ownsRow w1.heap.size 100 4 (.slice a' (Z7 ss (vs.take k)).length c') (Z7 ss (vs.take k)).length ((Z7 ss (vs.take k)).flatMap T.cells)∧Below w1.heap.size w1 wr)) (fun _ i _=>vs.length-(intOf i).toNat)
 case atStart=>exact⟨0,none,0,Nat.zero_le _,rfl,rfl,HO0.out⟩
 case round=>
  obtain⟨k,a',c',hk,rfl,rfl,HI⟩:=hrel;clear HO0
  by_cases hlt:k<vs.length
  ·have hlt':(k:Int)<(vs.length:Int):=by omega
   have hk0:(0:Int)≤(k:Int):=by omega
   obtain⟨g,off,rfl,hg,hce⟩:=HAT.out (by omega);have l1:=ZL ((HI.out.2.cell (p:=⟨g,off+k,none⟩) hg).trans (hce k hlt));have HHS:=Lib.hid (Zh6 ((HS.out.of_block (HBW.out.block b HS.out.lt)).of_block (HI.out.2.block b (Nat.lt_of_lt_of_le HS.out.lt HBW.out.size))) (HSZ.out k hlt));have HLT:=Lib.hid (ZiZ (ss:=ss) hlt);have hll:(Z7 ss (vs.take k)).length≤1048576:=Nat.le_trans (ZfS _ _) (by rw[List.length_take];omega)
   generalize Z7 ss (vs.take k)=out at HI HLT hll⊢;generalize atS vs k=x at l1 HHS HLT;clear hce;go_wp2_with fail;refine HHS.out.mono ?_;rintro e w2 ⟨rfl,b2⟩;have HO2:=Lib.hid (Zn HI.out.1 b2);have HB2:=Lib.hid (HI.out.2.trans (b2.mono HI.out.2.size));clear HHS b2 l1 HI
   cases hi:inB ss x
   ·rw[hi,if_neg (by decide)]at HLT;clear hi;go_wp2;go_roundw
    case rel=>exact⟨k+1,a',c',by omega,by go_num,by rw[HLT.out],by rw[HLT.out];exact⟨HO2.out,HB2.out⟩⟩
    case measure=>simp[intOf];omega
   ·rw[hi,if_pos rfl]at HLT;obtain⟨a6,c6,w5,hrun,hown,hb5⟩:=Zme x HO2.out HB2.out (Nat.le_refl _) (by omega);have hsl:=Zmf x w2;have HF:=Lib.hid (And.intro hown hb5);clear hown hb5 HO2 HB2 hi;go_wp2;go_roundw
    case rel=>exact⟨k+1,a6,c6,by omega,by go_num,by rw[HLT.out,List.length_append];rfl,by rw[HLT.out];exact HF.out⟩
    case measure=>simp[intOf];omega
  ·obtain rfl:k=vs.length:=by omega
   rw[List.take_length]at HI;rw[List.take_length];obtain⟨U,rfl⟩:∃U,U=wr:=⟨_,rfl⟩;have hal:(Z7 ss vs).length≤1048576:=Nat.le_trans (ZfS _ _) hvn;have HWF:Hid (∀t∈Z7 ss vs,t.wf):=HTW.out;obtain⟨ts,hts⟩:∃ts,ts=Z7 ss vs:=⟨_,rfl⟩;rw[←hts]at HI hal HWF;rw[←hts];have HTS:=Lib.hid hts;clear hts;have hlit:=Zmg (.slice a' ts.length c') rfl U;have hA1:=Zp (w:=U) (.cells #[.int .i8 1,.string ⟨#[]⟩,(.slice a' ts.length c'),.int .i8 0,.int .i8 0,.string ⟨#[]⟩,.int .i8 0,.int .i64 0,.string ⟨#[]⟩,.slice none 0 0,.int .i8 0,.string ⟨#[]⟩,.int .i8 0,.int .i64 0,.string ⟨#[]⟩,.slice none 0 0] 105)
   have hBU:Below W.heap.size W U:=HBW.out.trans (HI.out.2.mono HBW.out.size);have hB1:Below W.heap.size W (U.alloc (.cells #[.int .i8 1,.string ⟨#[]⟩,(.slice a' ts.length c'),.int .i8 0,.int .i8 0,.string ⟨#[]⟩,.int .i8 0,.int .i64 0,.string ⟨#[]⟩,.slice none 0 0,.int .i8 0,.string ⟨#[]⟩,.int .i8 0,.int .i64 0,.string ⟨#[]⟩,.slice none 0 0] 105)):=hBU.trans (hA1.mono hBU.size);have lbody:=Za6 ((hB1.cell (p:=⟨w.heap.size,2,none⟩) HRL.out.lt).trans (HRL.out.at (j:=2) rfl))
   have hs2:=ZoY (some ⟨U.heap.size,0,none⟩) p.ba 1 r.bd.length 1 p.bc (U.alloc (.cells #[.int .i8 1,.string ⟨#[]⟩,(.slice a' ts.length c'),.int .i8 0,.int .i8 0,.string ⟨#[]⟩,.int .i8 0,.int .i64 0,.string ⟨#[]⟩,.slice none 0 0,.int .i8 0,.string ⟨#[]⟩,.int .i8 0,.int .i64 0,.string ⟨#[]⟩,.slice none 0 0] 105));obtain⟨W1,hW1⟩:∃W1,W1=U.alloc (.cells #[.int .i8 1,.string ⟨#[]⟩,(.slice a' ts.length c'),.int .i8 0,.int .i8 0,.string ⟨#[]⟩,.int .i8 0,.int .i64 0,.string ⟨#[]⟩,.slice none 0 0,.int .i8 0,.string ⟨#[]⟩,.int .i8 0,.int .i64 0,.string ⟨#[]⟩,.slice none 0 0] 105):=⟨_,rfl⟩
   have hz1:W1.heap.size=U.heap.size+1:=by rw[hW1];simp
   have hg1:∀j u,(Zaq ts a' c').cells[j]?=some u→W1.cell? ⟨U.heap.size,0+j,none⟩=some u:=fun j u hu=>by
    rw[hW1];have:=ZR U #[.int .i8 1,.string ⟨#[]⟩,(.slice a' ts.length c'),.int .i8 0,.int .i8 0,.string ⟨#[]⟩,.int .i8 0,.int .i64 0,.string ⟨#[]⟩,.slice none 0 0,.int .i8 0,.string ⟨#[]⟩,.int .i8 0,.int .i64 0,.string ⟨#[]⟩,.slice none 0 0] 105 j u hu;rw[show(⟨U.heap.size,0,none⟩:Addr).add j=⟨U.heap.size,0+j,none⟩ by rw[WideShapes.add_plain]]at this;exact this
   rw[←hW1]at hlit hA1 hB1 lbody hs2;have hA2:=Zp (w:=W1) (.cells #[.slice (some ⟨U.heap.size,0,none⟩) 1 1,.slice p.ba r.bd.length p.bc] 23);obtain⟨W2,hW2⟩:∃W2,W2=W1.alloc (.cells #[.slice (some ⟨U.heap.size,0,none⟩) 1 1,.slice p.ba r.bd.length p.bc] 23):=⟨_,rfl⟩;have hq0:W2.cell? ⟨W1.heap.size,0,none⟩=some (.slice (some ⟨U.heap.size,0,none⟩) 1 1):=by rw[hW2];go_simp
   have hq1:W2.cell? ⟨W1.heap.size,1,none⟩=some (.slice p.ba r.bd.length p.bc):=by rw[hW2];go_simp
   have hqz:W1.heap.size<W2.heap.size:=by rw[hW2];simp
   rw[←hW2]at hs2 hA2;have hB2:Below W.heap.size W W2:=hB1.trans (hA2.mono hB1.size);have hRB:=(HR.out.below hB2).bd
   have x1:LrCP W2 (.slice (some ⟨U.heap.size,0,none⟩) [(Zaq ts a' c').cells].length 1) [(Zaq ts a' c').cells]:=by
    refine⟨fun r hr=>?_,_,_,rfl,fun _=>⟨U.heap.size,0,rfl,by omega,fun j u hu=>?_⟩⟩
    ·obtain rfl:=List.mem_singleton.1 hr;exact⟨rfl,by simp[Zaq,XL.cells,Value.oneCell']⟩
    ·have hlt:U.heap.size<W1.heap.size:=by omega
     exact(hA2.cell (p:=⟨U.heap.size,0+j,none⟩) hlt).trans (hg1 j u (by simpa[Za1]using hu))
   have x2:LrCP W2 (.slice p.ba (r.bd.map XL.cells).length p.bc) (r.bd.map XL.cells):=by
    obtain⟨_,a2,c2,e2,_,_,hx⟩:=hRB.lies
    cases e2
    refine⟨fun r hr=>?_,p.ba,p.bc,by rw[List.length_map],fun h0=>?_⟩
    ·obtain⟨y,_,rfl⟩:=List.mem_map.1 hr;exact⟨rfl,by simp[XL.cells,Value.oneCell']⟩
    ·rw[List.length_map]at h0;obtain⟨g,off,ea,hg,hf⟩:=hx h0;refine⟨g,off,ea,hg,fun j u hu=>?_⟩;rw[ZfT]at hu;obtain⟨hj,e⟩:=List.getElem?_eq_some_iff.1 hu;rw[hf j hj,e]
   have HCC:=Lib.hid (Znw (cq:=2) (rows1:=[(Zaq ts a' c').cells]) hq0 (by rw[List.length_map];exact hq1) hqz x1 x2 (by rw[List.length_map];simp;omega));have HBU:=Lib.hid (HB0.out.trans (hB2.mono HB0.out.size));have HB2:=Lib.hid hB2;have HU2:Hid (Below U.heap.size U W2):=hA1.trans (hA2.mono hA1.size);rw[hz1]at HCC;clear hq0 hq1 hqz x1 x2 hg1 hA1 hA2 hB1 hB2 hBU hRB hW1 hW2;go_wp2_with fail;refine HCC.out.mono ?_
   rintro e w7 ⟨sv7,rfl,hown7,b7⟩;obtain⟨nn,hnn⟩:∃nn,nn=[(Zaq ts a' c').cells].length+(r.bd.map XL.cells).length:=⟨_,rfl⟩;rw[←hnn]at hown7;have hU7:Below U.heap.size U w7:=HU2.out.trans (b7.mono HU2.out.size);have hW7:Below W.heap.size W w7:=HB2.out.trans (b7.mono HB2.out.size)
   have HLB:Hid (Lb w7 sv7 (d+1) (Zaq ts a' c'::r.bd)):=by
    refine⟨?_,fun y hy=>?_⟩
    ·have h1:=ZY hown7;have e1:([(Zaq ts a' c').cells]++r.bd.map XL.cells)=(Zaq ts a' c'::r.bd).map XL.cells:=rfl;rw[e1,ZfT]at h1
     have e2:(Zaq ts a' c'::r.bd).length=nn:=by
      rw[hnn,List.length_map,List.length_cons,List.length_singleton,Nat.add_comm]
     rw[e2];exact h1
    ·rcases List.mem_cons.1 hy with rfl | hy
     ·exact⟨⟨by show(-128:Int)≤1;decide,by show(1:Int)≤127;decide⟩,⟨by show(-128:Int)≤0;decide,by show(0:Int)≤127;decide⟩,by show noS.size≤maxLen;decide,by show ts.length≤_;omega,⟨ZY (Zn HI.out.1 hU7),HWF.out⟩,ZnC _ _,ZnC _ _⟩
     ·exact(HR.out.below hW7).bd.each y hy
   have HB7:=Lib.hid (HBU.out.trans (b7.mono HBU.out.size))
   have HLM:=Lib.hid (ZhZ d sv7 _ w7 HLB.out (fun i hi=>by
    rw[ZS hi];rcases List.mem_cons.1 (List.getElem_mem hi)with h | h
    ·rw[h];exact hal
    ·have h1:=HTL.out _ h;unfold Zl at h1;rw[List.length_append]at h1;omega) (by
    have e1:avL (Zaq ts a' c'::r.bd)=vsT [] ts++avL r.bd:=rfl;have h1:=Zaw ts [];have h2:=HAV.out;rw[e1,List.length_append];simp only[List.length_nil]at h1;omega) (by rw[List.length_cons];omega) (fun i hi=>by
    rw[ZS hi];rcases List.mem_cons.1 (List.getElem_mem hi)with h | h
    ·rw[h]
     have e0:szD (d+1) E0≤1048576:=by
      rw[Zqq];omega
     exact⟨e0,e0⟩
    ·have h1:=HTL.out _ h;unfold Zl at h1;rw[List.length_append,List.length_append]at h1;unfold szD;omega))
   obtain⟨a7,c7,rfl,_⟩:=ZB hown7;rw[Zmh,Zmi]at HLM;clear HCC hown7 b7 hU7 hW7 HLB HI hlit lbody hs2 hnn;go_wp2_with fail;refine HLM.out.mono ?_;rintro e w8 ⟨sv8,fs,rfl,hown8,b8,hit,hst⟩;obtain⟨a8,c8,rfl,_⟩:=ZB hown8;have HF:Hid (Below w.heap.size w w8∧(∃k,fs=itQ (eqL (d+1) (Zaq ts none 0::r.bd)) k (atN (Zaq ts none 0::r.bd)))∧Zbz (eqL (d+1) (Zaq ts none 0::r.bd)) fs=fs):=⟨HB7.out.trans (b8.mono HB7.out.size),hit,hst⟩
   clear HLM hown8 b8 hit hst;go_wp2;go_ret;rw[←HVS.out,←HTS.out];exact⟨HF.out.1,fs,HF.out.2.1,HF.out.2.2,rfl⟩
end
section
open Go.RowKit Go.Maps Go.ChangeMaps
attribute [local go_sem ↓] Go.wp_at_zero Go.wp_at_succ
structure ZbI (d:Nat) (ss:List ByteArray) (r:R3) (fs:List ByteArray):Prop where
 it:∃k,fs=itQ (eqL d (kbL d ss r)) k (atN (kbL d ss r))
 st:Zbz (eqL d (kbL d ss r)) fs=fs
theorem ZoV{w:World}{d:Nat}{r:R3}{p:RP}(h:RIs w d r p):∀i,i<(vsT [] (Zi d r)).length→(atS (vsT [] (Zi d r)) i).size≤maxLen:=by
 intro i hi
 have hm:atS (vsT [] (Zi d r)) i∈vsT [] (Zi d r):=by
  unfold atS;rw[List.getD,List.getElem?_eq_getElem hi];exact List.getElem_mem hi
 rcases ZbS _ _ _ hm with h1 | ⟨t,ht,e⟩
 ·simp at h1
 ·rw[←e];exact(ZhB h t ht).text
structure ZbN (w:World) (tb kb:Nat) (v:Value) (ss:List ByteArray) (left:Nat):Prop where
 rl:RL w tb 133 [v,.map (some kb),.int .u32 (left:Int)]
 set:SetIs w kb ss
 ne:tb≠kb
theorem ZcJ{P:Program}{id:Nat}{ops:Array Oper}{b:Bool}{Q:Exit→Act→World→Prop}{a:Act}{w:World}
  (h:∃A V,(Code.region id ops b).wp P (fun e a' w'=>e=.normal∧a'=A∧w'=V) a w∧Q .normal A V):(Code.region id ops b).wp P Q a w:=by
 obtain⟨A,V,h,hk⟩:=h;exact Code.wp_mono (fun e a' w' h=>by obtain⟨rfl,rfl,rfl⟩:=h;exact hk) h
attribute [-go_sem] loadVar
theorem ZcK{u:World}{a:Addr}{v:Value}(h:u.cell? a=some v):(loadVar 23 a).run Tryz.prog u=.ok v u:=by rw[loadVar.eq_1];go_simp
theorem Zg5(d:Nat)(r:R3)(p:RP)(w:World)(hKT:KT w)(hR:RIs w (d+1) r p)(hs:Zaj (d+1) r)(hT:(Zi (d+1) r).length≤1048576){v:Value}{l:List ByteArray}(hl:Ls w v l.length (l.flatMap Zm))(hsz:∀i,i<l.length→(atS l i).size≤maxLen) :
  Calls Tryz.prog 29 #[r.val p,v] w fun e w'=>Below w.heap.size w w' ∧
   ((ruleB (d+1) r=false∧e=.returned (.tuple #[.pointer none,.int .i64 40])) ∨
    (ruleB (d+1) r=true∧knB l l.length=false∧e=.returned (.tuple #[.pointer none,.int .i64 1])) ∨
    (ruleB (d+1) r=true∧knB l l.length=true∧∃fs,ZbI (d+1) l r fs∧((fs.length≠(vsT [] (Zi (d+1) r)).length∧e=.returned (.tuple #[.pointer none,.int .i64 73])) ∨
     (fs.length=(vsT [] (Zi (d+1) r)).length∧∃tb kb,e=.returned (.tuple #[.pointer (some ⟨tb,0,none⟩),.int .i64 0])∧ZbN w' tb kb (.slice p.ba r.bd.length p.bc) l (2^r.bd.length-1)∧w.heap.size≤tb∧w.heap.size≤kb)))):=by
 have hA0:=Zp (w:=w) (.cells #[.string r.pr,.slice p.a r.hd.length p.c,.slice p.ba r.bd.length p.bc] 25);have HR:=Lib.hid (hR.below hA0);have HL:=Lib.hid (hl.below hA0);have HZ:=Lib.hid hsz;have HB0:=Lib.hid hA0;have hld:(loadVar 25 ⟨w.heap.size,0,none⟩).run Tryz.prog (w.alloc (.cells #[.string r.pr,.slice p.a r.hd.length p.c,.slice p.ba r.bd.length p.bc] 25))=.ok (.agg #[.string r.pr,.slice p.a r.hd.length p.c,.slice p.ba r.bd.length p.bc]) _:=run_loadVar_mid _ _ 0 25 [.string r.pr,.slice p.a r.hd.length p.c,.slice p.ba r.bd.length p.bc] _ (RL.range (Zk w #[.string r.pr,.slice p.a r.hd.length p.c,.slice p.ba r.bd.length p.bc] 25)) Tryz.underlying25 rfl (by kernel_rfl)
 have HRL:=Lib.hid (Zk w #[.string r.pr,.slice p.a r.hd.length p.c,.slice p.ba r.bd.length p.bc] 25);have HCR:=Lib.hid (ZgE (d+1) r p _ (hKT.below hA0) (hR.below hA0) hs);have HVZ:=Lib.hid (ZoV hR)
 have HBD:Hid (ruleB (d+1) r=true→r.bd.length≤16):=fun h=>by
  unfold ruleB at h;simp only[Bool.and_eq_true,decide_eq_true_eq]at h;exact h.2.2.1
 unfold R3.val at HCR;clear hKT hR hl hsz hA0 hs;unfold R3.val;go_enter Tryz.func29,Tryz.ntmps29;go_upto_region 1 with fail
 generalize w.alloc (.cells #[.string r.pr,.slice p.a r.hd.length p.c,.slice p.ba r.bd.length p.bc] 25)=W at HR HL HB0 hld HRL HCR⊢;go_wp2_with fail;refine HCR.out.mono ?_;rintro e w1 ⟨rfl,b1⟩;have HB1:=Lib.hid (HB0.out.trans (b1.mono HB0.out.size));have HW1:=Lib.hid b1;clear b1 HCR hld
 cases hrb:ruleB (d+1) r
 ·simp only[Zgp];have HF:=Lib.hid hrb;clear hrb;go_wp2;go_ret2;exact⟨HB1.out,.inl ⟨HF.out,rfl⟩⟩
 ·simp only[Zgp];have hbd:=HBD.out hrb;have HRT:=Lib.hid hrb;have HKN:=Lib.hid (ZiW (HL.out.below HW1.out) HZ.out);clear hrb HBD;go_wp2_with fail;refine HKN.out.mono ?_;rintro e w2 ⟨b2,hcase⟩;have HB2:=Lib.hid (HB1.out.trans (b2.mono HB1.out.size));have HW2:=Lib.hid (HW1.out.trans (b2.mono HW1.out.size));clear HKN;rcases hcase with ⟨hk,rfl⟩ | ⟨hk,kb,rfl,hset,hkb⟩
  ·have HK:=Lib.hid hk;clear hk b2;go_wp2;go_ret2;exact⟨HB2.out,.inr (.inl ⟨HRT.out,HK.out,rfl⟩)⟩
  ·have HK:=Lib.hid hk;have HS:=Lib.hid hset;have HKB:Hid (w.heap.size≤kb):=Nat.le_trans HB1.out.size hkb;have hld2:(loadVar 25 ⟨w.heap.size,0,none⟩).run Tryz.prog w2=.ok (.agg #[.string r.pr,.slice p.a r.hd.length p.c,.slice p.ba r.bd.length p.bc]) w2:=run_loadVar_mid _ _ 0 25 [.string r.pr,.slice p.a r.hd.length p.c,.slice p.ba r.bd.length p.bc] _ (RL.range (RL.below HRL.out HW2.out)) Tryz.underlying25 rfl (by kernel_rfl)
   have HLI:=Lib.hid (Zmj d r p w2 hset (HR.out.below HW2.out) hT hbd HVZ.out);unfold R3.val at HLI;clear hk hset hkb b2;go_wp2_with fail;refine HLI.out.mono ?_;rintro e w3 ⟨b3,fs,hit,hst,rfl⟩;have HB3:=Lib.hid (HB2.out.trans (b3.mono HB2.out.size));have HW3:=Lib.hid (HW2.out.trans (b3.mono HW2.out.size));have HS3:=Lib.hid (HS.out.of_block (b3.block kb HS.out.lt));have HLK:Hid (ZbI (d+1) l r fs):=⟨hit,hst⟩
   obtain⟨vn,hvn⟩:∃vn,vn=(vsT [] (Zi (d+1) r)).length:=⟨_,rfl⟩;rw[←hvn];have HVN:=Lib.hid hvn;clear hit hst hvn HLI hld2 HS
   by_cases he:fs.length=vn
   ·have hd:((fs.length:Int)==(vn:Int))=true:=by rw[beq_iff_eq];omega
    rw[hd];have HE:=Lib.hid he;clear hd he b3;have lb:=ZcK ((HW3.out.cell (p:=⟨w.heap.size,2,none⟩) HRL.out.lt).trans (HRL.out.at (j:=2) rfl));have HLD:Hid (∀u,Below w3.heap.size w3 u→(loadVar 23 ⟨w.heap.size,2,none⟩).run Tryz.prog u=.ok (.slice p.ba r.bd.length p.bc) u):=fun u hu=>ZcK (((HW3.out.trans (hu.mono HW3.out.size)).cell (p:=⟨w.heap.size,2,none⟩) HRL.out.lt).trans (HRL.out.at (j:=2) rfl))
    have HFO:=fun u=>Lib.hid (ZiR r.bd.length hbd u)
    clear lb;go_upto_region 9 with fail
    have lb:=HLD.out _ (Below.refl w3.heap.size w3).drew;have hgf:=HFO w3.drew;clear HFO HLD;refine ZcJ ?_;apply Exists.intro;apply Exists.intro;refine⟨?_,?_⟩
    ·refine wp_region_noPanic ?_;go_region_with (go_at_call 101;refine(hgf.out).mono ?_;rintro ee w4 ⟨rfl,rfl⟩)
     all_goals exact NoPanic.normal ⟨rfl,rfl,rfl⟩
    simp (config:={maxSteps:=8000000}) only[Act.put,List.getElem_toArray,List.getElem_cons_zero,List.getElem_cons_succ,List.setIfInBounds_toArray,List.set_cons_succ,List.set_cons_zero];simp only[Exit.then];go_at_K;have HA:Hid (Below w3.heap.size w3 (w3.drew.alloc (.cells #[.slice p.ba r.bd.length p.bc,.map (some kb),.int .u32 ((2^r.bd.length-1:Nat):Int)] 133))):=(Below.refl _ _).drew.alloc (Nat.le_refl _) _
    have HTU:Hid (ZbN (w3.drew.alloc (.cells #[.slice p.ba r.bd.length p.bc,.map (some kb),.int .u32 ((2^r.bd.length-1:Nat):Int)] 133)) w3.heap.size kb (.slice p.ba r.bd.length p.bc) l (2^r.bd.length-1)):=⟨Zk w3.drew #[.slice p.ba r.bd.length p.bc,.map (some kb),.int .u32 ((2^r.bd.length-1:Nat):Int)] 133,HS3.out.of_block (HA.out.block kb HS3.out.lt),fun e=>by have:=HS3.out.lt;omega⟩;have HBF:=Lib.hid (HB3.out.trans (HA.out.mono HB3.out.size))
    have HSZ:=Lib.hid HB3.out.size;clear HA lb hgf;go_wp2;go_ret2;exact⟨HBF.out,.inr (.inr ⟨HRT.out,HK.out,fs,HLK.out,.inr ⟨by rw[←HVN.out];exact HE.out,w3.heap.size,kb,rfl,HTU.out,HSZ.out,HKB.out⟩⟩)⟩
   ·have hd:((fs.length:Int)==(vn:Int))=false:=by rw[beq_eq_false_iff_ne];omega
    rw[hd];have HE:=Lib.hid he;clear hd he b3;go_wp2;go_ret2;exact⟨HB3.out,.inr (.inr ⟨HRT.out,HK.out,fs,HLK.out,.inl ⟨by rw[←HVN.out];exact HE.out,rfl⟩⟩)⟩
end
section
open Go.RowKit Go.Maps Go.Shelf
attribute [local go_sem ↓] Go.wp_at_zero Go.wp_at_succ
attribute [local go_sem] Oper.semAt_some
attribute [-go_sem] loadVar storeVar
theorem Zl8(ev:Operand→Value)(o:Oper){x:Operand}(hop:o.op=.fieldAddr 105 x 3)(w:World){b:Nat}(hx:ev x=.pointer (some ⟨b,0,none⟩)):(execOp ev o).run Tryz.prog w=.ok (.value (.pointer (some ⟨b,4,none⟩))) w:=by
 simp only[execOp,hop,hx];go_simp
theorem Zl9(ev:Operand→Value)(o:Oper){x:Operand}(hop:o.op=.fieldAddr 105 x 4)(w:World){b:Nat}(hx:ev x=.pointer (some ⟨b,0,none⟩)):(execOp ev o).run Tryz.prog w=.ok (.value (.pointer (some ⟨b,10,none⟩))) w:=by
 simp only[execOp,hop,hx];go_simp
def Zc2:List (List Nat × Nat):=[([],0),([0],1),([0,1],2),([0,1,2],5),([0,1,2,5],6),([0,1,2,5,6],7),([0,1,2,5,6,7,3,4,8,9],10),([0,1,2,5,6,7,3,4,8,9,10],11)]
theorem Zqp{ops:Array Oper}{Q:Exit→Act→World→Prop}{S:World→Prop}{a0:Act}{w5:World}{xb b:Nat}{el er:Value}{ty1 ty2:Array TypeId}{Pf:Value→Value→World→Prop}
  (q0:Zf ops 0 none (.move (.tmp 0)) (some 8))
  (q1:Zf ops 1 none (.fieldAddr 105 (.tmp 3) 3) (some 9))
  (q2:Zf ops 2 none (.load 103 (.tmp 9)) (some 10))
  (q5:Zf ops 5 none (.move (.tmp 0)) (some 13))
  (q6:Zf ops 6 none (.fieldAddr 105 (.tmp 3) 4) (some 14))
  (q7:Zf ops 7 none (.load 103 (.tmp 14)) (some 15))
  (q3:Zf ops 3 none (.call {callee:=.value (.func 275),args:=#[.tmp 10],argTypes:=ty1}) (some 11))
  (q4:Zf ops 4 none (.call {callee:=.value (.func 209),args:=#[.tmp 8,.tmp 11],argTypes:=ty2}) (some 12))
  (q8:Zf ops 8 none (.call {callee:=.value (.func 275),args:=#[.tmp 15],argTypes:=ty1}) (some 16))
  (q9:Zf ops 9 none (.call {callee:=.value (.func 209),args:=#[.tmp 13,.tmp 16],argTypes:=ty2}) (some 17))
  (q10:Zf ops 10 none (.assign (.tmp 12)) (some 6))
  (q11:Zf ops 11 none (.assign (.tmp 17)) (some 7))
  (hs:Region.noSelect ops=true) (hq:(Zc2.all fun p=>Region.free .any ops (LR 12 p.1) p.2&&(Region.ready .any ops (LR 12 p.1)).contains p.2)=true)
  (r3:Region.ready .any ops (LR 12 [0,1,2,5,6,7])=[3])
  (r4:Region.ready .any ops (LR 12 [0,1,2,5,6,7,3])=[4])
  (r8:Region.ready .any ops (LR 12 [0,1,2,5,6,7,3,4])=[8])
  (r9:Region.ready .any ops (LR 12 [0,1,2,5,6,7,3,4,8])=[9])
  (rend:Region.ready .any ops (LR 12 [0,1,2,5,6,7,3,4,8,9,10,11])=[])
  (hQ:∀(d:Option Tmp) (v:Value) c a w,Q (.panic c) (a.put d v) w→Q (.panic c) a w)
  (hsz:17<a0.tmps.size) (e0:a0.eval (.tmp 0)=.map (some b)) (e3:a0.eval (.tmp 3)=.pointer (some ⟨xb,0,none⟩))
  (hS0:S w5.drew)
  (keep:∀u u',S u→S u'→S u') (LdL:∀u,S u→(loadVar 103 ⟨xb,4,none⟩).run Tryz.prog u=.ok el u) (LdR:∀u,S u→(loadVar 103 ⟨xb,10,none⟩).run Tryz.prog u=.ok er u)
  (C1:Calls Tryz.prog 275 #[el] w5.drew fun e u1=>∃v1,e=.returned v1∧S u1∧Calls Tryz.prog 209 #[.map (some b),v1] u1 fun e u2=>∃l1,e=.returned l1∧S u2∧Calls Tryz.prog 275 #[er] u2 fun e u3=>∃v2,e=.returned v2∧S u3∧Calls Tryz.prog 209 #[.map (some b),v2] u3 fun e u4=>∃l2,e=.returned l2∧S u4∧Pf l1 l2 u4)
  (F:∀(wc:World) (v1 l1 v2 l2:Value),Pf l1 l2 wc→Q .normal ((((((((((((a0.put (some 8) (.map (some b))).put (some 9) (.pointer (some ⟨xb,4,none⟩))).put (some 10) (el)).put (some 13) (.map (some b))).put (some 14) (.pointer (some ⟨xb,10,none⟩))).put (some 15) (er)).put (some 11) (v1)).put (some 12) (l1)).put (some 16) (v2)).put (some 17) (l2)).put (some 6) (l1)).put (some 7) (l2)) wc) :
  wpAnyH Tryz.prog .any ops Q S 12 (LR 12 []) a0 w5.drew:=by
 have hall:∀p∈Zc2,Region.free .any ops (LR 12 p.1) p.2=true∧(Region.ready .any ops (LR 12 p.1)).contains p.2=true:=by
  intro p hp;have:=List.all_eq_true.1 hq p hp;simpa using this
 unfold Zc2 at hall;refine Zj [] (.map (some b)) q0 hs (hall ([],0) (by simp)) hQ (fun o w' hop hS=>Zs _ _ hop w' (by(repeat rw[Za _ _ (by decide)]);exact e0)) hS0 ?_;refine Zj [0] (.pointer (some ⟨xb,4,none⟩)) q1 hs (hall ([0],1) (by simp)) hQ (fun o w' hop hS=>Zl8 _ _ hop w' (by(repeat rw[Za _ _ (by decide)]);exact e3)) hS0 ?_;refine Zj [0,1] (el) q2 hs (hall ([0,1],2) (by simp)) hQ (fun o w' hop hS=>ZbA _ _ hop w' (by(repeat(first | rw[Zc _ _ (by(try simp only[Zb]);omega)] | rw[Za _ _ (by decide)]))) (LdL _ hS)) hS0 ?_
 refine Zj [0,1,2] (.map (some b)) q5 hs (hall ([0,1,2],5) (by simp)) hQ (fun o w' hop hS=>Zs _ _ hop w' (by(repeat rw[Za _ _ (by decide)]);exact e0)) hS0 ?_;refine Zj [0,1,2,5] (.pointer (some ⟨xb,10,none⟩)) q6 hs (hall ([0,1,2,5],6) (by simp)) hQ (fun o w' hop hS=>Zl9 _ _ hop w' (by(repeat rw[Za _ _ (by decide)]);exact e3)) hS0 ?_;refine Zj [0,1,2,5,6] (er) q7 hs (hall ([0,1,2,5,6],7) (by simp)) hQ (fun o w' hop hS=>ZbA _ _ hop w' (by(repeat(first | rw[Zc _ _ (by(try simp only[Zb]);omega)] | rw[Za _ _ (by decide)]))) (LdR _ hS)) hS0 ?_
 refine wpAnyH_all r3 (by simp) ?_;intro i hi;obtain rfl:=List.mem_singleton.1 hi;obtain⟨o3,ho,hg,hop,hd⟩:=Zd q3;have x3_0:(((((((a0.put (some 8) (.map (some b))).put (some 9) (.pointer (some ⟨xb,4,none⟩))).put (some 10) (el)).put (some 13) (.map (some b))).put (some 14) (.pointer (some ⟨xb,10,none⟩))).put (some 15) (er))).eval (.tmp 10)=el:=(by(repeat(first | rw[Zc _ _ (by(try simp only[Zb]);omega)] | rw[Za _ _ (by decide)])))
 refine Zw ho (Zv hg) (ZC 275 Tryz.func275 (by kernel_rfl) (by kernel_rfl) #[.tmp 10] _ hop #[el] (by simp only[List.map_toArray,List.map_cons,List.map_nil,x3_0])) ?_;refine(C1).mono ?_;rintro e u1 ⟨v1,rfl,hS1,C2⟩;have hS3:=keep _ _ hS0 hS1;refine⟨_,rfl,hS3,?_⟩;rw[hd];clear ho hg hop hd;rw[←Zh];refine wpAnyH_all r4 (by simp) ?_;intro i hi;obtain rfl:=List.mem_singleton.1 hi
 obtain⟨o4,ho,hg,hop,hd⟩:=Zd q4;have x4_0:((((((((a0.put (some 8) (.map (some b))).put (some 9) (.pointer (some ⟨xb,4,none⟩))).put (some 10) (el)).put (some 13) (.map (some b))).put (some 14) (.pointer (some ⟨xb,10,none⟩))).put (some 15) (er)).put (some 11) (v1))).eval (.tmp 8)=.map (some b):=(by(repeat(first | rw[Zc _ _ (by(try simp only[Zb]);omega)] | rw[Za _ _ (by decide)])))
 have x4_1:((((((((a0.put (some 8) (.map (some b))).put (some 9) (.pointer (some ⟨xb,4,none⟩))).put (some 10) (el)).put (some 13) (.map (some b))).put (some 14) (.pointer (some ⟨xb,10,none⟩))).put (some 15) (er)).put (some 11) (v1))).eval (.tmp 11)=v1:=(by(repeat(first | rw[Zc _ _ (by(try simp only[Zb]);omega)] | rw[Za _ _ (by decide)])));refine Zw ho (Zv hg) (ZC 209 Tryz.func209 (by kernel_rfl) (by kernel_rfl) #[.tmp 8,.tmp 11] _ hop #[.map (some b),v1] (by simp only[List.map_toArray,List.map_cons,List.map_nil,x4_0,x4_1])) ?_
 refine(C2).mono ?_;rintro e u2 ⟨l1,rfl,hS2,C3⟩;have hS4:=keep _ _ hS3 hS2;refine⟨_,rfl,hS4,?_⟩;rw[hd];clear ho hg hop hd;rw[←Zh];refine wpAnyH_all r8 (by simp) ?_;intro i hi;obtain rfl:=List.mem_singleton.1 hi;obtain⟨o8,ho,hg,hop,hd⟩:=Zd q8;have x8_0:(((((((((a0.put (some 8) (.map (some b))).put (some 9) (.pointer (some ⟨xb,4,none⟩))).put (some 10) (el)).put (some 13) (.map (some b))).put (some 14) (.pointer (some ⟨xb,10,none⟩))).put (some 15) (er)).put (some 11) (v1)).put (some 12) (l1))).eval (.tmp 15)=er:=(by(repeat(first | rw[Zc _ _ (by(try simp only[Zb]);omega)] | rw[Za _ _ (by decide)])))
 refine Zw ho (Zv hg) (ZC 275 Tryz.func275 (by kernel_rfl) (by kernel_rfl) #[.tmp 15] _ hop #[er] (by simp only[List.map_toArray,List.map_cons,List.map_nil,x8_0])) ?_;refine(C3).mono ?_;rintro e u3 ⟨v2,rfl,hS3,C4⟩;have hS8:=keep _ _ hS4 hS3;refine⟨_,rfl,hS8,?_⟩;rw[hd];clear ho hg hop hd;rw[←Zh];refine wpAnyH_all r9 (by simp) ?_;intro i hi;obtain rfl:=List.mem_singleton.1 hi
 obtain⟨o9,ho,hg,hop,hd⟩:=Zd q9;have x9_0:((((((((((a0.put (some 8) (.map (some b))).put (some 9) (.pointer (some ⟨xb,4,none⟩))).put (some 10) (el)).put (some 13) (.map (some b))).put (some 14) (.pointer (some ⟨xb,10,none⟩))).put (some 15) (er)).put (some 11) (v1)).put (some 12) (l1)).put (some 16) (v2))).eval (.tmp 13)=.map (some b):=(by(repeat(first | rw[Zc _ _ (by(try simp only[Zb]);omega)] | rw[Za _ _ (by decide)])))
 have x9_1:((((((((((a0.put (some 8) (.map (some b))).put (some 9) (.pointer (some ⟨xb,4,none⟩))).put (some 10) (el)).put (some 13) (.map (some b))).put (some 14) (.pointer (some ⟨xb,10,none⟩))).put (some 15) (er)).put (some 11) (v1)).put (some 12) (l1)).put (some 16) (v2))).eval (.tmp 16)=v2:=(by(repeat(first | rw[Zc _ _ (by(try simp only[Zb]);omega)] | rw[Za _ _ (by decide)])))
 refine Zw ho (Zv hg) (ZC 209 Tryz.func209 (by kernel_rfl) (by kernel_rfl) #[.tmp 13,.tmp 16] _ hop #[.map (some b),v2] (by simp only[List.map_toArray,List.map_cons,List.map_nil,x9_0,x9_1])) ?_;refine(C4).mono ?_;rintro e u4 ⟨l2,rfl,hS4,hP⟩;have hS9:=keep _ _ hS8 hS4;refine⟨_,rfl,hS9,?_⟩;rw[hd];clear ho hg hop hd;rw[←Zh];refine Zj [0,1,2,5,6,7,3,4,8,9] (l1) q10 hs (hall ([0,1,2,5,6,7,3,4,8,9],10) (by simp)) hQ (fun o w' hop hS=>Zam _ _ hop w' (by(repeat(first | rw[Zc _ _ (by(try simp only[Zb]);omega)] | rw[Za _ _ (by decide)])))) hS9 ?_
 refine Zj [0,1,2,5,6,7,3,4,8,9,10] (l2) q11 hs (hall ([0,1,2,5,6,7,3,4,8,9,10],11) (by simp)) hQ (fun o w' hop hS=>Zam _ _ hop w' (by(repeat(first | rw[Zc _ _ (by(try simp only[Zb]);omega)] | rw[Za _ _ (by decide)])))) hS9 ?_;exact wpAnyH_done rend (F _ v1 l1 v2 l2 hP) _
end
section
open Go.RowKit Go.Maps Go.ChangeMaps
attribute [local go_sem ↓] Go.wp_at_zero Go.wp_at_succ
attribute [-go_sem] loadVar
def Zal(x:Lit4)(A B:List ByteArray):Int × List ByteArray:=
 if A.length=0∧B.length=0 then(5,[])else if x.rel≠1 then(0,[])else if B.length=0∧x.l.op=0 then(6,A)else if A.length=0∧x.r.op=0 then(6,B)else(0,[])
theorem ZiT{u:World}{a:Addr}{n:Int}(h:u.cell? a=some (.int .i8 n)):(loadVar 94 a).run Tryz.prog u=.ok (.int .i8 n) u:=by rw[loadVar.eq_1];go_simp
theorem ZfP{u:World}{a:Addr}{n:Int}(h:u.cell? a=some (.int .i8 n)):(loadVar 95 a).run Tryz.prog u=.ok (.int .i8 n) u:=by rw[loadVar.eq_1];go_simp
theorem Zdt{u:World}{g o:Nat}{cs:List Value}(h:u.rangeAt g o cs)(hl:cs.length=6):(loadVar 103 ⟨g,o,none⟩).run Tryz.prog u=.ok (.agg cs.toArray) u:=
 run_loadVar_mid u g o _ cs _ h Tryz.underlying103 rfl (by rw[hl];kernel_rfl)
theorem Znx{w:World}{d:Nat}{e:E}{a:Option Addr}{c:Nat}(h:EIs w d e a c):∀i,i<(vsT [] (Zg d e)).length→(atS (vsT [] (Zg d e)) i).size≤maxLen:=by
 intro i hi
 have hm:atS (vsT [] (Zg d e)) i∈vsT [] (Zg d e):=by
  unfold atS;rw[List.getD,List.getElem?_eq_getElem hi];exact List.getElem_mem hi
 rcases ZbS _ _ _ hm with h1 | ⟨t,ht,e⟩
 ·simp at h1
 ·rw[←e];exact(Zbm _ _ _ _ h t ht).text
theorem Zax{w:World}{B B2 k n:Nat}{ty:TypeId}{v:Value}{cs:List Value}(h:w.ownsRow B ty k v n cs)(hb:B2≤B):w.ownsRow B2 ty k v n cs:=by
 obtain⟨e1,e2 | ⟨g',cap',cur,e,hbase,rest⟩⟩:=h
 ·exact⟨e1,.inl e2⟩
 ·exact⟨e1,.inr ⟨g',cap',cur,e,Nat.le_trans hb hbase,rest⟩⟩
theorem ZiU{w:World}{b:Nat}{ss:List ByteArray}(h:SetIs w b ss){d:Nat}{e:E}{a:Option Addr}{c:Nat}(hE:EIs w d e a c)(hs:szD d e≤1048576){u:World}(hu:Below w.heap.size w u) :
  Calls Tryz.prog 275 #[e.val a c] u fun r w'=>∃v1,r=.returned v1∧Below w.heap.size w w'∧Below u.heap.size u w'∧Calls Tryz.prog 209 #[.map (some b),v1] w' fun r w''=>∃a2 c2,r=.returned (.slice a2 (ZA ss (vsT [] (Zg d e))).length c2)∧w''.ownsRow w.heap.size 9 1 (.slice a2 (ZA ss (vsT [] (Zg d e))).length c2) (ZA ss (vsT [] (Zg d e))).length ((ZA ss (vsT [] (Zg d e))).flatMap Zm)∧Below w'.heap.size w' w'':=by
 refine(ZgQ d e a c u (hE.below hu) hs).mono ?_;rintro r w' ⟨sv,rfl,hls,hb⟩;have hb':Below w.heap.size w w':=hu.trans (hb.mono hu.size);refine⟨sv,rfl,hb',hb,?_⟩
 have hvn:(vsT [] (Zg d e)).length≤1048576:=by
  have:=Zaw (Zg d e) [];simp only[List.length_nil]at this;unfold szD at hs;omega
 refine(ZiY (h.of_block (hb'.block b h.lt)) hls (Znx hE) hvn).mono ?_;rintro r w'' ⟨a2,c2,rfl,hown,hb2⟩;refine⟨a2,c2,rfl,?_,hb2⟩;obtain⟨e1,e2 | ⟨g',cap',cur,e,hbase,rest⟩⟩:=hown
 ·exact⟨e1,.inl e2⟩
 ·exact⟨e1,.inr ⟨g',cap',cur,e,Nat.le_trans hb'.size hbase,rest⟩⟩
theorem ZiV(d:Nat)(x:Lit4)(q:LP){ss:List ByteArray}{b:Nat}(w:World)(h:SetIs w b ss)(hX:LIs w d x q)(hs1:szD d x.l≤1048576)(hs2:szD d x.r≤1048576) :
  Calls Tryz.prog 211 #[.map (some b),x.val q] w fun e w'=>Below w.heap.size w w'∧∃a c,e=.returned (.tuple #[.int .i8 (Zal x (ZA ss (vsT [] (Zg d x.l))) (ZA ss (vsT [] (Zg d x.r)))).1,.slice a (Zal x (ZA ss (vsT [] (Zg d x.l))) (ZA ss (vsT [] (Zg d x.r)))).2.length c])∧w'.ownsRow w.heap.size 9 1 (.slice a (Zal x (ZA ss (vsT [] (Zg d x.l))) (ZA ss (vsT [] (Zg d x.r)))).2.length c) (Zal x (ZA ss (vsT [] (Zg d x.l))) (ZA ss (vsT [] (Zg d x.r)))).2.length ((Zal x (ZA ss (vsT [] (Zg d x.l))) (ZA ss (vsT [] (Zg d x.r)))).2.flatMap Zm):=by
 have hA0:=Zp (w:=w) (.cells #[.int .i8 x.k,.string x.pr,.slice q.a x.ts.length q.c,.int .i8 x.rel,.int .i8 x.l.op,.string x.l.t.v,.int .i8 x.l.t.a.k,.int .i64 x.l.t.a.n,.string x.l.t.a.s,.slice q.la x.l.kids.length q.lc,.int .i8 x.r.op,.string x.r.t.v,.int .i8 x.r.t.a.k,.int .i64 x.r.t.a.n,.string x.r.t.a.s,.slice q.ra x.r.kids.length q.rc] 105);have HRL:=Lib.hid (Zk w #[.int .i8 x.k,.string x.pr,.slice q.a x.ts.length q.c,.int .i8 x.rel,.int .i8 x.l.op,.string x.l.t.v,.int .i8 x.l.t.a.k,.int .i64 x.l.t.a.n,.string x.l.t.a.s,.slice q.la x.l.kids.length q.lc,.int .i8 x.r.op,.string x.r.t.v,.int .i8 x.r.t.a.k,.int .i64 x.r.t.a.n,.string x.r.t.a.s,.slice q.ra x.r.kids.length q.rc] 105)
 have HB0:=Lib.hid hA0;have HC1:Hid (∀u,Below (w.alloc (.cells #[.int .i8 x.k,.string x.pr,.slice q.a x.ts.length q.c,.int .i8 x.rel,.int .i8 x.l.op,.string x.l.t.v,.int .i8 x.l.t.a.k,.int .i64 x.l.t.a.n,.string x.l.t.a.s,.slice q.la x.l.kids.length q.lc,.int .i8 x.r.op,.string x.r.t.v,.int .i8 x.r.t.a.k,.int .i64 x.r.t.a.n,.string x.r.t.a.s,.slice q.ra x.r.kids.length q.rc] 105)).heap.size (w.alloc (.cells #[.int .i8 x.k,.string x.pr,.slice q.a x.ts.length q.c,.int .i8 x.rel,.int .i8 x.l.op,.string x.l.t.v,.int .i8 x.l.t.a.k,.int .i64 x.l.t.a.n,.string x.l.t.a.s,.slice q.la x.l.kids.length q.lc,.int .i8 x.r.op,.string x.r.t.v,.int .i8 x.r.t.a.k,.int .i64 x.r.t.a.n,.string x.r.t.a.s,.slice q.ra x.r.kids.length q.rc] 105)) u→_):=fun u hu=>ZiU (h.of_block (hA0.block b h.lt)) (hX.l.below hA0) hs1 hu
 have HC2:Hid (∀u,Below (w.alloc (.cells #[.int .i8 x.k,.string x.pr,.slice q.a x.ts.length q.c,.int .i8 x.rel,.int .i8 x.l.op,.string x.l.t.v,.int .i8 x.l.t.a.k,.int .i64 x.l.t.a.n,.string x.l.t.a.s,.slice q.la x.l.kids.length q.lc,.int .i8 x.r.op,.string x.r.t.v,.int .i8 x.r.t.a.k,.int .i64 x.r.t.a.n,.string x.r.t.a.s,.slice q.ra x.r.kids.length q.rc] 105)).heap.size (w.alloc (.cells #[.int .i8 x.k,.string x.pr,.slice q.a x.ts.length q.c,.int .i8 x.rel,.int .i8 x.l.op,.string x.l.t.v,.int .i8 x.l.t.a.k,.int .i64 x.l.t.a.n,.string x.l.t.a.s,.slice q.la x.l.kids.length q.lc,.int .i8 x.r.op,.string x.r.t.v,.int .i8 x.r.t.a.k,.int .i64 x.r.t.a.n,.string x.r.t.a.s,.slice q.ra x.r.kids.length q.rc] 105)) u→_):=fun u hu=>ZiU (h.of_block (hA0.block b h.lt)) (hX.r.below hA0) hs2 hu
 unfold Lit4.val;unfold E.val at HC1 HC2;generalize ZA ss (vsT [] (Zg d x.l))=A at HC1⊢;generalize ZA ss (vsT [] (Zg d x.r))=B at HC2⊢;clear h hX hs1 hs2 hA0;go_enter Tryz.func211,Tryz.ntmps211;go_upto_region 1 with fail
 generalize w.alloc (.cells #[.int .i8 x.k,.string x.pr,.slice q.a x.ts.length q.c,.int .i8 x.rel,.int .i8 x.l.op,.string x.l.t.v,.int .i8 x.l.t.a.k,.int .i64 x.l.t.a.n,.string x.l.t.a.s,.slice q.la x.l.kids.length q.lc,.int .i8 x.r.op,.string x.r.t.v,.int .i8 x.r.t.a.k,.int .i64 x.r.t.a.n,.string x.r.t.a.s,.slice q.ra x.r.kids.length q.rc] 105)=W at HRL HB0 HC1 HC2⊢
 have HLE:Hid (∀u,Below W.heap.size W u→(loadVar 103 ⟨w.heap.size,4,none⟩).run Tryz.prog u=.ok (.agg #[.int .i8 x.l.op,.string x.l.t.v,.int .i8 x.l.t.a.k,.int .i64 x.l.t.a.n,.string x.l.t.a.s,.slice q.la x.l.kids.length q.lc]) u∧(loadVar 103 ⟨w.heap.size,10,none⟩).run Tryz.prog u=.ok (.agg #[.int .i8 x.r.op,.string x.r.t.v,.int .i8 x.r.t.a.k,.int .i64 x.r.t.a.n,.string x.r.t.a.s,.slice q.ra x.r.kids.length q.rc]) u):=fun u hu=>by
  have hr:=RL.below HRL.out hu
  exact⟨Zdt (cs:=[.int .i8 x.l.op,.string x.l.t.v,.int .i8 x.l.t.a.k,.int .i64 x.l.t.a.n,.string x.l.t.a.s,.slice q.la x.l.kids.length q.lc]) (fun j v hv=>by
   have hj:j<6:=(List.getElem?_eq_some_iff.1 hv).1;have hj6:j=0∨j=1∨j=2∨j=3∨j=4∨j=5:=by omega
   rcases hj6 with rfl | rfl | rfl | rfl | rfl | rfl<;>exact RL.at hr hv) rfl,Zdt (cs:=[.int .i8 x.r.op,.string x.r.t.v,.int .i8 x.r.t.a.k,.int .i64 x.r.t.a.n,.string x.r.t.a.s,.slice q.ra x.r.kids.length q.rc]) (fun j v hv=>by
   have hj:j<6:=(List.getElem?_eq_some_iff.1 hv).1;have hj6:j=0∨j=1∨j=2∨j=3∨j=4∨j=5:=by omega
   rcases hj6 with rfl | rfl | rfl | rfl | rfl | rfl<;>exact RL.at hr hv) rfl⟩
 have hD:Below W.heap.size W W.drew:=(Below.refl _ _).drew
 have HCC:Hid (Calls Tryz.prog 275 #[.agg #[.int .i8 x.l.op,.string x.l.t.v,.int .i8 x.l.t.a.k,.int .i64 x.l.t.a.n,.string x.l.t.a.s,.slice q.la x.l.kids.length q.lc]] W.drew fun e u1=>∃v1,e=.returned v1∧Below W.heap.size W u1∧Calls Tryz.prog 209 #[.map (some b),v1] u1 fun e u2=>∃l1,e=.returned l1∧Below W.heap.size W u2∧Calls Tryz.prog 275 #[.agg #[.int .i8 x.r.op,.string x.r.t.v,.int .i8 x.r.t.a.k,.int .i64 x.r.t.a.n,.string x.r.t.a.s,.slice q.ra x.r.kids.length q.rc]] u2 fun e u3=>∃v2,e=.returned v2∧Below W.heap.size W u3∧Calls Tryz.prog 209 #[.map (some b),v2] u3 fun e u4=>∃l2,e=.returned l2∧Below W.heap.size W u4∧∃a1 c1 a2 c2,l1=.slice a1 A.length c1∧l2=.slice a2 B.length c2∧u4.ownsRow W.heap.size 9 1 (.slice a1 A.length c1) A.length (A.flatMap Zm)∧u4.ownsRow W.heap.size 9 1 (.slice a2 B.length c2) B.length (B.flatMap Zm)∧Below W.heap.size W u4):=by
  refine(HC1.out _ hD).mono ?_;rintro e u1 ⟨v1,rfl,b1,_,hc⟩;refine⟨v1,rfl,b1,hc.mono ?_⟩;rintro e u2 ⟨a1,c1,rfl,hown1,b2⟩;have b2':=b1.trans (b2.mono b1.size);refine⟨_,rfl,b2',(HC2.out _ b2').mono ?_⟩;rintro e u3 ⟨v2,rfl,b3,b23,hc2⟩;refine⟨v2,rfl,b3,hc2.mono ?_⟩;rintro e u4 ⟨a2,c2,rfl,hown2,b4⟩;have b4':=b3.trans (b4.mono b3.size);exact⟨_,rfl,b4',a1,c1,a2,c2,rfl,rfl,Zn hown1 (b23.trans (b4.mono b23.size)),hown2,b4'⟩
 clear HC1 HC2;refine wp_region_noPanic ?_;refine wp_region_held (S:=fun u=>Below W.heap.size W u) (by kernel_rfl) ?_;refine Zqp (w5:=W) (S:=fun u=>Below W.heap.size W u) (xb:=w.heap.size) (b:=b) (Pf:=fun l1 l2 u4=>∃a1 c1 a2 c2,l1=.slice a1 A.length c1∧l2=.slice a2 B.length c2∧u4.ownsRow W.heap.size 9 1 (.slice a1 A.length c1) A.length (A.flatMap Zm)∧u4.ownsRow W.heap.size 9 1 (.slice a2 B.length c2) B.length (B.flatMap Zm)∧Below W.heap.size W u4) rfl rfl rfl rfl rfl rfl rfl rfl rfl rfl rfl rfl (by kernel_rfl) (by kernel_rfl) (by kernel_rfl) (by kernel_rfl) (by kernel_rfl) (by kernel_rfl) (by kernel_rfl) (fun _ _ _ _ _ h=>h) (by simp) rfl rfl hD (fun _ _ _ h=>h) (fun u hu=>(HLE.out u hu).1) (fun u hu=>(HLE.out u hu).2) HCC.out ?_
 rintro wc v1 l1 v2 l2 ⟨a1,c1,a2,c2,rfl,rfl,hown1,hown2,bc⟩;refine NoPanic.normal ?_
 rename_i hK
 refine hK _ _ ?_;simp (config:={maxSteps:=8000000}) only[Act.put,List.getElem_toArray,List.getElem_cons_zero,List.getElem_cons_succ,List.setIfInBounds_toArray,List.set_cons_succ,List.set_cons_zero];have lr:=ZiT (RL.at (RL.below HRL.out bc) (j:=3) rfl);have ll:=ZfP (RL.at (RL.below HRL.out bc) (j:=4) rfl);have lp:=ZfP (RL.at (RL.below HRL.out bc) (j:=10) rfl);have HO1:=Lib.hid (Zax hown1 HB0.out.size)
 have HO2:=Lib.hid (Zax hown2 HB0.out.size);have HBF:=Lib.hid (HB0.out.trans (bc.mono HB0.out.size));clear hown1 hown2 bc HCC HLE hD HRL HB0 hK
 by_cases hA:A.length=0
 ·have dA:((A.length:Int)==0)=true:=by rw[beq_iff_eq];omega
  by_cases hB:B.length=0
  ·have dB:((B.length:Int)==0)=true:=by rw[beq_iff_eq];omega
   have HG:Hid (Zal x A B=(5,[])):=by
    show Zal x A B=_;unfold Zal;simp[hA,hB]
   clear hA hB;go_wp2;go_ret2;rw[HG.out];exact⟨HBF.out,none,0,rfl,World.ownsRow_nil _ _ _ _⟩
  ·have dB:((B.length:Int)==0)=false:=by rw[beq_eq_false_iff_ne];omega
   by_cases hR:x.rel=1
   ·have dR:(x.rel != 1)=false:=by rw[hR];rfl
    by_cases hP:x.r.op=0
    ·have dP:(x.r.op==0)=true:=by rw[hP];rfl
     have HG:Hid (Zal x A B=(6,B)):=by
      show Zal x A B=_;unfold Zal;simp[hA,hB,hR,hP]
     clear hA hB hR hP;go_wp2;go_ret2;rw[HG.out];exact⟨HBF.out,a2,c2,rfl,HO2.out⟩
    ·have dP:(x.r.op==0)=false:=by rw[beq_eq_false_iff_ne];exact hP
     have HG:Hid (Zal x A B=(0,[])):=by
      show Zal x A B=_;unfold Zal;simp[hA,hB,hR,hP]
     clear hA hB hR hP;go_wp2;go_ret2;rw[HG.out];exact⟨HBF.out,none,0,rfl,World.ownsRow_nil _ _ _ _⟩
   ·have dR:(x.rel != 1)=true:=by rw[bne_iff_ne];exact hR
    have HG:Hid (Zal x A B=(0,[])):=by
     show Zal x A B=_;unfold Zal;simp[hA,hB,hR]
    clear hA hB hR;go_wp2;go_ret2;rw[HG.out];exact⟨HBF.out,none,0,rfl,World.ownsRow_nil _ _ _ _⟩
 ·have dA:((A.length:Int)==0)=false:=by rw[beq_eq_false_iff_ne];omega
  by_cases hB:B.length=0
  ·have dB:((B.length:Int)==0)=true:=by rw[beq_iff_eq];omega
   by_cases hR:x.rel=1
   ·have dR:(x.rel != 1)=false:=by rw[hR];rfl
    by_cases hL:x.l.op=0
    ·have dL:(x.l.op==0)=true:=by rw[hL];rfl
     have HG:Hid (Zal x A B=(6,A)):=by
      show Zal x A B=_;unfold Zal;simp[hA,hB,hR,hL]
     clear hA hB hR hL;go_wp2;go_ret2;rw[HG.out];exact⟨HBF.out,a1,c1,rfl,HO1.out⟩
    ·have dL:(x.l.op==0)=false:=by rw[beq_eq_false_iff_ne];exact hL
     have HG:Hid (Zal x A B=(0,[])):=by
      show Zal x A B=_;unfold Zal;simp[hA,hB,hR,hL]
     clear hA hB hR hL;go_wp2;go_ret2;rw[HG.out];exact⟨HBF.out,none,0,rfl,World.ownsRow_nil _ _ _ _⟩
   ·have dR:(x.rel != 1)=true:=by rw[bne_iff_ne];exact hR
    have HG:Hid (Zal x A B=(0,[])):=by
     show Zal x A B=_;unfold Zal;simp[hA,hB,hR]
    clear hA hB hR;go_wp2;go_ret2;rw[HG.out];exact⟨HBF.out,none,0,rfl,World.ownsRow_nil _ _ _ _⟩
  ·have dB:((B.length:Int)==0)=false:=by rw[beq_eq_false_iff_ne];omega
   by_cases hR:x.rel=1
   ·have dR:(x.rel != 1)=false:=by rw[hR];rfl
    have HG:Hid (Zal x A B=(0,[])):=by
     show Zal x A B=_;unfold Zal;simp[hA,hB,hR]
    clear hA hB hR;go_wp2;go_ret2;rw[HG.out];exact⟨HBF.out,none,0,rfl,World.ownsRow_nil _ _ _ _⟩
   ·have dR:(x.rel != 1)=true:=by rw[bne_iff_ne];exact hR
    have HG:Hid (Zal x A B=(0,[])):=by
     show Zal x A B=_;unfold Zal;simp[hA,hB,hR]
    clear hA hB hR;go_wp2;go_ret2;rw[HG.out];exact⟨HBF.out,none,0,rfl,World.ownsRow_nil _ _ _ _⟩
def Zb2(l:List XL)(left:Nat)(i:Int):Bool:=Zbu left i&&decide ((atL l i.toNat).x.k=1)
theorem ZcH{left n:Nat}{i:Int}(hl:left<2^n)(h:Zbu left i=true):0≤i∧i.toNat<n:=by
 unfold Zbu at h;simp only[Bool.and_eq_true,decide_eq_true_eq]at h;refine⟨h.1,?_⟩;apply Decidable.byContradiction;intro hn;have h2:(2:Nat)^n≤2^i.toNat:=Nat.pow_le_pow_right (by omega) (by omega);rw[Nat.testBit_lt_two_pow (Nat.lt_of_lt_of_le hl h2)]at h
 cases h.2
theorem Zbc{u:World}{a:Addr}{n:Int}(h:u.cell? a=some (.int .u32 n)):(loadVar 131 a).run Tryz.prog u=.ok (.int .u32 n) u:=by rw[loadVar.eq_1];go_simp
theorem ZfL{u:World}{a:Addr}{n:Int}(h:u.cell? a=some (.int .i8 n)):(loadVar 90 a).run Tryz.prog u=.ok (.int .i8 n) u:=by rw[loadVar.eq_1];go_simp
theorem ZcI{w:World}{tb kb d:Nat}{v:Value}{ss:List ByteArray}{left:Nat}{l:List XL}(hT:ZbN w tb kb v ss left)(hL:Lb w v d l)(hn:l.length≤16)(hl:left<2^l.length)(i:Int) :
  Calls Tryz.prog 30 #[.pointer (some ⟨tb,0,none⟩),.int .i64 i] w fun e w'=>e=.returned (.bool (Zb2 l left i))∧w'=w:=by
 have h32:left<4294967296:=Nat.lt_of_lt_of_le hl (Nat.le_trans (Nat.pow_le_pow_right (by omega) hn) (by decide));have l2:=Zbc (RL.at hT.rl (j:=2) rfl);have l0:=ZcK (RL.at hT.rl (j:=0) rfl);have HH:=Lib.hid (ZiQ left h32 i w);obtain⟨a,c,rfl,hc1,hc2,hat⟩:=hL.form;have HAT:=Lib.hid hat;have HLT:=Lib.hid (fun h=>ZcH (i:=i) hl h);clear hT hL hat hl
 cases hb:Zbu left i
 ·have HF:Hid (Zb2 l left i=false):=by
   show _=_;rw[Zb2,hb];rfl
  rw[hb]at HH;rw[HF.out];clear hb HF HLT;go_enter Tryz.func30,Tryz.ntmps30;go_wp2_with fail;refine HH.out.mono ?_;rintro e w2 ⟨rfl,rfl⟩;go_wp2;go_ret;exact⟨rfl,rfl⟩
 ·obtain⟨h0,hi⟩:=HLT.out hb;obtain⟨k,rfl⟩:∃k:Nat,i=(k:Int):=⟨i.toNat,by omega⟩;rw[Int.toNat_natCast]at hi;obtain⟨g,off,rfl,hg,hr⟩:=HAT.out (by omega);have lk:=ZfL ((hr k hi) 0 _ rfl);rw[Nat.add_zero]at lk;have hlt:(k:Int)<(l.length:Int):=by omega
  have HF:Hid (Zb2 l left (k:Int)=decide ((atL l k).x.k=1)):=by
   show _=_;rw[Zb2,hb,Int.toNat_natCast];rfl
  rw[hb]at HH;rw[HF.out];clear hb HF HLT hr;generalize (atL l k).x.k=kd at lk⊢;go_enter Tryz.func30,Tryz.ntmps30;go_wp2_with fail;refine HH.out.mono ?_;rintro e w2 ⟨rfl,rfl⟩;clear HH
  by_cases hk:kd=1
  ·subst hk;go_wp2;go_ret;exact⟨rfl,rfl⟩
  ·have hd:(kd==1)=false:=by rw[beq_eq_false_iff_ne];exact hk
   have HD:Hid (decide (kd=1)=false):=decide_eq_false hk;clear hk;go_wp2;go_ret;rw[HD.out];exact⟨rfl,rfl⟩
end
end Go.Proofs.YtjdnpgpbeppgjaaGreatDoor
