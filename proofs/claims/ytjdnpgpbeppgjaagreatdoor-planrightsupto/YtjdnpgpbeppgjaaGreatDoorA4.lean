import Derived.Test.YtjdnpgpbeppgjaaGreatDoorA3
import Derived.Deep.MidRow
import Derived.Lib.SmallJoins
import Derived.Test.YtjdnpgpbeppgjaaGreatDoorA2
import Derived.Deep.RegionHeld3
set_option linter.unusedSimpArgs false
set_option linter.unusedVariables false
set_option maxHeartbeats 3200000
namespace Go.Proofs.YtjdnpgpbeppgjaaGreatDoor
section
open Go.RowKit Go.Maps
attribute [local go_sem ↓] Go.wp_at_zero Go.wp_at_succ
abbrev PWt(w:World):Prop:=Lib.TabIs Tryz.prog w "internal/strconv.uint64pow10" .u64 Lib.pow10Tab
theorem ZmZ:(⟨#[35]⟩:ByteArray)++⟨(Lib.itoa 777777).toArray⟩=Zt:=by decide +kernel
theorem Za8(w:World)(hp:PWt w):Calls Tryz.prog 87 #[.int .i64 777777] w fun e w'=>e=.returned (.string Zt)∧Below w.heap.size w w':=by
 have hm:=ZmZ;have hsz:(⟨(Lib.itoa 777777).toArray⟩:ByteArray).size≤20:=by decide +kernel
 go_enter Tryz.func87,Tryz.ntmps87;go_wp2_with fail;refine(Tryz.strconv_Itoa 777777 (by omega) (by omega) _ hp).mono ?_;rintro e w1 ⟨rfl,k,os,rfl⟩;have hb:=Lib.below_grow w.heap.size w (Nat.le_refl _) k os;generalize Go.Sort.grow (w.drewN k) os=w1 at hb⊢;generalize (⟨(Lib.itoa 777777).toArray⟩:ByteArray)=S at hm hsz⊢;go_wp2;go_ret;exact⟨by first | rfl | (rw[←hm];rfl),hb⟩
theorem Zey{fn:Func}{sl:Nat}(hr:fn.results=#[.cell sl 103]){W:World}{tmps:Array Value}{b:Nat}{op:Int}{t:T}{s:Value}(h2:tmps.getD sl undef=.pointer (some ⟨b,0,none⟩))
  (h:XAt W b 0 op t s) :
  (results fn tmps).run Tryz.prog W=.ok (.agg #[.int .i8 op,.string t.v,.int .i8 t.a.k,.int .i64 t.a.n,.string t.a.s,s]) W:=by
 obtain⟨c0,c1,c2,c3,c4,c5⟩:=h
 have hl:(loadVar 103 ⟨b,0,none⟩).run Tryz.prog W=.ok (.agg #[.int .i8 op,.string t.v,.int .i8 t.a.k,.int .i64 t.a.n,.string t.a.s,s]) W:=by
  refine run_loadVar_mid W b 0 103 [.int .i8 op,.string t.v,.int .i8 t.a.k,.int .i64 t.a.n,.string t.a.s,s] _ (fun j v hj=>?_) Tryz.underlying103 rfl (by kernel_rfl)
  match j,hj with
  | 0,hj=>simp at hj;subst hj;exact c0
  | 1,hj=>simp at hj;subst hj;exact c1
  | 2,hj=>simp at hj;subst hj;exact c2
  | 3,hj=>simp at hj;subst hj;exact c3
  | 4,hj=>simp at hj;subst hj;exact c4
  | 5,hj=>simp at hj;subst hj;exact c5
 have e0:results fn tmps=(do
   let x ←asAddr (tmps.getD sl undef)
   loadVar 103 x):=by
  simp[results,hr]
 rw[e0,h2];simp[asAddr,hl,Result.andThen]
def Own6(w:World)(b:Nat):Prop:=(∃o t s,XAt w b 0 o t s)∧(∀j,w.frozen? ⟨b,j,none⟩=false)∧b<w.heap.size
theorem Own6.below{w w1:World}{b:Nat}(h:Own6 w b)(hb:Below w.heap.size w w1):Own6 w1 b:=by
 obtain⟨⟨o,t,s,hx⟩,hf,hl⟩:=h;exact⟨⟨o,t,s,hx.below hb hl⟩,fun j=>by rw[hb.frozen (p:=⟨b,j,none⟩) hl];exact hf j,Nat.lt_of_lt_of_le hl hb.size⟩
theorem Zgy(w:World)(o:Int)(t:T)(s:Value):Own6 (w.alloc (.cells #[.int .i8 o,.string t.v,.int .i8 t.a.k,.int .i64 t.a.n,.string t.a.s,s] 103)) w.heap.size:=
 ⟨⟨o,t,s,⟨by go_simp,by go_simp,by go_simp,by go_simp,by go_simp,by go_simp⟩⟩,fun j=>Lib.frozen_of_heap (heap_alloc_new w _) j,by simp⟩
theorem ZlI{w:World}{b:Nat}(h:Own6 w b)(op:Int)(t:T)(s:Value):XAt ((((((w.setCell ⟨b,0,none⟩ (.int .i8 op)).setCell ⟨b,1,none⟩ (.string t.v)).setCell ⟨b,2,none⟩ (.int .i8 t.a.k)).setCell ⟨b,3,none⟩ (.int .i64 t.a.n)).setCell ⟨b,4,none⟩ (.string t.a.s)).setCell ⟨b,5,none⟩ s) b 0 op t s:=by
 obtain⟨⟨o,t',s',c0,c1,c2,c3,c4,c5⟩,hf,hl⟩:=h;have f0:=hf 0;have f1:=hf 1;have f2:=hf 2;have f3:=hf 3;have f4:=hf 4;have f5:=hf 5;clear hf;simp only[Nat.zero_add]at c1 c2 c3 c4 c5;refine⟨?_,?_,?_,?_,?_,?_⟩<;>go_simp
theorem ZiC(w:World)(hp:PWt w):Calls Tryz.prog 120 #[.int .i64 777777] w fun e w'=>e=.returned (.agg #[.int .i8 99,.string Zt,.int .i8 0,.int .i64 0,.string ⟨#[]⟩,.slice none 0 0])∧Below w.heap.size w w':=by
 have BA:=(Below.refl w.heap.size w).alloc (Nat.le_refl _) (.cells #[.int .i8 0,.string ⟨#[]⟩,.int .i8 0,.int .i64 0,.string ⟨#[]⟩,.slice none 0 0] 103);have HP:Hid _:=Zq hp BA;have HO:Hid (Own6 _ w.heap.size):=Zgy w 0 T0 (.slice none 0 0);clear hp;go_enter Tryz.func120,Tryz.ntmps120;go_wp2_with fail;refine(Za8 _ HP.out).mono ?_;rintro e w1 ⟨rfl,b1⟩;have HO1:Hid (Own6 w1 w.heap.size):=Own6.below HO.out b1
 have B1:Hid (Below w.heap.size w w1):=BA.trans (b1.mono BA.size);obtain⟨⟨o,t',s',c0,c1,c2,c3,c4,c5⟩,hf,hl⟩:=HO1.out;have f0:=hf 0;have f1:=hf 1;have f2:=hf 2;have f3:=hf 3;have f4:=hf 4;have f5:=hf 5;simp only[Nat.zero_add]at c1 c2 c3 c4 c5;clear b1 BA hf HO HP;generalize hmw:Zt=MW;have HM:Hid _:=hmw;clear hmw;go_wp2;refine bodyPost_ret (Zey Tryz.results120 (op:=99) (t:=⟨MW,V0⟩) (s:=.slice none 0 0) rfl (ZlI HO1.out 99 ⟨MW,V0⟩ (.slice none 0 0))) rfl ⟨by rw[HM.out];rfl,?_⟩
 exact(((((B1.out.setCell (p:=⟨w.heap.size,0,none⟩) (Nat.le_refl _) _).setCell (p:=⟨w.heap.size,1,none⟩) (Nat.le_refl _) _).setCell (p:=⟨w.heap.size,2,none⟩) (Nat.le_refl _) _).setCell (p:=⟨w.heap.size,3,none⟩) (Nat.le_refl _) _).setCell (p:=⟨w.heap.size,4,none⟩) (Nat.le_refl _) _).setCell (p:=⟨w.heap.size,5,none⟩) (Nat.le_refl _) _
theorem Zez{α:Type}(f:Nat→α)(k:Nat)(v:α)(h:f k=v):(fun i=>if i=k then v else f i)=f:=by
 funext i
 by_cases e:i=k
 ·rw[if_pos e,e,h]
 ·rw[if_neg e]
def ZiD(d:Nat):Prop:=∀(e:E) (a:Option Addr) (c:Nat) (w:World),PWt w→ZZ d e→EIs w d e a c →
 Calls Tryz.prog 218 #[e.val a c] w fun r w'=>∃a',r=.returned (e.val a' (e.kids.length+1))∧Below w.heap.size w w'∧TwIs w' w.heap.size d e a' (e.kids.length+1)
theorem ZgO(d:Nat)(hT:ZiD d)(e:E)(a:Option Addr)(c:Nat)(w:World)(hp:PWt w)(hs:ZZ (d+1) e)(hE:EIs w (d+1) e a c) :
  Calls Tryz.prog 277 #[.slice a e.kids.length c] w fun r w'=>∃a',r=.returned (.slice a' e.kids.length (e.kids.length+1))∧Below w.heap.size w w'∧TwIs w' w.heap.size (d+1) e a' (e.kids.length+1):=by
 obtain⟨op,t,kids⟩:=e;obtain⟨hop,htw,hc1,hc2,hk⟩:=hE;obtain⟨hs1,hs2⟩:=hs;simp only[ZhD,ZmX,ZbT]at *;have hmk:=Zgx kids.length hs1;have HT:Hid _:=hT;have HK:Hid _:=hk;have HS2:Hid _:=hs2;have HP:Hid (PWt w):=hp;clear hT hk hs2 hp hop htw hc2;go_enter Tryz.func277,Tryz.ntmps277;go_wp2;go_loopw [4] (fun i wr=>∃(k:Nat) (S:Nat→Value),k≤kids.length∧i=.int .i64 k∧Below w.heap.size w wr∧wr.rowIs w.heap.size 103 ((kids.length+1)*6) (Za4 (fun i=>(atE kids i).op) (fun i=>(atE kids i).t) S k)∧Hid (∀i,i<k→∃a' c',S i=.slice a' (atE kids i).kids.length c'∧TwIs wr (w.heap.size+1) d (atE kids i) a' c')) (fun i _=>kids.length-(intOf i).toNat)
 case atStart=>exact⟨0,fun _=>.slice none 0 0,Nat.zero_le _,rfl,(Below.refl _ _).alloc (Nat.le_refl _) _,Zk2 w (kids.length+1) _ _ _,fun i hi=>absurd hi (by omega)⟩
 case round=>
  obtain⟨k,S,hk,rfl,bel,hrow,HTW⟩:=hrel;clear hmk
  by_cases hlt:k<kids.length
  ·have hlt':(k:Int)<(kids.length:Int):=by omega
   obtain⟨g,off,rfl,hg,hKS⟩:=HK.out (by omega);obtain⟨a3,c3,hx,hxE⟩:=hKS k hlt;obtain⟨y0,y1,y2,y3,y4,y5⟩:=hx.below bel hg;have HxE:Hid (EIs wr d (atE kids k) a3 c3):=hxE.below bel;have HxS:Hid (ZZ d (atE kids k)):=HS2.out k hlt;have HR:Hid (wr.rowIs w.heap.size 103 ((kids.length+1)*6) (Za4 (fun i=>(atE kids i).op) (fun i=>(atE kids i).t) S k)):=hrow;obtain⟨x,hxx⟩:∃x,atE kids k=x:=⟨_,rfl⟩;rw[hxx]at y0 y1 y2 y3 y4 y5 HxE HxS
   have HXX:Hid _:=hxx;have HPr:Hid (PWt wr):=Zq HP.out bel;have hwlt:w.heap.size<wr.heap.size:=hrow.lt;clear hKS hx hxE hrow hxx;go_wp2_with fail;refine(HT.out x a3 c3 _ HPr.out HxS.out HxE.out).mono ?_;rintro r w1 ⟨a4,rfl,b1,htw1⟩;have hrow1:w1.rowIs w.heap.size 103 ((kids.length+1)*6) (Za4 (fun i=>(atE kids i).op) (fun i=>(atE kids i).t) S k):=HR.out.of_block (b1.block _ hwlt);have HR1:Hid (w1.rowIs w.heap.size 103 ((kids.length+1)*6) (Za4 (fun i=>(atE kids i).op) (fun i=>(atE kids i).t) S k)):=hrow1
   have bel1:Below w.heap.size w w1:=bel.trans (b1.mono bel.size);have HTW1:Hid (TwIs w1 (w.heap.size+1) d x a4 (x.kids.length+1)):=htw1.lower hwlt
   have HTWo:Hid (∀i,i<k→∃a' c',S i=.slice a' (atE kids i).kids.length c'∧TwIs w1 (w.heap.size+1) d (atE kids i) a' c'):=fun i hi=>by
    obtain⟨a',c',h1,h2⟩:=HTW.out i hi;exact⟨a',c',h1,h2.below b1⟩
   have z0:=hrow1.cell (i:=k*6) (by omega);have z1:=hrow1.cell (i:=k*6+1) (by omega);have z2:=hrow1.cell (i:=k*6+2) (by omega);have z3:=hrow1.cell (i:=k*6+3) (by omega);have z4:=hrow1.cell (i:=k*6+4) (by omega);have z5:=hrow1.cell (i:=k*6+5) (by omega);have f:=hrow1.frozen;clear hrow1 y0 y1 y2 y3 y4 y5 b1 htw1 HR HTW bel;generalize Za4 (fun i=>(atE kids i).op) (fun i=>(atE kids i).t) S k (k*6)=q0 at z0
   generalize Za4 (fun i=>(atE kids i).op) (fun i=>(atE kids i).t) S k (k*6+1)=q1 at z1;generalize Za4 (fun i=>(atE kids i).op) (fun i=>(atE kids i).t) S k (k*6+2)=q2 at z2;generalize Za4 (fun i=>(atE kids i).op) (fun i=>(atE kids i).t) S k (k*6+3)=q3 at z3;generalize Za4 (fun i=>(atE kids i).op) (fun i=>(atE kids i).t) S k (k*6+4)=q4 at z4;generalize Za4 (fun i=>(atE kids i).op) (fun i=>(atE kids i).t) S k (k*6+5)=q5 at z5
   have hk1:(k:Int)<(kids.length:Int)+1:=by omega
   unfold E.val;go_wp2;go_roundw
   case rel=>
    refine⟨k+1,fun i=>if i=k then .slice a4 x.kids.length (x.kids.length+1)else S i,by omega,by go_num,(((((bel1.setCell (by simp) _).setCell (by simp) _).setCell (by simp) _).setCell (by simp) _).setCell (by simp) _).setCell (by simp) _,?_,?_⟩
    ·have e1:(fun i=>if i=k then x.op else(atE kids i).op)=fun i=>(atE kids i).op:=Zez (fun i=>(atE kids i).op) k x.op (by rw[HXX.out])
     have e2:(fun i=>if i=k then x.t else(atE kids i).t)=fun i=>(atE kids i).t:=Zez (fun i=>(atE kids i).t) k x.t (by rw[HXX.out])
     have:=((((((HR1.out.set (k*6) (.int .i8 x.op)).set (k*6+1) (.string x.t.v)).set (k*6+2) (.int .i8 x.t.a.k)).set (k*6+3) (.int .i64 x.t.a.n)).set (k*6+4) (.string x.t.a.s)).set (k*6+5) (.slice a4 x.kids.length (x.kids.length+1))).congr fun j _=>ZhI (fun i=>(atE kids i).op) (fun i=>(atE kids i).t) S k j x.op x.t (.slice a4 x.kids.length (x.kids.length+1))
     rw[e1,e2]at this;exact this
    ·intro i hi
     by_cases e:i=k
     ·subst e;refine⟨a4,x.kids.length+1,(if_pos rfl).trans (by rw[HXX.out]),?_⟩;rw[HXX.out];exact(((((HTW1.out.set (by omega)).set (by omega)).set (by omega)).set (by omega)).set (by omega)).set (by omega)
     ·obtain⟨a',c',h1,h2⟩:=HTWo.out i (by omega);exact⟨a',c',(if_neg e).trans h1,(((((h2.set (by omega)).set (by omega)).set (by omega)).set (by omega)).set (by omega)).set (by omega)⟩
   case measure=>simp[intOf];omega
  ·obtain rfl:k=kids.length:=by omega
   have HR:Hid (wr.rowIs w.heap.size 103 ((kids.length+1)*6) (Za4 (fun i=>(atE kids i).op) (fun i=>(atE kids i).t) S kids.length)):=hrow;have hwlt:w.heap.size<wr.heap.size:=hrow.lt;clear hrow;go_wp2_with fail;refine(ZiC _ (Zq HP.out bel)).mono ?_;rintro r w1 ⟨rfl,b1⟩;have hrow1:w1.rowIs w.heap.size 103 ((kids.length+1)*6) (Za4 (fun i=>(atE kids i).op) (fun i=>(atE kids i).t) S kids.length):=HR.out.of_block (b1.block _ hwlt)
   have HR1:Hid (w1.rowIs w.heap.size 103 ((kids.length+1)*6) (Za4 (fun i=>(atE kids i).op) (fun i=>(atE kids i).t) S kids.length)):=hrow1;have bel1:Below w.heap.size w w1:=bel.trans (b1.mono bel.size)
   have HTWo:Hid (∀i,i<kids.length→∃a' c',S i=.slice a' (atE kids i).kids.length c'∧TwIs w1 (w.heap.size+1) d (atE kids i) a' c'):=fun i hi=>by
    obtain⟨a',c',h1,h2⟩:=HTW.out i hi;exact⟨a',c',h1,h2.below b1⟩
   have z0:=hrow1.cell (i:=kids.length*6) (by omega);have z1:=hrow1.cell (i:=kids.length*6+1) (by omega);have z2:=hrow1.cell (i:=kids.length*6+2) (by omega);have z3:=hrow1.cell (i:=kids.length*6+3) (by omega);have z4:=hrow1.cell (i:=kids.length*6+4) (by omega);have z5:=hrow1.cell (i:=kids.length*6+5) (by omega);have f:=hrow1.frozen;clear hrow1 b1 HR HTW bel;generalize Za4 (fun i=>(atE kids i).op) (fun i=>(atE kids i).t) S kids.length (kids.length*6)=q0 at z0
   generalize Za4 (fun i=>(atE kids i).op) (fun i=>(atE kids i).t) S kids.length (kids.length*6+1)=q1 at z1;generalize Za4 (fun i=>(atE kids i).op) (fun i=>(atE kids i).t) S kids.length (kids.length*6+2)=q2 at z2;generalize Za4 (fun i=>(atE kids i).op) (fun i=>(atE kids i).t) S kids.length (kids.length*6+3)=q3 at z3;generalize Za4 (fun i=>(atE kids i).op) (fun i=>(atE kids i).t) S kids.length (kids.length*6+4)=q4 at z4
   generalize Za4 (fun i=>(atE kids i).op) (fun i=>(atE kids i).t) S kids.length (kids.length*6+5)=q5 at z5;have hk1:(kids.length:Int)<(kids.length:Int)+1:=by omega
   obtain⟨MW,hmw⟩:∃MW,Zt=MW:=⟨_,rfl⟩;rw[hmw];have HM:Hid _:=hmw;clear hmw;go_wp2;go_ret;have hrow2:=((((((HR1.out.set (kids.length*6) (.int .i8 99)).set (kids.length*6+1) (.string MW)).set (kids.length*6+2) (.int .i8 0)).set (kids.length*6+3) (.int .i64 0)).set (kids.length*6+4) (.string ⟨#[]⟩)).set (kids.length*6+5) (.slice none 0 0)).congr fun j _=>ZhI (fun i=>(atE kids i).op) (fun i=>(atE kids i).t) S kids.length j 99 ⟨MW,V0⟩ (.slice none 0 0)
   refine⟨some ⟨w.heap.size,0,none⟩,rfl,(((((bel1.setCell (by simp) _).setCell (by simp) _).setCell (by simp) _).setCell (by simp) _).setCell (by simp) _).setCell (by simp) _,rfl,w.heap.size,rfl,Nat.le_refl _,hrow2.lt,?_,fun i hi=>?_⟩
   ·have:=ZlH hrow2 (i:=kids.length) (by omega) (by omega);simp only[if_true]at this;rw[HM.out];exact this
   ·have hi':i<kids.length:=hi;have:=ZlH hrow2 (i:=i) (by omega) (by omega);rw[if_neg (by omega),if_neg (by omega),if_neg (by omega)]at this;obtain⟨a',c',h1,h2⟩:=HTWo.out i hi';rw[h1]at this;exact⟨a',c',this,((((((h2.set (by omega)).set (by omega)).set (by omega)).set (by omega)).set (by omega)).set (by omega)).lower (by omega)⟩
theorem ZgP(d:Nat)(hT:ZiD d):ZiD (d+1):=by
 intro e a c w hp hs hE;have BA:=(Below.refl w.heap.size w).alloc (Nat.le_refl _) (.cells #[.int .i8 e.op,.string e.t.v,.int .i8 e.t.a.k,.int .i64 e.t.a.n,.string e.t.a.s,.slice a e.kids.length c] 103);have BA1:=(Below.refl w.heap.size w).alloc (Nat.le_refl _) (.cells #[.int .i8 e.op,.string e.t.v,.int .i8 e.t.a.k,.int .i64 e.t.a.n,.string e.t.a.s,.slice a e.kids.length c] 103);have BB:=BA.alloc BA.size (.cells #[.int .i8 0,.string ⟨#[]⟩,.int .i8 0,.int .i64 0,.string ⟨#[]⟩,.slice none 0 0] 103)
 have HX0:Hid (XAt ((w.alloc (.cells #[.int .i8 e.op,.string e.t.v,.int .i8 e.t.a.k,.int .i64 e.t.a.n,.string e.t.a.s,.slice a e.kids.length c] 103)).alloc (.cells #[.int .i8 0,.string ⟨#[]⟩,.int .i8 0,.int .i64 0,.string ⟨#[]⟩,.slice none 0 0] 103)) w.heap.size 0 e.op e.t (.slice a e.kids.length c)):=⟨by go_simp,by go_simp,by go_simp,by go_simp,by go_simp,by go_simp⟩
 have HO0:Hid (Own6 ((w.alloc (.cells #[.int .i8 e.op,.string e.t.v,.int .i8 e.t.a.k,.int .i64 e.t.a.n,.string e.t.a.s,.slice a e.kids.length c] 103)).alloc (.cells #[.int .i8 0,.string ⟨#[]⟩,.int .i8 0,.int .i64 0,.string ⟨#[]⟩,.slice none 0 0] 103)) (w.heap.size+1)):=by
  have:=Zgy (w.alloc (.cells #[.int .i8 e.op,.string e.t.v,.int .i8 e.t.a.k,.int .i64 e.t.a.n,.string e.t.a.s,.slice a e.kids.length c] 103)) 0 T0 (.slice none 0 0);rw[World.size_alloc]at this;exact this
 have HOx:Hid (Own6 _ w.heap.size):=(Zgy w e.op e.t (.slice a e.kids.length c)).below ((Below.refl _ _).alloc (Nat.le_refl _) (.cells #[.int .i8 0,.string ⟨#[]⟩,.int .i8 0,.int .i64 0,.string ⟨#[]⟩,.slice none 0 0] 103));have HP:Hid (PWt _):=Zq hp BB;have HE:Hid (EIs _ (d+1) e a c):=hE.below BB;have HS:Hid _:=hs;have HBB:Hid (Below w.heap.size w _):=BB;clear hp hE hs BA BB;unfold E.val
 go_enter Tryz.func218,Tryz.ntmps218;go_wp2_with fail;refine(ZgO d hT e a c _ HP.out HS.out HE.out).mono ?_;rintro r w1 ⟨a4,rfl,b1,htw⟩;have hXw:XAt w1 w.heap.size 0 e.op e.t (.slice a e.kids.length c):=HX0.out.below b1 (by simp;omega);have HO1:Hid (Own6 w1 (w.heap.size+1)):=Own6.below HO0.out b1;have HOx1:Hid (Own6 w1 w.heap.size):=Own6.below HOx.out b1;have HTW:Hid (TwIs w1 (w.heap.size+2) (d+1) e a4 (e.kids.length+1)):=htw.lower (by simp)
 have HB1:Hid (Below w.heap.size w w1):=HBB.out.trans (b1.mono HBB.out.size);obtain⟨x0,x1,x2,x3,x4,x5⟩:=hXw;simp only[Nat.zero_add]at x1 x2 x3 x4 x5;have hfx:=HOx1.out.2.1;have g5:=hfx 5;obtain⟨⟨o,t',s',c0,c1,c2,c3,c4,c5⟩,hf,hl⟩:=HO1.out;have f0:=hf 0;have f1:=hf 1;have f2:=hf 2;have f3:=hf 3;have f4:=hf 4;have f5:=hf 5;simp only[Nat.zero_add]at c1 c2 c3 c4 c5;clear b1 htw hfx hf HO0 HX0 HOx HP HE HS HBB BA1
 go_wp2
 have hO5:Own6 (w1.setCell ⟨w.heap.size,5,none⟩ (.slice a4 e.kids.length (e.kids.length+1))) (w.heap.size+1):=by
  obtain⟨⟨o,t',s',hx⟩,hf,hl⟩:=HO1.out;have hh:(w1.setCell ⟨w.heap.size,5,none⟩ (.slice a4 e.kids.length (e.kids.length+1))).heap[w.heap.size+1]?=w1.heap[w.heap.size+1]?:=heap_setCell_other _ _ _ _ (by show w.heap.size+1≠w.heap.size;omega);exact⟨⟨o,t',s',hx.of hh⟩,fun j=>by have:=hf j;unfold World.frozen? at this⊢;rw[hh];exact this,by simpa using hl⟩
 refine bodyPost_ret (Zey Tryz.results218 (op:=e.op) (t:=e.t) (s:=.slice a4 e.kids.length (e.kids.length+1)) rfl (ZlI hO5 e.op e.t (.slice a4 e.kids.length (e.kids.length+1)))) rfl ⟨a4,rfl,?_,?_⟩
 ·exact((((((HB1.out.setCell (p:=⟨w.heap.size,5,none⟩) (Nat.le_refl _) _).setCell (p:=⟨w.heap.size+1,0,none⟩) (by simp) _).setCell (p:=⟨w.heap.size+1,1,none⟩) (by simp) _).setCell (p:=⟨w.heap.size+1,2,none⟩) (by simp) _).setCell (p:=⟨w.heap.size+1,3,none⟩) (by simp) _).setCell (p:=⟨w.heap.size+1,4,none⟩) (by simp) _).setCell (p:=⟨w.heap.size+1,5,none⟩) (by simp) _
 ·exact(((((((HTW.out.set (by omega)).set (by omega)).set (by omega)).set (by omega)).set (by omega)).set (by omega)).set (by omega)).lower (by omega)
theorem Zk3:∀d,ZiD d
 | 0=>fun _ _ _ _ _ _ h=>h.elim
 | d+1=>ZgP d (Zk3 d)
theorem Zbm{w:World}:∀(d:Nat) (e:E) (a:Option Addr) (c:Nat),EIs w d e a c→∀t∈Zg d e,t.wf
 | 0,e,a,c,h,t,ht=>absurd h (fun h=>h)
 | d+1,e,a,c,h,t,ht=>by
  obtain⟨_,htw,_,_,hk⟩:=h;rw[Zao]at ht;rcases List.mem_cons.1 ht with rfl | ht
  ·exact htw
  ·obtain⟨x,hx,htx⟩:=List.mem_flatMap.1 ht;obtain⟨i,hi,rfl⟩:=List.getElem_of_mem hx;obtain⟨g,off,_,_,hKS⟩:=hk (by omega);obtain⟨a',c',_,he⟩:=hKS i hi;rw[ZbO hi]at he;exact Zbm d _ a' c' he t htx
theorem ZiE:(Tryz.prog.info? 100).map (fun i=>(i.zero,i.size,i.bytes))=some (some (.agg #[.string ⟨#[]⟩,.int .i8 0,.int .i64 0,.string ⟨#[]⟩]),4,48):=by kernel_rfl
structure Grew (w:World) (sv:Value) (w':World) (sv':Value):Prop where
 gr:w.grownBy w' sv.ownBlock
 loc:sv'.ownBlock=sv.ownBlock∨∃b,sv'.ownBlock=some b∧w.heap.size≤b
theorem Grew.trans{w w1 w2:World}{sv sv1 sv2:Value}(h:Grew w sv w1 sv1)(h2:Grew w1 sv1 w2 sv2):Grew w sv w2 sv2:=by
 refine⟨⟨h2.gr.os.trans h.gr.os,h2.gr.tape.trans h.gr.tape,h2.gr.output.trans h.gr.output,Nat.le_trans h.gr.size h2.gr.size,fun k hk hn=>?_⟩,?_⟩
 ·rw[h2.gr.block k (Nat.lt_of_lt_of_le hk h.gr.size) (fun e=>?_),h.gr.block k hk hn];rcases h.loc with l | ⟨b,l,hb⟩
  ·exact hn (e.trans l)
  ·rw[l]at e;have:=Option.some.inj e;omega
 ·rcases h2.loc with l2 | ⟨b,l2,hb⟩
  ·rcases h.loc with l | ⟨b,l,hb⟩
   ·exact .inl (l2.trans l)
   ·exact .inr ⟨b,l2.trans l,hb⟩
  ·exact .inr ⟨b,l2,Nat.le_trans h.gr.size hb⟩
theorem Za9{w0:World}:∀(d:Nat) (e:E) (a:Option Addr) (c:Nat) (sv:Value) (ls:List T) (w:World),EIs w0 d e a c→Below w0.heap.size w0 w→w0.heap.size≤w.heap.size→w.ownsRow w0.heap.size 100 4 sv ls.length (ls.flatMap T.cells)→ls.length+szD d e≤1000000000000 →
  Calls Tryz.prog 285 #[sv,e.val a c] w fun r w'=>∃sv',r=.returned sv'∧w'.ownsRow w0.heap.size 100 4 sv' (ls++Zg d e).length ((ls++Zg d e).flatMap T.cells)∧Grew w sv w' sv':=by
 intro d
 induction d with
 | zero=>intro e a c sv ls w hE;exact absurd hE (fun h=>h)
 | succ d ih=>
 intro e a c sv ls w hE hbw hzw hown hs;obtain⟨i0,hi0,hz0,hz1,hz2⟩:=info_parts ZiE;obtain⟨⟨hop,hkl⟩,htw,hc1,hc2,hk⟩:=hE;have HK:Hid _:=hk;have HIH:Hid _:=ih;obtain⟨ao,co,rfl,hlo⟩:=ZB hown;have HLT:Hid (∀g,(Value.slice ao ls.length co).ownBlock=some g→w0.heap.size≤g∧g<w.heap.size):=fun g hg=>hown.lt g hg
 have hs2:ls.length+1+(e.kids.flatMap (Zg d)).length≤1000000000000:=by
  unfold szD at hs;rw[Zao,List.length_cons]at hs;omega
 have HS2:Hid _:=hs2;have hl1:ls.length≤1000000000000:=by omega
 have HBW:Hid _:=hbw;have HOWN:Hid _:=hown;obtain⟨r,HR⟩:∃r,Hid (ls++Zg (d+1) e=r):=⟨_,rfl⟩;rw[HR.out];clear hk ih hop htw hs hs2 hown hbw;unfold E.val;go_enter Tryz.func285,Tryz.ntmps285;go_upto_region 1 with fail
 have HG0:Hid (Grew w (.slice ao ls.length co) (w.alloc (.cells #[.int .i8 e.op,.string e.t.v,.int .i8 e.t.a.k,.int .i64 e.t.a.n,.string e.t.a.s,.slice a e.kids.length c] 103)) (.slice ao ls.length co)):=⟨⟨rfl,rfl,rfl,by simp,fun k hk _=>Below.heap_alloc w _ k hk⟩,.inl rfl⟩;have HXA:Hid (XAt (w.alloc (.cells #[.int .i8 e.op,.string e.t.v,.int .i8 e.t.a.k,.int .i64 e.t.a.n,.string e.t.a.s,.slice a e.kids.length c] 103)) w.heap.size 0 e.op e.t (.slice a e.kids.length c)):=by refine⟨?_,?_,?_,?_,?_,?_⟩<;>go_simp
 have hzW:(w.alloc (.cells #[.int .i8 e.op,.string e.t.v,.int .i8 e.t.a.k,.int .i64 e.t.a.n,.string e.t.a.s,.slice a e.kids.length c] 103)).heap.size=w.heap.size+1:=by simp
 have HOW:Hid ((w.alloc (.cells #[.int .i8 e.op,.string e.t.v,.int .i8 e.t.a.k,.int .i64 e.t.a.n,.string e.t.a.s,.slice a e.kids.length c] 103)).ownsRow w0.heap.size 100 4 (.slice ao ls.length co) ls.length (ls.flatMap T.cells)):=Zn HOWN.out ((Below.refl _ _).alloc (Nat.le_refl _) _);generalize w.alloc (.cells #[.int .i8 e.op,.string e.t.v,.int .i8 e.t.a.k,.int .i64 e.t.a.n,.string e.t.a.s,.slice a e.kids.length c] 103)=W at HG0 HXA hzW HOW⊢
 obtain⟨y0,y1,y2,y3,y4,y5⟩:=HXA.out;simp only[Nat.zero_add]at y0 y1 y2 y3 y4 y5;have HZW:Hid _:=hzW;have hzb:w0.heap.size≤W.heap.size:=by omega
 clear hzW;go_wp2_with (at_builtin;refine wpList_append_own_at _ rfl _ _ 91 rfl w0.heap.size 100 i0 _ 4 48 Tryz.underlying91 hi0 hz0 hz1 hz2 rfl (by decide) _ _ _ rfl (Zn HOW.out ((Below.refl _ _).alloc (Nat.le_refl _) _)) ⟨_,0,none⟩ 1 1 [.string e.t.v,.int .i8 e.t.a.k,.int .i64 e.t.a.n,.string e.t.a.s] rfl rfl (ZR _ #[.string e.t.v,.int .i8 e.t.a.k,.int .i64 e.t.a.n,.string e.t.a.s] _) (by simp[Value.oneCell']) (by unfold maxLen;omega) (by omega) (by simp;omega) ?_;intro v' w2 hown' hgrow hnil hloc)
 have G1:Grew W (.slice ao ls.length co) w2 v':=by
  refine⟨⟨hgrow.os,hgrow.tape,hgrow.output,Nat.le_trans (by simp) hgrow.size,fun k hk hn=>(hgrow.block k (by simp;omega) hn).trans (Below.heap_alloc W _ k hk)⟩,?_⟩;rcases hloc with l | l
  ·exact .inl l
  ·exact .inr ⟨_,l,by simp⟩
 obtain⟨a1,c1,rfl,_⟩:=ZB hown';have hl1:(ls++[e.t]).length=ls.length+1:=by simp
 have HO1:Hid (w2.ownsRow w0.heap.size 100 4 (.slice a1 (ls++[e.t]).length c1) (ls++[e.t]).length ((ls++[e.t]).flatMap T.cells)):=by
  show World.ownsRow _ _ _ _ _ _ _;rw[hl1,List.flatMap_append];exact hown'
 have HR1:Hid ((ls++[e.t])++e.kids.flatMap (Zg d)=r):=by
  show _=r;rw[←HR.out,Zao,List.append_assoc];rfl
 have HG1:Hid (Grew W (.slice ao ls.length co) w2 (.slice a1 (ls++[e.t]).length c1)):=by rw[hl1];exact G1
 have HS3:Hid ((ls++[e.t]).length+(e.kids.flatMap (Zg d)).length≤1000000000000):=by
  show _≤_;rw[hl1];exact HS2.out
 have HBX:Hid (∀(u:World) (sx:Value),Grew W (.slice ao ls.length co) u sx→Below w0.heap.size w0 u∧w0.heap.size≤u.heap.size∧u.cell? ⟨w.heap.size,5,none⟩=some (.slice a e.kids.length c)):=fun u sx hg=>by
  have hb1:Below w0.heap.size w0 W:=by
   refine HBW.out.grown HG0.out.gr hzw (fun j hj=>(HLT.out j hj).1)
  refine⟨hb1.grown hg.gr hzb (fun j hj=>(HLT.out j hj).1),Nat.le_trans hzb hg.gr.size,?_⟩;rw[World.cell?_of_block (a:=⟨w.heap.size,5,none⟩) (hg.gr.block w.heap.size (by rw[HZW.out];omega) (fun e=>by have:=(HLT.out _ e.symm).2;omega))];exact y5
 rw[←hl1];generalize hL1:ls++[e.t]=l1 at HO1 HR1 HG1 HS3;clear hown' hgrow hnil hloc G1 hl1 y0 y1 y2 y3 y4 y5 HOW HXA HOWN HR HS2 hL1;go_loopw [0,5] (fun lv i wr=>∃(k:Nat) (ls':List T) (a':Option Addr) (c':Nat),k≤e.kids.length∧i=.int .i64 k∧lv=.slice a' ls'.length c'∧Hid (wr.ownsRow w0.heap.size 100 4 (.slice a' ls'.length c') ls'.length (ls'.flatMap T.cells))∧Hid (Grew W (.slice ao ls.length co) wr (.slice a' ls'.length c'))∧Hid (ls'++(e.kids.drop k).flatMap (Zg d)=r)∧Hid (ls'.length+((e.kids.drop k).flatMap (Zg d)).length≤1000000000000)) (fun _ i _=>e.kids.length-(intOf i).toNat)
 case atStart=>exact⟨0,l1,a1,c1,Nat.zero_le _,rfl,rfl,HO1,HG1,HR1,HS3⟩
 case round=>
  obtain⟨k,ls',a',c',hk,rfl,rfl,HO,HG,HRk,HSk⟩:=hrel;obtain⟨hbu,hzu,y5⟩:=HBX.out wr _ HG.out
  by_cases hlt:k<e.kids.length
  ·have hlt':(k:Int)<(e.kids.length:Int):=by omega
   have hk0:(0:Int)≤(k:Int):=by omega
   obtain⟨g',off',rfl,hg',hKS⟩:=HK.out (by omega);obtain⟨a'',c'',hxk,hek⟩:=hKS k hlt;obtain⟨x0,x1,x2,x3,x4,x5⟩:=hxk.below hbu hg';have hfd:=ZhJ d hlt;have hle:=HSk.out;rw[hfd,List.length_append]at hle;have HI:Hid _:=HIH.out (atE e.kids k) a'' c'' (.slice a' ls'.length c') ls' wr hek hbu hzu HO.out (by unfold szD;omega)
   have HR2:Hid ((ls'++Zg d (atE e.kids k))++(e.kids.drop (k+1)).flatMap (Zg d)=r):=by
    show _=r;rw[List.append_assoc,←hfd];exact HRk.out
   have HS2:Hid ((ls'++Zg d (atE e.kids k)).length+((e.kids.drop (k+1)).flatMap (Zg d)).length≤1000000000000):=by
    show _≤_;rw[List.length_append];omega
   unfold E.val at HI;clear hKS hxk hek hfd hle HRk HSk hbu hzu;generalize ls'++Zg d (atE e.kids k)=l2 at HI HR2 HS2;generalize atE e.kids k=ke at HI x0 x1 x2 x3 x4 x5;go_wp2_with fail;refine Calls.mono HI.out ?_;rintro ee w3 ⟨sv3,rfl,ho3,hg3⟩;obtain⟨a3,c3,rfl,_⟩:=ZB ho3;have HG3:Hid _:=Grew.trans HG.out hg3;have HO3:Hid _:=ho3;clear ho3 hg3 x0 x1 x2 x3 x4 x5 y5;go_wp2;go_roundw
   case rel=>exact⟨k+1,l2,a3,c3,by omega,by go_num,rfl,HO3.out,HG3.out,HR2,HS2⟩
   case measure=>simp[intOf];omega
  ·obtain rfl:k=e.kids.length:=by omega
   have HV:Hid (ls'=r):=by show ls'=r;rw[←HRk.out,List.drop_length];simp
   go_wp2;go_ret;rw[←HV.out];exact⟨_,rfl,HO.out,Grew.trans HG0.out HG.out⟩
theorem ZdI(d:Nat)(e:E)(a:Option Addr)(c:Nat)(w:World)(hE:EIs w d e a c)(hs:szD d e≤1048576):Calls Tryz.prog 227 #[e.val a c] w fun r w'=>∃sv,r=.returned sv∧Ls w' sv (vsT [] (Zg d e)).length ((vsT [] (Zg d e)).flatMap Zm)∧Below w.heap.size w w':=by
 have BA:=(Below.refl w.heap.size w).alloc (Nat.le_refl _) (.cells #[.int .i8 e.op,.string e.t.v,.int .i8 e.t.a.k,.int .i64 e.t.a.n,.string e.t.a.s,.slice a e.kids.length c] 103);have HT:Hid _:=Za9 (w0:=w.alloc (.cells #[.int .i8 e.op,.string e.t.v,.int .i8 e.t.a.k,.int .i64 e.t.a.n,.string e.t.a.s,.slice a e.kids.length c] 103)) d e a c (.slice none 0 0) [] _ (hE.below BA) (Below.refl _ _) (Nat.le_refl _) (World.ownsRow_nil _ _ _ _) (by simp;omega)
 have HWF:Hid _:=Zbm d e a c hE;have HB:Hid (Below w.heap.size w (w.alloc (.cells #[.int .i8 e.op,.string e.t.v,.int .i8 e.t.a.k,.int .i64 e.t.a.n,.string e.t.a.s,.slice a e.kids.length c] 103))):=BA;have hs':(Zg d e).length≤4398046511104:=by unfold szD at hs;omega
 unfold E.val at HT⊢;simp only[List.nil_append]at HT;obtain⟨ts,hts⟩:∃ts,Zg d e=ts:=⟨_,rfl⟩;rw[hts]at HT HWF hs'⊢;clear hE BA hs hts;go_enter Tryz.func227,Tryz.ntmps227;go_wp2_with fail;refine Calls.mono HT.out ?_;rintro ee w1 ⟨sv1,rfl,ho1,hg1⟩;have HB1:Hid (Below w.heap.size w w1):=HB.out.grown hg1.gr HB.out.size (fun j hj=>by cases hj);have HL1:Hid (Lt w1 sv1 ts):=⟨ZY ho1,HWF.out⟩;clear ho1 hg1
 go_wp2_with fail;refine(Zgm sv1 ts w1 hs' HL1.out).mono ?_;rintro ee w2 ⟨sv2,rfl,ho2,b2⟩;go_wp2;go_ret;exact⟨_,rfl,ZY ho2,HB1.out.trans (b2.mono HB1.out.size)⟩
theorem Zck(ba:Nat)(d:Nat)(e:E)(a:Option Addr)(c:Nat)(w:World)(hba:ba<w.heap.size)(hx:XAt w ba 0 e.op e.t (.slice a e.kids.length c))(hE:EIs w d e a c)(hs:szD d e≤1048576) :
  Calls Tryz.prog 274 #[.iface 341 (.pointer (some ⟨ba,0,none⟩))] w fun e' w'=>∃sv,e'=.returned sv∧w'.ownsRow w.heap.size 9 1 sv (vsT [] (Zg d e)).length ((vsT [] (Zg d e)).flatMap Zm)∧Below w.heap.size w w':=by
 have HW:Hid _:=ZcU rfl d [] (.slice none 0 0) _ e a c ba 0 (Ziz w) hba hx hE (by unfold szD at hs;simp;omega);unfold Zgz at HW;have hmk:=Zdn;clear hx hE;go_enter Tryz.func274,Tryz.ntmps274;go_wp2_with fail;refine Calls.mono HW.out ?_;rintro ee w2 ⟨⟨u,rfl⟩,sv2,hv2⟩;have c0:=hv2.co;obtain⟨a2,c2,rfl,_⟩:=ZB hv2.own;go_wp2;go_ret;exact⟨_,rfl,hv2.own,hv2.bel⟩
theorem ZgQ(d:Nat)(e:E)(a:Option Addr)(c:Nat)(w:World)(hE:EIs w d e a c)(hs:szD d e≤1048576):Calls Tryz.prog 275 #[e.val a c] w fun r w'=>∃sv,r=.returned sv∧Ls w' sv (vsT [] (Zg d e)).length ((vsT [] (Zg d e)).flatMap Zm)∧Below w.heap.size w w':=by
 have b0:=(Below.refl w.heap.size w).alloc (Nat.le_refl _) (.cells #[.int .i8 e.op,.string e.t.v,.int .i8 e.t.a.k,.int .i64 e.t.a.n,.string e.t.a.s,.slice a e.kids.length c] 103);have HV:Hid _:=Zck w.heap.size d e a c (w.alloc (.cells #[.int .i8 e.op,.string e.t.v,.int .i8 e.t.a.k,.int .i64 e.t.a.n,.string e.t.a.s,.slice a e.kids.length c] 103)) (by simp) (by refine⟨?_,?_,?_,?_,?_,?_⟩<;>go_simp) (hE.below b0) hs
 clear hE;unfold E.val;go_enter Tryz.func275,Tryz.ntmps275;go_wp2_with fail;refine Calls.mono HV.out ?_;rintro ee w1 ⟨sv,rfl,ho,b1⟩;go_wp2;go_ret;exact⟨_,rfl,ZY ho,b0.trans (b1.mono b0.size)⟩
theorem ZjR(t u:T)(w:World) :
  (binOp .neq 100 (.agg #[.string t.v,.int .i8 t.a.k,.int .i64 t.a.n,.string t.a.s]) (.agg #[.string u.v,.int .i8 u.a.k,.int .i64 u.a.n,.string u.a.s])).run Tryz.prog w=.ok (.bool (!decide (t=u))) w:=by
 obtain⟨tv,k1,n1,s1⟩:=t;obtain⟨uv,k2,n2,s2⟩:=u;dsimp only
 by_cases hv:tv.toList=uv.toList
 ·have ev:=toList_inj hv;subst ev
  by_cases hk:k1=k2
  ·by_cases hn:n1=n2
   ·by_cases hs:s1.toList=s2.toList
    ·have:=toList_inj hs;subst hk hn this;go_simp
    ·have e:decide ((⟨tv,k1,n1,s1⟩:T)=⟨tv,k2,n2,s2⟩)=false:=decide_eq_false (fun h=>hs (by cases h;rfl));rw[e];go_simp
   ·have e:decide ((⟨tv,k1,n1,s1⟩:T)=⟨tv,k2,n2,s2⟩)=false:=decide_eq_false (fun h=>hn (by cases h;rfl));rw[e];go_simp
  ·have e:decide ((⟨tv,k1,n1,s1⟩:T)=⟨tv,k2,n2,s2⟩)=false:=decide_eq_false (fun h=>hk (by cases h;rfl));rw[e];go_simp
 ·have e:decide ((⟨tv,k1,n1,s1⟩:T)=⟨uv,k2,n2,s2⟩)=false:=decide_eq_false (fun h=>hv (by cases h;rfl));rw[e];go_simp
def Zd1(op:Int):Int:=if op=1∨8≤op∧op≤10 then 1 else if 2≤op∧op≤7 then 2 else -1
theorem ZhG(op:Int)(w:World)(hb : -128≤op∧op≤127):Calls Tryz.prog 335 #[.int .i8 op] w fun e w'=>e=.returned (.int .i64 (Zd1 op))∧w'=w:=by
 have HR:Hid (Zd1 op=if op=1∨8≤op∧op≤10 then 1 else if 2≤op∧op≤7 then 2 else -1):=rfl
 by_cases h1:op=1
 ·subst h1;go_enter Tryz.func335,Tryz.ntmps335;go_wp2
  all_goals
   go_ret;exact⟨rfl,rfl⟩
 ·have d1:(op==1)=false:=by rw[beq_eq_false_iff_ne];exact h1
  by_cases h8:8≤op
  ·by_cases h10:op≤10
   ·have HE:Hid (Zd1 op=1):=by show _=_;rw[HR.out,if_pos (.inr ⟨h8,h10⟩)]
    clear HR;go_enter Tryz.func335,Tryz.ntmps335;go_wp2
    all_goals
     go_ret;exact⟨Zdr HE.out.symm,rfl⟩
   ·have HE:Hid (Zd1 op = -1):=by show _=_;rw[HR.out,if_neg (by omega),if_neg (by omega)]
    have h7:¬ op≤7:=by omega
    have h2:2≤op:=by omega
    clear HR;go_enter Tryz.func335,Tryz.ntmps335;go_wp2
    all_goals
     go_ret;exact⟨Zdr HE.out.symm,rfl⟩
  ·by_cases h2:2≤op
   ·have HE:Hid (Zd1 op=2):=by show _=_;rw[HR.out,if_neg (by omega),if_pos (by omega)]
    have h7:op≤7:=by omega
    clear HR;go_enter Tryz.func335,Tryz.ntmps335;go_wp2
    all_goals
     go_ret;exact⟨Zdr HE.out.symm,rfl⟩
   ·have HE:Hid (Zd1 op = -1):=by show _=_;rw[HR.out,if_neg (by omega),if_neg (by omega)]
    clear HR;go_enter Tryz.func335,Tryz.ntmps335;go_wp2
    all_goals
     go_ret;exact⟨Zdr HE.out.symm,rfl⟩
theorem ZlG{op:Int}{n:Nat}(h0:¬ op=0):(n:Int)=Zd1 op↔(0≤op∧op<11∧n=Zau op.toNat):=by
 by_cases h:0≤op∧op<11
 ·obtain⟨p,rfl⟩:∃p:Nat,op=p:=⟨op.toNat,by omega⟩;have:∀q:Fin 11,q.val≠0→Zd1 (q.val:Int)=(Zau q.val:Int):=by decide
  have e:=this ⟨p,by omega⟩ (by show p≠0;omega);simp only at e;rw[e,Int.toNat_natCast];omega
 ·have e:Zd1 op = -1:=by unfold Zd1;rw[if_neg (by omega),if_neg (by omega)]
  rw[e];omega
theorem Zou(r:Nat)(op:Int)(t:T)(kids:List E):ZH (r+1) (.mk op t kids)=(decide (0≤op)&&decide (op<11)&&decide (kids.length=Zau op.toNat)&&(if op=0 then Zak t else kids.all (ZH r)&&decide (t=T0))):=rfl
theorem ZhH:∀(room:Nat) (d:Nat) (e:E) (a:Option Addr) (c:Nat) (w:World),room≤1000→EIs w d e a c →
  Calls Tryz.prog 316 #[e.val a c,.int .i64 room] w fun r w'=>r=.returned (.bool (ZH room e))∧Below w.heap.size w w':=by
 intro room
 induction room with
 | zero=>
  intro d e a c w hr hE;have HF:Hid (ZH 0 e=false):=rfl;unfold E.val;go_enter Tryz.func316,Tryz.ntmps316;go_wp2;go_ret;exact⟨Ze HF.out.symm,(Below.refl _ _).alloc (Nat.le_refl _) _⟩
 | succ r ih=>
  intro d e a c w hr hE
  cases d with
  | zero=>exact hE.elim
  | succ d=>
  obtain⟨op,t,kids⟩:=e;obtain⟨hop,htw,hc1,hc2,hk⟩:=hE;simp only[ZhD,ZmX,ZbT]at hop htw hc1 hk;obtain⟨m,hm⟩:∃m:Nat,r+1=m:=⟨_,rfl⟩;have hm1:((m:Int)==0)=false:=by rw[beq_eq_false_iff_ne];omega
  have hmr:(m:Int)-1=(r:Int):=by omega
  have hrw:IntKind.i64.wrap (r:Int)=(r:Int):=by simp[IntKind.wrap,IntKind.bits,IntKind.signed];omega
  have HX:Hid (ZH m (.mk op t kids)=(decide (0≤op)&&decide (op<11)&&decide (kids.length=Zau op.toNat)&&(if op=0 then Zak t else kids.all (ZH r)&&decide (t=T0)))):=by rw[←hm];exact Zou r op t kids
  have IH:Hid _:=ih;clear ih;rw[hm];have hlen:=hop.2;have HR:Hid (r≤1000):=by show r≤1000;omega
  clear hm hr;unfold E.val;simp only[ZhD,ZmX,ZbT];have HK:Hid _:=hk;have hob:=hop.1;clear hk hop;have BA:=(Below.refl w.heap.size w).alloc (Nat.le_refl _) (.cells #[.int .i8 op,.string t.v,.int .i8 t.a.k,.int .i64 t.a.n,.string t.a.s,.slice a kids.length c] 103)
  by_cases h0:op=0
  ·have d0:(op==0)=true:=by rw[h0];rfl
   rw[if_pos h0]at HX
   by_cases hl0:kids.length=0
   ·have dl:((kids.length:Int)==0)=true:=by rw[hl0];rfl
    have HF:Hid (ZH m (.mk op t kids)=Zak t):=by
     show _=_;rw[HX.out,hl0,h0];simp[Zau,ZkS]
    by_cases eb:t.v=ZI
    ·have db:(t.v.toList==[95])=true:=by rw[eb,ByteArray.toList_eq];rfl
     have HN:Hid (Zak t=false):=by show _=_;unfold Zak;simp[eb]
     clear HX h0 hl0 eb IH HK;go_enter Tryz.func316,Tryz.ntmps316;go_wp2;go_ret;exact⟨Ze (by rw[HF.out,HN.out]),BA⟩
    ·have db:=Za0 eb;have HN:Hid (Zak t=ZK t):=by show _=_;unfold Zak;simp[eb]
     clear HX h0 hl0 eb IH HK;go_enter Tryz.func316,Tryz.ntmps316;go_wp2_with (go_at_call 313;refine(ZeV t _ htw).mono ?_;rintro ee w1 ⟨rfl,b1⟩);go_ret;exact⟨Ze (by rw[HF.out,HN.out]),BA.trans (b1.mono BA.size)⟩
   ·have dl:((kids.length:Int)==0)=false:=by rw[beq_eq_false_iff_ne];omega
    have HF:Hid (ZH m (.mk op t kids)=false):=by
     show _=_;rw[HX.out,h0,decide_eq_false (show ¬ kids.length=Zau (0:Int).toNat by show ¬ kids.length=0;exact hl0)];simp
    clear HX h0 hl0 IH HK;go_enter Tryz.func316,Tryz.ntmps316;go_wp2;go_ret;exact⟨Ze HF.out.symm,BA⟩
  ·have d0:(op==0)=false:=by rw[beq_eq_false_iff_ne];exact h0
   rw[if_neg h0]at HX;have BB:=BA.alloc BA.size (.cells #[.string ⟨#[]⟩,.int .i8 0,.int .i64 0,.string ⟨#[]⟩] 100);have hQ:=ZjR t T0
   by_cases ht0:t=T0
   ·have hq:(!decide (t=T0))=false:=by rw[decide_eq_true ht0];rfl
    rw[hq]at hQ;unfold T0 V0 noS at hQ;dsimp only at hQ
    by_cases hkn:(kids.length:Int)=Zd1 op
    ·have dn:((kids.length:Int) != Zd1 op)=false:=by rw[hkn];simp
     have HF:Hid (ZH m (.mk op t kids)=kids.all (ZH r)):=by
      obtain⟨i1,i2,i3⟩:=(ZlG h0).1 hkn;show _=_;rw[HX.out,decide_eq_true i1,decide_eq_true i2,decide_eq_true i3,decide_eq_true ht0];simp
     have HW:Hid (XAt (((w.alloc (.cells #[.int .i8 op,.string t.v,.int .i8 t.a.k,.int .i64 t.a.n,.string t.a.s,.slice a kids.length c] 103)).alloc (.cells #[.string ⟨#[]⟩,.int .i8 0,.int .i64 0,.string ⟨#[]⟩] 100)).drew) w.heap.size 0 op t (.slice a kids.length c)∧Below w.heap.size w (((w.alloc (.cells #[.int .i8 op,.string t.v,.int .i8 t.a.k,.int .i64 t.a.n,.string t.a.s,.slice a kids.length c] 103)).alloc (.cells #[.string ⟨#[]⟩,.int .i8 0,.int .i64 0,.string ⟨#[]⟩] 100)).drew)):=⟨⟨by go_simp,by go_simp,by go_simp,by go_simp,by go_simp,by go_simp⟩,BB.drew⟩
     clear HX h0 ht0 hq hkn BA BB;generalize hrk:Zd1 op=rk at dn;have HRK:Hid _:=hrk;clear hrk;go_enter Tryz.func316,Tryz.ntmps316;go_wp2_with fail
     go_region_held3 (fun u=>u.cell? ⟨w.heap.size,0,none⟩=some (.int .i8 op)∧u.cell? ⟨w.heap.size,1,none⟩=some (.string t.v)∧u.cell? ⟨w.heap.size,2,none⟩=some (.int .i8 t.a.k)∧u.cell? ⟨w.heap.size,3,none⟩=some (.int .i64 t.a.n)∧u.cell? ⟨w.heap.size,4,none⟩=some (.string t.a.s)∧u.cell? ⟨w.heap.size,5,none⟩=some (.slice a kids.length c)∧u.cell? ⟨w.heap.size+1,0,none⟩=some (.string ⟨#[]⟩)∧u.cell? ⟨w.heap.size+1,1,none⟩=some (.int .i8 0)∧u.cell? ⟨w.heap.size+1,2,none⟩=some (.int .i64 0)∧u.cell? ⟨w.heap.size+1,3,none⟩=some (.string ⟨#[]⟩))
      (first
       | assumption
       | (refine⟨?_,?_,?_,?_,?_,?_,?_,?_,?_,?_⟩<;>go_simp))
      (first
       | (go_at_call 335;refine(ZhG op _ hob).mono ?_;rw[HRK.out];rintro ee w2 ⟨rfl,rfl⟩)
       | fail)
     generalize hWW:((w.alloc (.cells #[.int .i8 op,.string t.v,.int .i8 t.a.k,.int .i64 t.a.n,.string t.a.s,.slice a kids.length c] 103)).alloc (.cells #[.string ⟨#[]⟩,.int .i8 0,.int .i64 0,.string ⟨#[]⟩] 100)).drew=W at HW⊢;clear hWW;obtain⟨hX,hB⟩:=HW.out;have hWlt:w.heap.size<W.heap.size:=World.block_lt_of_cell? _ _ hX.c0;have HXw:Hid (XAt W w.heap.size 0 op t (.slice a kids.length c)):=hX;clear HW hX
     go_wp2;go_loopw [6] (fun i wr=>∃k:Nat,k≤kids.length∧i=.int .i64 k∧Below W.heap.size W wr∧Hid ((kids.take k).all (ZH r)=true)) (fun i _=>kids.length-(intOf i).toNat)
     case atStart=>exact⟨0,Nat.zero_le _,rfl,Below.refl _ _,by simp[Hid]⟩
     case round=>
      obtain⟨k,hk,rfl,bel,HS⟩:=hrel;have belw:Below w.heap.size w wr:=hB.trans (bel.mono hB.size);have x5:=(HXw.out.below bel hWlt).c5;simp only[Nat.zero_add]at x5
      by_cases hlt:k<kids.length
      ·have hlt':(k:Int)<(kids.length:Int):=by omega
       obtain⟨g,off,rfl,hg,hKS⟩:=HK.out (by omega);obtain⟨a',c',hx,he⟩:=hKS k hlt;obtain⟨y0,y1,y2,y3,y4,y5⟩:=hx.below belw hg;have he':=he.below belw;have HN:Hid (ZH r (atE kids k)=false→ZH m (.mk op t kids)=false):=fun h=>by rw[HF.out,ZjM hlt h]
       have HY:Hid (ZH r (atE kids k)=true→(kids.take (k+1)).all (ZH r)=true):=fun h=>by rw[ZhE hlt,HS.out,h];rfl
       generalize atE kids k=x at y0 y1 y2 y3 y4 y5 he' HN HY;have HEI:Hid _:=he';clear hKS hx he he';go_wp2_with fail;refine(IH.out d x a' c' _ HR.out HEI.out).mono ?_;rintro ee w2 ⟨rfl,b2⟩;have b2':=bel.trans (b2.mono bel.size)
       cases ht:ZH r x
       ·go_wp2;go_ret;exact⟨Ze (HN.out ht).symm,hB.trans (b2'.mono hB.size)⟩
       ·go_wp2;go_roundw
        case rel=>exact⟨k+1,by omega,by go_num,b2',HY.out ht⟩
        case measure=>simp[intOf];omega
      ·obtain rfl:k=kids.length:=by omega
       go_wp2;go_ret;have hs:=HS.out;rw[List.take_length]at hs;exact⟨Ze (by rw[HF.out,hs]),belw⟩
    ·have dn:((kids.length:Int) != Zd1 op)=true:=by rw[bne_iff_ne];exact hkn
     have HF:Hid (ZH m (.mk op t kids)=false):=by
      show _=_;rw[HX.out];have:¬ (0≤op∧op<11∧kids.length=Zau op.toNat):=fun h=>hkn ((ZlG h0).2 h)
      by_cases j1:0≤op
      ·by_cases j2:op<11
       ·rw[decide_eq_false (fun j3=>this ⟨j1,j2,j3⟩)];simp
       ·rw[decide_eq_false j2];simp
      ·rw[decide_eq_false j1];simp
     clear HX h0 ht0 hq hkn IH HK;generalize hrk:Zd1 op=rk at dn;have HRK:Hid _:=hrk;clear hrk;go_enter Tryz.func316,Tryz.ntmps316;go_wp2_with fail
     go_region_held3 (fun u=>u.cell? ⟨w.heap.size,0,none⟩=some (.int .i8 op)∧u.cell? ⟨w.heap.size,1,none⟩=some (.string t.v)∧u.cell? ⟨w.heap.size,2,none⟩=some (.int .i8 t.a.k)∧u.cell? ⟨w.heap.size,3,none⟩=some (.int .i64 t.a.n)∧u.cell? ⟨w.heap.size,4,none⟩=some (.string t.a.s)∧u.cell? ⟨w.heap.size,5,none⟩=some (.slice a kids.length c)∧u.cell? ⟨w.heap.size+1,0,none⟩=some (.string ⟨#[]⟩)∧u.cell? ⟨w.heap.size+1,1,none⟩=some (.int .i8 0)∧u.cell? ⟨w.heap.size+1,2,none⟩=some (.int .i64 0)∧u.cell? ⟨w.heap.size+1,3,none⟩=some (.string ⟨#[]⟩))
      (first
       | assumption
       | (refine⟨?_,?_,?_,?_,?_,?_,?_,?_,?_,?_⟩<;>go_simp))
      (first
       | (go_at_call 335;refine(ZhG op _ hob).mono ?_;rw[HRK.out];rintro ee w2 ⟨rfl,rfl⟩)
       | fail)
     go_wp2;go_ret;exact⟨Ze HF.out.symm,BB.drew⟩
   ·have hq:(!decide (t=T0))=true:=by rw[decide_eq_false ht0];rfl
    rw[hq]at hQ;unfold T0 V0 noS at hQ;dsimp only at hQ
    have HF:Hid (ZH m (.mk op t kids)=false):=by
     show _=_;rw[HX.out,decide_eq_false ht0];simp
    clear HX h0 ht0 hq IH HK;go_enter Tryz.func316,Tryz.ntmps316;go_wp2_with fail;go_quiet (fail);go_wp2;go_ret;exact⟨Ze HF.out.symm,ZaE BB _⟩
end
end Go.Proofs.YtjdnpgpbeppgjaaGreatDoor
