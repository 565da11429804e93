import Derived.Test.YtjdnpgpbeppgjaaGreatDoorA2
import Derived.Shelf.Strconv.Itoa0
import Derived.Shelf.Strconv.Itoa1
import Derived.Shelf.LaysM
import Derived.Shelf.Strconv.Itoa2
import Derived.Shelf.Strconv.Itoa3
import Derived.Shelf.Strconv.Itoa4
import Derived.Test.YtjdnpgpbeppgjaaGreatDoorProg
import Derived.Lib.ItoaNum
import Derived.Lib.AppendIntMem
import Derived.Lib.LaidTab
set_option linter.unusedSimpArgs false
set_option linter.unusedVariables false
set_option maxHeartbeats 6400000
set_option maxRecDepth 100000
namespace Go.Proofs.YtjdnpgpbeppgjaaGreatDoor
section
open Go.RowKit Go.Maps
attribute [local go_sem ↓] Go.wp_at_zero Go.wp_at_succ
theorem ZaE{B:Nat}{a w:World}(h:Below B a w)(n:Nat):Below B a (w.drewN n):=⟨h.os,h.tape,h.output,h.size,h.block⟩
inductive E where
 | mk (op:Int) (t:T) (kids:List E)
def E.op:E→Int | .mk o _ _=>o
def E.t:E→T | .mk _ t _=>t
def E.kids:E→List E | .mk _ _ k=>k
theorem ZhD(o:Int)(t:T)(k:List E):(E.mk o t k).op=o:=rfl
theorem ZmX(o:Int)(t:T)(k:List E):(E.mk o t k).t=t:=rfl
theorem ZbT(o:Int)(t:T)(k:List E):(E.mk o t k).kids=k:=rfl
def E0:E:=.mk 0 T0 []
def atE(l:List E)(i:Nat):E:=l.getD i E0
theorem ZbO{l:List E}{i:Nat}(h:i<l.length):atE l i=l[i]:=by simp[atE,List.getD,List.getElem?_eq_getElem h]
def ZkS:List Int:=[0,1,2,2,2,2,2,2,1,1,1]
def Zau(op:Nat):Nat:=(ZkS.getD op 0).toNat
def Zak(t:T):Bool := !decide (t.v=ZI)&&ZK t
def ZH:Nat→E→Bool
 | 0,_=>false
 | r+1,e=>decide (0≤e.op)&&decide (e.op<11)&&decide (e.kids.length=Zau e.op.toNat)&&(if e.op=0 then Zak e.t else e.kids.all (ZH r)&&decide (e.t=T0))
structure XAt (w:World) (g o:Nat) (op:Int) (t:T) (s:Value):Prop where
 c0:w.cell? ⟨g,o,none⟩=some (.int .i8 op)
 c1:w.cell? ⟨g,o+1,none⟩=some (.string t.v)
 c2:w.cell? ⟨g,o+2,none⟩=some (.int .i8 t.a.k)
 c3:w.cell? ⟨g,o+3,none⟩=some (.int .i64 t.a.n)
 c4:w.cell? ⟨g,o+4,none⟩=some (.string t.a.s)
 c5:w.cell? ⟨g,o+5,none⟩=some s
theorem XAt.below{w w':World}{g o:Nat}{op:Int}{t:T}{s:Value}(h:XAt w g o op t s)(b:Below w.heap.size w w')(hg:g<w.heap.size):XAt w' g o op t s:=
 ⟨by rw[b.cell (p:=⟨g,o,none⟩) hg];exact h.c0,by rw[b.cell (p:=⟨g,o+1,none⟩) hg];exact h.c1,by rw[b.cell (p:=⟨g,o+2,none⟩) hg];exact h.c2,by rw[b.cell (p:=⟨g,o+3,none⟩) hg];exact h.c3,by rw[b.cell (p:=⟨g,o+4,none⟩) hg];exact h.c4,by rw[b.cell (p:=⟨g,o+5,none⟩) hg];exact h.c5⟩
def EIs(w:World):Nat→E→Option Addr→Nat→Prop
 | 0,_,_,_=>False
 | d+1,e,a,c=>((-128≤e.op∧e.op≤127)∧e.kids.length≤281474976710656)∧e.t.wf∧e.kids.length≤c∧c≤maxLen ∧
  (0<e.kids.length→∃g off,a=some ⟨g,off,none⟩∧g<w.heap.size∧∀i,i<e.kids.length→∃a' c',XAt w g (off+i*6) (atE e.kids i).op (atE e.kids i).t (.slice a' (atE e.kids i).kids.length c')∧EIs w d (atE e.kids i) a' c')
theorem EIs.below{w w':World}(b:Below w.heap.size w w'):∀{d:Nat} {e:E} {a:Option Addr} {c:Nat},EIs w d e a c→EIs w' d e a c
 | 0,_,_,_,h=>h
 | d+1,e,a,c,h=>by
  obtain⟨h1,h2,h3,h4,h5⟩:=h;refine⟨h1,h2,h3,h4,fun h0=>?_⟩;obtain⟨g,off,ha,hg,hk⟩:=h5 h0;refine⟨g,off,ha,Nat.lt_of_lt_of_le hg b.size,fun i hi=>?_⟩;obtain⟨a',c',hx,he⟩:=hk i hi;exact⟨a',c',hx.below b hg,he.below b⟩
theorem EIs.more{w:World}:∀{d:Nat} {e:E} {a:Option Addr} {c:Nat},EIs w d e a c→EIs w (d+1) e a c
 | 0,_,_,_,h=>h.elim
 | d+1,e,a,c,h=>by
  obtain⟨h1,h2,h3,h4,h5⟩:=h;refine⟨h1,h2,h3,h4,fun h0=>?_⟩;obtain⟨g,off,ha,hg,hk⟩:=h5 h0;refine⟨g,off,ha,hg,fun i hi=>?_⟩;obtain⟨a',c',hx,he⟩:=hk i hi;exact⟨a',c',hx,he.more⟩
def E.val(e:E)(a:Option Addr)(c:Nat):Value:=.agg #[.int .i8 e.op,.string e.t.v,.int .i8 e.t.a.k,.int .i64 e.t.a.n,.string e.t.a.s,.slice a e.kids.length c]
theorem ZjM{f:E→Bool}{l:List E}{k:Nat}(h:k<l.length)(hn:f (atE l k)=false):l.all f=false:=by
 rw[←Bool.not_eq_true];intro ha;rw[List.all_eq_true]at ha;rw[ZbO h]at hn;rw[ha _ (List.getElem_mem h)]at hn
 cases hn
theorem ZhE{f:E→Bool}{l:List E}{k:Nat}(h:k<l.length):(l.take (k+1)).all f=((l.take k).all f&&f (atE l k)):=by
 have e:l.take (k+1)=l.take k++[l[k]]:=by rw[List.take_add_one,List.getElem?_eq_getElem h];rfl
 rw[e,List.all_append,ZbO h];simp
structure KT (w:World):Prop where
 lt:0<w.heap.size
 cell:∀i:Nat,i<11→w.cell? ⟨0,i,none⟩=some (.int .i64 (Zau i:Int))
theorem KT.below{w w':World}(t:KT w)(h:Below w.heap.size w w'):KT w':=
 ⟨Nat.lt_of_lt_of_le t.lt h.size,fun i hi=>by rw[h.cell (p:=⟨_,i,none⟩) t.lt];exact t.cell i hi⟩
theorem Zch(t u:T)(w:World) :
  (binOp .eql 100 (.agg #[.string t.v,.int .i8 t.a.k,.int .i64 t.a.n,.string t.a.s]) (.agg #[.string u.v,.int .i8 u.a.k,.int .i64 u.a.n,.string u.a.s])).run Tryz.prog w=.ok (.bool (decide (t=u))) w:=by
 obtain⟨tv,k1,n1,s1⟩:=t;obtain⟨uv,k2,n2,s2⟩:=u;dsimp only
 by_cases hv:tv.toList=uv.toList
 ·have ev:=toList_inj hv;subst ev
  by_cases hk:k1=k2
  ·by_cases hn:n1=n2
   ·by_cases hs:s1.toList=s2.toList
    ·have:=toList_inj hs;subst hk hn this;go_simp
    ·have e:decide ((⟨tv,k1,n1,s1⟩:T)=⟨tv,k2,n2,s2⟩)=false:=decide_eq_false (fun h=>hs (by cases h;rfl));rw[e];go_simp
   ·have e:decide ((⟨tv,k1,n1,s1⟩:T)=⟨tv,k2,n2,s2⟩)=false:=decide_eq_false (fun h=>hn (by cases h;rfl));rw[e];go_simp
  ·have e:decide ((⟨tv,k1,n1,s1⟩:T)=⟨tv,k2,n2,s2⟩)=false:=decide_eq_false (fun h=>hk (by cases h;rfl));rw[e];go_simp
 ·have e:decide ((⟨tv,k1,n1,s1⟩:T)=⟨uv,k2,n2,s2⟩)=false:=decide_eq_false (fun h=>hv (by cases h;rfl));rw[e];go_simp
theorem Zfb(t:T)(w:World)(ht:t.wf):Calls Tryz.prog 296 #[t.val] w fun e w'=>e=.returned (.bool (Zak t))∧Below w.heap.size w w':=by
 have hN:Hid (Zak t=(!decide (t.v=ZI)&&ZK t)):=rfl;have ht':=ht;obtain⟨tv,k,n,s⟩:=t;unfold T.val;dsimp only at *
 by_cases eb:tv=ZI
 ·have HF:Hid (Zak ⟨tv,k,n,s⟩=false):=by show _=_;rw[hN.out];simp[eb]
  subst eb;unfold ZI at *;go_enter Tryz.func296,Tryz.ntmps296;go_wp2;go_ret;exact⟨Ze HF.out.symm,((Below.refl _ _).alloc (Nat.le_refl _) _)⟩
 ·have hb0:=Za0 eb;have HF:Hid (Zak ⟨tv,k,n,s⟩=ZK ⟨tv,k,n,s⟩):=by show _=_;rw[hN.out];simp[eb]
  clear hN eb;go_enter Tryz.func296,Tryz.ntmps296;go_wp2_with (go_at_call 318;refine(Zd0 ⟨tv,k,n,s⟩ _ ht').mono ?_;rintro e w1 ⟨rfl,b1⟩);go_ret;exact⟨Ze HF.out.symm,((Below.refl _ _).alloc (Nat.le_refl _) _).trans (b1.mono (by simp))⟩
theorem Zoq{r:Nat}{e:E}(h:¬ (0≤e.op∧e.op<11∧e.kids.length=Zau e.op.toNat)):ZH (r+1) e=false:=by
 unfold ZH
 by_cases h1:0≤e.op
 ·by_cases h2:e.op<11
  ·have h3:¬ e.kids.length=Zau e.op.toNat:=fun h3=>h ⟨h1,h2,h3⟩
   rw[decide_eq_false h3];simp
  ·rw[decide_eq_false h2];simp
 ·rw[decide_eq_false h1];simp
theorem ZkT{r:Nat}{e:E}(h1:e.op=0)(h2:e.kids.length=0):ZH (r+1) e=Zak e.t:=by
 unfold ZH;rw[h1,if_pos rfl,h2];simp[Zau,ZkS]
theorem ZkU{r:Nat}{e:E}(h0:0≤e.op)(h1:e.op<11)(h2:e.kids.length=Zau e.op.toNat)(h3:¬ e.op=0):ZH (r+1) e=(e.kids.all (ZH r)&&decide (e.t=T0)):=by
 unfold ZH;rw[if_neg h3,decide_eq_true h0,decide_eq_true h1,decide_eq_true h2];simp
theorem Zgq:∀(room:Nat) (d:Nat) (e:E) (a:Option Addr) (c:Nat) (w:World),room≤1000→KT w→EIs w d e a c →
  Calls Tryz.prog 299 #[e.val a c,.int .i64 room] w fun r w'=>r=.returned (.bool (ZH room e))∧Below w.heap.size w w':=by
 intro room
 induction room with
 | zero=>
  intro d e a c w hr hT hE;have HF:Hid (ZH 0 e=false):=rfl;unfold E.val;go_enter Tryz.func299,Tryz.ntmps299;go_wp2_with fail;go_quiet (fail);go_wp2;go_ret;exact⟨Ze HF.out.symm,ZaE ((Below.refl _ _).alloc (Nat.le_refl _) _) _⟩
 | succ r ih=>
  intro d e a c w hr hT hE
  cases d with
  | zero=>exact hE.elim
  | succ d=>
  obtain⟨hop,htw,hc1,hc2,hk⟩:=hE;obtain⟨m,hm⟩:∃m:Nat,r+1=m:=⟨_,rfl⟩;have hm1:((m:Int)==0)=false:=by rw[beq_eq_false_iff_ne];omega
  have hmr:(m:Int)-1=(r:Int):=by omega
  have hrw:IntKind.i64.wrap (r:Int)=(r:Int):=by simp[IntKind.wrap,IntKind.bits,IntKind.signed];omega
  have HNO:Hid (¬ (0≤e.op∧e.op<11∧e.kids.length=Zau e.op.toNat)→ZH m e=false):=by rw[←hm];exact Zoq
  have HLE:Hid (e.op=0→e.kids.length=0→ZH m e=Zak e.t):=by rw[←hm];exact ZkT
  have HKI:Hid (0≤e.op→e.op<11→e.kids.length=Zau e.op.toNat→¬ e.op=0→ZH m e=(e.kids.all (ZH r)&&decide (e.t=T0))):=by rw[←hm];exact ZkU
  have IH:Hid _:=ih;clear ih;rw[hm];have hlen:e.kids.length≤maxLen:=Nat.le_trans hc1 hc2;unfold maxLen at hlen;have HR:Hid (r≤1000):=by show r≤1000;omega
  clear hm hr;obtain⟨op,t,kids⟩:=e;unfold E.val;simp only[ZhD,ZmX,ZbT]at *;have HK:Hid _:=hk;clear hk
  by_cases h0:op<0
  ·have HF:Hid (ZH m (.mk op t kids)=false):=HNO.out (by omega);go_enter Tryz.func299,Tryz.ntmps299;go_wp2_with fail;go_quiet (fail);go_wp2;go_ret;exact⟨Ze HF.out.symm,ZaE ((Below.refl _ _).alloc (Nat.le_refl _) _) _⟩
  ·by_cases h11:11≤op
   ·have HF:Hid (ZH m (.mk op t kids)=false):=HNO.out (by omega);have d0:decide (op<0)=false:=decide_eq_false h0;have d1:IntKind.i64.wrap op=op:=by simp[IntKind.wrap,IntKind.bits,IntKind.signed];omega
    have d2:decide (11≤op)=true:=decide_eq_true h11;clear h0 h11;go_enter Tryz.func299,Tryz.ntmps299;go_wp2_with fail;go_quiet (fail);go_wp2;go_ret;exact⟨Ze HF.out.symm,ZaE ((Below.refl _ _).alloc (Nat.le_refl _) _) _⟩
   ·obtain⟨p,rfl⟩:∃p:Nat,op=p:=⟨op.toNat,by omega⟩;have hp11:p<11:=by omega
    have hp11':(p:Int)<11:=by omega
    have d0:decide ((p:Int)<0)=false:=decide_eq_false h0;have d1:IntKind.i64.wrap (p:Int)=(p:Int):=by simp[IntKind.wrap,IntKind.bits,IntKind.signed];omega
    have d2:decide (11≤(p:Int))=false:=decide_eq_false h11;clear h0 h11;have BA:=(Below.refl w.heap.size w).alloc (Nat.le_refl _) (.cells #[.int .i8 (p:Int),.string t.v,.int .i8 t.a.k,.int .i64 t.a.n,.string t.a.s,.slice a kids.length c] 103);have ct:=(hT.below BA).cell p hp11
    by_cases hkn:kids.length=Zau p
    ·have hkn':((kids.length:Int) != (Zau p:Int))=false:=by rw[hkn];simp
     have HXB:Hid (∀n,XAt ((w.alloc (.cells #[.int .i8 (p:Int),.string t.v,.int .i8 t.a.k,.int .i64 t.a.n,.string t.a.s,.slice a kids.length c] 103)).drewN n) w.heap.size 0 p t (.slice a kids.length c)∧Below w.heap.size w ((w.alloc (.cells #[.int .i8 (p:Int),.string t.v,.int .i8 t.a.k,.int .i64 t.a.n,.string t.a.s,.slice a kids.length c] 103)).drewN n)):=fun n=>⟨⟨by go_simp,by go_simp,by go_simp,by go_simp,by go_simp,by go_simp⟩,ZaE BA n⟩
     by_cases hp0:p=0
     ·have HF:Hid (ZH m (.mk p t kids)=Zak t):=HLE.out (by omega) (by rw[hkn,hp0];rfl);have dp:((p:Int)==0)=true:=by rw[hp0];rfl
      clear BA HNO HLE HKI IH HK hkn hT hp0;generalize Zau p=q at ct hkn';go_enter Tryz.func299,Tryz.ntmps299;go_wp2_with fail;go_quiet (fail);obtain⟨hX,hB⟩:=HXB.out nq;clear HXB ct;generalize World.drewN _ nq=W at hX hB⊢;obtain⟨x0,x1,x2,x3,x4,x5⟩:=hX;go_wp2_with (go_at_call 296;refine(Zfb t _ htw).mono ?_;rintro e w1 ⟨rfl,b1⟩);go_ret;exact⟨Ze HF.out.symm,hB.trans (b1.mono hB.size)⟩
     ·have HF:Hid (ZH m (.mk p t kids)=(kids.all (ZH r)&&decide (t=T0))):=HKI.out (by omega) (by omega) (by rw[Int.toNat_natCast];exact hkn) (by omega);have dp:((p:Int)==0)=false:=by rw[beq_eq_false_iff_ne];omega
      have hE:=Zch t T0;unfold T0 V0 noS at hE;dsimp only at hE;have HE:Hid (decide (t=T0)=decide (t=⟨⟨#[]⟩,⟨0,0,⟨#[]⟩⟩⟩)):=rfl;clear BA HNO HLE HKI hkn hp0;generalize Zau p=q at ct hkn';go_enter Tryz.func299,Tryz.ntmps299;go_wp2_with fail;go_quiet (fail);obtain⟨hX,hB⟩:=HXB.out nq;clear HXB ct;generalize World.drewN _ nq=W at hX hB⊢;have hWlt:w.heap.size<W.heap.size:=World.block_lt_of_cell? _ _ hX.c0
      have x0:=hX.c0;have x5:=hX.c5;simp only[Nat.zero_add]at x5;have HX:Hid _:=hX;clear hX;go_wp2;go_loopw [39] (fun i wr=>∃k:Nat,k≤kids.length∧i=.int .i64 k∧Below W.heap.size W wr∧Hid ((kids.take k).all (ZH r)=true)) (fun i _=>kids.length-(intOf i).toNat)
      case atStart=>exact⟨0,Nat.zero_le _,rfl,Below.refl _ _,by simp[Hid]⟩
      case round=>
       obtain⟨k,hk,rfl,bel,HS⟩:=hrel;have belw:Below w.heap.size w wr:=hB.trans (bel.mono hB.size)
       by_cases hlt:k<kids.length
       ·have hlt':(k:Int)<(kids.length:Int):=by omega
        obtain⟨g,off,rfl,hg,hKS⟩:=HK.out (by omega);obtain⟨a',c',hx,he⟩:=hKS k hlt;obtain⟨y0,y1,y2,y3,y4,y5⟩:=hx.below belw hg;have he':=he.below belw;have HN:Hid (ZH r (atE kids k)=false→ZH m (.mk p t kids)=false):=fun h=>by rw[HF.out,ZjM hlt h];rfl
        have HY:Hid (ZH r (atE kids k)=true→(kids.take (k+1)).all (ZH r)=true):=fun h=>by rw[ZhE hlt,HS.out,h];rfl
        generalize atE kids k=x at y0 y1 y2 y3 y4 y5 he' HN HY;have HEI:Hid _:=he';clear hKS hx he he' x0 x5;have belA:=(Below.refl wr.heap.size wr).alloc (Nat.le_refl _) (.cells #[.int .i8 x.op,.string x.t.v,.int .i8 x.t.a.k,.int .i64 x.t.a.n,.string x.t.a.s,.slice a' x.kids.length c'] 103);go_wp2_with fail;refine(IH.out d x a' c' _ HR.out (hT.below (belw.trans (belA.mono belw.size))) (HEI.out.below belA)).mono ?_
        rintro ee w2 ⟨rfl,b2⟩;have b2':=bel.trans ((belA.trans (b2.mono belA.size)).mono bel.size)
        cases ht:ZH r x
        ·go_wp2;go_ret;exact⟨Ze (HN.out ht).symm,hB.trans (b2'.mono hB.size)⟩
        ·go_wp2;go_roundw
         case rel=>exact⟨k+1,by omega,by go_num,b2',HY.out ht⟩
         case measure=>simp[intOf];omega
       ·obtain rfl:k=kids.length:=by omega
        obtain⟨z0,z1,z2,z3,z4,z5⟩:=HX.out.below bel hWlt;go_wp2;go_ret;have hs:=HS.out;rw[List.take_length]at hs;exact⟨Ze (by rw[HF.out,←HE.out,hs];rfl),belw⟩
    ·have HF:Hid (ZH m (.mk p t kids)=false):=HNO.out (by rw[Int.toNat_natCast];omega);have hkn':((kids.length:Int) != (Zau p:Int))=true:=by rw[bne_iff_ne];omega
     clear BA HNO HLE HKI IH HK hkn;generalize Zau p=q at ct hkn';go_enter Tryz.func299,Tryz.ntmps299;go_wp2_with fail;go_quiet (fail);go_wp2;go_ret;exact⟨Ze HF.out.symm,ZaE ((Below.refl _ _).alloc (Nat.le_refl _) _) _⟩
end
section
open Go.RowKit Go.Maps
def Zb8(j:Nat)(o:Int)(t:T)(s:Value):Value:=if j=0 then .int .i8 o else if j=1 then .string t.v else if j=2 then .int .i8 t.a.k else if j=3 then .int .i64 t.a.n else if j=4 then .string t.a.s else s
def Za4(O:Nat→Int)(U:Nat→T)(S:Nat→Value)(k:Nat):Nat→Value:=fun j=>if j/6<k then Zb8 (j % 6) (O (j/6)) (U (j/6)) (S (j/6))else Zb8 (j % 6) 0 T0 (.slice none 0 0)
theorem ZhI(O:Nat→Int)(U:Nat→T)(S:Nat→Value)(k j:Nat)(o:Int)(t:T)(s:Value) :
  (if j=k*6+5 then s else if j=k*6+4 then .string t.a.s else if j=k*6+3 then .int .i64 t.a.n else if j=k*6+2 then .int .i8 t.a.k else if j=k*6+1 then .string t.v else if j=k*6 then .int .i8 o else Za4 O U S k j)=Za4 (fun i=>if i=k then o else O i) (fun i=>if i=k then t else U i) (fun i=>if i=k then s else S i) (k+1) j:=by
 by_cases e:j/6=k
 ·have h1:j/6<k+1:=by omega
  have h3:j=k*6∨j=k*6+1∨j=k*6+2∨j=k*6+3∨j=k*6+4∨j=k*6+5:=by omega
  unfold Za4;rw[if_pos h1,e];rcases h3 with rfl | rfl | rfl | rfl | rfl | rfl
  ·simp[Zb8]
  ·simp[Zb8,show(k*6+1) % 6=1 by omega]
  ·simp[Zb8,show(k*6+2) % 6=2 by omega]
  ·simp[Zb8,show(k*6+3) % 6=3 by omega]
  ·simp[Zb8,show(k*6+4) % 6=4 by omega]
  ·simp[Zb8,show(k*6+5) % 6=5 by omega]
 ·have n0:¬ j=k*6:=by omega
  have n1:¬ j=k*6+1:=by omega
  have n2:¬ j=k*6+2:=by omega
  have n3:¬ j=k*6+3:=by omega
  have n4:¬ j=k*6+4:=by omega
  have n5:¬ j=k*6+5:=by omega
  unfold Za4;rw[if_neg n5,if_neg n4,if_neg n3,if_neg n2,if_neg n1,if_neg n0]
  by_cases h:j/6<k
  ·rw[if_pos h,if_pos (by omega)];simp[e]
  ·rw[if_neg h,if_neg (by omega)]
theorem ZlH{w:World}{b:Nat}{ty:TypeId}{m:Nat}{O:Nat→Int}{U:Nat→T}{S:Nat→Value}{k:Nat}(h:w.rowIs b ty (m*6) (Za4 O U S k)){i:Nat}(hi:i<k)(hm:i<m):XAt w b (i*6) (O i) (U i) (S i):=by
 refine⟨?_,?_,?_,?_,?_,?_⟩
 ·rw[h.cell (by omega)];simp[Za4,Zb8,hi]
 ·rw[h.cell (by omega)];simp[Za4,Zb8,show(i*6+1)/6=i by omega,show(i*6+1) % 6=1 by omega,hi]
 ·rw[h.cell (by omega)];simp[Za4,Zb8,show(i*6+2)/6=i by omega,show(i*6+2) % 6=2 by omega,hi]
 ·rw[h.cell (by omega)];simp[Za4,Zb8,show(i*6+3)/6=i by omega,show(i*6+3) % 6=3 by omega,hi]
 ·rw[h.cell (by omega)];simp[Za4,Zb8,show(i*6+4)/6=i by omega,show(i*6+4) % 6=4 by omega,hi]
 ·rw[h.cell (by omega)];simp[Za4,Zb8,show(i*6+5)/6=i by omega,show(i*6+5) % 6=5 by omega,hi]
theorem Zk2(w:World)(n:Nat)(O:Nat→Int)(U:Nat→T)(S:Nat→Value):(w.alloc (.cells (madeCells #[.int .i8 0,.string ⟨#[]⟩,.int .i8 0,.int .i64 0,.string ⟨#[]⟩,.slice none 0 0] (n*6)) 103)).rowIs w.heap.size 103 (n*6) (Za4 O U S 0):=by
 have h:=World.rowIs_alloc w (madeCells #[.int .i8 0,.string ⟨#[]⟩,.int .i8 0,.int .i64 0,.string ⟨#[]⟩,.slice none 0 0] (n*6)) 103 (Za4 O U S 0) (fun i hi=>by
  rw[size_madeCells]at hi;obtain h | h | h | h | h | h:i % 6=0∨i % 6=1∨i % 6=2∨i % 6=3∨i % 6=4∨i % 6=5:=by omega
  all_goals simp[madeCells,hi,Za4,Zb8,h,T0,V0,noS])
 rwa [size_madeCells]at h
theorem ZpP:(Tryz.prog.info? 103).map (fun i=>(i.zero,i.size,i.bytes))=some (some (.agg #[.int .i8 0,.string ⟨#[]⟩,.int .i8 0,.int .i64 0,.string ⟨#[]⟩,.slice none 0 0]),6,80):=by kernel_rfl
theorem Zgx(n:Nat)(hn:n≤1048576)(w:World) :
  (Instr.makeSlice 101 (.int .i64 ((n:Int)+1)) (.int .i64 ((n:Int)+1))).run Tryz.prog w=.ok (.slice (some ⟨w.heap.size,0,none⟩) (n+1) (n+1)) (w.alloc (.cells (madeCells #[.int .i8 0,.string ⟨#[]⟩,.int .i8 0,.int .i64 0,.string ⟨#[]⟩,.slice none 0 0] ((n+1)*6)) 103)):=by
 have h:=ZpP;obtain⟨i,hi,he⟩:=Option.map_eq_some_iff.1 h;simp only[Prod.mk.injEq]at he;obtain⟨h1,h2,h3⟩:=he;have:=run_make (P:=Tryz.prog) w 101 103 i _ Tryz.underlying101 hi h1 .i64 .i64 ((n:Int)+1) ((n:Int)+1) (by omega) (Int.le_refl _) (by rw[h3];omega) (by omega);rw[this,h2,show((n:Int)+1).toNat=n+1 by omega];rfl
def ZZ:Nat→E→Prop
 | 0,_=>True
 | d+1,e=>e.kids.length≤1048576∧∀i,i<e.kids.length→ZZ d (atE e.kids i)
def Zt:ByteArray:=⟨#[35,55,55,55,55,55,55]⟩
def TwIs(w:World)(lo:Nat):Nat→E→Option Addr→Nat→Prop
 | 0,_,_,_=>False
 | d+1,e,a,c=>c=e.kids.length+1∧∃g,a=some ⟨g,0,none⟩∧lo≤g∧g<w.heap.size∧XAt w g (e.kids.length*6) 99 ⟨Zt,V0⟩ (.slice none 0 0) ∧
  ∀i,i<e.kids.length→∃a' c',XAt w g (i*6) (atE e.kids i).op (atE e.kids i).t (.slice a' (atE e.kids i).kids.length c')∧TwIs w lo d (atE e.kids i) a' c'
theorem XAt.of{w w':World}{g o:Nat}{op:Int}{t:T}{s:Value}(h:XAt w g o op t s)(e:w'.heap[g]?=w.heap[g]?):XAt w' g o op t s:=by
 have hc:∀j,w'.cell? ⟨g,j,none⟩=w.cell? ⟨g,j,none⟩:=fun j=>by unfold World.cell?;rw[e]
 exact⟨(hc _).trans h.c0,(hc _).trans h.c1,(hc _).trans h.c2,(hc _).trans h.c3,(hc _).trans h.c4,(hc _).trans h.c5⟩
theorem TwIs.of{w w':World}{lo:Nat}(hs:w.heap.size≤w'.heap.size)(hh:∀k,lo≤k→k<w.heap.size→w'.heap[k]?=w.heap[k]?):∀{d:Nat} {e:E} {a:Option Addr} {c:Nat},TwIs w lo d e a c→TwIs w' lo d e a c
 | 0,_,_,_,h=>h
 | d+1,e,a,c,h=>by
  obtain⟨h1,g,h2,hl,hg,hm,hk⟩:=h;refine⟨h1,g,h2,hl,Nat.lt_of_lt_of_le hg hs,hm.of (hh g hl hg),fun i hi=>?_⟩;obtain⟨a',c',hx,he⟩:=hk i hi;exact⟨a',c',hx.of (hh g hl hg),he.of hs hh⟩
theorem TwIs.below{w w':World}{lo:Nat}(b:Below w.heap.size w w'){d:Nat}{e:E}{a:Option Addr}{c:Nat}(h:TwIs w lo d e a c):TwIs w' lo d e a c:=h.of b.size (fun k _ hk=>b.block k hk)
theorem TwIs.set{w:World}{lo b j:Nat}{v:Value}(hb:b<lo){d:Nat}{e:E}{a:Option Addr}{c:Nat}(h:TwIs w lo d e a c):TwIs (w.setCell ⟨b,j,none⟩ v) lo d e a c:=
 h.of (by simp) (fun k hk _=>heap_setCell_other _ _ _ _ (by show k≠b;omega))
theorem TwIs.lower{w:World}{lo lo':Nat}(hl:lo'≤lo):∀{d:Nat} {e:E} {a:Option Addr} {c:Nat},TwIs w lo d e a c→TwIs w lo' d e a c
 | 0,_,_,_,h=>h
 | d+1,e,a,c,h=>by
  obtain⟨h1,g,h2,h3,hg,hm,hk⟩:=h;refine⟨h1,g,h2,Nat.le_trans hl h3,hg,hm,fun i hi=>?_⟩;obtain⟨a',c',hx,he⟩:=hk i hi;exact⟨a',c',hx,he.lower hl⟩
theorem TwIs.eis{w w0:World}{lo:Nat}:∀{d:Nat} {e:E} {a a0:Option Addr} {c c0:Nat},TwIs w lo d e a c→EIs w0 d e a0 c0→EIs w d e a c
 | 0,_,_,_,_,_,h,_=>h.elim
 | d+1,e,a,a0,c,c0,h,h0=>by
  obtain⟨rfl,g,rfl,_,hg,hm,hk⟩:=h;obtain⟨e1,e2,e3,e4,e5⟩:=h0;refine⟨e1,e2,by omega,by unfold maxLen;omega,fun hp=>⟨g,0,rfl,hg,fun i hi=>?_⟩⟩;obtain⟨_,_,_,_,hK⟩:=e5 hp;obtain⟨a1,c1,_,hE1⟩:=hK i hi;obtain⟨a',c',hx,he⟩:=hk i hi;rw[Nat.zero_add];exact⟨a',c',hx,he.eis hE1⟩
end
section
open Go.RowKit Go.Maps
attribute [local go_sem ↓] Go.wp_at_zero Go.wp_at_succ
structure X where
 e:E
 a:Option Addr
 c:Nat
def X.cells(x:X):List Value:=[.int .i8 x.e.op,.string x.e.t.v,.int .i8 x.e.t.a.k,.int .i64 x.e.t.a.n,.string x.e.t.a.s,.slice x.a x.e.kids.length x.c]
def X0:X:=⟨E0,none,0⟩
def atX(l:List X)(i:Nat):X:=l.getD i X0
theorem ZeW{l:List X}{i:Nat}(h:i<l.length):atX l i=l[i]:=by simp[atX,List.getD,List.getElem?_eq_getElem h]
structure Lx (w:World) (v:Value) (d:Nat) (l:List X):Prop where
 lies:Ls w v l.length (l.flatMap X.cells)
 each:∀x∈l,EIs w d x.e x.a x.c
theorem Lx.below{w w':World}{v:Value}{d:Nat}{l:List X}(h:Lx w v d l)(b:Below w.heap.size w w'):Lx w' v d l:=⟨h.lies.below b,fun x hx=>(h.each x hx).below b⟩
theorem Lx.form{w:World}{v:Value}{d:Nat}{l:List X}(h:Lx w v d l):∃a c,v=.slice a l.length c∧l.length≤c∧c≤maxLen∧(0<l.length→∃g off,a=some ⟨g,off,none⟩∧g<w.heap.size∧∀i,i<l.length→XAt w g (off+i*6) (atX l i).e.op (atX l i).e.t (.slice (atX l i).a (atX l i).e.kids.length (atX l i).c)):=by
 obtain⟨hn,a,c,hv,h1,h2,hc⟩:=h.lies;refine⟨a,c,hv,h1,h2,fun h0=>?_⟩;obtain⟨g,off,ha,hg,hf⟩:=hc h0;refine⟨g,off,ha,hg,fun i hi=>⟨?_,?_,?_,?_,?_,?_⟩⟩
 ·have:=hf.elem (k:=6) (fun _=>rfl) X0 hi (j:=0) (by omega) rfl;rw[←Nat.add_assoc]at this;exact this
 ·have:=hf.elem (k:=6) (fun _=>rfl) X0 hi (j:=1) (by omega) rfl;rw[←Nat.add_assoc]at this;exact this
 ·have:=hf.elem (k:=6) (fun _=>rfl) X0 hi (j:=2) (by omega) rfl;rw[←Nat.add_assoc]at this;exact this
 ·have:=hf.elem (k:=6) (fun _=>rfl) X0 hi (j:=3) (by omega) rfl;rw[←Nat.add_assoc]at this;exact this
 ·have:=hf.elem (k:=6) (fun _=>rfl) X0 hi (j:=4) (by omega) rfl;rw[←Nat.add_assoc]at this;exact this
 ·have:=hf.elem (k:=6) (fun _=>rfl) X0 hi (j:=5) (by omega) rfl;rw[←Nat.add_assoc]at this;exact this
theorem ZdC(l:List X):(l.flatMap X.cells).length=l.length*6:=Zbt X.cells 6 (fun _=>rfl) l
theorem Zqm{g:Nat}(w:World)(hg:g=w.heap.size)(x:X)(d:Nat)(h:EIs w d x.e x.a x.c):Lx (w.alloc (.cells #[.int .i8 x.e.op,.string x.e.t.v,.int .i8 x.e.t.a.k,.int .i64 x.e.t.a.n,.string x.e.t.a.s,.slice x.a x.e.kids.length x.c] 103)) (.slice (some ⟨g,0,none⟩) 1 1) d [x]:=by
 subst hg;refine⟨?_,fun y hy=>?_⟩
 ·have:=ZY (World.ownsRow_lit (base:=0) (e:=103) (size:=6) w #[.int .i8 x.e.op,.string x.e.t.v,.int .i8 x.e.t.a.k,.int .i64 x.e.t.a.n,.string x.e.t.a.s,.slice x.a x.e.kids.length x.c] 1 (Nat.zero_le _) (by decide) rfl);simpa[X.cells]using this
 ·obtain rfl:=List.mem_singleton.1 hy;exact h.below ((Below.refl _ _).alloc (Nat.le_refl _) _)
theorem ZkY{d:Nat}{x:X}{K:List X}(h1:x.e.kids.length≤1048576)(hK:K.map X.e=x.e.kids)(hs:∀y∈K,ZZ d y.e):ZZ (d+1) x.e:=by
 refine⟨h1,fun i hi=>?_⟩;rw[ZbO hi];have:x.e.kids[i]∈K.map X.e:=by rw[hK];exact List.getElem_mem hi
 obtain⟨y,hy,he⟩:=List.mem_map.1 this;rw[←he];exact hs y hy
def Zg:Nat→E→List T
 | 0,_=>[]
 | d+1,e=>e.t::e.kids.flatMap (Zg d)
theorem Zao(d:Nat)(e:E):Zg (d+1) e=e.t::e.kids.flatMap (Zg d):=rfl
theorem Zb9:∀(l m:List T) (ns:List ByteArray),vsT ns (l++m)=vsT (vsT ns l) m
 | [],m,ns=>rfl
 | t::l,m,ns=>by rw[List.cons_append,Zdk,Zdk,Zb9 l m]
theorem ZhJ(d:Nat){l:List E}{k:Nat}(h:k<l.length):(l.drop k).flatMap (Zg d)=Zg d (atE l k)++(l.drop (k+1)).flatMap (Zg d):=by
 rw[List.drop_eq_getElem_cons h,List.flatMap_cons,ZbO h]
def Zgz(bs bo:Nat):Value:=.func (.func 309) #[] #[.pointer (some ⟨bs,0,none⟩),.pointer (some ⟨bo,0,none⟩)]
theorem Zov(v:Value)(w:World):(Instr.typeAssert (.iface 341 v) 20 155 true).run Tryz.prog w=.ok (.tuple #[.pointer none,.bool false]) w:=by kernel_rfl
theorem ZhK(v:Value)(w:World):(Instr.typeAssert (.iface 341 v) 20 337 true).run Tryz.prog w=.ok (.tuple #[.pointer none,.bool false]) w:=by kernel_rfl
theorem Zow(v:Value)(w:World):(Instr.typeAssert (.iface 341 v) 20 340 true).run Tryz.prog w=.ok (.tuple #[.pointer none,.bool false]) w:=by kernel_rfl
theorem Zox(v:Value)(w:World):(Instr.typeAssert (.iface 341 v) 20 341 true).run Tryz.prog w=.ok (.tuple #[v,.bool true]) w:=by kernel_rfl
theorem ZcU{B:Nat}{w0:World}{bo bs bm:Nat}(hB:B=w0.heap.size):∀(d:Nat) (ns:List ByteArray) (sv:Value) (w:World) (e:E) (a:Option Addr) (c g o:Nat),Vst B w0 bo bs bm ns sv w→g<B→XAt w0 g o e.op e.t (.slice a e.kids.length c)→EIs w0 d e a c→ns.length+(Zg d e).length≤4398046511104 →
  Calls Tryz.prog 104 #[.iface 341 (.pointer (some ⟨g,o,none⟩)),Zgz bs bo] w fun e' w'=>(∃u,e'=.returned u)∧∃sv',Vst B w0 bo bs bm (vsT ns (Zg d e)) sv' w':=by
 intro d
 induction d with
 | zero=>intro ns sv w e a c g o h hg hx hE;exact absurd hE (fun h=>h)
 | succ d ih=>
 intro ns sv w e a c g o h hg hx hE hn;obtain⟨⟨hop,hkl⟩,htw,hc1,hc2,hk⟩:=hE;have HK:Hid _:=hk;have HIH:Hid _:=ih;have HXC:Hid (∀u,Below B w0 u→u.cell? ⟨g,o+1,none⟩=some (.string e.t.v)∧u.cell? ⟨g,o+5,none⟩=some (.slice a e.kids.length c)):=fun u hu=>⟨by rw[hu.cell (p:=⟨g,o+1,none⟩) hg];exact hx.c1,by rw[hu.cell (p:=⟨g,o+5,none⟩) hg];exact hx.c5⟩
 have HN:Hid _:=hn;rw[Zao]at hn⊢;rw[Zdk];have hn1:ns.length≤4398046511104:=by simp at hn;omega
 have HH:Hid _:=Zgj h hn1 g (o+1) e.t.v hg htw.text (HXC.out w h.bel).1;have HLn:Hid _:=ZeU ns e.t.v;obtain⟨n1,hn1'⟩:∃n1,Zbv ns e.t.v=n1:=⟨_,rfl⟩;rw[hn1']at HH HLn⊢
 have hsum:n1.length+(e.kids.flatMap (Zg d)).length≤4398046511104:=by
  have:=HLn.out;simp only[List.length_cons]at hn;omega
 have HSUM:Hid _:=hsum;obtain⟨r,HR⟩:∃r,Hid (vsT n1 (e.kids.flatMap (Zg d))=r):=⟨_,rfl⟩;rw[HR.out];have h1:=Zov (.pointer (some ⟨g,o,none⟩));have h2:=ZhK (.pointer (some ⟨g,o,none⟩));have h3:=Zow (.pointer (some ⟨g,o,none⟩));have h4:=Zox (.pointer (some ⟨g,o,none⟩));clear hk ih h hx hop htw hn hn1 hn1' hsum;unfold Zgz;go_enter Tryz.func104,Tryz.ntmps104;go_wp2_with fail;refine Calls.mono HH.out ?_
 rintro ee w1 ⟨⟨u,rfl⟩,sv1,hv1⟩;have HV1:Hid _:=hv1;have c5:=(HXC.out w1 hv1.bel).2;clear h1 h2 h3 h4 hv1;go_wp2;clear c5;go_loopw [106] (fun i wr=>∃k:Nat,k≤e.kids.length∧i=.int .i64 k∧∃(ns':List ByteArray) (sv':Value),Hid (Vst B w0 bo bs bm ns' sv' wr)∧Hid (ns'.length+((e.kids.drop k).flatMap (Zg d)).length≤4398046511104)∧Hid (vsT ns' ((e.kids.drop k).flatMap (Zg d))=r)) (fun i _=>e.kids.length-(intOf i).toNat)
 case atStart=>exact⟨0,Nat.zero_le _,rfl,n1,sv1,HV1,HSUM,HR⟩
 case round=>
  obtain⟨k,hk,rfl,ns',sv',HV',HL',HS⟩:=hrel;have c5:=(HXC.out wr HV'.out.bel).2
  by_cases hlt:k<e.kids.length
  ·have hlt':(k:Int)<(e.kids.length:Int):=by omega
   have hk0:(0:Int)≤(k:Int):=by omega
   obtain⟨g',off',rfl,hg',hKS⟩:=HK.out (by omega);obtain⟨a',c',hxk,hek⟩:=hKS k hlt;have hgB:g'<B:=by rw[hB];exact hg'
   have hfd:=ZhJ d hlt
   have HS2:Hid (vsT (vsT ns' (Zg d (atE e.kids k))) ((e.kids.drop (k+1)).flatMap (Zg d))=r):=by
    show _=r;rw[←Zb9,←hfd];exact HS.out
   have hle:=HL'.out;rw[hfd,List.length_append]at hle;have HI:Hid _:=HIH.out ns' sv' wr (atE e.kids k) a' c' g' (off'+k*6) HV'.out hgB hxk hek (by omega)
   have HL2:Hid ((vsT ns' (Zg d (atE e.kids k))).length+((e.kids.drop (k+1)).flatMap (Zg d)).length≤4398046511104):=by
    show _≤_;have:=Zaw (Zg d (atE e.kids k)) ns';omega
   unfold Zgz at HI;clear hKS hxk hek hfd hle HS HL';generalize vsT ns' (Zg d (atE e.kids k))=n2 at HI HS2 HL2;go_wp2_with fail;refine Calls.mono HI.out ?_;rintro ee w2 ⟨⟨u,rfl⟩,sv2,hv2⟩;go_wp2;go_roundw
   case rel=>exact⟨k+1,by omega,by go_num,n2,sv2,hv2,HL2,HS2⟩
   case measure=>simp[intOf];omega
  ·obtain rfl:k=e.kids.length:=by omega
   have HV2:Hid (ns'=r):=by show ns'=r;rw[←HS.out,List.drop_length];simp[vsT]
   go_wp2;go_end0;rw[←HV2.out];exact⟨⟨_,rfl⟩,_,HV'.out⟩
def szD(d:Nat)(e:E):Nat:=(Zg d e).length
def szL(d:Nat)(l:List X):Nat:=(l.flatMap (fun x=>Zg d x.e)).length
theorem Zgv(d:Nat)(l m:List X):szL d (l++m)=szL d l+szL d m:=by simp[szL,List.flatMap_append]
theorem ZkZ{d:Nat}{x:X}{K:List X}(hK:K.map X.e=x.e.kids):szL (d+1) [x]=1+szL d K:=by
 unfold szL;have:K.flatMap (fun x=>Zg d x.e)=x.e.kids.flatMap (Zg d):=by rw[←hK,List.flatMap_map]
 rw[this];simp only[List.flatMap_cons,List.flatMap_nil,List.append_nil,Zao,List.length_cons];omega
theorem Zdo(d:Nat)(e:E)(a:Option Addr)(c:Nat)(w:World)(hE:EIs w d e a c)(lf:Nat)(hlf:lf≤1048576) :
  Calls Tryz.prog 216 #[e.val a c,.int .i64 (lf:Int)] w fun r w'=>∃n:Int,r=.returned (.int .i64 n)∧Below w.heap.size w w'∧(0≤n∧n≤(lf:Int)+1)∧(n≤(lf:Int)→ZZ d e∧(szD d e:Int)≤n):=by
 obtain⟨i0,hi0,hz0,hz1,hz2⟩:=info_parts ZpP;have BA:=(Below.refl w.heap.size w).alloc (Nat.le_refl _) (.cells #[.int .i8 e.op,.string e.t.v,.int .i8 e.t.a.k,.int .i64 e.t.a.n,.string e.t.a.s,.slice a e.kids.length c] 103);have HL0:Hid (Lx _ (.slice (some ⟨w.heap.size+1,0,none⟩) 1 1) d [⟨e,a,c⟩]):=Zqm (w.alloc (.cells #[.int .i8 e.op,.string e.t.v,.int .i8 e.t.a.k,.int .i64 e.t.a.n,.string e.t.a.s,.slice a e.kids.length c] 103)) (by simp) ⟨e,a,c⟩ d (hE.below BA)
 have HB0:Hid (Below w.heap.size w _):=BA.alloc BA.size (.cells #[.int .i8 e.op,.string e.t.v,.int .i8 e.t.a.k,.int .i64 e.t.a.n,.string e.t.a.s,.slice a e.kids.length c] 103);clear hE BA;unfold E.val;go_enter Tryz.func216,Tryz.ntmps216;go_wp2;go_loopw [5,6,7] (fun n lv dp wr=>∃(nn dd dpt:Nat) (L:List X),n=.int .i64 nn∧dp=.int .i64 dd∧nn≤lf∧L.length≤1048576∧dd≤65537∧Below w.heap.size w wr∧Hid (Lx wr lv dpt L)∧Hid (((∀x∈L,ZZ dpt x.e)→ZZ d e)∧szD d e=nn+szL dpt L)) (fun _ _ dp _=>70000-(intOf dp).toNat)
 case atStart=>exact⟨0,0,d,[⟨e,a,c⟩],rfl,rfl,by omega,by simp,by omega,HB0.out,HL0.out,⟨fun h=>h ⟨e,a,c⟩ (by simp),by simp[szL,szD]⟩⟩
 case round=>
  obtain⟨nn,dd,dpt,L,rfl,rfl,hnn,hLl,hdd,bel,HLx,HSm⟩:=hrel;obtain⟨la,lc,rfl,hlc1,hlc2,hat⟩:=HLx.out.form;clear HL0 HB0
  by_cases hL0:0<L.length
  ·have hL0':(0:Int)<(L.length:Int):=by omega
   obtain⟨lg,lo,rfl,hlg,hLat⟩:=hat hL0;have HAT:Hid _:=hLat;clear hat hLat
   by_cases hbig:nn+L.length>lf
   ·have hb1:(lf:Int)<(nn:Int)+(L.length:Int):=by omega
    go_wp2;go_ret;exact⟨_,rfl,bel,⟨by omega,by omega⟩,fun h=>absurd h (by omega)⟩
   ·have hb1:¬ (lf:Int)<(nn:Int)+(L.length:Int):=by omega
    by_cases hdeep:dd>65536
    ·have hd1:(65536:Int)<(dd:Int):=by omega
     go_wp2;go_ret;exact⟨_,rfl,bel,⟨by omega,by omega⟩,fun h=>absurd h (by omega)⟩
    ·have hd1:¬ (65536:Int)<(dd:Int):=by omega
     cases dpt with
     | zero=>exact absurd (HLx.out.each L[0] (List.getElem_mem hL0)) (fun h=>h)
     | succ dp=>
     obtain⟨W1,rfl⟩:∃W1,W1=wr:=⟨_,rfl⟩;obtain⟨M,hM⟩:∃M:Nat,nn+L.length=M:=⟨_,rfl⟩;have hM1:(nn:Int)+(L.length:Int)=(M:Int):=by omega
     have hM2:M≤lf:=by omega
     have HEa:Hid _:=HLx.out.each;have hM3:¬ (lf:Int)<(M:Int):=by omega
     clear hb1 hbig HLx hM;go_wp2;go_loopw [8,9] (fun nx i wr2=>∃(k:Nat) (N:List X),k≤L.length∧i=.int .i64 k∧M+N.length≤lf∧Below W1.heap.size W1 wr2∧Hid (wr2.ownsRow W1.heap.size 103 6 nx N.length (N.flatMap X.cells))∧Hid (∀x∈N,EIs W1 dp x.e x.a x.c)∧Hid (((∀x∈N,ZZ dp x.e)→∀x∈L.take k,ZZ (dp+1) x.e)∧szL (dp+1) (L.take k)=k+szL dp N)) (fun _ i _=>L.length-(intOf i).toNat)
     case atStart=>exact⟨0,[],Nat.zero_le _,rfl,by simpa using hM2,Below.refl _ _,⟨rfl,.inl ⟨rfl,rfl⟩⟩,fun x hx=>by simp at hx,⟨fun _ x hx=>by simp at hx,by simp[szL]⟩⟩
     case round=>
      obtain⟨k,N,hk,rfl,hN,bel2,HO,HEN,HSN⟩:=hrel;obtain⟨na,nc,rfl,hnl⟩:=ZB HO.out
      by_cases hlt:k<L.length
      ·have hlt':(k:Int)<(L.length:Int):=by omega
       have x5:=((HAT.out k hlt).below bel2 hlg).c5;have HEx:Hid (EIs W1 (dp+1) (atX L k).e (atX L k).a (atX L k).c):=by rw[ZeW hlt];exact HEa.out _ (List.getElem_mem hlt)
       have HTk:Hid (L.take (k+1)=L.take k++[atX L k]):=by show _=_;rw[List.take_add_one,List.getElem?_eq_getElem hlt,ZeW hlt];rfl
       have hlt0:=hlt;obtain⟨x,hxx⟩:∃x,atX L k=x:=⟨_,rfl⟩;rw[hxx]at x5 HEx HTk;have HXe:Hid _:=hxx;clear hxx;obtain⟨hxo,hxt,hxc1,hxc2,hxk⟩:=HEx.out;have hkl:=hxo.2;have HXK:Hid _:=hxk;clear hxk hxo hxt HEx
       by_cases hbk:M+N.length+x.e.kids.length>lf
       ·have hb1:(lf:Int)<(M:Int)+(N.length:Int)+(x.e.kids.length:Int):=by omega
        go_wp2;go_ret;exact⟨_,rfl,bel.trans (bel2.mono bel.size),⟨by omega,by omega⟩,fun h=>absurd h (by omega)⟩
       ·have hb1:¬ (lf:Int)<(M:Int)+(N.length:Int)+(x.e.kids.length:Int):=by omega
        have hkb:M+N.length+x.e.kids.length≤lf:=by omega
        clear hbk;go_wp2;obtain⟨W2,rfl⟩:∃W2,W2=wr:=⟨_,rfl⟩;go_loopw [8,10] (fun nx i wr3=>∃(m:Nat) (K:List X),m≤x.e.kids.length∧i=.int .i64 m∧Below W1.heap.size W1 wr3∧Hid (K.map X.e=x.e.kids.take m)∧Hid (wr3.ownsRow W1.heap.size 103 6 nx (N++K).length ((N++K).flatMap X.cells))∧Hid (∀y∈N++K,EIs W1 dp y.e y.a y.c)) (fun _ i _=>x.e.kids.length-(intOf i).toNat)
        case atStart=>exact⟨0,[],Nat.zero_le _,rfl,bel2,by simp[Hid],by simp only[List.append_nil];exact HO.out,by simp only[List.append_nil];exact HEN.out⟩
        case round=>
         obtain⟨m,K,hm,rfl,bel3,HKm,HO3,HE3⟩:=hrel;have hKl:K.length=m:=by have:=congrArg List.length HKm.out;rw[List.length_map,List.length_take]at this;omega
         obtain⟨na3,nc3,rfl,hnl3⟩:=ZB HO3.out;have z5:=((HAT.out k hlt0).below bel3 hlg).c5;rw[HXe.out]at z5
         by_cases hmt:m<x.e.kids.length
         ·have hmt':(m:Int)<(x.e.kids.length:Int):=by omega
          obtain⟨g3,o3,hxa,hg3,hKS⟩:=HXK.out (by omega);obtain⟨a3,c3,hy,hyE⟩:=hKS m hmt;obtain⟨y0,y1,y2,y3,y4,y5⟩:=hy.below bel3 hg3;rw[hxa]at z5;clear hxa;have HKn:Hid (x.e.kids.take (m+1)=x.e.kids.take m++[atE x.e.kids m]):=by show _=_;rw[List.take_add_one,List.getElem?_eq_getElem hmt,ZbO hmt];rfl
          generalize atE x.e.kids m=ke at y0 y1 y2 y3 y4 y5 hyE HKn;have HyE:Hid _:=hyE;have hnk:(N++K).length≤1048576:=by rw[List.length_append];omega
          have hflat:=ZdC (N++K);obtain⟨fl,hfl⟩:∃fl,(N++K).flatMap X.cells=fl:=⟨_,rfl⟩;obtain⟨nl,hnl⟩:∃nl,(N++K).length=nl:=⟨_,rfl⟩;rw[hfl,hnl]at HO3;rw[hnl]at hnk hflat;rw[hfl]at hflat;have HFL:Hid _:=hfl;have HNL:Hid _:=hnl;have hnk':(nl:Int)<1048577:=by omega
          have HB3:Hid (Below W1.heap.size W1 _):=bel3.alloc bel3.size (.cells #[.int .i8 ke.op,.string ke.t.v,.int .i8 ke.t.a.k,.int .i64 ke.t.a.n,.string ke.t.a.s,.slice a3 ke.kids.length c3] 103);rw[hnl];clear hKS hy hyE hfl hnl hflat
          go_wp2_with (first
           | (at_builtin;refine wpList_append_own_at _ rfl _ _ 101 rfl W1.heap.size 103 i0 _ 6 80 Tryz.underlying101 hi0 hz0 hz1 hz2 rfl (by decide) _ _ _ rfl (Zn HO3.out ((Below.refl _ _).alloc (Nat.le_refl _) _)) ⟨wr.heap.size,0,none⟩ 1 1 [.int .i8 ke.op,.string ke.t.v,.int .i8 ke.t.a.k,.int .i64 ke.t.a.n,.string ke.t.a.s,.slice a3 ke.kids.length c3] rfl rfl (ZR wr #[.int .i8 ke.op,.string ke.t.v,.int .i8 ke.t.a.k,.int .i64 ke.t.a.n,.string ke.t.a.s,.slice a3 ke.kids.length c3] _) (by simp[Value.oneCell']) (by unfold maxLen;omega) (by omega) (by have:=bel3.size;simp;omega) ?_;intro v' w2 hown' hgrow hnil hloc)
           | fail)
          have hB4:Below W1.heap.size W1 w2:=HB3.out.grown hgrow (by have:=bel3.size;simp;omega) (fun q hq=>(HO3.out.lt q hq).1)
          have hO4:w2.ownsRow W1.heap.size 103 6 v' (N++(K++[(⟨ke,a3,c3⟩:X)])).length ((N++(K++[(⟨ke,a3,c3⟩:X)])).flatMap X.cells):=by
           rw[←List.append_assoc,List.flatMap_append,HFL.out,List.length_append,HNL.out];exact hown'
          go_roundw
          case rel=>exact⟨m+1,K++[(⟨ke,a3,c3⟩:X)],by omega,by go_num,hB4,by show _=_;rw[List.map_append,HKm.out,HKn.out];rfl,hO4,fun y hy=>by
           rw[←List.append_assoc,List.mem_append]at hy;rcases hy with hy | hy
           ·exact HE3.out y hy
           ·obtain rfl:=List.mem_singleton.1 hy;exact HyE.out⟩
          case measure=>simp[intOf];omega
         ·obtain rfl:m=x.e.kids.length:=by omega
          rw[List.take_length]at HKm
          have HSn:Hid (((∀y∈N++K,ZZ dp y.e)→∀y∈L.take (k+1),ZZ (dp+1) y.e)∧szL (dp+1) (L.take (k+1))=(k+1)+szL dp (N++K)):=by
           refine⟨fun h y hy=>?_,?_⟩
           ·rw[HTk.out,List.mem_append]at hy;rcases hy with hy | hy
            ·exact HSN.out.1 (fun z hz=>h z (List.mem_append_left _ hz)) y hy
            ·obtain rfl:=List.mem_singleton.1 hy;exact ZkY (by omega) HKm.out (fun z hz=>h z (List.mem_append_right _ hz))
           ·rw[HTk.out,Zgv,Zgv,HSN.out.2,ZkZ HKm.out];omega
          go_wp2;go_roundw
          case rel=>exact⟨k+1,N++K,by omega,by go_num,by rw[List.length_append];omega,bel3,HO3.out,HE3.out,HSn.out⟩
          case measure=>simp[intOf];omega
      ·obtain rfl:k=L.length:=by omega
       have HFin:Hid (((∀x∈N,ZZ dp x.e)→ZZ d e)∧szD d e=M+szL dp N):=by
        refine⟨fun h=>HSm.out.1 (by have:=HSN.out.1 h;rwa [List.take_length]at this),?_⟩;have h1:=HSm.out.2;have h2:=HSN.out.2;rw[List.take_length]at h2;rw[h1,h2];omega
       have HLN:Hid (Lx wr (.slice na N.length nc) dp N):=⟨ZY HO.out,fun x hx=>(HEN.out x hx).below bel2⟩;go_wp2;go_roundw
       case rel=>exact⟨M,dd+1,dp,N,rfl,by go_num,hM2,by omega,by omega,bel.trans (bel2.mono bel.size),HLN,HFin⟩
       case measure=>simp[intOf];omega
  ·have hL0':¬ (0:Int)<(L.length:Int):=by omega
   have HN:Hid (ZZ d e∧szD d e=nn):=by
    refine⟨HSm.out.1 (fun x hx=>absurd (List.length_pos_of_mem hx) hL0),?_⟩;have h1:=HSm.out.2;obtain rfl:L=[]:=List.length_eq_zero_iff.1 (by omega);rw[h1];simp[szL]
   clear hat;go_wp2;go_ret;exact⟨_,rfl,bel,⟨by omega,by omega⟩,fun _=>⟨HN.out.1,by rw[HN.out.2];omega⟩⟩
end
end Go.Proofs.YtjdnpgpbeppgjaaGreatDoor
namespace Go.Proofs
section
open Go.Shelf
def Tryz.laysM246_ren:Go.Shelf.Ren:=⟨fun | 246=>310 | 283=>328 | 284=>329 | 285=>330 | 286=>331 | 129=>345 | 317=>344 | 318=>346 | 319=>347 | 320=>348 | 337=>302 | 338=>351 | n=>n,fun | 2=>2 | 3=>3 | 9=>9 | 4=>4 | 171=>431 | 0=>0 | 53=>432 | 37=>435 | 5=>5 | 173=>436 | 212=>440 | 51=>81 | 20=>20 | 213=>441 | 46=>376 | 232=>428 | 233=>443 | n=>n,fun | 17=>2 | 18=>1 | 19=>3 | n=>n⟩
def Tryz.laysM243_ren:Go.Shelf.Ren:=⟨fun | 243=>278 | 246=>310 | 283=>328 | 284=>329 | 285=>330 | 286=>331 | 129=>345 | 317=>344 | 318=>346 | 319=>347 | 320=>348 | 337=>302 | 338=>351 | n=>n,fun | 3=>3 | 9=>9 | 2=>2 | 4=>4 | 171=>431 | 0=>0 | 53=>432 | 37=>435 | 5=>5 | 173=>436 | 212=>440 | 51=>81 | 20=>20 | 213=>441 | 46=>376 | 232=>428 | 233=>443 | n=>n,fun | 17=>2 | 18=>1 | 19=>3 | n=>n⟩
def Tryz.laysM171_ren:Go.Shelf.Ren:=⟨fun | 171=>219 | 243=>278 | 246=>310 | 283=>328 | 284=>329 | 285=>330 | 286=>331 | 129=>345 | 317=>344 | 318=>346 | 319=>347 | 320=>348 | 337=>302 | 338=>351 | n=>n,fun | 3=>3 | 9=>9 | 2=>2 | 4=>4 | 171=>431 | 0=>0 | 53=>432 | 37=>435 | 5=>5 | 173=>436 | 212=>440 | 51=>81 | 20=>20 | 213=>441 | 46=>376 | 232=>428 | 233=>443 | n=>n,fun | 17=>2 | 18=>1 | 19=>3 | n=>n⟩
theorem Tryz.laysM171:Go.Proofs.LaysM.n171 Tryz.prog Tryz.laysM171_ren:={
 mixed:=by kernel_rfl
 f129:=Tryz.func345.trans (congrArg some (by kernel_rfl))
 f171:=Tryz.func219.trans (congrArg some (by kernel_rfl))
 f243:=Tryz.func278.trans (congrArg some (by kernel_rfl))
 f246:=Tryz.func310.trans (congrArg some (by kernel_rfl))
 f283:=Tryz.func328.trans (congrArg some (by kernel_rfl))
 f284:=Tryz.func329.trans (congrArg some (by kernel_rfl))
 f285:=Tryz.func330.trans (congrArg some (by kernel_rfl))
 f286:=Tryz.func331.trans (congrArg some (by kernel_rfl))
 f317:=Tryz.func344.trans (congrArg some (by kernel_rfl))
 f318:=Tryz.func346.trans (congrArg some (by kernel_rfl))
 f319:=Tryz.func347.trans (congrArg some (by kernel_rfl))
 f320:=Tryz.func348.trans (congrArg some (by kernel_rfl))
 f337:=Tryz.func302.trans (congrArg some (by kernel_rfl))
 f338:=Tryz.func351.trans (congrArg some (by kernel_rfl))
 t0:=Tryz.underlying0
 a0:=Tryz.isAgg0
 z0:=Tryz.sizeOf0
 v0:=Tryz.zeroValue0
 t2:=Tryz.underlying2
 a2:=Tryz.isAgg2
 z2:=Tryz.sizeOf2
 v2:=Tryz.zeroValue2
 t3:=Tryz.underlying3
 a3:=Tryz.isAgg3
 z3:=Tryz.sizeOf3
 v3:=Tryz.zeroValue3
 t4:=Tryz.underlying4
 a4:=Tryz.isAgg4
 z4:=Tryz.sizeOf4
 v4:=Tryz.zeroValue4
 t5:=Tryz.underlying5
 a5:=Tryz.isAgg5
 z5:=Tryz.sizeOf5
 v5:=Tryz.zeroValue5
 t9:=Tryz.underlying9
 a9:=Tryz.isAgg9
 z9:=Tryz.sizeOf9
 v9:=Tryz.zeroValue9
 t20:=Tryz.underlying20
 a20:=Tryz.isAgg20
 z20:=Tryz.sizeOf20
 v20:=Tryz.zeroValue20
 t37:=Tryz.underlying435
 a37:=Tryz.isAgg435
 z37:=Tryz.sizeOf435
 v37:=Tryz.zeroValue435
 t46:=Tryz.underlying376
 a46:=Tryz.isAgg376
 z46:=Tryz.sizeOf376
 v46:=Tryz.zeroValue376
 t51:=Tryz.underlying81
 a51:=Tryz.isAgg81
 z51:=Tryz.sizeOf81
 v51:=Tryz.zeroValue81
 t53:=Tryz.underlying432
 a53:=Tryz.isAgg432
 z53:=Tryz.sizeOf432
 v53:=Tryz.zeroValue432
 t171:=Tryz.underlying431
 a171:=Tryz.isAgg431
 z171:=Tryz.sizeOf431
 v171:=Tryz.zeroValue431
 t173:=Tryz.underlying436
 a173:=Tryz.isAgg436
 z173:=Tryz.sizeOf436
 v173:=Tryz.zeroValue436
 t212:=Tryz.underlying440
 a212:=Tryz.isAgg440
 z212:=Tryz.sizeOf440
 v212:=Tryz.zeroValue440
 t213:=Tryz.underlying441
 a213:=Tryz.isAgg441
 z213:=Tryz.sizeOf441
 t232:=Tryz.underlying428
 a232:=Tryz.isAgg428
 z232:=Tryz.sizeOf428
 v232:=Tryz.zeroValue428
 t233:=Tryz.underlying443
 a233:=Tryz.isAgg443
 z233:=Tryz.sizeOf443
 v233:=Tryz.zeroValue443
 g17:=by kernel_rfl
 g18:=by kernel_rfl
 g19:=by kernel_rfl
 i0:=by kernel_rfl
 i2:=by kernel_rfl
 i3:=by kernel_rfl
 i4:=by kernel_rfl
 i5:=by kernel_rfl
 i9:=by kernel_rfl
 i20:=by kernel_rfl
 i37:=by kernel_rfl
 i46:=by kernel_rfl
 i51:=by kernel_rfl
 i53:=by kernel_rfl
 i171:=by kernel_rfl
 i173:=by kernel_rfl
 i212:=by kernel_rfl
 i232:=by kernel_rfl
 i233:=by kernel_rfl
 m17:=by kernel_rfl
 m18:=by kernel_rfl
 m19:=by kernel_rfl}
open Go.RowKit Go.Sort Go.Lib in
theorem Tryz.strconv_Itoa(n:Int)(h0 : -9223372036854775808≤n)(h1:n≤9223372036854775807)(w:World)(htab:Lib.TabIs Tryz.prog w "internal/strconv.uint64pow10" .u64 Lib.pow10Tab) :
  Calls Tryz.prog 219 #[.int .i64 n] w fun e w'=>e=.returned (.string ⟨(Lib.itoa n).toArray⟩)∧∃k os,w'=grow (w.drewN k) os:=Any.strconv_Itoa Tryz.laysM171 n h0 h1 w htab
end
end Go.Proofs
namespace Go.Proofs.YtjdnpgpbeppgjaaGreatDoor
section
open Go.RowKit Go.Maps
theorem Zq{W W':World}{name:String}{k:IntKind}{zs:List Int}(h:Lib.TabIs Tryz.prog W name k zs)(hb:Below W.heap.size W W'):Lib.TabIs Tryz.prog W' name k zs:=by
 unfold Lib.TabIs World.var? at h⊢
 cases hg:Tryz.prog.globalNamed name with
 | none=>rw[hg]at h;cases h
 | some g=>
  rw[hg]at h;simp only[Option.bind_some]at h⊢
  have hlt:g<W.heap.size:=by
   by_cases hl:g<W.heap.size
   ·exact hl
   ·rw[Array.getElem?_eq_none (by omega)]at h;cases h
  rw[hb.block g hlt];exact h
end
end Go.Proofs.YtjdnpgpbeppgjaaGreatDoor
