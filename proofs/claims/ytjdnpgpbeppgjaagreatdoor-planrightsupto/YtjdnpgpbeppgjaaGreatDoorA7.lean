import Derived.Test.YtjdnpgpbeppgjaaGreatDoorA6
import Derived.Deep.MidRow
import Derived.Deep.WholeRow
set_option linter.unusedSimpArgs false
set_option linter.unusedVariables false
set_option maxHeartbeats 3200000
namespace Go.Proofs.YtjdnpgpbeppgjaaGreatDoor
section
open Go.RowKit Go.Maps
attribute [local go_sem ↓] Go.wp_at_zero Go.wp_at_succ
theorem EIs.len{w:World}{d:Nat}{e:E}{a:Option Addr}{c:Nat}(h:EIs w d e a c):e.kids.length≤281474976710656:=by
 cases d with
 | zero=>exact h.elim
 | succ d=>exact h.1.2
theorem ZgV{w:World}{d:Nat}{x:Lit4}{p:LP}(h:LIs w d x p):∀t∈Zl d x,t.wf:=by
 intro t ht;unfold Zl at ht;rcases List.mem_append.1 ht with h1 | h1
 ·exact h.ts.wf t h1
 ·rcases List.mem_append.1 h1 with h2 | h2
  ·exact Zbm d _ _ _ h.l t h2
  ·exact Zbm d _ _ _ h.r t h2
theorem ZeY{ts:List T}{k:Nat}(h:k<ts.length):(ts.take (k+1)).flatMap T.cells=(ts.take k).flatMap T.cells++T.cells (atT ts k):=by
 rw[List.take_succ_eq_append_getElem h,List.flatMap_append,ZcQ h];simp
theorem ZeF(d:Nat)(x:Lit4)(p:LP)(w:World)(hL:LIs w d x p)(hs:x.ts.length≤1048576)(hl:szD d x.l≤1048576)(hr:szD d x.r≤1048576) :
  Calls Tryz.prog 225 #[.slice none 0 0,x.val p] w fun r w'=>∃sv,r=.returned sv∧Ls w' sv (Zl d x).length ((Zl d x).flatMap T.cells)∧Below w.heap.size w w':=by
 obtain⟨i0,hi0,hz0,hz1,hz2⟩:=info_parts ZiE;have HB0:Hid (Below w.heap.size w (w.alloc (.cells #[.int .i8 x.k,.string x.pr,.slice p.a x.ts.length p.c,.int .i8 x.rel,.int .i8 x.l.op,.string x.l.t.v,.int .i8 x.l.t.a.k,.int .i64 x.l.t.a.n,.string x.l.t.a.s,.slice p.la x.l.kids.length p.lc,.int .i8 x.r.op,.string x.r.t.v,.int .i8 x.r.t.a.k,.int .i64 x.r.t.a.n,.string x.r.t.a.s,.slice p.ra x.r.kids.length p.rc] 105))):=(Below.refl _ _).alloc (Nat.le_refl _) _
 have HRL:Hid (RL (w.alloc (.cells #[.int .i8 x.k,.string x.pr,.slice p.a x.ts.length p.c,.int .i8 x.rel,.int .i8 x.l.op,.string x.l.t.v,.int .i8 x.l.t.a.k,.int .i64 x.l.t.a.n,.string x.l.t.a.s,.slice p.la x.l.kids.length p.lc,.int .i8 x.r.op,.string x.r.t.v,.int .i8 x.r.t.a.k,.int .i64 x.r.t.a.n,.string x.r.t.a.s,.slice p.ra x.r.kids.length p.rc] 105)) w.heap.size 105 [.int .i8 x.k,.string x.pr,.slice p.a x.ts.length p.c,.int .i8 x.rel,.int .i8 x.l.op,.string x.l.t.v,.int .i8 x.l.t.a.k,.int .i64 x.l.t.a.n,.string x.l.t.a.s,.slice p.la x.l.kids.length p.lc,.int .i8 x.r.op,.string x.r.t.v,.int .i8 x.r.t.a.k,.int .i64 x.r.t.a.n,.string x.r.t.a.s,.slice p.ra x.r.kids.length p.rc]):=Zk w #[.int .i8 x.k,.string x.pr,.slice p.a x.ts.length p.c,.int .i8 x.rel,.int .i8 x.l.op,.string x.l.t.v,.int .i8 x.l.t.a.k,.int .i64 x.l.t.a.n,.string x.l.t.a.s,.slice p.la x.l.kids.length p.lc,.int .i8 x.r.op,.string x.r.t.v,.int .i8 x.r.t.a.k,.int .i64 x.r.t.a.n,.string x.r.t.a.s,.slice p.ra x.r.kids.length p.rc] 105
 have HLI:Hid (LIs (w.alloc (.cells #[.int .i8 x.k,.string x.pr,.slice p.a x.ts.length p.c,.int .i8 x.rel,.int .i8 x.l.op,.string x.l.t.v,.int .i8 x.l.t.a.k,.int .i64 x.l.t.a.n,.string x.l.t.a.s,.slice p.la x.l.kids.length p.lc,.int .i8 x.r.op,.string x.r.t.v,.int .i8 x.r.t.a.k,.int .i64 x.r.t.a.n,.string x.r.t.a.s,.slice p.ra x.r.kids.length p.rc] 105)) d x p):=hL.below HB0.out;have HTM:Hid (x.ts++(Zg d x.l++Zg d x.r)=Zl d x):=rfl
 obtain⟨tm,htm⟩:∃tm,Zl d x=tm:=⟨_,rfl⟩;rw[htm]at HTM⊢;have HSZ:Hid (szD d x.l≤1048576∧szD d x.r≤1048576):=⟨hl,hr⟩;clear hL hl hr htm;unfold Lit4.val;go_enter Tryz.func225,Tryz.ntmps225;go_upto_region 1 with fail
 generalize w.alloc (.cells #[.int .i8 x.k,.string x.pr,.slice p.a x.ts.length p.c,.int .i8 x.rel,.int .i8 x.l.op,.string x.l.t.v,.int .i8 x.l.t.a.k,.int .i64 x.l.t.a.n,.string x.l.t.a.s,.slice p.la x.l.kids.length p.lc,.int .i8 x.r.op,.string x.r.t.v,.int .i8 x.r.t.a.k,.int .i64 x.r.t.a.n,.string x.r.t.a.s,.slice p.ra x.r.kids.length p.rc] 105)=W at HB0 HRL HLI⊢;obtain⟨a1,c1,e1,hc1,hc2,hat⟩:=HLI.out.ts.form
 cases e1
 have HAT:Hid _:=hat;have hbW:w.heap.size<W.heap.size:=World.rowIs.lt HRL.out;have HRu:Hid (∀u,Below W.heap.size W u→RL u w.heap.size 105 [.int .i8 x.k,.string x.pr,.slice p.a x.ts.length p.c,.int .i8 x.rel,.int .i8 x.l.op,.string x.l.t.v,.int .i8 x.l.t.a.k,.int .i64 x.l.t.a.n,.string x.l.t.a.s,.slice p.la x.l.kids.length p.lc,.int .i8 x.r.op,.string x.r.t.v,.int .i8 x.r.t.a.k,.int .i64 x.r.t.a.n,.string x.r.t.a.s,.slice p.ra x.r.kids.length p.rc]):=fun u hu=>RL.below HRL.out hu
 clear hat;go_wp2;go_loopw [0,5] (fun lv i wr=>∃(k:Nat) (a':Option Addr) (c':Nat),k≤x.ts.length∧i=.int .i64 k∧lv=.slice a' k c'∧Hid (wr.ownsRow W.heap.size 100 4 (.slice a' k c') k ((x.ts.take k).flatMap T.cells))∧Below W.heap.size W wr) (fun _ i _=>x.ts.length-(intOf i).toNat)
 case atStart=>exact⟨0,none,0,Nat.zero_le _,rfl,rfl,World.ownsRow_nil _ _ _ _,Below.refl _ _⟩
 case round=>
  obtain⟨k,a',c',hk,rfl,rfl,HO,bel⟩:=hrel;have hR:=HRu.out wr bel
  by_cases hlt:k<x.ts.length
  ·have hlt':(k:Int)<(x.ts.length:Int):=by omega
   have hk0:(0:Int)≤(k:Int):=by omega
   obtain⟨g,off,hpa,hg,hT⟩:=HAT.out (by omega);have y2:=hR.at (j:=2) rfl;rw[hpa]at y2;obtain⟨x0,x1,x2,x3⟩:=(hT k hlt).below bel hg;have HTK:Hid _:=ZeY hlt;generalize atT x.ts k=t at x0 x1 x2 x3 HTK;have hzw:=bel.size;clear hT hpa hR;go_wp2_with (at_builtin;refine wpList_append_own_at _ rfl _ _ 91 rfl W.heap.size 100 i0 _ 4 48 Tryz.underlying91 hi0 hz0 hz1 hz2 rfl (by decide) _ _ _ rfl (Zn HO.out ((Below.refl _ _).alloc (Nat.le_refl _) _)) ⟨_,0,none⟩ 1 1 [.string t.v,.int .i8 t.a.k,.int .i64 t.a.n,.string t.a.s] rfl rfl (ZR _ #[.string t.v,.int .i8 t.a.k,.int .i64 t.a.n,.string t.a.s] _) (by simp[Value.oneCell']) (by unfold maxLen;omega) (by omega) (by simp;omega) ?_;intro v' w2 hown' hgrow hnil hloc)
   obtain⟨a2,c2,rfl,_⟩:=ZB hown';go_roundw
   case rel=>exact⟨k+1,a2,c2,by omega,by go_num,rfl,by show World.ownsRow _ _ _ _ _ _ _;rw[HTK.out];exact hown',(bel.alloc bel.size _).grown hgrow (by simp;omega) (fun j hj=>(HO.out.lt j hj).1)⟩
   case measure=>simp[intOf];omega
  ·obtain rfl:k=x.ts.length:=by omega
   rw[List.take_length]at HO;have y4:=hR.at (j:=4) rfl;have y5:=hR.at (j:=5) rfl;have y6:=hR.at (j:=6) rfl;have y7:=hR.at (j:=7) rfl;have y8:=hR.at (j:=8) rfl;have y9:=hR.at (j:=9) rfl;have y2:=hR.at (j:=2) rfl;have hzw:=bel.size;have HX1:Hid _:=Za9 (w0:=W) d x.l p.la p.lc (.slice a' x.ts.length c') x.ts wr HLI.out.l bel hzw HO.out (by have:=HSZ.out.1;omega);unfold E.val at HX1;clear hR;go_wp2_with fail
   refine Calls.mono HX1.out ?_;rintro ee w1 ⟨sv1,rfl,ho1,hg1⟩;have bel1:Below W.heap.size W w1:=bel.grown hg1.gr hzw (fun j hj=>(HO.out.lt j hj).1);have hm3:x.ts++Zg d x.l++Zg d x.r=tm:=by rw[List.append_assoc];exact HTM.out
   have hm4:(x.ts++Zg d x.l).length≤3000000:=by have:=HSZ.out.1;unfold szD at this;rw[List.length_append];omega
   generalize x.ts++Zg d x.l=m1 at ho1 hm3 hm4;have HM3:Hid (m1++Zg d x.r=tm):=hm3;clear hm3;have HO1:Hid _:=ho1;obtain⟨b1,d1,rfl,_⟩:=ZB ho1;have hR1:=HRu.out w1 bel1;have z10:=hR1.at (j:=10) rfl;have z11:=hR1.at (j:=11) rfl;have z12:=hR1.at (j:=12) rfl;have z13:=hR1.at (j:=13) rfl;have z14:=hR1.at (j:=14) rfl;have z15:=hR1.at (j:=15) rfl;have hzw1:=bel1.size;have HX2:Hid _:=Za9 (w0:=W) d x.r p.ra p.rc _ m1 w1 HLI.out.r bel1 hzw1 HO1.out (by have:=HSZ.out;omega)
   unfold E.val at HX2;clear hR1 HX1 hg1 ho1 y2 y4 y5 y6 y7 y8 y9;go_wp2_with fail;refine Calls.mono HX2.out ?_;rintro ee w2 ⟨sv2,rfl,ho2,hg2⟩;have bel2:Below W.heap.size W w2:=bel1.grown hg2.gr hzw1 (fun j hj=>(World.ownsRow.lt HO1.out j hj).1);clear z10 z11 z12 z13 z14 z15 HX2 hg2;rw[HM3.out]at ho2;go_wp2;go_ret;exact⟨_,rfl,ZY ho2,HB0.out.trans (bel2.mono HB0.out.size)⟩
theorem Zcp(d:Nat)(x:Lit4)(p:LP)(w:World)(hL:LIs w d x p)(hs:x.ts.length≤1048576)(hl:szD d x.l≤1048576)(hr:szD d x.r≤1048576):Calls Tryz.prog 93 #[x.val p] w fun r w'=>∃sv,r=.returned sv∧Ls w' sv (vsT [] (Zl d x)).length ((vsT [] (Zl d x)).flatMap Zm)∧Below w.heap.size w w':=by
 have BA:=(Below.refl w.heap.size w).alloc (Nat.le_refl _) (.cells #[.int .i8 x.k,.string x.pr,.slice p.a x.ts.length p.c,.int .i8 x.rel,.int .i8 x.l.op,.string x.l.t.v,.int .i8 x.l.t.a.k,.int .i64 x.l.t.a.n,.string x.l.t.a.s,.slice p.la x.l.kids.length p.lc,.int .i8 x.r.op,.string x.r.t.v,.int .i8 x.r.t.a.k,.int .i64 x.r.t.a.n,.string x.r.t.a.s,.slice p.ra x.r.kids.length p.rc] 105);have HT:Hid _:=ZeF d x p (w.alloc (.cells #[.int .i8 x.k,.string x.pr,.slice p.a x.ts.length p.c,.int .i8 x.rel,.int .i8 x.l.op,.string x.l.t.v,.int .i8 x.l.t.a.k,.int .i64 x.l.t.a.n,.string x.l.t.a.s,.slice p.la x.l.kids.length p.lc,.int .i8 x.r.op,.string x.r.t.v,.int .i8 x.r.t.a.k,.int .i64 x.r.t.a.n,.string x.r.t.a.s,.slice p.ra x.r.kids.length p.rc] 105)) (hL.below BA) hs hl hr
 have HWF:Hid _:=ZgV hL;have HB:Hid (Below w.heap.size w (w.alloc (.cells #[.int .i8 x.k,.string x.pr,.slice p.a x.ts.length p.c,.int .i8 x.rel,.int .i8 x.l.op,.string x.l.t.v,.int .i8 x.l.t.a.k,.int .i64 x.l.t.a.n,.string x.l.t.a.s,.slice p.la x.l.kids.length p.lc,.int .i8 x.r.op,.string x.r.t.v,.int .i8 x.r.t.a.k,.int .i64 x.r.t.a.n,.string x.r.t.a.s,.slice p.ra x.r.kids.length p.rc] 105))):=BA
 have hs':(Zl d x).length≤4398046511104:=by unfold szD at hl hr;unfold Zl;simp only[List.length_append];omega
 unfold Lit4.val at HT⊢;obtain⟨ts,hts⟩:∃ts,Zl d x=ts:=⟨_,rfl⟩;rw[hts]at HT HWF hs'⊢;clear hL BA hs hl hr hts;go_enter Tryz.func93,Tryz.ntmps93;go_wp2_with fail;refine Calls.mono HT.out ?_;rintro ee w1 ⟨sv1,rfl,ho1,b1⟩;have HB1:Hid (Below w.heap.size w w1):=HB.out.trans (b1.mono HB.out.size);have HL1:Hid (Lt w1 sv1 ts):=⟨ho1,HWF.out⟩;clear ho1 b1;go_wp2_with fail;refine(Zgm sv1 ts w1 hs' HL1.out).mono ?_
 rintro ee w2 ⟨sv2,rfl,ho2,b2⟩;go_wp2;go_ret;exact⟨_,rfl,ZY ho2,HB1.out.trans (b2.mono HB1.out.size)⟩
end
section
open Go.RowKit Go.Maps
structure A5 where
 g:Int
 t:T
def A5.cells(x:A5):List Value:=[.int .i8 x.g,.string x.t.v,.int .i8 x.t.a.k,.int .i64 x.t.a.n,.string x.t.a.s]
structure A5.wf (x:A5):Prop where
 gb : -128≤x.g∧x.g≤127
 t:x.t.wf
def A50:A5:=⟨0,T0⟩
def atA(l:List A5)(i:Nat):A5:=l.getD i A50
theorem Zdj{l:List A5}{i:Nat}(h:i<l.length):atA l i=l[i]:=by simp[atA,List.getD,List.getElem?_eq_getElem h]
def XL0:XL:=⟨⟨0,noS,[],0,E0,E0⟩,⟨none,0,none,0,none,0⟩⟩
def atL(l:List XL)(i:Nat):XL:=l.getD i XL0
theorem ZS{l:List XL}{i:Nat}(h:i<l.length):atL l i=l[i]:=by simp[atL,List.getD,List.getElem?_eq_getElem h]
theorem Zu{w w':World}{g o:Nat}{cs:List Value}(h:w.rangeAt g o cs)(b:Below w.heap.size w w')(hg:g<w.heap.size):w'.rangeAt g o cs:=fun j v hv=>by
 rw[b.cell (p:=⟨g,o+j,none⟩) hg];exact h j v hv
theorem Zcg{w w':World}{g o:Nat}{cs:List Value}(h:w.rangeAt g o cs)(e:w'.heap[g]?=w.heap[g]?):w'.rangeAt g o cs:=fun j v hv=>by
 have:w'.cell? ⟨g,o+j,none⟩=w.cell? ⟨g,o+j,none⟩:=by unfold World.cell?;rw[e]
 rw[this];exact h j v hv
theorem Zem{α:Type}{f:α→List Value}{k:Nat}(hk:∀x,(f x).length=k)(z:α){w:World}{v:Value}{l:List α}(h:Ls w v l.length (l.flatMap f)) :
  ∃a c,v=.slice a l.length c∧l.length≤c∧c≤maxLen∧(0<l.length→∃g off,a=some ⟨g,off,none⟩∧g<w.heap.size∧∀i,i<l.length→w.rangeAt g (off+i*k) (f (l.getD i z))):=by
 obtain⟨hn,a,c,hv,h1,h2,hc⟩:=h;refine⟨a,c,hv,h1,h2,fun h0=>?_⟩;obtain⟨g,off,ha,hg,hf⟩:=hc h0;refine⟨g,off,ha,hg,fun i hi j u hu=>?_⟩;have hj:j<k:=by rw[←hk (l.getD i z)];exact(List.getElem?_eq_some_iff.1 hu).1
 have:=hf.elem hk z hi hj hu;rw[←Nat.add_assoc]at this;exact this
theorem ZaC{α:Type}{f:α→List Value}{k:Nat}(hk0:0<k)(hk:∀x,(f x).length=k)(z:α){w:World}{g c:Nat}{l:List α}(hc1:l.length≤c)(hc2:c≤maxLen)(hg:g<w.heap.size)(h:∀i,i<l.length→w.rangeAt g (i*k) (f (l.getD i z))) :
  Ls w (.slice (some ⟨g,0,none⟩) l.length c) l.length (l.flatMap f):=by
 refine⟨Nat.le_trans hc1 hc2,_,c,rfl,hc1,hc2,fun _=>⟨g,0,rfl,hg,fun i hi=>?_⟩⟩;have hl:=Zbt f k hk l;have hi2:i/k<l.length:=(Nat.div_lt_iff_lt_mul hk0).2 (by rw[←hl];exact hi);have hm:i % k<k:=Nat.mod_lt _ hk0;have hx:=ZaQ f k hk z l (i/k) (i % k) hi2 hm;have he:i/k*k+i % k=i:=by rw[Nat.mul_comm];exact Nat.div_add_mod i k
 rw[he,List.getElem?_eq_getElem hi]at hx;have:=h (i/k) hi2 (i % k) _ hx.symm;rw[he]at this;rw[Nat.zero_add];exact this
structure La (w:World) (v:Value) (l:List A5):Prop where
 lies:Ls w v l.length (l.flatMap A5.cells)
 wf:∀t∈l,t.wf
structure Lb (w:World) (v:Value) (d:Nat) (l:List XL):Prop where
 lies:Ls w v l.length (l.flatMap XL.cells)
 each:∀y∈l,LIs w d y.x y.p
theorem La.below{w w':World}{v:Value}{l:List A5}(h:La w v l)(b:Below w.heap.size w w'):La w' v l:=⟨h.lies.below b,h.wf⟩
theorem Lb.below{w w':World}{v:Value}{d:Nat}{l:List XL}(h:Lb w v d l)(b:Below w.heap.size w w'):Lb w' v d l:=⟨h.lies.below b,fun y hy=>(h.each y hy).below b⟩
theorem La.form{w:World}{v:Value}{l:List A5}(h:La w v l):∃a c,v=.slice a l.length c∧l.length≤c∧c≤maxLen∧(0<l.length→∃g off,a=some ⟨g,off,none⟩∧g<w.heap.size∧∀i,i<l.length→w.rangeAt g (off+i*5) (atA l i).cells):=Zem (f:=A5.cells) (k:=5) (fun _=>rfl) A50 h.lies
theorem Lb.form{w:World}{v:Value}{d:Nat}{l:List XL}(h:Lb w v d l):∃a c,v=.slice a l.length c∧l.length≤c∧c≤maxLen∧(0<l.length→∃g off,a=some ⟨g,off,none⟩∧g<w.heap.size∧∀i,i<l.length→w.rangeAt g (off+i*16) (atL l i).cells):=Zem (f:=XL.cells) (k:=16) (fun _=>rfl) XL0 h.lies
theorem La.at_wf{w:World}{v:Value}{l:List A5}(h:La w v l){i:Nat}(hi:i<l.length):(atA l i).wf:=by rw[Zdj hi];exact h.wf _ (List.getElem_mem hi)
theorem Lb.at_is{w:World}{v:Value}{d:Nat}{l:List XL}(h:Lb w v d l){i:Nat}(hi:i<l.length):LIs w d (atL l i).x (atL l i).p:=by rw[ZS hi];exact h.each _ (List.getElem_mem hi)
theorem ZmQ{w:World}{g o:Nat}{y:XL}(h:w.rangeAt g o y.cells):LAt w g o y.x y.p:=
 ⟨h 0 _ rfl,h 1 _ rfl,h 2 _ rfl,h 3 _ rfl,⟨h 4 _ rfl,h 5 _ rfl,h 6 _ rfl,h 7 _ rfl,h 8 _ rfl,h 9 _ rfl⟩,⟨h 10 _ rfl,h 11 _ rfl,h 12 _ rfl,h 13 _ rfl,h 14 _ rfl,h 15 _ rfl⟩⟩
theorem XL.val_eq(y:XL):Value.agg y.cells.toArray=y.x.val y.p:=rfl
structure R3 where
 pr:ByteArray
 hd:List A5
 bd:List XL
structure RP where
 a:Option Addr
 c:Nat
 ba:Option Addr
 bc:Nat
def R3.cells(r:R3)(p:RP):List Value:=[.string r.pr,.slice p.a r.hd.length p.c,.slice p.ba r.bd.length p.bc]
def R3.val(r:R3)(p:RP):Value:=.agg #[.string r.pr,.slice p.a r.hd.length p.c,.slice p.ba r.bd.length p.bc]
structure RIs (w:World) (d:Nat) (r:R3) (p:RP):Prop where
 pb:r.pr.size≤maxLen
 hl:r.hd.length≤281474976710656
 bl:r.bd.length≤281474976710656
 hd:La w (.slice p.a r.hd.length p.c) r.hd
 bd:Lb w (.slice p.ba r.bd.length p.bc) d r.bd
theorem RIs.below{w w':World}{d:Nat}{r:R3}{p:RP}(h:RIs w d r p)(b:Below w.heap.size w w'):RIs w' d r p:=⟨h.pb,h.hl,h.bl,h.hd.below b,h.bd.below b⟩
def Zi(d:Nat)(r:R3):List T:=r.hd.map A5.t++r.bd.flatMap (fun y=>Zl d y.x)
def ZaS(x:A5):Bool:=if x.g=0 then Zak x.t else if x.g=1 then decide (x.t=T0)else if x.g=2∨x.g=3∨x.g=4 then Zak x.t && !decide (x.t.v=noS)else false
def ruleB(d:Nat)(r:R3):Bool:=Z0 r.pr&&(decide (r.hd.length≤24)&&(decide (r.bd.length≤16)&&(r.hd.all ZaS&&(r.bd.all (fun y=>ZQ y.x)&&decide ((vsT [] (Zi d r)).length≤24)))))
theorem ZjA{f:A5→Bool}{l:List A5}{k:Nat}(h:k<l.length)(hn:f (atA l k)=false):l.all f=false:=by
 rw[←Bool.not_eq_true];intro ha;rw[List.all_eq_true]at ha;rw[Zdj h]at hn;rw[ha _ (List.getElem_mem h)]at hn
 cases hn
theorem Zhx{f:A5→Bool}{l:List A5}{k:Nat}(h:k<l.length):(l.take (k+1)).all f=((l.take k).all f&&f (atA l k)):=by
 have e:l.take (k+1)=l.take k++[l[k]]:=by rw[List.take_add_one,List.getElem?_eq_getElem h];rfl
 rw[e,List.all_append,Zdj h];simp
theorem ZjB{f:XL→Bool}{l:List XL}{k:Nat}(h:k<l.length)(hn:f (atL l k)=false):l.all f=false:=by
 rw[←Bool.not_eq_true];intro ha;rw[List.all_eq_true]at ha;rw[ZS h]at hn;rw[ha _ (List.getElem_mem h)]at hn
 cases hn
theorem Zhy{f:XL→Bool}{l:List XL}{k:Nat}(h:k<l.length):(l.take (k+1)).all f=((l.take k).all f&&f (atL l k)):=by
 have e:l.take (k+1)=l.take k++[l[k]]:=by rw[List.take_add_one,List.getElem?_eq_getElem h];rfl
 rw[e,List.all_append,ZS h];simp
theorem Zb5{b:Nat}{t:TypeId}{n:Nat}:∀(vs:List Value) (o:Nat) (w:World) (f:Nat→Value),w.rowIs b t n f→(w.setCells b o vs).rowIs b t n (fun j=>if o≤j∧j<o+vs.length then vs.getD (j-o) .nilIface else f j)
 | [],o,w,f,h=>by
  rw[World.setCells];refine World.rowIs.congr h fun j _=>?_
  rw[if_neg (fun hh=>Nat.not_lt.2 hh.1 (by simpa using hh.2))]
 | v::r,o,w,f,h=>by
  rw[World.setCells];refine(Zb5 r (o+1) _ _ (World.rowIs.set h o v)).congr fun j _=>?_
  by_cases e:j=o
  ·subst e;rw[if_neg (by omega),if_pos rfl,if_pos ⟨Nat.le_refl _,by simp⟩];simp[List.getD]
  ·by_cases h1:o+1≤j∧j<o+1+r.length
   ·rw[if_pos h1,if_pos ⟨by omega,by simp;omega⟩];obtain⟨i,rfl⟩:∃i,j=o+(i+1):=⟨j-o-1,by omega⟩;rw[show o+(i+1)-(o+1)=i by omega,show o+(i+1)-o=i+1 by omega];simp[List.getD]
   ·rw[if_neg h1,if_neg e,if_neg (by simp;omega)]
theorem Zy{B:Nat}{w0:World}{b:Nat}(hb:B≤b):∀(vs:List Value) (o:Nat) (w:World),Below B w0 w→Below B w0 (w.setCells b o vs)
 | [],_,_,h=>h
 | v::r,o,w,h=>by rw[World.setCells];exact Zy hb r (o+1) _ (h.setCell (p:=⟨b,o,none⟩) hb _)
theorem Zbs{lo d b:Nat}{x:Lit4}{p:LP}(hb:b<lo):∀(vs:List Value) (o:Nat) (w:World),TwL w lo d x p→TwL (w.setCells b o vs) lo d x p
 | [],_,_,h=>h
 | v::r,o,w,h=>by rw[World.setCells];exact Zbs hb r (o+1) _ ⟨h.ts.set hb,h.l.set hb,h.r.set hb⟩
theorem TwL.lower{w:World}{lo lo' d:Nat}(hl:lo'≤lo){x:Lit4}{p:LP}(h:TwL w lo d x p):TwL w lo' d x p:=⟨h.ts.lower hl,h.l.lower hl,h.r.lower hl⟩
def Zav(sz:Nat)(U:Nat→List Value):Nat→Value:=fun j=>(U (j/sz)).getD (j % sz) .nilIface
theorem ZaM{w:World}{b sz n k:Nat}{t:TypeId}{U:Nat→List Value}(hsz:0<sz)(h:w.rowIs b t n (Zav sz U))(vs:List Value)(hv:vs.length=sz):(w.setCells b (k*sz) vs).rowIs b t n (Zav sz (fun i=>if i=k then vs else U i)):=by
 refine(Zb5 vs (k*sz) w _ h).congr fun j _=>?_
 have hdm:=Nat.div_add_mod j sz;have hm:=Nat.mod_lt j hsz;rw[Nat.mul_comm]at hdm
 by_cases e:j/sz=k
 ·subst e;rw[hv,if_pos ⟨by omega,by omega⟩];unfold Zav;show _=(if j/sz=j/sz then vs else U (j/sz)).getD (j % sz) _;rw[if_pos rfl,show j-j/sz*sz=j % sz by omega]
 ·rw[hv,if_neg]
  ·unfold Zav;show _=(if j/sz=k then vs else U (j/sz)).getD (j % sz) _;rw[if_neg e]
  ·rintro⟨h1,h2⟩;apply e;refine Nat.div_eq_of_lt_le (by rw[Nat.mul_comm]at h1⊢;first | exact h1 | (rw[Nat.mul_comm];exact h1)) ?_;rw[Nat.succ_mul];omega
theorem ZaJ{w:World}{b sz n m:Nat}{t:TypeId}{U:Nat→List Value}(h:w.rowIs b t n (Zav sz U))(hn:n=m*sz){i:Nat}(hi:i<m)(hu:(U i).length=sz):w.rangeAt b (i*sz) (U i):=fun j v hv=>by
 have hj:j<sz:=by rw[←hu];exact(List.getElem?_eq_some_iff.1 hv).1
 have hlt:i*sz+j<n:=by
  rw[hn]
  calc i*sz+j<i*sz+sz:=by omega
   _=(i+1)*sz:=by rw[Nat.succ_mul]
   _≤m*sz:=Nat.mul_le_mul_right _ hi
 rw[World.rowIs.cell h hlt];have e1:(i*sz+j)/sz=i:=by rw[Nat.mul_comm,Nat.mul_add_div (by omega),Nat.div_eq_of_lt hj,Nat.add_zero]
 have e2:(i*sz+j) % sz=j:=by rw[Nat.mul_comm,Nat.mul_add_mod,Nat.mod_eq_of_lt hj]
 unfold Zav;rw[e1,e2];simp[List.getD,hv]
theorem Zas{w:World}{b sz n m:Nat}{t:TypeId}{U:Nat→List Value}(h:w.rowIs b t n (Zav sz U))(hn:n=m*sz){i:Nat}(hi:i<m):w.there b (i*sz) sz:=fun j hj=>by
 have hlt:i*sz+j<n:=by
  rw[hn]
  calc i*sz+j<i*sz+sz:=by omega
   _=(i+1)*sz:=by rw[Nat.succ_mul]
   _≤m*sz:=Nat.mul_le_mul_right _ hi
 exact⟨by rw[World.rowIs.cell h hlt];rfl,World.rowIs.frozen h _⟩
theorem Zge(w:World)(z:Array Value)(t:TypeId)(n:Nat)(hz:0<z.size):(w.alloc (.cells (madeCells z (n*z.size)) t)).rowIs w.heap.size t (n*z.size) (Zav z.size (fun _=>z.toList)):=by
 have h:=World.rowIs_alloc w (madeCells z (n*z.size)) t (Zav z.size (fun _=>z.toList)) (fun i hi=>by
  rw[size_madeCells]at hi;have hm:=Nat.mod_lt i hz;simp[madeCells,hi,Zav,List.getD,hm])
 rwa [size_madeCells]at h
theorem Zen(x:A5):(A5.cells x).toArray.all (·.oneCell')=true:=by simp[A5.cells,Value.oneCell']
theorem ZbR(y:XL):(XL.cells y).toArray.all (·.oneCell')=true:=by simp[XL.cells,Value.oneCell']
end
section
open Go.RowKit Go.Maps
attribute [local go_sem ↓] Go.wp_at_zero Go.wp_at_succ
attribute [-go_sem] loadVar storeVar
theorem Zb6{w:World}{b:Nat}{t:TypeId}{l:List Value}(h:RL w b t l):w.there b 0 l.length:=fun j hj=>by
 rw[Nat.zero_add];exact⟨by rw[World.rowIs.cell h hj];rfl,World.rowIs.frozen h _⟩
theorem Zcz{w:World}{b:Nat}{t:TypeId}{l:List Value}(h:RL w b t l)(vs:List Value)(hv:vs.length=l.length):RL (w.setCells b 0 vs) b t vs:=by
 unfold RL;rw[hv];refine(Zb5 vs 0 w _ h).congr fun j hj=>?_
 rw[if_pos ⟨Nat.zero_le _,by omega⟩,Nat.sub_zero]
def upC{α:Type}(f:α→List Value)(z:List Value)(U:Nat→α)(k:Nat):Nat→List Value:=fun i=>if i<k then f (U i)else z
theorem Zgh{α:Type}(f:α→List Value)(z:List Value)(U:Nat→α)(k:Nat)(y:α):(fun i=>if i=k then f y else upC f z U k i)=upC f z (fun i=>if i=k then y else U i) (k+1):=by
 funext i
 unfold upC
 by_cases e:i=k
 ·subst e;simp
 ·simp only[if_neg e]
  by_cases h:i<k
  ·rw[if_pos h,if_pos (by omega)]
  ·rw[if_neg h,if_neg (by omega)]
theorem Zlz{α:Type}{f:α→List Value}{n:Nat}(hf:∀x,(f x).length=n){z:List Value}(hz:z.length=n)(U:Nat→α)(k i:Nat):(upC f z U k i).length=n:=by
 unfold upC
 split
 ·exact hf _
 ·exact hz
theorem Zep{u:World}{g o:Nat}{cs:List Value}(h:u.rangeAt g o cs)(hl:cs.length=5):(loadVar 119 ⟨g,o,none⟩).run Tryz.prog u=.ok (.agg cs.toArray) u:=
 run_loadVar_mid u g o _ cs _ h Tryz.underlying119 rfl (by rw[hl];kernel_rfl)
theorem Zan{u:World}{g o:Nat}{cs:List Value}(h:u.rangeAt g o cs)(hl:cs.length=16):(loadVar 105 ⟨g,o,none⟩).run Tryz.prog u=.ok (.agg cs.toArray) u:=
 run_loadVar_mid u g o _ cs _ h Tryz.underlying105 rfl (by rw[hl];kernel_rfl)
theorem ZjE(w:World)(hp:PWt w):Calls Tryz.prog 84 #[.int .i64 777777] w fun e w'=>e=.returned (.agg #[.int .i8 0,.string Zt,.int .i8 0,.int .i64 0,.string ⟨#[]⟩])∧Below w.heap.size w w':=by
 have BA:=(Below.refl w.heap.size w).alloc (Nat.le_refl _) (.cells #[.int .i8 0,.string ⟨#[]⟩,.int .i8 0,.int .i64 0,.string ⟨#[]⟩] 119);have HP:Hid _:=Zq hp BA;have HR0:Hid (RL (w.alloc (.cells #[.int .i8 0,.string ⟨#[]⟩,.int .i8 0,.int .i64 0,.string ⟨#[]⟩] 119)) w.heap.size 119 [.int .i8 0,.string ⟨#[]⟩,.int .i8 0,.int .i64 0,.string ⟨#[]⟩]):=Zk w #[.int .i8 0,.string ⟨#[]⟩,.int .i8 0,.int .i64 0,.string ⟨#[]⟩] 119
 clear hp;go_enter Tryz.func84,Tryz.ntmps84;go_wp2_with fail;refine(Za8 _ HP.out).mono ?_;rintro e w1 ⟨rfl,b1⟩;have HR:Hid (RL w1 w.heap.size 119 [.int .i8 0,.string ⟨#[]⟩,.int .i8 0,.int .i64 0,.string ⟨#[]⟩]):=RL.below HR0.out b1;have B1:Hid (Below w.heap.size w w1):=BA.trans (b1.mono BA.size);clear b1 BA HR0 HP;generalize hmw:Zt=MW;have HM:Hid _:=hmw;clear hmw;have hst:(storeVar 119 ⟨w.heap.size,0,none⟩ (.agg #[.int .i8 0,.string MW,.int .i8 0,.int .i64 0,.string ⟨#[]⟩])).run Tryz.prog w1=.ok () (w1.setCells w.heap.size 0 [.int .i8 0,.string MW,.int .i8 0,.int .i64 0,.string ⟨#[]⟩]):=run_storeVar_mid w1 _ 0 _ #[.int .i8 0,.string MW,.int .i8 0,.int .i64 0,.string ⟨#[]⟩] (by have:=Zb6 HR.out;exact this) (by kernel_rfl) (by simp[Value.oneCell'])
 go_wp2;refine bodyPost_ret (ZO Tryz.results84 (v:=.agg #[.int .i8 0,.string MW,.int .i8 0,.int .i64 0,.string ⟨#[]⟩]) rfl (run_loadVar_mid _ _ 0 119 [.int .i8 0,.string MW,.int .i8 0,.int .i64 0,.string ⟨#[]⟩] _ (RL.range (Zcz HR.out [.int .i8 0,.string MW,.int .i8 0,.int .i64 0,.string ⟨#[]⟩] rfl)) Tryz.underlying119 rfl (by kernel_rfl))) rfl ⟨by rw[HM.out],?_⟩;exact Zy (Nat.le_refl _) _ _ _ B1.out
theorem Zfk(w:World)(hp:PWt w):Calls Tryz.prog 86 #[.int .i64 777777] w fun e w'=>e=.returned (.agg #[.int .i8 99,.string Zt,.slice none 0 0,.int .i8 0,.int .i8 0,.string ⟨#[]⟩,.int .i8 0,.int .i64 0,.string ⟨#[]⟩,.slice none 0 0,.int .i8 0,.string ⟨#[]⟩,.int .i8 0,.int .i64 0,.string ⟨#[]⟩,.slice none 0 0])∧Below w.heap.size w w':=by
 have BA:=(Below.refl w.heap.size w).alloc (Nat.le_refl _) (.cells #[.int .i8 0,.string ⟨#[]⟩,.slice none 0 0,.int .i8 0,.int .i8 0,.string ⟨#[]⟩,.int .i8 0,.int .i64 0,.string ⟨#[]⟩,.slice none 0 0,.int .i8 0,.string ⟨#[]⟩,.int .i8 0,.int .i64 0,.string ⟨#[]⟩,.slice none 0 0] 105);have HP:Hid _:=Zq hp BA;have HR0:Hid (RL (w.alloc (.cells #[.int .i8 0,.string ⟨#[]⟩,.slice none 0 0,.int .i8 0,.int .i8 0,.string ⟨#[]⟩,.int .i8 0,.int .i64 0,.string ⟨#[]⟩,.slice none 0 0,.int .i8 0,.string ⟨#[]⟩,.int .i8 0,.int .i64 0,.string ⟨#[]⟩,.slice none 0 0] 105)) w.heap.size 105 [.int .i8 0,.string ⟨#[]⟩,.slice none 0 0,.int .i8 0,.int .i8 0,.string ⟨#[]⟩,.int .i8 0,.int .i64 0,.string ⟨#[]⟩,.slice none 0 0,.int .i8 0,.string ⟨#[]⟩,.int .i8 0,.int .i64 0,.string ⟨#[]⟩,.slice none 0 0]):=Zk w #[.int .i8 0,.string ⟨#[]⟩,.slice none 0 0,.int .i8 0,.int .i8 0,.string ⟨#[]⟩,.int .i8 0,.int .i64 0,.string ⟨#[]⟩,.slice none 0 0,.int .i8 0,.string ⟨#[]⟩,.int .i8 0,.int .i64 0,.string ⟨#[]⟩,.slice none 0 0] 105
 clear hp;go_enter Tryz.func86,Tryz.ntmps86;go_wp2_with fail;refine(Za8 _ HP.out).mono ?_;rintro e w1 ⟨rfl,b1⟩;have HR:Hid (RL w1 w.heap.size 105 [.int .i8 0,.string ⟨#[]⟩,.slice none 0 0,.int .i8 0,.int .i8 0,.string ⟨#[]⟩,.int .i8 0,.int .i64 0,.string ⟨#[]⟩,.slice none 0 0,.int .i8 0,.string ⟨#[]⟩,.int .i8 0,.int .i64 0,.string ⟨#[]⟩,.slice none 0 0]):=RL.below HR0.out b1;have B1:Hid (Below w.heap.size w w1):=BA.trans (b1.mono BA.size)
 clear b1 BA HR0 HP;generalize hmw:Zt=MW;have HM:Hid _:=hmw;clear hmw;have hst:(storeVar 105 ⟨w.heap.size,0,none⟩ (.agg #[.int .i8 99,.string MW,.slice none 0 0,.int .i8 0,.int .i8 0,.string ⟨#[]⟩,.int .i8 0,.int .i64 0,.string ⟨#[]⟩,.slice none 0 0,.int .i8 0,.string ⟨#[]⟩,.int .i8 0,.int .i64 0,.string ⟨#[]⟩,.slice none 0 0])).run Tryz.prog w1=.ok () (w1.setCells w.heap.size 0 [.int .i8 99,.string MW,.slice none 0 0,.int .i8 0,.int .i8 0,.string ⟨#[]⟩,.int .i8 0,.int .i64 0,.string ⟨#[]⟩,.slice none 0 0,.int .i8 0,.string ⟨#[]⟩,.int .i8 0,.int .i64 0,.string ⟨#[]⟩,.slice none 0 0]):=run_storeVar_mid w1 _ 0 _ #[.int .i8 99,.string MW,.slice none 0 0,.int .i8 0,.int .i8 0,.string ⟨#[]⟩,.int .i8 0,.int .i64 0,.string ⟨#[]⟩,.slice none 0 0,.int .i8 0,.string ⟨#[]⟩,.int .i8 0,.int .i64 0,.string ⟨#[]⟩,.slice none 0 0] (by have:=Zb6 HR.out;exact this) (by kernel_rfl) (by simp[Value.oneCell'])
 go_wp2;refine bodyPost_ret (ZO Tryz.results86 (v:=.agg #[.int .i8 99,.string MW,.slice none 0 0,.int .i8 0,.int .i8 0,.string ⟨#[]⟩,.int .i8 0,.int .i64 0,.string ⟨#[]⟩,.slice none 0 0,.int .i8 0,.string ⟨#[]⟩,.int .i8 0,.int .i64 0,.string ⟨#[]⟩,.slice none 0 0]) rfl (run_loadVar_mid _ _ 0 105 [.int .i8 99,.string MW,.slice none 0 0,.int .i8 0,.int .i8 0,.string ⟨#[]⟩,.int .i8 0,.int .i64 0,.string ⟨#[]⟩,.slice none 0 0,.int .i8 0,.string ⟨#[]⟩,.int .i8 0,.int .i64 0,.string ⟨#[]⟩,.slice none 0 0] _ (RL.range (Zcz HR.out [.int .i8 99,.string MW,.slice none 0 0,.int .i8 0,.int .i8 0,.string ⟨#[]⟩,.int .i8 0,.int .i64 0,.string ⟨#[]⟩,.slice none 0 0,.int .i8 0,.string ⟨#[]⟩,.int .i8 0,.int .i64 0,.string ⟨#[]⟩,.slice none 0 0] rfl)) Tryz.underlying105 rfl (by kernel_rfl))) rfl ⟨by rw[HM.out],?_⟩
 exact Zy (Nat.le_refl _) _ _ _ B1.out
theorem Zpu:(Tryz.prog.info? 119).map (fun i=>(i.zero,i.size,i.bytes))=some (some (.agg #[.int .i8 0,.string ⟨#[]⟩,.int .i8 0,.int .i64 0,.string ⟨#[]⟩]),5,56):=by kernel_rfl
theorem Zip(n:Nat)(hn:n≤1048576)(w:World) :
  (Instr.makeSlice 22 (.int .i64 ((n:Int)+1)) (.int .i64 ((n:Int)+1))).run Tryz.prog w=.ok (.slice (some ⟨w.heap.size,0,none⟩) (n+1) (n+1)) (w.alloc (.cells (madeCells #[.int .i8 0,.string ⟨#[]⟩,.int .i8 0,.int .i64 0,.string ⟨#[]⟩] ((n+1)*5)) 119)):=by
 have h:=Zpu;obtain⟨i,hi,he⟩:=Option.map_eq_some_iff.1 h;simp only[Prod.mk.injEq]at he;obtain⟨h1,h2,h3⟩:=he;have:=run_make (P:=Tryz.prog) w 22 119 i _ Tryz.underlying22 hi h1 .i64 .i64 ((n:Int)+1) ((n:Int)+1) (by omega) (Int.le_refl _) (by rw[h3];omega) (by omega);rw[this,h2,show((n:Int)+1).toNat=n+1 by omega];rfl
theorem Zhz{u:World}{b o:Nat}{cs:List Value}(h:u.there b o 5)(hl:cs.length=5)(h1:cs.toArray.all (·.oneCell')=true):(storeVar 119 ⟨b,o,none⟩ (.agg cs.toArray)).run Tryz.prog u=.ok () (u.setCells b o cs):=
 run_storeVar_mid u b o _ cs.toArray (by rw[List.size_toArray,hl];exact h) (by rw[List.size_toArray,hl];kernel_rfl) h1
structure TwA (w:World) (lo:Nat) (l:List A5) (a:Option Addr) (c:Nat):Prop where
 cap:c=l.length+1
 lies:∃g,a=some ⟨g,0,none⟩∧lo≤g∧g<w.heap.size∧w.rangeAt g (l.length*5) [.int .i8 0,.string Zt,.int .i8 0,.int .i64 0,.string ⟨#[]⟩]∧∀i,i<l.length→w.rangeAt g (i*5) (atA l i).cells
theorem TwA.below{w w':World}{lo:Nat}{l:List A5}{a:Option Addr}{c:Nat}(h:TwA w lo l a c)(b:Below w.heap.size w w'):TwA w' lo l a c:=by
 obtain⟨h1,g,h2,h3,h4,h5,h6⟩:=h;exact⟨h1,g,h2,h3,Nat.lt_of_lt_of_le h4 b.size,Zu h5 b h4,fun i hi=>Zu (h6 i hi) b h4⟩
theorem TwA.set{w:World}{lo b j:Nat}{v:Value}(hb:b<lo){l:List A5}{a:Option Addr}{c:Nat}(h:TwA w lo l a c):TwA (w.setCell ⟨b,j,none⟩ v) lo l a c:=by
 obtain⟨h1,g,h2,h3,h4,h5,h6⟩:=h;have e:(w.setCell ⟨b,j,none⟩ v).heap[g]?=w.heap[g]?:=heap_setCell_other _ _ _ _ (by show g≠b;omega);exact⟨h1,g,h2,h3,by simpa using h4,Zcg h5 e,fun i hi=>Zcg (h6 i hi) e⟩
theorem TwA.lower{w:World}{lo lo':Nat}(hl:lo'≤lo){l:List A5}{a:Option Addr}{c:Nat}(h:TwA w lo l a c):TwA w lo' l a c:=by
 obtain⟨h1,g,h2,h3,h4,h5,h6⟩:=h;exact⟨h1,g,h2,Nat.le_trans hl h3,h4,h5,h6⟩
theorem TwA.la{w w0:World}{lo:Nat}{l:List A5}{a:Option Addr}{c:Nat}{v:Value}(h:TwA w lo l a c)(h0:La w0 v l)(hl:l.length≤1048576):La w (.slice a l.length c) l:=by
 obtain⟨rfl,g,rfl,_,hg,_,hk⟩:=h;exact⟨ZaC (f:=A5.cells) (k:=5) (by omega) (fun _=>rfl) A50 (by omega) (by unfold maxLen;omega) hg hk,h0.wf⟩
theorem Ziq(v:Value)(l:List A5)(w:World)(hp:PWt w)(hs:l.length≤1048576)(hL:La w v l) :
  Calls Tryz.prog 23 #[v] w fun r w'=>∃a',r=.returned (.slice a' l.length (l.length+1))∧Below w.heap.size w w'∧TwA w' w.heap.size l a' (l.length+1):=by
 obtain⟨a,c,rfl,hc1,hc2,hk⟩:=hL.form;have hmk:=Zip l.length hs;have HK:Hid _:=hk;have HP:Hid (PWt w):=hp;clear hk hp hc2 hL;go_enter Tryz.func23,Tryz.ntmps23;go_wp2;go_loopw [4] (fun i wr=>∃k:Nat,k≤l.length∧i=.int .i64 k∧Below w.heap.size w wr∧wr.rowIs w.heap.size 119 ((l.length+1)*5) (Zav 5 (upC A5.cells [.int .i8 0,.string ⟨#[]⟩,.int .i8 0,.int .i64 0,.string ⟨#[]⟩] (atA l) k))) (fun i _=>l.length-(intOf i).toNat)
 case atStart=>exact⟨0,Nat.zero_le _,rfl,(Below.refl _ _).alloc (Nat.le_refl _) _,Zge w #[.int .i8 0,.string ⟨#[]⟩,.int .i8 0,.int .i64 0,.string ⟨#[]⟩] 119 (l.length+1) (by decide)⟩
 case round=>
  obtain⟨k,hk,rfl,bel,hrow⟩:=hrel;clear hmk;have HR:Hid (wr.rowIs w.heap.size 119 ((l.length+1)*5) (Zav 5 (upC A5.cells [.int .i8 0,.string ⟨#[]⟩,.int .i8 0,.int .i64 0,.string ⟨#[]⟩] (atA l) k))):=hrow;have hwlt:w.heap.size<wr.heap.size:=hrow.lt;clear hrow
  by_cases hlt:k<l.length
  ·have hlt':(k:Int)<(l.length:Int):=by omega
   obtain⟨g,off,rfl,hg,hKS⟩:=HK.out (by omega);have hld:=Zep (Zu (hKS k hlt) bel hg) rfl;have hst:=Zhz (Zas HR.out rfl (i:=k) (by omega)) (cs:=(atA l k).cells) rfl (Zen _)
   have HN:Hid ((wr.setCells w.heap.size (k*5) (atA l k).cells).rowIs w.heap.size 119 ((l.length+1)*5) (Zav 5 (upC A5.cells [.int .i8 0,.string ⟨#[]⟩,.int .i8 0,.int .i64 0,.string ⟨#[]⟩] (atA l) (k+1)))):=by
    have:=ZaM (k:=k) (by decide) HR.out (atA l k).cells rfl;rw[Zgh,Zez (atA l) k _ rfl]at this;exact this
   have HBn:Hid (Below w.heap.size w (wr.setCells w.heap.size (k*5) (atA l k).cells)):=Zy (Nat.le_refl _) _ _ _ bel;generalize wr.setCells w.heap.size (k*5) (atA l k).cells=W2 at hst HN HBn;generalize Value.agg (atA l k).cells.toArray=QV at hld hst;have hk1:(k:Int)<(l.length:Int)+1:=by omega
   clear hKS HR;go_wp2;go_roundw
   case rel=>exact⟨k+1,by omega,by go_num,HBn.out,HN.out⟩
   case measure=>simp[intOf];omega
  ·obtain rfl:k=l.length:=by omega
   go_wp2_with fail;refine(ZjE _ (Zq HP.out bel)).mono ?_;rintro r w1 ⟨rfl,b1⟩;have HR1:Hid (w1.rowIs w.heap.size 119 ((l.length+1)*5) (Zav 5 (upC A5.cells [.int .i8 0,.string ⟨#[]⟩,.int .i8 0,.int .i64 0,.string ⟨#[]⟩] (atA l) l.length))):=HR.out.of_block (b1.block _ hwlt);have bel1:Below w.heap.size w w1:=bel.trans (b1.mono bel.size);have hst:=Zhz (Zas HR1.out rfl (i:=l.length) (by omega)) (cs:=[.int .i8 0,.string Zt,.int .i8 0,.int .i64 0,.string ⟨#[]⟩]) rfl (by simp[Value.oneCell'])
   have HN:Hid ((w1.setCells w.heap.size (l.length*5) [.int .i8 0,.string Zt,.int .i8 0,.int .i64 0,.string ⟨#[]⟩]).rowIs w.heap.size 119 ((l.length+1)*5) (Zav 5 (fun i=>if i=l.length then [.int .i8 0,.string Zt,.int .i8 0,.int .i64 0,.string ⟨#[]⟩]else upC A5.cells [.int .i8 0,.string ⟨#[]⟩,.int .i8 0,.int .i64 0,.string ⟨#[]⟩] (atA l) l.length i))):=ZaM (k:=l.length) (by decide) HR1.out [.int .i8 0,.string Zt,.int .i8 0,.int .i64 0,.string ⟨#[]⟩] rfl
   have HBn:Hid (Below w.heap.size w (w1.setCells w.heap.size (l.length*5) [.int .i8 0,.string Zt,.int .i8 0,.int .i64 0,.string ⟨#[]⟩])):=Zy (Nat.le_refl _) _ _ _ bel1;have hst2:(storeVar 119 ⟨w.heap.size,l.length*5,none⟩ (.agg #[.int .i8 0,.string Zt,.int .i8 0,.int .i64 0,.string ⟨#[]⟩])).run Tryz.prog w1=_:=hst;clear hst;generalize w1.setCells w.heap.size (l.length*5) [.int .i8 0,.string Zt,.int .i8 0,.int .i64 0,.string ⟨#[]⟩]=W2 at hst2 HN HBn
   have hk1:(l.length:Int)<(l.length:Int)+1:=by omega
   clear b1 HR bel HR1;obtain⟨MW,hmw⟩:∃MW,Zt=MW:=⟨_,rfl⟩;rw[hmw]at hst2 HN⊢;have HM:Hid _:=hmw;clear hmw;go_wp2;go_ret;refine⟨some ⟨w.heap.size,0,none⟩,rfl,HBn.out,rfl,w.heap.size,rfl,Nat.le_refl _,World.rowIs.lt HN.out,?_,fun i hi=>?_⟩
   ·have:=ZaJ HN.out rfl (i:=l.length) (by omega) (by rw[if_pos rfl];rfl);rw[if_pos rfl]at this;rw[HM.out];exact this
   ·have:=ZaJ HN.out rfl (i:=i) (by omega) (by simp only[if_neg (show ¬ i=l.length by omega)];exact Zlz (f:=A5.cells) (n:=5) (fun _=>rfl) rfl _ _ _);simp only[if_neg (show ¬ i=l.length by omega),upC,if_pos hi]at this;exact this
theorem Zpv:(Tryz.prog.info? 105).map (fun i=>(i.zero,i.size,i.bytes))=some (some (.agg #[.int .i8 0,.string ⟨#[]⟩,.slice none 0 0,.int .i8 0,.int .i8 0,.string ⟨#[]⟩,.int .i8 0,.int .i64 0,.string ⟨#[]⟩,.slice none 0 0,.int .i8 0,.string ⟨#[]⟩,.int .i8 0,.int .i64 0,.string ⟨#[]⟩,.slice none 0 0]),16,216):=by kernel_rfl
theorem Zir(n:Nat)(hn:n≤1048576)(w:World) :
  (Instr.makeSlice 23 (.int .i64 ((n:Int)+1)) (.int .i64 ((n:Int)+1))).run Tryz.prog w=.ok (.slice (some ⟨w.heap.size,0,none⟩) (n+1) (n+1)) (w.alloc (.cells (madeCells #[.int .i8 0,.string ⟨#[]⟩,.slice none 0 0,.int .i8 0,.int .i8 0,.string ⟨#[]⟩,.int .i8 0,.int .i64 0,.string ⟨#[]⟩,.slice none 0 0,.int .i8 0,.string ⟨#[]⟩,.int .i8 0,.int .i64 0,.string ⟨#[]⟩,.slice none 0 0] ((n+1)*16)) 105)):=by
 have h:=Zpv;obtain⟨i,hi,he⟩:=Option.map_eq_some_iff.1 h;simp only[Prod.mk.injEq]at he;obtain⟨h1,h2,h3⟩:=he;have:=run_make (P:=Tryz.prog) w 23 105 i _ Tryz.underlying23 hi h1 .i64 .i64 ((n:Int)+1) ((n:Int)+1) (by omega) (Int.le_refl _) (by rw[h3];omega) (by omega);rw[this,h2,show((n:Int)+1).toNat=n+1 by omega];rfl
theorem ZhA{u:World}{b o:Nat}{cs:List Value}(h:u.there b o 16)(hl:cs.length=16)(h1:cs.toArray.all (·.oneCell')=true):(storeVar 105 ⟨b,o,none⟩ (.agg cs.toArray)).run Tryz.prog u=.ok () (u.setCells b o cs):=
 run_storeVar_mid u b o _ cs.toArray (by rw[List.size_toArray,hl];exact h) (by rw[List.size_toArray,hl];kernel_rfl) h1
structure TwB (w:World) (lo d:Nat) (l:List XL) (a:Option Addr) (c:Nat):Prop where
 cap:c=l.length+1
 lies:∃g,a=some ⟨g,0,none⟩∧lo≤g∧g<w.heap.size∧w.rangeAt g (l.length*16) [.int .i8 99,.string Zt,.slice none 0 0,.int .i8 0,.int .i8 0,.string ⟨#[]⟩,.int .i8 0,.int .i64 0,.string ⟨#[]⟩,.slice none 0 0,.int .i8 0,.string ⟨#[]⟩,.int .i8 0,.int .i64 0,.string ⟨#[]⟩,.slice none 0 0]∧∀i,i<l.length→w.rangeAt g (i*16) (atL l i).cells
 each:∀i,i<l.length→TwL w lo d (atL l i).x (atL l i).p
theorem TwB.below{w w':World}{lo d:Nat}{l:List XL}{a:Option Addr}{c:Nat}(h:TwB w lo d l a c)(b:Below w.heap.size w w'):TwB w' lo d l a c:=by
 obtain⟨h1,⟨g,h2,h3,h4,h5,h6⟩,h7⟩:=h;exact⟨h1,⟨g,h2,h3,Nat.lt_of_lt_of_le h4 b.size,Zu h5 b h4,fun i hi=>Zu (h6 i hi) b h4⟩,fun i hi=>(h7 i hi).below b⟩
theorem TwB.set{w:World}{lo d b j:Nat}{v:Value}(hb:b<lo){l:List XL}{a:Option Addr}{c:Nat}(h:TwB w lo d l a c):TwB (w.setCell ⟨b,j,none⟩ v) lo d l a c:=by
 obtain⟨h1,⟨g,h2,h3,h4,h5,h6⟩,h7⟩:=h;have e:(w.setCell ⟨b,j,none⟩ v).heap[g]?=w.heap[g]?:=heap_setCell_other _ _ _ _ (by show g≠b;omega);exact⟨h1,⟨g,h2,h3,by simpa using h4,Zcg h5 e,fun i hi=>Zcg (h6 i hi) e⟩,fun i hi=>Zbs hb [v] j w (h7 i hi)⟩
theorem TwB.lower{w:World}{lo lo' d:Nat}(hl:lo'≤lo){l:List XL}{a:Option Addr}{c:Nat}(h:TwB w lo d l a c):TwB w lo' d l a c:=by
 obtain⟨h1,⟨g,h2,h3,h4,h5,h6⟩,h7⟩:=h;exact⟨h1,⟨g,h2,Nat.le_trans hl h3,h4,h5,h6⟩,fun i hi=>(h7 i hi).lower hl⟩
theorem TwL.toIs{w w0:World}{lo d:Nat}{x:Lit4}{p q:LP}(h:TwL w lo d x q)(h0:LIs w0 d x p)(hs:x.ts.length≤1048576):LIs w d x q:=
 ⟨h0.kb,h0.rb,h0.pb,h0.ln,h.ts.lt h0.ts (Nat.le_trans hs (by decide)),h.l.eis h0.l,h.r.eis h0.r⟩
theorem Zis{n:Nat}(U:Nat→XL){i:Nat}(h:i<n):atL ((List.range n).map U) i=U i:=by simp[atL,List.getD,h]
theorem ZeT(d:Nat)(v:Value)(l:List XL)(w:World)(hp:PWt w)(hs:l.length≤1048576)(hsm:∀y∈l,ZbM d y.x)(hL:Lb w v d l) :
  Calls Tryz.prog 24 #[v] w fun r w'=>∃a' l',r=.returned (.slice a' l.length (l.length+1))∧Below w.heap.size w w'∧l'.length=l.length∧(∀i,i<l.length→(atL l' i).x=(atL l i).x)∧TwB w' w.heap.size d l' a' (l.length+1):=by
 have HEa:Hid (∀i,i<l.length→LIs w d (atL l i).x (atL l i).p∧ZbM d (atL l i).x):=fun i hi=>⟨hL.at_is hi,by rw[ZS hi];exact hsm _ (List.getElem_mem hi)⟩
 obtain⟨a,c,rfl,hc1,hc2,hk⟩:=hL.form;have hmk:=Zir l.length hs;have HK:Hid _:=hk;have HP:Hid (PWt w):=hp;clear hk hp hc2 hL hsm;go_enter Tryz.func24,Tryz.ntmps24;go_wp2;go_loopw [4] (fun i wr=>∃(k:Nat) (U:Nat→XL),k≤l.length∧i=.int .i64 k∧Below w.heap.size w wr∧wr.rowIs w.heap.size 105 ((l.length+1)*16) (Zav 16 (upC XL.cells [.int .i8 0,.string ⟨#[]⟩,.slice none 0 0,.int .i8 0,.int .i8 0,.string ⟨#[]⟩,.int .i8 0,.int .i64 0,.string ⟨#[]⟩,.slice none 0 0,.int .i8 0,.string ⟨#[]⟩,.int .i8 0,.int .i64 0,.string ⟨#[]⟩,.slice none 0 0] U k))∧Hid (∀i,i<k→(U i).x=(atL l i).x∧TwL wr (w.heap.size+1) d (U i).x (U i).p)) (fun i _=>l.length-(intOf i).toNat)
 case atStart=>exact⟨0,atL l,Nat.zero_le _,rfl,(Below.refl _ _).alloc (Nat.le_refl _) _,Zge w #[.int .i8 0,.string ⟨#[]⟩,.slice none 0 0,.int .i8 0,.int .i8 0,.string ⟨#[]⟩,.int .i8 0,.int .i64 0,.string ⟨#[]⟩,.slice none 0 0,.int .i8 0,.string ⟨#[]⟩,.int .i8 0,.int .i64 0,.string ⟨#[]⟩,.slice none 0 0] 105 (l.length+1) (by decide),fun i hi=>absurd hi (by omega)⟩
 case round=>
  obtain⟨k,U,hk,rfl,bel,hrow,HTW⟩:=hrel;clear hmk;have HR:Hid (wr.rowIs w.heap.size 105 ((l.length+1)*16) (Zav 16 (upC XL.cells [.int .i8 0,.string ⟨#[]⟩,.slice none 0 0,.int .i8 0,.int .i8 0,.string ⟨#[]⟩,.int .i8 0,.int .i64 0,.string ⟨#[]⟩,.slice none 0 0,.int .i8 0,.string ⟨#[]⟩,.int .i8 0,.int .i64 0,.string ⟨#[]⟩,.slice none 0 0] U k))):=hrow;have hwlt:w.heap.size<wr.heap.size:=hrow.lt;clear hrow
  by_cases hlt:k<l.length
  ·have hlt':(k:Int)<(l.length:Int):=by omega
   obtain⟨g,off,rfl,hg,hKS⟩:=HK.out (by omega);have hld:=Zan (Zu (hKS k hlt) bel hg) rfl;obtain⟨hxL,hxS⟩:=HEa.out k hlt;have HT:Hid _:=Zfg d (atL l k).x (atL l k).p wr (Zq HP.out bel) hxS.1 hxS.2.1.1 hxS.2.2.1 (hxL.below bel);rw[XL.val_eq]at hld;obtain⟨x,hx⟩:∃x,(atL l k).x=x:=⟨_,rfl⟩;rw[hx]at hld HT;have HX:Hid _:=hx;generalize x.val (atL l k).p=QV at hld HT;clear hKS hxL hxS hx
   go_wp2_with fail;refine Calls.mono HT.out ?_;rintro r w1 ⟨q,rfl,b1,htw⟩;have HR1:Hid (w1.rowIs w.heap.size 105 ((l.length+1)*16) (Zav 16 (upC XL.cells [.int .i8 0,.string ⟨#[]⟩,.slice none 0 0,.int .i8 0,.int .i8 0,.string ⟨#[]⟩,.int .i8 0,.int .i64 0,.string ⟨#[]⟩,.slice none 0 0,.int .i8 0,.string ⟨#[]⟩,.int .i8 0,.int .i64 0,.string ⟨#[]⟩,.slice none 0 0] U k))):=HR.out.of_block (b1.block _ hwlt)
   have bel1:Below w.heap.size w w1:=bel.trans (b1.mono bel.size);have hst:=ZhA (Zas HR1.out rfl (i:=k) (by omega)) (cs:=XL.cells ⟨x,q⟩) rfl (ZbR _);rw[XL.val_eq]at hst
   have HN:Hid ((w1.setCells w.heap.size (k*16) (XL.cells ⟨x,q⟩)).rowIs w.heap.size 105 ((l.length+1)*16) (Zav 16 (upC XL.cells [.int .i8 0,.string ⟨#[]⟩,.slice none 0 0,.int .i8 0,.int .i8 0,.string ⟨#[]⟩,.int .i8 0,.int .i64 0,.string ⟨#[]⟩,.slice none 0 0,.int .i8 0,.string ⟨#[]⟩,.int .i8 0,.int .i64 0,.string ⟨#[]⟩,.slice none 0 0] (fun i=>if i=k then⟨x,q⟩else U i) (k+1)))):=by
    have:=ZaM (k:=k) (by decide) HR1.out (XL.cells ⟨x,q⟩) rfl;rw[Zgh]at this;exact this
   have HBn:Hid (Below w.heap.size w (w1.setCells w.heap.size (k*16) (XL.cells ⟨x,q⟩))):=Zy (Nat.le_refl _) _ _ _ bel1
   have HTn:Hid (∀i,i<k+1→((fun i=>if i=k then(⟨x,q⟩:XL)else U i) i).x=(atL l i).x∧TwL (w1.setCells w.heap.size (k*16) (XL.cells ⟨x,q⟩)) (w.heap.size+1) d ((fun i=>if i=k then(⟨x,q⟩:XL)else U i) i).x ((fun i=>if i=k then(⟨x,q⟩:XL)else U i) i).p):=fun i hi=>by
    by_cases e:i=k
    ·subst e;simp only[if_true];exact⟨HX.out.symm,Zbs (by omega) _ _ _ (htw.lower hwlt)⟩
    ·simp only[if_neg e];obtain⟨h1,h2⟩:=HTW.out i (by omega);exact⟨h1,Zbs (by omega) _ _ _ (h2.below b1)⟩
   generalize w1.setCells w.heap.size (k*16) (XL.cells ⟨x,q⟩)=W2 at hst HN HBn HTn;have hk1:(k:Int)<(l.length:Int)+1:=by omega
   have hst2:(storeVar 105 ⟨w.heap.size,k*16,none⟩ (x.val q)).run Tryz.prog w1=.ok () W2:=hst;obtain⟨RV,hrv⟩:∃RV,x.val q=RV:=⟨_,rfl⟩;rw[hrv]at hst2⊢;clear HR hld HT b1 htw HR1 HTW hst hrv;go_wp2;go_roundw
   case rel=>exact⟨k+1,_,by omega,by go_num,HBn.out,HN.out,HTn.out⟩
   case measure=>simp[intOf];omega
  ·obtain rfl:k=l.length:=by omega
   go_wp2_with fail;refine(Zfk _ (Zq HP.out bel)).mono ?_;rintro r w1 ⟨rfl,b1⟩;have HR1:Hid (w1.rowIs w.heap.size 105 ((l.length+1)*16) (Zav 16 (upC XL.cells [.int .i8 0,.string ⟨#[]⟩,.slice none 0 0,.int .i8 0,.int .i8 0,.string ⟨#[]⟩,.int .i8 0,.int .i64 0,.string ⟨#[]⟩,.slice none 0 0,.int .i8 0,.string ⟨#[]⟩,.int .i8 0,.int .i64 0,.string ⟨#[]⟩,.slice none 0 0] U l.length))):=HR.out.of_block (b1.block _ hwlt)
   have bel1:Below w.heap.size w w1:=bel.trans (b1.mono bel.size);have hst:=ZhA (Zas HR1.out rfl (i:=l.length) (by omega)) (cs:=[.int .i8 99,.string Zt,.slice none 0 0,.int .i8 0,.int .i8 0,.string ⟨#[]⟩,.int .i8 0,.int .i64 0,.string ⟨#[]⟩,.slice none 0 0,.int .i8 0,.string ⟨#[]⟩,.int .i8 0,.int .i64 0,.string ⟨#[]⟩,.slice none 0 0]) rfl (by simp[Value.oneCell']);have HN:Hid ((w1.setCells w.heap.size (l.length*16) [.int .i8 99,.string Zt,.slice none 0 0,.int .i8 0,.int .i8 0,.string ⟨#[]⟩,.int .i8 0,.int .i64 0,.string ⟨#[]⟩,.slice none 0 0,.int .i8 0,.string ⟨#[]⟩,.int .i8 0,.int .i64 0,.string ⟨#[]⟩,.slice none 0 0]).rowIs w.heap.size 105 ((l.length+1)*16) (Zav 16 (fun i=>if i=l.length then [.int .i8 99,.string Zt,.slice none 0 0,.int .i8 0,.int .i8 0,.string ⟨#[]⟩,.int .i8 0,.int .i64 0,.string ⟨#[]⟩,.slice none 0 0,.int .i8 0,.string ⟨#[]⟩,.int .i8 0,.int .i64 0,.string ⟨#[]⟩,.slice none 0 0]else upC XL.cells [.int .i8 0,.string ⟨#[]⟩,.slice none 0 0,.int .i8 0,.int .i8 0,.string ⟨#[]⟩,.int .i8 0,.int .i64 0,.string ⟨#[]⟩,.slice none 0 0,.int .i8 0,.string ⟨#[]⟩,.int .i8 0,.int .i64 0,.string ⟨#[]⟩,.slice none 0 0] U l.length i))):=ZaM (k:=l.length) (by decide) HR1.out [.int .i8 99,.string Zt,.slice none 0 0,.int .i8 0,.int .i8 0,.string ⟨#[]⟩,.int .i8 0,.int .i64 0,.string ⟨#[]⟩,.slice none 0 0,.int .i8 0,.string ⟨#[]⟩,.int .i8 0,.int .i64 0,.string ⟨#[]⟩,.slice none 0 0] rfl
   have HBn:Hid (Below w.heap.size w (w1.setCells w.heap.size (l.length*16) [.int .i8 99,.string Zt,.slice none 0 0,.int .i8 0,.int .i8 0,.string ⟨#[]⟩,.int .i8 0,.int .i64 0,.string ⟨#[]⟩,.slice none 0 0,.int .i8 0,.string ⟨#[]⟩,.int .i8 0,.int .i64 0,.string ⟨#[]⟩,.slice none 0 0])):=Zy (Nat.le_refl _) _ _ _ bel1
   have HTn:Hid (∀i,i<l.length→(U i).x=(atL l i).x∧TwL (w1.setCells w.heap.size (l.length*16) [.int .i8 99,.string Zt,.slice none 0 0,.int .i8 0,.int .i8 0,.string ⟨#[]⟩,.int .i8 0,.int .i64 0,.string ⟨#[]⟩,.slice none 0 0,.int .i8 0,.string ⟨#[]⟩,.int .i8 0,.int .i64 0,.string ⟨#[]⟩,.slice none 0 0]) (w.heap.size+1) d (U i).x (U i).p):=fun i hi=>by
    obtain⟨h1,h2⟩:=HTW.out i hi;exact⟨h1,Zbs (by omega) _ _ _ (h2.below b1)⟩
   have hst2:(storeVar 105 ⟨w.heap.size,l.length*16,none⟩ (.agg #[.int .i8 99,.string Zt,.slice none 0 0,.int .i8 0,.int .i8 0,.string ⟨#[]⟩,.int .i8 0,.int .i64 0,.string ⟨#[]⟩,.slice none 0 0,.int .i8 0,.string ⟨#[]⟩,.int .i8 0,.int .i64 0,.string ⟨#[]⟩,.slice none 0 0])).run Tryz.prog w1=_:=hst;clear hst;generalize w1.setCells w.heap.size (l.length*16) [.int .i8 99,.string Zt,.slice none 0 0,.int .i8 0,.int .i8 0,.string ⟨#[]⟩,.int .i8 0,.int .i64 0,.string ⟨#[]⟩,.slice none 0 0,.int .i8 0,.string ⟨#[]⟩,.int .i8 0,.int .i64 0,.string ⟨#[]⟩,.slice none 0 0]=W2 at hst2 HN HBn HTn
   have hk1:(l.length:Int)<(l.length:Int)+1:=by omega
   clear b1 HR bel HR1 HTW;obtain⟨MW,hmw⟩:∃MW,Zt=MW:=⟨_,rfl⟩;rw[hmw]at hst2 HN⊢;have HM:Hid _:=hmw;clear hmw;go_wp2;go_ret;have hln:((List.range l.length).map U).length=l.length:=by simp
   refine⟨some ⟨w.heap.size,0,none⟩,(List.range l.length).map U,rfl,HBn.out,hln,fun i hi=>by rw[Zis U hi];exact(HTn.out i hi).1,by rw[hln],⟨w.heap.size,rfl,Nat.le_refl _,World.rowIs.lt HN.out,?_,fun i hi=>?_⟩,fun i hi=>?_⟩
   ·have:=ZaJ HN.out rfl (i:=l.length) (by omega) (by rw[if_pos rfl];rfl);rw[if_pos rfl]at this;rw[HM.out,hln];exact this
   ·rw[hln]at hi;rw[Zis U hi];have:=ZaJ HN.out rfl (i:=i) (by omega) (by simp only[if_neg (show ¬ i=l.length by omega)];exact Zlz (f:=XL.cells) (n:=16) (fun _=>rfl) rfl _ _ _);simp only[if_neg (show ¬ i=l.length by omega),upC,if_pos hi]at this;exact this
   ·rw[hln]at hi;rw[Zis U hi];exact(HTn.out i hi).2.lower (by omega)
end
end Go.Proofs.YtjdnpgpbeppgjaaGreatDoor
