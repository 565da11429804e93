import Derived.Test.YtjdnpgpbeppgjaaGreatDoorA29
import Derived.Test.YtjdnpgpbeppgjaaGreatDoorPqStR
set_option linter.unusedSimpArgs false
set_option linter.unusedVariables false
set_option maxHeartbeats 6400000
set_option maxRecDepth 100000
namespace Go.Proofs.YtjdnpgpbeppgjaaGreatDoor
open Go.RowKit Go.Maps Go.Shelf
attribute [local go_sem ↓] Go.wp_at_zero Go.wp_at_succ
attribute [-go_sem] loadVar storeVar Builtin.append_
theorem Zjo{u:World}{g b off:Nat}{k i m:Int}{a:Option Addr}{n c:Nat}{s:ByteArray}(hR:RL u b 84 [.int .i8 k,.int .i64 i,.int .u32 m,.slice a n c])(h:u.cell? ⟨g,off,none⟩=some (.string s)):g≠b:=by
 rintro rfl;obtain⟨cs,h1,h2,h3⟩:=hR;have h4:cs[off]?=some (.string s):=by simpa[World.cell?,h1]using h
 have h5:off<4:=by
  have h6:=(Array.getElem?_eq_some_iff.1 h4).1;simp at h2;omega
 have h7:=h3 off (by simpa using h5);rw[h4]at h7;have h8:off=0∨off=1∨off=2∨off=3:=by omega
 rcases h8 with rfl | rfl | rfl | rfl<;>simp at h7
theorem Zjp{u u':World}{b:Nat}{k i m:Int}{a:Option Addr}{n c:Nat}{sv:Value}{l:List ByteArray}(hR:RL u b 84 [.int .i8 k,.int .i64 i,.int .u32 m,.slice a n c])(h:Ls u sv l.length (l.flatMap Zm))(hz:u.heap.size≤u'.heap.size)(hb:∀g,g≠b→u'.heap[g]?=u.heap[g]?):Ls u' sv l.length (l.flatMap Zm):=by
 obtain⟨a0,c0,e0,h01,h02,h03⟩:=Z3 h;obtain⟨hn,a',c',hv,h1,h2,hc⟩:=h;refine⟨hn,a',c',hv,h1,h2,fun h0=>?_⟩;obtain⟨g,off,ha,hg,hf⟩:=hc h0;obtain⟨g0,off0,ha0,hg0,hf0⟩:=h03 h0
 have e1:a0=a':=by
  rw[e0]at hv
  injection hv
 have e2:g=g0:=by
  rw[←e1,ha0]at ha
  injection ha with ha
  injection ha with q1 q2 q3
  exact q1.symm
 have hgb:=Zjo hR (hf0 0 h0);rw[←e2]at hgb;exact⟨g,off,ha,Nat.lt_of_lt_of_le hg hz,fun i hi=>(ZJ (hb g hgb) _).trans (hf i hi)⟩
theorem ZbQ{u:World}{b:Nat}{k i m:Int}{a:Option Addr}{n c:Nat}{sv:Value}{l:List ByteArray}(hR:RL u b 84 [.int .i8 k,.int .i64 i,.int .u32 m,.slice a n c])(h:Ls u sv l.length (l.flatMap Zm))(j:Nat)(x:Value):Ls (u.setCell ⟨b,j,none⟩ x) sv l.length (l.flatMap Zm):=
 Zjp hR h (by rw[World.size_setCell];exact Nat.le_refl _) (fun g hg=>heap_setCell_other _ _ _ _ (by show g≠b;exact hg))
theorem ZdV{u:World}{b:Nat}{sv:Value}{l:List ByteArray}(hR:RL u b 84 [.int .i8 0,.int .i64 0,.int .u32 0,.slice none 0 0])(h:Ls u sv l.length (l.flatMap Zm))(k i m:Int)(x:Value):Ls (st4 u b k i m x) sv l.length (l.flatMap Zm):=
 Zjp hR h (by unfold st4;simp only[World.size_setCell];exact Nat.le_refl _) (fun g hg=>by
  unfold st4;rw[heap_setCell_other _ _ _ _ (by show g≠b;exact hg),heap_setCell_other _ _ _ _ (by show g≠b;exact hg),heap_setCell_other _ _ _ _ (by show g≠b;exact hg),heap_setCell_other _ _ _ _ (by show g≠b;exact hg)])
theorem Zqh(u:World)(s:ByteArray):Ls (u.alloc (.cells #[.string s] 9)) (.slice (some ⟨u.heap.size,0,none⟩) 1 1) [s].length ([s].flatMap Zm):=
 ZaC (f:=Zm) (k:=1) (l:=[s]) (by omega) (fun _=>rfl) noS (by simp) (by decide) (by simp) (fun i hi j v hv=>by
  have hi0:i=0:=by simpa using hi
  subst hi0;have hj:j=0:=by have:=(List.getElem?_eq_some_iff.1 hv).1;simp[Zm]at this;omega
  subst hj;have e:Value.string s=v:=by simpa[Zm]using hv
  rw[←e];exact(Zk u #[.string s] 9).at (j:=0) rfl)
theorem ZmC{u:World}{B b j:Nat}{sv x:Value}{n:Nat}{xs:List Value}(h:u.ownsRow B 9 1 sv n xs)(hb:b<B):(u.setCell ⟨b,j,none⟩ x).ownsRow B 9 1 sv n xs:=ownsRow_setCell_below h (a:=⟨b,j,none⟩) hb _
theorem Zls(u:World):Ls u (.slice none 0 0) ([]:List ByteArray).length (([]:List ByteArray).flatMap Zm):=⟨by show 0≤_;omega,none,0,rfl,Nat.le_refl _,by decide,fun h=>absurd (show(0:Nat)<0 from h) (by omega)⟩
theorem ZbD{u:World}{b:Nat}{t:TypeId}{x0 x1 x2 x3:Value}(h:RL u b t [x0,x1,x2,x3])(n:Int):(storeVar 80 ⟨b,0,none⟩ (.int .i8 n)).run Tryz.prog u=.ok () (u.setCell ⟨b,0,none⟩ (.int .i8 n)):=by
 have c:=RL.at h (j:=0) rfl;have fz:=World.rowIs.frozen h 0;rw[storeVar.eq_1];go_simp
theorem ZmD{u:World}{b:Nat}{t:TypeId}{x0 x1 x2 x3:Value}(h:RL u b t [x0,x1,x2,x3])(n:Int):(storeVar 82 ⟨b,2,none⟩ (.int .u32 n)).run Tryz.prog u=.ok () (u.setCell ⟨b,2,none⟩ (.int .u32 n)):=by
 have c:=RL.at h (j:=2) rfl;have fz:=World.rowIs.frozen h 2;rw[storeVar.eq_1];go_simp
theorem ZmE{u:World}{b:Nat}{t:TypeId}{x0 x1 x2 x3:Value}(h:RL u b t [x0,x1,x2,x3])(a:Option Addr)(n c:Nat):(storeVar 26 ⟨b,3,none⟩ (.slice a n c)).run Tryz.prog u=.ok () (u.setCell ⟨b,3,none⟩ (.slice a n c)):=by
 have ce:=RL.at h (j:=3) rfl;have fz:=World.rowIs.frozen h 3;rw[storeVar.eq_1];go_simp
theorem Zcw{u:World}{b:Nat}{x0 x1 x2 x3:Value}(h:RL u b 84 [x0,x1,x2,x3])(k i m:Int)(a:Option Addr)(n c:Nat):(storeVar 84 ⟨b,0,none⟩ (.agg #[.int .i8 k,.int .i64 i,.int .u32 m,.slice a n c])).run Tryz.prog u=.ok () (st4 u b k i m (.slice a n c)):=
 run_storeVar_mid u b 0 84 #[.int .i8 k,.int .i64 i,.int .u32 m,.slice a n c] (by have:=Zb6 h;exact this) (by kernel_rfl) (by simp[Value.oneCell'])
theorem ZkF(u:World)(x:Lit4)(q:LP):(storeVar 105 ⟨u.heap.size,0,none⟩ (.agg #[.int .i8 x.k,.string x.pr,.slice q.a x.ts.length q.c,.int .i8 x.rel,.int .i8 x.l.op,.string x.l.t.v,.int .i8 x.l.t.a.k,.int .i64 x.l.t.a.n,.string x.l.t.a.s,.slice q.la x.l.kids.length q.lc,.int .i8 x.r.op,.string x.r.t.v,.int .i8 x.r.t.a.k,.int .i64 x.r.t.a.n,.string x.r.t.a.s,.slice q.ra x.r.kids.length q.rc])).run Tryz.prog (u.alloc (.cells #[.int .i8 0,.string ⟨#[]⟩,.slice none 0 0,.int .i8 0,.int .i8 0,.string ⟨#[]⟩,.int .i8 0,.int .i64 0,.string ⟨#[]⟩,.slice none 0 0,.int .i8 0,.string ⟨#[]⟩,.int .i8 0,.int .i64 0,.string ⟨#[]⟩,.slice none 0 0] 105))=.ok () (u.alloc (.cells #[.int .i8 x.k,.string x.pr,.slice q.a x.ts.length q.c,.int .i8 x.rel,.int .i8 x.l.op,.string x.l.t.v,.int .i8 x.l.t.a.k,.int .i64 x.l.t.a.n,.string x.l.t.a.s,.slice q.la x.l.kids.length q.lc,.int .i8 x.r.op,.string x.r.t.v,.int .i8 x.r.t.a.k,.int .i64 x.r.t.a.n,.string x.r.t.a.s,.slice q.ra x.r.kids.length q.rc] 105)):=by
 rw[storeVar.eq_1];go_simp
theorem ZmF(u:World)(k:Int):(storeVar 84 ⟨u.heap.size,0,none⟩ (.agg #[.int .i8 0,.int .i64 k,.int .u32 0,.slice none 0 0])).run Tryz.prog (u.alloc (.cells #[.int .i8 0,.int .i64 0,.int .u32 0,.slice none 0 0] 84))=.ok () (u.alloc (.cells #[.int .i8 0,.int .i64 k,.int .u32 0,.slice none 0 0] 84)):=by
 rw[storeVar.eq_1];go_simp
theorem Zn3(s:ByteArray)(u:World):(binOp .neq 9 (.string s) (.string ⟨#[]⟩)).run Tryz.prog u=.ok (.bool (decide (s≠noS))) u:=by
 by_cases h:s=noS
 ·have e:decide (s≠noS)=false:=by simp[h]
  rw[e];subst h;have f1:=Zaa;go_simp
 ·have e:decide (s≠noS)=true:=by simp[h]
  rw[e];have f0:=ZaW h
  have f1:(s.toList==[])=false:=by
   cases e:s.toList with
   | nil=>rw[e]at f0;cases f0
   | cons a b=>rfl
  go_simp
theorem Zjq(a b:Nat)(u:World):(binOp .eql 82 (.int .u32 (a:Int)) (.int .u32 (b:Int))).run Tryz.prog u=.ok (.bool (decide (a=b))) u:=by
 have e:((a:Int)==(b:Int))=decide (a=b):=by
  by_cases h:a=b
  ·rw[h];simp
  ·rw[decide_eq_false h,beq_eq_false_iff_ne];omega
 go_simp
theorem ZdW{u:World}{a:Addr}{v:Value}(h:u.cell? a=some v):(loadVar 23 a).run Tryz.prog u=.ok v u:=by rw[loadVar.eq_1];go_simp
theorem Zhs{u:World}{b:Nat}{t:TypeId}{cs:List Value}(h:RL u b t cs)(hl:cs.length=16):(loadVar 105 ⟨b,0,none⟩).run Tryz.prog u=.ok (.agg cs.toArray) u:=Zan (RL.range h) hl
theorem ZmG{d:Nat}{r:R3}{p:RP}{w:World}{k:Nat}(hR:RIs w (d+1) r p)(hk:k<r.bd.length)(hbn:r.bd.length≤16)(hc:(atL r.bd k).x.ts.length≤24)(hs1:szD (d+1) (atL r.bd k).x.l≤1048576)(hs2:szD (d+1) (atL r.bd k).x.r≤1048576)(hTL:(Zl (d+1) (atL r.bd k).x).length≤1048576){v:Value}{l:List ByteArray}(hl:Ls w v l.length (l.flatMap Zm)) :
  Calls Tryz.prog 28 #[r.val p,.int .i64 (k:Int),v] w fun e w'=>Below w.heap.size w w'∧∃a c,e=.returned (.tuple #[(ZT (d+1) l (atL r.bd k).x k).1.val a c,.bool (ZT (d+1) l (atL r.bd k).x k).2])∧Ls w' (.slice a (ZT (d+1) l (atL r.bd k).x k).1.g.length c) (ZT (d+1) l (atL r.bd k).x k).1.g.length ((ZT (d+1) l (atL r.bd k).x k).1.g.flatMap Zm):=by
 obtain⟨pa,pc,pba,pbc⟩:=p;have hX:=hR.bd.at_is hk;obtain⟨a2,c2,hac2,hd1,hd2,hat2⟩:=hR.bd.form
 injection hac2 with e4 e5 e6
 subst e4 e6;obtain⟨g2,f2,hpb,hg2,hr2⟩:=hat2 (by omega);have hrg:=hr2 k hk;simp only at hpb;subst hpb;generalize atL r.bd k=L at hX hc hs1 hs2 hTL hrg⊢;obtain⟨x,q⟩:=L;unfold XL.cells at hrg;simp only at hX hc hs1 hs2 hTL hrg⊢;unfold R3.val;simp only;have hA2:Below w.heap.size w ((w.alloc (.cells #[.string r.pr,.slice pa r.hd.length pc,.slice (some ⟨g2,f2,none⟩) r.bd.length pbc] 25)).alloc (.cells #[.int .i8 0,.int .i64 0,.int .u32 0,.slice none 0 0] 84)):=(Zp _).trans ((Zp _).mono (by simp))
 have hr3:=RL.below (Zk w #[.string r.pr,.slice pa r.hd.length pc,.slice (some ⟨g2,f2,none⟩) r.bd.length pbc] 25) (Zp (w:=w.alloc (.cells #[.string r.pr,.slice pa r.hd.length pc,.slice (some ⟨g2,f2,none⟩) r.bd.length pbc] 25)) (.cells #[.int .i8 0,.int .i64 0,.int .u32 0,.slice none 0 0] 84));have l0:=ZdW (RL.at hr3 (j:=2) rfl);have lx:=ZeQ (Zu hrg hA2 hg2) rfl;have HTL:=Lib.hid hTL
 clear hTL;have hk0:(0:Int)≤(k:Int):=by omega
 have hlt:(k:Int)<(r.bd.length:Int):=by omega
 have hstF:=ZkF ((w.alloc (.cells #[.string r.pr,.slice pa r.hd.length pc,.slice (some ⟨g2,f2,none⟩) r.bd.length pbc] 25)).alloc (.cells #[.int .i8 0,.int .i64 0,.int .u32 0,.slice none 0 0] 84)) x q;have hstG:=ZmF (((w.alloc (.cells #[.string r.pr,.slice pa r.hd.length pc,.slice (some ⟨g2,f2,none⟩) r.bd.length pbc] 25)).alloc (.cells #[.int .i8 0,.int .i64 0,.int .u32 0,.slice none 0 0] 84)).alloc (.cells #[.int .i8 x.k,.string x.pr,.slice q.a x.ts.length q.c,.int .i8 x.rel,.int .i8 x.l.op,.string x.l.t.v,.int .i8 x.l.t.a.k,.int .i64 x.l.t.a.n,.string x.l.t.a.s,.slice q.la x.l.kids.length q.lc,.int .i8 x.r.op,.string x.r.t.v,.int .i8 x.r.t.a.k,.int .i64 x.r.t.a.n,.string x.r.t.a.s,.slice q.ra x.r.kids.length q.rc] 105)) (k:Int)
 simp only[World.size_alloc]at hstF hstG;go_enter Tryz.func28,Tryz.ntmps28;go_upto_region 3 with fail
 obtain⟨W,hW⟩:∃W,W=((((w.alloc (.cells #[.string r.pr,.slice pa r.hd.length pc,.slice (some ⟨g2,f2,none⟩) r.bd.length pbc] 25)).alloc (.cells #[.int .i8 0,.int .i64 0,.int .u32 0,.slice none 0 0] 84)).alloc (.cells #[.int .i8 x.k,.string x.pr,.slice q.a x.ts.length q.c,.int .i8 x.rel,.int .i8 x.l.op,.string x.l.t.v,.int .i8 x.l.t.a.k,.int .i64 x.l.t.a.n,.string x.l.t.a.s,.slice q.la x.l.kids.length q.lc,.int .i8 x.r.op,.string x.r.t.v,.int .i8 x.r.t.a.k,.int .i64 x.r.t.a.n,.string x.r.t.a.s,.slice q.ra x.r.kids.length q.rc] 105)).alloc (.cells #[.int .i8 0,.int .i64 (k:Int),.int .u32 0,.slice none 0 0] 84)):=⟨_,rfl⟩
 have HB0:Hid (Below w.heap.size w W):=by
  show Below _ _ _;rw[hW];exact(hA2.trans ((Zp _).mono hA2.size)).trans ((Zp _).mono (by simp;omega))
 have HU6:Hid (RL W (w.heap.size+1) 84 [.int .i8 0,.int .i64 0,.int .u32 0,.slice none 0 0]):=by
  have h:=Zk (w.alloc (.cells #[.string r.pr,.slice pa r.hd.length pc,.slice (some ⟨g2,f2,none⟩) r.bd.length pbc] 25)) #[.int .i8 0,.int .i64 0,.int .u32 0,.slice none 0 0] 84;rw[World.size_alloc]at h;show RL _ _ _ _;rw[hW];exact RL.below (RL.below h (Zp _)) (Zp _)
 have HU8:Hid (RL W (w.heap.size+1+1) 105 [.int .i8 x.k,.string x.pr,.slice q.a x.ts.length q.c,.int .i8 x.rel,.int .i8 x.l.op,.string x.l.t.v,.int .i8 x.l.t.a.k,.int .i64 x.l.t.a.n,.string x.l.t.a.s,.slice q.la x.l.kids.length q.lc,.int .i8 x.r.op,.string x.r.t.v,.int .i8 x.r.t.a.k,.int .i64 x.r.t.a.n,.string x.r.t.a.s,.slice q.ra x.r.kids.length q.rc]):=by
  have h:=Zk ((w.alloc (.cells #[.string r.pr,.slice pa r.hd.length pc,.slice (some ⟨g2,f2,none⟩) r.bd.length pbc] 25)).alloc (.cells #[.int .i8 0,.int .i64 0,.int .u32 0,.slice none 0 0] 84)) #[.int .i8 x.k,.string x.pr,.slice q.a x.ts.length q.c,.int .i8 x.rel,.int .i8 x.l.op,.string x.l.t.v,.int .i8 x.l.t.a.k,.int .i64 x.l.t.a.n,.string x.l.t.a.s,.slice q.la x.l.kids.length q.lc,.int .i8 x.r.op,.string x.r.t.v,.int .i8 x.r.t.a.k,.int .i64 x.r.t.a.n,.string x.r.t.a.s,.slice q.ra x.r.kids.length q.rc] 105
  rw[World.size_alloc,World.size_alloc]at h;show RL _ _ _ _;rw[hW];exact RL.below h (Zp _)
 have HU9:Hid (RL W (w.heap.size+1+1+1) 84 [.int .i8 0,.int .i64 (k:Int),.int .u32 0,.slice none 0 0]):=by
  have h:=Zk (((w.alloc (.cells #[.string r.pr,.slice pa r.hd.length pc,.slice (some ⟨g2,f2,none⟩) r.bd.length pbc] 25)).alloc (.cells #[.int .i8 0,.int .i64 0,.int .u32 0,.slice none 0 0] 84)).alloc (.cells #[.int .i8 x.k,.string x.pr,.slice q.a x.ts.length q.c,.int .i8 x.rel,.int .i8 x.l.op,.string x.l.t.v,.int .i8 x.l.t.a.k,.int .i64 x.l.t.a.n,.string x.l.t.a.s,.slice q.la x.l.kids.length q.lc,.int .i8 x.r.op,.string x.r.t.v,.int .i8 x.r.t.a.k,.int .i64 x.r.t.a.n,.string x.r.t.a.s,.slice q.ra x.r.kids.length q.rc] 105)) #[.int .i8 0,.int .i64 (k:Int),.int .u32 0,.slice none 0 0] 84
  rw[World.size_alloc,World.size_alloc,World.size_alloc]at h;show RL _ _ _ _;rw[hW];exact h
 have HLE:Hid (w.heap.size≤w.heap.size+1∧w.heap.size+1<w.heap.size+1+1∧w.heap.size+1+1<w.heap.size+1+1+1):=by show _∧_∧_;omega
 have HKN:Hid (∀u,Below w.heap.size w u→Ls u v l.length (l.flatMap Zm)):=fun u hu=>hl.below hu
 have HXL:Hid (∀u,Below w.heap.size w u→LIs u (d+1) x q):=fun u hu=>hX.below hu
 have HSH:=Lib.hid hc;have HS1:=Lib.hid hs1;have HS2:=Lib.hid hs2
 have HVL:Hid ((vsT [] (Zl (d+1) x)).length≤1048576):=by
  have h1:=Zdd (Zl (d+1) x) [];show _≤_;rw[List.length_nil]at h1;exact Nat.le_trans h1 (by have:=HTL.out;omega)
 obtain⟨VS,hVS⟩:∃VS,vsT [] (Zl (d+1) x)=VS:=⟨_,rfl⟩;rw[←hW];generalize w.heap.size+1+1+1=b9 at HU9 HLE⊢;generalize w.heap.size+1+1=b8 at HU8 HLE⊢;generalize w.heap.size+1=b6 at HU6 HLE⊢;clear hW hA2 hr3 l0 lx hk0 hlt hl hX hc hs1 hs2 hrg hg2 hr2 hstF hstG;have HLV:=Lib.hid (Zcp (d+1) x q W (HXL.out _ HB0.out) (by have:=HSH.out;omega) HS1.out HS2.out);unfold Lit4.val at HLV;rw[hVS]at HLV HVL
 have ll:=Zhs HU8.out rfl;go_wp2_with fail;refine HLV.out.mono ?_;rintro e u5 ⟨sv,rfl,hls,b5⟩;have HV9:=Lib.hid (RL.below HU9.out b5);have HV6:=Lib.hid (RL.below HU6.out b5);have HV8:=Lib.hid (RL.below HU8.out b5);have HBU:Hid (Below w.heap.size w u5):=HB0.out.trans (b5.mono HB0.out.size);have HSV:=Lib.hid hls;clear HLV hls b5 ll HB0 HU9 HU6 HU8;have HU9:=HV9;have HU6:=HV6;have HU8:=HV8;clear HV9 HV6 HV8
 by_cases h3:x.k=3
 ·have hkn:(x.k != 3)=false:=by rw[h3];rfl
  have hk2:(x.k==2)=false:=by rw[h3];rfl
  have hk3:(x.k==3)=true:=by rw[h3];rfl
  have lk:=Zde (RL.at HU8.out (j:=0) rfl)
  have HS3:Hid (ZT (d+1) l x k=if Z5 VS l=true then(⟨5,(k:Int),0,[]⟩,true)else(⟨6,(k:Int),0,[ZN (d+1) x l]⟩,decide (ZN (d+1) x l≠noS))):=by
   show _=_;unfold ZT;rw[if_neg (by rw[h3];decide),if_pos h3,hVS]
  have H3:=Lib.hid h3;clear h3;go_upto_region 11 with fail
  clear hkn hk2 hk3 lk;have hsk:=ZbD HU9.out 5;have HV9:Hid (RL (u5.setCell ⟨b9,0,none⟩ (.int .i8 5)) b9 84 [.int .i8 5,.int .i64 (k:Int),.int .u32 0,.slice none 0 0]):=HU9.out.set 0 _;have HV6:Hid (RL (u5.setCell ⟨b9,0,none⟩ (.int .i8 5)) b6 84 [.int .i8 0,.int .i64 0,.int .u32 0,.slice none 0 0]):=HU6.out.other (by have:=HLE.out;omega) _;have HV8:Hid (RL (u5.setCell ⟨b9,0,none⟩ (.int .i8 5)) b8 105 [.int .i8 x.k,.string x.pr,.slice q.a x.ts.length q.c,.int .i8 x.rel,.int .i8 x.l.op,.string x.l.t.v,.int .i8 x.l.t.a.k,.int .i64 x.l.t.a.n,.string x.l.t.a.s,.slice q.la x.l.kids.length q.lc,.int .i8 x.r.op,.string x.r.t.v,.int .i8 x.r.t.a.k,.int .i64 x.r.t.a.n,.string x.r.t.a.s,.slice q.ra x.r.kids.length q.rc]):=HU8.out.other (by have:=HLE.out;omega) _
  have HVB:Hid (Below w.heap.size w (u5.setCell ⟨b9,0,none⟩ (.int .i8 5))):=HBU.out.setCell (p:=⟨b9,0,none⟩) (by have:=HLE.out;show w.heap.size≤b9;omega) _;have HVS:Hid (Ls (u5.setCell ⟨b9,0,none⟩ (.int .i8 5)) sv VS.length (VS.flatMap Zm)):=ZbQ HU9.out HSV.out 0 _;generalize u5.setCell ⟨b9,0,none⟩ (.int .i8 5)=U at hsk HV9 HV6 HV8 HVB HVS;clear HU9 HU6 HU8 HBU HSV;have HU9:=HV9;have HU6:=HV6
  have HU8:=HV8;have HBU:=HVB;have HSV:=HVS;clear HV9 HV6 HV8 HVB HVS;have HAL:=Lib.hid (Zct HSV.out (HKN.out _ HBU.out))
  cases hall:Z5 VS l
  case true=>
   rw[hall]at HAL HS3
   have HSM:Hid (ZT (d+1) l x k=(⟨5,(k:Int),0,[]⟩,true)):=by
    show _=_;rw[HS3.out,if_pos rfl]
   go_wp2_with fail;refine HAL.out.mono ?_;rintro e u6 ⟨rfl,hu6⟩;rw[hu6];clear hu6;clear HAL hsk HS3;have HGV:Hid (Ls U (.slice none 0 0) ([]:List ByteArray).length (([]:List ByteArray).flatMap Zm)):=Zls _;have ls9:=ZG HU9.out;have hst:=Zcw HU6.out 5 (k:Int) 0 none 0 0;have HZ6:Hid (RL (st4 U b6 5 (k:Int) 0 (.slice none 0 0)) b6 84 [.int .i8 5,.int .i64 (k:Int),.int .u32 0,.slice none 0 0]):=Za3 HU6.out _ _ _ _
   have HBZ:Hid (Below w.heap.size w (st4 U b6 5 (k:Int) 0 (.slice none 0 0))):=ZW HBU.out HLE.out.1 _ _ _ _;have HGZ:Hid (Ls (st4 U b6 5 (k:Int) 0 (.slice none 0 0)) (.slice none 0 0) (([]:List ByteArray)).length ((([]:List ByteArray)).flatMap Zm)):=ZdV HU6.out HGV.out _ _ _ _;generalize (st4 U b6 5 (k:Int) 0 (.slice none 0 0))=Z at hst HZ6 HBZ HGZ;clear HU6 HU9 HBU HGV;go_wp2;refine bodyPost_ret (Z8 Tryz.results28 (v:=.agg #[.int .i8 5,.int .i64 (k:Int),.int .u32 0,.slice none 0 0]) (u:=.bool true) rfl rfl (ZG HZ6.out)) rfl ?_
   refine⟨HBZ.out,none,0,?_,?_⟩
   ·rw[HSM.out];rfl
   ·rw[HSM.out];exact HGZ.out
  case false=>
   rw[hall]at HAL HS3;rw[if_neg (by decide)]at HS3;go_wp2_with fail;refine HAL.out.mono ?_;rintro e u6 ⟨rfl,hu6⟩;rw[hu6];clear hu6;clear HAL hsk;have hsk:=ZbD HU9.out 6;have HV9:Hid (RL (U.setCell ⟨b9,0,none⟩ (.int .i8 6)) b9 84 [.int .i8 6,.int .i64 (k:Int),.int .u32 0,.slice none 0 0]):=HU9.out.set 0 _;have HV6:Hid (RL (U.setCell ⟨b9,0,none⟩ (.int .i8 6)) b6 84 [.int .i8 0,.int .i64 0,.int .u32 0,.slice none 0 0]):=HU6.out.other (by have:=HLE.out;omega) _
   have HV8:Hid (RL (U.setCell ⟨b9,0,none⟩ (.int .i8 6)) b8 105 [.int .i8 x.k,.string x.pr,.slice q.a x.ts.length q.c,.int .i8 x.rel,.int .i8 x.l.op,.string x.l.t.v,.int .i8 x.l.t.a.k,.int .i64 x.l.t.a.n,.string x.l.t.a.s,.slice q.la x.l.kids.length q.lc,.int .i8 x.r.op,.string x.r.t.v,.int .i8 x.r.t.a.k,.int .i64 x.r.t.a.n,.string x.r.t.a.s,.slice q.ra x.r.kids.length q.rc]):=HU8.out.other (by have:=HLE.out;omega) _
   have HVB:Hid (Below w.heap.size w (U.setCell ⟨b9,0,none⟩ (.int .i8 6))):=HBU.out.setCell (p:=⟨b9,0,none⟩) (by have:=HLE.out;show w.heap.size≤b9;omega) _;have HVS:Hid (Ls (U.setCell ⟨b9,0,none⟩ (.int .i8 6)) sv VS.length (VS.flatMap Zm)):=ZbQ HU9.out HSV.out 0 _;generalize U.setCell ⟨b9,0,none⟩ (.int .i8 6)=U7 at hsk HV9 HV6 HV8 HVB HVS;clear HU9 HU6 HU8 HBU HSV;have HU9:=HV9;have HU6:=HV6
   have HU8:=HV8;have HBU:=HVB;have HSV:=HVS;clear HV9 HV6 HV8 HVB HVS;have HSE:=Lib.hid (Zhr (HXL.out _ HBU.out) HS1.out HS2.out (HKN.out _ HBU.out));unfold Lit4.val at HSE;have ll:=Zhs HU8.out rfl;generalize ZN (d+1) x l=s at HSE HS3;go_wp2_with fail;refine HSE.out.mono ?_;rintro e u8 ⟨rfl,b8'⟩;have hB8:Below w.heap.size w u8:=HBU.out.trans (b8'.mono HBU.out.size);have hb9:b9<u8.heap.size:=Nat.lt_of_lt_of_le HU9.out.lt b8'.size
   have hA:=Zp (w:=u8) (.cells #[.string s] 9);have hR9:=RL.below (RL.below HU9.out b8') hA;have hR6:=RL.below (RL.below HU6.out b8') hA;have hss:=ZmE hR9 (some ⟨u8.heap.size,0,none⟩) 1 1;have hrl:=Zk u8 #[.string s] 9;have HG1:Hid (Ls ((u8.alloc (.cells #[.string s] 9)).setCell ⟨b9,3,none⟩ (.slice (some ⟨u8.heap.size,0,none⟩) 1 1)) (.slice (some ⟨u8.heap.size,0,none⟩) 1 1) [s].length ([s].flatMap Zm)):=ZbQ hR9 (Zqh u8 s) 3 _
   have HV9:Hid (RL ((u8.alloc (.cells #[.string s] 9)).setCell ⟨b9,3,none⟩ (.slice (some ⟨u8.heap.size,0,none⟩) 1 1)) b9 84 [.int .i8 6,.int .i64 (k:Int),.int .u32 0,.slice (some ⟨u8.heap.size,0,none⟩) 1 1]):=hR9.set 3 _;have HV6:Hid (RL ((u8.alloc (.cells #[.string s] 9)).setCell ⟨b9,3,none⟩ (.slice (some ⟨u8.heap.size,0,none⟩) 1 1)) b6 84 [.int .i8 0,.int .i64 0,.int .u32 0,.slice none 0 0]):=hR6.other (by have:=HLE.out;omega) _
   have HVB:Hid (Below w.heap.size w ((u8.alloc (.cells #[.string s] 9)).setCell ⟨b9,3,none⟩ (.slice (some ⟨u8.heap.size,0,none⟩) 1 1))):=(hB8.trans (hA.mono hB8.size)).setCell (p:=⟨b9,3,none⟩) (by have:=HLE.out;show w.heap.size≤b9;omega) _;have HLX:Hid (RL ((u8.alloc (.cells #[.string s] 9)).setCell ⟨b9,3,none⟩ (.slice (some ⟨u8.heap.size,0,none⟩) 1 1)) u8.heap.size 9 [.string s]):=hrl.other (by omega) _
   clear HU9 HU6 HU8 HBU HSV HSE b8' hB8 hA hrl ll hsk;generalize (u8.alloc (.cells #[.string s] 9)).setCell ⟨b9,3,none⟩ (.slice (some ⟨u8.heap.size,0,none⟩) 1 1)=U8 at HG1 HV9 HV6 HVB HLX hss;go_upto_region 16 with fail
   have HSM:Hid (ZT (d+1) l x k=(⟨6,(k:Int),0,[s]⟩,decide (s≠noS))):=HS3.out;have hg9:u8.heap.size≠b6:=by have:=HLE.out;omega
   have H96:Hid (b9≠b6):=by have:=HLE.out;show _≠_;omega
   generalize u8.heap.size=g at HG1 HV9 HLX hg9 hss⊢;clear HS3 hR9 hR6 hss;refine wp_region_noPanic ?_;refine wp_region_held (S:=fun u=>u=U8.drew∨u=st4 U8.drew b6 6 (k:Int) 0 (.slice (some ⟨g,0,none⟩) 1 1)) (by kernel_rfl) ?_;refine ZqB (w5:=U8) (S:=fun u=>u=U8.drew∨u=st4 U8.drew b6 6 (k:Int) 0 (.slice (some ⟨g,0,none⟩) 1 1)) (b6:=b6) (b9:=b9) (g:=g) (cc:=1) (k9:=6) (i9:=(k:Int)) (m9:=0) (a9:=some ⟨g,0,none⟩) (n9:=1) (c9:=1) (s:=s) (nb:=decide (s≠noS)) (t0:=.int .i8 0) (t1:=.int .i64 0) (t2:=.int .u32 0) (t3:=.slice none 0 0) rfl rfl rfl rfl rfl rfl rfl rfl (by kernel_rfl) (by kernel_rfl) (by kernel_rfl) (by kernel_rfl) (by intros;assumption) (by simp) rfl rfl (.inl rfl) (.inr rfl) (RL.below HV6.out (Below.refl _ _).drew) ?_ ?_ ?_ (Zn3 s) ?_
   ·rintro u (rfl | rfl)
    ·exact ZG (RL.below HV9.out (Below.refl _ _).drew)
    ·exact ZG (Zbj (RL.below HV9.out (Below.refl _ _).drew) H96.out _ _ _ _)
   ·rintro u (rfl | rfl)
    ·exact Zay (RL.at (RL.below HV9.out (Below.refl _ _).drew) (j:=3) rfl)
    ·exact Zay (RL.at (Zbj (RL.below HV9.out (Below.refl _ _).drew) H96.out _ _ _ _) (j:=3) rfl)
   ·rintro u (rfl | rfl)
    ·exact ZL (RL.at (RL.below HLX.out (Below.refl _ _).drew) (j:=0) rfl)
    ·exact ZL (RL.at (Zbj (RL.below HLX.out (Below.refl _ _).drew) hg9 _ _ _ _) (j:=0) rfl)
   rintro wc rfl;refine NoPanic.normal ?_
   rename_i hK
   refine hK _ _ ?_;simp (config:={maxSteps:=8000000}) only[Act.put,List.getElem_toArray,List.getElem_cons_zero,List.getElem_cons_succ,List.setIfInBounds_toArray,List.set_cons_succ,List.set_cons_zero];have HZ6:Hid (RL (st4 U8.drew b6 6 (k:Int) 0 (.slice (some ⟨g,0,none⟩) 1 1)) b6 84 [.int .i8 6,.int .i64 (k:Int),.int .u32 0,.slice (some ⟨g,0,none⟩) 1 1]):=Za3 (RL.below HV6.out (Below.refl _ _).drew) _ _ _ _
   have HBZ:Hid (Below w.heap.size w (st4 U8.drew b6 6 (k:Int) 0 (.slice (some ⟨g,0,none⟩) 1 1))):=ZW HVB.out.drew HLE.out.1 _ _ _ _;have HGZ:Hid (Ls (st4 U8.drew b6 6 (k:Int) 0 (.slice (some ⟨g,0,none⟩) 1 1)) (.slice (some ⟨g,0,none⟩) 1 1) [s].length ([s].flatMap Zm)):=ZdV (RL.below HV6.out (Below.refl _ _).drew) (HG1.out.below (Below.refl _ _).drew) _ _ _ _;generalize st4 U8.drew b6 6 (k:Int) 0 (.slice (some ⟨g,0,none⟩) 1 1)=Z at HZ6 HBZ HGZ⊢
   clear hK HV6 HV9 HVB HLX HG1;go_wp2;refine bodyPost_ret (Z8 Tryz.results28 (v:=.agg #[.int .i8 6,.int .i64 (k:Int),.int .u32 0,.slice (some ⟨g,0,none⟩) 1 1]) (u:=.bool (decide (s≠noS))) rfl rfl (ZG HZ6.out)) rfl ?_;refine⟨HBZ.out,(some ⟨g,0,none⟩),1,?_,?_⟩
   ·rw[HSM.out];rfl
   ·rw[HSM.out];exact HGZ.out
 ·have hkn:(x.k != 3)=true:=by simpa using h3
  have hk3:(x.k==3)=false:=by simpa using h3
  have lk:=Zde (RL.at HU8.out (j:=0) rfl)
  have lat:=Zja (cs:=[.string x.pr,.slice q.a x.ts.length q.c]) (g:=b8) (o:=1) (u:=u5) (fun j v hv=>by
   have hj:j<2:=(List.getElem?_eq_some_iff.1 hv).1;have hj6:j=0∨j=1:=by omega
   rcases hj6 with rfl | rfl<;>exact RL.at HU8.out hv) rfl
  have HCO:=Lib.hid (Zif (pr:=x.pr) (HXL.out _ HBU.out).ts HSH.out (HKN.out _ HBU.out));obtain⟨cm,hcm⟩:∃cm,cm=Zaz l x.ts x.ts.length:=⟨_,rfl⟩;rw[←hcm]at HCO;have HCM:Hid (cm=Zaz l x.ts x.ts.length):=hcm;clear hcm;have H3:=Lib.hid h3;clear h3;go_wp2_with fail;refine HCO.out.mono ?_;rintro e u6 ⟨rfl,b6'⟩;have hR9:=RL.below HU9.out b6';have hB6:Below w.heap.size w u6:=HBU.out.trans (b6'.mono HBU.out.size)
  have hsm:=ZmD hR9 (cm:Int);have HV9:Hid (RL (u6.setCell ⟨b9,2,none⟩ (.int .u32 (cm:Int))) b9 84 [.int .i8 0,.int .i64 (k:Int),.int .u32 (cm:Int),.slice none 0 0]):=hR9.set 2 _;have HV6:Hid (RL (u6.setCell ⟨b9,2,none⟩ (.int .u32 (cm:Int))) b6 84 [.int .i8 0,.int .i64 0,.int .u32 0,.slice none 0 0]):=(RL.below HU6.out b6').other (by have:=HLE.out;omega) _;have HV8:Hid (RL (u6.setCell ⟨b9,2,none⟩ (.int .u32 (cm:Int))) b8 105 [.int .i8 x.k,.string x.pr,.slice q.a x.ts.length q.c,.int .i8 x.rel,.int .i8 x.l.op,.string x.l.t.v,.int .i8 x.l.t.a.k,.int .i64 x.l.t.a.n,.string x.l.t.a.s,.slice q.la x.l.kids.length q.lc,.int .i8 x.r.op,.string x.r.t.v,.int .i8 x.r.t.a.k,.int .i64 x.r.t.a.n,.string x.r.t.a.s,.slice q.ra x.r.kids.length q.rc]):=(RL.below HU8.out b6').other (by have:=HLE.out;omega) _
  have HVB:Hid (Below w.heap.size w (u6.setCell ⟨b9,2,none⟩ (.int .u32 (cm:Int)))):=hB6.setCell (p:=⟨b9,2,none⟩) (by have:=HLE.out;show w.heap.size≤b9;omega) _;have HVS:Hid (Ls (u6.setCell ⟨b9,2,none⟩ (.int .u32 (cm:Int))) sv VS.length (VS.flatMap Zm)):=ZbQ hR9 (HSV.out.below b6') 2 _;generalize u6.setCell ⟨b9,2,none⟩ (.int .u32 (cm:Int))=U at hsm HV9 HV6 HV8 HVB HVS;clear HU9 HU6 HU8 HBU HSV HCO b6' hR9 hB6 lk lat
  have HU9:=HV9;have HU6:=HV6;have HU8:=HV8;have HBU:=HVB;have HSV:=HVS;clear HV9 HV6 HV8 HVB HVS;have lk:=Zde (RL.at HU8.out (j:=0) rfl)
  by_cases h2:x.k=2
  ·have hk2:(x.k==2)=true:=by rw[h2];rfl
   have HSM:Hid (ZT (d+1) l x k=(⟨4,(k:Int),(cm:Int),[]⟩,Z5 VS l)):=by
    show _=_;unfold ZT;rw[if_pos h2,hVS,HCM.out]
   clear h2 hkn;go_upto_region 8 with fail
   clear hk2 hk3 lk hsm;have hsk:=ZbD HU9.out 4;have HV9:Hid (RL (U.setCell ⟨b9,0,none⟩ (.int .i8 4)) b9 84 [.int .i8 4,.int .i64 (k:Int),.int .u32 (cm:Int),.slice none 0 0]):=HU9.out.set 0 _;have HV6:Hid (RL (U.setCell ⟨b9,0,none⟩ (.int .i8 4)) b6 84 [.int .i8 0,.int .i64 0,.int .u32 0,.slice none 0 0]):=HU6.out.other (by have:=HLE.out;omega) _;have HV8:Hid (RL (U.setCell ⟨b9,0,none⟩ (.int .i8 4)) b8 105 [.int .i8 x.k,.string x.pr,.slice q.a x.ts.length q.c,.int .i8 x.rel,.int .i8 x.l.op,.string x.l.t.v,.int .i8 x.l.t.a.k,.int .i64 x.l.t.a.n,.string x.l.t.a.s,.slice q.la x.l.kids.length q.lc,.int .i8 x.r.op,.string x.r.t.v,.int .i8 x.r.t.a.k,.int .i64 x.r.t.a.n,.string x.r.t.a.s,.slice q.ra x.r.kids.length q.rc]):=HU8.out.other (by have:=HLE.out;omega) _
   have HVB:Hid (Below w.heap.size w (U.setCell ⟨b9,0,none⟩ (.int .i8 4))):=HBU.out.setCell (p:=⟨b9,0,none⟩) (by have:=HLE.out;show w.heap.size≤b9;omega) _;have HVS:Hid (Ls (U.setCell ⟨b9,0,none⟩ (.int .i8 4)) sv VS.length (VS.flatMap Zm)):=ZbQ HU9.out HSV.out 0 _;generalize U.setCell ⟨b9,0,none⟩ (.int .i8 4)=U7 at hsk HV9 HV6 HV8 HVB HVS;clear HU9 HU6 HU8 HBU HSV;have HU9:=HV9;have HU6:=HV6
   have HU8:=HV8;have HBU:=HVB;have HSV:=HVS;clear HV9 HV6 HV8 HVB HVS;go_upto_region 9 with fail
   have HUD:Hid (Below w.heap.size w U7.drew):=HBU.out.drew;have H69:=Lib.hid (RL.below HU6.out (Below.refl _ _).drew);have H99:=Lib.hid (RL.below HU9.out (Below.refl _ _).drew);have HSD:Hid (Ls U7.drew sv VS.length (VS.flatMap Zm)):=HSV.out.below (Below.refl _ _).drew;have H96:Hid (b9≠b6):=by have:=HLE.out;show _≠_;omega
   clear hsk;refine wp_region_noPanic ?_;refine wp_region_held (S:=fun u=>u=U7.drew∨u=st4 U7.drew b6 4 (k:Int) (cm:Int) (.slice none 0 0)) (by kernel_rfl) ?_;refine ZqX (w5:=U7) (S:=fun u=>u=U7.drew∨u=st4 U7.drew b6 4 (k:Int) (cm:Int) (.slice none 0 0)) (b6:=b6) (b9:=b9) (k9:=4) (i9:=(k:Int)) (m9:=(cm:Int)) (a9:=none) (n9:=0) (c9:=0) (vv:=sv) (kv:=v) (pb:=Z5 VS l) (t0:=.int .i8 0) (t1:=.int .i64 0) (t2:=.int .u32 0) (t3:=.slice none 0 0) rfl rfl rfl rfl rfl rfl (by kernel_rfl) (by kernel_rfl) (by kernel_rfl) (by kernel_rfl) (by kernel_rfl) (by intros;assumption) (by simp) rfl rfl rfl rfl (.inl rfl) (.inr rfl) H69.out ?_ ?_ ?_
   ·rintro u (rfl | rfl)
    ·exact ZG H99.out
    ·exact ZG (Zbj H99.out H96.out _ _ _ _)
   ·rintro u (rfl | rfl)
    ·exact Zct HSD.out (HKN.out _ HUD.out)
    ·exact Zct (ZdV H69.out HSD.out _ _ _ _) (HKN.out _ (ZW HUD.out HLE.out.1 _ _ _ _))
   refine NoPanic.normal ?_
   rename_i hK
   refine hK _ _ ?_;simp (config:={maxSteps:=8000000}) only[Act.put,List.getElem_toArray,List.getElem_cons_zero,List.getElem_cons_succ,List.setIfInBounds_toArray,List.set_cons_succ,List.set_cons_zero];have HZ6:Hid (RL (st4 U7.drew b6 4 (k:Int) (cm:Int) (.slice none 0 0)) b6 84 [.int .i8 4,.int .i64 (k:Int),.int .u32 (cm:Int),.slice none 0 0]):=Za3 H69.out _ _ _ _;have HBZ:Hid (Below w.heap.size w (st4 U7.drew b6 4 (k:Int) (cm:Int) (.slice none 0 0))):=ZW HUD.out HLE.out.1 _ _ _ _
   have HGZ:Hid (Ls (st4 U7.drew b6 4 (k:Int) (cm:Int) (.slice none 0 0)) (.slice none 0 0) ([]:List ByteArray).length (([]:List ByteArray).flatMap Zm)):=Zls _;generalize st4 U7.drew b6 4 (k:Int) (cm:Int) (.slice none 0 0)=Z at HZ6 HBZ HGZ⊢;clear hK H69 H99 HSD HUD HU9 HU6 HU8 HBU HSV;generalize Z5 VS l=pb at HSM⊢;go_wp2;refine bodyPost_ret (Z8 Tryz.results28 (v:=.agg #[.int .i8 4,.int .i64 (k:Int),.int .u32 (cm:Int),.slice none 0 0]) (u:=.bool pb) rfl rfl (ZG HZ6.out)) rfl ?_
   refine⟨HBZ.out,none,0,?_,?_⟩
   ·rw[HSM.out];rfl
   ·rw[HSM.out];exact HGZ.out
  ·have hk2:(x.k==2)=false:=by simpa using h2
   obtain⟨KR,hKR⟩:∃KR,KR=Zhf cm x.ts.length:=⟨_,rfl⟩
   have HSM:Hid (ZT (d+1) l x k=(⟨KR,(k:Int),(cm:Int),ZA l VS⟩,true)):=by
    show _=_;unfold ZT;rw[if_neg h2,if_neg H3.out,hVS,hKR,HCM.out]
   have HKR:=Lib.hid hKR;clear h2 hkn hKR;have HT0:Hid (RL U b9 84 [.int .i8 0,.int .i64 (k:Int),.int .u32 (cm:Int),.slice none (ZA l (VS.take 0)).length 0]∧U.ownsRow U.heap.size 9 1 (.slice none (ZA l (VS.take 0)).length 0) (ZA l (VS.take 0)).length ((ZA l (VS.take 0)).flatMap Zm)):=⟨HU9.out,World.ownsRow_nil _ _ _ _⟩;obtain⟨va,vc,hsv,hvc1,hvc2,hvat⟩:=Z3 HSV.out;subst hsv
   have HVA:Hid (0<VS.length→∃g off,va=some ⟨g,off,none⟩∧g<U.heap.size∧g≠b9∧∀i,i<VS.length→U.cell? ⟨g,off+i,none⟩=some (.string (atS VS i))):=fun h0=>by
    obtain⟨g,off,e1,e2,e3⟩:=hvat h0;exact⟨g,off,e1,e2,Zjo HU9.out (e3 0 h0),e3⟩
   unfold maxLen at hvc2;clear hvat;go_upto_region 17 with fail
   clear hk2 hk3 lk hsm;go_wp2;go_loopw [11] (fun i wr=>∃(j:Nat) (ga:Option Addr) (gc:Nat),j≤VS.length∧i=.int .i64 (j:Int)∧Hid (RL wr b9 84 [.int .i8 0,.int .i64 (k:Int),.int .u32 (cm:Int),.slice ga (ZA l (VS.take j)).length gc]∧wr.ownsRow U.heap.size 9 1 (.slice ga (ZA l (VS.take j)).length gc) (ZA l (VS.take j)).length ((ZA l (VS.take j)).flatMap Zm))∧Hid (∀t,t<U.heap.size→t≠b9→wr.heap[t]?=U.heap[t]?)∧Hid (Below w.heap.size w wr)∧Hid (U.heap.size≤wr.heap.size)) (fun i _=>VS.length-(intOf i).toNat)
   case atStart=>exact⟨0,none,0,Nat.zero_le _,rfl,HT0.out,fun _ _ _=>rfl,HBU.out,Nat.le_refl _⟩
   case round=>
    clear HT0;obtain⟨j,ga,gc,hj,rfl,HRO,HNB,HBW,HZW⟩:=hrel
    by_cases hlt:j<VS.length
    ·have hlt':(j:Int)<(VS.length:Int):=by omega
     have hj0:(0:Int)≤(j:Int):=by omega
     obtain⟨g,off,rfl,hg,hgb,hce⟩:=HVA.out (by omega);have hcw:wr.cell? ⟨g,off+j,none⟩=some (.string (atS VS j)):=(ZJ (HNB.out g hg hgb) _).trans (hce j hlt);have l1:=ZL hcw;have HH:=Lib.hid (Zcs (HKN.out _ HBW.out) (atS VS j));have HLT:=Lib.hid (ZfR (ss:=l) hlt);have HLQ:Hid ((ZA l (VS.take j)).length≤1048576):=Nat.le_trans (ZbU _ _) (by rw[List.length_take];have:=HVL.out;omega)
     have HCW:=Lib.hid hcw;generalize ZA l (VS.take j)=out at HRO HLT HLQ⊢;generalize atS VS j=s at l1 HH HLT HCW;clear hce hcw
     cases hb:inB l s
     case true=>
      rw[hb]at HH HLT;rw[if_pos rfl]at HLT;clear hb;go_wp2_with fail;refine HH.out.mono ?_;rintro e u8 ⟨rfl,hu8⟩;rw[hu8];clear hu8 HH;go_wp2;go_roundw
      case rel=>exact⟨j+1,ga,gc,by omega,by go_num,by rw[HLT.out];exact HRO.out,HNB.out,HBW.out,HZW.out⟩
      case measure=>simp[intOf];omega
     case false=>
      rw[hb]at HH HLT;rw[if_neg (by decide)]at HLT;clear hb;go_wp2_with fail;refine HH.out.mono ?_;rintro e u8 ⟨rfl,hu8⟩;rw[hu8];clear hu8 HH l1;go_upto_region 21 with fail
      have HR9d:=Lib.hid (RL.below HRO.out.1 (Below.refl _ _).drew);have HOd:=Lib.hid (Zn HRO.out.2 (Below.refl _ _).drew);have HCd:Hid (wr.drew.cell? ⟨g,off+j,none⟩=some (.string s)):=HCW.out;obtain⟨a6,c6,w6,hrun,hown6,hb6⟩:=Zh7 (w0:=wr.drew) (B:=U.heap.size) s HOd.out (Below.refl _ _) HZW.out (by have:=HLQ.out;omega);have hAl:=Zp (w:=wr.drew) (.cells #[.string s] 9);have h9U:b9<U.heap.size:=HU9.out.lt
      have hR96:RL w6 b9 84 [.int .i8 0,.int .i64 (k:Int),.int .u32 (cm:Int),.slice ga out.length gc]:=World.rowIs.of_block HR9d.out (hb6.block b9 h9U)
      have HF:Hid (RL (w6.setCell ⟨b9,3,none⟩ (.slice a6 (out.length+1) c6)) b9 84 [.int .i8 0,.int .i64 (k:Int),.int .u32 (cm:Int),.slice a6 (out++[s]).length c6]∧(w6.setCell ⟨b9,3,none⟩ (.slice a6 (out.length+1) c6)).ownsRow U.heap.size 9 1 (.slice a6 (out++[s]).length c6) (out++[s]).length ((out++[s]).flatMap Zm)∧(∀t,t<U.heap.size→t≠b9→(w6.setCell ⟨b9,3,none⟩ (.slice a6 (out.length+1) c6)).heap[t]?=U.heap[t]?)∧Below w.heap.size w (w6.setCell ⟨b9,3,none⟩ (.slice a6 (out.length+1) c6))∧U.heap.size≤(w6.setCell ⟨b9,3,none⟩ (.slice a6 (out.length+1) c6)).heap.size):=by
       refine⟨?_,ZmC hown6 h9U,fun t ht htb=>?_,?_,?_⟩
       ·have:=hR96.set 3 (.slice a6 (out.length+1) c6);rw[show(out++[s]).length=out.length+1 by simp];exact this
       ·rw[heap_setCell_other _ _ _ _ (by show t≠b9;exact htb),hb6.block t ht];exact HNB.out t ht htb
       ·exact(HBW.out.drew.trans (hb6.mono (by have:=HBU.out.size;exact this))).setCell (p:=⟨b9,3,none⟩) (by have:=HLE.out;show w.heap.size≤b9;omega) _
       ·have h1:=hb6.size;have h2:=HZW.out;rw[World.size_setCell];exact Nat.le_trans h2 h1
      have HLX:Hid (∀u,(u=wr.drew∨u=wr.drew.alloc (.cells #[.string s] 9)∨u=w6∨u=w6.setCell ⟨b9,3,none⟩ (.slice a6 (out.length+1) c6))→(loadVar 9 ⟨g,off+j,none⟩).run Tryz.prog u=.ok (.string s) u):=by
       have c6':w6.cell? ⟨g,off+j,none⟩=some (.string s):=(ZJ (hb6.block g hg) _).trans HCd.out;rintro u (rfl | rfl | rfl | rfl)
       ·exact ZL HCd.out
       ·exact ZL ((hAl.cell (p:=⟨g,off+j,none⟩) (Nat.lt_of_lt_of_le hg HZW.out)).trans HCd.out)
       ·exact ZL c6'
       ·exact ZL ((ZJ (heap_setCell_other _ _ _ _ (by show g≠b9;exact hgb)) _).trans c6')
      refine wp_region_noPanic ?_;refine wp_region_held (S:=fun u=>u=wr.drew∨u=wr.drew.alloc (.cells #[.string s] 9)∨u=w6∨u=w6.setCell ⟨b9,3,none⟩ (.slice a6 (out.length+1) c6)) (by kernel_rfl) ?_;refine ZqC (w5:=wr) (S:=fun u=>u=wr.drew∨u=wr.drew.alloc (.cells #[.string s] 9)∨u=w6∨u=w6.setCell ⟨b9,3,none⟩ (.slice a6 (out.length+1) c6)) (b9:=b9) (g:=g) (off:=off) (n:=VS.length) (c:=vc) (j:=j) (gn:=out.length) (gc:=gc) (n6:=out.length+1) (c6:=c6) (ga:=ga) (a6:=a6) (s:=s) (w6:=w6) rfl rfl rfl rfl rfl rfl rfl rfl rfl rfl (by kernel_rfl) (by kernel_rfl) (by kernel_rfl) (by kernel_rfl) (by kernel_rfl) (by kernel_rfl) (by kernel_rfl) (by kernel_rfl) (by kernel_rfl) (by kernel_rfl) (by kernel_rfl) (by intros;assumption) (by simp) rfl rfl rfl (.inl rfl) rfl hlt (Zay (RL.at HR9d.out (j:=3) rfl)) (Zay (RL.at (RL.below HR9d.out hAl) (j:=3) rfl)) HLX.out (.inr (.inl rfl)) hrun (.inr (.inr (.inl rfl))) hR96 (.inr (.inr (.inr rfl))) ?_
      refine NoPanic.normal ?_
      rename_i hK
      refine hK _ _ ?_;simp (config:={maxSteps:=8000000}) only[Act.put,List.getElem_toArray,List.getElem_cons_zero,List.getElem_cons_succ,List.setIfInBounds_toArray,List.set_cons_succ,List.set_cons_zero];generalize w6.setCell ⟨b9,3,none⟩ (.slice a6 (out.length+1) c6)=W9 at HF⊢;clear hK hrun hown6 hb6 hAl hR96 HLX HR9d HOd HRO HNB HBW HZW HCW HCd;go_wp2;go_roundw
      case rel=>exact⟨j+1,a6,c6,by omega,by go_num,by rw[HLT.out];exact⟨HF.out.1,HF.out.2.1⟩,HF.out.2.2.1,HF.out.2.2.2.1,HF.out.2.2.2.2⟩
      case measure=>simp[intOf];omega
    ·obtain rfl:j=VS.length:=by omega
     rw[List.take_length]at HRO;generalize ZA l VS=G at HRO HSM;have HQ9:=Lib.hid HRO.out.1;have HQ6:Hid (RL wr b6 84 [.int .i8 0,.int .i64 0,.int .u32 0,.slice none 0 0]):=World.rowIs.of_block HU6.out (HNB.out b6 HU6.out.lt (by have:=HLE.out;omega));have HQ8:Hid (RL wr b8 105 [.int .i8 x.k,.string x.pr,.slice q.a x.ts.length q.c,.int .i8 x.rel,.int .i8 x.l.op,.string x.l.t.v,.int .i8 x.l.t.a.k,.int .i64 x.l.t.a.n,.string x.l.t.a.s,.slice q.la x.l.kids.length q.lc,.int .i8 x.r.op,.string x.r.t.v,.int .i8 x.r.t.a.k,.int .i64 x.r.t.a.n,.string x.r.t.a.s,.slice q.ra x.r.kids.length q.rc]):=World.rowIs.of_block HU8.out (HNB.out b8 HU8.out.lt (by have:=HLE.out;omega))
     have HQG:=Lib.hid (ZY HRO.out.2);have HQB:=HBW;clear HRO HNB HBW HZW HVA;go_upto_region 22 with fail
     have hsk:=ZbD HQ9.out 2;have HV9:Hid (RL (wr.setCell ⟨b9,0,none⟩ (.int .i8 2)) b9 84 [.int .i8 2,.int .i64 (k:Int),.int .u32 (cm:Int),.slice ga G.length gc]):=HQ9.out.set 0 _;have HV6:Hid (RL (wr.setCell ⟨b9,0,none⟩ (.int .i8 2)) b6 84 [.int .i8 0,.int .i64 0,.int .u32 0,.slice none 0 0]):=HQ6.out.other (by have:=HLE.out;omega) _;have HV8:Hid (RL (wr.setCell ⟨b9,0,none⟩ (.int .i8 2)) b8 105 [.int .i8 x.k,.string x.pr,.slice q.a x.ts.length q.c,.int .i8 x.rel,.int .i8 x.l.op,.string x.l.t.v,.int .i8 x.l.t.a.k,.int .i64 x.l.t.a.n,.string x.l.t.a.s,.slice q.la x.l.kids.length q.lc,.int .i8 x.r.op,.string x.r.t.v,.int .i8 x.r.t.a.k,.int .i64 x.r.t.a.n,.string x.r.t.a.s,.slice q.ra x.r.kids.length q.rc]):=HQ8.out.other (by have:=HLE.out;omega) _
     have HVB:Hid (Below w.heap.size w (wr.setCell ⟨b9,0,none⟩ (.int .i8 2))):=HQB.out.setCell (p:=⟨b9,0,none⟩) (by have:=HLE.out;show w.heap.size≤b9;omega) _;have HVG:Hid (Ls (wr.setCell ⟨b9,0,none⟩ (.int .i8 2)) (.slice ga G.length gc) G.length (G.flatMap Zm)):=ZbQ HQ9.out HQG.out 0 _;generalize wr.setCell ⟨b9,0,none⟩ (.int .i8 2)=UF at hsk HV9 HV6 HV8 HVB HVG;clear HQ9 HQ6 HQ8 HQB HQG;have HQ9:=HV9
     have HQ6:=HV6;have HQ8:=HV8;have HQB:=HVB;have HQG:=HVG;clear HV9 HV6 HV8 HVB HVG;have lm0:=ZaU (RL.at HQ9.out (j:=2) rfl)
     by_cases hm0:cm=0
     ·have hmb:((cm:Int)==0)=true:=by rw[hm0];rfl
      have HM0:=Lib.hid hm0;clear hm0;go_upto_region 24 with fail
      clear lm0 hmb;have hsk:=ZbD HQ9.out 1;have HV9:Hid (RL (UF.setCell ⟨b9,0,none⟩ (.int .i8 1)) b9 84 [.int .i8 1,.int .i64 (k:Int),.int .u32 (cm:Int),.slice ga G.length gc]):=HQ9.out.set 0 _;have HV6:Hid (RL (UF.setCell ⟨b9,0,none⟩ (.int .i8 1)) b6 84 [.int .i8 0,.int .i64 0,.int .u32 0,.slice none 0 0]):=HQ6.out.other (by have:=HLE.out;omega) _;have HV8:Hid (RL (UF.setCell ⟨b9,0,none⟩ (.int .i8 1)) b8 105 [.int .i8 x.k,.string x.pr,.slice q.a x.ts.length q.c,.int .i8 x.rel,.int .i8 x.l.op,.string x.l.t.v,.int .i8 x.l.t.a.k,.int .i64 x.l.t.a.n,.string x.l.t.a.s,.slice q.la x.l.kids.length q.lc,.int .i8 x.r.op,.string x.r.t.v,.int .i8 x.r.t.a.k,.int .i64 x.r.t.a.n,.string x.r.t.a.s,.slice q.ra x.r.kids.length q.rc]):=HQ8.out.other (by have:=HLE.out;omega) _
      have HVB:Hid (Below w.heap.size w (UF.setCell ⟨b9,0,none⟩ (.int .i8 1))):=HQB.out.setCell (p:=⟨b9,0,none⟩) (by have:=HLE.out;show w.heap.size≤b9;omega) _;have HVG:Hid (Ls (UF.setCell ⟨b9,0,none⟩ (.int .i8 1)) (.slice ga G.length gc) G.length (G.flatMap Zm)):=ZbQ HQ9.out HQG.out 0 _;generalize UF.setCell ⟨b9,0,none⟩ (.int .i8 1)=UH at hsk HV9 HV6 HV8 HVB HVG;clear HQ9 HQ6 HQ8 HQB HQG;have HQ9:=HV9
      have HQ6:=HV6;have HQ8:=HV8;have HQB:=HVB;have HQG:=HVG;clear HV9 HV6 HV8 HVB HVG;have lmk:=ZaU (RL.at HQ9.out (j:=2) rfl);go_upto_region 25 with fail
      have HFU:=Lib.hid (Zhd x.ts.length HSH.out);have HQD9:=Lib.hid (RL.below HQ9.out (Below.refl _ _).drew);have HQD8:=Lib.hid (RL.below HQ8.out (Below.refl _ _).drew);have HEQ:=Lib.hid (Zjq cm (2^x.ts.length-1));clear lmk;refine wp_region_noPanic ?_;refine wp_region_held (S:=fun u=>u=UH.drew) (by kernel_rfl) ?_;refine ZpN (w5:=UH) (S:=fun u=>u=UH.drew) (b8:=b8) (b9:=b9) (n:=x.ts.length) (c:=q.c) (ta:=q.a) (m9:=(cm:Int)) (fm:=((2^x.ts.length-1:Nat):Int)) (eb:=decide (cm=2^x.ts.length-1)) rfl rfl rfl rfl rfl rfl rfl rfl (by kernel_rfl) (by kernel_rfl) (by kernel_rfl) (by kernel_rfl) (by intros;assumption) (by simp) rfl rfl rfl (fun u hu=>by rw[hu];exact ZaU (RL.at HQD9.out (j:=2) rfl)) (fun u hu=>by rw[hu];exact Zc6 (RL.at HQD8.out (j:=2) rfl)) (fun u hu=>HFU.out u) HEQ.out ?_
      rintro wc rfl;refine NoPanic.normal ?_
      rename_i hK
      refine hK _ _ ?_;simp (config:={maxSteps:=8000000}) only[Act.put,List.getElem_toArray,List.getElem_cons_zero,List.getElem_cons_succ,List.setIfInBounds_toArray,List.set_cons_succ,List.set_cons_zero];have HD9:Hid (RL UH.drew b9 84 [.int .i8 1,.int .i64 (k:Int),.int .u32 (cm:Int),.slice ga G.length gc]):=HQD9.out;have HD6:Hid (RL UH.drew b6 84 [.int .i8 0,.int .i64 0,.int .u32 0,.slice none 0 0]):=RL.below HQ6.out (Below.refl _ _).drew
      have HD8:Hid (RL UH.drew b8 105 [.int .i8 x.k,.string x.pr,.slice q.a x.ts.length q.c,.int .i8 x.rel,.int .i8 x.l.op,.string x.l.t.v,.int .i8 x.l.t.a.k,.int .i64 x.l.t.a.n,.string x.l.t.a.s,.slice q.la x.l.kids.length q.lc,.int .i8 x.r.op,.string x.r.t.v,.int .i8 x.r.t.a.k,.int .i64 x.r.t.a.n,.string x.r.t.a.s,.slice q.ra x.r.kids.length q.rc]):=HQD8.out;have HDB:Hid (Below w.heap.size w UH.drew):=HQB.out.drew
      have HDG:Hid (Ls UH.drew (.slice ga G.length gc) G.length (G.flatMap Zm)):=HQG.out.below (Below.refl _ _).drew;generalize UH.drew=UD at HD9 HD6 HD8 HDB HDG⊢;clear hK HFU HEQ HQD9 HQD8 HQ9 HQ6 HQ8 HQB HQG;have HQ9:=HD9;have HQ6:=HD6;have HQ8:=HD8;have HQB:=HDB;have HQG:=HDG;clear HD9 HD6 HD8 HDB HDG
      by_cases hfu:cm=2^x.ts.length-1
      ·have HK3:Hid (KR=3):=by
        show KR=3;rw[HKR.out];unfold Zhf;rw[if_pos hfu]
       rw[HK3.out]at HSM;have hdf:decide (cm=2^x.ts.length-1)=true:=decide_eq_true hfu;generalize decide (cm=2^x.ts.length-1)=eb at hdf⊢;subst hdf;clear hfu;go_upto_region 26 with fail
       have hsk:=ZbD HQ9.out 3;have HV9:Hid (RL (UD.setCell ⟨b9,0,none⟩ (.int .i8 3)) b9 84 [.int .i8 3,.int .i64 (k:Int),.int .u32 (cm:Int),.slice ga G.length gc]):=HQ9.out.set 0 _;have HV6:Hid (RL (UD.setCell ⟨b9,0,none⟩ (.int .i8 3)) b6 84 [.int .i8 0,.int .i64 0,.int .u32 0,.slice none 0 0]):=HQ6.out.other (by have:=HLE.out;omega) _;have HV8:Hid (RL (UD.setCell ⟨b9,0,none⟩ (.int .i8 3)) b8 105 [.int .i8 x.k,.string x.pr,.slice q.a x.ts.length q.c,.int .i8 x.rel,.int .i8 x.l.op,.string x.l.t.v,.int .i8 x.l.t.a.k,.int .i64 x.l.t.a.n,.string x.l.t.a.s,.slice q.la x.l.kids.length q.lc,.int .i8 x.r.op,.string x.r.t.v,.int .i8 x.r.t.a.k,.int .i64 x.r.t.a.n,.string x.r.t.a.s,.slice q.ra x.r.kids.length q.rc]):=HQ8.out.other (by have:=HLE.out;omega) _
       have HVB:Hid (Below w.heap.size w (UD.setCell ⟨b9,0,none⟩ (.int .i8 3))):=HQB.out.setCell (p:=⟨b9,0,none⟩) (by have:=HLE.out;show w.heap.size≤b9;omega) _;have HVG:Hid (Ls (UD.setCell ⟨b9,0,none⟩ (.int .i8 3)) (.slice ga G.length gc) G.length (G.flatMap Zm)):=ZbQ HQ9.out HQG.out 0 _;generalize UD.setCell ⟨b9,0,none⟩ (.int .i8 3)=UE at hsk HV9 HV6 HV8 HVB HVG;clear HQ9 HQ6 HQ8 HQB HQG;have HQ9:=HV9
       have HQ6:=HV6;have HQ8:=HV8;have HQB:=HVB;have HQG:=HVG;clear HV9 HV6 HV8 HVB HVG;clear HU9 HU6 HU8 HBU HSV;have HU9:=HQ9;have HU6:=HQ6;have HBU:=HQB;have HGV:=HQG;clear HQ9 HQ6 HQ8 HQB HQG;go_upto_region 27 with fail
       have ls9:=ZG HU9.out;have hst:=Zcw HU6.out 3 (k:Int) (cm:Int) ga G.length gc;have HZ6:Hid (RL (st4 UE b6 3 (k:Int) (cm:Int) (.slice ga G.length gc)) b6 84 [.int .i8 3,.int .i64 (k:Int),.int .u32 (cm:Int),.slice ga G.length gc]):=Za3 HU6.out _ _ _ _;have HBZ:Hid (Below w.heap.size w (st4 UE b6 3 (k:Int) (cm:Int) (.slice ga G.length gc))):=ZW HBU.out HLE.out.1 _ _ _ _;have HGZ:Hid (Ls (st4 UE b6 3 (k:Int) (cm:Int) (.slice ga G.length gc)) (.slice ga G.length gc) (G).length ((G).flatMap Zm)):=ZdV HU6.out HGV.out _ _ _ _
       generalize (st4 UE b6 3 (k:Int) (cm:Int) (.slice ga G.length gc))=Z at hst HZ6 HBZ HGZ;clear HU6 HU9 HBU HGV;go_wp2;refine bodyPost_ret (Z8 Tryz.results28 (v:=.agg #[.int .i8 3,.int .i64 (k:Int),.int .u32 (cm:Int),.slice ga G.length gc]) (u:=.bool true) rfl rfl (ZG HZ6.out)) rfl ?_;refine⟨HBZ.out,ga,gc,?_,?_⟩
       ·rw[HSM.out];rfl
       ·rw[HSM.out];exact HGZ.out
      ·have HK3:Hid (KR=1):=by
        show KR=1;rw[HKR.out];unfold Zhf;rw[if_neg hfu,if_pos HM0.out]
       rw[HK3.out]at HSM;have hdf:decide (cm=2^x.ts.length-1)=false:=decide_eq_false hfu;generalize decide (cm=2^x.ts.length-1)=eb at hdf⊢;subst hdf;clear hfu;clear HU9 HU6 HU8 HBU HSV;have HU9:=HQ9;have HU6:=HQ6;have HBU:=HQB;have HGV:=HQG;clear HQ9 HQ6 HQ8 HQB HQG;go_upto_region 27 with fail
       have ls9:=ZG HU9.out;have hst:=Zcw HU6.out 1 (k:Int) (cm:Int) ga G.length gc;have HZ6:Hid (RL (st4 UD b6 1 (k:Int) (cm:Int) (.slice ga G.length gc)) b6 84 [.int .i8 1,.int .i64 (k:Int),.int .u32 (cm:Int),.slice ga G.length gc]):=Za3 HU6.out _ _ _ _;have HBZ:Hid (Below w.heap.size w (st4 UD b6 1 (k:Int) (cm:Int) (.slice ga G.length gc))):=ZW HBU.out HLE.out.1 _ _ _ _;have HGZ:Hid (Ls (st4 UD b6 1 (k:Int) (cm:Int) (.slice ga G.length gc)) (.slice ga G.length gc) (G).length ((G).flatMap Zm)):=ZdV HU6.out HGV.out _ _ _ _
       generalize (st4 UD b6 1 (k:Int) (cm:Int) (.slice ga G.length gc))=Z at hst HZ6 HBZ HGZ;clear HU6 HU9 HBU HGV;go_wp2;refine bodyPost_ret (Z8 Tryz.results28 (v:=.agg #[.int .i8 1,.int .i64 (k:Int),.int .u32 (cm:Int),.slice ga G.length gc]) (u:=.bool true) rfl rfl (ZG HZ6.out)) rfl ?_;refine⟨HBZ.out,ga,gc,?_,?_⟩
       ·rw[HSM.out];rfl
       ·rw[HSM.out];exact HGZ.out
     ·have hmb:((cm:Int)==0)=false:=by
       rw[beq_eq_false_iff_ne];omega
      have HM0:=Lib.hid hm0;clear hm0;have lmk:=ZaU (RL.at HQ9.out (j:=2) rfl);go_upto_region 25 with fail
      have HFU:=Lib.hid (Zhd x.ts.length HSH.out);have HQD9:=Lib.hid (RL.below HQ9.out (Below.refl _ _).drew);have HQD8:=Lib.hid (RL.below HQ8.out (Below.refl _ _).drew);have HEQ:=Lib.hid (Zjq cm (2^x.ts.length-1));clear lmk;refine wp_region_noPanic ?_;refine wp_region_held (S:=fun u=>u=UF.drew) (by kernel_rfl) ?_;refine ZpN (w5:=UF) (S:=fun u=>u=UF.drew) (b8:=b8) (b9:=b9) (n:=x.ts.length) (c:=q.c) (ta:=q.a) (m9:=(cm:Int)) (fm:=((2^x.ts.length-1:Nat):Int)) (eb:=decide (cm=2^x.ts.length-1)) rfl rfl rfl rfl rfl rfl rfl rfl (by kernel_rfl) (by kernel_rfl) (by kernel_rfl) (by kernel_rfl) (by intros;assumption) (by simp) rfl rfl rfl (fun u hu=>by rw[hu];exact ZaU (RL.at HQD9.out (j:=2) rfl)) (fun u hu=>by rw[hu];exact Zc6 (RL.at HQD8.out (j:=2) rfl)) (fun u hu=>HFU.out u) HEQ.out ?_
      rintro wc rfl;refine NoPanic.normal ?_
      rename_i hK
      refine hK _ _ ?_;simp (config:={maxSteps:=8000000}) only[Act.put,List.getElem_toArray,List.getElem_cons_zero,List.getElem_cons_succ,List.setIfInBounds_toArray,List.set_cons_succ,List.set_cons_zero];have HD9:Hid (RL UF.drew b9 84 [.int .i8 2,.int .i64 (k:Int),.int .u32 (cm:Int),.slice ga G.length gc]):=HQD9.out;have HD6:Hid (RL UF.drew b6 84 [.int .i8 0,.int .i64 0,.int .u32 0,.slice none 0 0]):=RL.below HQ6.out (Below.refl _ _).drew
      have HD8:Hid (RL UF.drew b8 105 [.int .i8 x.k,.string x.pr,.slice q.a x.ts.length q.c,.int .i8 x.rel,.int .i8 x.l.op,.string x.l.t.v,.int .i8 x.l.t.a.k,.int .i64 x.l.t.a.n,.string x.l.t.a.s,.slice q.la x.l.kids.length q.lc,.int .i8 x.r.op,.string x.r.t.v,.int .i8 x.r.t.a.k,.int .i64 x.r.t.a.n,.string x.r.t.a.s,.slice q.ra x.r.kids.length q.rc]):=HQD8.out;have HDB:Hid (Below w.heap.size w UF.drew):=HQB.out.drew
      have HDG:Hid (Ls UF.drew (.slice ga G.length gc) G.length (G.flatMap Zm)):=HQG.out.below (Below.refl _ _).drew;generalize UF.drew=UD at HD9 HD6 HD8 HDB HDG⊢;clear hK HFU HEQ HQD9 HQD8 HQ9 HQ6 HQ8 HQB HQG;have HQ9:=HD9;have HQ6:=HD6;have HQ8:=HD8;have HQB:=HDB;have HQG:=HDG;clear HD9 HD6 HD8 HDB HDG
      by_cases hfu:cm=2^x.ts.length-1
      ·have HK3:Hid (KR=3):=by
        show KR=3;rw[HKR.out];unfold Zhf;rw[if_pos hfu]
       rw[HK3.out]at HSM;have hdf:decide (cm=2^x.ts.length-1)=true:=decide_eq_true hfu;generalize decide (cm=2^x.ts.length-1)=eb at hdf⊢;subst hdf;clear hfu;go_upto_region 26 with fail
       have hsk:=ZbD HQ9.out 3;have HV9:Hid (RL (UD.setCell ⟨b9,0,none⟩ (.int .i8 3)) b9 84 [.int .i8 3,.int .i64 (k:Int),.int .u32 (cm:Int),.slice ga G.length gc]):=HQ9.out.set 0 _;have HV6:Hid (RL (UD.setCell ⟨b9,0,none⟩ (.int .i8 3)) b6 84 [.int .i8 0,.int .i64 0,.int .u32 0,.slice none 0 0]):=HQ6.out.other (by have:=HLE.out;omega) _;have HV8:Hid (RL (UD.setCell ⟨b9,0,none⟩ (.int .i8 3)) b8 105 [.int .i8 x.k,.string x.pr,.slice q.a x.ts.length q.c,.int .i8 x.rel,.int .i8 x.l.op,.string x.l.t.v,.int .i8 x.l.t.a.k,.int .i64 x.l.t.a.n,.string x.l.t.a.s,.slice q.la x.l.kids.length q.lc,.int .i8 x.r.op,.string x.r.t.v,.int .i8 x.r.t.a.k,.int .i64 x.r.t.a.n,.string x.r.t.a.s,.slice q.ra x.r.kids.length q.rc]):=HQ8.out.other (by have:=HLE.out;omega) _
       have HVB:Hid (Below w.heap.size w (UD.setCell ⟨b9,0,none⟩ (.int .i8 3))):=HQB.out.setCell (p:=⟨b9,0,none⟩) (by have:=HLE.out;show w.heap.size≤b9;omega) _;have HVG:Hid (Ls (UD.setCell ⟨b9,0,none⟩ (.int .i8 3)) (.slice ga G.length gc) G.length (G.flatMap Zm)):=ZbQ HQ9.out HQG.out 0 _;generalize UD.setCell ⟨b9,0,none⟩ (.int .i8 3)=UE at hsk HV9 HV6 HV8 HVB HVG;clear HQ9 HQ6 HQ8 HQB HQG;have HQ9:=HV9
       have HQ6:=HV6;have HQ8:=HV8;have HQB:=HVB;have HQG:=HVG;clear HV9 HV6 HV8 HVB HVG;clear HU9 HU6 HU8 HBU HSV;have HU9:=HQ9;have HU6:=HQ6;have HBU:=HQB;have HGV:=HQG;clear HQ9 HQ6 HQ8 HQB HQG;go_upto_region 27 with fail
       have ls9:=ZG HU9.out;have hst:=Zcw HU6.out 3 (k:Int) (cm:Int) ga G.length gc;have HZ6:Hid (RL (st4 UE b6 3 (k:Int) (cm:Int) (.slice ga G.length gc)) b6 84 [.int .i8 3,.int .i64 (k:Int),.int .u32 (cm:Int),.slice ga G.length gc]):=Za3 HU6.out _ _ _ _;have HBZ:Hid (Below w.heap.size w (st4 UE b6 3 (k:Int) (cm:Int) (.slice ga G.length gc))):=ZW HBU.out HLE.out.1 _ _ _ _;have HGZ:Hid (Ls (st4 UE b6 3 (k:Int) (cm:Int) (.slice ga G.length gc)) (.slice ga G.length gc) (G).length ((G).flatMap Zm)):=ZdV HU6.out HGV.out _ _ _ _
       generalize (st4 UE b6 3 (k:Int) (cm:Int) (.slice ga G.length gc))=Z at hst HZ6 HBZ HGZ;clear HU6 HU9 HBU HGV;go_wp2;refine bodyPost_ret (Z8 Tryz.results28 (v:=.agg #[.int .i8 3,.int .i64 (k:Int),.int .u32 (cm:Int),.slice ga G.length gc]) (u:=.bool true) rfl rfl (ZG HZ6.out)) rfl ?_;refine⟨HBZ.out,ga,gc,?_,?_⟩
       ·rw[HSM.out];rfl
       ·rw[HSM.out];exact HGZ.out
      ·have HK3:Hid (KR=2):=by
        show KR=2;rw[HKR.out];unfold Zhf;rw[if_neg hfu,if_neg HM0.out]
       rw[HK3.out]at HSM;have hdf:decide (cm=2^x.ts.length-1)=false:=decide_eq_false hfu;generalize decide (cm=2^x.ts.length-1)=eb at hdf⊢;subst hdf;clear hfu;clear HU9 HU6 HU8 HBU HSV;have HU9:=HQ9;have HU6:=HQ6;have HBU:=HQB;have HGV:=HQG;clear HQ9 HQ6 HQ8 HQB HQG;go_upto_region 27 with fail
       have ls9:=ZG HU9.out;have hst:=Zcw HU6.out 2 (k:Int) (cm:Int) ga G.length gc;have HZ6:Hid (RL (st4 UD b6 2 (k:Int) (cm:Int) (.slice ga G.length gc)) b6 84 [.int .i8 2,.int .i64 (k:Int),.int .u32 (cm:Int),.slice ga G.length gc]):=Za3 HU6.out _ _ _ _;have HBZ:Hid (Below w.heap.size w (st4 UD b6 2 (k:Int) (cm:Int) (.slice ga G.length gc))):=ZW HBU.out HLE.out.1 _ _ _ _;have HGZ:Hid (Ls (st4 UD b6 2 (k:Int) (cm:Int) (.slice ga G.length gc)) (.slice ga G.length gc) (G).length ((G).flatMap Zm)):=ZdV HU6.out HGV.out _ _ _ _
       generalize (st4 UD b6 2 (k:Int) (cm:Int) (.slice ga G.length gc))=Z at hst HZ6 HBZ HGZ;clear HU6 HU9 HBU HGV;go_wp2;refine bodyPost_ret (Z8 Tryz.results28 (v:=.agg #[.int .i8 2,.int .i64 (k:Int),.int .u32 (cm:Int),.slice ga G.length gc]) (u:=.bool true) rfl rfl (ZG HZ6.out)) rfl ?_;refine⟨HBZ.out,ga,gc,?_,?_⟩
       ·rw[HSM.out];rfl
       ·rw[HSM.out];exact HGZ.out
end Go.Proofs.YtjdnpgpbeppgjaaGreatDoor
