import Derived.Test.YtjdnpgpbeppgjaaGreatDoorA7
set_option linter.unusedSimpArgs false
set_option linter.unusedVariables false
set_option maxHeartbeats 3200000
set_option maxRecDepth 100000
namespace Go.Proofs.YtjdnpgpbeppgjaaGreatDoor
section
open Go.RowKit Go.Maps
attribute [local go_sem ↓] Go.wp_at_zero Go.wp_at_succ
theorem Zeo(d:Nat)(x:Lit4)(p:LP)(w:World)(h:LIs w d x p)(lf:Nat)(hlf:lf≤1048576) :
  Calls Tryz.prog 83 #[x.val p,.int .i64 (lf:Int)] w fun r w'=>∃n:Int,r=.returned (.int .i64 n)∧Below w.heap.size w w'∧(0≤n∧n≤(lf:Int)+1)∧(n≤(lf:Int)→ZbM d x∧1+((Zl d x).length:Int)≤n):=by
 have HE1:Hid (∀u,Below w.heap.size w u→Calls Tryz.prog 216 #[x.l.val p.la p.lc,.int .i64 (lf:Int)] u fun r w'=>∃n:Int,r=.returned (.int .i64 n)∧Below u.heap.size u w'∧(0≤n∧n≤(lf:Int)+1)∧(n≤(lf:Int)→ZZ d x.l∧(szD d x.l:Int)≤n)):=fun u hu=>Zdo d x.l p.la p.lc u (h.l.below hu) lf hlf
 have HE2:Hid (∀u (z:Int),0≤z→z≤1048576→Below w.heap.size w u→Calls Tryz.prog 216 #[x.r.val p.ra p.rc,.int .i64 z] u fun r w'=>∃n:Int,r=.returned (.int .i64 n)∧Below u.heap.size u w'∧(0≤n∧n≤z+1)∧(n≤z→ZZ d x.r∧(szD d x.r:Int)≤n)):=fun u z h0 h1 hu=>by
  obtain⟨m,rfl⟩:∃m:Nat,z=m:=⟨z.toNat,by omega⟩;exact Zdo d x.r p.ra p.rc u (h.r.below hu) m (by omega)
 have BA:=(Below.refl w.heap.size w).alloc (Nat.le_refl _) (.cells #[.int .i8 x.k,.string x.pr,.slice p.a x.ts.length p.c,.int .i8 x.rel,.int .i8 x.l.op,.string x.l.t.v,.int .i8 x.l.t.a.k,.int .i64 x.l.t.a.n,.string x.l.t.a.s,.slice p.la x.l.kids.length p.lc,.int .i8 x.r.op,.string x.r.t.v,.int .i8 x.r.t.a.k,.int .i64 x.r.t.a.n,.string x.r.t.a.s,.slice p.ra x.r.kids.length p.rc] 105);have HR0:Hid (RL (w.alloc (.cells #[.int .i8 x.k,.string x.pr,.slice p.a x.ts.length p.c,.int .i8 x.rel,.int .i8 x.l.op,.string x.l.t.v,.int .i8 x.l.t.a.k,.int .i64 x.l.t.a.n,.string x.l.t.a.s,.slice p.la x.l.kids.length p.lc,.int .i8 x.r.op,.string x.r.t.v,.int .i8 x.r.t.a.k,.int .i64 x.r.t.a.n,.string x.r.t.a.s,.slice p.ra x.r.kids.length p.rc] 105)) w.heap.size 105 [.int .i8 x.k,.string x.pr,.slice p.a x.ts.length p.c,.int .i8 x.rel,.int .i8 x.l.op,.string x.l.t.v,.int .i8 x.l.t.a.k,.int .i64 x.l.t.a.n,.string x.l.t.a.s,.slice p.la x.l.kids.length p.lc,.int .i8 x.r.op,.string x.r.t.v,.int .i8 x.r.t.a.k,.int .i64 x.r.t.a.n,.string x.r.t.a.s,.slice p.ra x.r.kids.length p.rc]):=Zk w #[.int .i8 x.k,.string x.pr,.slice p.a x.ts.length p.c,.int .i8 x.rel,.int .i8 x.l.op,.string x.l.t.v,.int .i8 x.l.t.a.k,.int .i64 x.l.t.a.n,.string x.l.t.a.s,.slice p.la x.l.kids.length p.lc,.int .i8 x.r.op,.string x.r.t.v,.int .i8 x.r.t.a.k,.int .i64 x.r.t.a.n,.string x.r.t.a.s,.slice p.ra x.r.kids.length p.rc] 105
 have HBA:Hid (Below w.heap.size w _):=BA;have hln:=h.ln;have hlen1:IntKind.i64.wrap (1+(x.ts.length:Int))=1+(x.ts.length:Int):=ZbH (by omega) (by omega);clear h BA;unfold Lit4.val E.val at *;go_enter Tryz.func83,Tryz.ntmps83;go_upto_region 1 with fail
 generalize hWW:w.alloc (.cells #[.int .i8 x.k,.string x.pr,.slice p.a x.ts.length p.c,.int .i8 x.rel,.int .i8 x.l.op,.string x.l.t.v,.int .i8 x.l.t.a.k,.int .i64 x.l.t.a.n,.string x.l.t.a.s,.slice p.la x.l.kids.length p.lc,.int .i8 x.r.op,.string x.r.t.v,.int .i8 x.r.t.a.k,.int .i64 x.r.t.a.n,.string x.r.t.a.s,.slice p.ra x.r.kids.length p.rc] 105)=W at HR0 HBA⊢;clear hWW
 have HC:Hid (∀u,Below W.heap.size W u→Below w.heap.size w u∧u.cell? ⟨w.heap.size,2,none⟩=some (.slice p.a x.ts.length p.c)∧u.cell? ⟨w.heap.size,4,none⟩=some (.int .i8 x.l.op)∧u.cell? ⟨w.heap.size,5,none⟩=some (.string x.l.t.v)∧u.cell? ⟨w.heap.size,6,none⟩=some (.int .i8 x.l.t.a.k)∧u.cell? ⟨w.heap.size,7,none⟩=some (.int .i64 x.l.t.a.n)∧u.cell? ⟨w.heap.size,8,none⟩=some (.string x.l.t.a.s)∧u.cell? ⟨w.heap.size,9,none⟩=some (.slice p.la x.l.kids.length p.lc)):=fun u hu=>by
  have hr:=RL.below HR0.out hu;exact⟨HBA.out.trans (hu.mono HBA.out.size),(hr.at (j:=2) rfl),(hr.at (j:=4) rfl),(hr.at (j:=5) rfl),(hr.at (j:=6) rfl),(hr.at (j:=7) rfl),(hr.at (j:=8) rfl),(hr.at (j:=9) rfl)⟩
 have hB0:Below W.heap.size W W.drew:=(Below.refl _ _).drew;have hS0:=HC.out _ (Below.refl _ _)
 go_region_held3 (fun u=>(Below W.heap.size W u)∧u.cell? ⟨w.heap.size,2,none⟩=some (.slice p.a x.ts.length p.c)∧u.cell? ⟨w.heap.size,4,none⟩=some (.int .i8 x.l.op)∧u.cell? ⟨w.heap.size,5,none⟩=some (.string x.l.t.v)∧u.cell? ⟨w.heap.size,6,none⟩=some (.int .i8 x.l.t.a.k)∧u.cell? ⟨w.heap.size,7,none⟩=some (.int .i64 x.l.t.a.n)∧u.cell? ⟨w.heap.size,8,none⟩=some (.string x.l.t.a.s)∧u.cell? ⟨w.heap.size,9,none⟩=some (.slice p.la x.l.kids.length p.lc))
  (first
   | assumption
   | exact⟨hB0,(HC.out _ hB0).2⟩
   | exact⟨(by assumption),(HC.out _ (by assumption)).2⟩)
  (first
   | (go_at_call 216;refine Calls.mono (HE1.out _ (HC.out _ (by assumption)).1) ?_;rintro ee wf ⟨n1,rfl,bf,⟨hn0,hn1⟩,hsm⟩;have HSM:Hid _:=hsm;clear hsm;have bf':=Zj6 (wc:=W) (by assumption) bf;have hw2:IntKind.i64.wrap (1+(x.ts.length:Int)+n1)=1+(x.ts.length:Int)+n1:=ZbH (by omega) (by omega))
   | fail)
 have H1:Hid (RL wf w.heap.size 105 [.int .i8 x.k,.string x.pr,.slice p.a x.ts.length p.c,.int .i8 x.rel,.int .i8 x.l.op,.string x.l.t.v,.int .i8 x.l.t.a.k,.int .i64 x.l.t.a.n,.string x.l.t.a.s,.slice p.la x.l.kids.length p.lc,.int .i8 x.r.op,.string x.r.t.v,.int .i8 x.r.t.a.k,.int .i64 x.r.t.a.n,.string x.r.t.a.s,.slice p.ra x.r.kids.length p.rc]):=RL.below HR0.out bf';have B1:Hid (Below w.heap.size w wf):=(HC.out _ bf').1
 clear HC hB0 hS0 HR0 HBA bf bf' HE1
 by_cases hbig:(lf:Int)<1+(x.ts.length:Int)+n1
 ·have hw3:IntKind.i64.wrap ((lf:Int)+1)=(lf:Int)+1:=ZbH (by omega) (by omega);go_wp2;go_ret;exact⟨_,rfl,B1.out,⟨by omega,by omega⟩,fun h=>absurd h (by omega)⟩
 ·have hw3:IntKind.i64.wrap ((lf:Int)-(1+(x.ts.length:Int)+n1))=(lf:Int)-(1+(x.ts.length:Int)+n1):=ZbH (by omega) (by omega);have z10:=H1.out.at (j:=10) rfl;have z11:=H1.out.at (j:=11) rfl;have z12:=H1.out.at (j:=12) rfl;have z13:=H1.out.at (j:=13) rfl;have z14:=H1.out.at (j:=14) rfl;have z15:=H1.out.at (j:=15) rfl;go_wp2_with fail;refine Calls.mono (HE2.out _ _ (by omega) (by omega) B1.out) ?_
  rintro ee w2 ⟨n2,rfl,b2,⟨hm0,hm1⟩,hsm⟩;have HS2:Hid _:=hsm;have hw4:IntKind.i64.wrap (1+(x.ts.length:Int)+n1+n2)=1+(x.ts.length:Int)+n1+n2:=ZbH (by omega) (by omega);clear hsm;go_wp2;go_ret;exact⟨_,rfl,B1.out.trans (b2.mono B1.out.size),⟨by omega,by omega⟩,fun h=>⟨⟨by omega,⟨(HSM.out (by omega)).1,by have:=(HSM.out (by omega)).2;omega⟩,⟨(HS2.out (by omega)).1,by have:=(HS2.out (by omega)).2;omega⟩⟩,by have e1:=(HSM.out (by omega)).2;have e2:=(HS2.out (by omega)).2;unfold szD at e1 e2;unfold Zl;simp only[List.length_append];omega⟩⟩
end
section
open Go.RowKit Go.Maps
attribute [local go_sem ↓] Go.wp_at_zero Go.wp_at_succ
attribute [-go_sem] loadVar storeVar
structure Zaj (d:Nat) (r:R3):Prop where
 hd:r.hd.length≤1048576
 bd:r.bd.length≤1048576
 each:∀y∈r.bd,ZbM d y.x
 terms:(Zi d r).length≤1048576
theorem ZqH{l:List XL}{k:Nat}(h:k<l.length):l.take (k+1)=l.take k++[atL l k]:=by rw[List.take_add_one,List.getElem?_eq_getElem h,ZS h];rfl
theorem Zgf(d:Nat)(r:R3)(p:RP)(w:World)(hR:RIs w d r p) :
  Calls Tryz.prog 22 #[r.val p,.int .i64 1048576] w fun e w'=>∃n:Int,e=.returned (.int .i64 n)∧Below w.heap.size w w'∧(n≤1048576→Zaj d r):=by
 obtain⟨pr,hd,bd⟩:=r;obtain⟨pa,pc,ba,bc⟩:=p;have hhl:=hR.hl;have hbl:=hR.bl;have h2:=hR.bd;unfold R3.val;dsimp only at hhl hbl h2⊢;have HEa:Hid (∀i,i<bd.length→LIs w d (atL bd i).x (atL bd i).p):=fun i hi=>h2.at_is hi
 obtain⟨a1,c1,e1,hc1,hc2,hk⟩:=h2.form
 cases e1
 have HK:Hid _:=hk;have HBA:Hid (Below w.heap.size w (w.alloc (.cells #[.string pr,.slice pa hd.length pc,.slice ba bd.length bc] 25))):=(Below.refl w.heap.size w).alloc (Nat.le_refl _) _;have HR0:Hid (RL (w.alloc (.cells #[.string pr,.slice pa hd.length pc,.slice ba bd.length bc] 25)) w.heap.size 25 [.string pr,.slice pa hd.length pc,.slice ba bd.length bc]):=Zk w #[.string pr,.slice pa hd.length pc,.slice ba bd.length bc] 25
 have hagg1:=fun q=>loadVar.eq_1 23 q
 have hagg2:=fun q=>loadVar.eq_1 22 q
 have hw0:IntKind.i64.wrap (1+(hd.length:Int))=1+(hd.length:Int):=ZbH (by omega) (by omega);clear hk h2 hR hc2;go_enter Tryz.func22,Tryz.ntmps22;go_wp2;clear hw0;go_loopw [5,6] (fun n i wr=>∃(k:Nat) (m:Int),k≤bd.length∧i=.int .i64 k∧n=.int .i64 m∧0≤m∧m≤281474976710657∧Below w.heap.size w wr∧Hid (RL wr w.heap.size 25 [.string pr,.slice pa hd.length pc,.slice ba bd.length bc])∧Hid (m≤1048576→1+(hd.length:Int)+(k:Int)+(((bd.take k).flatMap (fun y=>Zl d y.x)).length:Int)≤m∧∀y∈bd.take k,ZbM d y.x)) (fun _ i _=>bd.length-(intOf i).toNat)
 case atStart=>exact⟨0,1+(hd.length:Int),Nat.zero_le _,rfl,rfl,by omega,by omega,HBA.out,HR0,fun _=>⟨by simp,fun y hy=>by simp at hy⟩⟩
 case round=>
  obtain⟨k,m,hk,rfl,rfl,hm0,hm1,bel,HR,HS⟩:=hrel;have r2:=HR.out.at (j:=2) rfl;clear HR0 HBA
  by_cases hlt:k<bd.length
  ·have hlt':(k:Int)<(bd.length:Int):=by omega
   by_cases hmm:m≤1048576
   ·obtain⟨g,off,rfl,hg,hKS⟩:=HK.out (by omega);have hld:=Zan (Zu (hKS k hlt) bel hg) rfl;rw[XL.val_eq]at hld;have hXk:=(HEa.out k hlt).below bel;have hw1:IntKind.i64.wrap (1048576-m)=1048576-m:=ZbH (by omega) (by omega)
    have HP:Hid (∀z:Int,0≤z→z≤1048576→Calls Tryz.prog 83 #[(atL bd k).x.val (atL bd k).p,.int .i64 z] wr fun r w'=>∃n:Int,r=.returned (.int .i64 n)∧Below wr.heap.size wr w'∧(0≤n∧n≤z+1)∧(n≤z→ZbM d (atL bd k).x∧1+((Zl d (atL bd k).x).length:Int)≤n)):=fun z h0 h1=>by
     obtain⟨q,rfl⟩:∃q:Nat,z=q:=⟨z.toNat,by omega⟩;exact Zeo d _ _ wr hXk q (by omega)
    have HTk:Hid _:=ZqH hlt;generalize (atL bd k).x.val (atL bd k).p=QV at hld HP;clear hKS hXk;go_wp2_with fail;refine Calls.mono (HP.out _ (by omega) (by omega)) ?_;rintro ee w1 ⟨n1,rfl,b1,⟨hn0,hn1⟩,hsm⟩;have HR1:Hid (RL w1 w.heap.size 25 _):=RL.below HR.out b1;have bel1:=bel.trans (b1.mono bel.size);have HSM:Hid _:=hsm;have hw2:IntKind.i64.wrap (m+n1)=m+n1:=ZbH (by omega) (by omega);clear hsm b1 bel r2 HR HP hld
    go_wp2;go_roundw
    case rel=>
     refine⟨k+1,m+n1,by omega,by go_num,rfl,by omega,by omega,bel1,HR1,fun h=>?_⟩;obtain⟨h1,h2⟩:=HS.out (by omega);obtain⟨h3,h4⟩:=HSM.out (by omega);rw[HTk.out,List.flatMap_append,List.length_append];refine⟨by simp only[List.flatMap_cons,List.flatMap_nil,List.append_nil];omega,fun y hy=>?_⟩;rcases List.mem_append.1 hy with h5 | h5
     ·exact h2 y h5
     ·rw[List.mem_singleton.1 h5];exact h3
    case measure=>simp[intOf];omega
   ·have hmm':¬ m≤1048576:=hmm;go_wp2;go_ret;exact⟨_,rfl,bel,fun h=>absurd h (by omega)⟩
  ·obtain rfl:k=bd.length:=by omega
   rw[List.take_length]at HS;go_wp2;go_ret;refine⟨_,rfl,bel,fun h=>?_⟩;obtain⟨h1,h2⟩:=HS.out h;exact⟨by show hd.length≤_;omega,by show bd.length≤_;omega,h2,by unfold Zi;rw[List.length_append,List.length_map];show hd.length+(bd.flatMap _).length≤_;omega⟩
theorem Zgg(d:Nat)(r:R3)(p:RP)(w:World)(hR:RIs w d r p) :
  Calls Tryz.prog 5 #[r.val p] w fun e w'=>∃b:Bool,e=.returned (.bool b)∧Below w.heap.size w w'∧(b=false→Zaj d r):=by
 have BA:=(Below.refl w.heap.size w).alloc (Nat.le_refl _) (.cells #[.string r.pr,.slice p.a r.hd.length p.c,.slice p.ba r.bd.length p.bc] 25);have HP:Hid _:=Zgf d r p _ (hR.below BA);have HR0:RL (w.alloc (.cells #[.string r.pr,.slice p.a r.hd.length p.c,.slice p.ba r.bd.length p.bc] 25)) w.heap.size 25 [.string r.pr,.slice p.a r.hd.length p.c,.slice p.ba r.bd.length p.bc]:=Zk w #[.string r.pr,.slice p.a r.hd.length p.c,.slice p.ba r.bd.length p.bc] 25
 have hld:(loadVar 25 ⟨w.heap.size,0,none⟩).run Tryz.prog (w.alloc (.cells #[.string r.pr,.slice p.a r.hd.length p.c,.slice p.ba r.bd.length p.bc] 25))=.ok (.agg #[.string r.pr,.slice p.a r.hd.length p.c,.slice p.ba r.bd.length p.bc]) _:=run_loadVar_mid _ _ 0 25 [.string r.pr,.slice p.a r.hd.length p.c,.slice p.ba r.bd.length p.bc] _ (RL.range HR0) Tryz.underlying25 rfl (by kernel_rfl);clear hR HR0
 unfold R3.val at *;go_enter Tryz.func5,Tryz.ntmps5;go_wp2_with fail;refine Calls.mono HP.out ?_;rintro e w1 ⟨n,rfl,b1,hs⟩;have HS:Hid _:=hs;clear hs HP hld;go_wp2;go_ret;exact⟨_,rfl,BA.trans (b1.mono BA.size),fun h=>HS.out (by simpa using h)⟩
end
section
open Go.RowKit Go.Maps
attribute [local go_sem ↓] Go.wp_at_zero Go.wp_at_succ
theorem ZqJ{l:List A5}{k:Nat}(h:k<l.length):(l.drop k).map A5.t=(atA l k).t::(l.drop (k+1)).map A5.t:=by rw[List.drop_eq_getElem_cons h,Zdj h];rfl
theorem ZlA{d:Nat}{l:List XL}{k:Nat}(h:k<l.length):(l.drop k).flatMap (fun y=>Zl d y.x)=Zl d (atL l k).x++(l.drop (k+1)).flatMap (fun y=>Zl d y.x):=by rw[List.drop_eq_getElem_cons h,List.flatMap_cons,ZS h]
theorem Zoh(v:Value)(w:World):(Instr.typeAssert (.iface 155 v) 20 155 true).run Tryz.prog w=.ok (.tuple #[v,.bool true]) w:=by kernel_rfl
theorem Zit{B:Nat}{w0:World}{bo bs bm:Nat}{ns:List ByteArray}{sv:Value}{w:World}(h:Vst B w0 bo bs bm ns sv w)(hB:B=w0.heap.size)(b:Nat)(hb:b<B)(d:Nat)(r:R3)(p:RP)(hx:w0.rangeAt b 0 (r.cells p))(hR:RIs w0 d r p)(hn:ns.length+(Zi d r).length≤4398046511104) :
  Calls Tryz.prog 104 #[.iface 155 (.pointer (some ⟨b,0,none⟩)),Zew bs bo] w fun e w'=>(∃u,e=.returned u)∧∃sv',Vst B w0 bo bs bm (vsT ns (Zi d r)) sv' w':=by
 obtain⟨pr,hd,bd⟩:=r;obtain⟨pa,pc,ba,bc⟩:=p;have hhl:=hR.hl;have hbl:=hR.bl;have h1:=hR.hd;have h2:=hR.bd;unfold Zi at hn⊢;dsimp only at hhl hbl h1 h2 hn⊢;have HEa:Hid (∀i,i<bd.length→LIs w0 d (atL bd i).x (atL bd i).p):=fun i hi=>h2.at_is hi
 have HWa:Hid (∀i,i<hd.length→(atA hd i).wf):=fun i hi=>h1.at_wf hi
 obtain⟨a1,c1,e1,hc1,hc2,hk1⟩:=h1.form
 cases e1
 obtain⟨a2,c2,e2,hc3,hc4,hk2⟩:=h2.form
 cases e2
 have HK1:Hid _:=hk1;have HK2:Hid _:=hk2;have HCC:Hid (∀u,Below B w0 u→u.cell? ⟨b,1,none⟩=some (.slice pa hd.length pc)∧u.cell? ⟨b,2,none⟩=some (.slice ba bd.length bc)):=fun u hu=>⟨by rw[hu.cell (p:=⟨b,1,none⟩) hb];exact hx 1 _ rfl,by rw[hu.cell (p:=⟨b,2,none⟩) hb];exact hx 2 _ rfl⟩
 have HV:Hid (Vst B w0 bo bs bm ns sv w):=h;obtain⟨c1',c2'⟩:=HCC.out w h.bel;have t1:=Zoh (.pointer (some ⟨b,0,none⟩));simp only[List.length_append,List.length_map]at hn;obtain⟨res,HRS⟩:∃res,Hid (vsT ns (hd.map A5.t++bd.flatMap (fun y=>Zl d y.x))=res):=⟨_,rfl⟩;rw[HRS.out];have HN:Hid _:=hn;clear hk1 hk2 h1 h2 hR hx h hc2 hc4 hn;unfold Zew;go_enter Tryz.func104,Tryz.ntmps104;go_wp2;clear c1' c2' t1
 go_loopw [21] (fun i wr=>∃k:Nat,k≤hd.length∧i=.int .i64 k∧∃(ns':List ByteArray) (sv':Value),Hid (Vst B w0 bo bs bm ns' sv' wr)∧ns'.length≤ns.length+k∧Hid (vsT ns' ((hd.drop k).map A5.t++bd.flatMap (fun y=>Zl d y.x))=res)) (fun i _=>hd.length-(intOf i).toNat)
 case atStart=>exact⟨0,Nat.zero_le _,rfl,ns,sv,HV,Nat.le_refl _,HRS⟩
 case round=>
  obtain⟨k,hk,rfl,ns',sv',HV',hl,HS⟩:=hrel;obtain⟨x1,x2⟩:=HCC.out wr HV'.out.bel
  by_cases hlt:k<hd.length
  ·have hlt':(k:Int)<(hd.length:Int):=by omega
   have hk0:(0:Int)≤(k:Int):=by omega
   obtain⟨g,off,rfl,hg,hT⟩:=HK1.out (by omega);have hgB:g<B:=by rw[hB];exact hg
   have y0:wr.cell? ⟨g,off+k*5+1,none⟩=some (.string (atA hd k).t.v):=by rw[HV'.out.bel.cell (p:=⟨g,off+k*5+1,none⟩) hgB];exact hT k hlt 1 _ rfl
   have hxw:=(HWa.out k hlt).t.text;have HNN:Hid (vsT (Zbv ns' (atA hd k).t.v) ((hd.drop (k+1)).map A5.t++bd.flatMap (fun y=>Zl d y.x))=res):=by show _=res;rw[←HS.out,ZqJ hlt,List.cons_append,Zdk]
   have HH:Hid _:=Zgj HV'.out (by have:=HN.out;omega) g (off+k*5+1) (atA hd k).t.v hgB hxw y0;have HLn:Hid _:=ZeU ns' (atA hd k).t.v;clear hT hxw y0 HS;generalize (atA hd k).t.v=t at HNN HH HLn;go_wp2_with fail;refine Calls.mono HH.out ?_;rintro e w2 ⟨⟨u,rfl⟩,sv2,hv2⟩;go_wp2;go_roundw
   case rel=>exact⟨k+1,by omega,by go_num,Zbv ns' t,sv2,hv2,by have:=HLn.out;omega,HNN⟩
   case measure=>simp[intOf];omega
  ·obtain rfl:k=hd.length:=by omega
   have HV2:Hid (vsT ns' (bd.flatMap (fun y=>Zl d y.x))=res):=by show _=res;rw[←HS.out,List.drop_length];rfl
   have HVk:Hid _:=HV'.out;clear HS HV';have hnl:ns'.length+(bd.flatMap (fun y=>Zl d y.x)).length≤4398046511104:=by have:=HN.out;omega
   have HNL:Hid _:=hnl;clear hnl;go_wp2;clear x1 x2;go_loopw [39] (fun i wr=>∃k:Nat,k≤bd.length∧i=.int .i64 k∧∃(ns1:List ByteArray) (sv1:Value),Hid (Vst B w0 bo bs bm ns1 sv1 wr)∧Hid (ns1.length+((bd.drop k).flatMap (fun y=>Zl d y.x)).length≤4398046511104)∧Hid (vsT ns1 ((bd.drop k).flatMap (fun y=>Zl d y.x))=res)) (fun i _=>bd.length-(intOf i).toNat)
   case atStart=>exact⟨0,Nat.zero_le _,rfl,ns',sv',HVk,HNL,HV2⟩
   case round=>
    obtain⟨k,hk,rfl,ns1,sv1,HV',HL,HS⟩:=hrel;obtain⟨x1,x2⟩:=HCC.out wr HV'.out.bel
    by_cases hlt:k<bd.length
    ·have hlt':(k:Int)<(bd.length:Int):=by omega
     have hk0:(0:Int)≤(k:Int):=by omega
     obtain⟨g,off,rfl,hg,hT⟩:=HK2.out (by omega);have hgB:g<B:=by rw[hB];exact hg
     have hle:=HL.out;rw[ZlA hlt,List.length_append]at hle;have HH:Hid _:=Zfh HV'.out hB g (off+k*16) hgB d (atL bd k).x (atL bd k).p (ZmQ (hT k hlt)) (HEa.out k hlt) (by omega);have HNN:Hid (vsT (vsT ns1 (Zl d (atL bd k).x)) ((bd.drop (k+1)).flatMap (fun y=>Zl d y.x))=res):=by show _=res;rw[←HS.out,ZlA hlt,Zb9]
     have HLn:Hid ((vsT ns1 (Zl d (atL bd k).x)).length+((bd.drop (k+1)).flatMap (fun y=>Zl d y.x)).length≤4398046511104):=by have:=Zaw (Zl d (atL bd k).x) ns1;show _≤_;omega
     clear hT HS HL hle;generalize vsT ns1 (Zl d (atL bd k).x)=n2 at HH HNN HLn;unfold Zew at HH;go_wp2_with fail;refine Calls.mono HH.out ?_;rintro e w2 ⟨⟨u,rfl⟩,sv2,hv2⟩;go_wp2;go_roundw
     case rel=>exact⟨k+1,by omega,by go_num,n2,sv2,hv2,HLn,HNN⟩
     case measure=>simp[intOf];omega
    ·obtain rfl:k=bd.length:=by omega
     have HV3:Hid (ns1=res):=by show _=res;rw[←HS.out,List.drop_length];rfl
     go_wp2;go_end0;rw[←HV3.out];exact⟨⟨_,rfl⟩,_,HV'.out⟩
theorem Zer(b:Nat)(d:Nat)(r:R3)(p:RP)(w:World)(hb:b<w.heap.size)(hx:w.rangeAt b 0 (r.cells p))(hR:RIs w d r p)(hn:(Zi d r).length≤4398046511104) :
  Calls Tryz.prog 274 #[.iface 155 (.pointer (some ⟨b,0,none⟩))] w fun e' w'=>∃sv,e'=.returned sv∧w'.ownsRow w.heap.size 9 1 sv (vsT [] (Zi d r)).length ((vsT [] (Zi d r)).flatMap Zm)∧Below w.heap.size w w':=by
 have HW:Hid _:=Zit (Ziz w) rfl b hb d r p hx hR (by simpa using hn);unfold Zew at HW;have hmk:=Zdn;clear hx hR;go_enter Tryz.func274,Tryz.ntmps274;go_wp2_with fail;refine Calls.mono HW.out ?_;rintro ee w2 ⟨⟨u,rfl⟩,sv2,hv2⟩;have c0:=hv2.co;obtain⟨a2,c2,rfl,_⟩:=ZB hv2.own;go_wp2;go_ret;exact⟨_,rfl,hv2.own,hv2.bel⟩
theorem ZdG(d:Nat)(r:R3)(p:RP)(w:World)(hR:RIs w d r p)(hn:(Zi d r).length≤4398046511104):Calls Tryz.prog 231 #[r.val p] w fun e w'=>∃sv,e=.returned sv∧Ls w' sv (vsT [] (Zi d r)).length ((vsT [] (Zi d r)).flatMap Zm)∧Below w.heap.size w w':=by
 have b0:=(Below.refl w.heap.size w).alloc (Nat.le_refl _) (.cells #[.string r.pr,.slice p.a r.hd.length p.c,.slice p.ba r.bd.length p.bc] 25);have HV:Hid _:=Zer w.heap.size d r p _ (by simp) (RL.range (Zk w #[.string r.pr,.slice p.a r.hd.length p.c,.slice p.ba r.bd.length p.bc] 25)) (hR.below b0) hn;clear hR;unfold R3.val;go_enter Tryz.func231,Tryz.ntmps231;go_wp2_with fail;refine Calls.mono HV.out ?_
 rintro ee w1 ⟨sv,rfl,ho,b1⟩;go_wp2;go_ret;exact⟨_,rfl,ZY ho,b0.trans (b1.mono b0.size)⟩
theorem Zeq{w0:World}(d:Nat)(x:Lit4)(p:LP)(sv:Value)(ls:List T)(w:World)(hL:LIs w0 d x p)(hbw:Below w0.heap.size w0 w)(hzw:w0.heap.size≤w.heap.size)(hown:w.ownsRow w0.heap.size 100 4 sv ls.length (ls.flatMap T.cells))(hs:ls.length+(Zl d x).length≤1000000000) :
  Calls Tryz.prog 225 #[sv,x.val p] w fun r w'=>∃sv',r=.returned sv'∧w'.ownsRow w0.heap.size 100 4 sv' (ls++Zl d x).length ((ls++Zl d x).flatMap T.cells)∧Grew w sv w' sv':=by
 obtain⟨i0,hi0,hz0,hz1,hz2⟩:=info_parts ZiE;obtain⟨ao,co,rfl,hlo⟩:=ZB hown;have HLT:Hid (∀g,(Value.slice ao ls.length co).ownBlock=some g→w0.heap.size≤g∧g<w.heap.size):=fun g hg=>hown.lt g hg
 have HG0:Hid (Grew w (.slice ao ls.length co) (w.alloc (.cells #[.int .i8 x.k,.string x.pr,.slice p.a x.ts.length p.c,.int .i8 x.rel,.int .i8 x.l.op,.string x.l.t.v,.int .i8 x.l.t.a.k,.int .i64 x.l.t.a.n,.string x.l.t.a.s,.slice p.la x.l.kids.length p.lc,.int .i8 x.r.op,.string x.r.t.v,.int .i8 x.r.t.a.k,.int .i64 x.r.t.a.n,.string x.r.t.a.s,.slice p.ra x.r.kids.length p.rc] 105)) (.slice ao ls.length co)):=⟨⟨rfl,rfl,rfl,by simp,fun k hk _=>Below.heap_alloc w _ k hk⟩,.inl rfl⟩
 have HRL:Hid (RL (w.alloc (.cells #[.int .i8 x.k,.string x.pr,.slice p.a x.ts.length p.c,.int .i8 x.rel,.int .i8 x.l.op,.string x.l.t.v,.int .i8 x.l.t.a.k,.int .i64 x.l.t.a.n,.string x.l.t.a.s,.slice p.la x.l.kids.length p.lc,.int .i8 x.r.op,.string x.r.t.v,.int .i8 x.r.t.a.k,.int .i64 x.r.t.a.n,.string x.r.t.a.s,.slice p.ra x.r.kids.length p.rc] 105)) w.heap.size 105 [.int .i8 x.k,.string x.pr,.slice p.a x.ts.length p.c,.int .i8 x.rel,.int .i8 x.l.op,.string x.l.t.v,.int .i8 x.l.t.a.k,.int .i64 x.l.t.a.n,.string x.l.t.a.s,.slice p.la x.l.kids.length p.lc,.int .i8 x.r.op,.string x.r.t.v,.int .i8 x.r.t.a.k,.int .i64 x.r.t.a.n,.string x.r.t.a.s,.slice p.ra x.r.kids.length p.rc]):=Zk w #[.int .i8 x.k,.string x.pr,.slice p.a x.ts.length p.c,.int .i8 x.rel,.int .i8 x.l.op,.string x.l.t.v,.int .i8 x.l.t.a.k,.int .i64 x.l.t.a.n,.string x.l.t.a.s,.slice p.la x.l.kids.length p.lc,.int .i8 x.r.op,.string x.r.t.v,.int .i8 x.r.t.a.k,.int .i64 x.r.t.a.n,.string x.r.t.a.s,.slice p.ra x.r.kids.length p.rc] 105
 have HOW:Hid ((w.alloc (.cells #[.int .i8 x.k,.string x.pr,.slice p.a x.ts.length p.c,.int .i8 x.rel,.int .i8 x.l.op,.string x.l.t.v,.int .i8 x.l.t.a.k,.int .i64 x.l.t.a.n,.string x.l.t.a.s,.slice p.la x.l.kids.length p.lc,.int .i8 x.r.op,.string x.r.t.v,.int .i8 x.r.t.a.k,.int .i64 x.r.t.a.n,.string x.r.t.a.s,.slice p.ra x.r.kids.length p.rc] 105)).ownsRow w0.heap.size 100 4 (.slice ao ls.length co) ls.length (ls.flatMap T.cells)):=Zn hown ((Below.refl _ _).alloc (Nat.le_refl _) _)
 have hzW:(w.alloc (.cells #[.int .i8 x.k,.string x.pr,.slice p.a x.ts.length p.c,.int .i8 x.rel,.int .i8 x.l.op,.string x.l.t.v,.int .i8 x.l.t.a.k,.int .i64 x.l.t.a.n,.string x.l.t.a.s,.slice p.la x.l.kids.length p.lc,.int .i8 x.r.op,.string x.r.t.v,.int .i8 x.r.t.a.k,.int .i64 x.r.t.a.n,.string x.r.t.a.s,.slice p.ra x.r.kids.length p.rc] 105)).heap.size=w.heap.size+1:=by simp
 have HBW:Hid _:=hbw;have HLI:Hid _:=hL;unfold Zl at hs⊢;simp only[List.length_append]at hs;obtain⟨tm,htm⟩:∃tm,ls++(x.ts++(Zg d x.l++Zg d x.r))=tm:=⟨_,rfl⟩;have HTM:Hid _:=htm;rw[htm];have HSZ:Hid _:=hs;obtain⟨a1,c1,e1,hc1,hc2,hat⟩:=hL.ts.form
 cases e1
 have HAT:Hid _:=hat;have hls:ls.length≤1000000000:=by omega
 have hlx:ls.length+x.ts.length≤1000000000:=by omega
 clear hat hL hown hbw htm hs hc2;unfold Lit4.val;go_enter Tryz.func225,Tryz.ntmps225;go_upto_region 1 with fail
 generalize w.alloc (.cells #[.int .i8 x.k,.string x.pr,.slice p.a x.ts.length p.c,.int .i8 x.rel,.int .i8 x.l.op,.string x.l.t.v,.int .i8 x.l.t.a.k,.int .i64 x.l.t.a.n,.string x.l.t.a.s,.slice p.la x.l.kids.length p.lc,.int .i8 x.r.op,.string x.r.t.v,.int .i8 x.r.t.a.k,.int .i64 x.r.t.a.n,.string x.r.t.a.s,.slice p.ra x.r.kids.length p.rc] 105)=W at HG0 HRL HOW hzW⊢;have hzb:w0.heap.size≤W.heap.size:=by omega
 have HZW:Hid _:=hzW;clear hzW
 have HBX:Hid (∀(u:World) (sx:Value),Grew W (.slice ao ls.length co) u sx→Below w0.heap.size w0 u∧w0.heap.size≤u.heap.size∧RL u w.heap.size 105 [.int .i8 x.k,.string x.pr,.slice p.a x.ts.length p.c,.int .i8 x.rel,.int .i8 x.l.op,.string x.l.t.v,.int .i8 x.l.t.a.k,.int .i64 x.l.t.a.n,.string x.l.t.a.s,.slice p.la x.l.kids.length p.lc,.int .i8 x.r.op,.string x.r.t.v,.int .i8 x.r.t.a.k,.int .i64 x.r.t.a.n,.string x.r.t.a.s,.slice p.ra x.r.kids.length p.rc]):=fun u sx hg=>by
  have hb1:Below w0.heap.size w0 W:=HBW.out.grown HG0.out.gr hzw (fun j hj=>(HLT.out j hj).1);refine⟨hb1.grown hg.gr hzb (fun j hj=>(HLT.out j hj).1),Nat.le_trans hzb hg.gr.size,?_⟩;exact World.rowIs.of_block HRL.out (hg.gr.block w.heap.size (by rw[HZW.out];omega) (fun e=>by have:=(HLT.out _ e.symm).2;omega))
 go_wp2;go_loopw [0,5] (fun lv i wr=>∃(k n:Nat) (a':Option Addr) (c':Nat),k≤x.ts.length∧n=ls.length+k∧i=.int .i64 k∧lv=.slice a' n c'∧Hid (wr.ownsRow w0.heap.size 100 4 (.slice a' n c') n ((ls++x.ts.take k).flatMap T.cells))∧Hid (Grew W (.slice ao ls.length co) wr (.slice a' n c'))) (fun _ i _=>x.ts.length-(intOf i).toNat)
 case atStart=>exact⟨0,ls.length,ao,co,Nat.zero_le _,rfl,rfl,rfl,by show World.ownsRow _ _ _ _ _ _ _;rw[List.take_zero,List.append_nil];exact HOW.out,⟨⟨rfl,rfl,rfl,Nat.le_refl _,fun _ _ _=>rfl⟩,.inl rfl⟩⟩
 case round=>
  obtain⟨k,n,a',c',hk,hnk,rfl,rfl,HO,HG⟩:=hrel;obtain⟨hbu,hzu,hR⟩:=HBX.out wr _ HG.out
  by_cases hlt:k<x.ts.length
  ·have hlt':(k:Int)<(x.ts.length:Int):=by omega
   have hk0:(0:Int)≤(k:Int):=by omega
   obtain⟨g,off,hpa,hg,hT⟩:=HAT.out (by omega);have y2:=hR.at (j:=2) rfl;rw[hpa]at y2;obtain⟨x0,x1,x2,x3⟩:=(hT k hlt).below hbu hg;have HTK:Hid ((ls++x.ts.take (k+1)).flatMap T.cells=(ls++x.ts.take k).flatMap T.cells++T.cells (atT x.ts k)):=by show _=_;rw[List.flatMap_append,List.flatMap_append,ZeY hlt,List.append_assoc]
   generalize atT x.ts k=t at x0 x1 x2 x3 HTK;have hn1:n≤1000000000:=by omega
   clear hT hpa hR;go_wp2_with (at_builtin;refine wpList_append_own_at _ rfl _ _ 91 rfl w0.heap.size 100 i0 _ 4 48 Tryz.underlying91 hi0 hz0 hz1 hz2 rfl (by decide) _ _ _ rfl (Zn HO.out ((Below.refl _ _).alloc (Nat.le_refl _) _)) ⟨_,0,none⟩ 1 1 [.string t.v,.int .i8 t.a.k,.int .i64 t.a.n,.string t.a.s] rfl rfl (ZR _ #[.string t.v,.int .i8 t.a.k,.int .i64 t.a.n,.string t.a.s] _) (by simp[Value.oneCell']) (by unfold maxLen;omega) (by omega) (by simp;omega) ?_;intro v' w2 hown' hgrow hnil hloc)
   have G1:Grew wr (.slice a' n c') w2 v':=by
    refine⟨⟨hgrow.os,hgrow.tape,hgrow.output,Nat.le_trans (by simp) hgrow.size,fun k hk hn=>(hgrow.block k (by simp;omega) hn).trans (Below.heap_alloc wr _ k hk)⟩,?_⟩;rcases hloc with l | l
    ·exact .inl l
    ·exact .inr ⟨_,l,by simp⟩
   have HG2:Hid _:=Grew.trans HG.out G1;obtain⟨a2,c2,rfl,_⟩:=ZB hown';have HO2:Hid (w2.ownsRow w0.heap.size 100 4 (.slice a2 (n+1) c2) (n+1) ((ls++x.ts.take (k+1)).flatMap T.cells)):=by show World.ownsRow _ _ _ _ _ _ _;rw[HTK.out];exact hown'
   clear hown' hgrow hnil hloc G1;go_roundw
   case rel=>exact⟨k+1,n+1,a2,c2,by omega,by omega,by go_num,rfl,HO2,HG2⟩
   case measure=>simp[intOf];omega
  ·obtain rfl:k=x.ts.length:=by omega
   rw[List.take_length]at HO;obtain⟨l1,hl1⟩:∃l1,ls++x.ts=l1:=⟨_,rfl⟩;have hl1n:n=l1.length:=by rw[←hl1,List.length_append];exact hnk
   rw[hl1]at HO;have HTM1:Hid (l1++(Zg d x.l++Zg d x.r)=tm):=by show _=tm;rw[←HTM.out,←hl1,List.append_assoc]
   have HSZ1:Hid (l1.length+((Zg d x.l).length+(Zg d x.r).length)≤1000000000):=by show _≤_;have:=HSZ.out;rw[←hl1,List.length_append];omega
   subst hl1n;have y4:=hR.at (j:=4) rfl;have y5:=hR.at (j:=5) rfl;have y6:=hR.at (j:=6) rfl;have y7:=hR.at (j:=7) rfl;have y8:=hR.at (j:=8) rfl;have y9:=hR.at (j:=9) rfl;have y2:=hR.at (j:=2) rfl;have HX1:Hid _:=Za9 (w0:=w0) d x.l p.la p.lc (.slice a' l1.length c') l1 wr HLI.out.l hbu hzu HO.out (by have:=HSZ1.out;unfold szD;omega);unfold E.val at HX1;clear hR hbu hl1 hnk hls hlx;go_wp2_with fail
   refine Calls.mono HX1.out ?_;rintro ee w1 ⟨sv1,rfl,ho1,hg1⟩;have HG1:Hid _:=Grew.trans HG.out hg1;obtain⟨l2,hl2⟩:∃l2,l1++Zg d x.l=l2:=⟨_,rfl⟩;rw[hl2]at ho1;have HTM2:Hid (l2++Zg d x.r=tm):=by show _=tm;rw[←HTM1.out,←hl2,List.append_assoc]
   have HSZ2:Hid (l2.length+(Zg d x.r).length≤1000000000):=by show _≤_;have:=HSZ1.out;rw[←hl2,List.length_append];omega
   have HO1:Hid _:=ho1;obtain⟨b1,d1,rfl,_⟩:=ZB ho1;obtain⟨hbu1,hzu1,hR1⟩:=HBX.out w1 _ HG1.out;have z10:=hR1.at (j:=10) rfl;have z11:=hR1.at (j:=11) rfl;have z12:=hR1.at (j:=12) rfl;have z13:=hR1.at (j:=13) rfl;have z14:=hR1.at (j:=14) rfl;have z15:=hR1.at (j:=15) rfl;have HX2:Hid _:=Za9 (w0:=w0) d x.r p.ra p.rc _ l2 w1 HLI.out.r hbu1 hzu1 HO1.out (by have:=HSZ2.out;unfold szD;omega)
   unfold E.val at HX2;clear hR1 HX1 hg1 ho1 y2 y4 y5 y6 y7 y8 y9 hbu1 hl2;go_wp2_with fail;refine Calls.mono HX2.out ?_;rintro ee w2 ⟨sv2,rfl,ho2,hg2⟩;have HG2:Hid _:=Grew.trans HG1.out hg2;clear z10 z11 z12 z13 z14 z15 HX2 hg2;rw[HTM2.out]at ho2;go_wp2;go_ret;exact⟨_,rfl,ho2,Grew.trans HG0.out HG2.out⟩
end
section
open Go.RowKit Go.Maps
attribute [local go_sem ↓] Go.wp_at_zero Go.wp_at_succ
attribute [-go_sem] loadVar storeVar
theorem ZqI{l:List A5}{k:Nat}(h:k<l.length):(l.take (k+1)).map A5.t=(l.take k).map A5.t++[(atA l k).t]:=by
 have e:l.take (k+1)=l.take k++[l[k]]:=by rw[List.take_add_one,List.getElem?_eq_getElem h];rfl
 rw[e,List.map_append,Zdj h];rfl
theorem ZhB{w:World}{d:Nat}{r:R3}{p:RP}(h:RIs w d r p):∀t∈Zi d r,t.wf:=by
 intro t ht;unfold Zi at ht;rcases List.mem_append.1 ht with h1 | h1
 ·obtain⟨x,hx,rfl⟩:=List.mem_map.1 h1;exact(h.hd.wf x hx).t
 ·obtain⟨y,hy,h2⟩:=List.mem_flatMap.1 h1;exact ZgV (h.bd.each y hy) t h2
theorem ZgG(d:Nat)(r:R3)(p:RP)(w:World)(hR:RIs w d r p)(hs:(Zi d r).length≤1048576) :
  Calls Tryz.prog 224 #[r.val p] w fun e w'=>∃sv,e=.returned sv∧Ls w' sv (Zi d r).length ((Zi d r).flatMap T.cells)∧Below w.heap.size w w':=by
 obtain⟨i0,hi0,hz0,hz1,hz2⟩:=info_parts ZiE;obtain⟨pr,hd,bd⟩:=r;obtain⟨pa,pc,ba,bc⟩:=p;have HB0:Hid (Below w.heap.size w (w.alloc (.cells #[.string pr,.slice pa hd.length pc,.slice ba bd.length bc] 25))):=(Below.refl w.heap.size w).alloc (Nat.le_refl _) _;have HRI:Hid _:=hR.below HB0.out;have HR0:Hid (RL (w.alloc (.cells #[.string pr,.slice pa hd.length pc,.slice ba bd.length bc] 25)) w.heap.size 25 [.string pr,.slice pa hd.length pc,.slice ba bd.length bc]):=Zk w #[.string pr,.slice pa hd.length pc,.slice ba bd.length bc] 25
 have hagg1:=fun q=>loadVar.eq_1 23 q
 have hagg2:=fun q=>loadVar.eq_1 22 q
 have hagg3:=fun q=>loadVar.eq_1 100 q
 unfold Zi at hs⊢;unfold R3.val;dsimp only at hs⊢;obtain⟨tm,htm⟩:∃tm,hd.map A5.t++bd.flatMap (fun y=>Zl d y.x)=tm:=⟨_,rfl⟩;rw[htm]at hs⊢;have HTM:Hid _:=htm;have hl0:hd.length≤1048576:=by have:=congrArg List.length htm;rw[List.length_append,List.length_map]at this;omega
 clear hR htm;go_enter Tryz.func224,Tryz.ntmps224;go_upto_region 1 with fail
 generalize w.alloc (.cells #[.string pr,.slice pa hd.length pc,.slice ba bd.length bc] 25)=W at HB0 HRI HR0⊢;obtain⟨a1,c1,e1,hc1,hc2,hk1⟩:=HRI.out.hd.form
 cases e1
 obtain⟨a2,c2,e2,hc3,hc4,hk2⟩:=HRI.out.bd.form
 cases e2
 dsimp only at hk1 hk2;have HK1:Hid _:=hk1;have HK2:Hid _:=hk2;have hbW:w.heap.size<W.heap.size:=World.rowIs.lt HR0.out;have hbl:bd.length≤281474976710656:=HRI.out.bl;have HRu:Hid (∀u,Below W.heap.size W u→RL u w.heap.size 25 [.string pr,.slice pa hd.length pc,.slice ba bd.length bc]):=fun u hu=>RL.below HR0.out hu
 clear hk1 hk2 hc1 hc2 hc3 hc4 HR0;go_wp2;go_loopw [3,4] (fun lv i wr=>∃(k:Nat) (a':Option Addr) (c':Nat),k≤hd.length∧i=.int .i64 k∧lv=.slice a' k c'∧Hid (wr.ownsRow W.heap.size 100 4 (.slice a' k c') k (((hd.take k).map A5.t).flatMap T.cells))∧Below W.heap.size W wr) (fun _ i _=>hd.length-(intOf i).toNat)
 case atStart=>exact⟨0,none,0,Nat.zero_le _,rfl,rfl,World.ownsRow_nil _ _ _ _,Below.refl _ _⟩
 case round=>
  obtain⟨k,a',c',hk,rfl,rfl,HO,bel⟩:=hrel;have hR:=HRu.out wr bel;have hzw:=bel.size
  by_cases hlt:k<hd.length
  ·have hlt':(k:Int)<(hd.length:Int):=by omega
   have hk0:(0:Int)≤(k:Int):=by omega
   obtain⟨g,off,rfl,hg,hT⟩:=HK1.out (by omega);have y1:=hR.at (j:=1) rfl;have hrg:=Zu (hT k hlt) bel hg;have x0:wr.cell? ⟨g,off+k*5+1,none⟩=some (.string (atA hd k).t.v):=hrg 1 _ rfl;have x1:wr.cell? ⟨g,off+k*5+1+1,none⟩=some (.int .i8 (atA hd k).t.a.k):=hrg 2 _ rfl;have x2:wr.cell? ⟨g,off+k*5+1+2,none⟩=some (.int .i64 (atA hd k).t.a.n):=hrg 3 _ rfl;have x3:wr.cell? ⟨g,off+k*5+1+3,none⟩=some (.string (atA hd k).t.a.s):=hrg 4 _ rfl
   have HTK:Hid (((hd.take (k+1)).map A5.t).flatMap T.cells=((hd.take k).map A5.t).flatMap T.cells++T.cells (atA hd k).t):=by show _=_;rw[ZqI hlt,List.flatMap_append];simp
   generalize (atA hd k).t=t at x0 x1 x2 x3 HTK;clear hT hR hrg;go_wp2_with (at_builtin;refine wpList_append_own_at _ rfl _ _ 91 rfl W.heap.size 100 i0 _ 4 48 Tryz.underlying91 hi0 hz0 hz1 hz2 rfl (by decide) _ _ _ rfl (Zn HO.out ((Below.refl _ _).alloc (Nat.le_refl _) _)) ⟨_,0,none⟩ 1 1 [.string t.v,.int .i8 t.a.k,.int .i64 t.a.n,.string t.a.s] rfl rfl (ZR _ #[.string t.v,.int .i8 t.a.k,.int .i64 t.a.n,.string t.a.s] _) (by simp[Value.oneCell']) (by unfold maxLen;omega) (by omega) (by simp;omega) ?_;intro v' w2 hown' hgrow hnil hloc)
   obtain⟨a2,c2,rfl,_⟩:=ZB hown';go_roundw
   case rel=>exact⟨k+1,a2,c2,by omega,by go_num,rfl,by show World.ownsRow _ _ _ _ _ _ _;rw[HTK.out];exact hown',(bel.alloc bel.size _).grown hgrow (by simp;omega) (fun j hj=>(HO.out.lt j hj).1)⟩
   case measure=>simp[intOf];omega
  ·obtain rfl:k=hd.length:=by omega
   rw[List.take_length]at HO;obtain⟨l0,hl⟩:∃l0,hd.map A5.t=l0:=⟨_,rfl⟩;have hln:hd.length=l0.length:=by rw[←hl,List.length_map]
   have HO0:Hid (wr.ownsRow W.heap.size 100 4 (.slice a' l0.length c') l0.length (l0.flatMap T.cells)):=by show World.ownsRow _ _ _ _ _ _ _;rw[←hln,←hl];exact HO.out
   have HTM0:Hid (l0++bd.flatMap (fun y=>Zl d y.x)=tm):=by show _=tm;rw[←hl];exact HTM.out
   have y1:=hR.at (j:=1) rfl;clear HO HTM hl hR;go_wp2;clear y1;rw[hln];go_loopw [3,5] (fun lv i wr=>∃(k:Nat) (ls:List T) (a':Option Addr) (c':Nat),k≤bd.length∧i=.int .i64 k∧lv=.slice a' ls.length c'∧Hid (wr.ownsRow W.heap.size 100 4 (.slice a' ls.length c') ls.length (ls.flatMap T.cells))∧Below W.heap.size W wr∧Hid (ls++(bd.drop k).flatMap (fun y=>Zl d y.x)=tm)) (fun _ i _=>bd.length-(intOf i).toNat)
   case atStart=>exact⟨0,l0,a',c',Nat.zero_le _,rfl,rfl,HO0,bel,HTM0⟩
   case round=>
    obtain⟨k,ls,a',c',hk,rfl,rfl,HO,bel,HTk⟩:=hrel;have hR:=HRu.out wr bel;have hzw:=bel.size;have y2:=hR.at (j:=2) rfl
    by_cases hlt:k<bd.length
    ·have hlt':(k:Int)<(bd.length:Int):=by omega
     have hk0:(0:Int)≤(k:Int):=by omega
     obtain⟨g,off,rfl,hg,hT⟩:=HK2.out (by omega);have hld:=Zan (Zu (hT k hlt) bel hg) rfl;rw[XL.val_eq]at hld;have hxi:=HRI.out.bd.at_is (i:=k) hlt
     have hsum:ls.length+(Zl d (atL bd k).x).length≤1000000000:=by
      have h1:=congrArg List.length HTk.out;rw[ZlA hlt]at h1;simp only[List.length_append]at h1;omega
     have HC:Hid _:=Zeq (w0:=W) d (atL bd k).x (atL bd k).p (.slice a' ls.length c') ls wr hxi bel hzw HO.out hsum;have HT2:Hid ((ls++Zl d (atL bd k).x)++(bd.drop (k+1)).flatMap (fun y=>Zl d y.x)=tm):=by show _=tm;rw[←HTk.out,ZlA hlt,List.append_assoc]
     have HLT:Hid (∀j,(Value.slice a' ls.length c').ownBlock=some j→W.heap.size≤j):=fun j hj=>(HO.out.lt j hj).1
     generalize (atL bd k).x.val (atL bd k).p=QV at hld HC;generalize ls++Zl d (atL bd k).x=l2 at HC HT2;clear hT hR hxi hsum HTk HO;go_wp2_with fail;refine Calls.mono HC.out ?_;rintro ee w1 ⟨sv1,rfl,ho1,hg1⟩;have HO1:Hid _:=ho1;obtain⟨b1,d1,rfl,_⟩:=ZB ho1;have bel1:Below W.heap.size W w1:=bel.grown hg1.gr hzw HLT.out;clear ho1 hg1 hld HC y2;go_wp2;go_roundw
     case rel=>exact⟨k+1,l2,b1,d1,by omega,by go_num,rfl,HO1,bel1,HT2⟩
     case measure=>simp[intOf];omega
    ·obtain rfl:k=bd.length:=by omega
     have HTe:Hid (ls=tm):=by show ls=tm;rw[←HTk.out,List.drop_length];simp
     go_wp2;go_ret;rw[←HTe.out];exact⟨_,rfl,ZY HO.out,HB0.out.trans (bel.mono HB0.out.size)⟩
theorem ZdF(d:Nat)(r:R3)(p:RP)(w:World)(hR:RIs w d r p)(hs:(Zi d r).length≤1048576):Calls Tryz.prog 91 #[r.val p] w fun e w'=>∃sv,e=.returned sv∧Ls w' sv (vsT [] (Zi d r)).length ((vsT [] (Zi d r)).flatMap Zm)∧Below w.heap.size w w':=by
 have BA:=(Below.refl w.heap.size w).alloc (Nat.le_refl _) (.cells #[.string r.pr,.slice p.a r.hd.length p.c,.slice p.ba r.bd.length p.bc] 25);have HT:Hid _:=ZgG d r p _ (hR.below BA) hs;have hld:(loadVar 25 ⟨w.heap.size,0,none⟩).run Tryz.prog (w.alloc (.cells #[.string r.pr,.slice p.a r.hd.length p.c,.slice p.ba r.bd.length p.bc] 25))=.ok (.agg #[.string r.pr,.slice p.a r.hd.length p.c,.slice p.ba r.bd.length p.bc]) _:=run_loadVar_mid _ _ 0 25 [.string r.pr,.slice p.a r.hd.length p.c,.slice p.ba r.bd.length p.bc] _ (RL.range (Zk w #[.string r.pr,.slice p.a r.hd.length p.c,.slice p.ba r.bd.length p.bc] 25)) Tryz.underlying25 rfl (by kernel_rfl)
 have HWF:Hid _:=ZhB hR;have HB:Hid (Below w.heap.size w _):=BA;have hs':(Zi d r).length≤4398046511104:=by omega
 unfold R3.val at HT⊢;obtain⟨ts,hts⟩:∃ts,Zi d r=ts:=⟨_,rfl⟩;rw[hts]at HT HWF hs'⊢;clear hR BA hs hts;go_enter Tryz.func91,Tryz.ntmps91;go_wp2_with fail;refine Calls.mono HT.out ?_;rintro ee w1 ⟨sv1,rfl,ho1,b1⟩;have HB1:Hid (Below w.heap.size w w1):=HB.out.trans (b1.mono HB.out.size);have HL1:Hid (Lt w1 sv1 ts):=⟨ho1,HWF.out⟩;clear ho1 b1 hld;go_wp2_with fail;refine(Zgm sv1 ts w1 hs' HL1.out).mono ?_
 rintro ee w2 ⟨sv2,rfl,ho2,b2⟩;go_wp2;go_ret;exact⟨_,rfl,ZY ho2,HB1.out.trans (b2.mono HB1.out.size)⟩
end
section
open Go.RowKit Go.Maps
attribute [local go_sem ↓] Go.wp_at_zero Go.wp_at_succ
theorem Zn9{x:A5}(h:x.g=0):ZaS x=Zak x.t:=by unfold ZaS;rw[if_pos h]
theorem Zoa{x:A5}(h:x.g=1):ZaS x=decide (x.t=T0):=by unfold ZaS;rw[if_neg (by omega),if_pos h]
theorem Zob{x:A5}(h:x.g=2∨x.g=3∨x.g=4):ZaS x=(Zak x.t && !decide (x.t.v=noS)):=by unfold ZaS;rw[if_neg (by omega),if_neg (by omega),if_pos h]
theorem Zoc{x:A5}(h:x.g≠0∧x.g≠1∧x.g≠2∧x.g≠3∧x.g≠4):ZaS x=false:=by unfold ZaS;rw[if_neg (by omega),if_neg (by omega),if_neg (by omega)]
theorem Zod(x:A5)(w:World)(hx:x.wf):Calls Tryz.prog 235 #[.agg #[.int .i8 x.g,.string x.t.v,.int .i8 x.t.a.k,.int .i64 x.t.a.n,.string x.t.a.s]] w fun e w'=>e=.returned (.bool (ZaS x))∧Below w.heap.size w w':=by
 have BA:=(Below.refl w.heap.size w).alloc (Nat.le_refl _) (.cells #[.int .i8 x.g,.string x.t.v,.int .i8 x.t.a.k,.int .i64 x.t.a.n,.string x.t.a.s] 119);have HRL:Hid (RL (w.alloc (.cells #[.int .i8 x.g,.string x.t.v,.int .i8 x.t.a.k,.int .i64 x.t.a.n,.string x.t.a.s] 119)) w.heap.size 119 [.int .i8 x.g,.string x.t.v,.int .i8 x.t.a.k,.int .i64 x.t.a.n,.string x.t.a.s]):=Zk w #[.int .i8 x.g,.string x.t.v,.int .i8 x.t.a.k,.int .i64 x.t.a.n,.string x.t.a.s] 119
 have HN:Hid (∀u,Calls Tryz.prog 296 #[.agg #[.string x.t.v,.int .i8 x.t.a.k,.int .i64 x.t.a.n,.string x.t.a.s]] u fun e w'=>e=.returned (.bool (Zak x.t))∧Below u.heap.size u w'):=fun u=>Zfb x.t u hx.t
 have HBA:Hid (Below w.heap.size w _):=BA;clear hx BA
 by_cases g0:x.g=0
 ·have f0:(x.g==0)=true:=by rw[g0];rfl
  have HF:Hid _:=Zn9 g0;clear g0;go_enter Tryz.func235,Tryz.ntmps235;go_wp2_with (go_at_call 296;refine Calls.mono (HN.out _) ?_;rintro ee w1 ⟨rfl,b1⟩);go_ret;exact⟨Ze HF.out.symm,HBA.out.trans (b1.mono HBA.out.size)⟩
 ·have f0:(x.g==0)=false:=by rw[beq_eq_false_iff_ne];exact g0
  by_cases g1:x.g=1
  ·have f1:(x.g==1)=true:=by rw[g1];rfl
   have HF:Hid _:=Zoa g1;have hQ:=Zch x.t T0;unfold T0 V0 noS at hQ;dsimp only at hQ;clear g0 g1;go_enter Tryz.func235,Tryz.ntmps235;go_wp2;go_ret;exact⟨Ze HF.out.symm,HBA.out⟩
  ·have f1:(x.g==1)=false:=by rw[beq_eq_false_iff_ne];exact g1
   by_cases g2:x.g=2∨x.g=3∨x.g=4
   ·have HF:Hid _:=Zob g2
    have F:(x.g==2)=true∨((x.g==2)=false∧(x.g==3)=true)∨((x.g==2)=false∧(x.g==3)=false∧(x.g==4)=true):=by
     rcases g2 with e | e | e
     ·exact .inl (by rw[e];rfl)
     ·exact .inr (.inl ⟨by rw[e];rfl,by rw[e];rfl⟩)
     ·exact .inr (.inr ⟨by rw[e];rfl,by rw[e];rfl,by rw[e];rfl⟩)
    clear g0 g1 g2
    cases hN:Zak x.t
    ·rcases F with f2 | ⟨f2,f3⟩ | ⟨f2,f3,f4⟩
     all_goals
      go_enter Tryz.func235,Tryz.ntmps235;go_wp2_with (go_at_call 296;refine Calls.mono (HN.out _) ?_;rw[hN];rintro ee w1 ⟨rfl,b1⟩);go_ret;exact⟨Ze (by rw[HF.out,hN];rfl),HBA.out.trans (b1.mono HBA.out.size)⟩
    ·by_cases en:x.t.v=noS
     ·have he:x.t.v.toList.isEmpty=true:=by rw[en,ByteArray.toList_eq];rfl
      have HF2:Hid (ZaS x=false):=by show _=_;rw[HF.out,decide_eq_true en];simp
      clear en;rcases F with f2 | ⟨f2,f3⟩ | ⟨f2,f3,f4⟩
      all_goals
       go_enter Tryz.func235,Tryz.ntmps235;go_wp2_with (go_at_call 296;refine Calls.mono (HN.out _) ?_;rw[hN];rintro ee w1 ⟨rfl,b1⟩;have z1:=(RL.below HRL.out b1).at (j:=1) rfl);go_ret;exact⟨Ze HF2.out.symm,HBA.out.trans (b1.mono HBA.out.size)⟩
     ·have he:=Za7 x.t.v en;have HF2:Hid (ZaS x=true):=by show _=_;rw[HF.out,hN,decide_eq_false en];rfl
      clear en;rcases F with f2 | ⟨f2,f3⟩ | ⟨f2,f3,f4⟩
      all_goals
       go_enter Tryz.func235,Tryz.ntmps235;go_wp2_with (go_at_call 296;refine Calls.mono (HN.out _) ?_;rw[hN];rintro ee w1 ⟨rfl,b1⟩;have z1:=(RL.below HRL.out b1).at (j:=1) rfl);go_ret;exact⟨Ze HF2.out.symm,HBA.out.trans (b1.mono HBA.out.size)⟩
   ·have f2:(x.g==2)=false:=by rw[beq_eq_false_iff_ne];omega
    have f3:(x.g==3)=false:=by rw[beq_eq_false_iff_ne];omega
    have f4:(x.g==4)=false:=by rw[beq_eq_false_iff_ne];omega
    have HF:Hid (ZaS x=false):=Zoc ⟨g0,g1,by omega,by omega,by omega⟩;clear g0 g1 g2;go_enter Tryz.func235,Tryz.ntmps235;go_wp2;go_ret;exact⟨Ze HF.out.symm,HBA.out⟩
theorem Zoe(x:A5)(w:World)(hx:x.wf):Calls Tryz.prog 280 #[.agg #[.int .i8 x.g,.string x.t.v,.int .i8 x.t.a.k,.int .i64 x.t.a.n,.string x.t.a.s]] w fun e w'=>e=.returned (.bool (ZaS x))∧Below w.heap.size w w':=by
 have BA:=(Below.refl w.heap.size w).alloc (Nat.le_refl _) (.cells #[.int .i8 x.g,.string x.t.v,.int .i8 x.t.a.k,.int .i64 x.t.a.n,.string x.t.a.s] 119);have HBA:Hid (Below w.heap.size w _):=BA.alloc BA.size (.cells #[.string ⟨#[]⟩,.int .i8 0,.int .i64 0,.string ⟨#[]⟩] 100);have HN:Hid (∀u,Calls Tryz.prog 313 #[.agg #[.string x.t.v,.int .i8 x.t.a.k,.int .i64 x.t.a.n,.string x.t.a.s]] u fun e w'=>e=.returned (.bool (ZK x.t))∧Below u.heap.size u w'):=fun u=>ZeV x.t u hx.t
 have HNB:Hid (Zak x.t=(!decide (x.t.v=ZI)&&ZK x.t)):=rfl;clear hx BA
 by_cases g0:x.g=0
 ·have f0:(x.g==0)=true:=by rw[g0];rfl
  have HF:Hid _:=Zn9 g0;clear g0
  by_cases eb:x.t.v=ZI
  ·have hB:(x.t.v.toList==[95])=true:=by rw[eb,ByteArray.toList_eq];rfl
   have HF2:Hid (ZaS x=false):=by show _=_;rw[HF.out,HNB.out,decide_eq_true eb];rfl
   clear eb;go_enter Tryz.func280,Tryz.ntmps280;go_wp2;go_ret;exact⟨Ze HF2.out.symm,HBA.out⟩
  ·have hB:=Za0 eb;have HF2:Hid (ZaS x=ZK x.t):=by show _=_;rw[HF.out,HNB.out,decide_eq_false eb];rfl
   clear eb;go_enter Tryz.func280,Tryz.ntmps280;go_wp2_with (go_at_call 313;refine Calls.mono (HN.out _) ?_;rintro ee w1 ⟨rfl,b1⟩);go_ret;exact⟨Ze HF2.out.symm,HBA.out.trans (b1.mono HBA.out.size)⟩
 ·have f0:(x.g==0)=false:=by rw[beq_eq_false_iff_ne];exact g0
  by_cases g1:x.g=1
  ·have f1:(x.g==1)=true:=by rw[g1];rfl
   have HF:Hid _:=Zoa g1;have hQ:=Zch x.t T0;unfold T0 V0 noS at hQ;dsimp only at hQ;clear g0 g1;go_enter Tryz.func280,Tryz.ntmps280;go_wp2;go_ret;exact⟨Ze HF.out.symm,HBA.out⟩
  ·have f1:(x.g==1)=false:=by rw[beq_eq_false_iff_ne];exact g1
   by_cases g2:x.g=2∨x.g=3∨x.g=4
   ·have HF:Hid _:=Zob g2
    have F:(x.g==2)=true∨((x.g==2)=false∧(x.g==3)=true)∨((x.g==2)=false∧(x.g==3)=false∧(x.g==4)=true):=by
     rcases g2 with e | e | e
     ·exact .inl (by rw[e];rfl)
     ·exact .inr (.inl ⟨by rw[e];rfl,by rw[e];rfl⟩)
     ·exact .inr (.inr ⟨by rw[e];rfl,by rw[e];rfl,by rw[e];rfl⟩)
    clear g0 g1 g2
    by_cases en:x.t.v=noS
    ·have he:x.t.v.toList.isEmpty=true:=by rw[en,ByteArray.toList_eq];rfl
     have HF2:Hid (ZaS x=false):=by show _=_;rw[HF.out,decide_eq_true en];simp
     clear en;rcases F with f2 | ⟨f2,f3⟩ | ⟨f2,f3,f4⟩
     all_goals
      go_enter Tryz.func280,Tryz.ntmps280;go_wp2;go_ret;exact⟨Ze HF2.out.symm,HBA.out⟩
    ·have he:=Za7 x.t.v en
     by_cases eb:x.t.v=ZI
     ·have hB:(x.t.v.toList==[95])=true:=by rw[eb,ByteArray.toList_eq];rfl
      have HF2:Hid (ZaS x=false):=by show _=_;rw[HF.out,HNB.out,decide_eq_true eb];rfl
      clear eb en;rcases F with f2 | ⟨f2,f3⟩ | ⟨f2,f3,f4⟩
      all_goals
       go_enter Tryz.func280,Tryz.ntmps280;go_wp2;go_ret;exact⟨Ze HF2.out.symm,HBA.out⟩
     ·have hB:=Za0 eb;have HF2:Hid (ZaS x=ZK x.t):=by show _=_;rw[HF.out,HNB.out,decide_eq_false eb,decide_eq_false en];simp
      clear eb en;rcases F with f2 | ⟨f2,f3⟩ | ⟨f2,f3,f4⟩
      all_goals
       go_enter Tryz.func280,Tryz.ntmps280;go_wp2_with (go_at_call 313;refine Calls.mono (HN.out _) ?_;rintro ee w1 ⟨rfl,b1⟩);go_ret;exact⟨Ze HF2.out.symm,HBA.out.trans (b1.mono HBA.out.size)⟩
   ·have f2:(x.g==2)=false:=by rw[beq_eq_false_iff_ne];omega
    have f3:(x.g==3)=false:=by rw[beq_eq_false_iff_ne];omega
    have f4:(x.g==4)=false:=by rw[beq_eq_false_iff_ne];omega
    have HF:Hid (ZaS x=false):=Zoc ⟨g0,g1,by omega,by omega,by omega⟩;clear g0 g1 g2;go_enter Tryz.func280,Tryz.ntmps280;go_wp2;go_ret;exact⟨Ze HF.out.symm,HBA.out⟩
end
end Go.Proofs.YtjdnpgpbeppgjaaGreatDoor
