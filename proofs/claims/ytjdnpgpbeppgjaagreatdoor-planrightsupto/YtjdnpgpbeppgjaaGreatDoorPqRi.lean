import Derived.Test.YtjdnpgpbeppgjaaGreatDoorPqMa
set_option linter.unusedSimpArgs false
set_option linter.unusedVariables false
set_option maxHeartbeats 6400000
set_option maxRecDepth 100000
namespace Go.Proofs.YtjdnpgpbeppgjaaGreatDoor
open Go.RowKit Go.Maps Go.Shelf
attribute [local go_sem ↓] Go.wp_at_zero Go.wp_at_succ
attribute [-go_sem] loadVar Builtin.append_
theorem ZnZ{u:World}{b:Nat}{t:TypeId}{x0 x1 x2 x3:Value}(h:RL u b t [x0,x1,x2,x3]):(loadVar 25 ⟨b,0,none⟩).run Tryz.prog u=.ok (.agg #[x0,x1,x2]) u:=
 Zbp (cs:=[x0,x1,x2]) (fun j v hv=>by
  have hj:j<3:=(List.getElem?_eq_some_iff.1 hv).1;have hj6:j=0∨j=1∨j=2:=by omega
  rcases hj6 with rfl | rfl | rfl<;>exact RL.at h hv) rfl
def Zqe(d:Nat)(r:R3)(l:List ByteArray)(xs:List St)(e:Ending):Prop:=∃b,e=.returned (.bool b)∧ZaI d r l xs b
theorem Zmw{d:Nat}{r:R3}{l:List ByteArray}{n:Int}{xs:List St}(hm:Zji d r l n)(hn:n≠0):ZaI d r l xs false:=by
 obtain⟨b,h1,h2⟩:=hm;refine⟨fun _=>rfl,fun hr hk fs hf=>?_⟩;rw[hr,hk]at h1
 have hb:b=false:=by
  cases b
  ·rfl
  ·exact absurd h1 hn
 rw[←h2 hr hk fs hf,hb];rfl
theorem ZpM{d:Nat}{r:R3}{l:List ByteArray}(hm:Zji d r l 0):ruleB d r=true∧knB l l.length=true∧∀fs,ZbI d l r fs→fs.length=(vsT [] (Zi d r)).length:=by
 obtain⟨b,h1,h2⟩:=hm
 cases hr:ruleB d r
 ·rw[hr]at h1;have h1':(0:Int)=40:=h1;exact absurd h1' (by decide)
 ·cases hk:knB l l.length
  ·rw[hr,hk]at h1;have h1':(0:Int)=1:=h1;exact absurd h1' (by decide)
  ·rw[hr,hk]at h1
   have hb:b=true:=by
    cases b
    ·have h1':(0:Int)=73:=h1;exact absurd h1' (by decide)
    ·rfl
   exact⟨rfl,rfl,fun fs hf=>of_decide_eq_true ((h2 hr hk fs hf).symm.trans hb)⟩
theorem Zbl{d:Nat}{r:R3}{l:List ByteArray}{xs:List St}(hm:Zji d r l 0)(h:Zf0 (goR d r.bd l (2^r.bd.length-1) xs)=false):ZaI d r l xs false:=
 ⟨fun _=>rfl,fun hr hk fs hf=>by rw[h,Bool.and_false]⟩
theorem Zmx{d:Nat}{r:R3}{l:List ByteArray}{xs:List St}(hm:Zji d r l 0)(h:Zf0 (goR d r.bd l (2^r.bd.length-1) xs)=true):ZaI d r l xs true:=by
 obtain⟨h1,h2,h3⟩:=ZpM hm;refine⟨fun hh=>?_,fun hr hk fs hf=>by rw[h,decide_eq_true (h3 fs hf)];rfl⟩;rw[h1,h2]at hh;rcases hh with hh | hh<;>cases hh
theorem Zpb{d:Nat}{l:List XL}{ss:List ByteArray}{left:Nat}{s:St}(h:s.i<0):okQ d l ss left s=false:=by
 unfold okQ;rw[decide_eq_false (by omega)];rfl
theorem Zpc{d:Nat}{l:List XL}{ss:List ByteArray}{left:Nat}{s:St}(h:(l.length:Int)≤s.i)(h0:¬ s.i<0):okQ d l ss left s=false:=by
 unfold okQ;rw[decide_eq_false (show ¬ s.i.toNat<l.length by omega)];simp
theorem Zpd{d:Nat}{l:List XL}{ss:List ByteArray}{left t:Nat}{k m:Int}{g:List ByteArray}(h:left.testBit t=false):okQ d l ss left ⟨k,(t:Int),m,g⟩=false:=by
 unfold okQ;have e:((t:Int)).toNat=t:=Int.toNat_natCast t;simp only[e,h,Bool.false_and,Bool.and_false]
theorem Zqf{d:Nat}{l:List XL}{ss:List ByteArray}{left t:Nat}{k m:Int}{g:List ByteArray}(ht:t<l.length)(h:left.testBit t=true):okQ d l ss left ⟨k,(t:Int),m,g⟩=((ZT d ss (atL l t).x t).2&&(decide ((ZT d ss (atL l t).x t).1.k=k)&&(decide ((ZT d ss (atL l t).x t).1.m=m)&&decide ((ZT d ss (atL l t).x t).1.g=g)))):=by
 unfold okQ;have e:((t:Int)).toNat=t:=Int.toNat_natCast t;simp only[e,h,Bool.true_and,decide_eq_true ht,decide_eq_true (show(0:Int)≤(t:Int) by omega)]
theorem Zn0{d:Nat}{l:List XL}{ss:List ByteArray}{left:Nat}{s:St}(h:okW d l ss left s=true):s.g=(stL d ss l s.i.toNat).g:=by
 unfold okW Za2 at h;simp only[Bool.and_eq_true,decide_eq_true_eq]at h;exact h.2.2.2.2.2
theorem Zmy{d:Nat}{ss:List ByteArray}{x:Lit4}{k:Nat}(h:(Zl d x).length≤1048576):(ZT d ss x k).1.g.length≤1048577:=by
 unfold ZT
 split
 ·simp
 ·split
  ·split<;>simp
  ·have h1:=ZbU ss (vsT [] (Zl d x));have h2:=Zdd (Zl d x) [];rw[List.length_nil]at h2;show(ZA ss (vsT [] (Zl d x))).length≤_;omega
theorem ZkE(n:Nat)(hn:n≤1048576)(w:World) :
  (Instr.makeSlice 106 (.int .i64 (n:Int)) (.int .i64 (n:Int))).run Tryz.prog w=.ok (.slice (some ⟨w.heap.size,0,none⟩) n n) (w.alloc (.cells (madeCells #[.bool false] n) 4)):=by
 have h:(Tryz.prog.info? 4).map (fun i=>(i.zero,i.size,i.bytes))=some (some (.bool false),1,1):=by kernel_rfl
 obtain⟨i,hi,he⟩:=Option.map_eq_some_iff.1 h;simp only[Prod.mk.injEq]at he;obtain⟨h1,h2,h3⟩:=he;have:=run_make (P:=Tryz.prog) w 106 4 i _ Tryz.underlying106 hi h1 .i64 .i64 (n:Int) (n:Int) (by omega) (Int.le_refl _) (by rw[h3];omega) (by omega);rw[this,h2,show((n:Int)).toNat=n by omega,Nat.mul_one];rfl
theorem Zn1{u:World}{b n:Nat}{f:Nat→Value}{sv:Value}{l:List ByteArray}(hR:u.rowIs b 4 n f)(hf:∀i,i<n→∃x,f i=.bool x)(h:Ls u sv l.length (l.flatMap Zm))(j:Nat)(x:Value):Ls (u.setCell ⟨b,j,none⟩ x) sv l.length (l.flatMap Zm):=by
 obtain⟨a0,c0,e0,h01,h02,h03⟩:=Z3 h;obtain⟨hn,a',c',hv,h1,h2,hc⟩:=h;refine⟨hn,a',c',hv,h1,h2,fun h0=>?_⟩;obtain⟨g,off,ha,hg,hf2⟩:=hc h0;obtain⟨g0,off0,ha0,hg0,hf0⟩:=h03 h0
 have e1:a0=a':=by
  rw[e0]at hv
  injection hv
 have e2:g=g0:=by
  rw[←e1,ha0]at ha
  injection ha with ha
  injection ha with q1 q2 q3
  exact q1.symm
 have hgb:g≠b:=by
  intro e;have h4:=hf0 0 h0;rw[←e2,e]at h4;obtain⟨cs,k1,k2,k3⟩:=hR;have h5:cs[off0+0]?=some (.string (atS l 0)):=by simpa[World.cell?,k1]using h4
  have h6:=(Array.getElem?_eq_some_iff.1 h5).1;rw[k2]at h6;have h7:=k3 _ h6;obtain⟨y,hy⟩:=hf _ h6;rw[h5,hy]at h7
  cases h7
 exact⟨g,off,ha,by simpa using hg,fun i hi=>(ZJ (heap_setCell_other _ _ _ _ (by show g≠b;exact hgb)) _).trans (hf2 i hi)⟩
theorem Zf9{d:Nat}{r:R3}{p:RP}{xs:List SX}{sa:Option Addr}{sc:Nat}{w:World}(hR:RIs w (d+1) r p)(hs:Zaj (d+1) r)(hX:Lz w (.slice sa xs.length sc) xs){v:Value}{l:List ByteArray}(hl:Ls w v l.length (l.flatMap Zm))(hsz:∀i,i<l.length→(atS l i).size≤maxLen)(hll:l.length≤1048576) :
  Calls Tryz.prog 20 #[.agg #[.string r.pr,.slice p.a r.hd.length p.c,.slice p.ba r.bd.length p.bc,.slice sa xs.length sc],v] w fun e w'=>Zqe (d+1) r l (xs.map SX.s) e∧Below w.heap.size w w':=by
 obtain⟨i0,hi0,hz0,hz1,hz2⟩:=info_parts Zcq;have hA:=Zp (w:=w) (.cells #[.string r.pr,.slice p.a r.hd.length p.c,.slice p.ba r.bd.length p.bc,.slice sa xs.length sc] 32);have HB0:=Lib.hid hA;have HRL:=Lib.hid (Zk w #[.string r.pr,.slice p.a r.hd.length p.c,.slice p.ba r.bd.length p.bc,.slice sa xs.length sc] 32);have hMY:=ZnT (hR.below hA) hs (hl.below hA) hsz hll;unfold R3.val at hMY
 have HMY:=Lib.hid hMY;obtain⟨W,hW⟩:∃W,W=w.alloc (.cells #[.string r.pr,.slice p.a r.hd.length p.c,.slice p.ba r.bd.length p.bc,.slice sa xs.length sc] 32):=⟨_,rfl⟩;rw[←hW]at HB0 HRL HMY;have HLR:Hid (∀u,Below W.heap.size W u→(loadVar 25 ⟨w.heap.size,0,none⟩).run Tryz.prog u=.ok (.agg #[.string r.pr,.slice p.a r.hd.length p.c,.slice p.ba r.bd.length p.bc]) u):=fun u hu=>ZnZ (RL.below HRL.out hu)
 have HLS:Hid (∀u,Below W.heap.size W u→(loadVar 30 ⟨w.heap.size,3,none⟩).run Tryz.prog u=.ok (.slice sa xs.length sc) u):=fun u hu=>ZaO (RL.at (RL.below HRL.out hu) (j:=3) rfl)
 have HLB:Hid (∀u,Below W.heap.size W u→(loadVar 23 ⟨w.heap.size,2,none⟩).run Tryz.prog u=.ok (.slice p.ba r.bd.length p.bc) u):=fun u hu=>ZdW (RL.at (RL.below HRL.out hu) (j:=2) rfl)
 have HR:=Lib.hid hR;have HS:=Lib.hid hs;have HXs:=Lib.hid hX;have HL:=Lib.hid hl;obtain⟨la,lc,rfl,hlc1,hlc2,_⟩:=Z3 hl;obtain⟨a',c',hac,hc1,hc2,hat⟩:=hX.form
 injection hac with e1 e2 e3
 subst e1 e3;have HAT:=Lib.hid hat;unfold maxLen at hc2;clear hR hs hl hX hsz hA hMY hat e2 hlc1 hlc2;go_enter Tryz.func20,Tryz.ntmps20;go_upto_region 1 with fail
 rw[←hW];have lr0:=HLR.out _ (Below.refl _ _);generalize w.heap.size=b2 at HLR HLS HLB lr0⊢;clear hW HRL;go_wp2_with fail;refine HMY.out.mono ?_;rintro e w1 ⟨n0,rfl,hm,b1⟩;have HB1:=Lib.hid b1;have HM:=Lib.hid hm;clear HMY hm b1 lr0
 by_cases hn0:n0=0
 ·subst hn0;have ls1:=HLS.out _ HB1.out;have lb1:=HLB.out _ HB1.out;have HRB:=Lib.hid (ZpM HM.out);have HBD:=Lib.hid (Zie HRB.out.1 HS.out.terms);have HX:=Lib.hid (Zjh HRB.out.1);have HLF:=Lib.hid (Zjf HX.out)
  by_cases hlen:xs.length=r.bd.length
  ·obtain⟨n,hn⟩:∃n,n=r.bd.length:=⟨_,rfl⟩;have HN1:Hid (xs.length=n):=by show _=_;rw[hn,hlen]
   have HN2:Hid (r.bd.length=n):=hn.symm;have HN16:Hid (n≤16):=by show _≤_;rw[hn];exact HBD.out.bn
   have HTL:Hid (∀t,t<r.bd.length→(Zl (d+1) (atL r.bd t).x).length≤1048576):=fun t ht=>by
    have h1:=Zdw (fun y=>Zl (d+1) y.x) r.bd (atL r.bd t) (by rw[ZS ht];exact List.getElem_mem ht);have h2:=HS.out.terms;unfold Zi at h2;rw[List.length_append]at h2;exact Nat.le_trans h1 (by omega)
   rw[HN1.out]at ls1⊢;rw[HN2.out]at lb1⊢;have hn16:=HN16.out;rw[HN1.out]at hc1;clear hlen hn;go_wp2_with (at_builtin;refine Zae rfl (.tmp 26) (.tmp 27) 26 9 rfl Tryz.underlying26 hi0 hz0 hz1 hz2 rfl (by decide) (b:=w1.heap.size) (v:=.slice (some ⟨w1.heap.size,0,none⟩) 0 0) (n:=0) (xs:=[]) (a:=la) (c:=lc) (m:=l.length) (ys:=l.flatMap Zm) (by simp[Act.eval,Act.put]) (World.ownsRow_lit w1 #[] 0 (Nat.le_refl _) (by decide) rfl) (by simp[Act.eval,Act.put]) ((HL.out.below (HB0.out.trans (HB1.out.mono HB0.out.size))).below (Zp _)) (Zb0 l) (Zc0 l) (by unfold maxLen;omega) (by omega) (by simp) ?_;intro v5 w5 own5 hg5 hl5;have bel5:Hid (Below w1.heap.size w1 w5):=(Zp _).grown hg5 (by simp) (fun j hj=>by simp[Value.ownBlock]at hj;omega);rw[Nat.zero_add,List.nil_append]at own5;clear hg5 hl5)
   obtain⟨oa,oc,rfl,_⟩:=ZB own5;have lb5:=HLB.out _ (HB1.out.trans (bel5.out.mono HB1.out.size));rw[HN2.out]at lb5;have hmk:=ZkE n (by omega) w5;obtain⟨tb,htb⟩:∃tb,tb=w5.heap.size:=⟨_,rfl⟩
   have HT0:Hid ((w5.alloc (.cells (madeCells #[.bool false] n) 4)).rowIs tb 4 n (fun _=>.bool false)):=by
    show World.rowIs _ _ _ _ _;rw[htb];exact World.rowIs_made w5 (.bool false) n 4
   have HO0:Hid ((w5.alloc (.cells (madeCells #[.bool false] n) 4)).ownsRow w1.heap.size 9 1 (.slice oa l.length oc) l.length (l.flatMap Zm)):=Zn own5 (Zp _)
   have HNB0:Hid (∀g,(Value.slice oa l.length oc).ownBlock=some g→g≠tb):=fun g hg=>by
    have:=(own5.lt g hg).2;rw[htb];omega
   have HTG:Hid (w1.heap.size≤tb):=by show _≤_;rw[htb];exact bel5.out.size
   have HBW0:Hid (Below w1.heap.size w1 (w5.alloc (.cells (madeCells #[.bool false] n) 4))):=bel5.out.trans ((Zp _).mono bel5.out.size);rw[←htb]at hmk;generalize w5.alloc (.cells (madeCells #[.bool false] n) 4)=Z at hmk HT0 HO0 HBW0;have HGO0:Hid (goR (d+1) r.bd l (2^r.bd.length-1) ((xs.take 0).map SX.s)=some (l,2^r.bd.length-1)):=rfl
   have HLT0:Hid (2^r.bd.length-1<2^n):=by
    show _<_;rw[HN2.out];have:=Nat.two_pow_pos n;omega
   have HFT0:Hid (∀i,i<n→(fun _:Nat=>Value.bool false) i=.bool (!(2^r.bd.length-1).testBit i)):=fun i hi=>by
    rw[Nat.testBit_two_pow_sub_one,HN2.out,decide_eq_true hi];rfl
   have HSS0:Hid (l.length≤l.length+0*1048577):=by show _≤_;omega
   clear own5 bel5 htb ls1 lb1;go_wp2;clear hmk lb5;go_loopw [5,7,8,9,10] (fun hv i _ _ _ wr=>∃(j left:Nat) (ss:List ByteArray) (ha:Option Addr) (hc:Nat) (f:Nat→Value),j≤n∧i=.int .i64 (j:Int)∧hv=.slice ha ss.length hc∧Hid (goR (d+1) r.bd l (2^r.bd.length-1) ((xs.take j).map SX.s)=some (ss,left))∧Hid (left<2^n)∧Hid (ss.length≤l.length+j*1048577)∧Hid (wr.ownsRow w1.heap.size 9 1 (.slice ha ss.length hc) ss.length (ss.flatMap Zm))∧Hid (∀g,(Value.slice ha ss.length hc).ownBlock=some g→g≠tb)∧Hid (wr.rowIs tb 4 n f)∧Hid (∀i,i<n→f i=.bool (!left.testBit i))∧Hid (Below w1.heap.size w1 wr)) (fun _ i _ _ _ _=>n-(intOf i).toNat)
   case atStart=>exact⟨0,_,l,oa,oc,_,Nat.zero_le _,rfl,rfl,HGO0.out,HLT0.out,HSS0.out,HO0.out,HNB0.out,HT0.out,HFT0.out,HBW0.out⟩
   case round=>
    clear HGO0 HLT0 HSS0 HO0 HNB0 HT0 HFT0 HBW0;obtain⟨j,left,ss,ha,hc,f,hj,rfl,rfl,HGO,HLT,HSS,HO,HNB,HT,HFT,HB⟩:=hrel;have HFB:Hid (∀i,i<n→∃x,f i=.bool x):=fun i hi=>⟨_,HFT.out i hi⟩
    have ls:=HLS.out _ (HB1.out.trans (HB.out.mono HB1.out.size));rw[HN1.out]at ls
    by_cases hlt:j<n
    ·have hlt':(j:Int)<(n:Int):=by omega
     have hj0:(0:Int)≤(j:Int):=by omega
     obtain⟨g,off,rfl,hg,hr⟩:=HAT.out (by have:=HN1.out;omega);have HBX:Hid (Below w.heap.size w wr):=HB0.out.trans ((HB1.out.trans (HB.out.mono HB1.out.size)).mono HB0.out.size);have lst:=Zbq (Zu (hr j (by have:=HN1.out;omega)) HBX.out hg) rfl;have HLX:=Lib.hid ((HXs.out.at_is (show j<xs.length by have:=HN1.out;omega)).below HBX.out);obtain⟨y,hy⟩:∃y,y=atZ xs j:=⟨_,rfl⟩;rw[←hy]at lst HLX
     obtain⟨⟨sk,si,sm,sg⟩,ya,yc⟩:=y;have HYS:Hid ((atZ xs j).s=⟨sk,si,sm,sg⟩):=by show _=_;rw[←hy]
     unfold SX.cells at lst;simp only at lst HLX;clear hr hg hy;have HOK:Hid (okQ (d+1) r.bd ss left ⟨sk,si,sm,sg⟩=okW (d+1) r.bd ss left ⟨sk,si,sm,sg⟩):=Zqd (by rw[HN2.out];exact HLT.out) HX.out HLF.out;have hAl:=Zp (w:=wr) (.cells #[.int .i8 sk,.int .i64 si,.int .u32 sm,.slice ya sg.length yc] 84);have HBU:Hid (Below w1.heap.size w1 (wr.alloc (.cells #[.int .i8 sk,.int .i64 si,.int .u32 sm,.slice ya sg.length yc] 84))):=HB.out.trans (hAl.mono HB.out.size)
     have HU8:=Lib.hid (Zk wr #[.int .i8 sk,.int .i64 si,.int .u32 sm,.slice ya sg.length yc] 84);have HOU:=Lib.hid (Zn HO.out hAl);have HTU:Hid ((wr.alloc (.cells #[.int .i8 sk,.int .i64 si,.int .u32 sm,.slice ya sg.length yc] 84)).rowIs tb 4 n f):=HT.out.alloc _;have HXU:=Lib.hid (HLX.out.below hAl);have HTN:Hid (tb<wr.heap.size):=HT.out.lt;clear hAl;go_upto_region 9 with fail
     obtain⟨U,hU⟩:∃U,U=wr.alloc (.cells #[.int .i8 sk,.int .i64 si,.int .u32 sm,.slice ya sg.length yc] 84):=⟨_,rfl⟩;rw[←hU]at HBU HU8 HOU HTU HXU⊢;have HZU:Hid (wr.heap.size<U.heap.size):=by show _<_;rw[hU];simp
     clear hU lst ls HO HT HB HLX HBX;obtain⟨b8,hb8⟩:∃b8,b8=wr.heap.size:=⟨_,rfl⟩;rw[←hb8]at HU8 HTN HZU⊢;clear hb8;have li:=Zbk (RL.at HU8.out (j:=1) rfl)
     by_cases hs0:si<0
     ·have HF:Hid (ZaI (d+1) r l (xs.map SX.s) false):=Zbl HM.out (by rw[Zbi (show j<xs.length by have:=HN1.out;omega) HGO.out (by rw[HYS.out,←HOK.out];exact Zpb hs0)];rfl);clear HU8 HOU HTU HXU;go_wp2;go_ret;exact⟨⟨false,rfl,HF.out⟩,HB0.out.trans ((HB1.out.trans (HBU.out.mono HB1.out.size)).mono HB0.out.size)⟩
     ·by_cases hsn:(n:Int)≤si
      ·have HF:Hid (ZaI (d+1) r l (xs.map SX.s) false):=Zbl HM.out (by rw[Zbi (show j<xs.length by have:=HN1.out;omega) HGO.out (by rw[HYS.out,←HOK.out];exact Zpc (by rw[HN2.out];exact hsn) hs0)];rfl);clear HU8 HOU HTU HXU;go_wp2;go_ret;exact⟨⟨false,rfl,HF.out⟩,HB0.out.trans ((HB1.out.trans (HBU.out.mono HB1.out.size)).mono HB0.out.size)⟩
      ·obtain⟨t,ht⟩:∃t:Nat,si=(t:Int):=⟨si.toNat,by omega⟩;subst ht;have htn:t<n:=by omega
       have htn':(t:Int)<(n:Int):=by omega
       have ht0:(0:Int)≤(t:Int):=by omega
       have hs0':¬ ((t:Int)<0):=by omega
       have hsn':¬ ((n:Int)≤(t:Int)):=by omega
       have lbt:=Zea (HTU.out.cell htn);rw[HFT.out t htn]at lbt;clear hs0 hsn
       cases htb:left.testBit t
       case false=>
        have HF:Hid (ZaI (d+1) r l (xs.map SX.s) false):=Zbl HM.out (by rw[Zbi (show j<xs.length by have:=HN1.out;omega) HGO.out (by rw[HYS.out,←HOK.out];exact Zpd htb)];rfl);rw[htb]at lbt;clear HU8 HOU HTU HXU htb;go_wp2;go_ret;exact⟨⟨false,rfl,HF.out⟩,HB0.out.trans ((HB1.out.trans (HBU.out.mono HB1.out.size)).mono HB0.out.size)⟩
       case true=>
        rw[htb]at lbt;have HTB:=Lib.hid htb;clear htb;have HBX:Hid (Below w.heap.size w U):=HB0.out.trans ((HB1.out.trans (HBU.out.mono HB1.out.size)).mono HB0.out.size);have lru:=HLR.out _ (HB1.out.trans (HBU.out.mono HB1.out.size));rw[HN2.out]at lru;have hkk:t<r.bd.length:=by rw[HN2.out];exact htn
        have HST:Hid (Calls Tryz.prog 28 #[.agg #[.string r.pr,.slice p.a r.hd.length p.c,.slice p.ba n p.bc],.int .i64 (t:Int),.slice ha ss.length hc] U fun e w'=>Below U.heap.size U w'∧∃a c,e=.returned (.tuple #[(ZT (d+1) ss (atL r.bd t).x t).1.val a c,.bool (ZT (d+1) ss (atL r.bd t).x t).2])∧Ls w' (.slice a (ZT (d+1) ss (atL r.bd t).x t).1.g.length c) (ZT (d+1) ss (atL r.bd t).x t).1.g.length ((ZT (d+1) ss (atL r.bd t).x t).1.g.flatMap Zm)):=by
         have h:=ZmG (HR.out.below HBX.out) hkk HBD.out.bn (HBD.out.bc t hkk) (HBD.out.bl t hkk) (HBD.out.br t hkk) (HTL.out t hkk) (ZY HOU.out);unfold R3.val at h;rw[HN2.out]at h;exact h
        have HOQ:Hid (okQ (d+1) r.bd ss left ⟨sk,(t:Int),sm,sg⟩=((ZT (d+1) ss (atL r.bd t).x t).2&&(decide ((ZT (d+1) ss (atL r.bd t).x t).1.k=sk)&&(decide ((ZT (d+1) ss (atL r.bd t).x t).1.m=sm)&&decide ((ZT (d+1) ss (atL r.bd t).x t).1.g=sg))))):=Zqf hkk HTB.out;have HGL:Hid ((ZT (d+1) ss (atL r.bd t).x t).1.g.length≤1048577):=Zmy (HTL.out t hkk);obtain⟨S9,hS9⟩:∃S9,S9=ZT (d+1) ss (atL r.bd t).x t:=⟨_,rfl⟩
        rw[←hS9]at HST HOQ HGL;obtain⟨⟨k9,i9,m9,g9⟩,ok9⟩:=S9;unfold St.val at HST;simp only at HST HOQ HGL;clear hkk hS9;go_wp2_with fail;refine HST.out.mono ?_;rintro e w7 ⟨b7,a9,c9,rfl,hls9⟩;have hA9:=Zp (w:=w7) (.cells #[.int .i8 k9,.int .i64 i9,.int .u32 m9,.slice a9 g9.length c9] 84);have HB7:=Lib.hid (b7.trans (hA9.mono b7.size));have HV9:=Lib.hid (Zk w7 #[.int .i8 k9,.int .i64 i9,.int .u32 m9,.slice a9 g9.length c9] 84)
        have HG9:=Lib.hid (hls9.below hA9);have hz7:U.heap.size≤w7.heap.size:=b7.size
        have HZ9:Hid (tb≠w7.heap.size∧w1.heap.size≤w7.heap.size):=by
         have h1:=HTN.out;have h2:=HZU.out;have h3:=HBU.out.size;show _∧_;omega
        clear HST b7 hls9 hA9 lbt lru li hz7;go_upto_region 12 with fail
        obtain⟨X,hX⟩:∃X,X=w7.alloc (.cells #[.int .i8 k9,.int .i64 i9,.int .u32 m9,.slice a9 g9.length c9] 84):=⟨_,rfl⟩;rw[←hX]at HB7 HV9 HG9⊢;clear hX;obtain⟨b9,hb9⟩:∃b9,b9=w7.heap.size:=⟨_,rfl⟩;rw[←hb9]at HV9 HZ9⊢;clear hb9;have HBX2:Hid (Below w1.heap.size w1 X):=HBU.out.trans (HB7.out.mono HBU.out.size);have HX8:=Lib.hid (RL.below HU8.out HB7.out);have HOX:=Lib.hid (Zn HOU.out HB7.out);have HTX:Hid (X.rowIs tb 4 n f):=HTU.out.of_block (HB7.out.block tb HTU.out.lt)
        have HXX:=Lib.hid (HXU.out.below HB7.out);clear HU8 HOU HTU HXU HBU HB7 HBX
        cases ok9
        case false=>
         have HF:Hid (ZaI (d+1) r l (xs.map SX.s) false):=Zbl HM.out (by rw[Zbi (show j<xs.length by have:=HN1.out;omega) HGO.out (by rw[HYS.out,←HOK.out];rw[HOQ.out];rfl)];rfl);go_wp2;go_ret;exact⟨⟨false,rfl,HF.out⟩,HB0.out.trans ((HB1.out.trans (HBX2.out.mono HB1.out.size)).mono HB0.out.size)⟩
        case true=>
         have y0:=Zah (RL.at HV9.out (j:=0) rfl);have z0:=Zah (RL.at HX8.out (j:=0) rfl);have y2:=ZaU (RL.at HV9.out (j:=2) rfl);have z2:=ZaU (RL.at HX8.out (j:=2) rfl);have y3:=Zay (RL.at HV9.out (j:=3) rfl);have z3:=Zay (RL.at HX8.out (j:=3) rfl)
         by_cases hk9:k9=sk
         ·by_cases hm9:m9=sm
          ·have HSM:=Lib.hid (Zf4 HG9.out HXX.out);have hkb:(k9 != sk)=false:=by rw[hk9];simp
           have hmb:(m9 != sm)=false:=by rw[hm9];simp
           have HKM:=Lib.hid (And.intro hk9 hm9);clear hk9 hm9
           by_cases hg9:g9=sg
           ·rw[decide_eq_true hg9]at HSM
            have HOT:Hid (okW (d+1) r.bd ss left (atZ xs j).s=true):=by
             show _=_;rw[HYS.out,←HOK.out,HOQ.out,decide_eq_true HKM.out.1,decide_eq_true HKM.out.2,decide_eq_true hg9];rfl
            have HGN:=Lib.hid (Zi9 (show j<xs.length by have:=HN1.out;omega) HGO.out HOT.out)
            have HGE:Hid ((stL (d+1) ss r.bd (atZ xs j).s.i.toNat).g=sg∧(atZ xs j).s.i.toNat=t):=by
             have h1:=Zn0 HOT.out;rw[HYS.out]at h1⊢;exact⟨h1.symm,rfl⟩
            rw[HGE.out.1,HGE.out.2]at HGN;have HG9':=HG9;have hgl:sg.length≤1048577:=by rw[←hg9];exact HGL.out
            have HGQ:=Lib.hid hg9;clear hg9 HOT HGE HOQ HOK HGL;go_wp2_with fail;refine HSM.out.mono ?_;rintro e w8 ⟨rfl,b8'⟩;have HBX3:Hid (Below w1.heap.size w1 w8):=HBX2.out.trans (b8'.mono HBX2.out.size);have HO8:=Lib.hid (Zn HOX.out b8');have hT8:w8.rowIs tb 4 n f:=HTX.out.of_block (b8'.block tb HTX.out.lt);have HX9:=Lib.hid (RL.below HX8.out b8');have HV9b:=Lib.hid (RL.below HV9.out b8')
            have HXG:=Lib.hid (HG9.out.below b8');have lt1:=Zbk (RL.at HX9.out (j:=1) rfl);have ct:w8.cell? ⟨tb,t,none⟩=some (.bool false):=by rw[hT8.cell htn,HFT.out t htn,HTB.out];rfl
            have ft:=hT8.frozen t;have HT9:Hid ((w8.setCell ⟨tb,t,none⟩ (.bool true)).rowIs tb 4 n (fun i=>if i=t then .bool true else f i)):=hT8.set t (.bool true);have HO9:Hid ((w8.setCell ⟨tb,t,none⟩ (.bool true)).ownsRow w1.heap.size 9 1 (.slice ha ss.length hc) ss.length (ss.flatMap Zm)):=Zx HO8.out (fun g hg=>heap_setCell_other _ _ _ _ (by show g≠tb;exact HNB.out g hg));have HW9:Hid (RL (w8.setCell ⟨tb,t,none⟩ (.bool true)) b9 84 _):=RL.other HV9b.out (by have:=HZ9.out;omega) _
            have HBY:Hid (Below w1.heap.size w1 (w8.setCell ⟨tb,t,none⟩ (.bool true))):=HBX3.out.setCell (p:=⟨tb,t,none⟩) HTG.out _;have HXG9:Hid (Ls (w8.setCell ⟨tb,t,none⟩ (.bool true)) (.slice a9 g9.length c9) g9.length (g9.flatMap Zm)):=Zn1 hT8 HFB.out HXG.out _ _;have hz9:w8.heap.size≤(w8.setCell ⟨tb,t,none⟩ (.bool true)).heap.size:=by simp
            have HTL9:Hid (tb<w8.heap.size):=hT8.lt;clear HSM b8' hT8 HX8 HV9 HG9 HXX HOX HTX HO8 HX9 HV9b HXG y0 z0 y2 z2 y3 z3 HG9' HBX2;go_upto_region 15 with fail
            generalize w8.setCell ⟨tb,t,none⟩ (.bool true)=Y at HT9 HO9 HW9 HBY HXG9 hz9⊢;clear ct ft lt1;have ly3:=Zay (RL.at HW9.out (j:=3) rfl);have hzB:w1.heap.size≤Y.heap.size:=HBY.out.size
            have HSUM:Hid (ss.length+g9.length≤100000000∧g9.length≤1048577):=by
             have hss:ss.length≤l.length+j*1048577:=HSS.out;have hn16:n≤16:=HN16.out;have hjj:j*1048577≤16*1048577:=Nat.mul_le_mul_right _ (by omega);have hgg:g9.length≤1048577:=by rw[HGQ.out];exact hgl
             show _∧_;omega
            clear hgl;go_wp2_with (at_builtin;refine Zae rfl (.tmp 100) (.tmp 102) 26 9 rfl Tryz.underlying26 hi0 hz0 hz1 hz2 rfl (by decide) (b:=w1.heap.size) (v:=.slice ha ss.length hc) (n:=ss.length) (xs:=ss.flatMap Zm) (a:=a9) (c:=c9) (m:=g9.length) (ys:=g9.flatMap Zm) (by simp[Act.eval,Act.put]) HO9.out (by simp[Act.eval,Act.put]) HXG9.out (Zb0 g9) (Zc0 g9) (by unfold maxLen;have:=HSUM.out;omega) (by have:=HSUM.out;omega) hzB ?_;intro v6 w6 own6 hg6 hl6)
            obtain⟨xa,xc,rfl,_⟩:=ZB own6
            have HF:Hid (w6.ownsRow w1.heap.size 9 1 (.slice xa (ss++sg).length xc) (ss++sg).length ((ss++sg).flatMap Zm)∧(∀g,(Value.slice xa (ss.length+g9.length) xc).ownBlock=some g→g≠tb)∧w6.rowIs tb 4 n (fun i=>if i=t then .bool true else f i)∧Below w1.heap.size w1 w6∧(ss++sg).length≤l.length+(j+1)*1048577∧(ss++sg).length=ss.length+g9.length):=by
             refine⟨?_,?_,?_,?_,?_,?_⟩
             ·rw[←HGQ.out,List.length_append,List.flatMap_append];exact own6
             ·intro g hg;rcases hl6 with h | h
              ·rw[h]at hg;exact HNB.out g hg
              ·rw[h]at hg
               injection hg with hg
               have:=HTL9.out;omega
             ·refine HT9.out.of_block (hg6.block tb (by have:=HTL9.out;omega) (fun h=>?_));exact HNB.out tb h.symm rfl
             ·exact HBY.out.grown hg6 hzB (fun k hk=>(HO9.out.lt k hk).1)
             ·rw[List.length_append,←HGQ.out];have h1:(j+1)*1048577=j*1048577+1048577:=Nat.succ_mul _ _;have h2:=HSS.out;have h3:=HSUM.out;omega
             ·rw[List.length_append,←HGQ.out]
            have HGN2:Hid (goR (d+1) r.bd l (2^r.bd.length-1) ((xs.take (j+1)).map SX.s)=some (ss++sg,Z9 left t)):=HGN.out;have HLT2:Hid (Z9 left t<2^n):=Nat.lt_of_le_of_lt (Zcf _ _) HLT.out
            have HFT2:Hid (∀i,i<n→(fun i=>if i=t then Value.bool true else f i) i=.bool (!(Z9 left t).testBit i)):=fun i hi=>by
             simp only;rw[Zd7 (by omega) (by omega)]
             by_cases e:i=t
             ·rw[if_pos e,e,decide_eq_true rfl];simp
             ·rw[if_neg e,HFT.out i hi,decide_eq_false (fun h=>e h.symm)];simp
            clear own6 hg6 hl6 HO9 HBY HXG9 HW9 HT9;go_wp2;go_roundw
            case rel=>exact⟨j+1,Z9 left t,ss++sg,xa,xc,_,by omega,by go_num,by rw[HF.out.2.2.2.2.2],HGN2.out,HLT2.out,HF.out.2.2.2.2.1,HF.out.1,by rw[HF.out.2.2.2.2.2];exact HF.out.2.1,HF.out.2.2.1,HFT2.out,HF.out.2.2.2.1⟩
            case measure=>simp[intOf];omega
           ·rw[decide_eq_false hg9]at HSM;have HF:Hid (ZaI (d+1) r l (xs.map SX.s) false):=Zbl HM.out (by rw[Zbi (show j<xs.length by have:=HN1.out;omega) HGO.out (by rw[HYS.out,←HOK.out];rw[HOQ.out,decide_eq_false hg9];simp)];rfl);clear hg9;go_wp2_with fail;refine HSM.out.mono ?_;rintro e w8 ⟨rfl,b8'⟩;have HBX3:Hid (Below w1.heap.size w1 w8):=HBX2.out.trans (b8'.mono HBX2.out.size)
            clear HSM b8' y0 z0 y2 z2 y3 z3;go_wp2;go_ret;exact⟨⟨false,rfl,HF.out⟩,HB0.out.trans ((HB1.out.trans (HBX3.out.mono HB1.out.size)).mono HB0.out.size)⟩
          ·have HF:Hid (ZaI (d+1) r l (xs.map SX.s) false):=Zbl HM.out (by rw[Zbi (show j<xs.length by have:=HN1.out;omega) HGO.out (by rw[HYS.out,←HOK.out];rw[HOQ.out,decide_eq_false hm9];simp)];rfl);have hkb:(k9 != sk)=false:=by rw[hk9];simp
           have hmb:(m9 != sm)=true:=by simpa using hm9
           clear hk9 hm9;go_wp2;go_ret;exact⟨⟨false,rfl,HF.out⟩,HB0.out.trans ((HB1.out.trans (HBX2.out.mono HB1.out.size)).mono HB0.out.size)⟩
         ·have HF:Hid (ZaI (d+1) r l (xs.map SX.s) false):=Zbl HM.out (by rw[Zbi (show j<xs.length by have:=HN1.out;omega) HGO.out (by rw[HYS.out,←HOK.out];rw[HOQ.out,decide_eq_false hk9];simp)];rfl);have hkb:(k9 != sk)=true:=by simpa using hk9
          clear hk9;go_wp2;go_ret;exact⟨⟨false,rfl,HF.out⟩,HB0.out.trans ((HB1.out.trans (HBX2.out.mono HB1.out.size)).mono HB0.out.size)⟩
    ·obtain rfl:j=n:=by omega
     have HF:Hid (ZaI (d+1) r l (xs.map SX.s) true):=Zmx HM.out (by
      have h1:=HGO.out;rw[List.take_of_length_le (by have:=HN1.out;omega)]at h1;exact(Zjg HBD.out.bn).2 ⟨by rw[List.length_map,HN1.out,HN2.out],_,h1⟩)
     go_wp2;go_ret;exact⟨⟨true,rfl,HF.out⟩,HB0.out.trans ((HB1.out.trans (HB.out.mono HB1.out.size)).mono HB0.out.size)⟩
  ·have hne:¬ ((xs.length:Int)=(r.bd.length:Int)):=by omega
   have HF:Hid (ZaI (d+1) r l (xs.map SX.s) false):=Zbl HM.out (Bool.eq_false_iff.2 (fun h=>hlen (by
    have:=((Zjg HBD.out.bn).1 h).1;rw[List.length_map]at this;exact this)))
   go_wp2;go_ret;exact⟨⟨false,rfl,HF.out⟩,HB0.out.trans (HB1.out.mono HB0.out.size)⟩
 ·have hnb:(n0 != 0)=true:=by simpa using hn0
  have HF:Hid (ZaI (d+1) r l (xs.map SX.s) false):=Zmw HM.out hn0;clear hn0;go_wp2;go_ret;exact⟨⟨false,rfl,HF.out⟩,HB0.out.trans (HB1.out.mono HB0.out.size)⟩
end Go.Proofs.YtjdnpgpbeppgjaaGreatDoor
