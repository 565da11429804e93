import Derived.Test.YtjdnpgpbeppgjaaGreatDoorA13
import Derived.Test.YtjdnpgpbeppgjaaGreatDoorA2
import Derived.Test.YtjdnpgpbeppgjaaGreatDoorA9
import Derived.Test.YtjdnpgpbeppgjaaGreatDoorA7
import Derived.Lib.AppendZerosOnto
import Derived.Deep.Upon
set_option linter.unusedSimpArgs false
set_option linter.unusedVariables false
set_option maxHeartbeats 6400000
set_option maxRecDepth 100000
namespace Go.Proofs.YtjdnpgpbeppgjaaGreatDoor
section
open Go.RowKit Go.Maps
attribute [local go_sem ↓] Go.wp_at_zero Go.wp_at_succ
attribute [-go_sem] loadVar storeVar
theorem Zkb(u:World):(Instr.makeMap 389 none).run Tryz.prog u=.ok (.map (some u.heap.size)) (u.alloc (.map #[] 0)):=by kernel_rfl
def LmP(B:Nat)(qs:List Qn)(f0:List ByteArray)(w:World)(e:Ending)(w':World):Prop:=
 ∃sv fs,e=.returned sv∧w'.ownsRow B 9 1 sv fs.length (fs.flatMap Zm)∧Below B w w'∧(∃k,fs=itQ qs k f0)∧Zbz qs fs=fs
structure Itr (qs:List Qn) (f0 fs:List ByteArray) (L:List Er):Prop where
 it:∃k,fs=itQ qs k f0
 wt:Wt fs qs (L.map Er.q)
 ln:fs.length+L.length≤1000000000
theorem Itr.next{qs:List Qn}{f0 fs:List ByteArray}{L L':List Er}(h:Itr qs f0 fs L)(hok:∀q∈qs,OkQ q)(hq:L'.map Er.q=(ZU (L.map Er.q) fs).2)(hl:(ZU (L.map Er.q) fs).1.length+L'.length=fs.length+L.length):Itr qs f0 (ZU (L.map Er.q) fs).1 L':=by
 obtain⟨k,hk⟩:=h.it;obtain⟨h1,h2⟩:=Wt.round qs _ fs hok h.wt;refine⟨⟨k+1,?_⟩,by rw[hq];exact h2,by rw[hl];exact h.ln⟩;rw[ZfC,←hk,h1]
theorem Itr.still{qs:List Qn}{f0 fs:List ByteArray}{L L':List Er}(h:Itr qs f0 fs L)(hok:∀q∈qs,OkQ q)(hq:L'.map Er.q=(ZU (L.map Er.q) fs).2)(hl:¬ L'.length<L.length):(ZU (L.map Er.q) fs).1=fs∧Zbz qs fs=fs:=by
 have h0:=ZeG (L.map Er.q) fs;rw[←hq,List.length_map,List.length_map]at h0;have h1:=h0.2 (by omega);exact⟨h1,by rw[(Wt.round qs _ fs hok h.wt).1,h1]⟩
theorem ZhZ(d:Nat)(v:Value)(l:List XL)(w:World)(hL:Lb w v (d+1) l)(hts:∀i,i<l.length→(atL l i).x.ts.length≤1048576)(hn:(avL l).length≤4194304)(hll:l.length≤4194304)(hsz:∀i,i<l.length→szD (d+1) (atL l i).x.l≤1048576∧szD (d+1) (atL l i).x.r≤1048576) :
  Calls Tryz.prog 233 #[v] w fun e w'=>LmP w.heap.size (eqL (d+1) l) (atN l) w e w':=by
 have b02:Below w.heap.size w ((w.alloc (.map #[] 0)).alloc (.cells #[.map (some w.heap.size),.slice none 0 0] 391)):=(Zp (w:=w) (.map #[] 0)).trans ((Zp (w:=w.alloc (.map #[] 0)) _).mono (by simp));have HAT0:=Lib.hid (ZgB (d+1) v l _ (hL.below b02) hts hn hll);have HFD0:=Lib.hid (ZpY w);have HB02:=Lib.hid b02;have HZ2:Hid (((w.alloc (.map #[] 0)).alloc (.cells #[.map (some w.heap.size),.slice none 0 0] 391)).heap.size=w.heap.size+2):=by show _=_;simp
 have HIS:Hid (∀i,i<l.length→∀u,Below w.heap.size w u→LIs u (d+1) (atL l i).x (atL l i).p):=fun i hi u hu=>(hL.at_is hi).below hu
 have HNM:=Lib.hid (Znm hL);have HSZ:=Lib.hid hsz;have HOK:=Lib.hid (Zp0 (d+1) l);obtain⟨qs,hqs⟩:∃qs,eqL (d+1) l=qs:=⟨_,rfl⟩;rw[hqs]at HOK⊢;have HQS:=Lib.hid hqs;clear hqs;have HAN:Hid (atN l=(avL l).foldl Zby []):=rfl;have hmf:∀(fn:Fn) (first cap:Array Value) (w:World),(Instr.makeFunc fn first cap).run Tryz.prog w=.ok (.func fn first cap) w:=fun _ _ _ _=>rfl
 have hmk:=Zkb w;obtain⟨a,c,rfl,hc1,hc2,hat⟩:=hL.form;have HAT:=Lib.hid hat;clear hat hL hts hsz b02;generalize avL l=ns at HAT0 HNM HAN hn;generalize atN l=f0 at HAN;go_enter Tryz.func233,Tryz.ntmps233;go_wp2_with fail;refine HAT0.out.mono ?_;clear HAT0;generalize (w.alloc (.map #[] 0)).alloc (.cells #[.map (some w.heap.size),.slice none 0 0] 391)=W2 at HFD0 HB02 HZ2;rintro ee w2 ⟨sv2,rfl,hown2,b2⟩
 have HLN:=ZY hown2
 have HF2:Hid (Fnd w.heap.size (w.heap.size+1) w.heap.size W2.heap.size w w2 [] [] (.slice none 0 0) w2):=by
  have hz:=HZ2.out;have hs:=b2.size;refine⟨HFD0.out.below b2,HB02.out.trans (b2.mono (by omega)),?_,fun _ _ _=>rfl,⟨by omega,Nat.le_refl _,by omega⟩⟩;rintro k (e | e | e | ⟨x,hx,_⟩)
  ·exact .inl (by omega)
  ·exact .inl (by omega)
  ·simp[Value.ownBlock]at e
  ·cases hx
 have HOB:Hid (∀g,sv2.ownBlock=some g→W2.heap.size≤g∧g<w2.heap.size):=fun g hg=>hown2.lt g hg
 obtain⟨a2,c2,rfl,hnl0,hnl1,hnt⟩:=Z3 HLN
 have HNG:Hid (0<ns.length→∃g off,a2=some ⟨g,off,none⟩∧W2.heap.size≤g∧g<w2.heap.size∧∀i,i<ns.length→w2.cell? ⟨g,off+i,none⟩=some (.string (atS ns i))):=fun h0=>by
  obtain⟨g,off,ha,hg,hc⟩:=hnt h0;subst ha
  have hob:(Value.slice (some ⟨g,off,none⟩) ns.length c2).ownBlock=some g:=by
   have h1:=hown2;obtain⟨_,⟨h2,_⟩ | ⟨g2,cap,cur,h2,_⟩⟩:=h1
   ·cases h2
   ·injection h2 with h2 _ _
    injection h2 with h2
    injection h2 with h2 _ _
    subst h2;rfl
  exact⟨g,off,rfl,(HOB.out g hob).1,hg,hc⟩
 clear hnt hnl0 hnl1 hown2 b2 HLN HOB HFD0 HB02 HZ2;go_wp2;go_loopw [15] (fun i wr=>∃(k:Nat) (vs:List Vb) (fs:List ByteArray) (sv:Value),k≤ns.length∧i=.int .i64 k∧Hid (fs=(ns.take k).foldl Zby [])∧Hid (Fnd w.heap.size (w.heap.size+1) w.heap.size W2.heap.size w w2 vs fs sv wr)) (fun i _=>ns.length-(intOf i).toNat)
 case atStart=>exact⟨0,[],[],.slice none 0 0,Nat.zero_le _,rfl,rfl,HF2⟩
 case round=>
  clear HF2;obtain⟨k,vs,fs,sv,hk,rfl,HFS,HF⟩:=hrel;obtain⟨U,rfl⟩:∃U,U=wr:=⟨_,rfl⟩
  by_cases hlt:k<ns.length
  ·have hlt':(k:Int)<(ns.length:Int):=by omega
   have hk0:(0:Int)≤(k:Int):=by omega
   obtain⟨g2,off2,rfl,hgl,hgu,hcs⟩:=HNG.out (by omega);have hx0:(loadVar 9 ⟨g2,off2+k,none⟩).run Tryz.prog U=.ok (.string (atS ns k)) U:=ZpZ (by rw[World.cell?_of_block (w:=w2) (HF.out.kp g2 hgl hgu)];exact hcs k hlt);have HNX:=Lib.hid (ZiM hlt []);rw[←HFS.out]at HNX
   have hfl:fs.length≤1000000000:=by
    have:=ZfB ns k;rw[←HFS.out]at this;omega
   have HV:=Lib.hid (Zd4 HF.out.fd (Nat.le_trans HF.out.zz.1 HF.out.zz.2.1) (atS ns k) (HNM.out _ (by rw[Zgk hlt];exact List.getElem_mem hlt)));generalize atS ns k=nm at hx0 HNX HV;clear hcs HFS;go_wp2_with fail;refine HV.out.mono ?_;rintro ee w3 ⟨vs',x,rfl,hx,hxv,hm,hf,ht⟩;have HF3:=Lib.hid (HF.out.more hf hm ht);have HC:=Lib.hid (Zfz HF3.out.fd (Nat.le_trans HF3.out.zz.1 HF3.out.zz.2.1) x hx hfl)
   have HXV:=Lib.hid hxv;clear hx hxv hm hf ht HV HF;unfold ZcE;go_wp2_with fail;refine HC.out.mono ?_;rintro ee w4 ⟨⟨u,rfl⟩,sv',hf,ht,hn'⟩;have HF4:=Lib.hid (HF3.out.found hf ht hn');clear hf ht hn' HC HF3;rw[HXV.out,←HNX.out]at HF4;go_wp2;go_roundw
   case rel=>exact⟨k+1,vs',_,sv',by omega,by go_num,rfl,HF4⟩
   case measure=>simp[intOf];omega
  ·obtain rfl:k=ns.length:=by omega
   rw[List.take_length,←HAN.out]at HFS;obtain rfl:fs=f0:=HFS.out
   have HL0:Hid (Lst w.heap.size (w.heap.size+1) w.heap.size U.heap.size w vs fs sv (.slice none 0 0) [] (U.alloc (.cells #[.slice none 0 0] 397))):=by
    have hb:=Zp (w:=U) (.cells #[.slice none 0 0] 397);have hz:=HF.out.zz;refine⟨HF.out.fd.below hb,⟨fun r hr=>(by cases hr),by simp,fun r hr=>(by cases hr)⟩,⟨Zk U #[.slice none 0 0] _,World.ownsRow_nil _ _ _ _,fun g hg=>by simp[Value.ownBlock]at hg⟩,?_,HF.out.bl.trans (hb.mono (by omega)),fun r hr=>(by cases hr),by omega,by simp;omega⟩;rintro j (e | e)
    ·exact⟨fun hf=>by have:=HF.out.fd.lt j hf;omega,fun r hr=>(by cases hr)⟩
    ·simp[Value.ownBlock]at e
   have hfl:fs.length≤4194304:=by
    have:=ZeK ns [];rw[←HAN.out]at this;simp only[List.length_nil]at this;omega
   clear HFS HF HNM HNG hlt hk;go_wp2;clear hmk;generalize U.alloc (.cells #[.slice none 0 0] 397)=W3 at HL0⊢;generalize U.heap.size=bw at HL0⊢;go_loopw [27] (fun i wr=>∃(k:Nat) (vs:List Vb) (svw:Value) (L:List Er),k≤l.length∧i=.int .i64 k∧Hid (L.map Er.q=eqL (d+1) (l.take k))∧Hid (Lst w.heap.size (w.heap.size+1) w.heap.size bw w vs fs sv svw L wr)) (fun i _=>l.length-(intOf i).toNat)
   case atStart=>exact⟨0,vs,.slice none 0 0,[],Nat.zero_le _,rfl,rfl,HL0⟩
   case round=>
    clear HL0;obtain⟨k,vs,svw,L,hk,rfl,HLQ,HS⟩:=hrel;obtain⟨V,rfl⟩:∃V,V=wr:=⟨_,rfl⟩
    have hlen:L.length≤k:=by
     have h1:=congrArg List.length HLQ.out;have h2:=Zla (d+1) (l.take k);rw[List.length_map]at h1;rw[List.length_take]at h2;omega
    by_cases hlt:k<l.length
    ·have hlt':(k:Int)<(l.length:Int):=by omega
     have hk0:(0:Int)≤(k:Int):=by omega
     obtain⟨g,off,rfl,hg,hT⟩:=HAT.out (by omega);have r1:=Zu (hT k hlt) HS.out.bl hg;have HNX0:=Lib.hid (Znq (d:=d+1) hlt);rw[←HLQ.out]at HNX0;have HXI:=Lib.hid (HIS.out k hlt);have HXZ:=Lib.hid (HSZ.out k hlt);obtain⟨y,hy⟩:∃y,atL l k=y:=⟨_,rfl⟩;rw[hy]at r1 HNX0 HXI HXZ;have hld:=Zan r1 rfl;have hst:(storeVar 105 ⟨V.heap.size,0,none⟩ (.agg y.cells.toArray)).run Tryz.prog (V.alloc (.cells #[.int .i8 0,.string ⟨#[]⟩,.slice none 0 0,.int .i8 0,.int .i8 0,.string ⟨#[]⟩,.int .i8 0,.int .i64 0,.string ⟨#[]⟩,.slice none 0 0,.int .i8 0,.string ⟨#[]⟩,.int .i8 0,.int .i64 0,.string ⟨#[]⟩,.slice none 0 0] 105))=.ok () (V.alloc (.cells y.cells.toArray 105)):=run_storeVar_new V 105 #[.int .i8 0,.string ⟨#[]⟩,.slice none 0 0,.int .i8 0,.int .i8 0,.string ⟨#[]⟩,.int .i8 0,.int .i64 0,.string ⟨#[]⟩,.slice none 0 0,.int .i8 0,.string ⟨#[]⟩,.int .i8 0,.int .i64 0,.string ⟨#[]⟩,.slice none 0 0] y.cells.toArray (by kernel_rfl) rfl (ZbR _)
     have BA:=Zp (w:=V) (.cells y.cells.toArray 105);have HRN:=Lib.hid (Zk V y.cells.toArray 105);have HS2:=Lib.hid (HS.out.below BA);have HLB:Hid (¬ FP (w.heap.size+1) w.heap.size vs sv V.heap.size∧¬ WP bw svw V.heap.size):=⟨fun e=>by have:=HS.out.fd.lt _ e;omega,fun e=>by have:=HS.out.wk.lt _ e;omega⟩;clear hT r1 hy BA HS;generalize V.alloc (.cells y.cells.toArray 105)=W1 at hst HRN HS2;obtain⟨hf1,hf2,-,-⟩:=ZdL (y:=y) HRN.out
     generalize Value.agg y.cells.toArray=QV at hld hst
     by_cases hq:y.x.k=3∧y.x.rel=1
     ·have e1:(y.x.k==3)=true:=by rw[hq.1];rfl
      have e2:(y.x.rel==1)=true:=by rw[hq.2];rfl
      have HQX:Hid (∀r:Er,r.q=(sdE (d+1) y.x.l,sdE (d+1) y.x.r)→(L++[r]).map Er.q=eqL (d+1) (l.take (k+1))):=fun r hr=>by
       rw[HNX0.out,List.map_append,List.map_cons,List.map_nil,hr];unfold eqX;rw[if_pos hq]
      have hD:Below W1.heap.size W1 W1.drew:=(Below.refl _ _).drew;have HC:=Lib.hid (Znn (d:=d) (HS2.out.below hD) (HXI.out _ (HS2.out.below hD).bl) (Nat.le_trans HS2.out.zz hD.size) (RL.below HRN.out hD) HLB.out.1 HLB.out.2 HXZ.out (by omega) (fun u' ht=>HXI.out u' (Tz.below (HS2.out.below hD).bl ht (Nat.le_trans HS2.out.zz hD.size) (fun b e=>by rw[e];exact Nat.le_refl _))));have HRD:=Lib.hid (RL.below HRN.out hD)
      have HFL:Hid (∀u,RL u V.heap.size 105 y.cells→(loadVar 103 ⟨V.heap.size,4,none⟩).run Tryz.prog u=.ok (y.x.l.val y.p.la y.p.lc) u∧(loadVar 103 ⟨V.heap.size,10,none⟩).run Tryz.prog u=.ok (y.x.r.val y.p.ra y.p.rc) u):=fun u hu=>⟨(ZdL hu).2.2.1,(ZdL hu).2.2.2⟩
      clear hq HXI HXZ HNX0 HS2 HLB hD HRN HLQ;generalize y.x.l.val y.p.la y.p.lc=EL at HC HFL;generalize y.x.r.val y.p.ra y.p.rc=ER at HC HFL;go_upto_region 12 with fail
      clear hf1 hf2 e1 e2 hld hst;refine wp_region_noPanic ?_;refine wp_region_held (S:=fun u=>RL u V.heap.size 105 y.cells) (by kernel_rfl) ?_;refine ZoK (w5:=W1) (S:=fun u=>RL u V.heap.size 105 y.cells) (bf:=w.heap.size+1) (bw:=bw) (lb:=V.heap.size) (EL:=EL) (ER:=ER) (P:=fun u=>∃vs' svw' r,r.q=(sdE (d+1) y.x.l,sdE (d+1) y.x.r)∧Lst w.heap.size (w.heap.size+1) w.heap.size bw w vs' fs sv svw' (L++[r]) u) rfl rfl rfl rfl rfl rfl rfl rfl rfl rfl rfl (by kernel_rfl) (by kernel_rfl) (by kernel_rfl) (by kernel_rfl) (by kernel_rfl) (by kernel_rfl) (by kernel_rfl) (fun _ _ _ _ _ h=>h) (by simp) rfl rfl rfl HRD.out (fun _ _ _ h=>h) (fun u hu=>(HFL.out u hu).1) (fun u hu=>(HFL.out u hu).2) HC.out ?_
      intro wc u2 o1 o2 a1 a2 n1 n2 c1 c2 v3 hP;obtain⟨vs',svw',r,hrq,hS3⟩:=hP;have HS3:=Lib.hid hS3;have HRQ:=Lib.hid (HQX.out r hrq);clear hS3 hrq HC HFL HRD HQX;refine NoPanic.normal ?_
      rename_i hK
      refine hK _ _ ?_;simp (config:={maxSteps:=8000000}) only[Act.put,List.getElem_toArray,List.getElem_cons_zero,List.getElem_cons_succ,List.setIfInBounds_toArray,List.set_cons_succ,List.set_cons_zero];go_wp2;go_roundw
      case rel=>exact⟨k+1,vs',svw',L++[r],by omega,by go_num,HRQ,HS3⟩
      case measure=>simp[intOf];omega
     ·have HQX:Hid (L.map Er.q=eqL (d+1) (l.take (k+1))):=by
       show _=_;rw[HNX0.out];unfold eqX;rw[if_neg hq,List.append_nil]
      clear HNX0 HXI HXZ HLB HRN HLQ
      by_cases h1:y.x.k=3
      ·have e1:(y.x.k==3)=true:=by rw[h1];rfl
       have e2:(y.x.rel==1)=false:=by rw[beq_eq_false_iff_ne];exact fun h2=>hq ⟨h1,h2⟩
       clear h1 hq;go_wp2;go_roundw
       case rel=>exact⟨k+1,vs,svw,L,by omega,by go_num,HQX,HS2⟩
       case measure=>simp[intOf];omega
      ·have e1:(y.x.k==3)=false:=by rw[beq_eq_false_iff_ne];exact h1
       clear h1 hq;go_wp2;go_roundw
       case rel=>exact⟨k+1,vs,svw,L,by omega,by go_num,HQX,HS2⟩
       case measure=>simp[intOf];omega
    ·obtain rfl:k=l.length:=by omega
     rw[List.take_length]at HLQ;have HIT:Hid (Itr qs fs fs L):=⟨⟨0,rfl⟩,by rw[HLQ.out,HQS.out];exact Wt.all _ _,by omega⟩;clear HLQ hlt hk hlen HAT HIS HSZ HAN;go_wp2;go_loopw [] (fun wr=>∃(fs':List ByteArray) (sv' svw':Value) (L':List Er),Hid (Itr qs fs fs' L')∧Hid (Lst w.heap.size (w.heap.size+1) w.heap.size bw w vs fs' sv' svw' L' wr)) (fun wr=>Zlb (wr.cell? ⟨bw,0,none⟩))
     case atStart=>exact⟨fs,sv,svw,L,HIT,HS⟩
     case round=>
      clear HIT HS hfl;obtain⟨fs1,sv1,svw1,L1,HIT,HS⟩:=hrel;obtain⟨X,rfl⟩:∃X,X=wr:=⟨_,rfl⟩;have HC:=Lib.hid (ZlZ HS.out.fd HS.out.eq HS.out.wk HS.out.wa HS.out.zz HIT.out.ln)
      have HM0:Hid (Zlb (X.cell? ⟨bw,0,none⟩)=L1.length):=by
       show _=_;have h1:=HS.out.wk.r.at (j:=0) rfl;obtain⟨sa,sc,e,_⟩:=ZB HS.out.wk.own;rw[h1,e];exact List.length_map _
      unfold Zh1 at HC;go_wp2_with fail;refine HC.out.mono ?_;intro e w4 hr;obtain⟨sv4,svw4,L4,rfl,hq4,hl4,hS4⟩:=HS.out.round hr;have HIT4:=Lib.hid (HIT.out.next HOK.out hq4 hl4);have HS4:=Lib.hid hS4;have HST:Hid (¬ L4.length<L1.length→(ZU (L1.map Er.q) fs1).1=fs1∧Zbz qs fs1=fs1):=fun h=>HIT.out.still HOK.out hq4 h
      clear hr hq4 hl4 hS4 HC
      by_cases hb:L4.length<L1.length
      ·have HM4:Hid (Zlb (w4.cell? ⟨bw,0,none⟩)<Zlb (X.cell? ⟨bw,0,none⟩)):=by
        show _<_;have h1:=HS4.out.wk.r.at (j:=0) rfl;obtain⟨sa,sc,e,_⟩:=ZB HS4.out.wk.own;rw[HM0.out,h1,e];show(L4.map Er.be).length<_;rw[List.length_map];exact hb
       rw[decide_eq_true hb];clear HS HIT HST HM0 hb;go_wp2;go_roundw
       case rel=>exact⟨_,sv4,svw4,L4,HIT4,HS4⟩
       case measure=>exact HM4.out
      ·rw[decide_eq_false hb];obtain⟨hs1,hs2⟩:=HST.out hb;rw[hs1]at HS4 HIT4;have hr4:=HS4.out.fd.r;obtain⟨sa,sc,e,_⟩:=ZB HS4.out.fd.own;subst e;have hq1:=ZoI (hr4.at (j:=1) rfl);have HP:Hid (LmP w.heap.size qs fs w (.returned (.slice sa fs1.length sc)) w4):=⟨_,fs1,rfl,HS4.out.fd.own,HS4.out.bl,HIT4.out.it,hs2⟩;clear HS HIT HST HM0 hb HS4 HIT4 hs1 hs2 hr4 HOK;go_wp2;go_ret;exact HP.out
end
section
open Go.RowKit Go.Maps Go.ChangeMaps
attribute [local go_sem ↓] Go.wp_at_zero Go.wp_at_succ
theorem SetIs.lookK{w:World}{b:Nat}{ss:List ByteArray}(h:SetIs w b ss){s:ByteArray}(hs:s.size≤maxLen) :
  (Instr.lookup 130 (.map (some b)) (.string s) true).run Tryz.prog w=.ok (.tuple #[.agg #[],.bool (inB ss s)]) w:=by
 obtain⟨es,c,hb,hes,hw⟩:=h;have hl:=Zba s hs;rcases Zap.find w hl es.toList (ZcS hes hw)with ⟨h1,h2⟩ | ⟨j,e,h1,h2,h3⟩
 ·have hi:inB ss s=false:=Bool.eq_false_iff.2 (fun hh=>ZjK hes h2 (ZD.1 hh));rw[hi];simp[Instr.lookup,run_underlying Tryz.underlying130,MapKept.run_getObj_map hb,Zap.check w _ hl,h1,Result.andThen,ZjL]
 ·obtain⟨p,hp,hk,hval⟩:=Zdl hes h2
  have e:p=s:=by
   have:=hk.symm.trans h3
   injection this
  have hi:inB ss s=true:=ZD.2 (e▸List.mem_of_getElem? hp);rw[hi];simp[Instr.lookup,run_underlying Tryz.underlying130,MapKept.run_getObj_map hb,Zap.check w _ hl,h1,hval,Result.andThen]
theorem SetIs.putK{w:World}{b:Nat}{ss:List ByteArray}(h:SetIs w b ss){s:ByteArray}(hs:s.size≤maxLen)(hn:s ∉ ss) :
  ∃w',(Instr.mapUpdate 130 (.map (some b)) (.string s) (.agg #[])).run Tryz.prog w=.ok () w'∧SetIs w' b (ss++[s])∧w.mapTurned w' b:=by
 obtain⟨es,c,hb,hes,hw⟩:=h;have hl:=Zba s hs;rcases Zap.find w hl es.toList (ZcS hes hw)with ⟨h1,h2⟩ | ⟨j,e,h1,h2,h3⟩
 ·refine⟨setBlock w b (.map (es.push ⟨.string s,.agg #[],c⟩) (c+1)),by simp[Instr.mapUpdate,run_underlying Tryz.underlying130,MapKept.run_getObj_map hb,Zap.check w false hl,h1,MapKept.run_setObj_map _ hb,Result.andThen,setBlock],⟨_,_,heap_setBlock_same hb _,by simp[hes],?_⟩,?_⟩
  ·intro p hp;rcases List.mem_append.1 hp with hp | hp
   ·exact hw p hp
   ·simp at hp;subst hp;exact hs
  ·exact⟨es,c,_,_,hb,rfl⟩
 ·obtain⟨p,hp,hk,hval⟩:=Zdl hes h2;refine absurd (List.mem_of_getElem? hp) ?_
  have e:p=s:=by
   have:=hk.symm.trans h3
   injection this
  rw[e];exact hn
attribute [-go_sem] loadVar Builtin.append_
theorem Zh6{w:World}{b:Nat}{ss:List ByteArray}(h:SetIs w b ss){s:ByteArray}(hs:s.size≤maxLen) :
  Calls Tryz.prog 229 #[.map (some b),.string s] w fun e w'=>e=.returned (.bool (inB ss s))∧Below w.heap.size w w':=by
 have hl:=h.lookK hs;have HB:Hid (Below w.heap.size w (w.alloc (.cells #[] 378))):=(Below.refl _ _).alloc (Nat.le_refl _) _;clear h;go_enter Tryz.func229,Tryz.ntmps229;go_wp2;go_ret;exact⟨rfl,HB.out⟩
theorem ZiX{w:World}{b:Nat}{ss:List ByteArray}(h:SetIs w b ss){s:ByteArray}(hs:s.size≤maxLen)(hn:s ∉ ss) :
  Calls Tryz.prog 213 #[.map (some b),.string s] w fun e w'=>(∃u,e=.returned u)∧SetIs w' b (ss++[s])∧w.mapTurned w' b:=by
 obtain⟨w',hrun,hset,hturn⟩:=h.putK hs hn;have HF:=Lib.hid (And.intro hset hturn);clear h hset hturn;go_enter Tryz.func213,Tryz.ntmps213;go_wp2;go_end0;exact⟨⟨_,rfl⟩,HF.out⟩
theorem Zh7{w0 u:World}{B:Nat}{a:Option Addr}{c:Nat}{out:List ByteArray}(x:ByteArray)(own:u.ownsRow B 9 1 (.slice a out.length c) out.length (out.flatMap Zm))(hb:Below B w0 u)(hB:B≤w0.heap.size)(hl:out.length≤1000000000) :
  ∃a6 c6 w5,(Builtin.append_ #[26,26] 26 #[.slice a out.length c,.slice (some ⟨u.heap.size,0,none⟩) 1 1]).run Tryz.prog (u.alloc (.cells #[.string x] 9))=.ok (.slice a6 (out.length+1) c6) w5∧w5.ownsRow B 9 1 (.slice a6 (out++[x]).length c6) (out++[x]).length ((out++[x]).flatMap Zm)∧Below B w0 w5:=by
 obtain⟨i0,hi0,hz0,hz1,hz2⟩:=info_parts Zcq;have hA:=Zp (w:=u) (.cells #[.string x] 9);have hzu:B≤u.heap.size:=Nat.le_trans hB hb.size;have hb5:Below B w0 (u.alloc (.cells #[.string x] 9)):=hb.trans (hA.mono hzu);have hz5:B≤(u.alloc (.cells #[.string x] 9)).heap.size:=Nat.le_trans hzu hA.size;have ho:=Zn own hA;obtain⟨v',w5,hrun,hown',hgrow,hnil,hloc⟩:=run_append_own_at (P:=Tryz.prog) (u.alloc (.cells #[.string x] 9)) B 26 26 9 i0 _ 1 16 Tryz.underlying26 hi0 hz0 hz1 hz2 rfl (by decide) _ _ _ ho ⟨_,0,none⟩ 1 1 [.string x] rfl (ZR _ #[.string x] _) (by simp[Value.oneCell']) (by unfold maxLen;omega) (by omega) hz5
 obtain⟨a6,c6,rfl,_⟩:=ZB hown';refine⟨a6,c6,w5,hrun,?_,hb5.grown hgrow hz5 (fun j hj=>(ho.lt j hj).1)⟩;rw[List.length_append,List.flatMap_append];exact hown'
def ZA(ss l:List ByteArray):List ByteArray:=l.filter (fun n => !inB ss n)
theorem ZfR{ss l:List ByteArray}{k:Nat}(hk:k<l.length):ZA ss (l.take (k+1))=if inB ss (atS l k)=true then ZA ss (l.take k)else ZA ss (l.take k)++[atS l k]:=by
 have e:l[k]?=some (atS l k):=by
  unfold atS;rw[List.getD,List.getElem?_eq_getElem hk];rfl
 unfold ZA;rw[List.take_add_one,e,List.filter_append]
 by_cases h:inB ss (atS l k)=true
 ·rw[if_pos h];simp[h]
 ·rw[if_neg h];simp[h]
theorem ZbU(ss l:List ByteArray):(ZA ss l).length≤l.length:=List.length_filter_le _ _
theorem ZL{u:World}{a:Addr}{s:ByteArray}(h:u.cell? a=some (.string s)):(loadVar 9 a).run Tryz.prog u=.ok (.string s) u:=by rw[loadVar.eq_1];go_simp
theorem ZiY{w:World}{b:Nat}{ss:List ByteArray}(h:SetIs w b ss){v:Value}{l:List ByteArray}(hl:Ls w v l.length (l.flatMap Zm))(hsz:∀i,i<l.length→(atS l i).size≤maxLen)(hn:l.length≤1048576) :
  Calls Tryz.prog 209 #[.map (some b),v] w fun e w'=>∃a c,e=.returned (.slice a (ZA ss l).length c)∧w'.ownsRow w.heap.size 9 1 (.slice a (ZA ss l).length c) (ZA ss l).length ((ZA ss l).flatMap Zm)∧Below w.heap.size w w':=by
 have HS:=Lib.hid h;have HZ:=Lib.hid hsz;obtain⟨a,c,rfl,hc1,hc2,hat⟩:=Z3 hl;have HAT:=Lib.hid hat;have HO0:Hid (w.ownsRow w.heap.size 9 1 (.slice none (ZA ss (l.take 0)).length 0) (ZA ss (l.take 0)).length ((ZA ss (l.take 0)).flatMap Zm)∧Below w.heap.size w w):=⟨World.ownsRow_nil _ _ _ _,Below.refl _ _⟩;clear h hl hsz hat;go_enter Tryz.func209,Tryz.ntmps209;go_wp2;go_loopw [5,10] (fun sv i wr=>∃(k:Nat) (a':Option Addr) (c':Nat),k≤l.length∧i=.int .i64 k∧sv=.slice a' (ZA ss (l.take k)).length c'∧Hid (wr.ownsRow w.heap.size 9 1 (.slice a' (ZA ss (l.take k)).length c') (ZA ss (l.take k)).length ((ZA ss (l.take k)).flatMap Zm)∧Below w.heap.size w wr)) (fun _ i _=>l.length-(intOf i).toNat)
 case atStart=>exact⟨0,none,0,Nat.zero_le _,rfl,rfl,HO0.out⟩
 case round=>
  obtain⟨k,a',c',hk,rfl,rfl,HI⟩:=hrel;clear HO0
  by_cases hlt:k<l.length
  ·have hlt':(k:Int)<(l.length:Int):=by omega
   have hk0:(0:Int)≤(k:Int):=by omega
   obtain⟨g,off,rfl,hg,hce⟩:=HAT.out (by omega);have l1:=ZL ((HI.out.2.cell (p:=⟨g,off+k,none⟩) hg).trans (hce k hlt));have HHS:=Lib.hid (Zh6 (HS.out.of_block (HI.out.2.block b HS.out.lt)) (HZ.out k hlt));have HLT:=Lib.hid (ZfR (ss:=ss) hlt);have hll:(ZA ss (l.take k)).length≤1048576:=Nat.le_trans (ZbU _ _) (by rw[List.length_take];omega);generalize ZA ss (l.take k)=out at HI HLT hll⊢
   generalize atS l k=x at l1 HHS HLT;clear hce;go_wp2_with fail;refine HHS.out.mono ?_;rintro e w2 ⟨rfl,b2⟩;have HO2:=Lib.hid (Zn HI.out.1 b2);have HB2:=Lib.hid (HI.out.2.trans (b2.mono HI.out.2.size));clear HHS b2 l1 HI
   cases hi:inB ss x
   ·rw[hi]at HLT;rw[if_neg (by decide)]at HLT;obtain⟨a6,c6,w5,hrun,hown,hb5⟩:=Zh7 x HO2.out HB2.out (Nat.le_refl _) (by omega);have HF:=Lib.hid (And.intro hown hb5);clear hown hb5 HO2 HB2 hi;go_wp2;go_roundw
    case rel=>exact⟨k+1,a6,c6,by omega,by go_num,by rw[HLT.out,List.length_append];rfl,by rw[HLT.out];exact HF.out⟩
    case measure=>simp[intOf];omega
   ·rw[hi,if_pos rfl]at HLT;clear hi;go_wp2;go_roundw
    case rel=>exact⟨k+1,a',c',by omega,by go_num,by rw[HLT.out],by rw[HLT.out];exact⟨HO2.out,HB2.out⟩⟩
    case measure=>simp[intOf];omega
  ·obtain rfl:k=l.length:=by omega
   rw[List.take_length]at HI;rw[List.take_length];go_wp2;go_ret;exact⟨a',c',rfl,HI.out⟩
end
section
open Go.RowKit Go.Maps Go.ChangeMaps
attribute [local go_sem ↓] Go.wp_at_zero Go.wp_at_succ
theorem ZdM(a b:Nat)(ha:a<4294967296)(hb:b<4294967296):bits .and .u32 (a:Int) (b:Int)=((a &&& b:Nat):Int):=by
 have hx:a &&& b<2^32:=Nat.and_lt_two_pow _ (by omega)
 have h1:(BitVec.ofInt 32 (a:Int)).toNat=a:=by
  rw[BitVec.ofInt_natCast,BitVec.toNat_ofNat];exact Nat.mod_eq_of_lt (by omega)
 have h2:(BitVec.ofInt 32 (b:Int)).toNat=b:=by
  rw[BitVec.ofInt_natCast,BitVec.toNat_ofNat];exact Nat.mod_eq_of_lt (by omega)
 show IntKind.u32.wrap ((BitVec.ofInt 32 (a:Int) &&& BitVec.ofInt 32 (b:Int)).toNat:Int)=_;rw[BitVec.toNat_and,h1,h2];simp only[IntKind.wrap,IntKind.signed,IntKind.bits,Bool.false_and,Bool.false_eq_true,if_false];omega
theorem Zl5(a b:Nat)(ha:a<4294967296)(hb:b<4294967296):bits .or .u32 (a:Int) (b:Int)=((a ||| b:Nat):Int):=by
 have hx:a ||| b<2^32:=Nat.or_lt_two_pow (by omega) (by omega)
 have h1:(BitVec.ofInt 32 (a:Int)).toNat=a:=by
  rw[BitVec.ofInt_natCast,BitVec.toNat_ofNat];exact Nat.mod_eq_of_lt (by omega)
 have h2:(BitVec.ofInt 32 (b:Int)).toNat=b:=by
  rw[BitVec.ofInt_natCast,BitVec.toNat_ofNat];exact Nat.mod_eq_of_lt (by omega)
 show IntKind.u32.wrap ((BitVec.ofInt 32 (a:Int) ||| BitVec.ofInt 32 (b:Int)).toNat:Int)=_;rw[BitVec.toNat_or,h1,h2];simp only[IntKind.wrap,IntKind.signed,IntKind.bits,Bool.false_and,Bool.false_eq_true,if_false];omega
theorem ZoW(M k:Nat)(hM:M<4294967296):(bits .and .u32 ((M:Int)/2^k) 1==0) = !M.testBit k:=by
 have e:(M:Int)/2^k=((M/2^k:Nat):Int):=by
  rw[Int.natCast_ediv,Int.natCast_pow];rfl
 have h2:M/2^k<4294967296:=Nat.lt_of_le_of_lt (Nat.div_le_self _ _) hM;have:=ZdM (M/2^k) 1 h2 (by omega);rw[e,show(1:Int)=((1:Nat):Int)from rfl,this,Nat.testBit_eq_decide_div_mod_eq,Nat.and_one_is_mod];have hm:M/2^k % 2=0∨M/2^k % 2=1:=by omega
 rcases hm with h | h<;>rw[h]<;>decide
theorem ZoX(M k:Nat)(hM:M<4294967296):(bits .and .u32 ((M:Int)/2^k) 1==1)=M.testBit k:=by
 have h:=ZoW M k hM
 have e:(M:Int)/2^k=((M/2^k:Nat):Int):=by
  rw[Int.natCast_ediv,Int.natCast_pow];rfl
 have h2:M/2^k<4294967296:=Nat.lt_of_le_of_lt (Nat.div_le_self _ _) hM;have h3:=ZdM (M/2^k) 1 h2 (by omega);rw[e]at h⊢;rw[show(1:Int)=((1:Nat):Int)from rfl,h3]at h⊢;rw[Nat.and_one_is_mod]at h⊢;have h4:M/2^k % 2=0∨M/2^k % 2=1:=by omega
 rcases h4 with h4 | h4
 ·rw[h4]at h⊢;simpa using h.symm
 ·rw[h4]at h⊢;simpa using h.symm
theorem ZiP(n:Nat)(hn:n≤24):((2:Int)^n % 4294967296)=((2^n:Nat):Int):=by
 have h2:(2:Nat)^n≤2^24:=Nat.pow_le_pow_right (by omega) hn;have h3:(2:Nat)^n<4294967296:=Nat.lt_of_le_of_lt h2 (by decide);have e0:(2:Int)^n=((2^n:Nat):Int):=by rw[Int.natCast_pow];rfl
 rw[e0];exact Int.emod_eq_of_lt (Int.natCast_nonneg _) (Int.ofNat_lt.2 h3)
def Zbu(M:Nat)(i:Int):Bool:=decide (0≤i)&&M.testBit i.toNat
theorem Znv(m:Int)(i:Int)(h0:0≤i)(u:World):(binOp .shr 131 (.int .u32 m) (.int .i64 i)).run Tryz.prog u=.ok (.int .u32 (m/2^(min i.toNat 32))) u:=by
 have h1:¬ (i<0):=by omega
 simp[binOp,Op.shift,h1,go_sem];exact Int.fdiv_eq_ediv_of_nonneg _ (Int.le_of_lt (Int.pow_pos (by decide)))
theorem ZiQ(M:Nat)(hM:M<4294967296)(i:Int)(w:World):Calls Tryz.prog 77 #[.int .u32 (M:Int),.int .i64 i] w fun e w'=>e=.returned (.bool (Zbu M i))∧w'=w:=by
 by_cases h0:0≤i
 ·have hs:=fun u=>Znv (M:Int) i h0 u
  have hb:=ZoX M (min i.toNat 32) hM
  have HF:Hid (Zbu M i=M.testBit (min i.toNat 32)):=by
   show _=_;unfold Zbu;rw[decide_eq_true h0,Bool.true_and]
   by_cases h32:i.toNat≤32
   ·rw[Nat.min_eq_left h32]
   ·rw[Nat.min_eq_right (by omega),Nat.testBit_lt_two_pow (Nat.lt_of_lt_of_le hM (by
     have:(2:Nat)^32≤2^i.toNat:=Nat.pow_le_pow_right (by omega) (by omega);omega)),Nat.testBit_lt_two_pow (Nat.lt_of_lt_of_le hM (by decide))]
  rw[HF.out];clear HF;go_enter Tryz.func77,Tryz.ntmps77;go_wp2;go_ret;exact⟨rfl,rfl⟩
 ·have HF:Hid (Zbu M i=false):=by
   show _=_;unfold Zbu;rw[decide_eq_false h0];rfl
  rw[HF.out];clear HF;go_enter Tryz.func77,Tryz.ntmps77;go_wp2;go_ret;exact⟨rfl,rfl⟩
theorem ZiR(n:Nat)(hn:n≤16)(w:World):Calls Tryz.prog 101 #[.int .i64 (n:Int)] w fun e w'=>e=.returned (.int .u32 ((2^n-1:Nat):Int))∧w'=w:=by
 have h:n=0∨n=1∨n=2∨n=3∨n=4∨n=5∨n=6∨n=7∨n=8∨n=9∨n=10∨n=11∨n=12∨n=13∨n=14∨n=15∨n=16:=by omega
 rcases h with rfl | rfl | rfl | rfl | rfl | rfl | rfl | rfl | rfl | rfl | rfl | rfl | rfl | rfl | rfl | rfl | rfl
 all_goals
  go_enter Tryz.func101,Tryz.ntmps101;go_wp2;go_ret;exact⟨by first | rfl | decide,rfl⟩
def ZfM(M n:Nat):Int:=if M=2^n-1 then 3 else if M=0 then 1 else 2
theorem Zl6(n:Nat)(hn:n≤24):IntKind.u32.wrap ((2:Int)^n % 4294967296-1)=((2^n-1:Nat):Int):=by
 rw[ZiP n hn];have h1:=Nat.two_pow_pos n;have h2:(2:Nat)^n≤2^24:=Nat.pow_le_pow_right (by omega) hn;generalize (2:Nat)^n=p at h1 h2;simp[IntKind.wrap,IntKind.signed,IntKind.bits];omega
theorem ZfN(M n:Nat)(hn:n≤24)(w:World):Calls Tryz.prog 208 #[.int .u32 (M:Int),.int .i64 (n:Int)] w fun e w'=>e=.returned (.int .i8 (ZfM M n))∧w'=w:=by
 have hf:=Zl6 n hn;generalize hp:2^n-1=p at hf;unfold ZfM;rw[hp];clear hp
 by_cases h1:M=p
 ·have hd:((M:Int)==(p:Int))=true:=by rw[beq_iff_eq];omega
  rw[if_pos h1];clear h1;go_enter Tryz.func208,Tryz.ntmps208;go_wp2;go_ret;exact⟨rfl,rfl⟩
 ·have hd:((M:Int)==(p:Int))=false:=by rw[beq_eq_false_iff_ne];omega
  rw[if_neg h1];clear h1
  by_cases h2:M=0
  ·subst h2;rw[if_pos rfl];go_enter Tryz.func208,Tryz.ntmps208;go_wp2;go_ret;exact⟨rfl,rfl⟩
  ·have hd2:((M:Int)==0)=false:=by rw[beq_eq_false_iff_ne];omega
   rw[if_neg h2];go_enter Tryz.func208,Tryz.ntmps208;go_wp2;go_ret;exact⟨rfl,rfl⟩
def knT(ss:List ByteArray)(t:T):Bool:=decide (t.v=noS) || inB ss t.v
def Zaz(ss:List ByteArray)(ts:List T):Nat→Nat
 | 0=>0
 | k+1=>if knT ss (atT ts k)=true then Zaz ss ts k ||| 2^k else Zaz ss ts k
theorem Zfp(ss:List ByteArray)(ts:List T):∀k,Zaz ss ts k<2^k
 | 0=>by simp[Zaz]
 | k+1=>by
  have ih:=Zfp ss ts k;have h2:(2:Nat)^(k+1)=2*2^k:=by rw[Nat.pow_succ,Nat.mul_comm]
  unfold Zaz
  split
  ·exact Nat.or_lt_two_pow (by omega) (by rw[h2];have:=Nat.two_pow_pos k;omega)
  ·omega
theorem Zkn{w:World}{b:Nat}{ss:List ByteArray}(h:SetIs w b ss){v:Value}{ts:List T}(hl:Lt w v ts)(hn:ts.length≤24) :
  Calls Tryz.prog 207 #[.map (some b),v] w fun e w'=>e=.returned (.int .u32 ((Zaz ss ts ts.length:Nat):Int))∧Below w.heap.size w w':=by
 have HS:=Lib.hid h;have HWF:=Lib.hid hl.wf;obtain⟨a,c,rfl,hc1,hc2,hat⟩:=hl.form;have HAT:=Lib.hid hat;clear h hl hat;go_enter Tryz.func207,Tryz.ntmps207;go_wp2;go_loopw [5,6,11] (fun o q i wr=>∃k:Nat,k≤ts.length∧i=.int .i64 k∧o=.int .u32 ((Zaz ss ts k:Nat):Int)∧q=.int .u32 ((2^k:Nat):Int)∧Hid (Below w.heap.size w wr)) (fun _ _ i _=>ts.length-(intOf i).toNat)
 case atStart=>exact⟨0,Nat.zero_le _,rfl,rfl,rfl,Below.refl _ _⟩
 case round=>
  obtain⟨k,hk,rfl,rfl,rfl,HI⟩:=hrel;obtain⟨U,rfl⟩:∃U,U=wr:=⟨_,rfl⟩
  by_cases hlt:k<ts.length
  ·have hlt':(k:Int)<(ts.length:Int):=by omega
   have hk0:(0:Int)≤(k:Int):=by omega
   obtain⟨g,off,rfl,hg,hT⟩:=HAT.out (by omega);obtain⟨x0,x1,x2,x3⟩:=(hT k hlt).below HI.out hg;have htw:=Zgi HWF.out k;have HCS:Hid (Zaz ss ts (k+1)=if knT ss (atT ts k)=true then Zaz ss ts k ||| 2^k else Zaz ss ts k):=rfl;have hp:(2:Nat)^k≤8388608:=Nat.le_trans (Nat.pow_le_pow_right (by omega) (show k≤23 by omega)) (by decide);have hcm:=Zfp ss ts k;have hor:=Zl5 (Zaz ss ts k) (2^k) (by omega) (by omega)
   have HPS:Hid ((2:Nat)^(k+1)=2^k*2):=Nat.pow_succ 2 k;generalize Zaz ss ts k=cm at hcm hor HCS⊢;generalize (2:Nat)^k=p at hp hcm hor HCS HPS⊢;generalize atT ts k=t at x0 x1 x2 x3 htw HCS;have hA:Below U.heap.size U (U.alloc (.cells #[.string t.v,.int .i8 t.a.k,.int .i64 t.a.n,.string t.a.s] 100)):=(Below.refl _ _).alloc (Nat.le_refl _) _;have HBW:=Lib.hid (HI.out.trans (hA.mono HI.out.size));clear hT hcm hA HI
   by_cases hv:t.v=noS
   ·have HC:Hid (Zaz ss ts (k+1)=cm ||| p):=by
     show _=_;rw[HCS.out,if_pos (by rw[knT,decide_eq_true hv];rfl)]
    have he:t.v.toList.isEmpty=true:=by rw[hv,ByteArray.toList_eq];rfl
    clear hv HCS;go_wp2;go_roundw
    case rel=>exact⟨k+1,by omega,by go_num,by rw[HC.out],by rw[HPS.out];go_num,HBW.out⟩
    case measure=>simp[intOf];omega
   ·have he:t.v.toList.isEmpty=false:=Za7 _ hv;have hK:knT ss t=inB ss t.v:=by rw[knT,decide_eq_false hv];rfl
    rw[hK]at HCS;have HHS:=Lib.hid (Zh6 (HS.out.of_block (HBW.out.block b HS.out.lt)) htw.text);clear hv hK;go_wp2_with fail;refine HHS.out.mono ?_;rintro e w2 ⟨rfl,b2⟩;have HB2:=Lib.hid (HBW.out.trans (b2.mono HBW.out.size));clear HHS b2 HBW x0 x1 x2 x3
    cases hi:inB ss t.v
    ·rw[hi]at HCS;have HC:Hid (Zaz ss ts (k+1)=cm):=HCS.out;clear hi HCS;go_wp2;go_roundw
     case rel=>exact⟨k+1,by omega,by go_num,by rw[HC.out],by rw[HPS.out];go_num,HB2.out⟩
     case measure=>simp[intOf];omega
    ·rw[hi]at HCS;have HC:Hid (Zaz ss ts (k+1)=cm ||| p):=HCS.out;clear hi HCS;go_wp2;go_roundw
     case rel=>exact⟨k+1,by omega,by go_num,by rw[HC.out],by rw[HPS.out];go_num,HB2.out⟩
     case measure=>simp[intOf];omega
  ·obtain rfl:k=ts.length:=by omega
   go_wp2;go_ret;exact⟨rfl,HI.out⟩
def Zbd(s:ByteArray):Bool := !decide (s=ZI)&&ZK ⟨s,V0⟩
theorem Zh4{s:ByteArray}(h:s≠ZI):(s.toList==[95])=false:=by
 rw[beq_eq_false_iff_ne];intro e;apply h;rw[ByteArray.toList_eq]at e
 cases s with
 | mk d=>
  simp only at e;unfold ZI;rw[ByteArray.mk.injEq];exact Array.toList_inj.1 e
theorem ZpG:V0.wf:=⟨by decide,by decide,by decide⟩
theorem Zfi(s:ByteArray)(hs:s.size≤maxLen)(w:World):Calls Tryz.prog 230 #[.string s] w fun e w'=>e=.returned (.bool (Zbd s))∧Below w.heap.size w w':=by
 by_cases hb:s=ZI
 ·have h1:(s.toList==[95])=true:=by rw[hb,ByteArray.toList_eq];rfl
  have HF:Hid (Zbd s=false):=by
   show _=_;rw[Zbd,decide_eq_true hb];rfl
  rw[HF.out];clear hb HF;go_enter Tryz.func230,Tryz.ntmps230;go_wp2;go_ret;exact⟨rfl,Below.refl _ _⟩
 ·have h1:(s.toList==[95])=false:=Zh4 hb
  have HF:Hid (Zbd s=ZK ⟨s,V0⟩):=by
   show _=_;rw[Zbd,decide_eq_false hb];rfl
  have HC:=Lib.hid (ZgI ⟨s,V0⟩ w ⟨hs,ZpG⟩);rw[HF.out];clear hb HF;have e0:T.val ⟨s,V0⟩=.agg #[.string s,.int .i8 0,.int .i64 0,.string noS]:=rfl;rw[e0]at HC;generalize ZK ⟨s,V0⟩=d at HC⊢;clear e0;unfold noS at HC;go_enter Tryz.func230,Tryz.ntmps230;go_wp2_with fail;refine HC.out.mono ?_;rintro e w2 ⟨rfl,b2⟩;have HB:=Lib.hid b2;clear b2 HC
  cases d
  all_goals
   simp only[Zgp];go_wp2;go_ret;exact⟨rfl,HB.out⟩
def knB(l:List ByteArray):Nat→Bool
 | 0=>true
 | k+1=>knB l k&&(!inB (l.take k) (atS l k)&&Zbd (atS l k))
theorem Zkp{l:List ByteArray}{k:Nat}:∀n,k<n→(inB (l.take k) (atS l k)=true∨Zbd (atS l k)=false)→knB l n=false
 | 0,h,_=>absurd h (Nat.not_lt_zero _)
 | n+1,h,hx=>by
  unfold knB
  by_cases e:k=n
  ·subst e;rcases hx with hx | hx
   ·rw[hx];simp
   ·rw[hx];simp
  ·rw[Zkp n (by omega) hx];rfl
theorem Zh5{B:Nat}{w0 w w':World}{b:Nat}(hb:Below B w0 w)(ht:w.mapTurned w' b)(h:B≤b):Below B w0 w':=by
 obtain⟨es,c,es',c',hx,rfl⟩:=ht
 exact hb.trans ⟨rfl,rfl,rfl,by simp[setBlock],fun k hk=>by
  show(w.heap.setIfInBounds b _)[k]?=_;rw[Array.getElem?_setIfInBounds_ne (by omega)]⟩
theorem Zkq(u:World):(Instr.makeMap 130 none).run Tryz.prog u=.ok (.map (some u.heap.size)) (u.alloc (.map #[] 0)):=by kernel_rfl
theorem ZfQ{l:List ByteArray}{k:Nat}(h:k<l.length):l.take (k+1)=l.take k++[atS l k]:=by
 rw[List.take_add_one];unfold atS;rw[List.getD,List.getElem?_eq_getElem h];rfl
attribute [-go_sem] loadVar
theorem ZiW{w:World}{v:Value}{l:List ByteArray}(hl:Ls w v l.length (l.flatMap Zm))(hsz:∀i,i<l.length→(atS l i).size≤maxLen) :
  Calls Tryz.prog 99 #[v] w fun e w'=>Below w.heap.size w w'∧((knB l l.length=false∧e=.returned (.tuple #[.map none,.bool false]))∨(knB l l.length=true∧∃b,e=.returned (.tuple #[.map (some b),.bool true])∧SetIs w' b l∧w.heap.size≤b)):=by
 have HZ:=Lib.hid hsz;obtain⟨a,c,rfl,hc1,hc2,hat⟩:=Z3 hl;have HAT:=Lib.hid hat;unfold maxLen at hc2;have hmk:=Zkq w;have HI0:Hid (SetIs (w.alloc (.map #[] 0)) w.heap.size (l.take 0)∧Below w.heap.size w (w.alloc (.map #[] 0))∧knB l 0=true):=⟨SetIs.made w,(Below.refl _ _).alloc (Nat.le_refl _) _,rfl⟩;clear hl hsz hat;go_enter Tryz.func99,Tryz.ntmps99;go_wp2;clear hmk;go_loopw [10] (fun i wr=>∃k:Nat,k≤l.length∧i=.int .i64 k∧Hid (SetIs wr w.heap.size (l.take k)∧Below w.heap.size w wr∧knB l k=true)) (fun i _=>l.length-(intOf i).toNat)
 case atStart=>exact⟨0,Nat.zero_le _,rfl,HI0.out⟩
 case round=>
  clear HI0;obtain⟨k,hk,rfl,HI⟩:=hrel
  by_cases hlt:k<l.length
  ·have hlt':(k:Int)<(l.length:Int):=by omega
   have hk0:(0:Int)≤(k:Int):=by omega
   obtain⟨g,off,rfl,hg,hce⟩:=HAT.out (by omega);have l1:=ZL ((HI.out.2.1.cell (p:=⟨g,off+k,none⟩) hg).trans (hce k hlt));have HNO:=Lib.hid (Zkp (l:=l) (k:=k) l.length hlt);have HSU:Hid (knB l (k+1)=(knB l k&&(!inB (l.take k) (atS l k)&&Zbd (atS l k)))):=rfl;have HTK:=Lib.hid (ZfQ hlt);have HXZ:=Lib.hid (HZ.out k hlt);have HHS:=Lib.hid (Zh6 HI.out.1 HXZ.out);generalize atS l k=x at l1 HNO HSU HTK HXZ HHS
   clear hce;go_wp2_with fail;refine HHS.out.mono ?_;rintro e w2 ⟨rfl,b2⟩;have HS2:=Lib.hid (HI.out.1.of_block (b2.block _ HI.out.1.lt));have HB2:=Lib.hid (HI.out.2.1.trans (b2.mono HI.out.2.1.size));have HKN:=Lib.hid HI.out.2.2;clear HHS b2 HI l1
   cases hi:inB (l.take k) x
   ·have HIV:=Lib.hid (Zfi x HXZ.out w2);rw[hi]at HSU;have HNI:Hid (x ∉ l.take k):=fun h=>by rw[ZD.2 h]at hi;cases hi
    clear hi;go_wp2_with fail;refine HIV.out.mono ?_;rintro e w3 ⟨rfl,b3⟩;have HS3:=Lib.hid (HS2.out.of_block (b3.block _ HS2.out.lt));have HB3:=Lib.hid (HB2.out.trans (b3.mono HB2.out.size));clear HIV b3 HS2 HB2
    cases hv:Zbd x
    ·have HF:=Lib.hid (HNO.out (.inr hv));clear hv HNO HSU;go_wp2;go_ret2;exact⟨HB3.out,.inl ⟨HF.out,rfl⟩⟩
    ·rw[hv,HKN.out]at HSU;have HLN:=Lib.hid (ZiX HS3.out HXZ.out HNI.out);rw[←HTK.out]at HLN;clear hv;go_wp2_with fail;refine HLN.out.mono ?_;rintro e w4 ⟨⟨u,rfl⟩,hs4,ht4⟩;have HF:Hid (SetIs w4 w.heap.size (l.take (k+1))∧Below w.heap.size w w4∧knB l (k+1)=true):=⟨hs4,Zh5 HB3.out ht4 (Nat.le_refl _),HSU.out⟩;clear hs4 ht4 HLN HS3 HB3;go_wp2;go_roundw
     case rel=>exact⟨k+1,by omega,by go_num,HF.out⟩
     case measure=>simp[intOf];omega
   ·have HF:=Lib.hid (HNO.out (.inl hi));clear hi HNO HSU;go_wp2;go_ret2;exact⟨HB2.out,.inl ⟨HF.out,rfl⟩⟩
  ·obtain rfl:k=l.length:=by omega
   rw[List.take_length]at HI;go_wp2;go_ret2;exact⟨HI.out.2.1,.inr ⟨HI.out.2.2,_,rfl,HI.out.1,Nat.le_refl _⟩⟩
end
section
open Go.RowKit Go.Maps
attribute [local go_sem ↓] Go.wp_at_zero Go.wp_at_succ
def ZiS:Value:=.agg #[.int .i8 0,.string ⟨#[]⟩,.slice none 0 0,.int .i8 0,.int .i8 0,.string ⟨#[]⟩,.int .i8 0,.int .i64 0,.string ⟨#[]⟩,.slice none 0 0,.int .i8 0,.string ⟨#[]⟩,.int .i8 0,.int .i64 0,.string ⟨#[]⟩,.slice none 0 0]
theorem Zg6:(Tryz.prog.info? 105).map (fun i=>(i.zero,i.size,i.bytes))=some (some ZiS,16,216):=by kernel_rfl
theorem Za6{u:World}{a:Addr}{v:Value}(h:u.cell? a=some v):(loadVar 23 a).run Tryz.prog u=.ok v u:=by rw[loadVar.eq_1];go_simp
attribute [-go_sem] loadVar Builtin.append_
theorem Zl7(n:Nat)(hn:n≤1000000000)(w:World):Calls Tryz.prog 287 #[.slice none 0 0,.int .i64 (n:Int)] w fun e w'=>∃sv,e=.returned sv∧w'.ownsRow w.heap.size 105 16 sv 0 []∧Below w.heap.size w w':=by
 have h0:¬ (n:Int)<0:=by omega
 by_cases hz:n=0
 ·subst hz;go_enter Tryz.func287,Tryz.ntmps287;go_wp2;go_ret;exact⟨_,rfl,World.ownsRow_nil _ _ _ _,Below.refl _ _⟩
 ·obtain⟨i0,hi0,hz0,hz1,hz2⟩:=info_parts Zg6;have hpos:(0:Int)<(n:Int):=by omega
  have iw:IntKind.i64.wrap (n:Int)=(n:Int):=by rw[IntKind.wrap_i64];omega
  have hap:=Lib.run_append_nil_zeros (P:=Tryz.prog) w 23 3 23 105 i0 ZiS .i64 .i64 Tryz.underlying23 Tryz.underlying3 hi0 hz0 n (by omega) (by omega) (by omega) (by rw[hz2];omega);have hge:=grownCap_ge w n 0 105;have hle:=grownCap_le_maxLen w n 0 105 (by unfold maxLen;omega);have hzc:ZiS.cells.size=16:=by decide
  have hcs:∀q,(Builtin.zeroCells ZiS.cells q).size=q*16:=fun q=>by rw[size_zeroCells,hzc]
  have HO:Hid ((w.drew.alloc (.cells (Builtin.zeroCells ZiS.cells n++Builtin.zeroCells ZiS.cells (grownCap w n 0 105-n)) 105)).ownsRow w.heap.size 105 16 (.slice (some ⟨w.heap.size,0,none⟩) 0 (grownCap w n 0 105)) 0 []):=by
   refine⟨rfl,.inr ⟨_,_,_,rfl,Nat.le_refl _,heap_alloc_new w.drew _,Nat.zero_le _,hle,?_,rfl⟩⟩;rw[Array.size_append,hcs,hcs];rw[←Nat.add_mul]
   congr 1
   omega
  have HBW:Hid (Below w.heap.size w (w.drew.alloc (.cells (Builtin.zeroCells ZiS.cells n++Builtin.zeroCells ZiS.cells (grownCap w n 0 105-n)) 105))):=(Below.refl _ _).drew.alloc (Nat.le_refl _) _;generalize w.drew.alloc _=W at hap HO HBW;generalize grownCap w n 0 105=cap at hap hge hle HO;have h00:(0:Int)≤(cap:Int):=by omega
  clear hle hcs hzc;go_enter Tryz.func287,Tryz.ntmps287;go_wp2;go_ret;exact⟨_,rfl,HO.out,HBW.out⟩
abbrev Za1(rows:List (List Value)):List Value:=rows.flatMap (fun r=>r)
theorem ZfO:∀rows:List (List Value),(∀r∈rows,r.length=16)→(Za1 rows).length=rows.length*16
 | [],_=>rfl
 | r::rows,h=>by
  have ih:=ZfO rows (fun x hx=>h x (by simp[hx]));have h1:=h r (by simp);simp only[Za1,List.flatMap_cons,List.length_append,List.length_cons]at ih⊢;omega
def LrCP(w:World)(v:Value)(rows:List (List Value)):Prop:=(∀r∈rows,r.length=16∧∀u∈r,u.oneCell'=true)∧∃a c,v=.slice a rows.length c∧(0<rows.length→∃g off,a=some ⟨g,off,none⟩∧g<w.heap.size∧∀j u,(Za1 rows)[j]?=some u→w.cell? ⟨g,off+j,none⟩=some u)
theorem LrCP.below{w w':World}{v:Value}{rows:List (List Value)}(h:LrCP w v rows)(hb:Below w.heap.size w w'):LrCP w' v rows:=by
 obtain⟨h1,a,c,rfl,h2⟩:=h;refine⟨h1,a,c,rfl,fun hp=>?_⟩;obtain⟨g,off,rfl,hg,hc⟩:=h2 hp;exact⟨g,off,rfl,Nat.lt_of_lt_of_le hg hb.size,fun j u hu=>(hb.cell (p:=⟨g,off+j,none⟩) hg).trans (hc j u hu)⟩
theorem Zkm{rows:List (List Value)}(h:∀r∈rows,∀u∈r,u.oneCell'=true):∀u∈Za1 rows,u.oneCell'=true:=by
 intro u hu;obtain⟨r,h1,h2⟩:=List.mem_flatMap.1 hu;exact h r h1 u h2
theorem Zg7{w0 w:World}{B:Nat}{o:Value}{rows1 rows2:List (List Value)}{n:Nat}(hn:n=rows1.length)(hown:w.ownsRow B 105 16 o n (Za1 rows1))(hB:Below B w0 w)(hw:B≤w.heap.size){a:Option Addr}{c:Nat}(hx:LrCP w (.slice a rows2.length c) rows2)(hl:n+rows2.length≤1000000000)(ty:TypeId) :
  ∃o' w',(Builtin.append_ #[23,23] ty #[o,.slice a rows2.length c]).run Tryz.prog w=.ok o' w'∧w'.ownsRow B 105 16 o' (n+rows2.length) (Za1 (rows1++rows2))∧Below B w0 w'∧B≤w'.heap.size:=by
 obtain⟨i0,hi0,hz0,hz1,hz2⟩:=info_parts Zg6
 by_cases h0:rows2.length=0
 ·have hu:rows2=[]:=List.eq_nil_of_length_eq_zero h0;subst hu;obtain⟨a1,c1,rfl,_⟩:=ZB hown
  have hsc:n≤c1:=by
   obtain⟨_,⟨e,hz⟩ | ⟨g,cap,cur,e,_,_,hnc,_⟩⟩:=hown
   ·cases e;omega
   ·cases e;exact hnc
  refine⟨.slice a1 n c1,w,?_,by simpa using hown,hB,hw⟩;exact run_append_nothing w _ _ ty _ i0 Tryz.underlying23 hi0 a1 n c1 hsc _ ⟨.inl ⟨_,Tryz.underlying23⟩,by intro w';cases a<;>simp[Builtin.lenOf],by cases a<;>simp[Builtin.firstCells,loadCells,loadCellsFrom],by cases a<;>simp[Builtin.firstCells,loadCells,loadCellsFrom],by simp,by simp⟩
 ·obtain⟨h24,a',c',e,hc⟩:=hx
  cases e
  obtain⟨g,off,rfl,hg,hcell⟩:=hc (by omega)
  obtain⟨o',w',h1,h2,h3,_,_⟩:=run_append_own_at (P:=Tryz.prog) w B 23 ty 105 i0 _ 16 216 Tryz.underlying23 hi0 hz0 hz1 hz2 rfl (by decide) o n (Za1 rows1) hown ⟨g,off,none⟩ rows2.length c (Za1 rows2) (ZfO rows2 (fun r hr=>(h24 r hr).1)) (fun j u hu=>by
   rw[show(⟨g,off,none⟩:Addr).add j=⟨g,off+j,none⟩from by simp[Addr.add]];exact hcell j u hu) (Zkm (fun r hr=>(h24 r hr).2)) (by unfold maxLen;omega) (by omega) hw
  refine⟨o',w',h1,by simpa[Za1]using h2,hB.grown h3 hw (fun j hj=>(hown.lt j hj).1),Nat.le_trans hw h3.size⟩
theorem Znw{w:World}{q cq:Nat}{a1 a2:Option Addr}{c1 c2:Nat}{rows1 rows2:List (List Value)}(h1:w.cell? ⟨q,0,none⟩=some (.slice a1 rows1.length c1))(h2:w.cell? ⟨q,1,none⟩=some (.slice a2 rows2.length c2))(hq:q<w.heap.size)
  (x1:LrCP w (.slice a1 rows1.length c1) rows1) (x2:LrCP w (.slice a2 rows2.length c2) rows2) (hl:rows1.length+rows2.length≤1000000000) :
  Calls Tryz.prog 232 #[.slice (some ⟨q,0,none⟩) 2 cq] w fun e w'=>∃sv,e=.returned sv∧w'.ownsRow w.heap.size 105 16 sv (rows1.length+rows2.length) (Za1 (rows1++rows2))∧Below w.heap.size w w':=by
 have l1:=Za6 h1;have l2:=Za6 h2;have HC:Hid (∀u,Below w.heap.size w u→u.cell? ⟨q,0,none⟩=some (.slice a1 rows1.length c1)∧u.cell? ⟨q,1,none⟩=some (.slice a2 rows2.length c2)):=fun u hu=>⟨(hu.cell (p:=⟨q,0,none⟩) hq).trans h1,(hu.cell (p:=⟨q,1,none⟩) hq).trans h2⟩
 have HX:=Lib.hid (And.intro x1 x2);have i1:IntKind.i64.wrap (0+(rows1.length:Int))=(rows1.length:Int):=by rw[IntKind.wrap_i64];omega
 have i2:IntKind.i64.wrap ((rows1.length:Int)+(rows2.length:Int))=(rows1.length:Int)+(rows2.length:Int):=by rw[IntKind.wrap_i64];omega
 have n1:¬ (rows1.length:Int)<0:=by omega
 have n2:¬ (rows1.length:Int)+(rows2.length:Int)<0:=by omega
 have HG:=Lib.hid (Zl7 (rows1.length+rows2.length) hl w);have ec:((rows1.length+rows2.length:Nat):Int)=(rows1.length:Int)+(rows2.length:Int):=by omega
 rw[ec]at HG;clear h1 h2 x1 x2 ec;go_enter Tryz.func232,Tryz.ntmps232;go_wp2;go_loopw [3,11] (fun sz i wr=>wr=w∧((sz=.int .i64 0∧i=.int .i64 0)∨(sz=.int .i64 (rows1.length:Int)∧i=.int .i64 1)∨(sz=.int .i64 ((rows1.length:Int)+(rows2.length:Int))∧i=.int .i64 2))) (fun _ i _=>2-(intOf i).toNat)
 case atStart=>exact⟨rfl,.inl ⟨rfl,rfl⟩⟩
 case round=>
  obtain⟨hwr,⟨rfl,rfl⟩ | ⟨rfl,rfl⟩ | ⟨rfl,rfl⟩⟩:=hrel
  ·subst hwr;go_wp2;go_roundw
   case rel=>exact⟨by first | rfl | trivial,.inr (.inl ⟨by first | rfl | simp_all,by go_num⟩)⟩
   case measure=>simp[intOf]
  ·subst hwr;go_wp2;go_roundw
   case rel=>exact⟨by first | rfl | trivial,.inr (.inr ⟨by first | rfl | simp_all,by go_num⟩)⟩
   case measure=>simp[intOf]
  ·have hw:=hwr.symm;clear hwr;subst hw;clear l1 l2 i1 i2 n1 n2;go_wp2_with fail;refine HG.out.mono ?_;rintro e w1 ⟨sv,rfl,hown,b1⟩;have HO:=Lib.hid hown;have HB:=Lib.hid b1;clear HG hown b1;go_wp2;go_loopw [6,27] (fun o i wx=>∃k:Nat,k≤2∧i=.int .i64 k∧Hid (Below w.heap.size w wx∧wx.ownsRow w.heap.size 105 16 o (if k=0 then 0 else if k=1 then rows1.length else rows1.length+rows2.length) (Za1 (if k=0 then []else if k=1 then rows1 else rows1++rows2)))) (fun _ i _=>2-(intOf i).toNat)
   case atStart=>exact⟨0,by omega,rfl,HB.out,HO.out⟩
   case round=>
    obtain⟨k,hk,rfl,HI⟩:=hrel;clear HO HB;obtain rfl | rfl | rfl:k=0∨k=1∨k=2:=by omega
    ·have l1:=Za6 (HC.out _ HI.out.1).1;obtain⟨o',w',h1,h2,h3,_⟩:=Zg7 (rows1:=[]) (n:=0) rfl HI.out.2 HI.out.1 HI.out.1.size (HX.out.1.below HI.out.1) (by omega) 23;have HN:Hid (Below w.heap.size w w'∧w'.ownsRow w.heap.size 105 16 o' rows1.length (Za1 rows1)):=⟨h3,by simpa using h2⟩;clear h2 h3 HI;go_wp2;go_roundw
     case rel=>exact⟨1,by omega,by go_num,HN⟩
     case measure=>simp[intOf]
    ·have l1:=Za6 (HC.out _ HI.out.1).2;obtain⟨o',w',h1,h2,h3,_⟩:=Zg7 (rows1:=rows1) (n:=rows1.length) rfl HI.out.2 HI.out.1 HI.out.1.size (HX.out.2.below HI.out.1) (by omega) 23;have HN:Hid (Below w.heap.size w w'∧w'.ownsRow w.heap.size 105 16 o' (rows1.length+rows2.length) (Za1 (rows1++rows2))):=⟨h3,h2⟩;clear h2 h3 HI;go_wp2;go_roundw
     case rel=>exact⟨2,by omega,by go_num,HN⟩
     case measure=>simp[intOf]
    ·have HF:=Lib.hid HI.out;obtain⟨_,_,rfl,_⟩:=ZB HI.out.2;clear HI HC HX;go_wp2;go_ret;exact⟨_,rfl,HF.out.2,HF.out.1⟩
end
end Go.Proofs.YtjdnpgpbeppgjaaGreatDoor
