import Derived.Test.YtjdnpgpbeppgjaaGreatDoorA9
import Derived.Test.YtjdnpgpbeppgjaaGreatDoorA1
import Derived.OrdersHeld
import Derived.Deep.RegionHeld3
set_option linter.unusedSimpArgs false
set_option linter.unusedVariables false
set_option maxHeartbeats 3200000
namespace Go.Proofs.YtjdnpgpbeppgjaaGreatDoor
section
open Go.RowKit Go.Maps
attribute [local go_sem ↓] Go.wp_at_zero Go.wp_at_succ
structure Tz (ex:Nat→Prop) (w w':World):Prop where
 os:w'.os=w.os
 tape:w'.tape=w.tape
 output:w'.output=w.output
 size:w.heap.size≤w'.heap.size
 block:∀b,b<w.heap.size→¬ ex b→w'.heap[b]?=w.heap[b]?
theorem Tz.refl(ex:Nat→Prop)(w:World):Tz ex w w:=⟨rfl,rfl,rfl,Nat.le_refl _,fun _ _ _=>rfl⟩
theorem Tz.of_below{ex:Nat→Prop}{w w':World}(h:Below w.heap.size w w'):Tz ex w w':=⟨h.os,h.tape,h.output,h.size,fun b hb _=>h.block b hb⟩
theorem Tz.trans{ex ex':Nat→Prop}{w w' w'':World}(h:Tz ex w w')(k:Tz ex' w' w'')(hs:∀b,b<w.heap.size→ex' b→ex b):Tz ex w w'':=
 ⟨k.os.trans h.os,k.tape.trans h.tape,k.output.trans h.output,Nat.le_trans h.size k.size,fun b hb he=>(k.block b (Nat.lt_of_lt_of_le hb h.size) (fun e=>he (hs b hb e))).trans (h.block b hb he)⟩
theorem Tz.below{ex:Nat→Prop}{B:Nat}{w0 w w':World}(h:Below B w0 w)(k:Tz ex w w')(hz:B≤w.heap.size)(he:∀b,ex b→B≤b):Below B w0 w':=
 ⟨k.os.trans h.os,k.tape.trans h.tape,k.output.trans h.output,Nat.le_trans h.size k.size,fun b hb=>(k.block b (by omega) (fun e=>by have:=he b e;omega)).trans (h.block b hb)⟩
structure Fd (B bf bm:Nat) (vs:List Vb) (fs:List ByteArray) (sv:Value) (w:World):Prop where
 r:RL w bf 391 [.map (some bm),sv]
 own:w.ownsRow B 9 1 sv fs.length (fs.flatMap Zm)
 map:MapV w bm vs
 nd:(vs.map Vb.v).Nodup
 bd:(vs.map Vb.b).Nodup
 each:∀x∈vs,RL w x.b 421 [.string x.v,.bool (inB fs x.v)]
 lo:B≤bf∧B≤bm∧∀x∈vs,B≤x.b
 ne:bf≠bm∧∀x∈vs,x.b≠bf∧x.b≠bm
 ap:∀g,sv.ownBlock=some g→g≠bf∧g≠bm∧∀x∈vs,g≠x.b
 al:∀n∈fs,∃x∈vs,x.v=n
def FP(bf bm:Nat)(vs:List Vb)(sv:Value)(k:Nat):Prop:=k=bf∨k=bm∨sv.ownBlock=some k∨∃x∈vs,x.b=k
theorem Fd.keep{B bf bm:Nat}{vs:List Vb}{fs:List ByteArray}{sv:Value}{w w':World}(h:Fd B bf bm vs fs sv w)(hk:∀k,FP bf bm vs sv k→w'.heap[k]?=w.heap[k]?):Fd B bf bm vs fs sv w':=
 ⟨World.rowIs.of_block h.r (hk _ (.inl rfl)),Zx h.own (fun g hg=>hk _ (.inr (.inr (.inl hg)))),h.map.of_block (hk _ (.inr (.inl rfl))),h.nd,h.bd,fun x hx=>World.rowIs.of_block (h.each x hx) (hk _ (.inr (.inr (.inr ⟨x,hx,rfl⟩)))),h.lo,h.ne,h.ap,h.al⟩
theorem Fd.lt{B bf bm:Nat}{vs:List Vb}{fs:List ByteArray}{sv:Value}{w:World}(h:Fd B bf bm vs fs sv w):∀k,FP bf bm vs sv k→k<w.heap.size:=by
 rintro k (rfl | rfl | e | ⟨x,hx,rfl⟩)
 ·exact World.rowIs.lt h.r
 ·exact h.map.lt
 ·exact(h.own.lt k e).2
 ·exact World.rowIs.lt (h.each x hx)
theorem Fd.ge{B bf bm:Nat}{vs:List Vb}{fs:List ByteArray}{sv:Value}{w:World}(h:Fd B bf bm vs fs sv w):∀k,FP bf bm vs sv k→B≤k:=by
 rintro k (rfl | rfl | e | ⟨x,hx,rfl⟩)
 ·exact h.lo.1
 ·exact h.lo.2.1
 ·exact(h.own.lt k e).1
 ·exact h.lo.2.2 x hx
theorem Fd.below{B bf bm:Nat}{vs:List Vb}{fs:List ByteArray}{sv:Value}{w w':World}(h:Fd B bf bm vs fs sv w)(hb:Below w.heap.size w w'):Fd B bf bm vs fs sv w':=h.keep (fun k hk=>hb.block k (h.lt k hk))
theorem Zcl{α β:Type}{f:α→β}:∀{l:List α},(l.map f).Nodup→∀{x y:α},x∈l→y∈l→f x=f y→x=y
 | [],_,x,y,hx,_,_=>by cases hx
 | a::l,h,x,y,hx,hy,e=>by
  rw[List.map_cons,List.nodup_cons]at h;rcases List.mem_cons.1 hx with hx1 | hx1
  ·rcases List.mem_cons.1 hy with hy1 | hy1
   ·rw[hx1,hy1]
   ·exact absurd (List.mem_map.2 ⟨y,hy1,by rw[←e,hx1]⟩) h.1
  ·rcases List.mem_cons.1 hy with hy1 | hy1
   ·exact absurd (List.mem_map.2 ⟨x,hx1,by rw[e,hy1]⟩) h.1
   ·exact Zcl h.2 hx1 hy1 e
theorem Zj7{vs:List Vb}{n:ByteArray}{x:Vb}(h:Zg0 vs n=some x):x∈vs∧x.v=n:=⟨List.mem_of_find?_eq_some h,by simpa using List.find?_some h⟩
theorem Zj8{vs:List Vb}{n:ByteArray}(h:Zg0 vs n=none):∀x∈vs,x.v≠n:=fun x hx=>by simpa using List.find?_eq_none.1 h x hx
theorem Fd.new{B bf bm:Nat}{vs:List Vb}{fs:List ByteArray}{sv:Value}{w:World}(h:Fd B bf bm vs fs sv w){n:ByteArray}(hn:∀x∈vs,x.v≠n):inB fs n=false:=by
 cases hq:inB fs n with
 | false=>rfl
 | true=>
  obtain⟨x,hx,e⟩:=h.al n (ZD.1 hq);exact absurd e (hn x hx)
theorem Fd.more{B bf bm:Nat}{vs:List Vb}{fs:List ByteArray}{sv:Value}{w w2:World}{n:ByteArray}(h:Fd B bf bm vs fs sv w)(hB:B≤w.heap.size)(hn:∀x∈vs,x.v≠n)
  (hm:MapV w2 bm (vs++[⟨n,w.heap.size⟩])) (ht:(w.alloc (.cells #[.string n,.bool false] 421)).mapTurned w2 bm) :
  Fd B bf bm (vs++[⟨n,w.heap.size⟩]) fs sv w2∧Tz (fun k=>k=bm) w w2:=by
 have gr:=ht.grown;have hA:=Zp (w:=w) (.cells #[.string n,.bool false] 421);have hsz:(w.alloc (.cells #[.string n,.bool false] 421)).heap.size=w.heap.size+1:=by simp
 have hbm:=h.map.lt
 have hkeep:∀k,k<w.heap.size→k≠bm→w2.heap[k]?=w.heap[k]?:=fun k hk hne=>by
  rw[gr.block k (by rw[hsz];omega) (fun e=>hne (Option.some.inj e)),hA.block k hk]
 have hnew:RL w2 w.heap.size 421 [.string n,.bool (inB fs n)]:=by
  rw[h.new hn];exact World.rowIs.of_block (Zk w #[.string n,.bool false] 421) (gr.block _ (by rw[hsz];omega) (fun e=>by have:=Option.some.inj e;omega))
 have hlt:=h.lt;refine⟨⟨World.rowIs.of_block h.r (hkeep _ (hlt _ (.inl rfl)) h.ne.1),Zx h.own (fun g hg=>hkeep g (h.own.lt g hg).2 (h.ap g hg).2.1),hm,?_,?_,?_,⟨h.lo.1,h.lo.2.1,?_⟩,⟨h.ne.1,?_⟩,?_,?_⟩,?_⟩
 ·rw[List.map_append,List.nodup_append];refine⟨h.nd,by simp,fun a ha b hb=>?_⟩;obtain⟨x,hx,rfl⟩:=List.mem_map.1 ha;simp only[List.map_cons,List.map_nil,List.mem_singleton]at hb;rw[hb];exact hn x hx
 ·rw[List.map_append,List.nodup_append];refine⟨h.bd,by simp,fun a ha b hb=>?_⟩;obtain⟨x,hx,rfl⟩:=List.mem_map.1 ha;simp only[List.map_cons,List.map_nil,List.mem_singleton]at hb;rw[hb];have:=hlt x.b (.inr (.inr (.inr ⟨x,hx,rfl⟩)));omega
 ·intro x hx;rcases List.mem_append.1 hx with hx | hx
  ·exact World.rowIs.of_block (h.each x hx) (hkeep _ (hlt x.b (.inr (.inr (.inr ⟨x,hx,rfl⟩)))) (h.ne.2 x hx).2)
  ·rw[List.mem_singleton.1 hx];exact hnew
 ·intro x hx;rcases List.mem_append.1 hx with hx | hx
  ·exact h.lo.2.2 x hx
  ·rw[List.mem_singleton.1 hx];exact hB
 ·intro x hx;rcases List.mem_append.1 hx with hx | hx
  ·exact h.ne.2 x hx
  ·rw[List.mem_singleton.1 hx];have:=hlt bf (.inl rfl);exact⟨by show w.heap.size≠bf;omega,by show w.heap.size≠bm;omega⟩
 ·intro g hg;refine⟨(h.ap g hg).1,(h.ap g hg).2.1,fun x hx=>?_⟩;rcases List.mem_append.1 hx with hx | hx
  ·exact(h.ap g hg).2.2 x hx
  ·rw[List.mem_singleton.1 hx];have:=(h.own.lt g hg).2;show g≠w.heap.size;omega
 ·intro m hm;obtain⟨x,hx,e⟩:=h.al m hm;exact⟨x,List.mem_append.2 (.inl hx),e⟩
 ·obtain⟨es,c,es',c',hb,rfl⟩:=ht;exact⟨rfl,rfl,rfl,by have:=gr.size;rw[hsz]at this;omega,fun b hb he=>hkeep b hb he⟩
theorem Fd.found{B bf bm:Nat}{vs:List Vb}{fs:List ByteArray}{sv sv':Value}{w w3 Y:World}{x:Vb}(h:Fd B bf bm vs fs sv w)(hx:x∈vs)(hf:inB fs x.v=false)(hY:Below (w.setCell ⟨x.b,1,none⟩ (.bool true)).heap.size (w.setCell ⟨x.b,1,none⟩ (.bool true)) Y)
  (hown':w3.ownsRow B 9 1 sv' (fs.length+1) (fs.flatMap Zm++[.string x.v])) (hgrow:Y.grownBy w3 sv.ownBlock) (hloc:sv'.ownBlock=sv.ownBlock∨sv'.ownBlock=some Y.heap.size) :
  Fd B bf bm vs (fs++[x.v]) sv' (w3.setCell ⟨bf,1,none⟩ sv')∧Tz (FP bf bm vs sv) w (w3.setCell ⟨bf,1,none⟩ sv')∧(∀g,sv'.ownBlock=some g→sv.ownBlock=some g∨w.heap.size≤g):=by
 have hlt:=h.lt;have hxb:=hlt x.b (.inr (.inr (.inr ⟨x,hx,rfl⟩)));have hbf:=hlt bf (.inl rfl);have hsz:w.heap.size≤Y.heap.size:=by have:=hY.size;simpa using this
 have hz3:w.heap.size≤w3.heap.size:=Nat.le_trans hsz hgrow.size
 have k3:∀k,k<w.heap.size→k≠x.b→some k≠sv.ownBlock→w3.heap[k]?=w.heap[k]?:=fun k hk hne hn=>by
  rw[hgrow.block k (by omega) hn,hY.block k (by simpa using hk)];exact heap_setCell_other _ _ _ _ (by show k≠x.b;exact hne)
 have hnx:some x.b≠sv.ownBlock:=fun e=>(h.ap x.b e.symm).2.2 x hx rfl
 have kx:w3.heap[x.b]?=(w.setCell ⟨x.b,1,none⟩ (.bool true)).heap[x.b]?:=by
  rw[hgrow.block x.b (by omega) hnx,hY.block x.b (by simpa using hxb)]
 have hrx:RL w3 x.b 421 [.string x.v,.bool true]:=World.rowIs.of_block ((h.each x hx).set 1 (.bool true)) kx;have hnbf:some bf≠sv.ownBlock:=fun e=>(h.ap bf e.symm).1 rfl
 have hxf:x.b≠bf:=(h.ne.2 x hx).1;have hrf:RL w3 bf 391 [.map (some bm),sv]:=World.rowIs.of_block h.r (k3 bf hbf (Ne.symm hxf) hnbf)
 have hnew:∀g,sv'.ownBlock=some g→sv.ownBlock=some g∨w.heap.size≤g:=fun g hg=>by
  rcases hloc with e | e
  ·exact .inl (by rw[←e];exact hg)
  ·rw[e]at hg;have:=Option.some.inj hg;exact .inr (by omega)
 have hap:∀g,sv'.ownBlock=some g→g≠bf∧g≠bm∧∀y∈vs,g≠y.b:=fun g hg=>by
  rcases hnew g hg with e | e
  ·exact h.ap g e
  ·refine⟨by omega,by have:=h.map.lt;omega,fun y hy=>by have:=hlt y.b (.inr (.inr (.inr ⟨y,hy,rfl⟩)));omega⟩
 have kf:∀k,k≠bf→(w3.setCell ⟨bf,1,none⟩ sv').heap[k]?=w3.heap[k]?:=fun k hk=>heap_setCell_other _ _ _ _ (by show k≠bf;exact hk)
 refine⟨⟨hrf.set 1 sv',?_,?_,h.nd,h.bd,?_,h.lo,h.ne,hap,?_⟩,?_,hnew⟩
 ·have e1:(fs++[x.v]).length=fs.length+1:=by simp
  have e2:(fs++[x.v]).flatMap Zm=fs.flatMap Zm++[.string x.v]:=by rw[List.flatMap_append];rfl
  rw[e1,e2];exact Zx hown' (fun g hg=>kf g (hap g hg).1)
 ·have hnm:some bm≠sv.ownBlock:=fun e=>(h.ap bm e.symm).2.1 rfl
  refine h.map.of_block ?_;rw[kf bm (Ne.symm h.ne.1)];exact k3 bm h.map.lt (Ne.symm (h.ne.2 x hx).2) hnm
 ·intro y hy
  by_cases e:y=x
  ·subst e;have:inB (fs++[y.v]) y.v=true:=ZD.2 (by simp);rw[this];exact World.rowIs.of_block hrx (kf y.b hxf)
  ·have hyv:y.v≠x.v:=fun ev=>e (Zcl h.nd hy hx ev)
   have hyb:y.b≠x.b:=fun ev=>e (Zcl h.bd hy hx ev)
   have e2:inB (fs++[x.v]) y.v=inB fs y.v:=by
    cases hq:inB fs y.v with
    | true=>exact ZD.2 (List.mem_append.2 (.inl (ZD.1 hq)))
    | false=>
     rw[←Bool.not_eq_true];intro hc;rcases List.mem_append.1 (ZD.1 hc)with hc | hc
     ·rw[ZD.2 hc]at hq;cases hq
     ·exact hyv (List.mem_singleton.1 hc)
   rw[e2];refine World.rowIs.of_block (h.each y hy) ?_;rw[kf y.b (h.ne.2 y hy).1];exact k3 y.b (hlt y.b (.inr (.inr (.inr ⟨y,hy,rfl⟩)))) hyb (fun ev=>(h.ap y.b ev.symm).2.2 y hy rfl)
 ·intro n hn;rcases List.mem_append.1 hn with hn | hn
  ·exact h.al n hn
  ·rw[List.mem_singleton.1 hn];exact⟨x,hx,rfl⟩
 ·refine⟨hgrow.os.trans hY.os,hgrow.tape.trans hY.tape,hgrow.output.trans hY.output,by simp only[World.size_setCell];omega,fun b hb he=>?_⟩;rw[kf b (fun e=>he (.inl e))];exact k3 b hb (fun e=>he (.inr (.inr (.inr ⟨x,hx,e.symm⟩)))) (fun e=>he (.inr (.inr (.inl e.symm))))
theorem Zd4{B bf bm:Nat}{vs:List Vb}{fs:List ByteArray}{sv:Value}{w:World}(h:Fd B bf bm vs fs sv w)(hB:B≤w.heap.size)(n:ByteArray)(hn:n.size≤maxLen) :
  Calls Tryz.prog 290 #[.pointer (some ⟨bf,0,none⟩),.string n] w fun e w'=>∃vs' x,e=.returned (ZcE x)∧x∈vs'∧x.v=n∧(∃m,vs'=vs++m∧∀y∈m,w.heap.size≤y.b∧y.v=n)∧Fd B bf bm vs' fs sv w'∧Tz (fun k=>k=bm) w w':=by
 have c0:=h.r.at (j:=0) rfl;have HL:=h.map.look h.nd hn;have HH:=Lib.hid h
 cases hs:Zg0 vs n with
 | some x=>
  obtain⟨hx,hv⟩:=Zj7 hs;have e1:Ze0 vs n=.pointer (some ⟨x.b,0,none⟩):=by unfold Ze0;rw[hs];rfl
  rw[e1]at HL;have HX:Hid (x∈vs∧x.v=n):=⟨hx,hv⟩;clear hs hx hv e1 h;go_enter Tryz.func290,Tryz.ntmps290;go_wp2;go_ret;exact⟨vs,x,rfl,HX.out.1,HX.out.2,⟨[],by simp,fun y hy=>by cases hy⟩,HH.out,Tz.refl _ _⟩
 | none=>
  have e1:Ze0 vs n=.pointer none:=by unfold Ze0;rw[hs]
  rw[e1]at HL;have hno:=Zj8 hs;have hA:=Zp (w:=w) (.cells #[.string n,.bool false] 421);obtain⟨w2,hrun,hm2,ht2⟩:=(h.map.of_block (hA.block _ h.map.lt)).put (p:=⟨n,w.heap.size⟩) hn hno;have HM:=Lib.hid (h.more hB hno hm2 ht2);have c0':(w.alloc (.cells #[.string n,.bool false] 421)).cell? ⟨bf,0,none⟩=some (.map (some bm)):=(h.r.below hA).at (j:=0) rfl;unfold ZcE at hrun;simp only at hrun
  clear hs hno e1 h hm2 ht2 hA;go_enter Tryz.func290,Tryz.ntmps290;go_wp2;go_ret;exact⟨vs++[⟨n,w.heap.size⟩],⟨n,w.heap.size⟩,rfl,List.mem_append.2 (.inr (List.mem_singleton.2 rfl)),rfl,⟨[⟨n,w.heap.size⟩],rfl,fun y hy=>by rw[List.mem_singleton.1 hy];exact⟨Nat.le_refl _,rfl⟩⟩,HM.out.1,HM.out.2⟩
theorem Zfz{B bf bm:Nat}{vs:List Vb}{fs:List ByteArray}{sv:Value}{w:World}(h:Fd B bf bm vs fs sv w)(hB:B≤w.heap.size)(x:Vb)(hx:x∈vs)(hl:fs.length≤1000000000) :
  Calls Tryz.prog 289 #[.pointer (some ⟨bf,0,none⟩),.pointer (some ⟨x.b,0,none⟩)] w fun e w'=>(∃u,e=.returned u)∧∃sv',Fd B bf bm vs (Zby fs x.v) sv' w'∧Tz (FP bf bm vs sv) w w'∧(∀g,sv'.ownBlock=some g→sv.ownBlock=some g∨w.heap.size≤g):=by
 obtain⟨i0,hi0,hz0,hz1,hz2⟩:=info_parts Zcq;have c1:=(h.each x hx).at (j:=1) rfl;have HH:=Lib.hid h
 cases hq:inB fs x.v
 ·rw[hq]at c1;have HAD:Hid (Zby fs x.v=fs++[x.v]):=by show _=_;unfold Zby;rw[hq];rfl
  have f1:=World.rowIs.frozen (h.each x hx) 1;have HQ:=Lib.hid hq;obtain⟨sa,sc,rfl,_⟩:=ZB h.own;have hxf:x.b≠bf:=(h.ne.2 x hx).1;have hlt:=h.lt;have hxb:=hlt x.b (.inr (.inr (.inr ⟨x,hx,rfl⟩)));have HX:=Lib.hid hx;have HRX:=Lib.hid ((h.each x hx).set 1 (.bool true));have HRF:Hid (RL (w.setCell ⟨x.b,1,none⟩ (.bool true)) bf 391 [.map (some bm),.slice sa fs.length sc]):=h.r.other (Ne.symm hxf) _
  have HOW:Hid ((w.setCell ⟨x.b,1,none⟩ (.bool true)).ownsRow B 9 1 (.slice sa fs.length sc) fs.length (fs.flatMap Zm)):=Zx h.own (fun g hg=>heap_setCell_other _ _ _ _ (by show g≠x.b;exact(h.ap g hg).2.2 x hx));have HFN:Hid (∀{w3 Y:World} {sv':Value},Below (w.setCell ⟨x.b,1,none⟩ (.bool true)).heap.size (w.setCell ⟨x.b,1,none⟩ (.bool true)) Y→w3.ownsRow B 9 1 sv' (fs.length+1) (fs.flatMap Zm++[.string x.v])→Y.grownBy w3 (Value.slice sa fs.length sc).ownBlock→(sv'.ownBlock=(Value.slice sa fs.length sc).ownBlock∨sv'.ownBlock=some Y.heap.size)→_):=fun h0 h1 h2 h3=>HH.out.found HX.out HQ.out h0 h1 h2 h3
  have HSZ:Hid (B≤(w.setCell ⟨x.b,1,none⟩ (.bool true)).heap.size):=by show _≤_;simp;omega
  clear hq hx hlt h;go_enter Tryz.func289,Tryz.ntmps289;go_upto_region 2 with fail
  have HNB:Hid (some bf≠(Value.slice sa fs.length sc).ownBlock):=fun e=>(HH.out.ap bf e.symm).1 rfl
  have HBL:Hid (bf<(w.setCell ⟨x.b,1,none⟩ (.bool true)).heap.size):=by show _<_;have:=HH.out.lt bf (.inl rfl);simpa using this
  generalize w.setCell ⟨x.b,1,none⟩ (.bool true)=W at HRX HRF HOW HFN HSZ HBL⊢;have n0:=HRX.out.at (j:=0) rfl;have g1:=HRF.out.at (j:=1) rfl;have g2:=(HRF.out.below (Zp (w:=W) (.cells #[.string x.v] 9))).at (j:=1) rfl;have HYW:Hid (Below W.heap.size W (W.alloc (.cells #[.string x.v] 9)).drew):=((Below.refl W.heap.size W).alloc (Nat.le_refl _) _).drew;have HOWN:Hid ((W.alloc (.cells #[.string x.v] 9)).drew.ownsRow B 9 1 (.slice sa fs.length sc) fs.length (fs.flatMap Zm)):=Zn HOW.out HYW.out
  have HC:Hid (∀(j:Nat) (u:Value),([.string x.v]:List Value)[j]?=some u→(W.alloc (.cells #[.string x.v] 9)).drew.cell? ((⟨W.heap.size,0,none⟩:Addr).add j)=some u):=ZR W #[.string x.v] 9;have HSZ2:Hid (B≤(W.alloc (.cells #[.string x.v] 9)).drew.heap.size):=by show _≤_;have:=HSZ.out;simp;omega
  clear f1 hxb c1
  have hst:∀{ops:Array Oper} {o:Oper} {aa:Act} {K:Act→World→Prop} {Q:Exit→Act→World→Prop} {E:Prop} {Y:World},o.guard=none→o.op=Op.call {callee:=Callee.builtin Builtin.append,args:=#[.tmp 16,.tmp 21],argTypes:=#[26,26]}→aa.eval (.tmp 16)=.slice sa fs.length sc→aa.eval (.tmp 21)=.slice (some ⟨W.heap.size,0,none⟩) 1 1→Below W.heap.size W Y→Y.cell? ⟨W.heap.size,0,none⟩=some (.string x.v) →
    (∀a6 c6 w3,w3.cell? ⟨bf,1,none⟩=some (.slice sa fs.length sc)→w3.frozen? ⟨bf,1,none⟩=false→Hid (Fd B bf bm vs (fs++[x.v]) (.slice a6 (fs.length+1) c6) (w3.setCell ⟨bf,1,none⟩ (.slice a6 (fs.length+1) c6))∧Tz (FP bf bm vs (.slice sa fs.length sc)) w (w3.setCell ⟨bf,1,none⟩ (.slice a6 (fs.length+1) c6))∧(∀g,(Value.slice a6 (fs.length+1) c6).ownBlock=some g→(Value.slice sa fs.length sc).ownBlock=some g∨w.heap.size≤g))→K (aa.put o.dst (.slice a6 (fs.length+1) c6)) w3) →
    if Region.wanted o (yielded ops aa.tmps)=true then Oper.wp Tryz.prog o aa Y K Q else E:=fun {ops o aa K Q E Y} hg hop h16 h21 hY hYc hK=>by
   refine ZaN hg (.tmp 16) (.tmp 21) 26 hop 9 i0 _ 1 16 Tryz.underlying26 hi0 hz0 hz1 hz2 rfl (by decide) B (.slice sa fs.length sc) fs.length _ h16 (Zn HOW.out hY) ⟨W.heap.size,0,none⟩ 1 1 [.string x.v] h21 rfl (fun j u hj=>?_) (by simp[Value.oneCell']) (by unfold maxLen;omega) (by omega) (Nat.le_trans HSZ.out hY.size) ?_
   ·match j,hj with
    | 0,hj=>simp at hj;subst hj;exact hYc
   intro v' w3 hown' hgrow hloc;have HR3:RL w3 bf 391 [.map (some bm),.slice sa fs.length sc]:=World.rowIs.of_block HRF.out ((hgrow.block bf (by have:=HBL.out;have:=hY.size;omega) HNB.out).trans (hY.block bf HBL.out));have HD:=HFN.out hY hown' hgrow hloc;obtain⟨a6,c6,rfl,_⟩:=ZB hown';exact hK a6 c6 w3 (HR3.at (j:=1) rfl) (World.rowIs.frozen HR3 1) HD
  clear HOWN HC HSZ2 HFN HOW
  go_region_law (
   refine hst rfl rfl (by simp[Act.eval,Act.put]) (by simp[Act.eval,Act.put]) (by first | exact HYW.out | exact((Below.refl W.heap.size W).drew.alloc (Nat.le_refl _) _)) (by go_simp) ?_;intro a6 c6 w3 q1 f3 HD)
  all_goals
   go_wp2;go_end0;exact⟨⟨_,rfl⟩,_,by rw[HAD.out];exact HD.out.1,HD.out.2.1,HD.out.2.2⟩
 ·rw[hq]at c1;have HAD:Hid (Zby fs x.v=fs):=by show _=_;unfold Zby;rw[hq];rfl
  clear hq hx h;go_enter Tryz.func289,Tryz.ntmps289;go_wp2;go_end0;exact⟨⟨_,rfl⟩,sv,by rw[HAD.out];exact HH.out,Tz.refl _ _,fun g hg=>.inl hg⟩
def ZpE:Value→Nat | .slice _ n _=>n | _=>0
def Vb0:Vb:=⟨noS,0⟩
def ZfA(l:List Vb)(i:Nat):Vb:=l.getD i Vb0
theorem Zcb{l:List Vb}{i:Nat}(h:i<l.length):ZfA l i=l[i]:=by simp[ZfA,List.getD,List.getElem?_eq_getElem h]
def Lq(w:World)(a:Option Addr)(c:Nat)(xs:List Vb):Prop:=xs.length≤c∧c≤maxLen∧(0<xs.length→∃g off,a=some ⟨g,off,none⟩∧g<w.heap.size∧∀i,i<xs.length→w.cell? ⟨g,off+i,none⟩=some (ZcE (ZfA xs i)))
def KnL(be:Nat)(l0 l1 s1:Value)(a:Option Addr)(xs:List Vb)(fs:List ByteArray)(w':World):Prop:=∃ds ys a' c',xs=ds++ys∧(∀x∈ds,x.v∈fs)∧RL w' be 405 [l0,.slice a' ys.length c',l1,s1]∧Lq w' a' c' ys∧(∀g off,a'=some ⟨g,off,none⟩→∃off0,a=some ⟨g,off0,none⟩)
theorem ZhX{B bf bm:Nat}{vs:List Vb}{fs:List ByteArray}{sv:Value}{w:World}(h:Fd B bf bm vs fs sv w)(be:Nat){l0:Value}{l1:Value}{s1:Value}(a:Option Addr)(c:Nat)(xs:List Vb)(hq:RL w be 405 [l0,.slice a xs.length c,l1,s1])(hbe:¬ FP bf bm vs sv be)(hx:∀x∈xs,x∈vs)
  (hl:Lq w a c xs) (hne:∀g off,a=some ⟨g,off,none⟩→g≠be) :
  Calls Tryz.prog 339 #[.pointer (some ⟨be,0,none⟩)] w fun e w'=>e=.returned (.bool (xs.all (fun x=>inB fs x.v)))∧Tz (fun k=>k=be) w w'∧KnL be l0 l1 s1 a xs fs w':=by
 obtain⟨hc1,hc2,hat⟩:=hl;have HAT:=Lib.hid hat;have HH:=Lib.hid h;have HX:=Lib.hid hx;have HNE:=Lib.hid hne;have HNB:=Lib.hid hbe;have HQ0:=Lib.hid hq;have hmx:xs.length≤maxLen:=Nat.le_trans hc1 hc2;unfold maxLen at hmx hc2;clear hat h hx hne hbe hq;go_enter Tryz.func339,Tryz.ntmps339;go_wp2;go_loopw [] (fun wr=>∃(k:Nat) (a':Option Addr),k≤xs.length∧Hid (∀x∈xs.take k,x.v∈fs)∧Hid (RL wr be 405 [l0,.slice a' (xs.length-k) (c-k),l1,s1])∧Hid (Tz (fun k=>k=be) w wr)∧Hid (k<xs.length→∃g off,a=some ⟨g,off,none⟩∧a'=some ⟨g,off+k,none⟩)∧Hid (∀g off,a'=some ⟨g,off,none⟩→∃off0,a=some ⟨g,off0,none⟩)) (fun wr=>ZpE ((wr.cell? ⟨be,1,none⟩).getD (.bool false)))
 case atStart=>exact⟨0,a,Nat.zero_le _,fun x hx=>(by cases hx),HQ0,Tz.refl _ _,fun h0=>(by obtain⟨g,off,ha,_⟩:=HAT.out h0;exact⟨g,off,ha,ha⟩),fun g off e=>⟨off,e⟩⟩
 case round=>
  obtain⟨k,a',hk,HTK,HR,HT,HA,HA2⟩:=hrel;have q1:=HR.out.at (j:=1) rfl
  by_cases hlt:k<xs.length
  ·obtain⟨g,off,ha,ha'⟩:=HA.out hlt;obtain⟨g2,off2,ha2,hgl,hcs⟩:=HAT.out (by omega);have HCS:=Lib.hid hcs;rw[ha]at ha2
   injection ha2 with ha2
   injection ha2 with e1 e2 _
   subst e1 e2;have hgb:g≠be:=HNE.out g off ha;have x0:wr.cell? ⟨g,off+k,none⟩=some (ZcE (ZfA xs k)):=by rw[World.cell?_of_block (a:=⟨g,off+k,none⟩) (HT.out.block g hgl hgb)];exact hcs k hlt
   have hmem:ZfA xs k∈xs:=by rw[Zcb hlt];exact List.getElem_mem _
   obtain⟨x,hxx⟩:∃x,ZfA xs k=x:=⟨_,rfl⟩;rw[hxx]at x0 hmem;have hxb:x.b≠be:=fun e=>HNB.out (.inr (.inr (.inr ⟨x,HX.out x hmem,e⟩)))
   have hf:wr.cell? ⟨x.b,1,none⟩=some (.bool (inB fs x.v)):=by
    rw[World.cell?_of_block (a:=⟨x.b,1,none⟩) (HT.out.block x.b (HH.out.lt x.b (.inr (.inr (.inr ⟨x,HX.out x hmem,rfl⟩)))) hxb)];exact(HH.out.each x (HX.out x hmem)).at (j:=1) rfl
   have hpos:(0:Int)<((xs.length-k:Nat):Int):=by omega
   have HXX:=Lib.hid hxx;unfold ZcE at x0;clear hcs HAT
   cases hfl:inB fs x.v
   ·rw[hfl]at hf;have e0:(((xs.length-k:Nat):Int)==0)=false:=by rw[beq_eq_false_iff_ne];omega
    have HALL:Hid (xs.all (fun x=>inB fs x.v)=false):=by
     show _=_;rw[←Bool.not_eq_true];intro hc;rw[List.all_eq_true.1 hc x hmem]at hfl
     cases hfl
    have HLQ:Hid (Lq wr a' (c-k) (xs.drop k)):=by
     show Lq _ _ _ _;refine⟨by rw[List.length_drop];omega,by unfold maxLen;omega,fun _=>⟨g,off+k,ha',?_,?_⟩⟩
     ·exact Nat.lt_of_lt_of_le hgl HT.out.size
     ·intro i hi;rw[List.length_drop]at hi;rw[World.cell?_of_block (a:=⟨g,off+k+i,none⟩) (HT.out.block g hgl hgb)];have:=HCS.out (k+i) (by omega);rw[Nat.add_assoc,this,Zcb (by omega),Zcb (by rw[List.length_drop];omega),List.getElem_drop]
    subst ha';clear hfl hmem;go_wp2;go_ret;refine⟨by rw[HALL.out];rfl,HT.out,⟨xs.take k,xs.drop k,_,c-k,(List.take_append_drop k xs).symm,HTK.out,?_,HLQ.out,fun g1 o1 e=>(by rw[←ha];exact HA2.out g1 o1 e)⟩⟩;rw[List.length_drop];exact HR.out
   ·rw[hfl]at hf
    have HTK1:Hid (∀y∈xs.take (k+1),y.v∈fs):=by
     show ∀y∈_,_;intro y hy;have e:xs.take (k+1)=xs.take k++[ZfA xs k]:=by rw[List.take_add_one,List.getElem?_eq_getElem hlt,Zcb hlt];rfl
     rw[e]at hy;rcases List.mem_append.1 hy with hy | hy
     ·exact HTK.out y hy
     ·rw[List.mem_singleton.1 hy,HXX.out];exact ZD.1 hfl
    subst ha';have f1:=World.rowIs.frozen HR.out 1;clear hfl hmem;go_wp2;refine⟨⟨k+1,if c-k=1 then some ⟨g,off+k,none⟩else some ⟨g,off+k+1,none⟩,by omega,HTK1,?_,?_,?_,?_⟩,?_⟩
    ·have:=HR.out.set 1 (.slice (if c-k=1 then some ⟨g,off+k,none⟩else some ⟨g,off+k+1,none⟩) (xs.length-k-1) (c-k-1));rw[Nat.sub_sub,Nat.sub_sub]at this;exact this
    ·exact⟨HT.out.os,HT.out.tape,HT.out.output,by simp only[World.size_setCell];exact HT.out.size,fun b hb he=>by rw[heap_setCell_other _ _ _ _ (by show b≠be;exact he)];exact HT.out.block b hb he⟩
    ·exact fun h=>⟨g,off,ha,by rw[if_neg (by omega)];rfl⟩
    ·intro g' off' e
     split at e
     ·injection e with e
      injection e with e _ _
      subst e;exact⟨off,ha⟩
     ·injection e with e
      injection e with e _ _
      subst e;exact⟨off,ha⟩
    ·rw[World.cell?_setCell_same _ _ _ q1,q1];show xs.length-k-1<xs.length-k;omega
  ·obtain rfl:k=xs.length:=by omega
   have e0:(((xs.length-xs.length:Nat):Int)==0)=true:=by rw[Nat.sub_self];rfl
   have e1:¬ (0:Int)<((xs.length-xs.length:Nat):Int):=by rw[Nat.sub_self];decide
   have HALL:Hid (xs.all (fun x=>inB fs x.v)=true):=by
    show _=_;rw[List.all_eq_true];intro x hx;exact ZD.2 (HTK.out x (by rw[List.take_length];exact hx))
   go_wp2;go_ret;refine⟨by rw[HALL.out];rfl,HT.out,⟨xs,[],_,c-xs.length,(List.append_nil _).symm,fun x hx=>HTK.out x (by rw[List.take_length];exact hx),?_,⟨Nat.zero_le _,by unfold maxLen;omega,fun h=>absurd h (by simp)⟩,HA2.out⟩⟩;have:=HR.out;rw[Nat.sub_self]at this;exact this
def KnR(be:Nat)(l0 s0 l1:Value)(a:Option Addr)(xs:List Vb)(fs:List ByteArray)(w':World):Prop:=∃ds ys a' c',xs=ds++ys∧(∀x∈ds,x.v∈fs)∧RL w' be 405 [l0,s0,l1,.slice a' ys.length c']∧Lq w' a' c' ys∧(∀g off,a'=some ⟨g,off,none⟩→∃off0,a=some ⟨g,off0,none⟩)
theorem ZhY{B bf bm:Nat}{vs:List Vb}{fs:List ByteArray}{sv:Value}{w:World}(h:Fd B bf bm vs fs sv w)(be:Nat){l0:Value}{s0:Value}{l1:Value}(a:Option Addr)(c:Nat)(xs:List Vb)(hq:RL w be 405 [l0,s0,l1,.slice a xs.length c])(hbe:¬ FP bf bm vs sv be)(hx:∀x∈xs,x∈vs)
  (hl:Lq w a c xs) (hne:∀g off,a=some ⟨g,off,none⟩→g≠be) :
  Calls Tryz.prog 339 #[.pointer (some ⟨be,2,none⟩)] w fun e w'=>e=.returned (.bool (xs.all (fun x=>inB fs x.v)))∧Tz (fun k=>k=be) w w'∧KnR be l0 s0 l1 a xs fs w':=by
 obtain⟨hc1,hc2,hat⟩:=hl;have HAT:=Lib.hid hat;have HH:=Lib.hid h;have HX:=Lib.hid hx;have HNE:=Lib.hid hne;have HNB:=Lib.hid hbe;have HQ0:=Lib.hid hq;have hmx:xs.length≤maxLen:=Nat.le_trans hc1 hc2;unfold maxLen at hmx hc2;clear hat h hx hne hbe hq;go_enter Tryz.func339,Tryz.ntmps339;go_wp2;go_loopw [] (fun wr=>∃(k:Nat) (a':Option Addr),k≤xs.length∧Hid (∀x∈xs.take k,x.v∈fs)∧Hid (RL wr be 405 [l0,s0,l1,.slice a' (xs.length-k) (c-k)])∧Hid (Tz (fun k=>k=be) w wr)∧Hid (k<xs.length→∃g off,a=some ⟨g,off,none⟩∧a'=some ⟨g,off+k,none⟩)∧Hid (∀g off,a'=some ⟨g,off,none⟩→∃off0,a=some ⟨g,off0,none⟩)) (fun wr=>ZpE ((wr.cell? ⟨be,3,none⟩).getD (.bool false)))
 case atStart=>exact⟨0,a,Nat.zero_le _,fun x hx=>(by cases hx),HQ0,Tz.refl _ _,fun h0=>(by obtain⟨g,off,ha,_⟩:=HAT.out h0;exact⟨g,off,ha,ha⟩),fun g off e=>⟨off,e⟩⟩
 case round=>
  obtain⟨k,a',hk,HTK,HR,HT,HA,HA2⟩:=hrel;have q1:=HR.out.at (j:=3) rfl
  by_cases hlt:k<xs.length
  ·obtain⟨g,off,ha,ha'⟩:=HA.out hlt;obtain⟨g2,off2,ha2,hgl,hcs⟩:=HAT.out (by omega);have HCS:=Lib.hid hcs;rw[ha]at ha2
   injection ha2 with ha2
   injection ha2 with e1 e2 _
   subst e1 e2;have hgb:g≠be:=HNE.out g off ha;have x0:wr.cell? ⟨g,off+k,none⟩=some (ZcE (ZfA xs k)):=by rw[World.cell?_of_block (a:=⟨g,off+k,none⟩) (HT.out.block g hgl hgb)];exact hcs k hlt
   have hmem:ZfA xs k∈xs:=by rw[Zcb hlt];exact List.getElem_mem _
   obtain⟨x,hxx⟩:∃x,ZfA xs k=x:=⟨_,rfl⟩;rw[hxx]at x0 hmem;have hxb:x.b≠be:=fun e=>HNB.out (.inr (.inr (.inr ⟨x,HX.out x hmem,e⟩)))
   have hf:wr.cell? ⟨x.b,1,none⟩=some (.bool (inB fs x.v)):=by
    rw[World.cell?_of_block (a:=⟨x.b,1,none⟩) (HT.out.block x.b (HH.out.lt x.b (.inr (.inr (.inr ⟨x,HX.out x hmem,rfl⟩)))) hxb)];exact(HH.out.each x (HX.out x hmem)).at (j:=1) rfl
   have hpos:(0:Int)<((xs.length-k:Nat):Int):=by omega
   have HXX:=Lib.hid hxx;unfold ZcE at x0;clear hcs HAT
   cases hfl:inB fs x.v
   ·rw[hfl]at hf;have e0:(((xs.length-k:Nat):Int)==0)=false:=by rw[beq_eq_false_iff_ne];omega
    have HALL:Hid (xs.all (fun x=>inB fs x.v)=false):=by
     show _=_;rw[←Bool.not_eq_true];intro hc;rw[List.all_eq_true.1 hc x hmem]at hfl
     cases hfl
    have HLQ:Hid (Lq wr a' (c-k) (xs.drop k)):=by
     show Lq _ _ _ _;refine⟨by rw[List.length_drop];omega,by unfold maxLen;omega,fun _=>⟨g,off+k,ha',?_,?_⟩⟩
     ·exact Nat.lt_of_lt_of_le hgl HT.out.size
     ·intro i hi;rw[List.length_drop]at hi;rw[World.cell?_of_block (a:=⟨g,off+k+i,none⟩) (HT.out.block g hgl hgb)];have:=HCS.out (k+i) (by omega);rw[Nat.add_assoc,this,Zcb (by omega),Zcb (by rw[List.length_drop];omega),List.getElem_drop]
    subst ha';clear hfl hmem;go_wp2;go_ret;refine⟨by rw[HALL.out];rfl,HT.out,⟨xs.take k,xs.drop k,_,c-k,(List.take_append_drop k xs).symm,HTK.out,?_,HLQ.out,fun g1 o1 e=>(by rw[←ha];exact HA2.out g1 o1 e)⟩⟩;rw[List.length_drop];exact HR.out
   ·rw[hfl]at hf
    have HTK1:Hid (∀y∈xs.take (k+1),y.v∈fs):=by
     show ∀y∈_,_;intro y hy;have e:xs.take (k+1)=xs.take k++[ZfA xs k]:=by rw[List.take_add_one,List.getElem?_eq_getElem hlt,Zcb hlt];rfl
     rw[e]at hy;rcases List.mem_append.1 hy with hy | hy
     ·exact HTK.out y hy
     ·rw[List.mem_singleton.1 hy,HXX.out];exact ZD.1 hfl
    subst ha';have f1:=World.rowIs.frozen HR.out 3;clear hfl hmem;go_wp2;refine⟨⟨k+1,if c-k=1 then some ⟨g,off+k,none⟩else some ⟨g,off+k+1,none⟩,by omega,HTK1,?_,?_,?_,?_⟩,?_⟩
    ·have:=HR.out.set 3 (.slice (if c-k=1 then some ⟨g,off+k,none⟩else some ⟨g,off+k+1,none⟩) (xs.length-k-1) (c-k-1));rw[Nat.sub_sub,Nat.sub_sub]at this;exact this
    ·exact⟨HT.out.os,HT.out.tape,HT.out.output,by simp only[World.size_setCell];exact HT.out.size,fun b hb he=>by rw[heap_setCell_other _ _ _ _ (by show b≠be;exact he)];exact HT.out.block b hb he⟩
    ·exact fun h=>⟨g,off,ha,by rw[if_neg (by omega)];rfl⟩
    ·intro g' off' e
     split at e
     ·injection e with e
      injection e with e _ _
      subst e;exact⟨off,ha⟩
     ·injection e with e
      injection e with e _ _
      subst e;exact⟨off,ha⟩
    ·rw[World.cell?_setCell_same _ _ _ q1,q1];show xs.length-k-1<xs.length-k;omega
  ·obtain rfl:k=xs.length:=by omega
   have e0:(((xs.length-xs.length:Nat):Int)==0)=true:=by rw[Nat.sub_self];rfl
   have e1:¬ (0:Int)<((xs.length-xs.length:Nat):Int):=by rw[Nat.sub_self];decide
   have HALL:Hid (xs.all (fun x=>inB fs x.v)=true):=by
    show _=_;rw[List.all_eq_true];intro x hx;exact ZD.2 (HTK.out x (by rw[List.take_length];exact hx))
   go_wp2;go_ret;refine⟨by rw[HALL.out];rfl,HT.out,⟨xs,[],_,c-xs.length,(List.append_nil _).symm,fun x hx=>HTK.out x (by rw[List.take_length];exact hx),?_,⟨Nat.zero_le _,by unfold maxLen;omega,fun h=>absurd h (by simp)⟩,HA2.out⟩⟩;have:=HR.out;rw[Nat.sub_self]at this;exact this
structure Er where
 be:Nat
 q:Qn
 l0:Option Vb
 x0:List Vb
 a0:Option Addr
 c0:Nat
 l1:Option Vb
 x1:List Vb
 a1:Option Addr
 c1:Nat
def Z6:Option Vb→Value
 | some x=>ZcE x
 | none=>.pointer none
structure EqIs (bf bm:Nat) (vs:List Vb) (fs:List ByteArray) (sv:Value) (w:World) (r:Er):Prop where
 row:RL w r.be 405 [Z6 r.l0,.slice r.a0 r.x0.length r.c0,Z6 r.l1,.slice r.a1 r.x1.length r.c1]
 q0:Lq w r.a0 r.c0 r.x0
 q1:Lq w r.a1 r.c1 r.x1
 n0:r.q.1.lone=r.l0.map Vb.v
 n1:r.q.2.lone=r.l1.map Vb.v
 v0:∃ds,r.q.1.vars=ds++r.x0.map Vb.v∧∀n∈ds,n∈fs
 v1:∃ds,r.q.2.vars=ds++r.x1.map Vb.v∧∀n∈ds,n∈fs
 m0:∀x,r.l0=some x→x∈vs
 m1:∀x,r.l1=some x→x∈vs
 i0:∀x∈r.x0,x∈vs
 i1:∀x∈r.x1,x∈vs
 nf:¬ FP bf bm vs sv r.be
 g0:∀g off,r.a0=some ⟨g,off,none⟩→¬ FP bf bm vs sv g∧g≠r.be∧g<w.heap.size
 g1:∀g off,r.a1=some ⟨g,off,none⟩→¬ FP bf bm vs sv g∧g≠r.be∧g<w.heap.size
def GvP(B bf bm:Nat)(vs:List Vb)(fs:List ByteArray)(sv:Value)(r:Er)(o:Option ByteArray)(w w':World):Prop:=
 ∃r' sv',r'.be=r.be∧(r'.q=r.q∧r'.l0=r.l0∧r'.l1=r.l1)∧(∀g off,(r'.a0=some ⟨g,off,none⟩→∃off0,r.a0=some ⟨g,off0,none⟩)∧(r'.a1=some ⟨g,off,none⟩→∃off0,r.a1=some ⟨g,off0,none⟩))∧Fd B bf bm vs (fs++o.toList) sv' w'∧EqIs bf bm vs (fs++o.toList) sv' w' r'∧Tz (fun k=>FP bf bm vs sv k∨k=r.be) w w'∧(∀g,sv'.ownBlock=some g→sv.ownBlock=some g∨w.heap.size≤g)
theorem GvP.still{B bf bm:Nat}{vs:List Vb}{fs:List ByteArray}{sv:Value}{r:Er}{w:World}(h:Fd B bf bm vs fs sv w)(hr:EqIs bf bm vs fs sv w r):GvP B bf bm vs fs sv r none w w:=
 ⟨r,sv,rfl,⟨rfl,rfl,rfl⟩,fun g off=>⟨fun e=>⟨off,e⟩,fun e=>⟨off,e⟩⟩,by simpa using h,by simpa using hr,Tz.refl _ _,fun g hg=>.inl hg⟩
theorem Lq.keep{w w':World}{a:Option Addr}{c:Nat}{xs:List Vb}(h:Lq w a c xs)(hz:w.heap.size≤w'.heap.size)(hk:∀g off,a=some ⟨g,off,none⟩→w'.heap[g]?=w.heap[g]?):Lq w' a c xs:=by
 obtain⟨h1,h2,h3⟩:=h;refine⟨h1,h2,fun h0=>?_⟩;obtain⟨g,off,ha,hg,hc⟩:=h3 h0;exact⟨g,off,ha,by omega,fun i hi=>by rw[World.cell?_of_block (a:=⟨g,off+i,none⟩) (hk g off ha)];exact hc i hi⟩
theorem EqIs.keep{bf bm:Nat}{vs vs':List Vb}{fs fs':List ByteArray}{sv sv':Value}{w w':World}{r:Er}{ex:Nat→Prop}(h:EqIs bf bm vs fs sv w r)(ht:Tz ex w w')(hx:∀k,¬ FP bf bm vs sv k→k<w.heap.size→¬ ex k)(hfs:∀n∈fs,n∈fs')(hvs:∀x∈vs,x∈vs')(hnf:∀k,k<w.heap.size→¬ FP bf bm vs sv k→¬ FP bf bm vs' sv' k):EqIs bf bm vs' fs' sv' w' r:=by
 have hbl:=World.rowIs.lt h.row;have k0:∀g off,r.a0=some ⟨g,off,none⟩→w'.heap[g]?=w.heap[g]?:=fun g off e=>ht.block g (h.g0 g off e).2.2 (hx g (h.g0 g off e).1 (h.g0 g off e).2.2)
 have k1:∀g off,r.a1=some ⟨g,off,none⟩→w'.heap[g]?=w.heap[g]?:=fun g off e=>ht.block g (h.g1 g off e).2.2 (hx g (h.g1 g off e).1 (h.g1 g off e).2.2)
 refine⟨World.rowIs.of_block h.row (ht.block r.be hbl (hx r.be h.nf hbl)),h.q0.keep ht.size k0,h.q1.keep ht.size k1,h.n0,h.n1,?_,?_,fun x e=>hvs x (h.m0 x e),fun x e=>hvs x (h.m1 x e),fun x e=>hvs x (h.i0 x e),fun x e=>hvs x (h.i1 x e),hnf _ hbl h.nf,fun g off e=>⟨hnf g (h.g0 g off e).2.2 (h.g0 g off e).1,(h.g0 g off e).2.1,Nat.lt_of_lt_of_le (h.g0 g off e).2.2 ht.size⟩,fun g off e=>⟨hnf g (h.g1 g off e).2.2 (h.g1 g off e).1,(h.g1 g off e).2.1,Nat.lt_of_lt_of_le (h.g1 g off e).2.2 ht.size⟩⟩
 ·obtain⟨ds,e,hd⟩:=h.v0;exact⟨ds,e,fun n hn=>hfs n (hd n hn)⟩
 ·obtain⟨ds,e,hd⟩:=h.v1;exact⟨ds,e,fun n hn=>hfs n (hd n hn)⟩
theorem EqIs.knownR{bf bm:Nat}{vs:List Vb}{fs:List ByteArray}{sv:Value}{w w':World}{r:Er}(h:EqIs bf bm vs fs sv w r)(ht:Tz (fun k=>k=r.be) w w')(hk:KnR r.be (Z6 r.l0) (.slice r.a0 r.x0.length r.c0) (Z6 r.l1) r.a1 r.x1 fs w') :
  ∃r',r'.be=r.be∧(r'.q=r.q∧r'.l0=r.l0∧r'.l1=r.l1)∧(∀g off,(r'.a0=some ⟨g,off,none⟩→∃off0,r.a0=some ⟨g,off0,none⟩)∧(r'.a1=some ⟨g,off,none⟩→∃off0,r.a1=some ⟨g,off0,none⟩))∧EqIs bf bm vs fs sv w' r':=by
 obtain⟨ds,ys,a',c',e,hd,hrow,hl,ha⟩:=hk;refine⟨{r with x1:=ys,a1:=a',c1:=c'},rfl,⟨rfl,rfl,rfl⟩,fun g off=>⟨fun e=>⟨off,e⟩,fun e=>ha g off e⟩,?_⟩;refine⟨hrow,h.q0.keep ht.size (fun g off e=>ht.block g (h.g0 g off e).2.2 (h.g0 g off e).2.1),hl,h.n0,h.n1,h.v0,?_,h.m0,h.m1,h.i0,fun x hx=>h.i1 x (by rw[e];exact List.mem_append.2 (.inr hx)),h.nf,fun g off e=>⟨(h.g0 g off e).1,(h.g0 g off e).2.1,Nat.lt_of_lt_of_le (h.g0 g off e).2.2 ht.size⟩,fun g off e2=>?_⟩
 ·obtain⟨d0,e0,h0⟩:=h.v1;refine⟨d0++ds.map Vb.v,by rw[e0,e,List.map_append,List.append_assoc],fun n hn=>?_⟩;rcases List.mem_append.1 hn with hn | hn
  ·exact h0 n hn
  ·obtain⟨x,hx,rfl⟩:=List.mem_map.1 hn;exact hd x hx
 ·obtain⟨off0,e3⟩:=ha g off e2;exact⟨(h.g1 g off0 e3).1,(h.g1 g off0 e3).2.1,Nat.lt_of_lt_of_le (h.g1 g off0 e3).2.2 ht.size⟩
theorem EqIs.knownL{bf bm:Nat}{vs:List Vb}{fs:List ByteArray}{sv:Value}{w w':World}{r:Er}(h:EqIs bf bm vs fs sv w r)(ht:Tz (fun k=>k=r.be) w w')(hk:KnL r.be (Z6 r.l0) (Z6 r.l1) (.slice r.a1 r.x1.length r.c1) r.a0 r.x0 fs w') :
  ∃r',r'.be=r.be∧(r'.q=r.q∧r'.l0=r.l0∧r'.l1=r.l1)∧(∀g off,(r'.a0=some ⟨g,off,none⟩→∃off0,r.a0=some ⟨g,off0,none⟩)∧(r'.a1=some ⟨g,off,none⟩→∃off0,r.a1=some ⟨g,off0,none⟩))∧EqIs bf bm vs fs sv w' r':=by
 obtain⟨ds,ys,a',c',e,hd,hrow,hl,ha⟩:=hk;refine⟨{r with x0:=ys,a0:=a',c0:=c'},rfl,⟨rfl,rfl,rfl⟩,fun g off=>⟨fun e=>ha g off e,fun e=>⟨off,e⟩⟩,?_⟩;refine⟨hrow,hl,h.q1.keep ht.size (fun g off e=>ht.block g (h.g1 g off e).2.2 (h.g1 g off e).2.1),h.n0,h.n1,?_,h.v1,h.m0,h.m1,fun x hx=>h.i0 x (by rw[e];exact List.mem_append.2 (.inr hx)),h.i1,h.nf,fun g off e2=>?_,fun g off e=>⟨(h.g1 g off e).1,(h.g1 g off e).2.1,Nat.lt_of_lt_of_le (h.g1 g off e).2.2 ht.size⟩⟩
 ·obtain⟨d0,e0,h0⟩:=h.v0;refine⟨d0++ds.map Vb.v,by rw[e0,e,List.map_append,List.append_assoc],fun n hn=>?_⟩;rcases List.mem_append.1 hn with hn | hn
  ·exact h0 n hn
  ·obtain⟨x,hx,rfl⟩:=List.mem_map.1 hn;exact hd x hx
 ·obtain⟨off0,e3⟩:=ha g off e2;exact⟨(h.g0 g off0 e3).1,(h.g0 g off0 e3).2.1,Nat.lt_of_lt_of_le (h.g0 g off0 e3).2.2 ht.size⟩
theorem Zj9{B bf bm:Nat}{vs:List Vb}{fs:List ByteArray}{sv sv':Value}{w:World}(h:Fd B bf bm vs fs sv w)(hn:∀g,sv'.ownBlock=some g→sv.ownBlock=some g∨w.heap.size≤g):∀k,k<w.heap.size→¬ FP bf bm vs sv k→¬ FP bf bm vs sv' k:=by
 rintro k hk hf (e | e | e | e)
 ·exact hf (.inl e)
 ·exact hf (.inr (.inl e))
 ·rcases hn k e with e | e
  ·exact hf (.inr (.inr (.inl e)))
  ·omega
 ·exact hf (.inr (.inr (.inr e)))
theorem GvP.quiet{B bf bm:Nat}{vs:List Vb}{fs:List ByteArray}{sv:Value}{r r':Er}{w w':World}(h:Fd B bf bm vs fs sv w)(hr:EqIs bf bm vs fs sv w r)(ht:Tz (fun k=>k=r.be) w w')(h1:r'.be=r.be)(h2:r'.q=r.q∧r'.l0=r.l0∧r'.l1=r.l1)(h3:∀g off,(r'.a0=some ⟨g,off,none⟩→∃off0,r.a0=some ⟨g,off0,none⟩)∧(r'.a1=some ⟨g,off,none⟩→∃off0,r.a1=some ⟨g,off0,none⟩))(h4:EqIs bf bm vs fs sv w' r'):GvP B bf bm vs fs sv r none w w':=
 ⟨r',sv,h1,h2,h3,by simpa using h.keep (fun k hk=>ht.block k (h.lt k hk) (fun e=>hr.nf (e▸hk))),by simpa using h4,⟨ht.os,ht.tape,ht.output,ht.size,fun b hb he=>ht.block b hb (fun e=>he (.inr e))⟩,fun g hg=>.inl hg⟩
theorem GvP.gave{B bf bm:Nat}{vs:List Vb}{fs:List ByteArray}{sv sv':Value}{r r':Er}{w w1 w2:World}{v:ByteArray}(h:Fd B bf bm vs fs sv w)(hr:EqIs bf bm vs fs sv w r)(ht:Tz (fun k=>k=r.be) w w1)(h1:r'.be=r.be)(h2:r'.q=r.q∧r'.l0=r.l0∧r'.l1=r.l1)(h3:∀g off,(r'.a0=some ⟨g,off,none⟩→∃off0,r.a0=some ⟨g,off0,none⟩)∧(r'.a1=some ⟨g,off,none⟩→∃off0,r.a1=some ⟨g,off0,none⟩))(h4:EqIs bf bm vs fs sv w1 r')
  (hf1:Fd B bf bm vs fs sv w1) (hf2:Fd B bf bm vs (fs++[v]) sv' w2) (ht2:Tz (FP bf bm vs sv) w1 w2) (hn2:∀g,sv'.ownBlock=some g→sv.ownBlock=some g∨w1.heap.size≤g):GvP B bf bm vs fs sv r (some v) w w2:=by
 have hnn:∀g,sv'.ownBlock=some g→sv.ownBlock=some g∨w.heap.size≤g:=fun g hg=>(hn2 g hg).imp id (fun k=>Nat.le_trans ht.size k)
 refine⟨r',sv',h1,h2,h3,hf2,?_,?_,hnn⟩
 ·exact h4.keep ht2 (fun k hk _=>hk) (fun n hn=>List.mem_append.2 (.inl hn)) (fun x hx=>hx) (Zj9 hf1 hn2)
 ·exact Tz.trans ⟨ht.os,ht.tape,ht.output,ht.size,fun b hb he=>ht.block b hb (fun e=>he (.inr e))⟩ ht2 (fun b _ e=>.inl e)
theorem ZlV{B bf bm:Nat}{vs:List Vb}{fs:List ByteArray}{sv:Value}{w:World}(h:Fd B bf bm vs fs sv w)(hB:B≤w.heap.size)(r:Er)(hr:EqIs bf bm vs fs sv w r)(hl:fs.length≤1000000000)(hw:r.be<w.heap.size) :
  Calls Tryz.prog 319 #[.pointer (some ⟨bf,0,none⟩),Z6 r.l0,.pointer (some ⟨r.be,2,none⟩)] w fun e w'=>e=.returned (.bool (ZP r.q.1.lone r.q.2.vars fs).isSome)∧GvP B bf bm vs fs sv r (ZP r.q.1.lone r.q.2.vars fs) w w':=by
 have HH:=Lib.hid h;have HR:=Lib.hid hr;obtain⟨o,ho⟩:∃o,ZP r.q.1.lone r.q.2.vars fs=o:=⟨_,rfl⟩;rw[ho];have HO:=Lib.hid ho;have HL1:=Lib.hid hr.n0
 cases hl0:r.l0 with
 | none=>
  have HN:Hid (o=none):=by show o=_;rw[←HO.out,HL1.out,hl0];rfl
  clear ho h hr hl0;unfold Z6;go_enter Tryz.func319,Tryz.ntmps319;go_wp2;go_ret;refine⟨by rw[HN.out];rfl,?_⟩;rw[HN.out];exact GvP.still HH.out HR.out
 | some x=>
  have hx:x∈vs:=hr.m0 x hl0;have hc:=(h.each x hx).at (j:=1) rfl;have HX:=Lib.hid hx;have HLN:Hid (r.q.1.lone=some x.v):=by show _=_;rw[HL1.out,hl0];rfl
  unfold Z6 ZcE
  cases hq:inB fs x.v
  ·rw[hq]at hc;have HQ:=Lib.hid hq;have HK:=Lib.hid (ZhY h r.be r.a1 r.c1 r.x1 hr.row hr.nf hr.i1 hr.q1 (fun g off e=>(hr.g1 g off e).2.1))
   have HAL:Hid ((r.q.2.vars).all (inB fs)=r.x1.all (fun x=>inB fs x.v)):=by
    show _=_;obtain⟨ds,e,hds⟩:=hr.v1;rw[e,List.all_append,List.all_map];have:ds.all (inB fs)=true:=List.all_eq_true.2 (fun n hn=>ZD.2 (hds n hn));rw[this];rfl
   cases hq2:r.x1.all (fun x=>inB fs x.v)
   ·have HN:Hid (o=none):=by show o=_;rw[←HO.out,HLN.out];unfold ZP;simp only[HQ.out,HAL.out,hq2];rfl
    rw[hq2]at HK;clear ho h hr hl0 hq hq2 hx;go_enter Tryz.func319,Tryz.ntmps319;go_wp2_with fail;refine HK.out.mono ?_;rintro e w1 ⟨rfl,ht,hk⟩;have HT:=Lib.hid ht;have HKN:=Lib.hid hk;clear ht hk HK;go_wp2;go_ret;refine⟨by rw[HN.out];rfl,?_⟩;rw[HN.out];obtain⟨r',h1,h2,h3,h4⟩:=HR.out.knownR HT.out HKN.out;exact GvP.quiet HH.out HR.out HT.out h1 h2 h3 h4
   ·have HN:Hid (o=some x.v):=by show o=_;rw[←HO.out,HLN.out];unfold ZP;simp only[HQ.out,HAL.out,hq2];rfl
    rw[hq2]at HK;clear ho h hr hl0 hq hq2 hx;go_enter Tryz.func319,Tryz.ntmps319;go_wp2_with fail;refine HK.out.mono ?_;rintro e w1 ⟨rfl,ht,hk⟩;have HT:=Lib.hid ht;have HKN:=Lib.hid hk;have HF1:Hid (Fd B bf bm vs fs sv w1):=HH.out.keep (fun k hk=>ht.block k (HH.out.lt k hk) (fun e=>HR.out.nf (e▸hk)));have HFI:=Lib.hid (Zfz HF1.out (Nat.le_trans hB ht.size) x HX.out hl);clear ht hk HK hc;go_wp2_with fail
    refine HFI.out.mono ?_;rintro e w2 ⟨⟨u,rfl⟩,sv',hf2,ht2,hn2⟩;have HF2:=Lib.hid hf2;have HT2:=Lib.hid ht2;have HN2:=Lib.hid hn2;clear hf2 ht2 hn2 HFI;go_wp2;go_ret;refine⟨by rw[HN.out];rfl,?_⟩;rw[HN.out];obtain⟨r',h1,h2,h3,h4⟩:=HR.out.knownR HT.out HKN.out;have hf2:=HF2.out;have:Zby fs x.v=fs++[x.v]:=by unfold Zby;rw[HQ.out];rfl
    rw[this]at hf2;exact GvP.gave HH.out HR.out HT.out h1 h2 h3 h4 HF1.out hf2 HT2.out HN2.out
  ·rw[hq]at hc;have HN:Hid (o=none):=by show o=_;rw[←HO.out,HLN.out];unfold ZP;simp only[hq];rfl
   clear ho h hr hl0 hq hx;go_enter Tryz.func319,Tryz.ntmps319;go_wp2;go_ret;refine⟨by rw[HN.out];rfl,?_⟩;rw[HN.out];exact GvP.still HH.out HR.out
theorem ZlW{B bf bm:Nat}{vs:List Vb}{fs:List ByteArray}{sv:Value}{w:World}(h:Fd B bf bm vs fs sv w)(hB:B≤w.heap.size)(r:Er)(hr:EqIs bf bm vs fs sv w r)(hl:fs.length≤1000000000)(hw:r.be<w.heap.size) :
  Calls Tryz.prog 319 #[.pointer (some ⟨bf,0,none⟩),Z6 r.l1,.pointer (some ⟨r.be,0,none⟩)] w fun e w'=>e=.returned (.bool (ZP r.q.2.lone r.q.1.vars fs).isSome)∧GvP B bf bm vs fs sv r (ZP r.q.2.lone r.q.1.vars fs) w w':=by
 have HH:=Lib.hid h;have HR:=Lib.hid hr;obtain⟨o,ho⟩:∃o,ZP r.q.2.lone r.q.1.vars fs=o:=⟨_,rfl⟩;rw[ho];have HO:=Lib.hid ho;have HL1:=Lib.hid hr.n1
 cases hl0:r.l1 with
 | none=>
  have HN:Hid (o=none):=by show o=_;rw[←HO.out,HL1.out,hl0];rfl
  clear ho h hr hl0;unfold Z6;go_enter Tryz.func319,Tryz.ntmps319;go_wp2;go_ret;refine⟨by rw[HN.out];rfl,?_⟩;rw[HN.out];exact GvP.still HH.out HR.out
 | some x=>
  have hx:x∈vs:=hr.m1 x hl0;have hc:=(h.each x hx).at (j:=1) rfl;have HX:=Lib.hid hx;have HLN:Hid (r.q.2.lone=some x.v):=by show _=_;rw[HL1.out,hl0];rfl
  unfold Z6 ZcE
  cases hq:inB fs x.v
  ·rw[hq]at hc;have HQ:=Lib.hid hq;have HK:=Lib.hid (ZhX h r.be r.a0 r.c0 r.x0 hr.row hr.nf hr.i0 hr.q0 (fun g off e=>(hr.g0 g off e).2.1))
   have HAL:Hid ((r.q.1.vars).all (inB fs)=r.x0.all (fun x=>inB fs x.v)):=by
    show _=_;obtain⟨ds,e,hds⟩:=hr.v0;rw[e,List.all_append,List.all_map];have:ds.all (inB fs)=true:=List.all_eq_true.2 (fun n hn=>ZD.2 (hds n hn));rw[this];rfl
   cases hq2:r.x0.all (fun x=>inB fs x.v)
   ·have HN:Hid (o=none):=by show o=_;rw[←HO.out,HLN.out];unfold ZP;simp only[HQ.out,HAL.out,hq2];rfl
    rw[hq2]at HK;clear ho h hr hl0 hq hq2 hx;go_enter Tryz.func319,Tryz.ntmps319;go_wp2_with fail;refine HK.out.mono ?_;rintro e w1 ⟨rfl,ht,hk⟩;have HT:=Lib.hid ht;have HKN:=Lib.hid hk;clear ht hk HK;go_wp2;go_ret;refine⟨by rw[HN.out];rfl,?_⟩;rw[HN.out];obtain⟨r',h1,h2,h3,h4⟩:=HR.out.knownL HT.out HKN.out;exact GvP.quiet HH.out HR.out HT.out h1 h2 h3 h4
   ·have HN:Hid (o=some x.v):=by show o=_;rw[←HO.out,HLN.out];unfold ZP;simp only[HQ.out,HAL.out,hq2];rfl
    rw[hq2]at HK;clear ho h hr hl0 hq hq2 hx;go_enter Tryz.func319,Tryz.ntmps319;go_wp2_with fail;refine HK.out.mono ?_;rintro e w1 ⟨rfl,ht,hk⟩;have HT:=Lib.hid ht;have HKN:=Lib.hid hk;have HF1:Hid (Fd B bf bm vs fs sv w1):=HH.out.keep (fun k hk=>ht.block k (HH.out.lt k hk) (fun e=>HR.out.nf (e▸hk)));have HFI:=Lib.hid (Zfz HF1.out (Nat.le_trans hB ht.size) x HX.out hl);clear ht hk HK hc;go_wp2_with fail
    refine HFI.out.mono ?_;rintro e w2 ⟨⟨u,rfl⟩,sv',hf2,ht2,hn2⟩;have HF2:=Lib.hid hf2;have HT2:=Lib.hid ht2;have HN2:=Lib.hid hn2;clear hf2 ht2 hn2 HFI;go_wp2;go_ret;refine⟨by rw[HN.out];rfl,?_⟩;rw[HN.out];obtain⟨r',h1,h2,h3,h4⟩:=HR.out.knownL HT.out HKN.out;have hf2:=HF2.out;have:Zby fs x.v=fs++[x.v]:=by unfold Zby;rw[HQ.out];rfl
    rw[this]at hf2;exact GvP.gave HH.out HR.out HT.out h1 h2 h3 h4 HF1.out hf2 HT2.out HN2.out
  ·rw[hq]at hc;have HN:Hid (o=none):=by show o=_;rw[←HO.out,HLN.out];unfold ZP;simp only[hq];rfl
   clear ho h hr hl0 hq hx;go_enter Tryz.func319,Tryz.ntmps319;go_wp2;go_ret;refine⟨by rw[HN.out];rfl,?_⟩;rw[HN.out];exact GvP.still HH.out HR.out
end
section
open Go.RowKit
theorem Za(a:Act){i j:Nat}(v:Value)(h:i≠j):(a.put (some i) v).eval (.tmp j)=a.eval (.tmp j):=Act.eval_put (by intro d hd;cases hd;intro e;exact h (by injection e with e;exact e.symm))
theorem Zc(a:Act){i:Nat}(v:Value)(h:i<a.tmps.size):(a.put (some i) v).eval (.tmp i)=v:=by
 simp[Act.eval,Act.put,h]
theorem Zb(a:Act)(i:Nat)(v:Value):(a.put (some i) v).tmps.size=a.tmps.size:=by simp[Act.put]
theorem Zr(a:Act){i j:Nat}(v:Value)(h:i≠j):(a.put (some i) v).tmps[j]?=a.tmps[j]?:=by
 simp[Act.put,Array.getElem?_setIfInBounds_ne h]
theorem Zo(a:Act){i:Nat}(v:Value)(h:i<a.tmps.size):(a.put (some i) v).tmps[i]?=some v:=by
 simp[Act.put,Array.getElem?_setIfInBounds_self_of_lt h]
theorem Zs(ev:Operand→Value)(o:Oper){x:Operand}(hop:o.op=.move x)(w:World){v:Value}(hx:ev x=v):(execOp ev o).run Tryz.prog w=.ok (.value v) w:=by
 simp only[execOp,hop,hx];go_simp
theorem Zam(ev:Operand→Value)(o:Oper){x:Operand}(hop:o.op=.assign x)(w:World){v:Value}(hx:ev x=v):(execOp ev o).run Tryz.prog w=.ok (.value v) w:=by
 simp only[execOp,hop,hx];go_simp
theorem Zhw(ev:Operand→Value)(o:Oper){x y z:Operand}(hop:o.op=.pick x y z)(w:World){v:Value}(hx:ev x=.bool true)(hy:ev y=v):(execOp ev o).run Tryz.prog w=.ok (.value v) w:=by
 simp only[execOp,hop,hx,hy];go_simp
theorem Zcx(ev:Operand→Value)(o:Oper){x y z:Operand}(hop:o.op=.pick x y z)(w:World){v:Value}(hx:ev x=.bool false)(hy:ev z=v):(execOp ev o).run Tryz.prog w=.ok (.value v) w:=by
 simp only[execOp,hop,hx,hy];go_simp
theorem Zcy(ev:Operand→Value)(o:Oper){t:TypeId}{x:Operand}(hop:o.op=.unOp .not t x)(w:World){b:Bool}(hx:ev x=.bool b):(execOp ev o).run Tryz.prog w=.ok (.value (.bool (!b))) w:=by
 simp only[execOp,hop,hx];go_simp
theorem Zel(ev:Operand→Value)(o:Oper){p:BinOp}{t u:TypeId}{x y:Operand}(hop:o.op=.binOp p t x y u)(w:World){a b c:Value}(hx:ev x=a)(hy:ev y=b)(hge:(eqGuard p t x y a b).run Tryz.prog w=.ok () w)(hr:(binOp p t a b).run Tryz.prog w=.ok c w):(execOp ev o).run Tryz.prog w=.ok (.value c) w:=by
 simp only[execOp,hop,hx,hy];simp[hge,hr,Result.andThen]
theorem ZC{P:Program}{o:Oper}{a:Act}{w:World}(f:FuncId){fn:Func}(hf:P.funcs[f]?=some fn)(hn:(fn.name=="runtime.NumGoroutine")=false)(hb:fn.body.isNone=false)(xs:Array Operand)(tys:Array TypeId)(hop:o.op=Op.call {callee:=Callee.value (Operand.func f),args:=xs,argTypes:=tys})(vs:Array Value)(hx:xs.map a.eval=vs):(execOp a.eval o).run P w=.ok (.enter f vs) w:=by
 have hn':¬ fn.name="runtime.NumGoroutine":=by simpa using hn
 have hb':¬ fn.body=none:=by cases h:fn.body<;>simp[h]at hb⊢
 simp[execOp,hop,resolve,invoke,←hx,Act.eval,Result.andThen,Deferred.ofValue,callFunc,(show Sem.run P program w=.ok P w from rfl),hf,hn',hb',go_sem]
def Zf(ops:Array Oper)(i:Nat)(g:Option (Nat × Bool))(op:Op)(dst:Option Tmp):Prop:=ops[i]?.map (fun o=>(o.guard,o.op,o.dst))=some (g,op,dst)
theorem Zd{ops:Array Oper}{i:Nat}{g:Option (Nat × Bool)}{op:Op}{dst:Option Tmp}(h:Zf ops i g op dst):∃o,ops[i]?=some o∧o.guard=g∧o.op=op∧o.dst=dst:=by
 obtain⟨o,h1,h2⟩:=Option.map_eq_some_iff.1 h;simp only[Prod.mk.injEq]at h2;exact⟨o,h1,h2.1,h2.2.1,h2.2.2⟩
theorem Zv{ops:Array Oper}{o:Oper}{a:Act}(hg:o.guard=none):Region.wanted o (yielded ops a.tmps)=true:=by simp[Region.wanted,hg]
theorem Zz{ops:Array Oper}{g o:Oper}{a:Act}{j d:Nat}{b c:Bool}(h5:ops[j]?=some g)(d5:g.dst=some d)(hg:o.guard=some (j,b))(hv:a.tmps[d]?=some (.bool c)):Region.wanted o (yielded ops a.tmps)=(c==b):=by
 cases c<;>cases b<;>simp[Region.wanted,hg,yielded,h5,d5,hv]
theorem Zw{P:Program}{ops:Array Oper}{Q:Exit→Act→World→Prop}{K:Act→World→Prop}{i:Nat}{a:Act}{w:World}{o:Oper}{f:Nat}{vs:Array Value}(hi:ops[i]?=some o)(hw:Region.wanted o (yielded ops a.tmps)=true)(hrun:(execOp a.eval o).run P w=.ok (.enter f vs) w)
  (hc:Calls P f vs w fun e w'=>∃u,e=.returned u∧K (a.put o.dst u) w'):wpOp P ops Q i K a w:=by
 unfold wpOp;rw[hi];simp only[hw,if_true];refine Or.inl ?_;unfold Oper.wp;rw[hrun];refine Calls.mono hc ?_;rintro e w' ⟨u,rfl,hK⟩;exact hK
def LR(n:Nat)(l:List Nat):Array Bool:=l.foldl (fun a i=>a.setIfInBounds i true) (Array.replicate n false)
theorem Zh(n:Nat)(l:List Nat)(i:Nat):LR n (l++[i])=(LR n l).setIfInBounds i true:=by simp[LR]
theorem Zj{P:Program}{md:Region.Mode}{ops:Array Oper}{Q:Exit→Act→World→Prop}{S:World→Prop}(l:List Nat)(v:Value){n fuel i:Nat}{op:Op}{d:Option Tmp}{a:Act}{w:World}(q:Zf ops i none op d)(hs:Region.noSelect ops=true)
  (hf:Region.free md ops (LR n l) i=true∧(Region.ready md ops (LR n l)).contains i=true) (hQ:∀(d:Option Tmp) (v:Value) c a w,Q (.panic c) (a.put d v) w→Q (.panic c) a w)
  (f:∀(o:Oper) w',o.op=op→S w'→(execOp a.eval o).run P w'=.ok (.value v) w') (hS:S w) (h:wpAnyH P md ops Q S fuel (LR n (l++[i])) (a.put d v) w):wpAnyH P md ops Q S (fuel+1) (LR n l) a w:=by
 obtain⟨o,ho,hg,hop,hd⟩:=Zd q;refine wpAnyH_take ho hs hf.1 hf.2 (hQ _ _) (Or.inl ⟨Zv hg,fun w' hS=>f o w' hop hS⟩) hS ?_;rw[hd,←Zh];exact h
end
end Go.Proofs.YtjdnpgpbeppgjaaGreatDoor
