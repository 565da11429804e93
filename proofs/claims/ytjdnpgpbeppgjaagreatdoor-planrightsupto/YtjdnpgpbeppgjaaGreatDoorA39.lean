import Derived.Test.YtjdnpgpbeppgjaaGreatDoorA1
import Derived.ProofKit
import Derived.OpenShut
import Derived.ShutString
import Derived.Lib.SmallJoins
import Derived.Deep.CondSized
import Derived.Test.YtjdnpgpbeppgjaaGreatDoorA3
import Derived.SizedLaws
import Derived.Deep.Slices
import Derived.Test.YtjdnpgpbeppgjaaGreatDoorA5
import Derived.Test.YtjdnpgpbeppgjaaGreatDoorA7
import Derived.Test.YtjdnpgpbeppgjaaGreatDoorRows
import Derived.Test.YtjdnpgpbeppgjaaGreatDoorA18
import Derived.Test.YtjdnpgpbeppgjaaGreatDoorA4
import Derived.Lib.LaidTab
import Derived.Stop.LaidErr
import Derived.Test.YtjdnpgpbeppgjaaGreatDoorA19
set_option linter.unusedSimpArgs false
set_option linter.unusedVariables false
namespace Go.Proofs.YtjdnpgpbeppgjaaGreatDoor
section
open Go.ChangeShapes Go.WideShapes Go.ChangeAt Go.RowKit Go.Joins
set_option maxRecDepth 100000
theorem Zpx:Tryz.prog.cellsOf 98=3:=by kernel_rfl
theorem Zpy:Tryz.prog.cellsOf 96=1:=by kernel_rfl
theorem Zpz:Tryz.prog.cellsOf 2=1:=by kernel_rfl
theorem Zet:Tryz.prog.cellsOf 9=1:=by kernel_rfl
section
variable {H:Type} {enc:TypeId × Value→H} {w:World}
theorem ZjH{base:Nat}{spare:Nat→Bool}{held:Bool}{n:Nat}{cs:List Value}{y:DataW H × List MemPlace}(hl:cs.length=3)(h:DataW.trod enc Tryz.prog w base spare held n 98 cs=some y) :
  ∃u:V,cs=[.int .i8 u.k,.int .i64 u.n,.string u.s]∧u.wf:=by
 obtain⟨xs,k,hk,hxy,_,hxl,hf⟩:=DataW.trod_struct Tryz.underlying98 h
 match xs,hxl,cs,hl with
 | [y0,y1,y2],_,[v0,v1,v2],_=>
  have g0:=hf 0 _ rfl;have g1:=hf 1 _ rfl;have g2:=hf 2 _ rfl;simp[Zpy,Zpz,Zet]at g0 g1 g2;obtain⟨a,e0,_,w0⟩:=DataW.trod_int Tryz.underlying96 g0;obtain⟨b,e1,_,w1⟩:=DataW.trod_int Tryz.underlying2 g1;obtain⟨s,e2,_,hs⟩:=DataW.trod_string Tryz.underlying9 g2;simp at e0 e1 e2;subst e0 e1 e2;exact⟨⟨a,b,s⟩,rfl,⟨w0,w1,hs⟩⟩
theorem ZdZ{base:Nat}{spare:Nat→Bool}{held:Bool}{n:Nat}{cs:List Value}{y:DataW H × List MemPlace}(hl:cs.length=4)(h:DataW.trod enc Tryz.prog w base spare held n 100 cs=some y) :
  ∃t:T,cs=[.string t.v,.int .i8 t.a.k,.int .i64 t.a.n,.string t.a.s]∧t.wf:=by
 obtain⟨xs,k,hk,hxy,_,hxl,hf⟩:=DataW.trod_struct Tryz.underlying100 h
 match xs,hxl,cs,hl with
 | [y0,y1],_,[v0,v1,v2,v3],_=>
  have g0:=hf 0 _ rfl;have g1:=hf 1 _ rfl;simp[Zpx,Zet]at g0 g1;obtain⟨s,e0,_,hs⟩:=DataW.trod_string Tryz.underlying9 g0;obtain⟨u,e1,hu⟩:=ZjH rfl g1;simp at e0 e1;obtain⟨rfl,rfl,rfl⟩:=e1;subst e0;exact⟨⟨s,u⟩,rfl,⟨hs,hu⟩⟩
end
end
section
open Go.ChangeShapes Go.WideShapes Go.ChangeAt Go.RowKit Go.Joins Go.Deep
set_option maxRecDepth 100000
theorem Zot:Tryz.prog.cellsOf 103=6:=by kernel_rfl
theorem ZpC:Tryz.prog.cellsOf 95=1:=by kernel_rfl
theorem ZpD:Tryz.prog.cellsOf 101=1:=by kernel_rfl
theorem ZiB:Tryz.prog.cellsOf 100=4:=by kernel_rfl
theorem Zqn:Tryz.prog.bytesOf 103=80:=by kernel_rfl
theorem Zcj{H:Type}{P:Program}{e:TypeId}:∀{ds:List (DataW H)} {i:Nat} {d:DataW H},ds[i]?=some d→∀n∈d.weights P e,n∈DataW.weightsAll P e ds
 | d0::ds,0,d,hd,n,hn=>by
  simp only[List.getElem?_cons_zero,Option.some.injEq]at hd;subst hd;simp only[DataW.weightsAll,List.mem_append];exact .inl hn
 | d0::ds,i+1,d,hd,n,hn=>by
  simp only[List.getElem?_cons_succ]at hd;simp only[DataW.weightsAll,List.mem_append];exact .inr (Zcj hd n hn)
section
variable {H:Type} {enc:TypeId × Value→H} {w:World}
theorem Zgw{held:Bool}:∀(m:Nat) (cs:List Value) (x:DataW H × List MemPlace),cs.length=6→DataW.trod enc Tryz.prog w 0 (fun _=>true) held m 103 cs=some x→(∀n∈x.1.weights Tryz.prog 103,n≤reachBytes) →
  ∃(e:E) (a:Option Addr) (c:Nat),cs=[.int .i8 e.op,.string e.t.v,.int .i8 e.t.a.k,.int .i64 e.t.a.n,.string e.t.a.s,.slice a e.kids.length c]∧EIs w m e a c:=by
 intro m
 induction m using Nat.strongRecOn with
 | _ m ih=>
 intro cs x hl h hw;obtain⟨xs,k,rfl,rfl,_,hxl,hf⟩:=DataW.trod_struct Tryz.underlying103 h
 match xs,hxl,cs,hl with
 | [y0,y1,y2],_,[v0,v1,v2,v3,v4,v5],_=>
  have g0:=hf 0 _ rfl;have g1:=hf 1 _ rfl;have g2:=hf 2 _ rfl;simp[ZpC,ZiB,ZpD]at g0 g1 g2;obtain⟨o,e0,_,wo⟩:=DataW.trod_int Tryz.underlying95 g0;obtain⟨t,e1,ht⟩:=ZdZ rfl g1;simp at e0 e1;obtain⟨rfl,rfl,rfl,rfl⟩:=e1;subst e0
  have hop : -128≤o∧o≤127:=by
   simp only[Lit.wf,Bool.and_eq_true,decide_eq_true_eq]at wo;exact wo
  have hw2:∀n∈y2.1.weights Tryz.prog 101,n≤reachBytes:=fun n hn=>hw n (by
   simp only[DataW.weights,Tryz.underlying103];exact DataW.weights_mem_each (j:=2) (d:=y2.1) rfl rfl n hn)
  rcases DataW.trod_slice Tryz.underlying101 g2 with ⟨hcs,hx⟩ | ⟨a,len,cap,elems,rest,n,hk,hcs,hx,hb,hlc,hcm,hel,hea,hsp,_⟩
  ·simp at hcs;subst hcs;exact⟨.mk o t [],none,0,rfl,⟨hop,by show 0≤_;omega⟩,ht,Nat.le_refl _,by decide,fun h=>absurd (show(0:Nat)<0 from h) (by omega)⟩
  ·simp at hcs;subst hcs hk
   have hbound:len≤281474976710656:=by
    have:=hw2 ((elems.length+rest.length)*80) (by
     rw[hx];simp[DataW.weights,Tryz.underlying101,Zqn])
    have h3:reachBytes≤140737488355328:=by decide
    omega
   have each:∀i,i<len→∃q:E × Option Addr × Nat,w.cell? (a.add (i*6))=some (.int .i8 q.1.op)∧w.cell? (a.add (i*6+1))=some (.string q.1.t.v)∧w.cell? (a.add (i*6+2))=some (.int .i8 q.1.t.a.k)∧w.cell? (a.add (i*6+3))=some (.int .i64 q.1.t.a.n)∧w.cell? (a.add (i*6+4))=some (.string q.1.t.a.s)∧w.cell? (a.add (i*6+5))=some (.slice q.2.1 q.1.kids.length q.2.2)∧EIs w n q.1 q.2.1 q.2.2:=by
    intro i hi;have h1:=hea i hi;obtain⟨y,hy⟩:∃y,elems[i]?=some y:=⟨_,List.getElem?_eq_getElem (by omega)⟩;rw[hy]at h1;obtain⟨cs',hc1,hc2⟩:=Option.bind_eq_some_iff.1 h1;rw[Zot]at hc1;obtain⟨_,hlen,hcell⟩:=World.cells?_some hc1
    obtain⟨e,a',c',rfl,he⟩:=ih n (by omega) cs' y hlen hc2 (fun z hz=>hw2 z (by
     rw[hx];simp only[DataW.weights,Tryz.underlying101,List.mem_cons,List.mem_append];exact .inr (.inl (Zcj (i:=i) (d:=y.1) (by rw[List.getElem?_map,hy];rfl) z hz))))
    have e0:=hcell 0 (by simp);have e1:=hcell 1 (by simp);have e2:=hcell 2 (by simp);have e3:=hcell 3 (by simp);have e4:=hcell 4 (by simp);have e5:=hcell 5 (by simp);rw[add_add]at e0 e1 e2 e3 e4 e5;exact⟨(e,a',c'),by simpa using e0,by simpa using e1,by simpa using e2,by simpa using e3,by simpa using e4,by simpa using e5,he⟩
   haveI:Inhabited E:=⟨E0⟩
   obtain⟨q,hq⟩:=choose_lt each;have hul:((List.range len).map fun i=>(q i).1).length=len:=by simp
   refine⟨.mk o t ((List.range len).map fun i=>(q i).1),some a,cap,?_,⟨hop,?_⟩,ht,?_,hcm,?_⟩
   ·simp only[ZhD,ZmX,ZbT,hul]
   ·simp only[ZbT,hul];exact hbound
   ·simp only[ZbT,hul];exact hlc
   ·intro h0;simp only[ZbT,hul]at h0⊢;obtain⟨b,off,spot⟩:=a;have hspot:spot=none:=by simpa[Addr.add]using World.cell?_spot (hq 0 (by omega)).1
    subst hspot;have plain:∀k,(⟨b,off,none⟩:Addr).add k=⟨b,off+k,none⟩:=fun k=>add_plain b off k
    refine⟨b,off,rfl,?_,fun i hi=>?_⟩
    ·have:=(hq 0 (by omega)).1;rw[plain]at this;exact World.block_lt_of_cell? _ _ this
    ·have hat:atE ((List.range len).map fun i=>(q i).1) i=(q i).1:=by rw[ZbO (by rw[hul];exact hi)];simp
     rw[hat];obtain⟨z0,z1,z2,z3,z4,z5,z6⟩:=hq i hi;rw[plain]at z0 z1 z2 z3 z4 z5;exact⟨(q i).2.1,(q i).2.2,⟨z0,z1,z2,z3,z4,z5⟩,z6.more⟩
end
end
section
open Go.ChangeShapes Go.WideShapes Go.ChangeAt Go.RowKit Go.Joins Go.Deep
set_option maxRecDepth 100000
theorem ZpW:Tryz.prog.cellsOf 93=2:=by kernel_rfl
theorem ZoE:Tryz.prog.cellsOf 91=1:=by kernel_rfl
theorem ZoF:Tryz.prog.cellsOf 90=1:=by kernel_rfl
theorem ZoG:Tryz.prog.cellsOf 94=1:=by kernel_rfl
theorem ZpX:Tryz.prog.bytesOf 100=48:=by kernel_rfl
theorem ZhU{w:World}{g off n c:Nat}{ts:List T}(hn:ts.length=n)(hc1:n≤c)(hc2:c≤maxLen)(hg:g<w.heap.size)(h:∀i,i<ts.length→TAt w g (off+i*4) (atT ts i))(hwf:∀t∈ts,t.wf):Lt w (.slice (some ⟨g,off,none⟩) n c) ts:=by
 subst hn;refine⟨⟨Nat.le_trans hc1 hc2,_,c,rfl,hc1,hc2,fun _=>⟨g,off,rfl,hg,fun i hi=>?_⟩⟩,hwf⟩;have hl:(ts.flatMap T.cells).length=ts.length*4:=Zbt T.cells 4 (fun _=>rfl) ts;have hi4:i/4<ts.length:=by omega
 have hx:=ZaQ T.cells 4 (fun _=>rfl) T0 ts (i/4) (i % 4) hi4 (by omega);rw[show i/4*4+i % 4=i by omega]at hx;have ht:=h (i/4) hi4
 have key:w.cell? ⟨g,off+i,none⟩=(T.cells (atT ts (i/4)))[i % 4]?:=by
  obtain h0 | h0 | h0 | h0:i % 4=0∨i % 4=1∨i % 4=2∨i % 4=3:=by omega
  ·have e:=ht.c0;rw[show off+i/4*4=off+i by omega]at e;rw[e,h0];rfl
  ·have e:=ht.c1;rw[show off+i/4*4+1=off+i by omega]at e;rw[e,h0];rfl
  ·have e:=ht.c2;rw[show off+i/4*4+2=off+i by omega]at e;rw[e,h0];rfl
  ·have e:=ht.c3;rw[show off+i/4*4+3=off+i by omega]at e;rw[e,h0];rfl
 rw[key];have e2:(ts.flatMap T.cells)[i]?=(T.cells (atT ts (i/4)))[i % 4]?:=hx;rw[←e2,List.getElem?_eq_getElem hi]
section
variable {H:Type} {enc:TypeId × Value→H} {w:World}
theorem Zj4{held:Bool}{m:Nat}{v:Value}{x:DataW H × List MemPlace}(h:DataW.trod enc Tryz.prog w 0 (fun _=>true) held m 91 [v]=some x)(hw:∀n∈x.1.weights Tryz.prog 91,n≤reachBytes) :
  ∃(ts:List T) (a:Option Addr) (c:Nat),v=.slice a ts.length c∧ts.length≤281474976710656∧Lt w (.slice a ts.length c) ts:=by
 rcases DataW.trod_slice Tryz.underlying91 h with ⟨hcs,hx⟩ | ⟨a,len,cap,elems,rest,n,hk,hcs,hx,hb,hlc,hcm,hel,hea,hsp,_⟩
 ·simp at hcs;subst hcs;exact⟨[],none,0,rfl,by decide,⟨⟨by show 0≤_;omega,none,0,rfl,Nat.le_refl _,by decide,fun h=>absurd (show(0:Nat)<0 from h) (by omega)⟩,fun t ht=>by cases ht⟩⟩
 ·simp at hcs;subst hcs hk
  have hbound:len≤281474976710656:=by
   have:=hw ((elems.length+rest.length)*48) (by
    rw[hx];simp[DataW.weights,Tryz.underlying91,ZpX])
   have h3:reachBytes≤140737488355328:=by decide
   omega
  have each:∀i,i<len→∃t:T,w.cell? (a.add (i*4))=some (.string t.v)∧w.cell? (a.add (i*4+1))=some (.int .i8 t.a.k)∧w.cell? (a.add (i*4+2))=some (.int .i64 t.a.n)∧w.cell? (a.add (i*4+3))=some (.string t.a.s)∧t.wf:=by
   intro i hi;have h1:=hea i hi;obtain⟨y,hy⟩:∃y,elems[i]?=some y:=⟨_,List.getElem?_eq_getElem (by omega)⟩;rw[hy]at h1;obtain⟨cs',hc1,hc2⟩:=Option.bind_eq_some_iff.1 h1;rw[ZiB]at hc1;obtain⟨_,hlen,hcell⟩:=World.cells?_some hc1;obtain⟨t,rfl,ht⟩:=ZdZ hlen hc2;have e0:=hcell 0 (by simp);have e1:=hcell 1 (by simp);have e2:=hcell 2 (by simp);have e3:=hcell 3 (by simp);rw[add_add]at e0 e1 e2 e3
   exact⟨t,by simpa using e0,by simpa using e1,by simpa using e2,by simpa using e3,ht⟩
  haveI:Inhabited T:=⟨T0⟩
  obtain⟨q,hq⟩:=choose_lt each;have hul:((List.range len).map q).length=len:=by simp
  refine⟨(List.range len).map q,some a,cap,by rw[hul],by rw[hul];exact hbound,?_⟩
  by_cases h0:len=0
  ·subst h0;exact⟨⟨by show 0≤_;omega,some a,cap,rfl,by simp,hcm,fun h=>absurd (show(0:Nat)<0 from h) (by omega)⟩,fun t ht=>by simp at ht⟩
  ·obtain⟨b,off,spot⟩:=a;have hspot:spot=none:=by simpa[Addr.add]using World.cell?_spot (hq 0 (by omega)).1
   subst hspot;have plain:∀k,(⟨b,off,none⟩:Addr).add k=⟨b,off+k,none⟩:=fun k=>add_plain b off k
   refine ZhU rfl (by rw[hul];exact hlc) hcm ?_ (fun i hi=>?_) (fun t ht=>?_)
   ·have:=(hq 0 (by omega)).1;rw[plain]at this;exact World.block_lt_of_cell? _ _ this
   ·rw[hul]at hi
    have hat:atT ((List.range len).map q) i=q i:=by
     unfold atT;simp[List.getD,hi]
    rw[hat];obtain⟨z0,z1,z2,z3,z4⟩:=hq i hi;rw[plain]at z0 z1 z2 z3;exact⟨z0,z1,z2,z3⟩
   ·obtain⟨i,hi,rfl⟩:=List.mem_map.1 ht;exact(hq i (List.mem_range.1 hi)).2.2.2.2
theorem Zj5{held:Bool}{m:Nat}{cs:List Value}{x:DataW H × List MemPlace}(hl:cs.length=2)(h:DataW.trod enc Tryz.prog w 0 (fun _=>true) held m 93 cs=some x)(hw:∀n∈x.1.weights Tryz.prog 93,n≤reachBytes) :
  ∃(pr:ByteArray) (ts:List T) (a:Option Addr) (c:Nat),cs=[.string pr,.slice a ts.length c]∧pr.size≤maxLen∧ts.length≤281474976710656∧Lt w (.slice a ts.length c) ts:=by
 obtain⟨xs,k,rfl,rfl,_,hxl,hf⟩:=DataW.trod_struct Tryz.underlying93 h
 match xs,hxl,cs,hl with
 | [y0,y1],_,[v0,v1],_=>
  have g0:=hf 0 _ rfl;have g1:=hf 1 _ rfl;simp[Zet,ZoE]at g0 g1;obtain⟨s,e0,_,hs⟩:=DataW.trod_string Tryz.underlying9 g0;simp at e0;subst e0
  obtain⟨ts,a,c,rfl,h1,h2⟩:=Zj4 g1 (fun n hn=>hw n (by
   simp only[DataW.weights,Tryz.underlying93];exact DataW.weights_mem_each (j:=1) (d:=y1.1) rfl rfl n hn))
  exact⟨s,ts,a,c,rfl,hs,h1,h2⟩
end
end
section
open Go.ChangeShapes Go.WideShapes Go.ChangeAt Go.RowKit Go.Joins Go.Deep
set_option maxRecDepth 100000
theorem Zpk:Tryz.prog.cellsOf 119=5:=by kernel_rfl
theorem Zpl:Tryz.prog.cellsOf 105=16:=by kernel_rfl
theorem Zpm:Tryz.prog.cellsOf 25=3:=by kernel_rfl
theorem Zpn:Tryz.prog.cellsOf 117=1:=by kernel_rfl
theorem Zpo:Tryz.prog.cellsOf 22=1:=by kernel_rfl
theorem Zpp:Tryz.prog.cellsOf 23=1:=by kernel_rfl
theorem Zpq:Tryz.prog.bytesOf 119=56:=by kernel_rfl
theorem Zpr:Tryz.prog.bytesOf 105=216:=by kernel_rfl
theorem LIs.more{w:World}{d:Nat}{x:Lit4}{p:LP}(h:LIs w d x p):LIs w (d+1) x p:=⟨h.kb,h.rb,h.pb,h.ln,h.ts,h.l.more,h.r.more⟩
theorem Zbb{α:Type}{f:α→List Value}{k:Nat}(hk0:0<k)(hk:∀x,(f x).length=k)(z:α){w:World}{g off c:Nat}{l:List α}(hc1:l.length≤c)(hc2:c≤maxLen)(hg:g<w.heap.size)(h:∀i,i<l.length→w.rangeAt g (off+i*k) (f (l.getD i z))) :
  Ls w (.slice (some ⟨g,off,none⟩) l.length c) l.length (l.flatMap f):=by
 refine⟨Nat.le_trans hc1 hc2,_,c,rfl,hc1,hc2,fun _=>⟨g,off,rfl,hg,fun i hi=>?_⟩⟩;have hl:=Zbt f k hk l;have hi2:i/k<l.length:=(Nat.div_lt_iff_lt_mul hk0).2 (by rw[←hl];exact hi);have hm:i % k<k:=Nat.mod_lt _ hk0;have hx:=ZaQ f k hk z l (i/k) (i % k) hi2 hm;have he:i/k*k+i % k=i:=by rw[Nat.mul_comm];exact Nat.div_add_mod i k
 rw[he,List.getElem?_eq_getElem hi]at hx;have:=h (i/k) hi2 (i % k) _ hx.symm;rw[Nat.add_assoc,he]at this;exact this
section
variable {H:Type} {enc:TypeId × Value→H} {w:World}
theorem ZmR{held:Bool}{m:Nat}{cs:List Value}{x:DataW H × List MemPlace}(hl:cs.length=5)(h:DataW.trod enc Tryz.prog w 0 (fun _=>true) held m 119 cs=some x) :
  ∃y:A5,cs=y.cells∧y.wf:=by
 obtain⟨xs,k,rfl,rfl,_,hxl,hf⟩:=DataW.trod_struct Tryz.underlying119 h
 match xs,hxl,cs,hl with
 | [y0,y1],_,[v0,v1,v2,v3,v4],_=>
  have g0:=hf 0 _ rfl;have g1:=hf 1 _ rfl;simp[Zpn,ZiB]at g0 g1;obtain⟨o,e0,_,wo⟩:=DataW.trod_int Tryz.underlying117 g0;obtain⟨t,e1,ht⟩:=ZdZ rfl g1;simp at e0 e1;obtain⟨rfl,rfl,rfl,rfl⟩:=e1;subst e0
  have hop : -128≤o∧o≤127:=by
   simp only[Lit.wf,Bool.and_eq_true,decide_eq_true_eq]at wo;exact wo
  exact⟨⟨o,t⟩,rfl,⟨hop,ht⟩⟩
theorem ZkM{held:Bool}{m:Nat}{cs:List Value}{x:DataW H × List MemPlace}(hl:cs.length=16)(h:DataW.trod enc Tryz.prog w 0 (fun _=>true) held m 105 cs=some x)(hw:∀n∈x.1.weights Tryz.prog 105,n≤reachBytes) :
  ∃(y:Lit4) (p:LP),Value.agg cs.toArray=y.val p∧LIs w m y p:=by
 obtain⟨xs,k,rfl,rfl,_,hxl,hf⟩:=DataW.trod_struct Tryz.underlying105 h
 match xs,hxl,cs,hl with
 | [y0,y1,y2,y3,y4],_,[v0,v1,v2,v3,v4,v5,v6,v7,v8,v9,v10,v11,v12,v13,v14,v15],_=>
  have g0:=hf 0 _ rfl;have g1:=hf 1 _ rfl;have g2:=hf 2 _ rfl;have g3:=hf 3 _ rfl;have g4:=hf 4 _ rfl;simp[ZoF,ZpW,ZoG,Zot]at g0 g1 g2 g3 g4;obtain⟨kk,e0,_,wk⟩:=DataW.trod_int Tryz.underlying90 g0;obtain⟨rr,e2,_,wr⟩:=DataW.trod_int Tryz.underlying94 g2
  obtain⟨pr,ts,a,c,e1,h1,h2,h3⟩:=Zj5 rfl g1 (fun n hn=>hw n (by
   simp only[DataW.weights,Tryz.underlying105];exact DataW.weights_mem_each (j:=1) (d:=y1.1) rfl rfl n hn))
  obtain⟨el,al,cl,e3,hl3⟩:=Zgw k _ _ rfl g3 (fun n hn=>hw n (by
   simp only[DataW.weights,Tryz.underlying105];exact DataW.weights_mem_each (j:=3) (d:=y3.1) rfl rfl n hn))
  obtain⟨er,ar,cr,e4,hl4⟩:=Zgw k _ _ rfl g4 (fun n hn=>hw n (by
   simp only[DataW.weights,Tryz.underlying105];exact DataW.weights_mem_each (j:=4) (d:=y4.1) rfl rfl n hn))
  simp at e0 e1 e2 e3 e4;obtain⟨rfl,rfl⟩:=e1;obtain⟨rfl,rfl,rfl,rfl,rfl,rfl⟩:=e3;obtain⟨rfl,rfl,rfl,rfl,rfl,rfl⟩:=e4;subst e0 e2
  have bk : -128≤kk∧kk≤127:=by
   simp only[Lit.wf,Bool.and_eq_true,decide_eq_true_eq]at wk;exact wk
  have br : -128≤rr∧rr≤127:=by
   simp only[Lit.wf,Bool.and_eq_true,decide_eq_true_eq]at wr;exact wr
  exact⟨⟨kk,pr,ts,rr,el,er⟩,⟨a,c,al,cl,ar,cr⟩,rfl,⟨bk,br,h1,h2,h3,hl3.more,hl4.more⟩⟩
theorem Zps{held:Bool}{m:Nat}{v:Value}{x:DataW H × List MemPlace}(h:DataW.trod enc Tryz.prog w 0 (fun _=>true) held m 22 [v]=some x)(hw:∀n∈x.1.weights Tryz.prog 22,n≤reachBytes) :
  ∃(l:List A5) (a:Option Addr) (c:Nat),v=.slice a l.length c∧l.length≤281474976710656∧Ls w (.slice a l.length c) l.length (l.flatMap A5.cells)∧∀y∈l,y.wf:=by
 rcases DataW.trod_slice Tryz.underlying22 h with ⟨hcs,hx⟩ | ⟨a,len,cap,elems,rest,n,hk,hcs,hx,hb,hlc,hcm,hel,hea,hsp,_⟩
 ·simp at hcs;subst hcs;exact⟨[],none,0,rfl,by decide,⟨by show 0≤_;omega,none,0,rfl,Nat.le_refl _,by decide,fun h=>absurd (show(0:Nat)<0 from h) (by omega)⟩,fun t ht=>by cases ht⟩
 ·simp at hcs;subst hcs hk
  have hw2:∀(i:Nat) (y:DataW H × List MemPlace),elems[i]?=some y→∀z∈y.1.weights Tryz.prog 119,z≤reachBytes:=fun i y hy z hz=>hw z (by
   rw[hx];simp only[DataW.weights,Tryz.underlying22,List.mem_cons,List.mem_append];exact .inr (.inl (Zcj (i:=i) (d:=y.1) (by rw[List.getElem?_map,hy];rfl) z hz)))
  have hbound:len≤281474976710656:=by
   have:=hw ((elems.length+rest.length)*56) (by
    rw[hx];simp[DataW.weights,Tryz.underlying22,Zpq])
   have h3:reachBytes≤140737488355328:=by decide
   omega
  have each:∀i,i<len→∃y:A5,(∀(j:Nat) (u:Value),y.cells[j]?=some u→w.cell? (a.add (i*5+j))=some u)∧y.wf:=by
   intro i hi;have h1:=hea i hi;obtain⟨y,hy⟩:∃y,elems[i]?=some y:=⟨_,List.getElem?_eq_getElem (by omega)⟩;rw[hy]at h1;obtain⟨cs',hc1,hc2⟩:=Option.bind_eq_some_iff.1 h1;rw[Zpk]at hc1;obtain⟨_,hlen,hcell⟩:=World.cells?_some hc1;obtain⟨z,rfl,hz⟩:=ZmR hlen hc2;refine⟨z,fun j u hu=>?_,hz⟩;have hj:j<z.cells.length:=(List.getElem?_eq_some_iff.1 hu).1;have e:=hcell j hj;rw[add_add]at e;rw[e];exact hu
  haveI:Inhabited A5:=⟨A50⟩
  obtain⟨q,hq⟩:=choose_lt each;have hul:((List.range len).map q).length=len:=by simp
  refine⟨(List.range len).map q,some a,cap,by rw[hul],by rw[hul];exact hbound,?_,fun y hy=>?_⟩
  ·by_cases h0:len=0
   ·subst h0;exact⟨by show 0≤_;omega,some a,cap,rfl,by simp,hcm,fun h=>absurd (show(0:Nat)<0 from h) (by omega)⟩
   ·obtain⟨b,off,spot⟩:=a;have hspot:spot=none:=by simpa[Addr.add]using World.cell?_spot ((hq 0 (by omega)).1 0 _ rfl)
    subst hspot;have plain:∀k,(⟨b,off,none⟩:Addr).add k=⟨b,off+k,none⟩:=fun k=>add_plain b off k
    refine Zbb (f:=A5.cells) (k:=5) (by omega) (fun _=>rfl) A50 (by rw[hul];exact hlc) hcm ?_ (fun i hi=>?_)
    ·have:=(hq 0 (by omega)).1 0 _ rfl;rw[plain]at this;exact World.block_lt_of_cell? _ _ this
    ·rw[hul]at hi;have hat:((List.range len).map q).getD i A50=q i:=by simp[List.getD,hi]
     rw[hat];intro j u hu;have:=(hq i hi).1 j u hu;rw[plain,←Nat.add_assoc]at this;exact this
  ·obtain⟨i,hi,rfl⟩:=List.mem_map.1 hy;exact(hq i (List.mem_range.1 hi)).2
theorem Zpt{held:Bool}{m:Nat}{v:Value}{x:DataW H × List MemPlace}(h:DataW.trod enc Tryz.prog w 0 (fun _=>true) held m 23 [v]=some x)(hw:∀n∈x.1.weights Tryz.prog 23,n≤reachBytes) :
  ∃(l:List XL) (a:Option Addr) (c:Nat),v=.slice a l.length c∧l.length≤281474976710656∧Ls w (.slice a l.length c) l.length (l.flatMap XL.cells)∧∀y∈l,LIs w m y.x y.p:=by
 rcases DataW.trod_slice Tryz.underlying23 h with ⟨hcs,hx⟩ | ⟨a,len,cap,elems,rest,n,hk,hcs,hx,hb,hlc,hcm,hel,hea,hsp,_⟩
 ·simp at hcs;subst hcs;exact⟨[],none,0,rfl,by decide,⟨by show 0≤_;omega,none,0,rfl,Nat.le_refl _,by decide,fun h=>absurd (show(0:Nat)<0 from h) (by omega)⟩,fun t ht=>by cases ht⟩
 ·simp at hcs;subst hcs hk
  have hw2:∀(i:Nat) (y:DataW H × List MemPlace),elems[i]?=some y→∀z∈y.1.weights Tryz.prog 105,z≤reachBytes:=fun i y hy z hz=>hw z (by
   rw[hx];simp only[DataW.weights,Tryz.underlying23,List.mem_cons,List.mem_append];exact .inr (.inl (Zcj (i:=i) (d:=y.1) (by rw[List.getElem?_map,hy];rfl) z hz)))
  have hbound:len≤281474976710656:=by
   have:=hw ((elems.length+rest.length)*216) (by
    rw[hx];simp[DataW.weights,Tryz.underlying23,Zpr])
   have h3:reachBytes≤140737488355328:=by decide
   omega
  have each:∀i,i<len→∃y:XL,(∀(j:Nat) (u:Value),y.cells[j]?=some u→w.cell? (a.add (i*16+j))=some u)∧LIs w n y.x y.p:=by
   intro i hi;have h1:=hea i hi;obtain⟨y,hy⟩:∃y,elems[i]?=some y:=⟨_,List.getElem?_eq_getElem (by omega)⟩;rw[hy]at h1;obtain⟨cs',hc1,hc2⟩:=Option.bind_eq_some_iff.1 h1;rw[Zpl]at hc1;obtain⟨_,hlen,hcell⟩:=World.cells?_some hc1;obtain⟨z1,z2,hv,hz⟩:=ZkM hlen hc2 (hw2 i y hy)
   have hcs:cs'=XL.cells ⟨z1,z2⟩:=by
    have h5:cs'.toArray=(XL.cells ⟨z1,z2⟩).toArray:=by
     have:=hv;unfold Lit4.val at this;exact Value.agg.inj this
    simpa using congrArg Array.toList h5
   subst hcs;refine⟨(XL.mk z1 z2),fun j u hu=>?_,hz⟩;have hj:j<(XL.mk z1 z2).cells.length:=(List.getElem?_eq_some_iff.1 hu).1;have e:=hcell j hj;rw[add_add]at e;rw[e];exact hu
  haveI:Inhabited XL:=⟨XL0⟩
  obtain⟨q,hq⟩:=choose_lt each;have hul:((List.range len).map q).length=len:=by simp
  refine⟨(List.range len).map q,some a,cap,by rw[hul],by rw[hul];exact hbound,?_,fun y hy=>?_⟩
  ·by_cases h0:len=0
   ·subst h0;exact⟨by show 0≤_;omega,some a,cap,rfl,by simp,hcm,fun h=>absurd (show(0:Nat)<0 from h) (by omega)⟩
   ·obtain⟨b,off,spot⟩:=a;have hspot:spot=none:=by simpa[Addr.add]using World.cell?_spot ((hq 0 (by omega)).1 0 _ rfl)
    subst hspot;have plain:∀k,(⟨b,off,none⟩:Addr).add k=⟨b,off+k,none⟩:=fun k=>add_plain b off k
    refine Zbb (f:=XL.cells) (k:=16) (by omega) (fun _=>rfl) XL0 (by rw[hul];exact hlc) hcm ?_ (fun i hi=>?_)
    ·have:=(hq 0 (by omega)).1 0 _ rfl;rw[plain]at this;exact World.block_lt_of_cell? _ _ this
    ·rw[hul]at hi;have hat:((List.range len).map q).getD i XL0=q i:=by simp[List.getD,hi]
     rw[hat];intro j u hu;have:=(hq i hi).1 j u hu;rw[plain,←Nat.add_assoc]at this;exact this
  ·obtain⟨i,hi,rfl⟩:=List.mem_map.1 hy;exact LIs.more (hq i (List.mem_range.1 hi)).2
end
end
section
open Go.ChangeShapes Go.WideShapes Go.ChangeAt Go.RowKit Go.Joins Go.Deep
set_option maxRecDepth 100000
theorem ZoO:Tryz.prog.cellsOf 84=4:=by kernel_rfl
theorem ZoP:Tryz.prog.cellsOf 26=1:=by kernel_rfl
theorem Znt:Tryz.prog.cellsOf 30=1:=by kernel_rfl
theorem ZoQ:Tryz.prog.cellsOf 32=4:=by kernel_rfl
theorem ZoR:Tryz.prog.cellsOf 80=1:=by kernel_rfl
theorem ZoS:Tryz.prog.cellsOf 82=1:=by kernel_rfl
theorem ZoT:Tryz.prog.cellsOf 3=1:=by kernel_rfl
theorem Znu{H:Type}(d:DataW H):1≤Rows.uptoBulk d:=by
 cases d with
 | lit l=>cases l<;>simp[Rows.uptoBulk]
 | _=>simp[Rows.uptoBulk]
theorem ZfK{H:Type}:∀l:List (DataW H),l.length≤Rows.uptoBulkAll l
 | []=>by simp[Rows.uptoBulkAll]
 | x::r=>by
  have h1:=Znu x;have h2:=ZfK r;simp only[Rows.uptoBulkAll,List.length_cons];omega
section
variable {H:Type} {enc:TypeId × Value→H} {w:World}
theorem Zkj{ty e:TypeId}(hu:Tryz.prog.underlying ty=some (.slice e)){m n:Nat}{a:Option Addr}{c:Nat}{x:DataW H × List MemPlace}(hm:DataW.trod enc Tryz.prog w 0 (fun _=>true) true m ty [.slice a n c]=some x):n≤Rows.uptoBulk x.1:=by
 rcases DataW.trod_slice hu hm with ⟨hcs,hx⟩ | ⟨a',len,cap,elems,rest,k,hk,hcs,hx,hb,hlc,hcm,hel,hea,hsp,_⟩
 ·simp at hcs;obtain⟨_,h0,_⟩:=hcs;have:n=0:=by first | exact h0 | (rw[h0];rfl)
  omega
 ·simp at hcs;have h1:n=len:=hcs.2.1;have h2:=ZfK (elems.map (fun y=>y.1));rw[List.length_map]at h2;rw[hx];simp only[Rows.uptoBulk];omega
theorem Zl4{α:Type}{ty e:TypeId}(hu:Tryz.prog.underlying ty=some (.slice e)){f:α→List Value}{k:Nat}(hk0:0<k)(hk:∀x,(f x).length=k)(z:α)(hce:Tryz.prog.cellsOf e=k)(Pr:α→Prop)
  (one:∀(held:Bool) (m:Nat) (cs:List Value) (x:DataW H × List MemPlace),cs.length=k→DataW.trod enc Tryz.prog w 0 (fun _=>true) held m e cs=some x→∃y:α,cs=f y∧Pr y)
  {held:Bool} {m:Nat} {v:Value} {x:DataW H × List MemPlace} (h:DataW.trod enc Tryz.prog w 0 (fun _=>true) held m ty [v]=some x) :
  ∃(l:List α) (a:Option Addr) (c:Nat),v=.slice a l.length c∧Ls w (.slice a l.length c) l.length (l.flatMap f)∧∀y∈l,Pr y:=by
 rcases DataW.trod_slice hu h with ⟨hcs,hx⟩ | ⟨a,len,cap,elems,rest,n,hk',hcs,hx,hb,hlc,hcm,hel,hea,hsp,_⟩
 ·simp at hcs;subst hcs;exact⟨[],none,0,rfl,⟨by show 0≤_;omega,none,0,rfl,Nat.le_refl _,by decide,fun h=>absurd (show(0:Nat)<0 from h) (by omega)⟩,fun t ht=>by cases ht⟩
 ·simp at hcs;subst hcs hk'
  have each:∀i,i<len→∃y:α,(∀(j:Nat) (u:Value),(f y)[j]?=some u→w.cell? (a.add (i*k+j))=some u)∧Pr y:=by
   intro i hi;have h1:=hea i hi;obtain⟨y,hy⟩:∃y,elems[i]?=some y:=⟨_,List.getElem?_eq_getElem (by omega)⟩;rw[hy]at h1;obtain⟨cs',hc1,hc2⟩:=Option.bind_eq_some_iff.1 h1;rw[hce]at hc1;obtain⟨_,hlen,hcell⟩:=World.cells?_some hc1;obtain⟨z,rfl,hz⟩:=one _ _ _ _ hlen hc2;refine⟨z,fun j u hu=>?_,hz⟩
   have hj:j<k:=by
    have:=(List.getElem?_eq_some_iff.1 hu).1;rw[hk]at this;exact this
   have e:=hcell j hj;rw[add_add]at e;rw[e];exact hu
  haveI:Inhabited α:=⟨z⟩
  obtain⟨q,hq⟩:=choose_lt each;have hul:((List.range len).map q).length=len:=by simp
  refine⟨(List.range len).map q,some a,cap,by rw[hul],?_,fun y hy=>?_⟩
  ·by_cases h0:len=0
   ·subst h0;exact⟨by show 0≤_;omega,some a,cap,rfl,by simp,hcm,fun h=>absurd (show(0:Nat)<0 from h) (by omega)⟩
   ·obtain⟨b,off,spot⟩:=a;have hz0:∃u,(f (q 0))[0]?=some u:=⟨_,List.getElem?_eq_getElem (by rw[hk];exact hk0)⟩;obtain⟨u0,hu0⟩:=hz0;have hspot:spot=none:=by simpa[Addr.add]using World.cell?_spot ((hq 0 (by omega)).1 0 _ hu0)
    subst hspot;have plain:∀k,(⟨b,off,none⟩:Addr).add k=⟨b,off+k,none⟩:=fun k=>add_plain b off k
    refine Zbb (f:=f) (k:=k) hk0 hk z (by rw[hul];exact hlc) hcm ?_ (fun i hi=>?_)
    ·have:=(hq 0 (by omega)).1 0 _ hu0;rw[plain]at this;exact World.block_lt_of_cell? _ _ this
    ·rw[hul]at hi;have hat:((List.range len).map q).getD i z=q i:=by simp[List.getD,hi]
     rw[hat];intro j u hu;have:=(hq i hi).1 j u hu;rw[plain,←Nat.add_assoc]at this;exact this
  ·obtain⟨i,hi,rfl⟩:=List.mem_map.1 hy;exact(hq i (List.mem_range.1 hi)).2
theorem ZoU(held:Bool)(m:Nat)(cs:List Value)(x:DataW H × List MemPlace)(hl:cs.length=1)(h:DataW.trod enc Tryz.prog w 0 (fun _=>true) held m 9 cs=some x):∃y:ByteArray,cs=Zm y∧y.size≤maxLen:=by
 match cs,hl with
 | [v0],_=>
  obtain⟨s,e0,_,hs⟩:=DataW.trod_string Tryz.underlying9 h;simp at e0;subst e0;exact⟨s,rfl,hs⟩
theorem Zg4{held:Bool}{m:Nat}{v:Value}{x:DataW H × List MemPlace}(h:DataW.trod enc Tryz.prog w 0 (fun _=>true) held m 26 [v]=some x) :
  ∃(l:List ByteArray) (a:Option Addr) (c:Nat),v=.slice a l.length c∧Ls w (.slice a l.length c) l.length (l.flatMap Zm)∧∀y∈l,y.size≤maxLen:=
 Zl4 Tryz.underlying26 (f:=Zm) (k:=1) (by decide) (fun _=>rfl) ⟨#[]⟩ Zet (fun y=>y.size≤maxLen) (fun held m cs x hl h=>ZoU held m cs x hl h) h
theorem Zkk{held:Bool}{m:Nat}{cs:List Value}{x:DataW H × List MemPlace}(hl:cs.length=3)(h:DataW.trod enc Tryz.prog w 0 (fun _=>true) held m 25 cs=some x)(hw:∀n∈x.1.weights Tryz.prog 25,n≤reachBytes) :
  ∃(n:Nat) (y:R3) (q:RP),cs=y.cells q∧RIs w (n+1) y q:=by
 obtain⟨xs,k,rfl,rfl,_,hxl,hf⟩:=DataW.trod_struct Tryz.underlying25 h
 match xs,hxl,cs,hl with
 | [y0,y1,y2],_,[v0,v1,v2],_=>
  have g0:=hf 0 _ rfl;have g1:=hf 1 _ rfl;have g2:=hf 2 _ rfl;simp[Zet,Zpo,Zpp]at g0 g1 g2;obtain⟨s,e0,_,hs⟩:=DataW.trod_string Tryz.underlying9 g0;simp at e0;subst e0
  obtain⟨l1,a1,c1,rfl,h1,h2,h3⟩:=Zps g1 (fun n hn=>hw n (by
   simp only[DataW.weights,Tryz.underlying25];exact DataW.weights_mem_each (j:=1) (d:=y1.1) rfl rfl n hn))
  obtain⟨l2,a2,c2,rfl,h4,h5,h6⟩:=Zpt g2 (fun n hn=>hw n (by
   simp only[DataW.weights,Tryz.underlying25];exact DataW.weights_mem_each (j:=2) (d:=y2.1) rfl rfl n hn))
  exact⟨k,⟨s,l1,l2⟩,⟨a1,c1,a2,c2⟩,rfl,⟨hs,h1,h4,⟨h2,h3⟩,⟨h5,fun y hy=>(h6 y hy).more⟩⟩⟩
theorem Zkl{r:Reach}{b0:Nat}{v:Value}{d:DataW H}{p:List MemPlace}
  (hv:Value.okWide Tryz.prog w r b0 26 v) (h:DataW.Trod enc Tryz.prog w 0 (fun _=>true) true 26 v d p) :
  ∃(l:List ByteArray) (a:Option Addr) (c:Nat),v=.slice a l.length c∧Ls w (.slice a l.length c) l.length (l.flatMap Zm)∧(∀y∈l,y.size≤maxLen)∧l.length≤Rows.uptoBulk d:=by
 obtain⟨m,hm⟩:=h
 have hv2:v.cells.toList=[v]:=by
  obtain⟨a,n,c,rfl⟩:∃a n c,v=.slice a n c:=Go.WideShapes.okWide_slice Tryz.underlying26 hv;rfl
 rw[hv2]at hm;obtain⟨l,a,c,rfl,h1,h2⟩:=Zg4 hm;exact⟨l,a,c,rfl,h1,h2,Zkj Tryz.underlying26 (x:=(d,p)) hm⟩
end
end
section
open Go.RowKit
abbrev Zfe:List (String × DataW Unit):=[("math/bits.deBruijn32tab",Rows.laid_math_bits_deBruijn32tab),("math/bits.deBruijn64tab",Rows.laid_math_bits_deBruijn64tab),("internal/strconv.uint64pow10",Rows.laid_internal_strconv_uint64pow10),("pedigree/term.kidCounts",Rows.laid_pedigree_term_kidCounts)]
theorem ZjP{W:World}(h:laidMetH Tryz.prog Zfe W):PWt W:=by
 have h0:laidMet Tryz.prog Zfe W:=h;have h2:=h0.tail.tail;unfold PWt;rw[show Lib.pow10Tab=[1,10,100,1000,10000,100000,1000000,10000000,100000000,1000000000,10000000000,100000000000,1000000000000,10000000000000,100000000000000,1000000000000000,10000000000000000,100000000000000000,1000000000000000000,10000000000000000000] by decide];exact Lib.tabIs_of_head (g:=2) (by kernel_rfl) (by kernel_rfl) Tryz.underlying440 Tryz.underlying432 (by kernel_rfl) (by kernel_rfl) h2
def ZpB:List Int:=[0,1,2,2,2,2,2,2,1,1,1]
theorem ZjQ{W:World}(h:laidMetH Tryz.prog Zfe W):KT W:=by
 have h0:laidMet Tryz.prog Zfe W:=h
 have t:Lib.TabIs Tryz.prog W "pedigree/term.kidCounts" .i64 ZpB:=
  Lib.tabIs_of_head (g:=0) (by kernel_rfl) (by kernel_rfl) Tryz.underlying427 Tryz.underlying3 (by kernel_rfl) (by kernel_rfl) h0.tail.tail.tail
 have hg:Tryz.prog.globalNamed "pedigree/term.kidCounts"=some 0:=by kernel_rfl
 refine⟨World.block_lt_of_cell? _ _ (t.cell hg 0 (by decide)),fun i hi=>?_⟩;rw[t.cell hg i (by show i<11;exact hi)]
 match i,hi with
 | 0,_=>rfl
 | 1,_=>rfl
 | 2,_=>rfl
 | 3,_=>rfl
 | 4,_=>rfl
 | 5,_=>rfl
 | 6,_=>rfl
 | 7,_=>rfl
 | 8,_=>rfl
 | 9,_=>rfl
 | 10,_=>rfl
theorem Zkg{W:World}(h:laidMetH Tryz.prog Zfe W):DT W:=by
 have h0:laidMet Tryz.prog Zfe W:=h
 have t:Lib.TabIs Tryz.prog W "math/bits.deBruijn32tab" .u8 (Lib.deBruijn32tab.map Int.ofNat):=
  Lib.tabIs_of_head (g:=1) (by kernel_rfl) (by kernel_rfl) Tryz.underlying428 Tryz.underlying5 (by kernel_rfl) (by kernel_rfl) h0
 have hg:Tryz.prog.globalNamed "math/bits.deBruijn32tab"=some 1:=by kernel_rfl
 have e:∀i,i<32→(Lib.deBruijn32tab.map Int.ofNat).getD i 0=((Lib.deBruijn32tab.getD i 0:Nat):Int):=by decide
 exact⟨World.block_lt_of_cell? _ _ (t.cell hg 0 (by decide)),fun i hi=>by rw[t.cell hg i (by show i<32;exact hi),e i hi]⟩
theorem Zkh{W:World}(h:laidMetH Tryz.prog Zfe W):KT W∧DT W:=⟨ZjQ h,Zkg h⟩
end
section
open Go.ChangeShapes Go.WideShapes Go.ChangeAt Go.RowKit Go.Joins Go.Deep
set_option maxRecDepth 100000
theorem Zjl{H:Type}{x:DataW H}:∀{l:List (DataW H)},x∈l→Rows.uptoBulk x≤Rows.uptoBulkAll l
 | [],h=>by cases h
 | y::r,h=>by
  simp only[Rows.uptoBulkAll];rcases List.mem_cons.1 h with rfl | h
  ·omega
  ·have:=Zjl h;omega
section
variable {H:Type} {enc:TypeId × Value→H} {w:World}
theorem Ze5{ty e:TypeId}(hu:Tryz.prog.underlying ty=some (.slice e)){held:Bool}{m n:Nat}{a:Option Addr}{c:Nat}{x:DataW H × List MemPlace}(hm:DataW.trod enc Tryz.prog w 0 (fun _=>true) held m ty [.slice a n c]=some x):n≤Rows.uptoBulk x.1:=by
 rcases DataW.trod_slice hu hm with ⟨hcs,hx⟩ | ⟨a',len,cap,elems,rest,k,hk,hcs,hx,hb,hlc,hcm,hel,hea,hsp,_⟩
 ·simp at hcs;obtain⟨_,h0,_⟩:=hcs;have:n=0:=by first | exact h0 | (rw[h0];rfl)
  omega
 ·simp at hcs;have h1:n=len:=hcs.2.1;have h2:=ZfK (elems.map (fun y=>y.1));rw[List.length_map]at h2;rw[hx];simp only[Rows.uptoBulk];omega
theorem ZkB{α:Type}{ty e:TypeId}(hu:Tryz.prog.underlying ty=some (.slice e)){f:α→List Value}{k:Nat}(hk0:0<k)(hk:∀x,(f x).length=k)(z:α)(hce:Tryz.prog.cellsOf e=k)(Pr:α→Prop)(size:α→Nat)
  (one:∀(held:Bool) (m:Nat) (cs:List Value) (x:DataW H × List MemPlace),cs.length=k→DataW.trod enc Tryz.prog w 0 (fun _=>true) held m e cs=some x→∃y:α,cs=f y∧Pr y∧size y≤Rows.uptoBulk x.1)
  {held:Bool} {m:Nat} {v:Value} {x:DataW H × List MemPlace} (h:DataW.trod enc Tryz.prog w 0 (fun _=>true) held m ty [v]=some x) :
  ∃(l:List α) (a:Option Addr) (c:Nat),v=.slice a l.length c∧Ls w (.slice a l.length c) l.length (l.flatMap f)∧∀y∈l,Pr y∧size y≤Rows.uptoBulk x.1:=by
 rcases DataW.trod_slice hu h with ⟨hcs,hx⟩ | ⟨a,len,cap,elems,rest,n,hk',hcs,hx,hb,hlc,hcm,hel,hea,hsp,_⟩
 ·simp at hcs;subst hcs;exact⟨[],none,0,rfl,⟨by show 0≤_;omega,none,0,rfl,Nat.le_refl _,by decide,fun h=>absurd (show(0:Nat)<0 from h) (by omega)⟩,fun t ht=>by cases ht⟩
 ·simp at hcs;subst hcs hk'
  have each:∀i,i<len→∃y:α,(∀(j:Nat) (u:Value),(f y)[j]?=some u→w.cell? (a.add (i*k+j))=some u)∧(Pr y∧size y≤Rows.uptoBulk x.1):=by
   intro i hi;have h1:=hea i hi;obtain⟨y,hy⟩:∃y,elems[i]?=some y:=⟨_,List.getElem?_eq_getElem (by omega)⟩;rw[hy]at h1;obtain⟨cs',hc1,hc2⟩:=Option.bind_eq_some_iff.1 h1;rw[hce]at hc1;obtain⟨_,hlen,hcell⟩:=World.cells?_some hc1;obtain⟨z,rfl,hz,hzb⟩:=one _ _ _ _ hlen hc2;refine⟨z,fun j u hu=>?_,hz,Nat.le_trans hzb ?_⟩
   rotate_left
   ·have hm:y.1∈elems.map (fun y=>y.1):=List.mem_map.2 ⟨y,List.mem_of_getElem? hy,rfl⟩;have hb':=Zjl hm;rw[hx];simp only[Rows.uptoBulk];omega
   have hj:j<k:=by
    have:=(List.getElem?_eq_some_iff.1 hu).1;rw[hk]at this;exact this
   have e:=hcell j hj;rw[add_add]at e;rw[e];exact hu
  haveI:Inhabited α:=⟨z⟩
  obtain⟨q,hq⟩:=choose_lt each;have hul:((List.range len).map q).length=len:=by simp
  refine⟨(List.range len).map q,some a,cap,by rw[hul],?_,fun y hy=>?_⟩
  ·by_cases h0:len=0
   ·subst h0;exact⟨by show 0≤_;omega,some a,cap,rfl,by simp,hcm,fun h=>absurd (show(0:Nat)<0 from h) (by omega)⟩
   ·obtain⟨b,off,spot⟩:=a;have hz0:∃u,(f (q 0))[0]?=some u:=⟨_,List.getElem?_eq_getElem (by rw[hk];exact hk0)⟩;obtain⟨u0,hu0⟩:=hz0;have hspot:spot=none:=by simpa[Addr.add]using World.cell?_spot ((hq 0 (by omega)).1 0 _ hu0)
    subst hspot;have plain:∀k,(⟨b,off,none⟩:Addr).add k=⟨b,off+k,none⟩:=fun k=>add_plain b off k
    refine Zbb (f:=f) (k:=k) hk0 hk z (by rw[hul];exact hlc) hcm ?_ (fun i hi=>?_)
    ·have:=(hq 0 (by omega)).1 0 _ hu0;rw[plain]at this;exact World.block_lt_of_cell? _ _ this
    ·rw[hul]at hi;have hat:((List.range len).map q).getD i z=q i:=by simp[List.getD,hi]
     rw[hat];intro j u hu;have:=(hq i hi).1 j u hu;rw[plain,←Nat.add_assoc]at this;exact this
  ·obtain⟨i,hi,rfl⟩:=List.mem_map.1 hy;exact(hq i (List.mem_range.1 hi)).2
theorem Zmv(held:Bool)(m:Nat)(cs:List Value)(x:DataW H × List MemPlace)(hl:cs.length=4)(h:DataW.trod enc Tryz.prog w 0 (fun _=>true) held m 84 cs=some x):∃y:SX,cs=y.cells∧Ls w (.slice y.a y.s.g.length y.c) y.s.g.length (y.s.g.flatMap Zm)∧y.s.g.length≤Rows.uptoBulk x.1:=by
 obtain⟨xs,k,rfl,rfl,_,hxl,hf⟩:=DataW.trod_struct Tryz.underlying84 h
 match xs,hxl,cs,hl with
 | [y0,y1,y2,y3],_,[v0,v1,v2,v3],_=>
  have g0:=hf 0 _ rfl;have g1:=hf 1 _ rfl;have g2:=hf 2 _ rfl;have g3:=hf 3 _ rfl;simp[ZoR,ZoT,ZoS,ZoP]at g0 g1 g2 g3;obtain⟨kk,e0,_,_⟩:=DataW.trod_int Tryz.underlying80 g0;obtain⟨ii,e1,_,_⟩:=DataW.trod_int Tryz.underlying3 g1;obtain⟨mm,e2,_,_⟩:=DataW.trod_int Tryz.underlying82 g2;obtain⟨l,a,c,e3,h1,_⟩:=Zg4 g3;have g3':=g3;rw[e3]at g3';have hb3:=Ze5 Tryz.underlying26 g3'
  simp at e0 e1 e2;subst e0 e1 e2 e3;refine⟨⟨⟨kk,ii,mm,l⟩,a,c⟩,rfl,h1,Nat.le_trans hb3 ?_⟩;simp only[Rows.uptoBulk,Rows.uptoBulkAll,List.map_cons,List.map_nil];omega
theorem Zjm{held:Bool}{m:Nat}{v:Value}{x:DataW H × List MemPlace}(h:DataW.trod enc Tryz.prog w 0 (fun _=>true) held m 30 [v]=some x) :
  ∃(l:List SX) (a:Option Addr) (c:Nat),v=.slice a l.length c∧Lz w (.slice a l.length c) l∧l.length≤Rows.uptoBulk x.1∧∀y∈l,y.s.g.length≤Rows.uptoBulk x.1:=by
 obtain⟨l,a,c,e,h1,h2⟩:=ZkB (enc:=enc) Tryz.underlying30 (f:=SX.cells) (k:=4) (by decide) (fun _=>rfl) SX0 ZoO (fun y=>Ls w (.slice y.a y.s.g.length y.c) y.s.g.length (y.s.g.flatMap Zm)) (fun y=>y.s.g.length) (fun held m cs x hl h=>Zmv held m cs x hl h) h;have h':=h;rw[e]at h';exact⟨l,a,c,e,⟨h1,fun y hy=>(h2 y hy).1⟩,Ze5 Tryz.underlying30 h',fun y hy=>(h2 y hy).2⟩
theorem ZkC{r:Reach}{b0:Nat}{v:Value}{d:DataW H}{p:List MemPlace}{tys:List TypeId}{ds:List (DataW H)}{j:Nat}
  (hv:Value.okWide Tryz.prog w r b0 32 v) (h:DataW.Trod enc Tryz.prog w 0 (fun _=>true) true 32 v d p)
  (hsz:(DataW.weightsEach Tryz.prog tys ds).all (·≤reachBytes)=true) (ht:tys[j]?=some 32) (hd:ds[j]?=some d) :
  ∃(n:Nat) (y:R3) (q:RP) (xs:List SX) (sa:Option Addr) (sc:Nat),v=.agg #[.string y.pr,.slice q.a y.hd.length q.c,.slice q.ba y.bd.length q.bc,.slice sa xs.length sc]∧RIs w (n+1) y q∧Lz w (.slice sa xs.length sc) xs∧xs.length≤Rows.uptoBulk d∧∀z∈xs,z.s.g.length≤Rows.uptoBulk d:=by
 obtain⟨cs,rfl,hcs⟩:=okWide_struct Tryz.underlying32 hv;obtain⟨m,hm⟩:=h;rw[ZoQ]at hcs
 have hw:∀n∈d.weights Tryz.prog 32,n≤reachBytes:=fun n hn=>by
  have:=List.all_eq_true.1 hsz n (DataW.weights_mem_each ht hd n hn);exact of_decide_eq_true this
 have hl4:cs.toList.length=4:=by simpa[Value.cells]using hcs
 have hm':DataW.trod enc Tryz.prog w 0 (fun _=>true) true m 32 cs.toList=some (d,p):=hm;obtain⟨xs,k,rfl,hx,_,hxl,hf⟩:=DataW.trod_struct Tryz.underlying32 hm';obtain⟨cl,hcl⟩:∃cl,cs.toList=cl:=⟨_,rfl⟩;rw[hcl]at hl4 hf
 match xs,hxl,cl,hl4 with
 | [y0,y1],_,[v0,v1,v2,v3],_=>
  have g0:=hf 0 _ rfl;have g1:=hf 1 _ rfl;simp[Zpm,Znt]at g0 g1;have hd2:=(Prod.mk.inj hx).1;rw[hd2]at hw
  obtain⟨n,y,q,e0,hR⟩:=Zkk rfl g0 (fun n hn=>hw n (by
   simp only[DataW.weights,Tryz.underlying32];exact DataW.weights_mem_each (j:=0) (d:=y0.1) rfl rfl n hn))
  obtain⟨l,a,c,rfl,hz,hzl,hzg⟩:=Zjm g1;unfold R3.cells at e0;simp at e0;obtain⟨rfl,rfl,rfl⟩:=e0
  have hle:Rows.uptoBulk y1.1≤Rows.uptoBulk d:=by
   rw[hd2];simp only[Rows.uptoBulk,Rows.uptoBulkAll,List.map_cons,List.map_nil];omega
  refine⟨n,y,q,l,a,c,?_,hR,hz,Nat.le_trans hzl hle,fun z hz=>Nat.le_trans (hzg z hz) hle⟩;have:cs=#[.string y.pr,.slice q.a y.hd.length q.c,.slice q.ba y.bd.length q.bc,.slice a l.length c]:=Array.toList_inj.1 (by rw[hcl]);rw[this]
end
theorem ZkD{W:World}(h:laidMetH Tryz.prog Zfe W):(KT W∧DT W)∧PWt W:=⟨Zkh h,ZjP h⟩
end
end Go.Proofs.YtjdnpgpbeppgjaaGreatDoor
