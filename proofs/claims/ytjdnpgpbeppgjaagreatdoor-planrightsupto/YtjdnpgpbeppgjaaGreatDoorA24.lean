import Derived.Test.YtjdnpgpbeppgjaaGreatDoorA23
import Derived.Test.YtjdnpgpbeppgjaaGreatDoorA7
import Derived.Test.YtjdnpgpbeppgjaaGreatDoorA8
import Derived.Test.YtjdnpgpbeppgjaaGreatDoorA9
import Derived.Deep.DeepCutAuto
import Derived.Deep.RegionHeld3
set_option linter.unusedSimpArgs false
set_option linter.unusedVariables false
set_option maxHeartbeats 3200000
set_option maxRecDepth 100000
namespace Go.Proofs.YtjdnpgpbeppgjaaGreatDoor
section
open Go.RowKit Go.Maps
attribute [local go_sem ↓] Go.wp_at_zero Go.wp_at_succ
theorem ZjW(xs:List XL):∀u∈xs.flatMap XL.cells,u.oneCell'=true:=by
 intro u hu;rw[List.mem_flatMap]at hu;obtain⟨t,_,ht⟩:=hu;simp[XL.cells]at ht;rcases ht with rfl | rfl | rfl | rfl | rfl | rfl | rfl | rfl | rfl | rfl | rfl | rfl | rfl | rfl | rfl | rfl<;>rfl
theorem ZjX(xs:List A5):∀u∈xs.flatMap A5.cells,u.oneCell'=true:=by
 intro u hu;rw[List.mem_flatMap]at hu;obtain⟨t,_,ht⟩:=hu;simp[A5.cells]at ht;rcases ht with rfl | rfl | rfl | rfl | rfl<;>rfl
theorem ZlO(l:List XL):(l.flatMap XL.cells).length=l.length*16:=Zbt XL.cells 16 (fun _=>rfl) l
theorem ZbG{α:Type}{l:List α}{i:Nat}{v:α}(h:l[i]?=some v):l.set i v=l:=by
 obtain⟨h1,h2⟩:=List.getElem?_eq_some_iff.1 h;rw[←h2];exact List.set_getElem_self h1
theorem ZiH{α:Type}{f:α→List Value}{n:Nat}(hf:∀x,(f x).length=n):∀(l:List α) (k j:Nat) (y:α) (v:Value),(hk:k<l.length)→j<n→f y=(f l[k]).set j v→(l.flatMap f).set (k*n+j) v=(l.set k y).flatMap f
 | [],k,j,y,v,hk,_,_=>absurd hk (by simp)
 | x::r,0,j,y,v,hk,hj,e=>by
  simp only[List.flatMap_cons,List.set_cons_zero,Nat.zero_mul,Nat.zero_add];rw[List.set_append_left _ _ (by rw[hf];exact hj)];simp only[List.getElem_cons_zero]at e;rw[e]
 | x::r,k+1,j,y,v,hk,hj,e=>by
  simp only[List.flatMap_cons,List.set_cons_succ];rw[List.set_append_right _ _ (by rw[hf,Nat.succ_mul];omega),hf,show(k+1)*n+j-n=k*n+j by rw[Nat.succ_mul];omega];rw[ZiH hf r k j y v (by simpa using hk) hj (by simpa using e)]
theorem Zfl{l:List XL}{i k:Nat}{x:XL}(hk:k<l.length):atL (l.set k x) i=if i=k then x else atL l i:=by
 unfold atL;rw[List.getD_eq_getElem?_getD,List.getD_eq_getElem?_getD,List.getElem?_set]
 by_cases e:k=i
 ·subst e;simp[hk]
 ·rw[if_neg e,if_neg (fun q=>e q.symm)]
structure CrS (w:World) (pr:ByteArray) (hd:List A5) (ha:Option Addr) (hc:Nat) (l1:List Nat) (bd:List XL) (g c:Nat) (xs:List XL) (fb:List Nat) (wr:World):Prop where
 bel:Below w.heap.size w wr
 bz:w.heap.size+2≤wr.heap.size
 r0:RL wr w.heap.size 25 [.string pr,.slice ha hd.length hc,.slice (some ⟨g,0,none⟩) bd.length c]
 r1:RL wr (w.heap.size+1) 25 [.string ⟨#[]⟩,.slice none 0 0,.slice none 0 0]
 ab:AB wr hd ha hc l1
 own:wr.ownsRow (w.heap.size+2) 105 16 (.slice (some ⟨g,0,none⟩) bd.length c) bd.length (xs.flatMap XL.cells)
 es:xs.map XL.x=bd.map XL.x
 lo:∀b∈l1++fb,w.heap.size+2≤b
 lt:∀b∈fb,b<wr.heap.size
 nd:(l1++g::fb).Nodup
theorem CrS.len{w:World}{pr:ByteArray}{hd:List A5}{ha:Option Addr}{hc:Nat}{l1:List Nat}{bd:List XL}{g c:Nat}{xs:List XL}{fb:List Nat}{wr:World}(h:CrS w pr hd ha hc l1 bd g c xs fb wr):xs.length=bd.length:=by
 have:=congrArg List.length h.es;simpa using this
theorem CrS.step{w:World}{pr:ByteArray}{hd:List A5}{ha:Option Addr}{hc:Nat}{l1:List Nat}{bd:List XL}{g c:Nat}{xs xs':List XL}{fb:List Nat}{wr w2 w3:World}(h:CrS w pr hd ha hc l1 bd g c xs fb wr)(b2:Below wr.heap.size wr w2){bl:List Nat}(hlo:∀b∈bl,wr.heap.size≤b)(hlt:∀b∈bl,b<w2.heap.size)(hnd:bl.Nodup)
  (hs:w3.heap.size=w2.heap.size) (ho:∀b,b≠g→w3.heap[b]?=w2.heap[b]?) (hb:Below w.heap.size w w3) (hown:w3.ownsRow (w.heap.size+2) 105 16 (.slice (some ⟨g,0,none⟩) bd.length c) bd.length (xs'.flatMap XL.cells)) (he:xs'.map XL.x=xs.map XL.x) :
  CrS w pr hd ha hc l1 bd g c xs' (fb++bl) w3∧(∀b∈fb,w3.heap[b]?=wr.heap[b]?):=by
 have hg:=h.own.lt g rfl;obtain⟨n1,n2,n3⟩:=List.nodup_append.1 h.nd;obtain⟨n4,n5⟩:=List.nodup_cons.1 n2;have hz:=h.bz;have hz2:=b2.size;have kl:∀b,b<wr.heap.size→b≠g→w3.heap[b]?=wr.heap[b]?:=fun b hb hn=>(ho b hn).trans (b2.block b hb)
 refine⟨⟨hb,by omega,?_,?_,?_,hown,he.trans h.es,fun b hb=>?_,fun b hb=>?_,?_⟩,fun b hb=>kl b (h.lt b hb) (fun e=>n4 (by rw[←e];exact hb))⟩
 ·exact World.rowIs.of_block h.r0 (kl _ (by omega) (by omega))
 ·exact World.rowIs.of_block h.r1 (kl _ (by omega) (by omega))
 ·exact h.ab.keep (by omega) (fun b hb=>kl b (h.ab.lt b hb) (fun e=>n3 b hb g (by simp) e))
 ·rcases List.mem_append.1 hb with hb | hb
  ·exact h.lo b (by simp[hb])
  ·rcases List.mem_append.1 hb with hb | hb
   ·exact h.lo b (by simp[hb])
   ·have:=hlo b hb;omega
 ·rcases List.mem_append.1 hb with hb | hb
  ·have:=h.lt b hb;omega
  ·have:=hlt b hb;omega
 ·rw[List.nodup_append,List.nodup_cons,List.nodup_append];refine⟨n1,⟨fun q=>?_,n5,hnd,fun x hx y hy e=>?_⟩,fun x hx y hy e=>?_⟩
  ·rcases List.mem_append.1 q with q | q
   ·exact n4 q
   ·have:=hlo g q;omega
  ·have:=hlo y hy;have:=h.lt x hx;omega
  ·rcases List.mem_cons.1 hy with hy | hy
   ·exact n3 x hx g (by simp) (e.trans hy)
   ·rcases List.mem_append.1 hy with hy | hy
    ·exact n3 x hx y (by simp[hy]) e
    ·have:=hlo y hy;have:=h.ab.lt x hx;omega
def Zbf(w:World)(g o:Nat)(e:E)(s:Value):World:=(((((w.setCell ⟨g,o,none⟩ (.int .i8 e.op)).setCell ⟨g,o+1,none⟩ (.string e.t.v)).setCell ⟨g,o+2,none⟩ (.int .i8 e.t.a.k)).setCell ⟨g,o+3,none⟩ (.int .i64 e.t.a.n)).setCell ⟨g,o+4,none⟩ (.string e.t.a.s)).setCell ⟨g,o+5,none⟩ s
theorem Zca(w:World)(g o:Nat)(e:E)(s:Value){b:Nat}(h:b≠g):(Zbf w g o e s).heap[b]?=w.heap[b]?:=by
 unfold Zbf;rw[heap_setCell_other _ _ _ _ h,heap_setCell_other _ _ _ _ h,heap_setCell_other _ _ _ _ h,heap_setCell_other _ _ _ _ h,heap_setCell_other _ _ _ _ h,heap_setCell_other _ _ _ _ h]
theorem Zbw(w:World)(g o:Nat)(e:E)(s:Value):(Zbf w g o e s).heap.size=w.heap.size:=by unfold Zbf;simp only[World.size_setCell]
theorem ZeX{B:Nat}{w0 w:World}(h:Below B w0 w){g o:Nat}(hg:B≤g)(e:E)(s:Value):Below B w0 (Zbf w g o e s):=
 (((((h.setCell (p:=⟨g,o,none⟩) hg _).setCell (p:=⟨g,o+1,none⟩) hg _).setCell (p:=⟨g,o+2,none⟩) hg _).setCell (p:=⟨g,o+3,none⟩) hg _).setCell (p:=⟨g,o+4,none⟩) hg _).setCell (p:=⟨g,o+5,none⟩) hg _
theorem ZiI{w:World}{B g n cap:Nat}{xs:List XL}{k j:Nat}{y:XL}{s:Value}(hk:k<xs.length)(hj:j<16)(hy:y.cells=(xs[k]).cells.set j s)(h:w.ownsRow B 105 16 (.slice (some ⟨g,0,none⟩) n cap) n (xs.flatMap XL.cells)):(w.setCell ⟨g,k*16+j,none⟩ s).ownsRow B 105 16 (.slice (some ⟨g,0,none⟩) n cap) n ((xs.set k y).flatMap XL.cells):=by
 rw[←ZiH (f:=XL.cells) (n:=16) (fun _=>rfl) xs k j y s hk hj hy];exact(h.stored (k*16+j) s).1
theorem ZiJ{w:World}{B g n cap:Nat}{xs:List XL}{k o:Nat}{y:XL}{s:Value}{e:E}(hk:k<xs.length)(ho:o+5<16)(hy:y.cells=(xs[k]).cells.set (o+5) s)(h0:(xs[k]).cells[o]?=some (.int .i8 e.op))(h1:(xs[k]).cells[o+1]?=some (.string e.t.v))(h2:(xs[k]).cells[o+2]?=some (.int .i8 e.t.a.k))(h3:(xs[k]).cells[o+3]?=some (.int .i64 e.t.a.n))(h4:(xs[k]).cells[o+4]?=some (.string e.t.a.s))
  (h:w.ownsRow B 105 16 (.slice (some ⟨g,0,none⟩) n cap) n (xs.flatMap XL.cells)):(Zbf w g (k*16+o) e s).ownsRow B 105 16 (.slice (some ⟨g,0,none⟩) n cap) n ((xs.set k y).flatMap XL.cells):=by
 have hat:∀j v,j<16→(xs[k]).cells[j]?=some v→(xs.flatMap XL.cells)[k*16+j]?=some v:=fun j v hj hv=>by
  have:=ZaQ XL.cells 16 (fun _=>rfl) XL0 xs k j hk hj;rw[this,show xs.getD k XL0=xs[k]from ZS hk];exact hv
 have o1:=(h.stored (k*16+o) (.int .i8 e.op)).1;rw[ZbG (hat o _ (by omega) h0)]at o1;have o2:=(o1.stored (k*16+o+1) (.string e.t.v)).1;rw[Nat.add_assoc,ZbG (hat (o+1) _ (by omega) h1)]at o2;have o3:=(o2.stored (k*16+o+2) (.int .i8 e.t.a.k)).1;rw[Nat.add_assoc _ o 2,ZbG (hat (o+2) _ (by omega) h2)]at o3;have o4:=(o3.stored (k*16+o+3) (.int .i64 e.t.a.n)).1;rw[Nat.add_assoc _ o 3,ZbG (hat (o+3) _ (by omega) h3)]at o4
 have o5:=(o4.stored (k*16+o+4) (.string e.t.a.s)).1;rw[Nat.add_assoc _ o 4,ZbG (hat (o+4) _ (by omega) h4)]at o5;have o6:=ZiI (j:=o+5) hk ho hy o5;unfold Zbf;simp only[Nat.add_assoc]at o6⊢;exact o6
def ZdJ(wr:World)(b:Nat)(pr:ByteArray)(s1 s2:Value):World:=((wr.setCell ⟨b,0,none⟩ (.string pr)).setCell ⟨b,1,none⟩ s1).setCell ⟨b,2,none⟩ s2
theorem ZcB(w:World)(g:Nat)(pr:ByteArray)(s1 s2:Value){b:Nat}(h:b≠g):(ZdJ w g pr s1 s2).heap[b]?=w.heap[b]?:=by
 unfold ZdJ;rw[heap_setCell_other _ _ _ _ h,heap_setCell_other _ _ _ _ h,heap_setCell_other _ _ _ _ h]
theorem Zco(w:World)(g:Nat)(pr:ByteArray)(s1 s2:Value):(ZdJ w g pr s1 s2).heap.size=w.heap.size:=by unfold ZdJ;simp only[World.size_setCell]
theorem ZbX{B:Nat}{w0 w:World}(h:Below B w0 w){g:Nat}(hg:B≤g)(pr:ByteArray)(s1 s2:Value):Below B w0 (ZdJ w g pr s1 s2):=
 ((h.setCell (p:=⟨g,0,none⟩) hg _).setCell (p:=⟨g,1,none⟩) hg _).setCell (p:=⟨g,2,none⟩) hg _
theorem Zd3{w:World}{g:Nat}{t:TypeId}{a b c:Value}(h:RL w g t [a,b,c])(pr:ByteArray)(s1 s2:Value):RL (ZdJ w g pr s1 s2) g t [.string pr,s1,s2]:=((h.set 0 _).set 1 _).set 2 _
structure CrD (w:World) (d:Nat) (xs:List XL) (ls:List (List Nat × List Nat × List Nat)) (fb:List Nat) (k:Nat) (wr:World):Prop where
 len:ls.length=k
 fb:fb=(ls.map ZcD).flatten
 done:∀i,i<xs.length→i<k→LB wr d (atL xs i).x (atL xs i).p (ZaA ls i).1 (ZaA ls i).2.1 (ZaA ls i).2.2
 rest:∀i,i<xs.length→k≤i→LIs w d (atL xs i).x (atL xs i).p
theorem CrD.end{w:World}{d:Nat}{pr:ByteArray}{hd:List A5}{ha:Option Addr}{hc:Nat}{l1:List Nat}{bd:List XL}{g c:Nat}{xs:List XL}{fb:List Nat}{wr:World}{ls:List (List Nat × List Nat × List Nat)}(h:CrS w pr hd ha hc l1 bd g c xs fb wr)(hd':CrD w d xs ls fb bd.length wr):BB wr d xs (some ⟨g,0,none⟩) c (g::fb):=by
 obtain⟨a1,c1,e1,hc1,hc2,hx⟩:=Zbx h.own;simp only[Value.slice.injEq,true_and]at e1;obtain⟨rfl,rfl⟩:=e1;have hl:=h.len;have hnd:=(List.nodup_append.1 h.nd).2.1;rcases hx with ⟨_,hx⟩ | ⟨g',hg',hB,hgl,hf,hx⟩
 ·cases hx
 ·cases hg'
  refine⟨by omega,hc2,.inr ⟨g,ls,rfl,hgl,by rw[hd'.fb],by rw[hd'.len,hl],hnd,hf,fun i hi=>?_⟩⟩;have hcl:∀j v,j<16→(XL.cells (atL xs i))[j]?=some v→wr.cell? ⟨g,i*16+j,none⟩=some v:=fun j v hj hv=>hx _ _ (by rw[ZaQ XL.cells 16 (fun _=>rfl) XL0 xs i j hi hj];exact hv)
  refine⟨⟨hcl 0 _ (by omega) rfl,hcl 1 _ (by omega) rfl,hcl 2 _ (by omega) rfl,hcl 3 _ (by omega) rfl,⟨hcl 4 _ (by omega) rfl,hcl 5 _ (by omega) rfl,hcl 6 _ (by omega) rfl,hcl 7 _ (by omega) rfl,hcl 8 _ (by omega) rfl,hcl 9 _ (by omega) rfl⟩,⟨hcl 10 _ (by omega) rfl,hcl 11 _ (by omega) rfl,hcl 12 _ (by omega) rfl,hcl 13 _ (by omega) rfl,hcl 14 _ (by omega) rfl,hcl 15 _ (by omega) rfl⟩⟩,hd'.done i hi (by omega)⟩
theorem TB.nodup{w:World}{ts:List T}{a:Option Addr}{c:Nat}{bl:List Nat}(h:TB w ts a c bl):bl.Nodup:=by
 rcases h.lies with ⟨_,h1⟩ | ⟨g,ha,hg,hbl,hf,hx⟩
 ·rw[h1];exact List.nodup_nil
 ·rw[hbl];simp
theorem CrD.round{w:World}{d:Nat}{pr:ByteArray}{hd:List A5}{ha:Option Addr}{hc:Nat}{l1:List Nat}{bd:List XL}{g c:Nat}{xs:List XL}{fb:List Nat}{wr:World}{ls:List (List Nat × List Nat × List Nat)}{k:Nat}(h:CrS w pr hd ha hc l1 bd g c xs fb wr)(hD:CrD w d xs ls fb k wr)(hk:k<bd.length)
  {b1 b2 b3:List Nat} {xs':List XL} {w':World} {p:LP} (h':CrS w pr hd ha hc l1 bd g c xs' (fb++b1++b2++b3) w') (hx:xs'=xs.set k ⟨(atL xs k).x,p⟩) (hfb:∀b∈fb,w'.heap[b]?=wr.heap[b]?) (hs:wr.heap.size≤w'.heap.size) (ht:TB w' (atL xs k).x.ts p.a p.c b1) (hl:EB w' d (atL xs k).x.l p.la p.lc b2) (hr:EB w' d (atL xs k).x.r p.ra p.rc b3) :
  CrD w d xs' (ls++[(b1,b2,b3)]) (fb++b1++b2++b3) (k+1) w':=by
 have hxl:=h.len;have hls:=hD.len;refine⟨by simp[hls],by rw[hD.fb];simp[ZcD],fun i hi hik=>?_,fun i hi hik=>?_⟩
 ·rw[hx,List.length_set]at hi;rw[hx,Zfl (by omega)]
  by_cases e:i=k
  ·subst e;rw[if_pos rfl];have e2:ZaA (ls++[(b1,b2,b3)]) i=(b1,b2,b3):=by unfold ZaA;rw[List.getD_eq_getElem?_getD,List.getElem?_append_right (by omega),hls];simp
   rw[e2];have h0:=hD.rest i hi (Nat.le_refl _);have hnd:=(List.nodup_cons.1 (List.nodup_append.1 h'.nd).2.1).2;refine⟨h0.kb,h0.rb,h0.pb,h0.ln,ht,hl,hr,?_⟩;rw[List.append_assoc,List.append_assoc]at hnd;exact(List.nodup_append.1 hnd).2.1
  ·rw[if_neg e];have e2:ZaA (ls++[(b1,b2,b3)]) i=ZaA ls i:=by unfold ZaA;rw[List.getD_eq_getElem?_getD,List.getD_eq_getElem?_getD,List.getElem?_append_left (by omega)]
   rw[e2];exact(hD.done i hi (by omega)).keep hs (fun b hb=>hfb b (by rw[hD.fb];exact ZaK (i:=i) (by rw[List.length_map];omega) (by rw[ZcY];exact hb)))
 ·rw[hx,List.length_set]at hi;rw[hx,Zfl (by omega),if_neg (by omega)];exact hD.rest i hi (by omega)
theorem Zab{w:World}{B:Nat}{g n cap:Nat}{xs:List XL}(h:w.ownsRow B 105 16 (.slice (some ⟨g,0,none⟩) n cap) n (xs.flatMap XL.cells)){k:Nat}(hk:k<xs.length){j:Nat}{v:Value}(hj:j<16)(hv:(atL xs k).cells[j]?=some v):w.cell? ⟨g,k*16+j,none⟩=some v∧w.frozen? ⟨g,k*16+j,none⟩=false:=by
 obtain⟨a1,c1,e1,hc1,hc2,hx⟩:=Zbx h;simp only[Value.slice.injEq,true_and]at e1;obtain⟨rfl,rfl⟩:=e1;rcases hx with ⟨_,hx⟩ | ⟨g',hg',hB,hgl,hf,hx⟩
 ·cases hx
 ·cases hg'
  exact⟨hx _ _ (by rw[ZaQ XL.cells 16 (fun _=>rfl) XL0 xs k j hk hj];exact hv),hf _⟩
theorem CrS.putA{w:World}{pr:ByteArray}{hd:List A5}{ha:Option Addr}{hc:Nat}{l1:List Nat}{bd:List XL}{g c:Nat}{xs:List XL}{fb:List Nat}{wr w2:World}(h:CrS w pr hd ha hc l1 bd g c xs fb wr){k:Nat}(hk:k<bd.length)(b2:Below wr.heap.size wr w2){bl:List Nat}(hlo:∀b∈bl,wr.heap.size≤b){a':Option Addr}{c':Nat}(ht:TB w2 (atL xs k).x.ts a' c' bl) :
  ∃xs',xs'=xs.set k ⟨(atL xs k).x,{(atL xs k).p with a:=a',c:=c'}⟩∧CrS w pr hd ha hc l1 bd g c xs' (fb++bl) (w2.setCell ⟨g,k*16+2,none⟩ (.slice a' (atL xs k).x.ts.length c'))∧(∀b∈fb,(w2.setCell ⟨g,k*16+2,none⟩ (.slice a' (atL xs k).x.ts.length c')).heap[b]?=wr.heap[b]?)∧TB (w2.setCell ⟨g,k*16+2,none⟩ (.slice a' (atL xs k).x.ts.length c')) (atL xs k).x.ts a' c' bl:=by
 have hl:=h.len;have hg:=h.own.lt g rfl;have hz:=h.bel.size;have hke:atL xs k=xs[k]:=ZS (by omega);obtain⟨h1,h2⟩:=h.step (xs':=xs.set k ⟨(atL xs k).x,{(atL xs k).p with a:=a',c:=c'}⟩) b2 hlo ht.lt ht.nodup (by simp only[World.size_setCell]) (fun b hb=>heap_setCell_other _ _ _ _ hb) ((h.bel.trans (b2.mono hz)).setCell (p:=⟨g,k*16+2,none⟩) (by show _≤g;omega) (.slice a' (atL xs k).x.ts.length c')) (ZiI (by omega) (by omega) (by rw[←hke];rfl) (Zn h.own b2)) (by rw[List.map_set];apply ZbG;rw[List.getElem?_map,List.getElem?_eq_getElem (by omega),hke];rfl)
 exact⟨_,rfl,h1,h2,ht.keep (by simp) (fun b hb=>heap_setCell_other _ _ _ _ (by have:=hlo b hb;show b≠g;omega))⟩
theorem CrS.putL{w:World}{d:Nat}{pr:ByteArray}{hd:List A5}{ha:Option Addr}{hc:Nat}{l1:List Nat}{bd:List XL}{g c:Nat}{xs:List XL}{fb:List Nat}{wr w2:World}(h:CrS w pr hd ha hc l1 bd g c xs fb wr){k:Nat}(hk:k<bd.length)(b2:Below wr.heap.size wr w2){bl:List Nat}(hlo:∀b∈bl,wr.heap.size≤b){a':Option Addr}{c':Nat}(ht:EB w2 d (atL xs k).x.l a' c' bl) :
  ∃xs',xs'=xs.set k ⟨(atL xs k).x,{(atL xs k).p with la:=a',lc:=c'}⟩∧CrS w pr hd ha hc l1 bd g c xs' (fb++bl) (Zbf w2 g (k*16+4) (atL xs k).x.l (.slice a' (atL xs k).x.l.kids.length c'))∧(∀b∈fb,(Zbf w2 g (k*16+4) (atL xs k).x.l (.slice a' (atL xs k).x.l.kids.length c')).heap[b]?=wr.heap[b]?)∧EB (Zbf w2 g (k*16+4) (atL xs k).x.l (.slice a' (atL xs k).x.l.kids.length c')) d (atL xs k).x.l a' c' bl:=by
 have hl:=h.len;have hg:=h.own.lt g rfl;have hz:=h.bel.size;have hke:atL xs k=xs[k]:=ZS (by omega);obtain⟨h1,h2⟩:=h.step (xs':=xs.set k ⟨(atL xs k).x,{(atL xs k).p with la:=a',lc:=c'}⟩) b2 hlo ht.lt ht.nodup (Zbw _ _ _ _ _) (fun b hb=>Zca _ _ _ _ _ hb) (ZeX (o:=k*16+4) (h.bel.trans (b2.mono hz)) (by show _≤g;omega) (atL xs k).x.l (.slice a' (atL xs k).x.l.kids.length c')) (ZiJ (o:=4) (by omega) (by omega) (by rw[←hke];rfl) (by rw[←hke];rfl) (by rw[←hke];rfl) (by rw[←hke];rfl) (by rw[←hke];rfl) (by rw[←hke];rfl) (Zn h.own b2)) (by rw[List.map_set];apply ZbG;rw[List.getElem?_map,List.getElem?_eq_getElem (by omega),hke];rfl)
 exact⟨_,rfl,h1,h2,ht.keep (by rw[Zbw];exact Nat.le_refl _) (fun b hb=>Zca _ _ _ _ _ (by have:=hlo b hb;omega))⟩
theorem CrS.putR{w:World}{d:Nat}{pr:ByteArray}{hd:List A5}{ha:Option Addr}{hc:Nat}{l1:List Nat}{bd:List XL}{g c:Nat}{xs:List XL}{fb:List Nat}{wr w2:World}(h:CrS w pr hd ha hc l1 bd g c xs fb wr){k:Nat}(hk:k<bd.length)(b2:Below wr.heap.size wr w2){bl:List Nat}(hlo:∀b∈bl,wr.heap.size≤b){a':Option Addr}{c':Nat}(ht:EB w2 d (atL xs k).x.r a' c' bl) :
  ∃xs',xs'=xs.set k ⟨(atL xs k).x,{(atL xs k).p with ra:=a',rc:=c'}⟩∧CrS w pr hd ha hc l1 bd g c xs' (fb++bl) (Zbf w2 g (k*16+10) (atL xs k).x.r (.slice a' (atL xs k).x.r.kids.length c'))∧(∀b∈fb,(Zbf w2 g (k*16+10) (atL xs k).x.r (.slice a' (atL xs k).x.r.kids.length c')).heap[b]?=wr.heap[b]?)∧EB (Zbf w2 g (k*16+10) (atL xs k).x.r (.slice a' (atL xs k).x.r.kids.length c')) d (atL xs k).x.r a' c' bl:=by
 have hl:=h.len;have hg:=h.own.lt g rfl;have hz:=h.bel.size;have hke:atL xs k=xs[k]:=ZS (by omega);obtain⟨h1,h2⟩:=h.step (xs':=xs.set k ⟨(atL xs k).x,{(atL xs k).p with ra:=a',rc:=c'}⟩) b2 hlo ht.lt ht.nodup (Zbw _ _ _ _ _) (fun b hb=>Zca _ _ _ _ _ hb) (ZeX (o:=k*16+10) (h.bel.trans (b2.mono hz)) (by show _≤g;omega) (atL xs k).x.r (.slice a' (atL xs k).x.r.kids.length c')) (ZiJ (o:=10) (by omega) (by omega) (by rw[←hke];rfl) (by rw[←hke];rfl) (by rw[←hke];rfl) (by rw[←hke];rfl) (by rw[←hke];rfl) (by rw[←hke];rfl) (Zn h.own b2)) (by rw[List.map_set];apply ZbG;rw[List.getElem?_map,List.getElem?_eq_getElem (by omega),hke];rfl)
 exact⟨_,rfl,h1,h2,ht.keep (by rw[Zbw];exact Nat.le_refl _) (fun b hb=>Zca _ _ _ _ _ (by have:=hlo b hb;omega))⟩
theorem ZlN{w:World}{B B':Nat}{e:TypeId}{k:Nat}{sv:Value}{n:Nat}{xs:List Value}(h:w.ownsRow B e k sv n xs)(hb:B'≤B):w.ownsRow B' e k sv n xs:=by
 obtain⟨hl,h1 | ⟨g,cap,cur,rfl,h0,hr⟩⟩:=h
 ·exact⟨hl,.inl h1⟩
 ·exact⟨hl,.inr ⟨g,cap,cur,rfl,Nat.le_trans hb h0,hr⟩⟩
theorem ZgA(d:Nat)(r:R3)(p:RP)(w:World)(hR:RIs w d r p)(hs:Zaj d r) :
  Calls Tryz.prog 103 #[r.val p] w fun q w'=>∃(xs:List XL) (q':RP) (l1 l2:List Nat),q=.returned (.agg #[.string r.pr,.slice q'.a r.hd.length q'.c,.slice q'.ba r.bd.length q'.bc])∧xs.map XL.x=r.bd.map XL.x∧Below w.heap.size w w'∧AB w' r.hd q'.a q'.c l1∧BB w' d xs q'.ba q'.bc l2∧(l1++l2).Nodup∧(∀b∈l1++l2,w.heap.size≤b):=by
 obtain⟨pr,hd,bd⟩:=r;obtain⟨pa,pc,ba,bc⟩:=p;have hhl:=hs.hd;have hbl:=hs.bd;have h1:=hR.hd;have h2:=hR.bd;unfold R3.val;dsimp only at hhl hbl h1 h2⊢;have HL1:=Lib.hid h1;have HL2:=Lib.hid h2;have HSM:Hid (∀y∈bd,ZbM d y.x):=hs.each;have hA1:=Zp (w:=w) (.cells #[.string pr,.slice pa hd.length pc,.slice ba bd.length bc] 25);have hA2:=Zp (w:=w.alloc (.cells #[.string pr,.slice pa hd.length pc,.slice ba bd.length bc] 25)) (.cells #[.string ⟨#[]⟩,.slice none 0 0,.slice none 0 0] 25)
 have HB0:=Lib.hid (hA1.trans (hA2.mono hA1.size));have HR0:=Lib.hid ((Zk w #[.string pr,.slice pa hd.length pc,.slice ba bd.length bc] 25).below hA2);have hR1:=Zk (w.alloc (.cells #[.string pr,.slice pa hd.length pc,.slice ba bd.length bc] 25)) #[.string ⟨#[]⟩,.slice none 0 0,.slice none 0 0] 25;rw[World.size_alloc]at hR1;have HR1:=Lib.hid hR1;have HSZ:Hid (((w.alloc (.cells #[.string pr,.slice pa hd.length pc,.slice ba bd.length bc] 25)).alloc (.cells #[.string ⟨#[]⟩,.slice none 0 0,.slice none 0 0] 25)).heap.size=w.heap.size+2):=by show _=_;simp
 clear hA1 hA2 hR1 hR hs h1 h2;go_enter Tryz.func103,Tryz.ntmps103;go_upto_region 1 with fail
 generalize (w.alloc (.cells #[.string pr,.slice pa hd.length pc,.slice ba bd.length bc] 25)).alloc (.cells #[.string ⟨#[]⟩,.slice none 0 0,.slice none 0 0] 25)=W at HB0 HR0 HR1 HSZ⊢;have y1:=HR0.out.at (j:=1) rfl;have HCA:=Lib.hid (Zm5 _ hd.length (hd.flatMap A5.cells) W (HL1.out.below HB0.out).lies (Zbt A5.cells 5 (fun _=>rfl) hd) (ZjX hd) hhl);go_wp2_with fail;refine HCA.out.mono ?_
 rintro q w1 ⟨sv,rfl,ho,b1⟩;rw[HSZ.out]at ho;obtain⟨a1,c1,l1,rfl,hab,hlo1,hnd1⟩:=ZpU ho HL1.out.wf;have k0:=HR0.out.below b1;have k1:=HR1.out.below b1;have f1:=World.rowIs.frozen k0 1;have z1:=k0.at (j:=1) rfl;have hz1:w.heap.size+2≤w1.heap.size:=by rw[←HSZ.out];exact b1.size
 have HB1:=Lib.hid (HB0.out.trans (b1.mono HB0.out.size));have HK0:=Lib.hid (k0.set 1 (.slice a1 hd.length c1));have HK1:=Lib.hid (k1.other (i:=1) (show w.heap.size+1≠w.heap.size by omega) (.slice a1 hd.length c1));have HB2:Hid (Below w.heap.size w (w1.setCell ⟨w.heap.size,1,none⟩ (.slice a1 hd.length c1))):=HB1.out.setCell (p:=⟨w.heap.size,1,none⟩) (Nat.le_refl _) _;have HZ2:Hid (w.heap.size+2≤(w1.setCell ⟨w.heap.size,1,none⟩ (.slice a1 hd.length c1)).heap.size):=by show _≤_;rw[World.size_setCell];exact hz1
 have HAB:Hid (AB (w1.setCell ⟨w.heap.size,1,none⟩ (.slice a1 hd.length c1)) hd a1 c1 l1):=hab.keep (by simp) (fun b hb=>heap_setCell_other _ _ _ _ (by have:=hlo1 b hb;show b≠w.heap.size;omega));have HLO1:=Lib.hid hlo1;have HND1:=Lib.hid hnd1;clear HB1 ho HCA k0 k1 y1 hz1 b1 HR0 HR1 HB0 HSZ hab hlo1 hnd1;go_upto_region 2 with fail
 generalize w1.setCell ⟨w.heap.size,1,none⟩ (.slice a1 hd.length c1)=W2 at HK0 HK1 HB2 HZ2 HAB⊢;clear z1 f1;have y2:=HK0.out.at (j:=2) rfl;have HCL:=Lib.hid (ZhN _ bd.length (bd.flatMap XL.cells) W2 (HL2.out.below HB2.out).lies (ZlO bd) (ZjW bd) hbl);go_wp2_with fail;refine HCL.out.mono ?_;rintro q w3 ⟨sv,rfl,ho,b3⟩;have k0:=HK0.out.below b3;have k1:=HK1.out.below b3;have f2:=World.rowIs.frozen k0 2
 have z2:=k0.at (j:=2) rfl;have hz3:w.heap.size+2≤w3.heap.size:=Nat.le_trans HZ2.out b3.size;have HB3:=Lib.hid (HB2.out.trans (b3.mono HB2.out.size));obtain⟨a2,c2,rfl,hn1,hn2,hcase⟩:=Zbx ho;have HL0:=Lib.hid (k0.set 2 (.slice a2 bd.length c2));have HLL:=Lib.hid (k1.other (i:=2) (show w.heap.size+1≠w.heap.size by omega) (.slice a2 bd.length c2));have HB4:Hid (Below w.heap.size w (w3.setCell ⟨w.heap.size,2,none⟩ (.slice a2 bd.length c2))):=HB3.out.setCell (p:=⟨w.heap.size,2,none⟩) (Nat.le_refl _) _
 have HZ4:Hid (w.heap.size+2≤(w3.setCell ⟨w.heap.size,2,none⟩ (.slice a2 bd.length c2)).heap.size):=by show _≤_;rw[World.size_setCell];exact hz3
 have HAB4:Hid (AB (w3.setCell ⟨w.heap.size,2,none⟩ (.slice a2 bd.length c2)) hd a1 c1 l1):=HAB.out.keep (by simp;exact b3.size) (fun b hb=>by
  rw[heap_setCell_other _ _ _ _ (by have:=HLO1.out b hb;show b≠w.heap.size;omega)];exact b3.block b (HAB.out.lt b hb))
 have HO4:Hid ((w3.setCell ⟨w.heap.size,2,none⟩ (.slice a2 bd.length c2)).ownsRow W2.heap.size 105 16 (.slice a2 bd.length c2) bd.length (bd.flatMap XL.cells)):=Zx ho (fun g hg=>by
  have:=(ho.lt g hg).1;have:=HZ2.out;rw[heap_setCell_other _ _ _ _ (by show g≠w.heap.size;omega)])
 have HLT2:Hid (∀b∈l1,b<W2.heap.size):=HAB.out.lt;have HZ2':=Lib.hid HZ2.out;clear HB3 ho HCL k0 k1 y2 hz3 b3 HK0 HK1 HB2 HZ2 HAB;go_upto_region 3 with fail
 generalize w3.setCell ⟨w.heap.size,2,none⟩ (.slice a2 bd.length c2)=W4 at HL0 HLL HB4 HZ4 HAB4 HO4⊢;clear z2 f2
 by_cases h0:bd.length=0
 ·have x2:=HL0.out.at (j:=2) rfl;have HH0:=Lib.hid h0;have HFIN:Hid (∀u,BB u d bd a2 c2 []):=fun u=>⟨hn1,hn2,.inl ⟨List.length_eq_zero_iff.1 h0,rfl⟩⟩
  rw[h0]at x2;go_wp2;clear x2 h0;go_loopw [16] (fun i wr=>i=.int .i64 0∧wr=W4) (fun i _=>0)
  case atStart=>exact⟨rfl,rfl⟩
  case round=>
   obtain⟨rfl,rfl⟩:=hrel;have g0:=HL0.out.at (j:=0) rfl;have g1:=HL0.out.at (j:=1) rfl;have g2:=HL0.out.at (j:=2) rfl;have o0:=HLL.out.at (j:=0) rfl;have o1:=HLL.out.at (j:=1) rfl;have o2:=HLL.out.at (j:=2) rfl;have f0:=World.rowIs.frozen HLL.out 0;have f1:=World.rowIs.frozen HLL.out 1;have f2:=World.rowIs.frozen HLL.out 2;have HD1:=Lib.hid (Zd3 HLL.out pr (.slice a1 hd.length c1) (.slice a2 bd.length c2))
   have HD2:=Lib.hid (ZbX (g:=w.heap.size+1) HB4.out (by omega) pr (.slice a1 hd.length c1) (.slice a2 bd.length c2));have HD3:Hid (AB (ZdJ wr (w.heap.size+1) pr (.slice a1 hd.length c1) (.slice a2 bd.length c2)) hd a1 c1 l1):=HAB4.out.keep (by rw[Zco];exact Nat.le_refl _) (fun b hb=>ZcB _ _ _ _ _ (by have:=HLO1.out b hb;omega));unfold ZdJ at HD1 HD2 HD3;clear HL0 HLL HB4 HZ4 HAB4 HO4 hcase
   go_wp2;refine bodyPost_ret (ZO Tryz.results103 (v:=.agg #[.string pr,.slice a1 hd.length c1,.slice a2 bd.length c2]) rfl (run_loadVar_mid _ _ 0 25 [.string pr,.slice a1 hd.length c1,.slice a2 bd.length c2] _ HD1.out.range Tryz.underlying25 rfl (by kernel_rfl))) rfl ?_;exact⟨bd,⟨a1,c1,a2,c2⟩,l1,[],rfl,rfl,HD2.out,HD3.out,HFIN.out _,by rw[List.append_nil];exact HND1.out,fun b hb=>by rw[List.append_nil]at hb;have:=HLO1.out b hb;omega⟩
 ·obtain⟨g,rfl,hB⟩:∃g,a2=some ⟨g,0,none⟩∧W2.heap.size≤g:=by
   rcases hcase with ⟨q,_⟩ | ⟨g,q,hB,_⟩
   ·exact absurd q h0
   ·exact⟨g,q,hB⟩
  have HS0:Hid (CrS w pr hd a1 c1 l1 bd g c2 bd [] W4):=⟨HB4.out,HZ4.out,HL0.out,HLL.out,HAB4.out,ZlN HO4.out HZ2'.out,rfl,fun b hb=>(by rw[List.append_nil]at hb;exact HLO1.out b hb),fun b hb=>(by cases hb),by
   rw[List.nodup_append];refine⟨HND1.out,by simp,fun x hx y hy e=>?_⟩;rw[List.mem_singleton.1 hy]at e;have:=HLT2.out x hx;omega⟩
  have HD0:Hid (CrD w d bd [] [] 0 W4):=⟨rfl,rfl,fun i _ h=>absurd h (by omega),fun i hi _=>HL2.out.at_is hi⟩;have x2:=HL0.out.at (j:=2) rfl;clear HL0 HLL HB4 HZ4 HAB4 HO4 hcase HLT2 HZ2' HL2;go_wp2;clear x2;go_loopw [16] (fun i wr=>∃(k:Nat) (xs:List XL) (fb:List Nat) (ls:List (List Nat × List Nat × List Nat)),k≤bd.length∧i=.int .i64 k∧Hid (CrS w pr hd a1 c1 l1 bd g c2 xs fb wr)∧Hid (CrD w d xs ls fb k wr)) (fun i _=>bd.length-(intOf i).toNat)
  case atStart=>exact⟨0,bd,[],[],Nat.zero_le _,rfl,HS0,HD0⟩
  case round=>
   clear HS0 HD0;obtain⟨k,xs,fb,ls,hk,rfl,HS,HD⟩:=hrel
   by_cases hlt:k<bd.length
   ·have hlt':(k:Int)<(bd.length:Int):=by omega
    have hk0:(0:Int)≤(k:Int):=by omega
    have hxl:xs.length=bd.length:=HS.out.len;have hlis:=HD.out.rest k (by omega) (Nat.le_refl _)
    have hsml:ZbM d (atL xs k).x:=by
     have e1:(xs.map XL.x)[k]?=(bd.map XL.x)[k]?:=by rw[HS.out.es]
     rw[List.getElem?_map,List.getElem?_map,List.getElem?_eq_getElem (by omega),List.getElem?_eq_getElem hlt]at e1;rw[ZS (by omega)];have e2:(xs[k]).x=(bd[k]).x:=Option.some.inj e1;rw[e2];exact HSM.out _ (List.getElem_mem hlt)
    obtain⟨X,hX⟩:∃X,X=(atL xs k).x:=⟨_,rfl⟩;obtain⟨pp,hpp⟩:∃pp,pp=(atL xs k).p:=⟨_,rfl⟩;have HXP:Hid (X=(atL xs k).x∧pp=(atL xs k).p):=⟨hX,hpp⟩;rw[←hX,←hpp]at hlis;rw[←hX]at hsml;have r2:=HS.out.r0.at (j:=2) rfl;have i2:wr.cell? ⟨g,k*16+2,none⟩=some (.slice pp.a X.ts.length pp.c):=by rw[hX,hpp];exact(Zab HS.out.own (by omega) (by omega) rfl).1
    have HC1:=Lib.hid (ZlK (.slice pp.a X.ts.length pp.c) X.ts.length (X.ts.flatMap T.cells) wr (hlis.ts.below HS.out.bel).lies (Zbt T.cells 4 (fun _=>rfl) X.ts) (ZjS X.ts) hsml.1);have HLI:=Lib.hid hlis;have HSL:=Lib.hid hsml;clear hX hpp hlis hsml;go_wp2_with fail;refine HC1.out.mono ?_;rintro q w5 ⟨sv,rfl,ho5,b5⟩;obtain⟨a5,c5,m1,rfl,htb5,hlo5,-⟩:=ZpT ho5 HLI.out.ts.wf;obtain⟨xs1,hxs1,hS1,hf1,htb6⟩:=HS.out.putA (k:=k) hlt b5 (bl:=m1) hlo5 (a':=a5) (c':=c5) (by rw[←HXP.out.1];exact htb5)
    rw[←HXP.out.1]at hS1 hf1 htb6;have hz5:wr.heap.size≤(w5.setCell ⟨g,k*16+2,none⟩ (.slice a5 X.ts.length c5)).heap.size:=by simp only[World.size_setCell];exact b5.size
    obtain⟨j2,fz2⟩:=Zab (Zn HS.out.own b5) (k:=k) (by omega) (j:=2) (by omega) (v:=.slice pp.a X.ts.length pp.c) (by rw[HXP.out.1,HXP.out.2];rfl);rw[←HXP.out.1,←HXP.out.2]at hxs1;have HX1:Hid (xs1=xs.set k ⟨X,⟨a5,c5,pp.la,pp.lc,pp.ra,pp.rc⟩⟩):=hxs1;have HS1:=Lib.hid hS1;have HF1:=Lib.hid hf1;have HT6:=Lib.hid htb6;have HZ5:=Lib.hid hz5;clear HC1 ho5 htb5 hS1 hf1 htb6 hz5 hxs1 b5 r2 i2 hlo5
    go_upto_region 8 with fail
    generalize w5.setCell ⟨g,k*16+2,none⟩ (.slice a5 X.ts.length c5)=W6 at HS1 HF1 HT6 HZ5⊢;clear j2 fz2;have hx1l:xs1.length=bd.length:=HS1.out.len;have hx1a:atL xs1 k=⟨X,⟨a5,c5,pp.la,pp.lc,pp.ra,pp.rc⟩⟩:=by rw[HX1.out,Zfl (by omega),if_pos rfl]
    have i4:=(Zab HS1.out.own (k:=k) (by omega) (j:=4) (v:=.int .i8 X.l.op) (by omega) (by rw[hx1a];rfl)).1;have i5:=(Zab HS1.out.own (k:=k) (by omega) (j:=5) (v:=.string X.l.t.v) (by omega) (by rw[hx1a];rfl)).1;have i6:=(Zab HS1.out.own (k:=k) (by omega) (j:=6) (v:=.int .i8 X.l.t.a.k) (by omega) (by rw[hx1a];rfl)).1;have i7:=(Zab HS1.out.own (k:=k) (by omega) (j:=7) (v:=.int .i64 X.l.t.a.n) (by omega) (by rw[hx1a];rfl)).1
    have i8:=(Zab HS1.out.own (k:=k) (by omega) (j:=8) (v:=.string X.l.t.a.s) (by omega) (by rw[hx1a];rfl)).1;have i9:=(Zab HS1.out.own (k:=k) (by omega) (j:=9) (v:=.slice pp.la X.l.kids.length pp.lc) (by omega) (by rw[hx1a];rfl)).1;have HC2:=Lib.hid (ZgR d X.l pp.la pp.lc W6 (HLI.out.l.below HS1.out.bel) HSL.out.2.1.1);unfold E.val at HC2;have HA1:=Lib.hid hx1a;clear hx1a;go_wp2_with fail
    refine HC2.out.mono ?_;rintro q w7 ⟨a7,c7,m2,rfl,b7,heb7,hlo7⟩;have hput:=HS1.out.putL (k:=k) (d:=d) hlt b7 (bl:=m2) hlo7 (a':=a7) (c':=c7) (by rw[HA1.out];exact heb7);rw[HA1.out]at hput;obtain⟨xs2,hxs2,hS2,hf2,heb8⟩:=hput;dsimp only at hxs2 hS2 hf2 heb8;have hz7:W6.heap.size≤(Zbf w7 g (k*16+4) X.l (.slice a7 X.l.kids.length c7)).heap.size:=by rw[Zbw];exact b7.size
    have hoc:=fun j v (hj:j<16) (hv:(atL xs1 k).cells[j]?=some v)=>Zab (Zn HS1.out.own b7) (k:=k) (by omega) (j:=j) (v:=v) hj hv
    rw[HA1.out]at hoc;obtain⟨j4,fz4⟩:=hoc 4 _ (by omega) rfl;obtain⟨j5,fz5⟩:=hoc 5 _ (by omega) rfl;obtain⟨j6,fz6⟩:=hoc 6 _ (by omega) rfl;obtain⟨j7,fz7⟩:=hoc 7 _ (by omega) rfl;obtain⟨j8,fz8⟩:=hoc 8 _ (by omega) rfl;obtain⟨j9,fz9⟩:=hoc 9 _ (by omega) rfl;have HX2:Hid (xs2=xs1.set k ⟨X,⟨a5,c5,a7,c7,pp.ra,pp.rc⟩⟩):=hxs2;have HT8:Hid (TB (Zbf w7 g (k*16+4) X.l (.slice a7 X.l.kids.length c7)) X.ts a5 c5 m1):=HT6.out.keep hz7 (fun b hb=>hf2 b (by simp[hb]))
    have HF2:Hid (∀b∈fb,(Zbf w7 g (k*16+4) X.l (.slice a7 X.l.kids.length c7)).heap[b]?=wr.heap[b]?):=fun b hb=>(hf2 b (by simp[hb])).trans (HF1.out b hb)
    have HS2:=Lib.hid hS2;have HE8:=Lib.hid heb8;have HZ7:=Lib.hid (Nat.le_trans HZ5.out hz7);unfold Zbf at HS2 HE8 HT8 HF2 HZ7;simp only[Nat.add_assoc,Nat.reduceAdd]at HS2 HE8 HT8 HF2 HZ7;clear HC2 heb7 hS2 hf2 heb8 hz7 hxs2 b7 hlo7 hoc HF1 HT6 HS1 HZ5 i4 i5 i6 i7 i8 i9;go_upto_region 9 with fail
    generalize (((((w7.setCell ⟨g,k*16+4,none⟩ (.int .i8 X.l.op)).setCell ⟨g,k*16+5,none⟩ (.string X.l.t.v)).setCell ⟨g,k*16+6,none⟩ (.int .i8 X.l.t.a.k)).setCell ⟨g,k*16+7,none⟩ (.int .i64 X.l.t.a.n)).setCell ⟨g,k*16+8,none⟩ (.string X.l.t.a.s)).setCell ⟨g,k*16+9,none⟩ (.slice a7 X.l.kids.length c7)=W8 at HS2 HE8 HT8 HF2 HZ7⊢;clear j4 j5 j6 j7 j8 j9 fz4 fz5 fz6 fz7 fz8 fz9;have hx2l:xs2.length=bd.length:=HS2.out.len
    have hx2a:atL xs2 k=⟨X,⟨a5,c5,a7,c7,pp.ra,pp.rc⟩⟩:=by rw[HX2.out,Zfl (by omega),if_pos rfl]
    have i4:=(Zab HS2.out.own (k:=k) (by omega) (j:=10) (v:=.int .i8 X.r.op) (by omega) (by rw[hx2a];rfl)).1;have i5:=(Zab HS2.out.own (k:=k) (by omega) (j:=11) (v:=.string X.r.t.v) (by omega) (by rw[hx2a];rfl)).1;have i6:=(Zab HS2.out.own (k:=k) (by omega) (j:=12) (v:=.int .i8 X.r.t.a.k) (by omega) (by rw[hx2a];rfl)).1;have i7:=(Zab HS2.out.own (k:=k) (by omega) (j:=13) (v:=.int .i64 X.r.t.a.n) (by omega) (by rw[hx2a];rfl)).1
    have i8:=(Zab HS2.out.own (k:=k) (by omega) (j:=14) (v:=.string X.r.t.a.s) (by omega) (by rw[hx2a];rfl)).1;have i9:=(Zab HS2.out.own (k:=k) (by omega) (j:=15) (v:=.slice pp.ra X.r.kids.length pp.rc) (by omega) (by rw[hx2a];rfl)).1;have HC3:=Lib.hid (ZgR d X.r pp.ra pp.rc W8 (HLI.out.r.below HS2.out.bel) HSL.out.2.2.1);unfold E.val at HC3;have HA2:=Lib.hid hx2a;clear hx2a HA1;go_wp2_with fail
    refine HC3.out.mono ?_;rintro q w9 ⟨a9,c9,m3,rfl,b9,heb9,hlo9⟩;have hput:=HS2.out.putR (k:=k) (d:=d) hlt b9 (bl:=m3) hlo9 (a':=a9) (c':=c9) (by rw[HA2.out];exact heb9);rw[HA2.out]at hput;obtain⟨xs3,hxs3,hS3,hf3,hebA⟩:=hput;dsimp only at hxs3 hS3 hf3 hebA;have hz9:W8.heap.size≤(Zbf w9 g (k*16+10) X.r (.slice a9 X.r.kids.length c9)).heap.size:=by rw[Zbw];exact b9.size
    have hoc:=fun j v (hj:j<16) (hv:(atL xs2 k).cells[j]?=some v)=>Zab (Zn HS2.out.own b9) (k:=k) (by omega) (j:=j) (v:=v) hj hv
    rw[HA2.out]at hoc;obtain⟨j4,fz4⟩:=hoc 10 _ (by omega) rfl;obtain⟨j5,fz5⟩:=hoc 11 _ (by omega) rfl;obtain⟨j6,fz6⟩:=hoc 12 _ (by omega) rfl;obtain⟨j7,fz7⟩:=hoc 13 _ (by omega) rfl;obtain⟨j8,fz8⟩:=hoc 14 _ (by omega) rfl;obtain⟨j9,fz9⟩:=hoc 15 _ (by omega) rfl
    have HX3:xs3=xs.set k ⟨X,⟨a5,c5,a7,c7,a9,c9⟩⟩:=by
     rw[hxs3,HX2.out,HX1.out,List.set_set,List.set_set]
    have HN:Hid (CrD w d xs3 (ls++[(m1,m2,m3)]) (fb++m1++m2++m3) (k+1) (Zbf w9 g (k*16+10) X.r (.slice a9 X.r.kids.length c9))):=by
     refine CrD.round (p:=⟨a5,c5,a7,c7,a9,c9⟩) HS.out HD.out hlt hS3 (by rw[←HXP.out.1];exact HX3) (fun b hb=>(hf3 b (by simp[hb])).trans (HF2.out b hb)) (Nat.le_trans HZ7.out hz9) ?_ ?_ ?_
     ·rw[←HXP.out.1];exact HT8.out.keep hz9 (fun b hb=>hf3 b (by simp[hb]))
     ·rw[←HXP.out.1];exact HE8.out.keep hz9 (fun b hb=>hf3 b (by simp[hb]))
     ·rw[←HXP.out.1];exact hebA
    have HS3:=Lib.hid hS3;unfold Zbf at HS3 HN;simp only[Nat.add_assoc,Nat.reduceAdd]at HS3 HN;clear HC3 heb9 hS3 hf3 hebA hz9 hxs3 b9 hlo9 hoc HF2 HT8 HS2 HZ7 i4 i5 i6 i7 i8 i9 HE8 HS HD HX3;go_wp2;go_roundw
    case rel=>exact⟨k+1,xs3,_,_,by omega,by go_num,HS3,HN⟩
    case measure=>simp[intOf];omega
   ·obtain rfl:k=bd.length:=by omega
    have g0:=HS.out.r0.at (j:=0) rfl;have g1:=HS.out.r0.at (j:=1) rfl;have g2:=HS.out.r0.at (j:=2) rfl;have o0:=HS.out.r1.at (j:=0) rfl;have o1:=HS.out.r1.at (j:=1) rfl;have o2:=HS.out.r1.at (j:=2) rfl;have f0:=World.rowIs.frozen HS.out.r1 0;have f1:=World.rowIs.frozen HS.out.r1 1;have f2:=World.rowIs.frozen HS.out.r1 2;have HBB:=Lib.hid (CrD.end HS.out HD.out)
    have HLO:Hid (∀b∈l1++g::fb,w.heap.size+2≤b):=fun b hb=>by
     rcases List.mem_append.1 hb with hb | hb
     ·exact HS.out.lo b (by simp[hb])
     ·rcases List.mem_cons.1 hb with rfl | hb
      ·exact(HS.out.own.lt _ rfl).1
      ·exact HS.out.lo b (by simp[hb])
    have HD1:=Lib.hid (Zd3 HS.out.r1 pr (.slice a1 hd.length c1) (.slice (some ⟨g,0,none⟩) bd.length c2));have HD2:=Lib.hid (ZbX (g:=w.heap.size+1) HS.out.bel (by omega) pr (.slice a1 hd.length c1) (.slice (some ⟨g,0,none⟩) bd.length c2));have HD3:Hid (AB (ZdJ wr (w.heap.size+1) pr (.slice a1 hd.length c1) (.slice (some ⟨g,0,none⟩) bd.length c2)) hd a1 c1 l1):=HS.out.ab.keep (by rw[Zco];exact Nat.le_refl _) (fun b hb=>ZcB _ _ _ _ _ (by have:=HLO.out b (by simp[hb]);omega))
    have HD4:Hid (BB (ZdJ wr (w.heap.size+1) pr (.slice a1 hd.length c1) (.slice (some ⟨g,0,none⟩) bd.length c2)) d xs (some ⟨g,0,none⟩) c2 (g::fb)):=HBB.out.keep (by rw[Zco];exact Nat.le_refl _) (fun b hb=>ZcB _ _ _ _ _ (by have:=HLO.out b (List.mem_append_right _ hb);omega));have HND:=Lib.hid HS.out.nd;have HES:=Lib.hid HS.out.es;unfold ZdJ at HD1 HD2 HD3 HD4;clear HS HD HBB;go_wp2
    refine bodyPost_ret (ZO Tryz.results103 (v:=.agg #[.string pr,.slice a1 hd.length c1,.slice (some ⟨g,0,none⟩) bd.length c2]) rfl (run_loadVar_mid _ _ 0 25 [.string pr,.slice a1 hd.length c1,.slice (some ⟨g,0,none⟩) bd.length c2] _ HD1.out.range Tryz.underlying25 rfl (by kernel_rfl))) rfl ?_;exact⟨xs,⟨a1,c1,some ⟨g,0,none⟩,c2⟩,l1,g::fb,rfl,HES.out,HD2.out,HD3.out,HD4.out,HND.out,fun b hb=>by have:=HLO.out b hb;omega⟩
structure TwR (w:World) (lo d:Nat) (r:R3) (p:RP):Prop where
 hd:TwA w lo r.hd p.a p.c
 bd:TwB w lo d r.bd p.ba p.bc
theorem TwR.below{w w':World}{lo d:Nat}{r:R3}{p:RP}(h:TwR w lo d r p)(b:Below w.heap.size w w'):TwR w' lo d r p:=⟨h.hd.below b,h.bd.below b⟩
structure LikeR (r s:R3):Prop where
 pr:s.pr=r.pr
 hd:s.hd=r.hd
 bl:s.bd.length=r.bd.length
 bd:∀i,i<r.bd.length→(atL s.bd i).x=(atL r.bd i).x
theorem Zio(d:Nat)(r:R3)(p:RP)(w:World)(hp:PWt w)(hs1:r.hd.length≤1048576)(hs2:r.bd.length≤1048576)(hsm:∀y∈r.bd,ZbM d y.x)(hR:RIs w d r p) :
  Calls Tryz.prog 6 #[r.val p] w fun e w'=>∃s q,e=.returned (s.val q)∧Below w.heap.size w w'∧LikeR r s∧TwR w' w.heap.size d s q:=by
 obtain⟨pr,hd,bd⟩:=r;obtain⟨pa,pc,ba,bc⟩:=p;have h1:=hR.hd;have h2:=hR.bd;unfold R3.val;dsimp only at hs1 hs2 hsm h1 h2⊢;have BA:=(Below.refl w.heap.size w).alloc (Nat.le_refl _) (.cells #[.string pr,.slice pa hd.length pc,.slice ba bd.length bc] 25);have BB:=BA.alloc BA.size (.cells #[.string ⟨#[]⟩,.slice none 0 0,.slice none 0 0] 25);have HR0:Hid (RL ((w.alloc (.cells #[.string pr,.slice pa hd.length pc,.slice ba bd.length bc] 25)).alloc (.cells #[.string ⟨#[]⟩,.slice none 0 0,.slice none 0 0] 25)) w.heap.size 25 [.string pr,.slice pa hd.length pc,.slice ba bd.length bc]):=(Zk w #[.string pr,.slice pa hd.length pc,.slice ba bd.length bc] 25).below ((Below.refl _ _).alloc (Nat.le_refl _) (.cells #[.string ⟨#[]⟩,.slice none 0 0,.slice none 0 0] 25))
 have HR1:Hid (RL ((w.alloc (.cells #[.string pr,.slice pa hd.length pc,.slice ba bd.length bc] 25)).alloc (.cells #[.string ⟨#[]⟩,.slice none 0 0,.slice none 0 0] 25)) (w.heap.size+1) 25 [.string ⟨#[]⟩,.slice none 0 0,.slice none 0 0]):=by
  have:=Zk (w.alloc (.cells #[.string pr,.slice pa hd.length pc,.slice ba bd.length bc] 25)) #[.string ⟨#[]⟩,.slice none 0 0,.slice none 0 0] 25;rw[World.size_alloc]at this;exact this
 have HT:Hid _:=Ziq _ hd _ (Zq hp BB) hs1 (h1.below BB);have HT2:Hid (∀u,Below w.heap.size w u→Calls Tryz.prog 24 #[.slice ba bd.length bc] u fun r w'=>∃a' l',r=.returned (.slice a' bd.length (bd.length+1))∧Below u.heap.size u w'∧l'.length=bd.length∧(∀i,i<bd.length→(atL l' i).x=(atL bd i).x)∧TwB w' u.heap.size d l' a' (bd.length+1)):=fun u hu=>ZeT d _ bd u (Zq hp hu) hs2 hsm (h2.below hu)
 have HBB:Hid (Below w.heap.size w _):=BB;clear hp BA BB hR h1 h2 hsm;go_enter Tryz.func6,Tryz.ntmps6;go_wp2_with fail;refine Calls.mono HT.out ?_;rintro r w1 ⟨a',rfl,b1,htw⟩;have HA:Hid (RL w1 w.heap.size 25 [.string pr,.slice pa hd.length pc,.slice ba bd.length bc]):=RL.below HR0.out b1;have HB:Hid (RL w1 (w.heap.size+1) 25 [.string ⟨#[]⟩,.slice none 0 0,.slice none 0 0]):=RL.below HR1.out b1;have HTW:Hid (TwA w1 (w.heap.size+2) hd a' (hd.length+1)):=htw.lower (by simp)
 have HB1:Hid (Below w.heap.size w w1):=HBB.out.trans (b1.mono HBB.out.size);have x1:=HA.out.at (j:=1) rfl;have x2:=HA.out.at (j:=2) rfl;have g1:=World.rowIs.frozen HA.out 1;have HBs:Hid (Below w.heap.size w (w1.setCell ⟨w.heap.size,1,none⟩ (.slice a' hd.length (hd.length+1)))):=HB1.out.setCell (p:=⟨w.heap.size,1,none⟩) (Nat.le_refl _) _;have HAs:Hid (RL (w1.setCell ⟨w.heap.size,1,none⟩ (.slice a' hd.length (hd.length+1))) w.heap.size 25 [.string pr,.slice a' hd.length (hd.length+1),.slice ba bd.length bc]):=HA.out.set 1 _
 have HCs:Hid (RL (w1.setCell ⟨w.heap.size,1,none⟩ (.slice a' hd.length (hd.length+1))) (w.heap.size+1) 25 [.string ⟨#[]⟩,.slice none 0 0,.slice none 0 0]):=RL.other HB.out (by omega) _;have HTs:Hid (TwA (w1.setCell ⟨w.heap.size,1,none⟩ (.slice a' hd.length (hd.length+1))) (w.heap.size+2) hd a' (hd.length+1)):=HTW.out.set (by omega);have hsz:w.heap.size+2≤(w1.setCell ⟨w.heap.size,1,none⟩ (.slice a' hd.length (hd.length+1))).heap.size:=by have:=b1.size;simp at this⊢;omega
 clear b1 htw HR0 HR1 HT HBB HTW HB HB1;go_wp2_with fail;clear x1 x2 g1 HA;generalize w1.setCell ⟨w.heap.size,1,none⟩ (.slice a' hd.length (hd.length+1))=W at HBs HAs HCs HTs hsz⊢;refine Calls.mono (HT2.out _ HBs.out) ?_;rintro r w2 ⟨a2,l',rfl,b2,hl',hx',htb⟩;have HB2:Hid (Below w.heap.size w w2):=HBs.out.trans (b2.mono HBs.out.size);have HA2:Hid (RL w2 w.heap.size 25 [.string pr,.slice a' hd.length (hd.length+1),.slice ba bd.length bc]):=RL.below HAs.out b2
 have HC2:Hid (RL w2 (w.heap.size+1) 25 [.string ⟨#[]⟩,.slice none 0 0,.slice none 0 0]):=RL.below HCs.out b2;have HT3:Hid (TwA w2 (w.heap.size+2) hd a' (hd.length+1)):=HTs.out.below b2;have HT4:Hid (TwB w2 (w.heap.size+2) d l' a2 (bd.length+1)):=htb.lower hsz;have HX:Hid _:=hx';have HL:Hid _:=hl';have x0:=HA2.out.at (j:=0) rfl;have x1:=HA2.out.at (j:=1) rfl;have x2:=HA2.out.at (j:=2) rfl;have g2:=World.rowIs.frozen HA2.out 2
 have y0:=HC2.out.at (j:=0) rfl;have y1:=HC2.out.at (j:=1) rfl;have y2:=HC2.out.at (j:=2) rfl;have f0:=World.rowIs.frozen HC2.out 0;have f1:=World.rowIs.frozen HC2.out 1;have f2:=World.rowIs.frozen HC2.out 2;clear b2 htb HBs HAs HCs HTs hx' hl' hsz HT2;go_wp2;have hF:=(((RL.other (i:=2) HC2.out (by omega:w.heap.size+1≠w.heap.size) (.slice a2 bd.length (bd.length+1))).set 0 (.string pr)).set 1 (.slice a' hd.length (hd.length+1))).set 2 (.slice a2 bd.length (bd.length+1))
 refine bodyPost_ret (ZO Tryz.results6 (v:=.agg #[.string pr,.slice a' hd.length (hd.length+1),.slice a2 bd.length (bd.length+1)]) rfl (run_loadVar_mid _ _ 0 25 [.string pr,.slice a' hd.length (hd.length+1),.slice a2 bd.length (bd.length+1)] _ (RL.range hF) Tryz.underlying25 rfl (by kernel_rfl))) rfl ⟨⟨pr,hd,l'⟩,⟨a',hd.length+1,a2,bd.length+1⟩,by rw[HL.out],?_,⟨rfl,rfl,HL.out,HX.out⟩,?_,?_⟩
 ·exact(((HB2.out.setCell (p:=⟨w.heap.size,2,none⟩) (Nat.le_refl _) _).setCell (p:=⟨w.heap.size+1,0,none⟩) (by simp) _).setCell (p:=⟨w.heap.size+1,1,none⟩) (by simp) _).setCell (p:=⟨w.heap.size+1,2,none⟩) (by simp) _
 ·exact((((HT3.out.set (by omega)).set (by omega)).set (by omega)).set (by omega)).lower (by omega)
 ·exact((((HT4.out.set (by omega)).set (by omega)).set (by omega)).set (by omega)).lower (by omega)
end
section
open Go.RowKit Go.Maps
theorem LikeR.map{r s:R3}(h:LikeR r s):s.bd.map XL.x=r.bd.map XL.x:=by
 refine List.ext_getElem (by simp[h.bl]) fun i h1 h2=>?_
 simp only[List.length_map]at h1 h2;have:=h.bd i h2;rw[ZS h1,ZS h2]at this;simpa using this
theorem ZpO(d:Nat)(l:List XL):l.flatMap (fun y=>Zl d y.x)=(l.map XL.x).flatMap (Zl d):=by rw[List.flatMap_map]
theorem ZqG(l:List XL):l.all (fun y=>ZQ y.x)=(l.map XL.x).all ZQ:=by rw[List.all_map];rfl
theorem LikeR.terms{r s:R3}(h:LikeR r s)(d:Nat):Zi d s=Zi d r:=by
 unfold Zi;rw[h.hd,ZpO,ZpO,h.map]
theorem LikeR.ruleB{r s:R3}(h:LikeR r s)(d:Nat):ruleB d s=ruleB d r:=by
 unfold Go.Proofs.YtjdnpgpbeppgjaaGreatDoor.ruleB;rw[h.terms d,h.pr,h.hd,h.bl,ZqG,ZqG,h.map]
theorem LikeR.small{r s:R3}(h:LikeR r s){d:Nat}(hs:Zaj d r):Zaj d s:=by
 refine⟨by rw[h.hd];exact hs.hd,by rw[h.bl];exact hs.bd,fun y hy=>?_,by rw[h.terms d];exact hs.terms⟩;have h1:y.x∈s.bd.map XL.x:=List.mem_map.2 ⟨y,hy,rfl⟩;rw[h.map]at h1;obtain⟨z,hz,e⟩:=List.mem_map.1 h1;rw[←e];exact hs.each z hz
theorem TwR.is{u w0:World}{lo d:Nat}{r s:R3}{p q:RP}(h:TwR u lo d s q)(hl:LikeR r s)(h0:RIs w0 d r p)(hs:Zaj d r):RIs u d s q:=by
 have hsb:s.bd.length≤1048576:=by rw[hl.bl];exact hs.bd
 refine⟨by rw[hl.pr];exact h0.pb,by rw[hl.hd];exact h0.hl,by rw[hl.bl];exact h0.bl,?_,?_,fun y hy=>?_⟩
 ·have hh:=h.hd;rw[hl.hd]at hh⊢;exact hh.la h0.hd hs.hd
 ·have hb:=h.bd;have hcap:=hb.cap;obtain⟨g,ha,_,hg,_,hk⟩:=hb.lies;rw[ha,hcap];exact ZaC (f:=XL.cells) (k:=16) (by omega) (fun _=>rfl) XL0 (by omega) (by unfold maxLen;omega) hg hk
 ·obtain⟨i,hi,rfl⟩:=List.getElem_of_mem hy;have hir:i<r.bd.length:=by rw[←hl.bl];exact hi
  have h1:=h.bd.each i hi;have h2:=h0.bd.at_is hir;have h3:=hl.bd i hir;have h4:(atL r.bd i).x.ts.length≤1048576:=by rw[ZS hir];exact(hs.each _ (List.getElem_mem hir)).1
  rw[←h3]at h2 h4;have h5:=h1.toIs h2 h4;rw[ZS hi]at h5;exact h5
def apR(f:T→T)(d:Nat)(r:R3):R3:=⟨r.pr,r.hd.map (apA f),r.bd.map (apX f d)⟩
def noR:R3:=⟨noS,[],[]⟩
def okR(s:List P)(d:Nat)(r:R3):Bool:=ruleB d r&&ruleB d (apR (ZkQ s) d r)
def ZhR(s:List P)(d:Nat)(r:R3):R3:=if okR s d r then apR (ZkQ s) d r else noR
theorem ZcC(f:T→T):∀(d:Nat) (e:E),Zg d (apD f d e)=(Zg d e).map f
 | 0,e=>rfl
 | d+1,e=>by
  rw[ZcZ,Zao,Zao];show f e.t::(e.kids.map (apD f d)).flatMap (Zg d)=_;rw[List.flatMap_map,List.map_cons,List.map_flatMap]
  congr 1
  congr 1
  funext x
  exact ZcC f d x
theorem ZdK(f:T→T):∀(d:Nat) (e:E),ZZ d e→ZZ d (apD f d e)
 | 0,e,_=>trivial
 | d+1,e,h=>by
  rw[ZcZ];have hl:(e.kids.map (apD f d)).length=e.kids.length:=by simp
  refine⟨by show(e.kids.map (apD f d)).length≤_;rw[hl];exact h.1,fun i hi=>?_⟩;have hi':i<e.kids.length:=by rw[←hl];exact hi
  show ZZ d (atE (e.kids.map (apD f d)) i);rw[Zk8 _ hi'];exact ZdK f d _ (h.2 i hi')
theorem Zj0(f:T→T){d:Nat}{x:Lit4}(h:ZbM d x):ZbM d (apL f d x):=by
 refine⟨by show(x.ts.map f).length≤_;rw[List.length_map];exact h.1,⟨ZdK f d _ h.2.1.1,?_⟩,ZdK f d _ h.2.2.1,?_⟩
 ·show(Zg d (apD f d x.l)).length≤_;rw[ZcC,List.length_map];exact h.2.1.2
 ·show(Zg d (apD f d x.r)).length≤_;rw[ZcC,List.length_map];exact h.2.2.2
theorem Zj1(f:T→T)(d:Nat)(x:Lit4):Zl d (apL f d x)=(Zl d x).map f:=by
 unfold Zl apL;simp only[List.map_append,ZcC]
theorem Zj2(f:T→T)(d:Nat)(r:R3):Zi d (apR f d r)=(Zi d r).map f:=by
 unfold Zi apR;simp only[List.map_append,List.map_map,List.flatMap_map,List.map_flatMap]
 congr 1
 congr 1
 funext y
 exact Zj1 f d y.x
theorem ZlT(f:T→T){d:Nat}{r:R3}(h:Zaj d r):Zaj d (apR f d r):=by
 refine⟨by show(r.hd.map _).length≤_;rw[List.length_map];exact h.hd,by show(r.bd.map _).length≤_;rw[List.length_map];exact h.bd,fun y hy=>?_,by rw[Zj2,List.length_map];exact h.terms⟩;obtain⟨z,hz,rfl⟩:=List.mem_map.1 hy;exact Zj0 f (h.each z hz)
theorem LikeR.of{r s:R3}(h1:s.pr=r.pr)(h2:s.hd=r.hd)(h3:s.bd.map XL.x=r.bd.map XL.x):LikeR r s:=by
 have hl:s.bd.length=r.bd.length:=by have:=congrArg List.length h3;simpa using this
 refine⟨h1,h2,hl,fun i hi=>?_⟩;have e1:(s.bd.map XL.x)[i]?=(r.bd.map XL.x)[i]?:=by rw[h3]
 rw[List.getElem?_map,List.getElem?_map,List.getElem?_eq_getElem (by omega),List.getElem?_eq_getElem hi]at e1;rw[ZS (by omega),ZS hi];exact Option.some.inj e1
theorem Zk7(f:T→T)(d:Nat)(l:List XL):(l.map (apX f d)).map XL.x=(l.map XL.x).map (apL f d):=by simp[apX]
theorem Znd{f:T→T}{d:Nat}{r:R3}{xs:List XL}(h:xs.map XL.x=r.bd.map XL.x):LikeR (apR f d r) ⟨r.pr,r.hd.map (apA f),xs.map (apX f d)⟩:=LikeR.of rfl rfl (by show(xs.map (apX f d)).map XL.x=(r.bd.map (apX f d)).map XL.x;rw[Zk7,Zk7,h])
theorem LikeR.refl(r:R3):LikeR r r:=LikeR.of rfl rfl rfl
theorem Zfx{fn:Func}{sl s2:Nat}{ty:TypeId}(hr:fn.results=#[.cell sl ty,.tmp s2]){W:World}{tmps:Array Value}{b:Nat}{v u:Value}(h2:tmps.getD sl undef=.pointer (some ⟨b,0,none⟩))(h3:tmps.getD s2 undef=u)(hl:(loadVar ty ⟨b,0,none⟩).run Tryz.prog W=.ok v W) :
  (results fn tmps).run Tryz.prog W=.ok (.tuple #[v,u]) W:=by
 have h2':tmps[sl]?.getD undef=.pointer (some ⟨b,0,none⟩):=by simpa using h2
 have h3':tmps[s2]?.getD undef=u:=by simpa using h3
 unfold results;rw[hr];simp[h2',h3',asAddr,hl,Result.andThen]
theorem Zne(w:World)(d:Nat):RIs w d noR ⟨none,0,none,0⟩:=
 ⟨by decide,Nat.zero_le _,Nat.zero_le _,⟨⟨Nat.zero_le _,none,0,rfl,Nat.le_refl _,Nat.zero_le _,fun h=>absurd h (by simp[noR])⟩,fun t ht=>by cases ht⟩,⟨⟨Nat.zero_le _,none,0,rfl,Nat.le_refl _,Nat.zero_le _,fun h=>absurd h (by simp[noR])⟩,fun t ht=>by cases ht⟩⟩
theorem Znf(s:List P):res (ZbZ s)=ZkQ s:=funext (Znb s)
end
section
open Go.RowKit Go.Maps
attribute [local go_sem ↓] Go.wp_at_zero Go.wp_at_succ
end
section
open Go.RowKit Go.Maps
attribute [local go_sem ↓] Go.wp_at_zero Go.wp_at_succ
attribute [-go_sem] loadVar storeVar
end
section
open Go.RowKit Go.Maps
attribute [local go_sem ↓] Go.wp_at_zero Go.wp_at_succ
def Frr(lo:Nat)(wr:World)(d:Nat)(r:R3)(p:RP):Prop:=
 ∀w'':World,wr.heap.size≤w''.heap.size→(∀k,lo≤k→k<wr.heap.size→w''.heap[k]?=wr.heap[k]?)→RIs w'' d r p
end
end Go.Proofs.YtjdnpgpbeppgjaaGreatDoor
