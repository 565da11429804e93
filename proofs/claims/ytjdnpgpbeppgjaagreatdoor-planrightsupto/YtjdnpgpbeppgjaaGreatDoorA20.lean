import Derived.Test.YtjdnpgpbeppgjaaGreatDoorA19
import Derived.RangeFuncBox
import Derived.RangeFuncWrites
set_option linter.unusedSimpArgs false
set_option linter.unusedVariables false
set_option maxHeartbeats 6400000
set_option maxRecDepth 100000
namespace Go.Proofs.YtjdnpgpbeppgjaaGreatDoor
section
open Go.RowKit Go.Maps Go.Shelf
attribute [local go_sem ↓] Go.wp_at_zero Go.wp_at_succ
attribute [local go_sem] Oper.semAt_some
structure Ck (n0:Nat) (A W:World):Prop where
 os:W.os=A.os
 tape:W.tape=A.tape
 output:W.output=A.output
 size:A.heap.size≤W.heap.size
 low:∀k,k<n0→W.heap[k]?=A.heap[k]?
 cells:∀(k:Nat) (cs:Array Value) (t:TypeId) (z:Nat × Nat),A.heap[k]?=some (Obj.cells cs t z)→W.heap[k]?=some (Obj.cells cs t z)
theorem Ck.refl(n0:Nat)(A:World):Ck n0 A A:=⟨rfl,rfl,rfl,Nat.le_refl _,fun _ _=>rfl,fun _ _ _ _ h=>h⟩
theorem Zp8{β:Type}{n0 B:Nat}{A:World}(hn:n0≤A.heap.size)(hB:n0≤B):OwnFrom B (fun(_:β) W=>Ck n0 A W):=by
 intro s W W' row hs hg hr;refine⟨hg.os.trans hs.os,hg.tape.trans hs.tape,hg.output.trans hs.output,Nat.le_trans hs.size hg.size,fun k hk=>?_,fun k cs t z hk=>?_⟩
 ·rw[hg.block k (by have:=hs.size;omega) (fun e=>by have:=(hr k e.symm).1;omega)];exact hs.low k hk
 ·have h1:=hs.cells k cs t z hk;rw[hg.block k (Array.getElem?_eq_some_iff.1 h1).1 (fun e=>?_)]
  ·exact h1
  ·obtain⟨_,o',ho',hc'⟩:=hr k e.symm;rw[h1]at ho'
   cases ho'
   cases hc'
theorem Ck.below{n0 B:Nat}{A W w:World}(h:Ck n0 A W)(hb:Below B w A)(hn:B≤n0):Below B w W:=
 ⟨h.os.trans hb.os,h.tape.trans hb.tape,h.output.trans hb.output,Nat.le_trans hb.size h.size,fun k hk=>(h.low k (by omega)).trans (hb.block k hk)⟩
theorem Ck.rl{n0:Nat}{A W:World}(h:Ck n0 A W){b:Nat}{t:TypeId}{l:List Value}(hr:RL A b t l):RL W b t l:=by
 obtain⟨cs,hcs,rest⟩:=hr;exact⟨cs,h.cells _ _ _ _ hcs,rest⟩
theorem Ck.own{n0:Nat}{A W:World}(h:Ck n0 A W){B:Nat}{e:TypeId}{k:Nat}{v:Value}{n:Nat}{xs:List Value}(ho:A.ownsRow B e k v n xs):W.ownsRow B e k v n xs:=by
 obtain⟨e1,e2 | ⟨g',cap',cur,e,hbase,hc,rest⟩⟩:=ho
 ·exact⟨e1,.inl e2⟩
 ·exact⟨e1,.inr ⟨g',cap',cur,e,hbase,h.cells _ _ _ _ hc,rest⟩⟩
def Zi4(d:Nat)(ss:List ByteArray)(l:List XL)(i:Nat):Bool := !decide ((atL l i).x.k=1)&&((stL d ss l i).k != 0)
def Zd8(l:List XL)(i:Nat):Bool:=decide ((atL l i).x.k=1)
def ZaL(d:Nat)(ss:List ByteArray)(l:List XL)(left:Nat):St × Bool:=
 match (Z4 left).find? (Zi4 d ss l)with
 | some i=>(stL d ss l i,true)
 | none=>match (Z4 left).find? (Zd8 l)with
  | some i=>(stL d ss l i,(stL d ss l i).k != 0)
  | none=>(⟨0,0,0,[]⟩,false)
structure NxA (w:World) (n0:Nat) (t:St) (ok:Bool) (a:Option Addr) (c:Nat) (A:World):Prop where
 sz:n0≤A.heap.size
 bel:Below w.heap.size w A
 rs:RL A (w.heap.size+1) 84 [.int .i8 t.k,.int .i64 t.i,.int .u32 t.m,.slice a t.g.length c]
 rb:RL A (w.heap.size+2) 4 [.bool ok]
 own:A.ownsRow w.heap.size 9 1 (.slice a t.g.length c) t.g.length (t.g.flatMap Zm)
def NxR(w:World)(n0:Nat)(t:St)(ok:Bool)(W:World):Prop:=∃(a:Option Addr) (c:Nat) (A:World),NxA w n0 t ok a c A∧Ck n0 A W
theorem Zd9{β:Type}{n0 B:Nat}{w:World}(t:β→St)(ok:β→Bool)(hB:n0≤B):OwnFrom B (fun(s:β) W=>NxR w n0 (t s) (ok s) W):=by
 intro s W W' row ⟨a,c,A,h1,h2⟩ hg hr;exact⟨a,c,A,h1,Zp8 (β:=Unit) h1.sz hB () W W' row h2 hg hr⟩
theorem NxR.end{w:World}{n0:Nat}{t:St}{ok:Bool}{W:World}(h:NxR w n0 t ok W)(hn:w.heap.size≤n0):∃a c,Below w.heap.size w W∧RL W (w.heap.size+1) 84 [.int .i8 t.k,.int .i64 t.i,.int .u32 t.m,.slice a t.g.length c]∧RL W (w.heap.size+2) 4 [.bool ok]∧W.ownsRow w.heap.size 9 1 (.slice a t.g.length c) t.g.length (t.g.flatMap Zm):=by
 obtain⟨a,c,A,h1,h2⟩:=h;exact⟨a,c,h2.below h1.bel hn,h2.rl h1.rs,h2.rl h1.rb,h2.own h1.own⟩
theorem ZbB{B:Nat}{W W':World}(h:Below W.heap.size W W'):KeepsFrom B W W':=⟨h.size,fun k o _ hk _=>(h.block k (Array.getElem?_eq_some_iff.1 hk).1).trans hk⟩
theorem ZfU{fn:Func}{s1 s2:Nat}{t1 t2:TypeId}(hr:fn.results=#[.cell s1 t1,.cell s2 t2]){W:World}{tmps:Array Value}{b1 b2:Nat}{v u:Value}(h1:tmps.getD s1 undef=.pointer (some ⟨b1,0,none⟩))(h2:tmps.getD s2 undef=.pointer (some ⟨b2,0,none⟩))(l1:(loadVar t1 ⟨b1,0,none⟩).run Tryz.prog W=.ok v W)(l2:(loadVar t2 ⟨b2,0,none⟩).run Tryz.prog W=.ok u W) :
  (results fn tmps).run Tryz.prog W=.ok (.tuple #[v,u]) W:=by
 have h1':tmps[s1]?.getD undef=.pointer (some ⟨b1,0,none⟩):=by simpa using h1
 have h2':tmps[s2]?.getD undef=.pointer (some ⟨b2,0,none⟩):=by simpa using h2
 unfold results;rw[hr];simp[h1',h2',asAddr,l1,l2,Result.andThen]
theorem Zea{u:World}{a:Addr}{v:Value}(h:u.cell? a=some v):(loadVar 4 a).run Tryz.prog u=.ok v u:=by rw[loadVar.eq_1];go_simp
theorem Zhb{p:Nat→Bool}{M:Nat}(h:∀j,j<(Z4 M).length→p (ZX M j)=false):(Z4 M).find? p=none:=by
 rw[List.find?_eq_none];intro x hx;obtain⟨j,hj,e⟩:=List.getElem_of_mem hx;have:=h j hj;rw[ZX,List.getD,List.getElem?_eq_getElem hj,Option.getD_some,e]at this;rw[this]
 decide
theorem Zlk{p:Nat→Bool}{M k:Nat}(hk:k<(Z4 M).length)(h:∀j,j<k→p (ZX M j)=false)(hp:p (ZX M k)=true):(Z4 M).find? p=some (ZX M k):=by
 rw[List.find?_eq_some_iff_getElem];refine⟨hp,k,hk,?_,fun j hj=>?_⟩
 ·rw[ZX,List.getD,List.getElem?_eq_getElem hk,Option.getD_some]
 ·have:=h j hj;rw[ZX,List.getD,List.getElem?_eq_getElem (by omega),Option.getD_some]at this;rw[this];rfl
theorem ZfV{l:List XL}{left k:Nat}(hl:left<2^l.length)(hk:k<(Z4 left).length):ZX left k<l.length∧Zbu left (ZX left k:Nat)=true:=by
 have hm:ZX left k∈Z4 left:=by
  rw[ZX,List.getD,List.getElem?_eq_getElem hk,Option.getD_some];exact List.getElem_mem hk
 have h1:=(Zhc hm).1
 have h2:Zbu left (ZX left k:Nat)=true:=by
  unfold Zbu;rw[Int.toNat_natCast,h1];simp
 exact⟨by have:=(ZcH hl h2).2;simpa using this,h2⟩
theorem Zia{w:World}{B:Nat}{v:Value}{n:Nat}{xs:List Value}(h:w.ownsRow B 9 1 v n xs)(b:Nat)(hb:b<B)(k i m:Int)(u:Value):(st4 w b k i m u).ownsRow B 9 1 v n xs:=
 ownsRow_setCell_below (ownsRow_setCell_below (ownsRow_setCell_below (ownsRow_setCell_below h (a:=⟨b,0,none⟩) hb _) (a:=⟨b,1,none⟩) hb _) (a:=⟨b,2,none⟩) hb _) (a:=⟨b,3,none⟩) hb _
theorem ZaY(w:World)(g:Nat)(k i m:Int)(v:Value){b:Nat}(hne:b≠g):(st4 w g k i m v).heap[b]?=w.heap[b]?:=by
 unfold st4;rw[Below.heap_setCell _ _ _ _ hne,Below.heap_setCell _ _ _ _ hne,Below.heap_setCell _ _ _ _ hne,Below.heap_setCell _ _ _ _ hne]
theorem Zib{w V W1:World}{n0:Nat}{t:St}{ok:Bool}{a:Option Addr}{c:Nat}{z0 z1 z2 z3 zb:Value}(hw:Below w.heap.size w V)(hz:w.heap.size+3≤W1.heap.size)(hn:n0≤V.heap.size)(hr:RL V (w.heap.size+1) 84 [z0,z1,z2,z3])(hb:RL V (w.heap.size+2) 4 [zb])(ho:V.ownsRow W1.heap.size 9 1 (.slice a t.g.length c) t.g.length (t.g.flatMap Zm)) :
  NxA w n0 t ok a c ((st4 V (w.heap.size+1) t.k t.i t.m (.slice a t.g.length c)).setCell ⟨w.heap.size+2,0,none⟩ (.bool ok)):=by
 have hb1:w.heap.size≤w.heap.size+1:=by omega
 refine⟨?_,(ZW hw hb1 _ _ _ _).setCell (p:=⟨w.heap.size+2,0,none⟩) (by simp) _,?_,?_,?_⟩
 ·have h1:(st4 V (w.heap.size+1) t.k t.i t.m (.slice a t.g.length c)).heap.size=V.heap.size:=by simp[st4,World.setCell]
  simpa[World.setCell,h1]using hn
 ·have h1:=Za3 hr t.k t.i t.m (.slice a t.g.length c);have h2:w.heap.size+1≠w.heap.size+2:=by omega
  exact World.rowIs.of_block h1 (Below.heap_setCell _ ⟨w.heap.size+2,0,none⟩ _ _ h2)
 ·have h2:w.heap.size+2≠w.heap.size+1:=by omega
  have h1:RL (st4 V (w.heap.size+1) t.k t.i t.m (.slice a t.g.length c)) (w.heap.size+2) 4 [zb]:=World.rowIs.of_block hb (ZaY V (w.heap.size+1) t.k t.i t.m (.slice a t.g.length c) h2);exact h1.set 0 _
 ·have h5:=Zia ho (w.heap.size+1) (by omega) t.k t.i t.m (.slice a t.g.length c);have h6:w.heap.size+2<W1.heap.size:=by omega
  exact Zax (ownsRow_setCell_below h5 (a:=⟨w.heap.size+2,0,none⟩) h6 _) (by omega)
theorem Zll{w X:World}{D:Nat}{t:St}{ok:Bool}{a:Option Addr}{c:Nat}(hK:X.heap[D]?=some (.deferred (some [])))(hD:w.heap.size+3≤D)(hb:Below w.heap.size w X)(hr:RL X (w.heap.size+1) 84 [.int .i8 t.k,.int .i64 t.i,.int .u32 t.m,.slice a t.g.length c])(hq:RL X (w.heap.size+2) 4 [.bool ok])(ho:X.ownsRow w.heap.size 9 1 (.slice a t.g.length c) t.g.length (t.g.flatMap Zm)) :
  Below w.heap.size w (X.putObj D (.deferred none))∧RL (X.putObj D (.deferred none)) (w.heap.size+1) 84 [.int .i8 t.k,.int .i64 t.i,.int .u32 t.m,.slice a t.g.length c]∧RL (X.putObj D (.deferred none)) (w.heap.size+2) 4 [.bool ok]∧(X.putObj D (.deferred none)).ownsRow w.heap.size 9 1 (.slice a t.g.length c) t.g.length (t.g.flatMap Zm):=by
 have e:∀k,k≠D→(X.putObj D (.deferred none)).heap[k]?=X.heap[k]?:=fun k hk=>World.putObj_heap_other hk
 refine⟨⟨hb.os,hb.tape,hb.output,Nat.le_trans hb.size (by simp[World.putObj]),fun k hk=>(e k (by omega)).trans (hb.block k hk)⟩,World.rowIs.of_block hr (e _ (by omega)),World.rowIs.of_block hq (e _ (by omega)),Zx ho (fun g hg=>e g (fun h=>?_))⟩;obtain⟨e1,⟨e2,_⟩ | ⟨g',cap',cur,e3,hbase,hc,rest⟩⟩:=ho
 ·rw[e2]at hg
  cases hg
 ·rw[e3]at hg
  cases hg
  have h':g'=D:=h;rw[h',hK]at hc
  cases hc
theorem Zks{β:Type}{B D:Nat}{o:Obj}(hB:D<B):OwnFrom B (fun(_:β) W=>W.heap[D]?=some o):=by
 intro s W W' row hs hg hr;rw[hg.block D (Array.getElem?_eq_some_iff.1 hs).1 (fun e=>by have:=(hr D e.symm).1;omega)];exact hs
theorem Zeb{V W1:World}{B b:Nat}(h:KeepsFrom B W1 V)(hb:b+2≤B)(k i m:Int)(v x:Value):KeepsFrom B W1 ((st4 V b k i m v).setCell ⟨b+1,0,none⟩ x):=by
 have h1:(st4 V b k i m v).heap.size=V.heap.size:=by simp[st4,World.setCell]
 refine⟨?_,fun j o hj hk ho=>?_⟩
 ·simpa[World.setCell,h1]using h.size
 ·rw[Below.heap_setCell _ _ _ _ (by simp;omega),ZaY _ _ _ _ _ _ (by omega)];exact h.same j o hj hk ho
theorem Zec{u:World}{a:Addr}{v:Value}(h:u.cell? a=some v):(loadVar 110 a).run Tryz.prog u=.ok v u:=by rw[loadVar.eq_1];go_simp
attribute [-go_sem] loadVar
theorem ZfW{w:World}{tb kb d:Nat}{v:Value}{ss:List ByteArray}{left:Nat}{l:List XL}(hT:ZbN w tb kb v ss left)(hL:Lb w v d l)(hB:BdR d l)(hl:left<2^l.length)(hD:DT w) :
  Calls Tryz.prog 107 #[.pointer (some ⟨tb,0,none⟩)] w fun e w'=>Below w.heap.size w w'∧∃a c,e=.returned (.tuple #[(ZaL d ss l left).1.val a c,.bool (ZaL d ss l left).2])∧w'.ownsRow w.heap.size 9 1 (.slice a (ZaL d ss l left).1.g.length c) (ZaL d ss l left).1.g.length ((ZaL d ss l left).1.g.flatMap Zm):=by
 have h32:left<4294967296:=Nat.lt_of_lt_of_le hl (Nat.le_trans (Nat.pow_le_pow_right (by omega) hB.bn) (by decide));have hA3:Below w.heap.size w (((w.alloc (.cells #[.pointer (some ⟨tb,0,none⟩)] 110)).alloc (.cells #[.int .i8 0,.int .i64 0,.int .u32 0,.slice none 0 0] 84)).alloc (.cells #[.bool false] 4)):=(((Below.refl _ _).alloc (Nat.le_refl _) _).alloc (by simp) _).alloc (by simp;omega) _;have l2:=Zbc ((hA3.cell (p:=⟨tb,2,none⟩) hT.rl.lt).trans (RL.at hT.rl (j:=2) rfl))
 have HT:=Lib.hid hT;have HL:=Lib.hid hL;have HB:=Lib.hid hB;have HLT:=Lib.hid hl;have HDT:=Lib.hid hD;have HA3:=Lib.hid hA3;clear hT hL hB hl hD hA3;refine(callsIn_wide (n:=8)).1 ?_;refine callsIn_of_wp_marks Tryz.func107 rfl trivial ?_ rfl;simp only[Tryz.ntmps107,List.size_toArray,List.length_cons,List.length_nil,Nat.reduceAdd,Nat.reduceSub,Array.replicate_succ,Array.replicate_zero,List.push_toArray,List.append_toArray,List.nil_append,List.cons_append]
 have l1:(loadVar 110 ⟨w.heap.size,0,none⟩).run Tryz.prog (((w.alloc (.cells #[.pointer (some ⟨tb,0,none⟩)] 110)).alloc (.cells #[.int .i8 0,.int .i64 0,.int .u32 0,.slice none 0 0] 84)).alloc (.cells #[.bool false] 4))=.ok (.pointer (some ⟨tb,0,none⟩)) _:=Zec (by go_simp)
 gi_wp2_with fail
 refine⟨trivial,(callsIn_wide.2 (ZfX (left:Int) _)).mono ?_⟩;obtain⟨W3,hW3⟩:∃W3,W3=(((w.alloc (.cells #[.pointer (some ⟨tb,0,none⟩)] 110)).alloc (.cells #[.int .i8 0,.int .i64 0,.int .u32 0,.slice none 0 0] 84)).alloc (.cells #[.bool false] 4)):=⟨_,rfl⟩;have HS3:Hid (W3.heap.size=w.heap.size+3):=by show _=_;rw[hW3];simp
 have HP3:Hid (W3.cell? ⟨w.heap.size,0,none⟩=some (.pointer (some ⟨tb,0,none⟩))):=by show _=_;rw[hW3];go_simp
 have HR3:Hid (RL W3 (w.heap.size+1) 84 [.int .i8 0,.int .i64 0,.int .u32 0,.slice none 0 0]):=by
  show RL _ _ _ _;rw[hW3];have h1:=Zk (w.alloc (.cells #[.pointer (some ⟨tb,0,none⟩)] 110)) #[.int .i8 0,.int .i64 0,.int .u32 0,.slice none 0 0] 84;rw[World.size_alloc]at h1;exact RL.below h1 (Zp _)
 have HQ3:Hid (RL W3 (w.heap.size+2) 4 [.bool false]):=by
  show RL _ _ _ _;rw[hW3];have h1:=Zk ((w.alloc (.cells #[.pointer (some ⟨tb,0,none⟩)] 110)).alloc (.cells #[.int .i8 0,.int .i64 0,.int .u32 0,.slice none 0 0] 84)) #[.bool false] 4;rw[World.size_alloc,World.size_alloc]at h1;exact h1
 rw[←hW3]at HA3⊢;clear hW3 l1 l2;rintro e W4 ⟨b0,rfl,hc0,hb0,hb1,b4⟩;have HSQ:=Lib.hid (Zee 7 h32 ((HDT.out.below HA3.out).below b4) hc0 hb0);have HA4:=Lib.hid (HA3.out.trans (b4.mono HA3.out.size));have HP4:=Lib.hid ((b4.cell (p:=⟨w.heap.size,0,none⟩) (by have:=HS3.out;show w.heap.size<_;omega)).trans HP3.out);have HR4:=Lib.hid (RL.below HR3.out b4);have HQ4:=Lib.hid (RL.below HQ3.out b4)
 have HS4:Hid (w.heap.size+3≤W4.heap.size):=by
  show _≤_;have:=HS3.out;have:=b4.size;omega
 clear b4 hc0 hb0 hb1 HR3 HQ3 HP3 HS3 HA3
 gi_wp2_with fail
 have hmo:Tryz.prog.follows .mixedOrders=true:=by kernel_rfl
 have hdt:1<W4.heap.size:=Nat.lt_of_lt_of_le HDT.out.lt (by have:=HS4.out;omega)
 refine ZcW rfl (by omega) (gf:=301) (lb:=#[.pointer (some ⟨b0,0,none⟩)]) rfl trivial (enters_of Tryz.func301 (by kernel_rfl) rfl) HSQ.out (fun h k=>k.trans h)
  (fun W l o o' hl _ _ _=>World.putObj_heap_other (by omega)) (Below.refl _ _) (fun _=>rfl)
  (fun k W=>Below W4.heap.size W4 W∧∀j,j<k→Zi4 d ss l (ZX left j)=false) (fun c k W=>(c=.ret∧k≤(Z4 left).length∧∃j,j+1=k∧(Z4 left).find? (Zi4 d ss l)=some (ZX left j))∧NxR w W4.heap.size (stL d ss l (ZX left (k-1))) true W)
  (OwnFrom.and (ownFrom_below (Nat.le_refl _) (Nat.le_refl _)) (ownFrom_pure _ _))
  (fun c=>OwnFrom.and (ownFrom_pure _ _) (Zd9 (fun k=>stL d ss l (ZX left (k-1))) (fun _=>true) (Nat.le_refl _))) ⟨Below.refl _ _,fun j hj=>absurd hj (Nat.not_lt_zero _)⟩
  (fun k a' _=>a'={tmps:=#[.pointer (some ⟨tb,0,none⟩),.pointer (some ⟨w.heap.size,0,none⟩),.pointer (some ⟨w.heap.size+1,0,none⟩),.pointer (some ⟨w.heap.size+1+1,0,none⟩),.int .i64 ((ZX left k:Nat):Int),undef,undef,undef,.pointer (some ⟨tb,0,none⟩),.pointer (some ⟨tb,0,none⟩),.pointer (some ⟨tb,2,none⟩),.int .u32 (left:Int),.func (.func 301) #[] #[.pointer (some ⟨b0,0,none⟩)],.int .i64 ((ZX left k:Nat):Int),undef,undef,undef,undef,undef,undef,undef,undef,undef,undef,undef,undef,undef,undef,undef,undef,undef,undef,undef,undef,undef,undef,undef,undef,undef,undef],defers:=[]})
  (fun _ _ _ _ _ _ hs _ _=>hs) ?assign ?body ?done ?stop
 case assign=>
  intro l' k W K hk hi hK;have hK':=hK _ W (KeepsFrom.refl _ _) rfl hi rfl;clear hK hi HSQ HA4 HP4 HR4 HQ4 HS4;unfold Zic
  gi_wp2
  exact hK'
 case body=>
  rintro l' k a' W hk ⟨hbw,hno⟩ rfl;obtain⟨hil,hih⟩:=ZfV HLT.out hk;have HBW:=Lib.hid hbw;have HNO:=Lib.hid hno;have HIL:=Lib.hid hil;have HWW:=Lib.hid (HA4.out.trans (hbw.mono HA4.out.size));have l1:=Zec ((hbw.cell (p:=⟨w.heap.size,0,none⟩) (by have:=HS4.out;show w.heap.size<_;omega)).trans HP4.out);have HTW:Hid (ZbN W tb kb v ss left):=⟨RL.below HT.out.rl HWW.out,HT.out.set.of_block (HWW.out.block kb HT.out.set.lt),HT.out.ne⟩
  have HTA:=Lib.hid (ZcI HTW.out (HL.out.below HWW.out) HB.out.bn HLT.out ((ZX left k:Nat):Int));have HKL:=Lib.hid hk
  have HAT:Hid (Zb2 l left ((ZX left k:Nat):Int)=Zd8 l (ZX left k)):=by
   show _=_;unfold Zb2 Zd8;rw[hih,Int.toNat_natCast,Bool.true_and]
  have HST:=Lib.hid (Zeg (d:=d) (k:=ZX left k) HTW.out (HL.out.below HWW.out) hil HB.out.bn (HB.out.bc _ hil) (HB.out.bl _ hil) (HB.out.br _ hil));have HFA:Hid (Zi4 d ss l (ZX left k)=true→(Z4 left).find? (Zi4 d ss l)=some (ZX left k)):=fun h=>Zlk hk HNO.out h
  have HTR:Hid (Zi4 d ss l (ZX left k)=(!Zd8 l (ZX left k)&&((stL d ss l (ZX left k)).k != 0))):=rfl
  have HGO:Hid (Zi4 d ss l (ZX left k)=false→∀j,j<k+1→Zi4 d ss l (ZX left j)=false):=fun h j hj=>by
   by_cases hjk:j=k
   ·rw[hjk];exact h
   ·exact HNO.out j (by omega)
  clear hbw hno hih hil hk HSQ;rw[HAT.out]at HTA
  gi_wp2_with fail
  refine⟨trivial,(CallsIn.inRound l' (callsIn_wide.2 HTA.out)).mono ?_⟩;rintro e w1 ⟨rfl,rfl⟩
  cases ha:Zd8 l (ZX left k)
  ·rw[ha]at HTR;rw[show(!false:Bool)=true from rfl,Bool.true_and]at HTR;obtain⟨t,ht⟩:∃t,t=stL d ss l (ZX left k):=⟨_,rfl⟩;rw[←ht]at HST HTR;have HTQ:=Lib.hid ht;clear ht HTA ha;obtain⟨tk,ti,tm,tg⟩:=t;unfold St.val at HST;simp only at HST HTR
   gi_wp2_with fail
   refine⟨trivial,(CallsIn.inRound l' (callsIn_wide.2 HST.out)).mono ?_⟩;rintro e w2 ⟨b2,a2,c2,rfl,hown⟩;have HB2:=Lib.hid b2;have HOW:=Lib.hid hown;have HBX:Hid (Below w1.heap.size w1 (w2.alloc (.cells #[.int .i8 tk,.int .i64 ti,.int .u32 tm,.slice a2 tg.length c2] 84))):=b2.trans ((Zp _).mono b2.size);have HZR:=Lib.hid (RL.below (RL.below HR4.out HBW.out) HBX.out);have HZB:=Lib.hid (RL.below (RL.below HQ4.out HBW.out) HBX.out)
   have l5:=ZG (Zk w2 #[.int .i8 tk,.int .i64 ti,.int .u32 tm,.slice a2 tg.length c2] 84);clear HST b2 hown l1
   cases hz:(tk != 0)
   ·have HFF:=Lib.hid (HGO.out (by rw[HTR.out,hz]));clear HTR HGO HFA HZR HZB l5 hz
    gi_wp2
    exact⟨ZbB HBX.out,HBX.out.block _ (Nat.lt_of_lt_of_le hdt HBW.out.size),HBW.out.trans (HBX.out.mono HBW.out.size),HFF.out⟩
   ·have HFF:=Lib.hid (HFA.out (by rw[HTR.out,hz]));have z0:=RL.at HZR.out (j:=0) rfl;have z1:=RL.at HZR.out (j:=1) rfl;have z2:=RL.at HZR.out (j:=2) rfl;have z3:=RL.at HZR.out (j:=3) rfl;have y0:=World.rowIs.frozen HZR.out 0;have y1:=World.rowIs.frozen HZR.out 1;have y2:=World.rowIs.frozen HZR.out 2;have y3:=World.rowIs.frozen HZR.out 3;have q0:=RL.at HZB.out (j:=0) rfl;have g0:=World.rowIs.frozen HZB.out 0
    have HWV:Hid (Below w.heap.size w (w2.alloc (.cells #[.int .i8 tk,.int .i64 ti,.int .u32 tm,.slice a2 tg.length c2] 84))):=HWW.out.trans (HBX.out.mono HWW.out.size);clear HTR HGO HFA hz
    gi_wp2
    refine⟨Zeb (b:=w.heap.size+1) (ZbB HBX.out) HS4.out tk ti tm (.slice a2 tg.length c2) (.bool true),⟨rfl,HKL.out,k,rfl,HFF.out⟩,a2,c2,_,?_,Ck.refl _ _⟩;rw[show k+1-1=k from rfl,←HTQ.out];exact Zib (t:=⟨tk,ti,tm,tg⟩) HWV.out (W1:=w1) (Nat.le_trans HS4.out HBW.out.size) (Nat.le_trans HBW.out.size HBX.out.size) HZR.out HZB.out (Zn HOW.out (Zp _))
  ·have HFF:=Lib.hid (HGO.out (by rw[HTR.out,ha];rfl));clear ha HTR HGO HFA HST HTA l1
   gi_wp2
   exact⟨KeepsFrom.refl _ _,rfl,HBW.out,HFF.out⟩
 case done=>
  rintro D W hD ⟨hbw,hno⟩ hKD;have hFN:=Zhb hno;have HFN:=Lib.hid hFN;have HWW:=Lib.hid (HA4.out.trans (hbw.mono HA4.out.size));have HRW:=Lib.hid (RL.below HR4.out hbw);have HQW:=Lib.hid (RL.below HQ4.out hbw);have HSW:Hid (W4.heap.size≤W.heap.size):=hbw.size;have HKD:=Lib.hid hKD;have l1:=Zec ((hbw.cell (p:=⟨w.heap.size,0,none⟩) (by have:=HS4.out;show w.heap.size<_;omega)).trans HP4.out)
  have HPW:=Lib.hid ((hbw.cell (p:=⟨w.heap.size,0,none⟩) (by have:=HS4.out;show w.heap.size<_;omega)).trans HP4.out);have l2:=Zbc (RL.at (RL.below HT.out.rl HWW.out) (j:=2) rfl);clear hbw hno hFN hKD HSQ
  gi_wp2_with fail
  refine⟨trivial,(callsIn_wide.2 (ZfX (left:Int) _)).mono ?_⟩;clear l1 l2;rintro e W6 ⟨b1,rfl,hc1,hb1,_,b6⟩;have HSQ2:=Lib.hid (Zee 7 h32 ((HDT.out.below HWW.out).below b6) hc1 hb1);have HA6:=Lib.hid (HWW.out.trans (b6.mono HWW.out.size));have HDW:D<W.heap.size:=(Array.getElem?_eq_some_iff.1 HKD.out).1;have HP6:=Lib.hid ((b6.cell (p:=⟨w.heap.size,0,none⟩) (by have:=HS4.out;have:=HSW.out;show w.heap.size<_;omega)).trans HPW.out)
  have HR6:=Lib.hid (RL.below HRW.out b6);have HQ6:=Lib.hid (RL.below HQW.out b6);have HK6:=Lib.hid ((b6.block D HDW).trans HKD.out);have HD6:Hid (D<W6.heap.size):=Nat.lt_of_lt_of_le HDW b6.size;have HDG:Hid (w.heap.size+3≤D):=Nat.le_trans HS4.out hD
  have HS6:Hid (w.heap.size+3≤W6.heap.size):=by
   show _≤_;have:=HS4.out;have:=HSW.out;have:=b6.size;omega
  clear b6 hc1 hb1 HRW HQW HPW HKD HDW HSW HWW HR4 HQ4 HP4
  gi_wp2_with fail
  have hdt6:1<W6.heap.size:=Nat.lt_of_lt_of_le HDT.out.lt (by have:=HS6.out;omega)
  refine ZcW rfl (by omega) (gf:=301) (lb:=#[.pointer (some ⟨b1,0,none⟩)]) rfl trivial (enters_of Tryz.func301 (by kernel_rfl) rfl) HSQ2.out (fun h k=>k.trans h)
   (fun W l o o' hl _ _ _=>World.putObj_heap_other (by omega)) (Below.refl _ _) (fun _=>rfl)
   (fun k X=>Below W6.heap.size W6 X∧∀j,j<k→Zd8 l (ZX left j)=false) (fun c k X=>(c=.ret∧∃j,j+1=k∧(Z4 left).find? (Zd8 l)=some (ZX left j))∧NxR w W6.heap.size (stL d ss l (ZX left (k-1))) ((stL d ss l (ZX left (k-1))).k != 0) X∧X.heap[D]?=some (.deferred (some [])))
   (OwnFrom.and (ownFrom_below (Nat.le_refl _) (Nat.le_refl _)) (ownFrom_pure _ _))
   (fun c=>OwnFrom.and (ownFrom_pure _ _) (OwnFrom.and (Zd9 (fun k=>stL d ss l (ZX left (k-1))) (fun k=>(stL d ss l (ZX left (k-1))).k != 0) (Nat.le_refl _)) (Zks HD6.out))) ⟨Below.refl _ _,fun j hj=>absurd hj (Nat.not_lt_zero _)⟩
   (fun k a' _=>a'={tmps:=#[.pointer (some ⟨tb,0,none⟩),.pointer (some ⟨w.heap.size,0,none⟩),.pointer (some ⟨w.heap.size+1,0,none⟩),.pointer (some ⟨w.heap.size+1+1,0,none⟩),undef,undef,undef,.int .i64 ((ZX left k:Nat):Int),.pointer (some ⟨tb,0,none⟩),.pointer (some ⟨tb,0,none⟩),.pointer (some ⟨tb,2,none⟩),.int .u32 (left:Int),.func (.func 301) #[] #[.pointer (some ⟨b0,0,none⟩)],undef,undef,undef,undef,undef,undef,undef,undef,undef,undef,undef,undef,.pointer (some ⟨tb,0,none⟩),.pointer (some ⟨tb,0,none⟩),.pointer (some ⟨tb,2,none⟩),.int .u32 (left:Int),.func (.func 301) #[] #[.pointer (some ⟨b1,0,none⟩)],.int .i64 ((ZX left k:Nat):Int),undef,undef,undef,undef,undef,undef,undef,undef,undef],defers:=[]})
   (fun _ _ _ _ _ _ hs _ _=>hs) ?assign2 ?body2 ?done2 ?stop2
  case assign2=>
   intro l' k X K hk hi hK;have hK':=hK _ X (KeepsFrom.refl _ _) rfl hi rfl;clear hK hi HSQ2 HA6 HP6 HR6 HQ6 HS6 HK6;unfold Zic
   gi_wp2
   exact hK'
  case body2=>
   rintro l' k a' X hk ⟨hbw,hno⟩ rfl;obtain⟨hil,hih⟩:=ZfV HLT.out hk;have HBW:=Lib.hid hbw;have HNO:=Lib.hid hno;have HWW:=Lib.hid (HA6.out.trans (hbw.mono HA6.out.size));have l1:=Zec ((hbw.cell (p:=⟨w.heap.size,0,none⟩) (by have:=HS6.out;show w.heap.size<_;omega)).trans HP6.out);have HTW:Hid (ZbN X tb kb v ss left):=⟨RL.below HT.out.rl HWW.out,HT.out.set.of_block (HWW.out.block kb HT.out.set.lt),HT.out.ne⟩
   have HTA:=Lib.hid (ZcI HTW.out (HL.out.below HWW.out) HB.out.bn HLT.out ((ZX left k:Nat):Int))
   have HAT:Hid (Zb2 l left ((ZX left k:Nat):Int)=Zd8 l (ZX left k)):=by
    show _=_;unfold Zb2 Zd8;rw[hih,Int.toNat_natCast,Bool.true_and]
   have HST:=Lib.hid (Zeg (d:=d) (k:=ZX left k) HTW.out (HL.out.below HWW.out) hil HB.out.bn (HB.out.bc _ hil) (HB.out.bl _ hil) (HB.out.br _ hil));have HFA:Hid (Zd8 l (ZX left k)=true→(Z4 left).find? (Zd8 l)=some (ZX left k)):=fun h=>Zlk hk HNO.out h
   have HGO:Hid (Zd8 l (ZX left k)=false→∀j,j<k+1→Zd8 l (ZX left j)=false):=fun h j hj=>by
    by_cases hjk:j=k
    ·rw[hjk];exact h
    ·exact HNO.out j (by omega)
   clear hbw hno hih hil hk HSQ2;rw[HAT.out]at HTA
   gi_wp2_with fail
   refine⟨trivial,(CallsIn.inRound l' (callsIn_wide.2 HTA.out)).mono ?_⟩;rintro e w1 ⟨rfl,rfl⟩
   cases ha:Zd8 l (ZX left k)
   ·have HFF:=Lib.hid (HGO.out ha);clear ha HGO HFA HST HTA l1
    gi_wp2
    exact⟨KeepsFrom.refl _ _,rfl,HBW.out,HFF.out⟩
   ·have HFF:=Lib.hid (HFA.out ha);obtain⟨t,ht⟩:∃t,t=stL d ss l (ZX left k):=⟨_,rfl⟩;rw[←ht]at HST;have HTQ:=Lib.hid ht;clear ht HTA ha HGO HFA;obtain⟨tk,ti,tm,tg⟩:=t;unfold St.val at HST;simp only at HST
    gi_wp2_with fail
    refine⟨trivial,(CallsIn.inRound l' (callsIn_wide.2 HST.out)).mono ?_⟩;rintro e w2 ⟨b2,a2,c2,rfl,hown⟩;have HB2:=Lib.hid b2;have HOW:=Lib.hid hown;have HZR:=Lib.hid (RL.below (RL.below HR6.out HBW.out) b2);have HZB:=Lib.hid (RL.below (RL.below HQ6.out HBW.out) b2);have z0:=RL.at HZR.out (j:=0) rfl;have z1:=RL.at HZR.out (j:=1) rfl;have z2:=RL.at HZR.out (j:=2) rfl;have z3:=RL.at HZR.out (j:=3) rfl
    have y0:=World.rowIs.frozen HZR.out 0;have y1:=World.rowIs.frozen HZR.out 1;have y2:=World.rowIs.frozen HZR.out 2;have y3:=World.rowIs.frozen HZR.out 3;have q0:=RL.at HZB.out (j:=0) rfl;have g0:=World.rowIs.frozen HZB.out 0;have HWV:Hid (Below w.heap.size w w2):=HWW.out.trans (b2.mono HWW.out.size);clear HST l1 b2 hown
    gi_wp2
    refine⟨Zeb (b:=w.heap.size+1) (ZbB HB2.out) HS6.out tk ti tm (.slice a2 tg.length c2) (.bool (tk != 0)),⟨rfl,k,rfl,HFF.out⟩,⟨a2,c2,_,?_,Ck.refl _ _⟩,?_⟩
    ·rw[show k+1-1=k from rfl,←HTQ.out];exact Zib (t:=⟨tk,ti,tm,tg⟩) HWV.out (W1:=w1) (Nat.le_trans HS6.out HBW.out.size) (Nat.le_trans HBW.out.size HB2.out.size) HZR.out HZB.out HOW.out
    ·have h1:D≠w.heap.size+2:=by have:=HDG.out;omega
     have h2:D≠w.heap.size+1:=by have:=HDG.out;omega
     have h3:=((HB2.out.block D (Nat.lt_of_lt_of_le HD6.out HBW.out.size)).trans (HBW.out.block D HD6.out)).trans HK6.out
     have h4:((st4 w2 (w.heap.size+1) tk ti tm (.slice a2 tg.length c2)).setCell ⟨w.heap.size+2,0,none⟩ (.bool (tk != 0))).heap[D]?=some (.deferred (some [])):=by
      rw[Below.heap_setCell _ ⟨w.heap.size+2,0,none⟩ _ _ h1,ZaY _ _ _ _ _ _ h2];exact h3
     exact h4
  case done2=>
   rintro D2 X hD2 ⟨hbw,hno⟩ hKD2;have hFN2:=Zhb hno
   have HNM:Hid (ZaL d ss l left=(⟨0,0,0,[]⟩,false)):=by
    show _=_;unfold ZaL;rw[HFN.out,hFN2]
   have HZR:=Lib.hid (RL.below HR6.out hbw);have HZB:=Lib.hid (RL.below HQ6.out hbw);have HK1:=Lib.hid ((hbw.block D HD6.out).trans HK6.out);have HK2:=Lib.hid hKD2;have HBX:=Lib.hid hbw;have z0:=RL.at HZR.out (j:=0) rfl;have z1:=RL.at HZR.out (j:=1) rfl;have z2:=RL.at HZR.out (j:=2) rfl;have z3:=RL.at HZR.out (j:=3) rfl;have y0:=World.rowIs.frozen HZR.out 0;have y1:=World.rowIs.frozen HZR.out 1;have y2:=World.rowIs.frozen HZR.out 2
   have y3:=World.rowIs.frozen HZR.out 3;have q0:=RL.at HZB.out (j:=0) rfl;have g0:=World.rowIs.frozen HZB.out 0;clear hbw hno hFN2 hKD2 HSQ2;have hne:D≠D2:=by have:=HD6.out;omega
   have hX2:∀b,W6.heap.size≤b∨b=D→((st4 X (w.heap.size+1) 0 0 0 (.slice none 0 0)).setCell ⟨w.heap.size+2,0,none⟩ (.bool false)).heap[b]?=X.heap[b]?:=fun b hb=>by
    have h1:b≠w.heap.size+2:=by have:=HS6.out;have:=HDG.out;omega
    have h2:b≠w.heap.size+1:=by have:=HS6.out;have:=HDG.out;omega
    rw[Below.heap_setCell _ ⟨w.heap.size+2,0,none⟩ _ _ h1,ZaY _ _ _ _ _ _ h2]
   have hA:=Zib (t:=⟨0,0,0,[]⟩) (a:=none) (c:=0) (ok:=false) (V:=X) (n0:=W6.heap.size) (HA6.out.trans (HBX.out.mono HA6.out.size)) (W1:=W6) HS6.out HBX.out.size HZR.out HZB.out (World.ownsRow_nil _ _ _ _);have hE:=hX2 D2 (.inl hD2);have hE1:=hX2 D (.inr rfl);have h1:=(Zd9 (β:=Unit) (n0:=W6.heap.size) (B:=W6.heap.size) (w:=w) (fun _=>⟨0,0,0,[]⟩) (fun _=>false) (Nat.le_refl _)).putObj (s:=()) (.deferred none) ⟨none,0,_,hA,Ck.refl _ _⟩ hD2 (hE.trans HK2.out) rfl
   obtain⟨a3,c3,hbel,hrs,hrb,hown⟩:=h1.end (by have:=HS6.out;omega);have hKK:(World.putObj ((st4 X (w.heap.size+1) 0 0 0 (.slice none 0 0)).setCell ⟨w.heap.size+2,0,none⟩ (.bool false)) D2 (.deferred none)).heap[D]?=some (.deferred (some [])):=(World.putObj_heap_other hne).trans (hE1.trans HK1.out);have hFE:=Zll hKK HDG.out hbel hrs hrb hown;have HKD2:=Lib.hid (hE.trans HK2.out);have HKK:=Lib.hid hKK
   have HFE:=Lib.hid hFE;clear hFE hKK hbel hrs hrb hown h1 hA hE hE1 hX2;unfold st4 at HKD2 HKK HFE
   gi_wp2
   refine⟨by simp,.inl ⟨_,_,rfl,run_takeDeferred HKD2.out,by simp,.inl ⟨_,_,rfl,run_takeDeferred HKK.out,?_⟩⟩⟩;refine⟨_,ZfU Tryz.results107 rfl rfl (ZG HFE.out.2.1) (Zea (RL.at HFE.out.2.2.1 (j:=0) rfl)),HFE.out.1,a3,c3,?_,?_⟩
   ·rw[HNM.out];rfl
   ·rw[HNM.out];exact HFE.out.2.2.2
  case stop2=>
   rintro D2 c k X hD2 hkN ⟨⟨rfl,j,hj,hfd⟩,hnx,hKX⟩ hKD2;have hkj:k-1=j:=by omega
   rw[hkj]at hnx
   have HNM:Hid (ZaL d ss l left=(stL d ss l (ZX left j),(stL d ss l (ZX left j)).k != 0)):=by
    show _=_;unfold ZaL;rw[HFN.out,hfd]
   have h1:=(Zd9 (β:=Unit) (n0:=W6.heap.size) (B:=W6.heap.size) (w:=w) (fun _=>stL d ss l (ZX left j)) (fun _=>(stL d ss l (ZX left j)).k != 0) (Nat.le_refl _)).putObj (s:=()) (.deferred none) hnx hD2 hKD2 rfl;obtain⟨a3,c3,hbel,hrs,hrb,hown⟩:=h1.end (by have:=HS6.out;omega);have hne:D≠D2:=by have:=HD6.out;omega
   have hKK:(World.putObj X D2 (.deferred none)).heap[D]?=some (.deferred (some [])):=(World.putObj_heap_other hne).trans hKX;have hFE:=Zll hKK HDG.out hbel hrs hrb hown;have HKD2:=Lib.hid hKD2;have HKK:=Lib.hid hKK;have HFE:=Lib.hid hFE;clear hFE hKK hbel hrs hrb hown h1 hnx hKX hKD2 hfd HSQ2
   gi_wp2
   refine⟨by simp,.inl ⟨_,_,rfl,run_takeDeferred HKD2.out,by simp,.inl ⟨_,_,rfl,run_takeDeferred HKK.out,?_⟩⟩⟩;refine⟨_,ZfU Tryz.results107 rfl rfl (ZG HFE.out.2.1) (Zea (RL.at HFE.out.2.2.1 (j:=0) rfl)),HFE.out.1,a3,c3,?_,?_⟩
   ·rw[HNM.out];rfl
   ·rw[HNM.out];exact HFE.out.2.2.2
 case stop=>
  rintro D c k W hD hkN ⟨⟨rfl,_,j,hj,hfd⟩,hnx⟩ hKD;have hnx2:=(Zd9 (β:=Unit) (n0:=W4.heap.size) (B:=W4.heap.size) (w:=w) (fun _=>stL d ss l (ZX left (k-1))) (fun _=>true) (Nat.le_refl _)).putObj (s:=()) (.deferred none) hnx hD hKD rfl;obtain⟨a,c,hbel,hrs,hrb,hown⟩:=hnx2.end (by have:=HS4.out;omega);have hkj:k-1=j:=by omega
  rw[hkj]at hrs hown
  have HNM:Hid (ZaL d ss l left=(stL d ss l (ZX left j),true)):=by
   show _=_;unfold ZaL;rw[hfd]
  have HF:=Lib.hid (And.intro hbel hown);have HRS:=Lib.hid hrs;have HRB:=Lib.hid hrb;have HKD:=Lib.hid hKD;clear hbel hown hrs hrb hnx hnx2 hfd hKD HSQ
  gi_wp2
  refine⟨by simp,.inl ⟨_,_,rfl,run_takeDeferred HKD.out,?_⟩⟩;refine⟨_,ZfU Tryz.results107 rfl rfl (ZG HRS.out) (Zea (RL.at HRB.out (j:=0) rfl)),HF.out.1,a,c,?_,?_⟩
  ·rw[HNM.out];rfl
  ·rw[HNM.out];exact HF.out.2
end
section
open Go.RowKit Go.Maps Go.Shelf
attribute [local go_sem ↓] Go.wp_at_zero Go.wp_at_succ
inductive Gt (d:Nat) (l:List XL):List ByteArray→Nat→St × Bool→List St→Prop where
 | done (ss:List ByteArray) (left:Nat) (s:St):Gt d l ss left (s,false) []
 | more (ss:List ByteArray) (left:Nat) (s:St) (xs:List St):Gt d l (ss++s.g) (Z9 left s.i.toNat) (ZaL d (ss++s.g) l (Z9 left s.i.toNat)) xs→Gt d l ss left (s,true) (s::xs)
def ZaH(d:Nat)(ss:List ByteArray)(l:List XL)(left:Nat)(first:Int):St × Bool:=
 if first = -1 then ZaL d ss l left else(stL d ss l first.toNat,(stL d ss l first.toNat).k != 0)
def Zma(d:Nat)(ss:List ByteArray)(l:List XL)(left:Nat)(c:St × Bool):Prop:=c.2=true→Zbu left c.1.i=true∧c.1=stL d ss l c.1.i.toNat
theorem Zny(d:Nat)(ss:List ByteArray)(l:List XL)(k:Nat):(stL d ss l k).i=(k:Int):=ZpL _ _ _ _
theorem Znz(d:Nat)(ss:List ByteArray)(l:List XL)(left:Nat){i:Nat}(hi:i∈Z4 left)(b:Bool):Zma d ss l left (stL d ss l i,b):=by
 intro _;show Zbu left (stL d ss l i).i=true∧stL d ss l i=stL d ss l (stL d ss l i).i.toNat;rw[Zny,Int.toNat_natCast];refine⟨?_,rfl⟩;unfold Zbu;rw[Int.toNat_natCast,(Zhc hi).1];simp
theorem Zdu(d:Nat)(ss:List ByteArray)(l:List XL)(left:Nat):Zma d ss l left (ZaL d ss l left):=by
 unfold ZaL
 split
 ·next i hi=>exact Znz d ss l left (List.mem_of_find?_eq_some hi) true
 ·split
  ·next i hi=>exact Znz d ss l left (List.mem_of_find?_eq_some hi) _
  ·intro h
   cases h
theorem Zko(d:Nat)(ss:List ByteArray)(l:List XL)(left:Nat)(first:Int)(hf:first = -1∨Zbu left first=true):Zma d ss l left (ZaH d ss l left first):=by
 unfold ZaH
 split
 ·exact Zdu d ss l left
 ·next hn=>
  intro _;rcases hf with h | h
  ·exact absurd h hn
  ·have h0:0≤first:=by
    unfold Zbu at h;simp only[Bool.and_eq_true,decide_eq_true_eq]at h;exact h.1
   show Zbu left (stL d ss l first.toNat).i=true∧stL d ss l first.toNat=stL d ss l (stL d ss l first.toNat).i.toNat
   rw[Zny,Int.toNat_natCast,Int.toNat_of_nonneg h0];exact⟨h,rfl⟩
theorem Zlg{left k:Nat}(hk:k<32)(hb:left.testBit k=true):Z9 left k<left:=by
 have h1:=Zcf left k;rcases Nat.lt_or_eq_of_le h1 with h | h
 ·exact h
 ·exfalso
  have hp:(2:Nat)^k<2^32:=Nat.pow_lt_pow_right (by decide) hk
  have h2:(Z9 left k).testBit k=false:=by
   unfold Z9;rw[Nat.testBit_and,show(4294967295:Nat)-2^k=2^32-(2^k+1) by omega,Nat.testBit_two_pow_sub_succ hp,Nat.testBit_two_pow_self];simp
  rw[h,hb]at h2
  cases h2
theorem ZnA{w:World}{B:Nat}{e:TypeId}{k:Nat}{v:Value}{n:Nat}{xs:List Value}(h:w.ownsRow B e k v n xs){b:Nat}{cs:Array Value}{e':TypeId}{z:Nat × Nat}(hc:w.heap[b]?=some (Obj.cells cs e' z))(hne:e≠e'):∀g,v.ownBlock=some g→g≠b:=by
 intro g hg hgb;obtain⟨_,⟨e2,_⟩ | ⟨g',cap',cur,e3,_,hh,_⟩⟩:=h
 ·rw[e2]at hg
  cases hg
 ·rw[e3]at hg
  cases hg
  have h':g'=b:=hgb;rw[h',hc]at hh
  cases hh
  exact hne rfl
theorem Zmb{w:World}{B:Nat}{e:TypeId}{k:Nat}{v:Value}{n:Nat}{xs:List Value}(h:w.ownsRow B e k v n xs){g:Nat}(hg:v.ownBlock=some g):∃cs,w.heap[g]?=some (Obj.cells cs e (0,0)):=by
 obtain⟨_,⟨e2,_⟩ | ⟨g',cap',cur,e3,_,hh,_⟩⟩:=h
 ·rw[e2]at hg
  cases hg
 ·rw[e3]at hg
  cases hg
  exact⟨_,hh⟩
theorem Zmc:(Tryz.prog.info? 84).map (fun i=>(i.zero,i.size,i.bytes))=some (some (.agg #[.int .i8 0,.int .i64 0,.int .u32 0,.slice none 0 0]),4,48):=by kernel_rfl
theorem Zg8{u:World}{B:Nat}{a:Option Addr}{c:Nat}{out:List SX}(y:SX)(own:u.ownsRow B 84 4 (.slice a out.length c) out.length (out.flatMap SX.cells))(hB:B≤u.heap.size)(hl:out.length≤1000000000) :
  ∃a6 c6 w5,(Builtin.append_ #[30,30] 30 #[.slice a out.length c,.slice (some ⟨u.heap.size,0,none⟩) 1 1]).run Tryz.prog (u.alloc (.cells #[.int .i8 y.s.k,.int .i64 y.s.i,.int .u32 y.s.m,.slice y.a y.s.g.length y.c] 84))=.ok (.slice a6 (out.length+1) c6) w5∧w5.ownsRow B 84 4 (.slice a6 (out++[y]).length c6) (out++[y]).length ((out++[y]).flatMap SX.cells)∧(u.alloc (.cells #[.int .i8 y.s.k,.int .i64 y.s.i,.int .u32 y.s.m,.slice y.a y.s.g.length y.c] 84)).grownBy w5 ((.slice a out.length c:Value).ownBlock):=by
 obtain⟨i0,hi0,hz0,hz1,hz2⟩:=info_parts Zmc;have hA:=Zp (w:=u) (.cells #[.int .i8 y.s.k,.int .i64 y.s.i,.int .u32 y.s.m,.slice y.a y.s.g.length y.c] 84);have hz5:B≤(u.alloc (.cells #[.int .i8 y.s.k,.int .i64 y.s.i,.int .u32 y.s.m,.slice y.a y.s.g.length y.c] 84)).heap.size:=Nat.le_trans hB hA.size;have ho:=Zn own hA;obtain⟨v',w5,hrun,hown',hgrow,hnil,hloc⟩:=run_append_own_at (P:=Tryz.prog) (u.alloc (.cells #[.int .i8 y.s.k,.int .i64 y.s.i,.int .u32 y.s.m,.slice y.a y.s.g.length y.c] 84)) B 30 30 84 i0 _ 4 48 Tryz.underlying30 hi0 hz0 hz1 hz2 rfl (by decide) _ _ _ ho ⟨_,0,none⟩ 1 1 [.int .i8 y.s.k,.int .i64 y.s.i,.int .u32 y.s.m,.slice y.a y.s.g.length y.c] rfl (ZR _ #[.int .i8 y.s.k,.int .i64 y.s.i,.int .u32 y.s.m,.slice y.a y.s.g.length y.c] _) (by simp[Value.oneCell']) (by unfold maxLen;omega) (by omega) hz5
 obtain⟨a6,c6,rfl,_⟩:=ZB hown';refine⟨a6,c6,w5,hrun,?_,hgrow⟩;rw[List.length_append,List.flatMap_append];exact hown'
theorem Zg9(k i m:Int)(a:Option Addr)(n c:Nat)(u:World):(Instr.buildSlice 30 1 #[(0,.agg #[.int .i8 k,.int .i64 i,.int .u32 m,.slice a n c])]).run Tryz.prog u=.ok (.slice (some ⟨u.heap.size,0,none⟩) 1 1) (u.alloc (.cells #[.int .i8 k,.int .i64 i,.int .u32 m,.slice a n c] 84)):=by
 simp[Instr.buildSlice,Instr.fill,go_sem]
def Zc3(tb:Nat)(w:World):Nat:=match w.cell? ⟨tb,2,none⟩with
 | some v=>(intOf v).toNat
 | none=>0
theorem Zdv{w:World}{tb kb:Nat}{v:Value}{ss:List ByteArray}{left:Nat}(h:ZbN w tb kb v ss left):Zc3 tb w=left:=by
 unfold Zc3;rw[RL.at h.rl (j:=2) rfl];simp[intOf]
structure GtS (w:World) (d:Nat) (l:List XL) (v:Value) (tb kb b6:Nat) (G:List St→Prop) (wr:World) (xs:List SX) (oa:Option Addr) (oc:Nat) (ss:List ByteArray) (left:Nat) (t:St) (b:Bool) (ta:Option Addr) (tc:Nat):Prop where
 tu:ZbN wr tb kb v ss left
 lt:left<2^l.length
 box:RL wr b6 84 [.int .i8 t.k,.int .i64 t.i,.int .u32 t.m,.slice ta t.g.length tc]
 own:wr.ownsRow w.heap.size 9 1 (.slice ta t.g.length tc) t.g.length (t.g.flatMap Zm)
 out:wr.ownsRow (b6+1) 84 4 (.slice oa xs.length oc) xs.length (xs.flatMap SX.cells)
 giv:∀y∈xs,wr.ownsRow w.heap.size 9 1 (.slice y.a y.s.g.length y.c) y.s.g.length (y.s.g.flatMap Zm)
 px:Px tb kb w wr
 fit:Zma d ss l left (t,b)
 gt:∀ys,Gt d l ss left (t,b) ys→G (xs.map SX.s++ys)
 len:xs.length+left≤65536
structure GtN (w:World) (tb kb b6:Nat):Prop where
 t:tb<w.heap.size
 k:kb<w.heap.size
 b:w.heap.size≤b6
theorem GtS.taken{w:World}{d:Nat}{l:List XL}{v:Value}{tb kb b6:Nat}{G:List St→Prop}{wr w1:World}{xs:List SX}{oa:Option Addr}{oc:Nat}{ss:List ByteArray}{left:Nat}{t:St}{b:Bool}{ta:Option Addr}{tc:Nat}(h:GtS w d l v tb kb b6 G wr xs oa oc ss left t b ta tc)(hn:GtN w tb kb b6)(hp:Px tb kb wr w1) :
  RL w1 b6 84 [.int .i8 t.k,.int .i64 t.i,.int .u32 t.m,.slice ta t.g.length tc]∧w1.ownsRow w.heap.size 9 1 (.slice ta t.g.length tc) t.g.length (t.g.flatMap Zm)∧w1.ownsRow (b6+1) 84 4 (.slice oa xs.length oc) xs.length (xs.flatMap SX.cells)∧(∀y∈xs,w1.ownsRow w.heap.size 9 1 (.slice y.a y.s.g.length y.c) y.s.g.length (y.s.g.flatMap Zm))∧Px tb kb w w1:=by
 have e1:=hn.t;have e2:=hn.k;have e3:=hn.b;refine⟨World.rowIs.of_block h.box (hp.block b6 h.box.lt (by omega) (by omega)),Zx h.own (fun g hg=>?_),Zx h.out (fun g hg=>?_),fun y hy=>Zx (h.giv y hy) (fun g hg=>?_),h.px.trans hp⟩
 ·have:=h.own.lt g hg;exact hp.block g this.2 (by omega) (by omega)
 ·have:=h.out.lt g hg;exact hp.block g this.2 (by omega) (by omega)
 ·have:=(h.giv y hy).lt g hg;exact hp.block g this.2 (by omega) (by omega)
end
section
open Go.RowKit Go.Maps Go.Shelf
theorem Zgb{d:Nat}{l:List XL}(hl:l.length≤16):∀(xs:List St) {ss ss':List ByteArray} {left left':Nat},left<2^l.length→goR d l ss left xs=some (ss',left')→(xs.map (fun s=>s.i.toNat)).Nodup∧(∀s∈xs,0≤s.i)∧∀i,i<l.length→(i∈xs.map (fun s=>s.i.toNat)↔left.testBit i=true∧left'.testBit i=false)
 | [],ss,ss',left,left',hb,h=>by
  injection h with h
  injection h with h1 h2
  subst h2;refine⟨List.nodup_nil,?_,?_⟩
  ·intro s hs
   cases hs
  ·intro i _;constructor
   ·intro hi
    cases hi
   ·rintro⟨q1,q2⟩;rw[q1]at q2
    cases q2
 | s::xs,ss,ss',left,left',hb,h=>by
  rw[goR]at h
  split at h
  ·next ho=>
   obtain⟨k,e1,e2,e3,e4,e5⟩:=Zfo hb ho;have e6:s.i.toNat=k:=by omega
   rw[e6]at h;obtain⟨a1,a2,a3⟩:=Zgb hl xs (Nat.lt_of_le_of_lt (Zcf _ _) hb) h
   have hk:(Z9 left k).testBit k=false:=by
    rw[Zd7 (by omega) (by omega)];simp
   have hnot:k ∉ xs.map (fun s=>s.i.toNat):=fun hm=>by
    have:=((a3 k e2).1 hm).1;rw[hk]at this
    cases this
   have hlow:left'.testBit k=false:=by
    rcases hb2:left'.testBit k with _ | _
    ·rfl
    ·exfalso
     exact goR_keeps hl xs (Nat.lt_of_le_of_lt (Zcf _ _) hb) h k e2 hk hb2
   refine⟨?_,fun t ht=>?_,fun i hi=>?_⟩
   ·rw[List.map_cons,e6];exact List.nodup_cons.2 ⟨hnot,a1⟩
   ·rcases List.mem_cons.1 ht with rfl | ht
    ·omega
    ·exact a2 t ht
   ·rw[List.map_cons,e6,List.mem_cons,a3 i hi,Zd7 (by omega) (by omega)]
    by_cases hik:k=i
    ·subst hik;simp[e3,hlow]
    ·have:¬ i=k:=fun e=>hik e.symm
     simp[hik,this]
  ·cases h
where
 goR_keeps {d:Nat} {l:List XL} (hl:l.length≤16):∀(xs:List St) {ss ss':List ByteArray} {left left':Nat},left<2^l.length→goR d l ss left xs=some (ss',left')→∀k,k<l.length→left.testBit k=false→left'.testBit k=true→False
  | [],ss,ss',left,left',hb,h,k,hk,h1,h2=>by
   injection h with h
   injection h with _ h3
   rw[h3,h2]at h1
   cases h1
  | s::xs,ss,ss',left,left',hb,h,k,hk,h1,h2=>by
   rw[goR]at h
   split at h
   ·next ho=>
    obtain⟨k2,e1,e2,e3,e4,e5⟩:=Zfo hb ho;have e6:s.i.toNat=k2:=by omega
    rw[e6]at h;exact goR_keeps hl xs (Nat.lt_of_le_of_lt (Zcf _ _) hb) h k hk (by rw[Zd7 (by omega) (by omega),h1];rfl) h2
   ·cases h
theorem Zph{d:Nat}{l:List XL}(hl:l.length≤16){xs:List St}{ss ss':List ByteArray}(h:goR d l ss (2^l.length-1) xs=some (ss',0)):xs.length=l.length∧(xs.map (fun s=>s.i.toNat)).Nodup∧∀s∈xs,0≤s.i:=by
 have hb:2^l.length-1<2^l.length:=by have:=Nat.two_pow_pos l.length;omega
 obtain⟨h1,h2,h3⟩:=Zgb hl xs hb h;refine⟨?_,h1,h2⟩;have hlt:∀i∈xs.map (fun s=>s.i.toNat),i<l.length:=goR_lt xs hb h
 have hp:(xs.map (fun s=>s.i.toNat)).Perm (List.range l.length):=(List.perm_ext_iff_of_nodup h1 List.nodup_range).2 (fun i=>by
  rw[List.mem_range];refine⟨hlt i,fun hi=>(h3 i hi).2 ⟨?_,Nat.zero_testBit i⟩⟩;rw[Nat.testBit_two_pow_sub_one];exact decide_eq_true hi)
 have:=hp.length_eq;rw[List.length_map,List.length_range]at this;exact this
where
 goR_lt {d:Nat} {l:List XL}:∀(xs:List St) {ss ss':List ByteArray} {left left':Nat},left<2^l.length→goR d l ss left xs=some (ss',left')→∀i∈xs.map (fun s=>s.i.toNat),i<l.length
  | [],ss,ss',left,left',hb,h,i,hi=>by cases hi
  | s::xs,ss,ss',left,left',hb,h,i,hi=>by
   rw[goR]at h
   split at h
   ·next ho=>
    obtain⟨k,e1,e2,e3,e4,e5⟩:=Zfo hb ho;have e6:s.i.toNat=k:=by omega
    rw[e6]at h;rw[List.map_cons,e6]at hi;rcases List.mem_cons.1 hi with rfl | hi
    ·exact e2
    ·exact goR_lt xs (Nat.lt_of_le_of_lt (Zcf _ _) hb) h i hi
   ·cases h
def Zlx(S:List ByteArray)(q:Qn):Prop:=(∀v,q.1.lone=some v→(∀m∈q.2.vars,m∈S)→v∈S)∧(∀v,q.2.lone=some v→(∀m∈q.1.vars,m∈S)→v∈S)
theorem Zgc{S fs:List ByteArray}{a:Option ByteArray}{o:List ByteArray}(hf:∀x∈fs,x∈S)(h:∀v,a=some v→(∀m∈o,m∈S)→v∈S){v:ByteArray}(hv:ZP a o fs=some v):v∈S:=by
 unfold ZP at hv
 split at hv
 ·next u=>
  split at hv
  ·next hc=>
   injection hv with hv
   subst hv;rw[Bool.and_eq_true,List.all_eq_true]at hc;exact h u rfl (fun m hm=>hf m (ZD.1 (hc.2 m hm)))
  ·cases hv
 ·cases hv
theorem ZmN{S:List ByteArray}{q:Qn}(hq:Zlx S q){fs:List ByteArray}(hf:∀x∈fs,x∈S):∀x∈ZaP fs q,x∈S:=by
 intro x hx;unfold ZaP at hx
 split at hx
 ·next v hv=>
  rcases List.mem_append.1 hx with h1 | h1
  ·exact hf x h1
  ·obtain rfl:=List.mem_singleton.1 h1;unfold Zaf at hv
   split at hv
   ·next u hu=>
    injection hv with hv
    subst hv;exact Zgc hf hq.1 hu
   ·exact Zgc hf hq.2 hv
 ·exact hf x hx
theorem Zjw{S:List ByteArray}:∀(qs:List Qn),(∀q∈qs,Zlx S q)→∀fs:List ByteArray,(∀x∈fs,x∈S)→∀x∈Zbz qs fs,x∈S
 | [],_,fs,hf,x,hx=>hf x hx
 | q::qs,hq,fs,hf,x,hx=>Zjw qs (fun p hp=>hq p (List.mem_cons_of_mem _ hp)) (ZaP fs q) (ZmN (hq q (by simp)) hf) x hx
theorem Zly{S:List ByteArray}(qs:List Qn)(hq:∀q∈qs,Zlx S q):∀(k:Nat) (fs:List ByteArray),(∀x∈fs,x∈S)→∀x∈itQ qs k fs,x∈S
 | 0,fs,hf,x,hx=>hf x hx
 | k+1,fs,hf,x,hx=>Zly qs hq k (Zbz qs fs) (Zjw qs hq fs hf) x hx
end
end Go.Proofs.YtjdnpgpbeppgjaaGreatDoor
