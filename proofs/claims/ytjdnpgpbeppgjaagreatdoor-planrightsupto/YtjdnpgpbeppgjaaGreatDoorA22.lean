import Derived.Test.YtjdnpgpbeppgjaaGreatDoorA21
import Derived.Deep.Upon
import Derived.OwnWalk
import Derived.Lib.Hide
import Derived.Test.YtjdnpgpbeppgjaaGreatDoorA6
import Derived.Laws.IdiomCopy
import Derived.Test.YtjdnpgpbeppgjaaGreatDoorA3
import Derived.Test.YtjdnpgpbeppgjaaGreatDoorA8
set_option linter.unusedSimpArgs false
set_option linter.unusedVariables false
set_option maxHeartbeats 3200000
set_option maxRecDepth 100000
namespace Go.Proofs.YtjdnpgpbeppgjaaGreatDoor
section
open Go.RowKit Go.Maps
attribute [local go_sem ↓] Go.wp_at_zero Go.wp_at_succ
def ZbY(acc:List P)(p:P):List P:=if p.v=noS∨p.v=ZI∨acc.any (fun q=>decide (q.v=p.v))=true then acc else acc++[p]
def ZbZ(s:List P):List P:=s.foldl ZbY []
theorem ZlR(s:List P)(p:P):ZbZ (s++[p])=ZbY (ZbZ s) p:=by simp[ZbZ]
structure Okp (acc:List P):Prop where
 nd:(acc.map P.v).Nodup
 nk:∀p∈acc,p.v≠noS∧p.v≠ZI
theorem Zna{acc:List P}(h:Okp acc)(p:P):Okp (ZbY acc p):=by
 unfold ZbY
 split
 ·exact h
 ·next hn=>
  simp only[not_or,Bool.not_eq_true]at hn;obtain⟨h1,h2,h3⟩:=hn;refine⟨?_,fun q hq=>?_⟩
  ·rw[List.map_append,List.nodup_append];refine⟨h.nd,by simp,fun a ha b hb=>?_⟩;obtain⟨q,hq,rfl⟩:=List.mem_map.1 ha;simp at hb;subst hb;intro e;have:=List.any_eq_false.1 h3 q hq;simp[e]at this
  ·rcases List.mem_append.1 hq with hq | hq
   ·exact h.nk q hq
   ·rw[List.mem_singleton.1 hq];exact⟨h1,h2⟩
theorem Zk6:∀(s acc:List P),Okp acc→Okp (s.foldl ZbY acc)
 | [],acc,h=>h
 | p::r,acc,h=>Zk6 r _ (Zna h p)
theorem ZhP(s:List P):Okp (ZbZ s):=Zk6 s [] ⟨List.nodup_nil,fun p hp=>by cases hp⟩
theorem ZgS{n:ByteArray}(h1:n≠noS)(h2:n≠ZI):∀(s acc:List P),(s.foldl ZbY acc).find? (fun p=>decide (p.v=n))=(acc.find? (fun p=>decide (p.v=n))).or (s.find? (fun p=>decide (p.v=n)))
 | [],acc=>by simp
 | p::r,acc=>by
  rw[List.foldl_cons,ZgS h1 h2 r (ZbY acc p)];unfold ZbY
  by_cases e:p.v=n
  ·subst e
   cases ha:acc.find? (fun q=>decide (q.v=p.v))with
   | some q=>
    have:acc.any (fun q=>decide (q.v=p.v))=true:=List.any_eq_true.2 ⟨q,List.mem_of_find?_eq_some ha,by simpa using List.find?_some ha⟩;rw[if_pos (.inr (.inr this)),ha];rfl
   | none=>
    have:acc.any (fun q=>decide (q.v=p.v))=false:=List.any_eq_false.2 (fun q hq=>by simpa using List.find?_eq_none.1 ha q hq);rw[if_neg (fun h=>by rcases h with h | h | h;exact h1 h;exact h2 h;rw[this]at h;cases h),List.find?_append,ha];simp
  ·have e':decide (p.v=n)=false:=decide_eq_false e
   split
   ·simp[List.find?_cons,e']
   ·rw[List.find?_append];simp[List.find?_cons,e']
theorem Znb(s:List P)(t:T):res (ZbZ s) t=ZkQ s t:=by
 unfold ZkQ
 by_cases h:t.v=noS∨t.v=ZI
 ·rw[if_pos h];unfold res
  have:(ZbZ s).find? (fun p=>decide (p.v=t.v))=none:=List.find?_eq_none.2 (fun p hp=>by
   have:=(ZhP s).nk p hp;simp only[decide_eq_true_eq];intro e;rcases h with h | h
   ·exact this.1 (e.trans h)
   ·exact this.2 (e.trans h))
  rw[this]
 ·simp only[not_or]at h;rw[if_neg (fun q=>q.elim h.1 h.2)];unfold res ZbZ;rw[ZgS h.1 h.2 s []];simp
theorem Znc{s:List P}:∀p∈ZbZ s,p∈s:=by
 have key:∀(s acc:List P),∀p∈s.foldl ZbY acc,p∈acc∨p∈s:=by
  intro s
  induction s with
  | nil=>intro acc p hp;exact .inl hp
  | cons x r ih=>
   intro acc p hp;rw[List.foldl_cons]at hp;rcases ih _ p hp with h | h
   ·unfold ZbY at h
    split at h
    ·exact .inl h
    ·rcases List.mem_append.1 h with h | h
     ·exact .inl h
     ·rw[List.mem_singleton.1 h];exact .inr (by simp)
   ·exact .inr (List.mem_cons_of_mem _ h)
 intro p hp;rcases key s [] p hp with h | h
 ·cases h
 ·exact h
theorem ZlS{s:List P}{n:ByteArray}(h:s.any (fun q=>decide (q.v=n))=true):∃q:P,Zfw s n=.tuple #[.agg #[.string q.t.v,.int .i8 q.t.a.k,.int .i64 q.t.a.n,.string q.t.a.s],.bool true]:=by
 unfold Zfw
 cases hf:s.find? (fun p=>decide (p.v=n))with
 | some q=>exact⟨q,rfl⟩
 | none=>
  obtain⟨q,hq,e⟩:=List.any_eq_true.1 h;exact absurd e (List.find?_eq_none.1 hf q hq)
theorem ZjZ(u:World):(Instr.makeMap 158 none).run Tryz.prog u=.ok (.map (some u.heap.size)) (u.alloc (.map #[] 0)):=by kernel_rfl
theorem ZhQ(v:Value)(s:List P)(w:World)(hl:Lp w v s)(hlen:s.length≤1048576):Calls Tryz.prog 105 #[v] w fun e w'=>e=.returned (.map (some w.heap.size))∧MapT w' w.heap.size (ZbZ s)∧Below w.heap.size w w':=by
 obtain⟨a,c,rfl,hc1,hc2,hat⟩:=hl.form;have HAT:=Lib.hid hat;have HWF:=Lib.hid hl.wf;have HM0:=Lib.hid (MapT.made w);have HB0:=Lib.hid ((Below.refl w.heap.size w).alloc (Nat.le_refl _) (.map #[] 0));have hmm:=ZjZ w;clear hat hl;go_enter Tryz.func105,Tryz.ntmps105;go_wp2;go_loopw [11] (fun i wr=>∃k:Nat,k≤s.length∧i=.int .i64 k∧Hid (Below w.heap.size w wr∧MapT wr w.heap.size (ZbZ (s.take k)))) (fun i _=>s.length-(intOf i).toNat)
 case atStart=>exact⟨0,Nat.zero_le _,rfl,HB0.out,by rw[List.take_zero];exact HM0.out⟩
 case round=>
  obtain⟨k,hk,rfl,HI⟩:=hrel;clear HM0 HB0
  by_cases hlt:k<s.length
  ·have hlt':(k:Int)<(s.length:Int):=by omega
   obtain⟨g,off,rfl,hg,hP⟩:=HAT.out (by omega);have hgw:g<wr.heap.size:=Nat.lt_of_lt_of_le hg HI.out.1.size;have hpa:=hP k hlt;have hpw:=HWF.out (atP s k) (by rw[Zom hlt];exact List.getElem_mem _);have htk:ZbZ (s.take (k+1))=ZbY (ZbZ (s.take k)) (atP s k):=by rw[←ZlR,List.take_add_one,List.getElem?_eq_getElem hlt,Zom hlt];rfl
   have HOK:=Lib.hid (ZhP (s.take k));generalize ZbZ (s.take k)=acc at HI htk HOK;generalize atP s k=p at hpa hpw htk;obtain⟨pv,tv,ak,an,sx⟩:=p;have HPW:=Lib.hid hpw;have x0:wr.cell? ⟨g,off+k*5,none⟩=some (.string pv):=by rw[HI.out.1.cell (p:=⟨g,off+k*5,none⟩) hg];exact hpa.c0
   have x1:wr.cell? ⟨g,off+k*5+1,none⟩=some (.string tv):=by rw[HI.out.1.cell (p:=⟨g,off+k*5+1,none⟩) hg];exact hpa.c1
   have x2:wr.cell? ⟨g,off+k*5+2,none⟩=some (.int .i8 ak):=by rw[HI.out.1.cell (p:=⟨g,off+k*5+2,none⟩) hg];exact hpa.c2
   have x3:wr.cell? ⟨g,off+k*5+3,none⟩=some (.int .i64 an):=by rw[HI.out.1.cell (p:=⟨g,off+k*5+3,none⟩) hg];exact hpa.c3
   have x4:wr.cell? ⟨g,off+k*5+4,none⟩=some (.string sx):=by rw[HI.out.1.cell (p:=⟨g,off+k*5+4,none⟩) hg];exact hpa.c4
   have hk0:(0:Int)≤(k:Int):=by omega
   have ha1:Below wr.heap.size wr (wr.alloc (.cells #[.string pv,.string tv,.int .i8 ak,.int .i64 an,.string sx] 200)):=(Below.refl _ _).alloc (Nat.le_refl _) _;have HR1:=Lib.hid (Zk wr #[.string pv,.string tv,.int .i8 ak,.int .i64 an,.string sx] 200);have HM1:=Lib.hid (HI.out.2.below ha1);have b1:=HI.out.1.trans (ha1.mono HI.out.1.size);have HTK:=Lib.hid htk;clear HI hpa hpw htk ha1 hg hP;go_upto_region 5 with fail
   generalize wr.alloc (.cells #[.string pv,.string tv,.int .i8 ak,.int .i64 an,.string sx] 200)=W1 at HR1 HM1 b1⊢;clear x0 x1 x2 x3 x4;have y0:=HR1.out.at (j:=0) rfl;have hlk:=HM1.out.look (n:=pv) HOK.out.nd HPW.out.text
   by_cases hany:acc.any (fun q=>decide (q.v=pv))=true
   ·obtain⟨q,hq⟩:=ZlS hany;rw[hq]at hlk;have hst:ZbZ (s.take (k+1))=acc:=by rw[HTK.out];unfold ZbY;rw[if_pos (.inr (.inr hany))]
    have ha2:Below W1.heap.size W1 (W1.alloc (.cells #[.string q.t.v,.int .i8 q.t.a.k,.int .i64 q.t.a.n,.string q.t.a.s] 100)):=(Below.refl _ _).alloc (Nat.le_refl _) _;have HN:Hid (Below w.heap.size w (W1.alloc (.cells #[.string q.t.v,.int .i8 q.t.a.k,.int .i64 q.t.a.n,.string q.t.a.s] 100))∧MapT (W1.alloc (.cells #[.string q.t.v,.int .i8 q.t.a.k,.int .i64 q.t.a.n,.string q.t.a.s] 100)) w.heap.size (ZbZ (s.take (k+1)))):=⟨b1.trans (ha2.mono b1.size),by rw[hst];exact HM1.out.below ha2⟩
    clear hst hq hany HTK HR1 HM1 b1 ha2;generalize q.t.v=qv at hlk HN;generalize q.t.a.k=qk at hlk HN;generalize q.t.a.n=qn at hlk HN;generalize q.t.a.s=qs at hlk HN;go_wp2;go_roundw
    case rel=>exact⟨k+1,by omega,by go_num,HN⟩
    case measure=>simp[intOf];omega
   ·have hfr:∀q∈acc,q.v≠pv:=fun q hq e=>hany (List.any_eq_true.2 ⟨q,hq,by simpa using e⟩)
    rw[ZiK hfr]at hlk;have HFR:=Lib.hid hfr;have ha2:Below W1.heap.size W1 (W1.alloc (.cells #[.string ⟨#[]⟩,.int .i8 0,.int .i64 0,.string ⟨#[]⟩] 100)):=(Below.refl _ _).alloc (Nat.le_refl _) _;have HR2:=Lib.hid (HR1.out.below ha2);have HM2:=Lib.hid (HM1.out.below ha2);have b2:=b1.trans (ha2.mono b1.size);have HAN:=Lib.hid hany;clear HR1 HM1 b1 ha2 hfr hany;go_upto_region 6 with fail
    generalize W1.alloc (.cells #[.string ⟨#[]⟩,.int .i8 0,.int .i64 0,.string ⟨#[]⟩] 100)=W2 at HR2 HM2 b2⊢;clear hlk y0;have y0:=HR2.out.at (j:=0) rfl
    by_cases e0:pv=noS
    ·have he:pv.toList.isEmpty=true:=by rw[e0,ByteArray.toList_eq];rfl
     have HN:Hid (Below w.heap.size w W2∧MapT W2 w.heap.size (ZbZ (s.take (k+1)))):=⟨b2,by rw[HTK.out];unfold ZbY;rw[if_pos (.inl e0)];exact HM2.out⟩;clear HR2 HM2 HTK HFR b2 HPW HAN e0;go_wp2;go_roundw
     case rel=>exact⟨k+1,by omega,by go_num,HN⟩
     case measure=>simp[intOf];omega
    ·have he:=Za7 pv e0
     by_cases eb:pv=ZI
     ·have hbk:(pv.toList==[95])=true:=by rw[eb,ByteArray.toList_eq];rfl
      have HN:Hid (Below w.heap.size w W2∧MapT W2 w.heap.size (ZbZ (s.take (k+1)))):=⟨b2,by rw[HTK.out];unfold ZbY;rw[if_pos (.inr (.inl eb))];exact HM2.out⟩;clear HR2 HM2 HTK HFR b2 HPW HAN e0 eb;go_wp2;go_roundw
      case rel=>exact⟨k+1,by omega,by go_num,HN⟩
      case measure=>simp[intOf];omega
     ·have hbk:=Za0 eb;have hst:ZbZ (s.take (k+1))=acc++[⟨pv,tv,ak,an,sx⟩]:=by rw[HTK.out];unfold ZbY;rw[if_neg (fun h=>by rcases h with h | h | h;exact e0 h;exact eb h;exact HAN.out h)]
      have y1:=HR2.out.at (j:=1) rfl;have y2:=HR2.out.at (j:=2) rfl;have y3:=HR2.out.at (j:=3) rfl;have y4:=HR2.out.at (j:=4) rfl;obtain⟨w3,hput,hm3,ht3⟩:=HM2.out.put (p:=⟨pv,tv,ak,an,sx⟩) HPW.out.text HFR.out;have hput':(Instr.mapUpdate 158 (.map (some w.heap.size)) (.string pv) (.agg #[.string tv,.int .i8 ak,.int .i64 an,.string sx])).run Tryz.prog W2=.ok () w3:=hput;have HN:Hid (Below w.heap.size w w3∧MapT w3 w.heap.size (ZbZ (s.take (k+1)))):=⟨b2.grown ht3.grown b2.size (fun j hj=>by cases hj;exact Nat.le_refl _),by rw[hst];exact hm3⟩
      clear hput hm3 ht3 HR2 HM2 HTK HFR b2 HPW HAN e0 eb hst;go_wp2;go_roundw
      case rel=>exact⟨k+1,by omega,by go_num,HN⟩
      case measure=>simp[intOf];omega
  ·obtain rfl:k=s.length:=by omega
   have HM:=Lib.hid HI.out.2;rw[List.take_length]at HM;have HB:=Lib.hid HI.out.1;clear HI;go_wp2;go_ret;exact⟨rfl,HM.out,HB.out⟩
structure Pt (w:World) (g o:Nat) (t:T) (w':World):Prop where
 os:w'.os=w.os
 tape:w'.tape=w.tape
 output:w'.output=w.output
 size:w.heap.size≤w'.heap.size
 blk:∀b,b<w.heap.size→b≠g→w'.heap[b]?=w.heap[b]?
 term:TAt w' g o t
 oth:∀j,(j<o∨o+4≤j)→w'.cell? ⟨g,j,none⟩=w.cell? ⟨g,j,none⟩
 frz:∀j,w'.frozen? ⟨g,j,none⟩=w.frozen? ⟨g,j,none⟩
theorem Pt.same{w w':World}{g o:Nat}{t:T}(hb:Below w.heap.size w w')(ht:TAt w g o t)(hg:g<w.heap.size):Pt w g o t w':=
 ⟨hb.os,hb.tape,hb.output,hb.size,fun b h _=>hb.block b h,ht.below hb hg,fun j _=>hb.cell (p:=⟨g,j,none⟩) hg,fun j=>hb.frozen (p:=⟨g,j,none⟩) hg⟩
theorem Pt.store{w w':World}{g o:Nat}{u t0:T}(hb:Below w.heap.size w w')(ht:TAt w g o t0)(hg:g<w.heap.size)
  (hfr:∀j,((((w'.setCell ⟨g,o,none⟩ (.string u.v)).setCell ⟨g,o+1,none⟩ (.int .i8 u.a.k)).setCell ⟨g,o+2,none⟩ (.int .i64 u.a.n)).setCell ⟨g,o+3,none⟩ (.string u.a.s)).frozen? ⟨g,j,none⟩=w'.frozen? ⟨g,j,none⟩) :
  Pt w g o u ((((w'.setCell ⟨g,o,none⟩ (.string u.v)).setCell ⟨g,o+1,none⟩ (.int .i8 u.a.k)).setCell ⟨g,o+2,none⟩ (.int .i64 u.a.n)).setCell ⟨g,o+3,none⟩ (.string u.a.s)):=by
 have h0:=ht.below hb hg;obtain⟨c0,c1,c2,c3⟩:=h0;refine⟨hb.os,hb.tape,hb.output,by simp only[World.size_setCell];exact hb.size,fun b h1 h2=>?_,⟨?_,?_,?_,?_⟩,fun j hj=>?_,fun j=>?_⟩
 ·rw[heap_setCell_other _ _ _ _ (by exact h2),heap_setCell_other _ _ _ _ (by exact h2),heap_setCell_other _ _ _ _ (by exact h2),heap_setCell_other _ _ _ _ (by exact h2)];exact hb.block b h1
 ·go_simp
 ·go_simp
 ·go_simp
 ·go_simp
 ·have e:=World.cell?_setCells_out g [.string u.v,.int .i8 u.a.k,.int .i64 u.a.n,.string u.a.s] o w' ⟨g,j,none⟩ (fun _ _=>hj);have e2:(w'.setCells g o [.string u.v,.int .i8 u.a.k,.int .i64 u.a.n,.string u.a.s])=((((w'.setCell ⟨g,o,none⟩ (.string u.v)).setCell ⟨g,o+1,none⟩ (.int .i8 u.a.k)).setCell ⟨g,o+2,none⟩ (.int .i64 u.a.n)).setCell ⟨g,o+3,none⟩ (.string u.a.s)):=rfl;rw[←e2,e];exact hb.cell (p:=⟨g,j,none⟩) hg
 ·rw[hfr j];exact hb.frozen (p:=⟨g,j,none⟩) hg
theorem ZeB{bm g o:Nat}{s:List P}{t:T}{w:World}(hm:MapT w bm s)(nd:(s.map P.v).Nodup)(ht:TAt w g o t)(hf:∀i,i<4→w.frozen? ⟨g,o+i,none⟩=false)(hw:t.wf) :
  Calls Tryz.prog 106 #[.map (some bm),.pointer (some ⟨g,o,none⟩)] w fun e w'=>(∃u,e=.returned u)∧Pt w g o (res s t) w':=by
 have hg:g<w.heap.size:=World.block_lt_of_cell? _ _ ht.c0;have x0:=ht.c0;have hlk:=hm.look nd hw.text;unfold Zfw at hlk;have hres:res s t=match s.find? (fun p=>decide (p.v=t.v))with | some p=>p.t | none=>t:=rfl
 cases hfi:s.find? (fun p=>decide (p.v=t.v))with
 | none=>
  rw[hfi]at hlk hres;simp only at hlk hres;rw[hres];have HK:Hid (∀ob:Obj,Pt w g o t (w.alloc ob)):=fun ob=>Pt.same ((Below.refl _ _).alloc (Nat.le_refl _) ob) ht hg
  generalize t.v=tv at x0 hlk;clear hres hfi hf hw nd hm;go_enter Tryz.func106,Tryz.ntmps106;go_wp2;go_end0;exact⟨⟨_,rfl⟩,HK.out _⟩
 | some p=>
  rw[hfi]at hlk hres;simp only at hlk hres;rw[hres];obtain⟨pv,tv,ak,an,sx⟩:=p;have hb:Below w.heap.size w (w.alloc (.cells #[.string tv,.int .i8 ak,.int .i64 an,.string sx] 100)):=(Below.refl _ _).alloc (Nat.le_refl _) _;have HR:=Lib.hid (Zk w #[.string tv,.int .i8 ak,.int .i64 an,.string sx] 100);have hq:=ht.below hb hg;have HF:Hid (∀i,i<4→(w.alloc (.cells #[.string tv,.int .i8 ak,.int .i64 an,.string sx] 100)).frozen? ⟨g,o+i,none⟩=false):=fun i hi=>by rw[hb.frozen (p:=⟨g,o+i,none⟩) hg];exact hf i hi
  have HP:Hid (∀W',(∀j,((((W'.setCell ⟨g,o,none⟩ (.string tv)).setCell ⟨g,o+1,none⟩ (.int .i8 ak)).setCell ⟨g,o+2,none⟩ (.int .i64 an)).setCell ⟨g,o+3,none⟩ (.string sx)).frozen? ⟨g,j,none⟩=W'.frozen? ⟨g,j,none⟩)→Below w.heap.size w W'→Pt w g o ⟨tv,ak,an,sx⟩ ((((W'.setCell ⟨g,o,none⟩ (.string tv)).setCell ⟨g,o+1,none⟩ (.int .i8 ak)).setCell ⟨g,o+2,none⟩ (.int .i64 an)).setCell ⟨g,o+3,none⟩ (.string sx))):=fun W' h1 h2=>Pt.store (u:=⟨tv,ak,an,sx⟩) h2 ht hg h1
  have HB:=Lib.hid hb;generalize hqv:t.v=qv at x0 hlk;clear hres hfi hf hw nd hm hb;unfold T.val at hlk;simp only at hlk;go_enter Tryz.func106,Tryz.ntmps106;go_upto_region 1 with fail
  generalize w.alloc (.cells #[.string tv,.int .i8 ak,.int .i64 an,.string sx] 100)=W1 at HR HF HB hq⊢;clear x0 hlk;obtain⟨c0,c1,c2,c3⟩:=hq;have f0:=HF.out 0 (by omega);have f1:=HF.out 1 (by omega);have f2:=HF.out 2 (by omega);have f3:=HF.out 3 (by omega);rw[Nat.add_zero]at f0;have y0:=HR.out.at (j:=0) rfl;have y1:=HR.out.at (j:=1) rfl;have y2:=HR.out.at (j:=2) rfl;have y3:=HR.out.at (j:=3) rfl;clear HR hqv
  go_wp2;go_end0;exact⟨⟨_,rfl⟩,HP.out _ (fun j=>by simp) HB.out⟩
structure Tch (E:Nat→Prop) (w w':World):Prop where
 os:w'.os=w.os
 tape:w'.tape=w.tape
 output:w'.output=w.output
 size:w.heap.size≤w'.heap.size
 block:∀g,g<w.heap.size→¬ E g→w'.heap[g]?=w.heap[g]?
theorem Tch.refl(E:Nat→Prop)(w:World):Tch E w w:=⟨rfl,rfl,rfl,Nat.le_refl _,fun _ _ _=>rfl⟩
theorem Tch.trans{E:Nat→Prop}{a b c:World}(h:Tch E a b)(k:Tch E b c):Tch E a c:=
 ⟨k.os.trans h.os,k.tape.trans h.tape,k.output.trans h.output,Nat.le_trans h.size k.size,fun g hg he=>(k.block g (Nat.lt_of_lt_of_le hg h.size) he).trans (h.block g hg he)⟩
theorem Tch.mono{E E':Nat→Prop}{w w':World}(h:Tch E w w')(he:∀g,E g→E' g):Tch E' w w':=⟨h.os,h.tape,h.output,h.size,fun g hg hn=>h.block g hg (fun e=>hn (he g e))⟩
theorem Pt.tch{w w':World}{g o:Nat}{t:T}(h:Pt w g o t w'):Tch (fun b=>b=g) w w':=⟨h.os,h.tape,h.output,h.size,fun b hb hn=>h.blk b hb hn⟩
theorem ZaK{bls:List (List Nat)}{i x:Nat}(hi:i<bls.length)(hx:x∈bls.getD i []):x∈bls.flatten:=by
 rw[List.getD_eq_getElem?_getD,List.getElem?_eq_getElem hi]at hx;exact List.mem_flatten.2 ⟨_,List.getElem_mem hi,hx⟩
theorem ZgT{bls:List (List Nat)}(h:bls.flatten.Nodup){i k x:Nat}(hi:i<bls.length)(hk:k<bls.length)(hik:i≠k)(hx:x∈bls.getD i []):x ∉ bls.getD k []:=by
 intro hy;rw[List.getD_eq_getElem?_getD,List.getElem?_eq_getElem hi]at hx;rw[List.getD_eq_getElem?_getD,List.getElem?_eq_getElem hk]at hy;have hp:=(List.pairwise_flatten.1 h).2;rw[List.pairwise_iff_getElem]at hp;rcases Nat.lt_or_gt_of_ne hik with hl | hl
 ·exact hp i k hi hk hl x hx x hy rfl
 ·exact hp k i hk hi hl x hy x hx rfl
def EB(w:World):Nat→E→Option Addr→Nat→List Nat→Prop
 | 0,_,_,_,_=>False
 | d+1,e,a,c,bl=>((-128≤e.op∧e.op≤127)∧e.kids.length≤281474976710656)∧e.t.wf∧e.kids.length≤c∧c≤maxLen ∧
  ((e.kids=[]∧bl=[])∨∃g bls,a=some ⟨g,0,none⟩∧g<w.heap.size∧bl=g::List.flatten bls∧bls.length=e.kids.length∧bl.Nodup∧(∀j,w.frozen? ⟨g,j,none⟩=false) ∧
   ∀i,i<e.kids.length→∃a' c',XAt w g (i*6) (atE e.kids i).op (atE e.kids i).t (.slice a' (atE e.kids i).kids.length c')∧EB w d (atE e.kids i) a' c' (bls.getD i []))
theorem XAt.sameC{w w':World}{g o:Nat}{op:Int}{t:T}{s:Value}(h:XAt w g o op t s)(e:∀j,o≤j→j<o+6→w'.cell? ⟨g,j,none⟩=w.cell? ⟨g,j,none⟩):XAt w' g o op t s:=
 ⟨(e _ (by omega) (by omega)).trans h.c0,(e _ (by omega) (by omega)).trans h.c1,(e _ (by omega) (by omega)).trans h.c2,(e _ (by omega) (by omega)).trans h.c3,(e _ (by omega) (by omega)).trans h.c4,(e _ (by omega) (by omega)).trans h.c5⟩
theorem ZJ{w w':World}{g:Nat}(e:w'.heap[g]?=w.heap[g]?)(j:Nat):w'.cell? ⟨g,j,none⟩=w.cell? ⟨g,j,none⟩:=by unfold World.cell?;rw[e]
theorem ZaF{w w':World}{g:Nat}(e:w'.heap[g]?=w.heap[g]?)(j:Nat):w'.frozen? ⟨g,j,none⟩=w.frozen? ⟨g,j,none⟩:=by unfold World.frozen?;rw[e]
theorem EB.keep{w w':World}(hs:w.heap.size≤w'.heap.size):∀{d:Nat} {e:E} {a:Option Addr} {c:Nat} {bl:List Nat},EB w d e a c bl→(∀b∈bl,w'.heap[b]?=w.heap[b]?)→EB w' d e a c bl
 | 0,_,_,_,_,h,_=>h
 | d+1,e,a,c,bl,h,hk=>by
  obtain⟨h1,h2,h3,h4,h5⟩:=h;refine⟨h1,h2,h3,h4,?_⟩;rcases h5 with h5 | ⟨g,bls,ha,hg,hbl,hl,hnd,hf,hx⟩
  ·exact .inl h5
  ·subst hbl;have e1:=hk g (by simp);refine .inr ⟨g,bls,ha,Nat.lt_of_lt_of_le hg hs,rfl,hl,hnd,fun j=>by rw[ZaF e1];exact hf j,fun i hi=>?_⟩;obtain⟨a',c',x1,x2⟩:=hx i hi;exact⟨a',c',x1.sameC (fun j _ _=>ZJ e1 j),x2.keep hs (fun b hb=>hk b (List.mem_cons_of_mem _ (ZaK (by omega) hb)))⟩
theorem EB.lt{w:World}:∀{d:Nat} {e:E} {a:Option Addr} {c:Nat} {bl:List Nat},EB w d e a c bl→∀b∈bl,b<w.heap.size
 | 0,_,_,_,_,h=>h.elim
 | d+1,e,a,c,bl,h=>by
  obtain⟨h1,h2,h3,h4,h5⟩:=h;rcases h5 with ⟨_,h5⟩ | ⟨g,bls,ha,hg,hbl,hl,hnd,hf,hx⟩
  ·intro b hb;rw[h5]at hb;cases hb
  ·subst hbl;intro b hb;rcases List.mem_cons.1 hb with rfl | hb
   ·exact hg
   ·obtain⟨l,hl1,hl2⟩:=List.mem_flatten.1 hb;obtain⟨i,hi,rfl⟩:=List.mem_iff_getElem.1 hl1;obtain⟨a',c',_,x2⟩:=hx i (by omega);exact x2.lt b (by rw[List.getD_eq_getElem?_getD,List.getElem?_eq_getElem hi];exact hl2)
theorem EB.eis{w:World}:∀{d:Nat} {e:E} {a:Option Addr} {c:Nat} {bl:List Nat},EB w d e a c bl→EIs w d e a c
 | 0,_,_,_,_,h=>h
 | d+1,e,a,c,bl,h=>by
  obtain⟨h1,h2,h3,h4,h5⟩:=h;refine⟨h1,h2,h3,h4,fun h0=>?_⟩;rcases h5 with ⟨h5,_⟩ | ⟨g,bls,ha,hg,hbl,hl,hnd,hf,hx⟩
  ·rw[h5]at h0;simp at h0
  ·refine⟨g,0,ha,hg,fun i hi=>?_⟩;obtain⟨a',c',x1,x2⟩:=hx i hi;exact⟨a',c',by rw[Nat.zero_add];exact x1,x2.eis⟩
def apD(f:T→T):Nat→E→E
 | 0,e=>e
 | d+1,e=>.mk e.op (f e.t) (e.kids.map (apD f d))
theorem ZcZ(f:T→T)(d:Nat)(e:E):apD f (d+1) e=.mk e.op (f e.t) (e.kids.map (apD f d)):=rfl
theorem Zj3(f:T→T):∀(d:Nat) (e:E),(apD f d e).op=e.op
 | 0,e=>rfl
 | d+1,e=>rfl
theorem ZhT(f:T→T):∀(d:Nat) (e:E),(apD f d e).kids.length=e.kids.length
 | 0,e=>rfl
 | d+1,e=>by rw[ZcZ];show(e.kids.map (apD f d)).length=_;simp
theorem Zk8(f:E→E){l:List E}{i:Nat}(h:i<l.length):atE (l.map f) i=f (atE l i):=by
 rw[ZbO (by simpa using h),ZbO h,List.getElem_map]
def ZeD(bm:Nat):Value:=.func (.func 106) #[.map (some bm)] #[]
structure Wx (w:World) (g o:Nat) (d:Nat) (e:E) (a:Option Addr) (c:Nat) (bl:List Nat) (s:List P) (w':World):Prop where
 tch:Tch (fun b=>b=g∨b∈bl) w w'
 xat:XAt w' g o e.op (res s e.t) (.slice a e.kids.length c)
 oth:∀j,(j<o+1∨o+5≤j)→w'.cell? ⟨g,j,none⟩=w.cell? ⟨g,j,none⟩
 frz:∀j,w'.frozen? ⟨g,j,none⟩=false
 eb:EB w' d (apD (res s) d e) a c bl
theorem XAt.tat{w:World}{g o:Nat}{op:Int}{t:T}{s:Value}(h:XAt w g o op t s):TAt w g (o+1) t:=⟨h.c1,h.c2,h.c3,h.c4⟩
theorem Znh(f:T→T){d:Nat}(e:E)(h:d≠0):(apD f d e).t=f e.t:=by
 cases d with
 | zero=>exact absurd rfl h
 | succ d=>rfl
theorem EB.pos{w:World}{d:Nat}{e:E}{a:Option Addr}{c:Nat}{bl:List Nat}(h:EB w d e a c bl):d≠0:=fun e0=>by subst e0;exact h
structure Wl (w:World) (g o d:Nat) (e:E) (c g':Nat) (bls:List (List Nat)) (s:List P) (bm k:Nat) (wr:World):Prop where
 tch:Tch (fun b=>b=g∨b∈g'::bls.flatten) w wr
 xat:XAt wr g o e.op (res s e.t) (.slice (some ⟨g',0,none⟩) e.kids.length c)
 oth:∀j,(j<o+1∨o+5≤j)→wr.cell? ⟨g,j,none⟩=w.cell? ⟨g,j,none⟩
 frz:∀j,wr.frozen? ⟨g,j,none⟩=false
 map:MapT wr bm s
 gl:g'<wr.heap.size
 fz:∀j,wr.frozen? ⟨g',j,none⟩=false
 done:∀i,i<e.kids.length→i<k→∃a' c',XAt wr g' (i*6) (atE e.kids i).op (res s (atE e.kids i).t) (.slice a' (atE e.kids i).kids.length c')∧EB wr d (apD (res s) d (atE e.kids i)) a' c' (bls.getD i [])
 rest:∀i,i<e.kids.length→k≤i→∃a' c',XAt wr g' (i*6) (atE e.kids i).op (atE e.kids i).t (.slice a' (atE e.kids i).kids.length c')∧EB wr d (atE e.kids i) a' c' (bls.getD i [])
theorem Wl.step{w:World}{g o d:Nat}{e:E}{c g':Nat}{bls:List (List Nat)}{s:List P}{bm k:Nat}{wr w2:World}{a':Option Addr}{c':Nat}(h:Wl w g o d e c g' bls s bm k wr)(hk:k<e.kids.length)(hl:bls.length=e.kids.length)(nd:(g'::bls.flatten).Nodup)(hg:g ∉ g'::bls.flatten)(hm:bm ∉ g'::bls.flatten)
  (hx:Wx wr g' (k*6) d (atE e.kids k) a' c' (bls.getD k []) s w2):Wl w g o d e c g' bls s bm (k+1) w2:=by
 have hgl:g<wr.heap.size:=World.block_lt_of_cell? _ _ h.xat.c0
 have hsub:∀b,(b=g'∨b∈bls.getD k [])→b∈g'::bls.flatten:=fun b hb=>by
  rcases hb with rfl | hb
  ·simp
  ·exact List.mem_cons_of_mem _ (ZaK (by omega) hb)
 have eg:w2.heap[g]?=wr.heap[g]?:=hx.tch.block g hgl (fun q=>hg (hsub g q));have em:w2.heap[bm]?=wr.heap[bm]?:=hx.tch.block bm h.map.lt (fun q=>hm (hsub bm q));have hnd:=List.nodup_cons.1 nd
 have hkb:∀i,i<e.kids.length→i≠k→∀b,b∈bls.getD i []→b<wr.heap.size→w2.heap[b]?=wr.heap[b]?:=fun i hi hn b hb hbl=>hx.tch.block b hbl (fun q=>by
  rcases q with q | q
  ·exact hnd.1 (by rw[←q];exact ZaK (by omega) hb)
  ·exact ZgT hnd.2 (by omega) (by omega) hn hb q)
 refine⟨h.tch.trans (hx.tch.mono (fun b hb=>.inr (hsub b hb))),h.xat.sameC (fun j _ _=>ZJ eg j),fun j hj=>(ZJ eg j).trans (h.oth j hj),fun j=>(ZaF eg j).trans (h.frz j),h.map.of_block em,Nat.lt_of_lt_of_le h.gl hx.tch.size,hx.frz,fun i hi hik=>?_,fun i hi hik=>?_⟩
 ·by_cases e1:i=k
  ·subst e1;exact⟨a',c',hx.xat,hx.eb⟩
  ·obtain⟨a2,c2,y1,y2⟩:=h.done i hi (by omega);exact⟨a2,c2,y1.sameC (fun j j1 j2=>hx.oth j (.inl (by omega))),y2.keep hx.tch.size (fun b hb=>hkb i hi e1 b hb (y2.lt b hb))⟩
 ·obtain⟨a2,c2,y1,y2⟩:=h.rest i hi (by omega);exact⟨a2,c2,y1.sameC (fun j j1 j2=>hx.oth j (.inr (by omega))),y2.keep hx.tch.size (fun b hb=>hkb i hi (by omega) b hb (y2.lt b hb))⟩
theorem ZgU{bm:Nat}{s:List P}(nd:(s.map P.v).Nodup)(hs:∀p∈s,p.wf):∀(d:Nat) (w:World) (e:E) (a:Option Addr) (c g o:Nat) (bl:List Nat),MapT w bm s→XAt w g o e.op e.t (.slice a e.kids.length c)→(∀j,w.frozen? ⟨g,j,none⟩=false)→EB w d e a c bl→g ∉ bl→bm ∉ bl→bm≠g →
  Calls Tryz.prog 104 #[.iface 341 (.pointer (some ⟨g,o,none⟩)),ZeD bm] w fun e' w'=>(∃u,e'=.returned u)∧Wx w g o d e a c bl s w':=by
 intro d
 induction d with
 | zero=>intro w e a c g o bl _ _ _ h;exact absurd h (fun h=>h)
 | succ d ih=>
 intro w e a c g o bl hm hx hf hE hgb hmb hmg;have hg:g<w.heap.size:=World.block_lt_of_cell? _ _ hx.c0;obtain⟨⟨hop,hkl⟩,htw,hc1,hc2,hk⟩:=hE;have HP:Hid _:=ZeB (o:=o+1) hm nd hx.tat (fun i _=>hf _) htw;have HIH:Hid _:=ih;have HE0:=Lib.hid hk;have HX0:=Lib.hid hx;have HM0:=Lib.hid hm;have HFZ:=Lib.hid hf;have HOP:=Lib.hid hop;have HTW:=Lib.hid (ZkR hs htw);have HGB:=Lib.hid (And.intro hgb (And.intro hmb hmg))
 have h1:=Zov (.pointer (some ⟨g,o,none⟩));have h2:=ZhK (.pointer (some ⟨g,o,none⟩));have h3:=Zow (.pointer (some ⟨g,o,none⟩));have h4:=Zox (.pointer (some ⟨g,o,none⟩));clear ih hk hx hm hf hop htw hgb hmb hmg;unfold ZeD;go_enter Tryz.func104,Tryz.ntmps104;go_wp2_with fail;refine Calls.mono HP.out ?_;rintro ee w1 ⟨⟨u,rfl⟩,hp⟩;have hx1:XAt w1 g o e.op (res s e.t) (.slice a e.kids.length c):=⟨by rw[hp.oth _ (by omega)];exact HX0.out.c0,hp.term.c0,hp.term.c1,hp.term.c2,hp.term.c3,by rw[hp.oth _ (by omega)];exact HX0.out.c5⟩
 have HX1:=Lib.hid hx1;have HPT:=Lib.hid hp;have c5:=hx1.c5;clear h1 h2 h3 h4 hp hx1 HP;rcases HE0.out with ⟨hk0,hbl⟩ | ⟨g',bls,ha,hg',hbl,hl,hnd,hf',hkx⟩
 ·have HFIN:Hid (Wx w g o (d+1) e a c bl s w1):=by
   refine⟨HPT.out.tch.mono (fun b hb=>.inl hb),HX1.out,fun j hj=>HPT.out.oth j (by omega),fun j=>(HPT.out.frz j).trans (HFZ.out j),?_⟩;rw[ZcZ,hk0];exact⟨⟨HOP.out,by simp[E.kids]⟩,HTW.out,Nat.zero_le _,hc2,.inl ⟨rfl,hbl⟩⟩
  have hlen:e.kids.length=0:=by rw[hk0];rfl
  rw[hlen]at c5;clear hk0 hbl hkl hc1;go_wp2;clear c5;go_loopw [106] (fun i wr=>i=.int .i64 0∧wr=w1) (fun i _=>0)
  case atStart=>exact⟨rfl,rfl⟩
  case round=>
   obtain⟨rfl,rfl⟩:=hrel;go_wp2;go_end0;exact⟨⟨_,rfl⟩,HFIN.out⟩
 ·subst hbl ha;have hgg:g≠g':=fun q=>HGB.out.1 (by rw[q];simp)
  have hkb:∀b∈g'::bls.flatten,b<w.heap.size→w1.heap[b]?=w.heap[b]?:=fun b hb hbl=>HPT.out.blk b hbl (fun q=>HGB.out.1 (by rw[←q];exact hb))
  have eg:=hkb g' (by simp) hg'
  have HW0:Hid (Wl w g o d e c g' bls s bm 0 w1):=by
   refine⟨HPT.out.tch.mono (fun b hb=>.inl hb),HX1.out,fun j hj=>HPT.out.oth j (by omega),fun j=>(HPT.out.frz j).trans (HFZ.out j),HM0.out.of_block (HPT.out.blk _ HM0.out.lt HGB.out.2.2),Nat.lt_of_lt_of_le hg' HPT.out.size,fun j=>(ZaF eg j).trans (hf' j),fun i _ h0=>absurd h0 (by omega),fun i hi _=>?_⟩;obtain⟨a2,c2,y1,y2⟩:=hkx i hi;exact⟨a2,c2,y1.sameC (fun j _ _=>ZJ eg j),y2.keep HPT.out.size (fun b hb=>hkb b (List.mem_cons_of_mem _ (ZaK (by omega) hb)) (y2.lt b hb))⟩
  have HND:=Lib.hid hnd;clear hkb eg hkx hf' hnd;go_wp2;clear c5;go_loopw [106] (fun i wr=>∃k:Nat,k≤e.kids.length∧i=.int .i64 k∧Hid (Wl w g o d e c g' bls s bm k wr)) (fun i _=>e.kids.length-(intOf i).toNat)
  case atStart=>exact⟨0,Nat.zero_le _,rfl,HW0⟩
  case round=>
   clear HW0;obtain⟨k,hk,rfl,HL⟩:=hrel;have c5:=HL.out.xat.c5
   by_cases hlt:k<e.kids.length
   ·have hlt':(k:Int)<(e.kids.length:Int):=by omega
    have hk0:(0:Int)≤(k:Int):=by omega
    obtain⟨a',c',y1,y2⟩:=HL.out.rest k hlt (Nat.le_refl _);have hn2:=List.nodup_cons.1 HND.out
    have HI:Hid (Calls Tryz.prog 104 #[.iface 341 (.pointer (some ⟨g',k*6,none⟩)),.func (.func 106) #[.map (some bm)] #[]] wr fun e' w'=>(∃u,e'=.returned u)∧Wx wr g' (k*6) d (atE e.kids k) a' c' (bls.getD k []) s w'):=
     HIH.out wr (atE e.kids k) a' c' g' (k*6) _ HL.out.map y1 HL.out.fz y2 (fun q=>hn2.1 (ZaK (by omega) q)) (fun q=>HGB.out.2.1 (List.mem_cons_of_mem _ (ZaK (by omega) q))) (fun q=>HGB.out.2.1 (by rw[q];simp))
    clear y1 y2 hn2;go_wp2_with fail;refine Calls.mono HI.out ?_;rintro ee w2 ⟨⟨u2,rfl⟩,hw2⟩;have HL2:=Lib.hid (HL.out.step hlt hl HND.out HGB.out.1 HGB.out.2.1 hw2);clear hw2 HI HL;go_wp2;go_roundw
    case rel=>exact⟨k+1,by omega,by go_num,HL2⟩
    case measure=>simp[intOf];omega
   ·obtain rfl:k=e.kids.length:=by omega
    have HFIN:Hid (Wx w g o (d+1) e (some ⟨g',0,none⟩) c (g'::bls.flatten) s wr):=by
     refine⟨HL.out.tch,HL.out.xat,HL.out.oth,HL.out.frz,?_⟩;rw[ZcZ];refine⟨⟨HOP.out,by show(e.kids.map (apD (res s) d)).length≤_;rw[List.length_map];exact hkl⟩,HTW.out,by show(e.kids.map (apD (res s) d)).length≤_;rw[List.length_map];exact hc1,hc2,.inr ⟨g',bls,rfl,HL.out.gl,rfl,by show _=(e.kids.map (apD (res s) d)).length;rw[List.length_map];exact hl,HND.out,HL.out.fz,fun i hi=>?_⟩⟩;have hi':i<e.kids.length:=by have:i<(e.kids.map (apD (res s) d)).length:=hi;rw[List.length_map]at this;exact this
     obtain⟨a2,c2,y1,y2⟩:=HL.out.done i hi' hi';refine⟨a2,c2,?_⟩;show XAt wr g' (i*6) (atE (e.kids.map (apD (res s) d)) i).op (atE (e.kids.map (apD (res s) d)) i).t (.slice a2 (atE (e.kids.map (apD (res s) d)) i).kids.length c2)∧EB wr d (atE (e.kids.map (apD (res s) d)) i) a2 c2 (bls.getD i []);rw[Zk8 _ hi',Zj3,ZhT,Znh _ _ y2.pos];exact⟨y1,y2⟩
    go_wp2;go_end0;exact⟨⟨_,rfl⟩,HFIN.out⟩
structure TB (w:World) (ts:List T) (a:Option Addr) (c:Nat) (bl:List Nat):Prop where
 c1:ts.length≤c
 c2:c≤maxLen
 wf:∀t∈ts,t.wf
 lies:(ts=[]∧bl=[])∨∃g,a=some ⟨g,0,none⟩∧g<w.heap.size∧bl=[g]∧(∀j,w.frozen? ⟨g,j,none⟩=false)∧∀i,i<ts.length→TAt w g (i*4) (atT ts i)
theorem TAt.sameC{w w':World}{g o:Nat}{t:T}(h:TAt w g o t)(e:∀j,o≤j→j<o+4→w'.cell? ⟨g,j,none⟩=w.cell? ⟨g,j,none⟩):TAt w' g o t:=
 ⟨(e _ (by omega) (by omega)).trans h.c0,(e _ (by omega) (by omega)).trans h.c1,(e _ (by omega) (by omega)).trans h.c2,(e _ (by omega) (by omega)).trans h.c3⟩
theorem TB.keep{w w':World}{ts:List T}{a:Option Addr}{c:Nat}{bl:List Nat}(h:TB w ts a c bl)(hs:w.heap.size≤w'.heap.size)(hk:∀b∈bl,w'.heap[b]?=w.heap[b]?):TB w' ts a c bl:=by
 refine⟨h.c1,h.c2,h.wf,?_⟩;rcases h.lies with h1 | ⟨g,ha,hg,hbl,hf,hx⟩
 ·exact .inl h1
 ·have e:=hk g (by rw[hbl];simp);exact .inr ⟨g,ha,Nat.lt_of_lt_of_le hg hs,hbl,fun j=>(ZaF e j).trans (hf j),fun i hi=>(hx i hi).sameC (fun j _ _=>ZJ e j)⟩
theorem TB.lt{w:World}{ts:List T}{a:Option Addr}{c:Nat}{bl:List Nat}(h:TB w ts a c bl):∀b∈bl,b<w.heap.size:=fun b hb=>by
 rcases h.lies with ⟨_,h1⟩ | ⟨g,ha,hg,hbl,hf,hx⟩
 ·rw[h1]at hb;cases hb
 ·rw[hbl]at hb;rw[List.mem_singleton.1 hb];exact hg
theorem TB.is{w:World}{ts:List T}{a:Option Addr}{c:Nat}{bl:List Nat}(h:TB w ts a c bl):Lt w (.slice a ts.length c) ts:=by
 rcases h.lies with ⟨h1,_⟩ | ⟨g,ha,hg,hbl,hf,hx⟩
 ·subst h1;exact⟨⟨Nat.zero_le _,a,c,rfl,h.c1,h.c2,fun h0=>absurd h0 (by simp)⟩,h.wf⟩
 ·subst ha;exact ZjN rfl h.c1 h.c2 hg hx h.wf
theorem ZoA(f:T→T){l:List T}{i:Nat}(h:i<l.length):atT (l.map f) i=f (atT l i):=by
 rw[ZcQ (by simpa using h),ZcQ h,List.getElem_map]
structure Wa (w:World) (g' bm:Nat) (ts:List T) (s:List P) (k:Nat) (wr:World):Prop where
 tch:Tch (fun b=>b=g') w wr
 map:MapT wr bm s
 gl:g'<wr.heap.size
 fz:∀j,wr.frozen? ⟨g',j,none⟩=false
 done:∀i,i<ts.length→i<k→TAt wr g' (i*4) (res s (atT ts i))
 rest:∀i,i<ts.length→k≤i→TAt wr g' (i*4) (atT ts i)
theorem Wa.step{w:World}{g' bm:Nat}{ts:List T}{s:List P}{k:Nat}{wr w2:World}(h:Wa w g' bm ts s k wr)(hm:bm≠g')(hp:Pt wr g' (k*4) (res s (atT ts k)) w2):Wa w g' bm ts s (k+1) w2:=by
 refine⟨h.tch.trans hp.tch,h.map.of_block (hp.blk _ h.map.lt hm),Nat.lt_of_lt_of_le h.gl hp.size,fun j=>(hp.frz j).trans (h.fz j),fun i hi hik=>?_,fun i hi hik=>?_⟩
 ·by_cases e:i=k
  ·subst e;exact hp.term
  ·exact(h.done i hi (by omega)).sameC (fun j j1 j2=>hp.oth j (.inl (by omega)))
 ·exact(h.rest i hi (by omega)).sameC (fun j j1 j2=>hp.oth j (.inr (by omega)))
theorem ZpQ(v:Value)(w:World):(Instr.typeAssert (.iface 340 v) 20 155 true).run Tryz.prog w=.ok (.tuple #[.pointer none,.bool false]) w:=by kernel_rfl
theorem ZlP(v:Value)(w:World):(Instr.typeAssert (.iface 340 v) 20 337 true).run Tryz.prog w=.ok (.tuple #[.pointer none,.bool false]) w:=by kernel_rfl
theorem ZpR(v:Value)(w:World):(Instr.typeAssert (.iface 340 v) 20 340 true).run Tryz.prog w=.ok (.tuple #[v,.bool true]) w:=by kernel_rfl
theorem ZlQ{bm:Nat}{s:List P}(nd:(s.map P.v).Nodup)(hs:∀p∈s,p.wf)(w:World)(ts:List T)(a:Option Addr)(c g o:Nat)(bl:List Nat)(hm:MapT w bm s)(hc:w.cell? ⟨g,o+1,none⟩=some (.slice a ts.length c))(hT:TB w ts a c bl)(hgb:g ∉ bl)(hmb:bm ∉ bl)(hn:ts.length≤281474976710656) :
  Calls Tryz.prog 104 #[.iface 340 (.pointer (some ⟨g,o,none⟩)),ZeD bm] w fun e w'=>(∃u,e=.returned u)∧Tch (fun b=>b∈bl) w w'∧TB w' (ts.map (res s)) a c bl:=by
 have hgl:g<w.heap.size:=World.block_lt_of_cell? _ _ hc;have h1:=ZpQ (.pointer (some ⟨g,o,none⟩));have h2:=ZlP (.pointer (some ⟨g,o,none⟩));have h3:=ZpR (.pointer (some ⟨g,o,none⟩));have HT:=Lib.hid hT
 have HWF:Hid (∀t∈ts.map (res s),t.wf):=fun t ht=>by
  obtain⟨x,hx,rfl⟩:=List.mem_map.1 ht;exact ZkR hs (hT.wf x hx)
 unfold ZeD;rcases hT.lies with ⟨h0,hbl⟩ | ⟨g',ha,hg',hbl,hf',hkx⟩
 ·subst h0;clear hT;go_enter Tryz.func104,Tryz.ntmps104;go_wp2;clear h1 h2 h3;go_loopw [81] (fun i wr=>i=.int .i64 0∧wr=w) (fun i _=>0)
  case atStart=>exact⟨rfl,rfl⟩
  case round=>
   obtain⟨rfl,rfl⟩:=hrel;go_wp2;go_end0;exact⟨⟨_,rfl⟩,Tch.refl _ _,HT.out⟩
 ·subst ha hbl;have hgg:g≠g':=fun e=>hgb (by rw[e];simp)
  have hmg:bm≠g':=fun e=>hmb (by rw[e];simp)
  have HW0:Hid (Wa w g' bm ts s 0 w):=⟨Tch.refl _ _,hm,hg',hf',fun i _ h=>absurd h (by omega),fun i hi _=>hkx i hi⟩;have HCC:Hid (∀wr,Tch (fun b=>b=g') w wr→wr.cell? ⟨g,o+1,none⟩=some (.slice (some ⟨g',0,none⟩) ts.length c)):=fun wr ht=>by rw[ZJ (ht.block g hgl hgg)];exact hc
  have HPU:Hid (∀k wr,k<ts.length→Wa w g' bm ts s k wr→Calls Tryz.prog 106 #[.map (some bm),.pointer (some ⟨g',k*4,none⟩)] wr fun e w'=>(∃u,e=.returned u)∧Wa w g' bm ts s (k+1) w'):=fun k wr hk ha=>(ZeB ha.map nd (ha.rest k hk (Nat.le_refl _)) (fun i _=>ha.fz _) (HT.out.wf _ (by rw[ZcQ hk];exact List.getElem_mem _))).mono (fun e w' h=>⟨h.1,ha.step hmg h.2⟩)
  clear hT hm hkx hf' hgb hmb nd hs;go_enter Tryz.func104,Tryz.ntmps104;go_wp2;clear h1 h2 h3 hc;go_loopw [81] (fun i wr=>∃k:Nat,k≤ts.length∧i=.int .i64 k∧Hid (Wa w g' bm ts s k wr)) (fun i _=>ts.length-(intOf i).toNat)
  case atStart=>exact⟨0,Nat.zero_le _,rfl,HW0⟩
  case round=>
   clear HW0;obtain⟨k,hk,rfl,HA⟩:=hrel;have c0:=HCC.out wr HA.out.tch
   by_cases hlt:k<ts.length
   ·have hlt':(k:Int)<(ts.length:Int):=by omega
    have hk0:(0:Int)≤(k:Int):=by omega
    have HP:=Lib.hid (HPU.out k wr hlt HA.out);go_wp2_with fail;refine Calls.mono HP.out ?_;rintro e w2 ⟨⟨u,rfl⟩,ha2⟩;have HA2:=Lib.hid ha2;clear ha2 HP HA;go_wp2;go_roundw
    case rel=>exact⟨k+1,by omega,by go_num,HA2⟩
    case measure=>simp[intOf];omega
   ·obtain rfl:k=ts.length:=by omega
    have HFIN:Hid (Tch (fun b=>b∈[g']) w wr∧TB wr (ts.map (res s)) (some ⟨g',0,none⟩) c [g']):=by
     refine⟨HA.out.tch.mono (fun b hb=>by rw[hb];simp),by rw[List.length_map];exact HT.out.c1,HT.out.c2,HWF.out,.inr ⟨g',rfl,HA.out.gl,rfl,HA.out.fz,fun i hi=>?_⟩⟩;rw[List.length_map]at hi;rw[ZoA _ hi];exact HA.out.done i hi hi
    go_wp2;go_end0;exact⟨⟨_,rfl⟩,HFIN.out⟩
structure LB (w:World) (d:Nat) (x:Lit4) (p:LP) (b1 b2 b3:List Nat):Prop where
 kb : -128≤x.k∧x.k≤127
 rb : -128≤x.rel∧x.rel≤127
 pb:x.pr.size≤maxLen
 ln:x.ts.length≤281474976710656
 ts:TB w x.ts p.a p.c b1
 l:EB w d x.l p.la p.lc b2
 r:EB w d x.r p.ra p.rc b3
 nd:(b1++(b2++b3)).Nodup
theorem LB.is{w:World}{d:Nat}{x:Lit4}{p:LP}{b1 b2 b3:List Nat}(h:LB w d x p b1 b2 b3):LIs w d x p:=⟨h.kb,h.rb,h.pb,h.ln,h.ts.is,h.l.eis,h.r.eis⟩
theorem LB.keep{w w':World}{d:Nat}{x:Lit4}{p:LP}{b1 b2 b3:List Nat}(h:LB w d x p b1 b2 b3)(hs:w.heap.size≤w'.heap.size)(hk:∀b∈b1++(b2++b3),w'.heap[b]?=w.heap[b]?):LB w' d x p b1 b2 b3:=
 ⟨h.kb,h.rb,h.pb,h.ln,h.ts.keep hs (fun b hb=>hk b (by simp[hb])),h.l.keep hs (fun b hb=>hk b (by simp[hb])),h.r.keep hs (fun b hb=>hk b (by simp[hb])),h.nd⟩
theorem LB.lt{w:World}{d:Nat}{x:Lit4}{p:LP}{b1 b2 b3:List Nat}(h:LB w d x p b1 b2 b3):∀b∈b1++(b2++b3),b<w.heap.size:=fun b hb=>by
 rcases List.mem_append.1 hb with hb | hb
 ·exact h.ts.lt b hb
 ·rcases List.mem_append.1 hb with hb | hb
  ·exact h.l.lt b hb
  ·exact h.r.lt b hb
def apL(f:T→T)(d:Nat)(x:Lit4):Lit4:=⟨x.k,x.pr,x.ts.map f,x.rel,apD f d x.l,apD f d x.r⟩
structure Wq (w:World) (g o d:Nat) (x:Lit4) (p:LP) (b1 b2 b3:List Nat) (s:List P) (w':World):Prop where
 tch:Tch (fun b=>b=g∨b∈b1++(b2++b3)) w w'
 lat:LAt w' g o (apL (res s) d x) p
 oth:∀j,(j<o∨o+16≤j)→w'.cell? ⟨g,j,none⟩=w.cell? ⟨g,j,none⟩
 frz:∀j,w'.frozen? ⟨g,j,none⟩=false
 lb:LB w' d (apL (res s) d x) p b1 b2 b3
theorem Zm8{b1 b2 b3:List Nat}(h:(b1++(b2++b3)).Nodup):(∀b,b∈b1→b ∉ b2∧b ∉ b3)∧(∀b,b∈b2→b ∉ b3):=by
 rw[List.nodup_append]at h;obtain⟨_,h2,h3⟩:=h;rw[List.nodup_append]at h2;exact⟨fun b hb=>⟨fun hc=>h3 b hb b (by simp[hc]) rfl,fun hc=>h3 b hb b (by simp[hc]) rfl⟩,fun b hb hc=>h2.2.2 b hb b hc rfl⟩
theorem MapT.tch{w w':World}{bm:Nat}{s:List P}{E:Nat→Prop}(h:MapT w bm s)(t:Tch E w w')(hn:¬ E bm):MapT w' bm s:=h.of_block (t.block bm h.lt hn)
theorem ZhO{bm:Nat}{s:List P}(nd:(s.map P.v).Nodup)(hs:∀p∈s,p.wf)(d:Nat)(w:World)(x:Lit4)(p:LP)(g o:Nat)(b1 b2 b3:List Nat)(hm:MapT w bm s)(hx:LAt w g o x p)(hf:∀j,w.frozen? ⟨g,j,none⟩=false)(hL:LB w d x p b1 b2 b3)(hgb:g ∉ b1++(b2++b3))(hmb:bm ∉ b1++(b2++b3))(hmg:bm≠g) :
  Calls Tryz.prog 104 #[.iface 337 (.pointer (some ⟨g,o,none⟩)),ZeD bm] w fun e w'=>(∃u,e=.returned u)∧Wq w g o d x p b1 b2 b3 s w':=by
 have hg:g<w.heap.size:=World.block_lt_of_cell? _ _ hx.k;obtain⟨dj1,dj2⟩:=Zm8 hL.nd;have g1:g ∉ b1:=fun h=>hgb (by simp[h])
 have g2:g ∉ b2:=fun h=>hgb (by simp[h])
 have g3:g ∉ b3:=fun h=>hgb (by simp[h])
 have m1:bm ∉ b1:=fun h=>hmb (by simp[h])
 have m2:bm ∉ b2:=fun h=>hmb (by simp[h])
 have m3:bm ∉ b3:=fun h=>hmb (by simp[h])
 have HA:Hid _:=ZlQ nd hs w x.ts p.a p.c g (o+1) b1 hm hx.ts hL.ts g1 m1 hL.ln
 have HE1:Hid (∀w1,Tch (fun b=>b∈b1) w w1→Calls Tryz.prog 104 #[.iface 341 (.pointer (some ⟨g,o+4,none⟩)),ZeD bm] w1 fun e' w'=>(∃u,e'=.returned u)∧Wx w1 g (o+4) d x.l p.la p.lc b2 s w'):=fun w1 t1=>by
  have eg:=t1.block g hg g1;exact ZgU nd hs d w1 x.l p.la p.lc g (o+4) b2 (hm.tch t1 m1) (hx.l.sameC (fun j _ _=>ZJ eg j)) (fun j=>(ZaF eg j).trans (hf j)) (hL.l.keep t1.size (fun b hb=>t1.block b (hL.l.lt b hb) (fun q=>(dj1 b q).1 hb))) g2 m2 hmg
 have HE2:Hid (∀w1 w2,Tch (fun b=>b∈b1) w w1→Wx w1 g (o+4) d x.l p.la p.lc b2 s w2→Calls Tryz.prog 104 #[.iface 341 (.pointer (some ⟨g,o+10,none⟩)),ZeD bm] w2 fun e' w'=>(∃u,e'=.returned u)∧Wx w2 g (o+10) d x.r p.ra p.rc b3 s w'):=fun w1 w2 t1 x1=>by
  have eg:=t1.block g hg g1;have hg1:g<w1.heap.size:=Nat.lt_of_lt_of_le hg t1.size;refine ZgU nd hs d w2 x.r p.ra p.rc g (o+10) b3 ((hm.tch t1 m1).tch x1.tch (fun q=>q.elim hmg m2)) ((hx.r.sameC (fun j _ _=>ZJ eg j)).sameC (fun j j1 _=>x1.oth j (.inr (by omega)))) x1.frz ?_ g3 m3 hmg;have k1:=hL.r.keep t1.size (fun b hb=>t1.block b (hL.r.lt b hb) (fun q=>(dj1 b q).2 hb));exact k1.keep x1.tch.size (fun b hb=>x1.tch.block b (k1.lt b hb) (fun q=>q.elim (fun q=>g3 (by rw[←q];exact hb)) (fun q=>dj2 b q hb)))
 have HFIN:Hid (∀w1 w2 w3,Tch (fun b=>b∈b1) w w1→TB w1 (x.ts.map (res s)) p.a p.c b1→Wx w1 g (o+4) d x.l p.la p.lc b2 s w2→Wx w2 g (o+10) d x.r p.ra p.rc b3 s w3→Wq w g o d x p b1 b2 b3 s w3):=fun w1 w2 w3 t1 tb x1 x2=>by
  have eg:=t1.block g hg g1;have q0:∀j,(j<o+5∨o+9≤j)→(j<o+11∨o+15≤j)→w3.cell? ⟨g,j,none⟩=w.cell? ⟨g,j,none⟩:=fun j h1 h2=>(x2.oth j (by omega)).trans ((x1.oth j (by omega)).trans (ZJ eg j))
  have hl2:XAt w3 g (o+4) x.l.op (res s x.l.t) (.slice p.la x.l.kids.length p.lc):=x1.xat.sameC (fun j _ j2=>x2.oth j (.inl (by omega)))
  have tb2:TB w3 (x.ts.map (res s)) p.a p.c b1:=by
   have k1:=tb.keep x1.tch.size (fun b hb=>x1.tch.block b (tb.lt b hb) (fun q=>q.elim (fun q=>g1 (by rw[←q];exact hb)) (fun q=>(dj1 b hb).1 q)));exact k1.keep x2.tch.size (fun b hb=>x2.tch.block b (k1.lt b hb) (fun q=>q.elim (fun q=>g1 (by rw[←q];exact hb)) (fun q=>(dj1 b hb).2 q)))
  have el2:EB w3 d (apD (res s) d x.l) p.la p.lc b2:=x1.eb.keep x2.tch.size (fun b hb=>x2.tch.block b (x1.eb.lt b hb) (fun q=>q.elim (fun q=>g2 (by rw[←q];exact hb)) (fun q=>dj2 b hb q)));have tt:Tch (fun b=>b=g∨b∈b1++(b2++b3)) w w3:=((t1.mono (fun b hb=>.inr (by simp[hb]))).trans (x1.tch.mono (fun b hb=>hb.imp_right (fun q=>by simp[q])))).trans (x2.tch.mono (fun b hb=>hb.imp_right (fun q=>by simp[q])))
  refine⟨tt,⟨?_,?_,?_,?_,?_,?_⟩,fun j hj=>q0 j (by omega) (by omega),x2.frz,⟨hL.kb,hL.rb,hL.pb,by show(x.ts.map (res s)).length≤_;rw[List.length_map];exact hL.ln,tb2,el2,x2.eb,hL.nd⟩⟩
  ·rw[q0 o (by omega) (by omega)];exact hx.k
  ·rw[q0 (o+1) (by omega) (by omega)];exact hx.pr
  ·show w3.cell? ⟨g,o+2,none⟩=some (.slice p.a (x.ts.map (res s)).length p.c);rw[q0 (o+2) (by omega) (by omega),List.length_map];exact hx.ts
  ·rw[q0 (o+3) (by omega) (by omega)];exact hx.rel
  ·show XAt w3 g (o+4) (apD (res s) d x.l).op (apD (res s) d x.l).t (.slice p.la (apD (res s) d x.l).kids.length p.lc);rw[Zj3,ZhT,Znh _ _ hL.l.pos];exact hl2
  ·show XAt w3 g (o+10) (apD (res s) d x.r).op (apD (res s) d x.r).t (.slice p.ra (apD (res s) d x.r).kids.length p.rc);rw[Zj3,ZhT,Znh _ _ hL.r.pos];exact x2.xat
 have h1:=Zni (.pointer (some ⟨g,o,none⟩));have h2:=ZgW (.pointer (some ⟨g,o,none⟩));unfold ZeD at HA HE1 HE2⊢;clear dj1 dj2 g1 g2 g3 m1 m2 m3 hm hx hf hL hgb hmb hmg nd hs hg;go_enter Tryz.func104,Tryz.ntmps104;go_wp2_with fail;refine Calls.mono HA.out ?_;rintro e w1 ⟨⟨u,rfl⟩,t1,tb⟩;go_wp2_with fail;refine Calls.mono (HE1.out _ t1) ?_;rintro e w2 ⟨⟨u2,rfl⟩,x1⟩;go_wp2_with fail;refine Calls.mono (HE2.out _ _ t1 x1) ?_
 rintro e w3 ⟨⟨u3,rfl⟩,x2⟩;go_wp2;go_end0;exact⟨⟨_,rfl⟩,HFIN.out _ _ _ t1 tb x1 x2⟩
def apA(f:T→T)(x:A5):A5:=⟨x.g,f x.t⟩
def apX(f:T→T)(d:Nat)(y:XL):XL:=⟨apL f d y.x,y.p⟩
structure AB (w:World) (hd:List A5) (a:Option Addr) (c:Nat) (bl:List Nat):Prop where
 c1:hd.length≤c
 c2:c≤maxLen
 wf:∀t∈hd,t.wf
 lies:(hd=[]∧bl=[])∨∃g,a=some ⟨g,0,none⟩∧g<w.heap.size∧bl=[g]∧(∀j,w.frozen? ⟨g,j,none⟩=false)∧∀i,i<hd.length→w.cell? ⟨g,i*5,none⟩=some (.int .i8 (atA hd i).g)∧TAt w g (i*5+1) (atA hd i).t
theorem AB.keep{w w':World}{hd:List A5}{a:Option Addr}{c:Nat}{bl:List Nat}(h:AB w hd a c bl)(hs:w.heap.size≤w'.heap.size)(hk:∀b∈bl,w'.heap[b]?=w.heap[b]?):AB w' hd a c bl:=by
 refine⟨h.c1,h.c2,h.wf,?_⟩;rcases h.lies with h1 | ⟨g,ha,hg,hbl,hf,hx⟩
 ·exact .inl h1
 ·have e:=hk g (by rw[hbl];simp);exact .inr ⟨g,ha,Nat.lt_of_lt_of_le hg hs,hbl,fun j=>(ZaF e j).trans (hf j),fun i hi=>⟨(ZJ e _).trans (hx i hi).1,(hx i hi).2.sameC (fun j _ _=>ZJ e j)⟩⟩
theorem AB.lt{w:World}{hd:List A5}{a:Option Addr}{c:Nat}{bl:List Nat}(h:AB w hd a c bl):∀b∈bl,b<w.heap.size:=fun b hb=>by
 rcases h.lies with ⟨_,h1⟩ | ⟨g,ha,hg,hbl,hf,hx⟩
 ·rw[h1]at hb;cases hb
 ·rw[hbl]at hb;rw[List.mem_singleton.1 hb];exact hg
theorem AB.la{w:World}{hd:List A5}{a:Option Addr}{c:Nat}{bl:List Nat}(h:AB w hd a c bl):La w (.slice a hd.length c) hd:=by
 rcases h.lies with ⟨h1,_⟩ | ⟨g,ha,hg,hbl,hf,hx⟩
 ·subst h1;exact⟨⟨Nat.zero_le _,a,c,rfl,h.c1,h.c2,fun h0=>absurd h0 (by simp)⟩,h.wf⟩
 ·subst ha;refine⟨ZaC (f:=A5.cells) (k:=5) (by omega) (fun _=>rfl) A50 h.c1 h.c2 hg (fun i hi j v hv=>?_),h.wf⟩;have hx':=hx i hi;show w.cell? ⟨g,i*5+j,none⟩=some v;have hj:j<5:=(List.getElem?_eq_some_iff.1 hv).1;change (A5.cells (atA hd i))[j]?=some v at hv;obtain rfl | rfl | rfl | rfl | rfl:j=0∨j=1∨j=2∨j=3∨j=4:=by omega
  ·simp[A5.cells]at hv;subst hv;exact hx'.1
  ·simp[A5.cells]at hv;subst hv;exact hx'.2.c0
  ·simp[A5.cells]at hv;subst hv;exact hx'.2.c1
  ·simp[A5.cells]at hv;subst hv;exact hx'.2.c2
  ·simp[A5.cells]at hv;subst hv;exact hx'.2.c3
theorem ZoC(f:A5→A5){l:List A5}{i:Nat}(h:i<l.length):atA (l.map f) i=f (atA l i):=by
 rw[Zdj (by simpa using h),Zdj h,List.getElem_map]
theorem Zng(f:XL→XL){l:List XL}{i:Nat}(h:i<l.length):atL (l.map f) i=f (atL l i):=by
 rw[ZS (by simpa using h),ZS h,List.getElem_map]
structure Wh (w:World) (g' bm:Nat) (hd:List A5) (s:List P) (k:Nat) (wr:World):Prop where
 tch:Tch (fun b=>b=g') w wr
 map:MapT wr bm s
 gl:g'<wr.heap.size
 fz:∀j,wr.frozen? ⟨g',j,none⟩=false
 agg:∀i,i<hd.length→wr.cell? ⟨g',i*5,none⟩=some (.int .i8 (atA hd i).g)
 done:∀i,i<hd.length→i<k→TAt wr g' (i*5+1) (res s (atA hd i).t)
 rest:∀i,i<hd.length→k≤i→TAt wr g' (i*5+1) (atA hd i).t
theorem Wh.step{w:World}{g' bm:Nat}{hd:List A5}{s:List P}{k:Nat}{wr w2:World}(h:Wh w g' bm hd s k wr)(hm:bm≠g')(hp:Pt wr g' (k*5+1) (res s (atA hd k).t) w2):Wh w g' bm hd s (k+1) w2:=by
 refine⟨h.tch.trans hp.tch,h.map.of_block (hp.blk _ h.map.lt hm),Nat.lt_of_lt_of_le h.gl hp.size,fun j=>(hp.frz j).trans (h.fz j),fun i hi=>(hp.oth _ (by omega)).trans (h.agg i hi),fun i hi hik=>?_,fun i hi hik=>?_⟩
 ·by_cases e:i=k
  ·subst e;exact hp.term
  ·exact(h.done i hi (by omega)).sameC (fun j j1 j2=>hp.oth j (.inl (by omega)))
 ·exact(h.rest i hi (by omega)).sameC (fun j j1 j2=>hp.oth j (.inr (by omega)))
def ZcD(t:List Nat × List Nat × List Nat):List Nat:=t.1++(t.2.1++t.2.2)
def ZaA(l:List (List Nat × List Nat × List Nat))(i:Nat):List Nat × List Nat × List Nat:=l.getD i ([],[],[])
theorem ZcY(l:List (List Nat × List Nat × List Nat))(i:Nat):(l.map ZcD).getD i []=ZcD (ZaA l i):=by
 unfold ZaA;rw[List.getD_eq_getElem?_getD,List.getD_eq_getElem?_getD,List.getElem?_map]
 cases l[i]? with
 | none=>rfl
 | some x=>rfl
structure BB (w:World) (d:Nat) (bd:List XL) (a:Option Addr) (c:Nat) (bl:List Nat):Prop where
 c1:bd.length≤c
 c2:c≤maxLen
 lies:(bd=[]∧bl=[])∨∃g ls,a=some ⟨g,0,none⟩∧g<w.heap.size∧bl=g::(ls.map ZcD).flatten∧ls.length=bd.length∧bl.Nodup∧(∀j,w.frozen? ⟨g,j,none⟩=false) ∧
  ∀i,i<bd.length→LAt w g (i*16) (atL bd i).x (atL bd i).p∧LB w d (atL bd i).x (atL bd i).p (ZaA ls i).1 (ZaA ls i).2.1 (ZaA ls i).2.2
theorem LAt.sameC{w w':World}{g o:Nat}{x:Lit4}{p:LP}(h:LAt w g o x p)(e:∀j,o≤j→j<o+16→w'.cell? ⟨g,j,none⟩=w.cell? ⟨g,j,none⟩):LAt w' g o x p:=
 ⟨(e _ (by omega) (by omega)).trans h.k,(e _ (by omega) (by omega)).trans h.pr,(e _ (by omega) (by omega)).trans h.ts,(e _ (by omega) (by omega)).trans h.rel,h.l.sameC (fun j _ _=>e j (by omega) (by omega)),h.r.sameC (fun j _ _=>e j (by omega) (by omega))⟩
theorem BB.lb{w:World}{d:Nat}{bd:List XL}{a:Option Addr}{c:Nat}{bl:List Nat}(h:BB w d bd a c bl):Lb w (.slice a bd.length c) d bd:=by
 rcases h.lies with ⟨h1,_⟩ | ⟨g,ls,ha,hg,hbl,hl,hnd,hf,hx⟩
 ·subst h1;exact⟨⟨Nat.zero_le _,a,c,rfl,h.c1,h.c2,fun h0=>absurd h0 (by simp)⟩,fun y hy=>by cases hy⟩
 ·subst ha;refine⟨ZaC (f:=XL.cells) (k:=16) (by omega) (fun _=>rfl) XL0 h.c1 h.c2 hg (fun i hi j v hv=>?_),fun y hy=>?_⟩
  ·obtain⟨hx',_⟩:=hx i hi;show w.cell? ⟨g,i*16+j,none⟩=some v;have hj:j<16:=(List.getElem?_eq_some_iff.1 hv).1;change (XL.cells (atL bd i))[j]?=some v at hv;obtain rfl | rfl | rfl | rfl | rfl | rfl | rfl | rfl | rfl | rfl | rfl | rfl | rfl | rfl | rfl | rfl:j=0∨j=1∨j=2∨j=3∨j=4∨j=5∨j=6∨j=7∨j=8∨j=9∨j=10∨j=11∨j=12∨j=13∨j=14∨j=15:=by omega
   all_goals
    simp[XL.cells]at hv;subst hv
    first | exact hx'.k | exact hx'.pr | exact hx'.ts | exact hx'.rel | exact hx'.l.c0 | exact hx'.l.c1 | exact hx'.l.c2 | exact hx'.l.c3 | exact hx'.l.c4 | exact hx'.l.c5 | exact hx'.r.c0 | exact hx'.r.c1 | exact hx'.r.c2 | exact hx'.r.c3 | exact hx'.r.c4 | exact hx'.r.c5
  ·obtain⟨i,hi,rfl⟩:=List.mem_iff_getElem.1 hy;have:=(hx i hi).2.is;rw[ZS hi]at this;exact this
structure Wb (w:World) (g' bm d:Nat) (bd:List XL) (ls:List (List Nat × List Nat × List Nat)) (s:List P) (k:Nat) (wr:World):Prop where
 tch:Tch (fun b=>b∈g'::(ls.map ZcD).flatten) w wr
 map:MapT wr bm s
 gl:g'<wr.heap.size
 fz:∀j,wr.frozen? ⟨g',j,none⟩=false
 done:∀i,i<bd.length→i<k→LAt wr g' (i*16) (apL (res s) d (atL bd i).x) (atL bd i).p∧LB wr d (apL (res s) d (atL bd i).x) (atL bd i).p (ZaA ls i).1 (ZaA ls i).2.1 (ZaA ls i).2.2
 rest:∀i,i<bd.length→k≤i→LAt wr g' (i*16) (atL bd i).x (atL bd i).p∧LB wr d (atL bd i).x (atL bd i).p (ZaA ls i).1 (ZaA ls i).2.1 (ZaA ls i).2.2
theorem Wb.step{w:World}{g' bm d:Nat}{bd:List XL}{ls:List (List Nat × List Nat × List Nat)}{s:List P}{k:Nat}{wr w2:World}(h:Wb w g' bm d bd ls s k wr)(hk:k<bd.length)(hl:ls.length=bd.length)(nd:(g'::(ls.map ZcD).flatten).Nodup)(hm:bm ∉ g'::(ls.map ZcD).flatten)
  (hx:Wq wr g' (k*16) d (atL bd k).x (atL bd k).p (ZaA ls k).1 (ZaA ls k).2.1 (ZaA ls k).2.2 s w2):Wb w g' bm d bd ls s (k+1) w2:=by
 have hll:(ls.map ZcD).length=bd.length:=by rw[List.length_map];exact hl
 have hsub:∀b,(b=g'∨b∈ZcD (ZaA ls k))→b∈g'::(ls.map ZcD).flatten:=fun b hb=>by
  rcases hb with rfl | hb
  ·simp
  ·exact List.mem_cons_of_mem _ (ZaK (i:=k) (by omega) (by rw[ZcY];exact hb))
 have hnd:=List.nodup_cons.1 nd
 have hkb:∀i,i<bd.length→i≠k→∀b,b∈ZcD (ZaA ls i)→b<wr.heap.size→w2.heap[b]?=wr.heap[b]?:=fun i hi hn b hb hbl=>hx.tch.block b hbl (fun q=>by
  rcases q with q | q
  ·exact hnd.1 (by rw[←q];exact ZaK (i:=i) (by omega) (by rw[ZcY];exact hb))
  ·exact ZgT hnd.2 (i:=i) (k:=k) (by omega) (by omega) hn (by rw[ZcY];exact hb) (by rw[ZcY];exact q))
 refine⟨h.tch.trans (hx.tch.mono (fun b hb=>hsub b hb)),h.map.tch hx.tch (fun q=>hm (hsub bm q)),Nat.lt_of_lt_of_le h.gl hx.tch.size,hx.frz,fun i hi hik=>?_,fun i hi hik=>?_⟩
 ·by_cases e1:i=k
  ·subst e1;exact⟨hx.lat,hx.lb⟩
  ·obtain⟨y1,y2⟩:=h.done i hi (by omega);exact⟨y1.sameC (fun j j1 j2=>hx.oth j (.inl (by omega))),y2.keep hx.tch.size (fun b hb=>hkb i hi e1 b hb (y2.lt b hb))⟩
 ·obtain⟨y1,y2⟩:=h.rest i hi (by omega);exact⟨y1.sameC (fun j j1 j2=>hx.oth j (.inr (by omega))),y2.keep hx.tch.size (fun b hb=>hkb i hi (by omega) b hb (y2.lt b hb))⟩
end
end Go.Proofs.YtjdnpgpbeppgjaaGreatDoor
