import Derived.Test.YtjdnpgpbeppgjaaGreatDoorA1
import Derived.Lib.SmallJoins
import Derived.Maps.OwnSet
import Derived.Maps.AppendAt
import Derived.Deep.OwnRows
import Derived.DeepKeys4
import Derived.BigQuiet
set_option linter.unusedSimpArgs false
set_option linter.unusedVariables false
set_option maxHeartbeats 3200000
set_option maxRecDepth 100000
namespace Go.Proofs.YtjdnpgpbeppgjaaGreatDoor
section
open Go.RowKit Go.Maps
attribute [local go_sem ↓] Go.wp_at_zero Go.wp_at_succ
theorem TAt.below{w w':World}{g o:Nat}{t:T}(h:TAt w g o t)(b:Below w.heap.size w w')(hg:g<w.heap.size):TAt w' g o t:=
 ⟨by rw[b.cell (p:=⟨g,o,none⟩) hg];exact h.c0,by rw[b.cell (p:=⟨g,o+1,none⟩) hg];exact h.c1,by rw[b.cell (p:=⟨g,o+2,none⟩) hg];exact h.c2,by rw[b.cell (p:=⟨g,o+3,none⟩) hg];exact h.c3⟩
theorem ZjF{l:List T}{k:Nat}(h:k<l.length):(l.take (k+1)).all ZK=((l.take k).all ZK&&ZK (atT l k)):=by
 have e:l.take (k+1)=l.take k++[l[k]]:=by rw[List.take_add_one,List.getElem?_eq_getElem h];rfl
 rw[e,List.all_append,ZcQ h];simp
theorem ZlB{l:List T}{k:Nat}(h:k<l.length)(hn:ZK (atT l k)=false):l.all ZK=false:=by
 rw[←Bool.not_eq_true];intro ha;rw[List.all_eq_true]at ha;rw[ZcQ h]at hn;rw[ha _ (List.getElem_mem h)]at hn
 cases hn
theorem Zgi{l:List T}(h:∀t∈l,t.wf)(i:Nat):(atT l i).wf:=by
 by_cases hi:i<l.length
 ·rw[ZcQ hi];exact h _ (List.getElem_mem hi)
 ·unfold atT;rw[List.getD,List.getElem?_eq_none (by omega)];exact T0.ok
def Zoi(s:ByteArray):Value:=if s.size≤200 then .tuple #[.string (if Z0 s then s else Zcn s),.int .i64 0]else .tuple #[.string noS,.int .i64 10]
theorem Zoj(s:ByteArray):chk 2 0 s=if s.size≤200 then 0 else 10:=by
 unfold chk
 by_cases h:s.size≤200
 ·rw[if_pos h,if_pos (.inr ⟨rfl,rfl,by omega⟩)]
 ·rw[if_neg h,if_neg];rintro(⟨h1,_⟩ | ⟨_,_,h1⟩)
  ·cases h1
  ·omega
theorem ZmS(s:ByteArray)(w:World)(hs:s.size≤maxLen):Calls Tryz.prog 295 #[.agg #[.int .i8 2,.int .i64 0,.string s]] w fun e w'=>e=.returned (Zoi s)∧Below w.heap.size w w':=by
 unfold Zoi;have hc:=Zoj s
 by_cases h:s.size≤200
 ·rw[if_pos h]at hc⊢;go_enter Tryz.func295,Tryz.ntmps295;go_wp2_with fail;refine(Zd2 2 0 s _ hs).mono ?_;rintro e w1 ⟨rfl,b1⟩;rw[hc];have b1':=((Below.refl w.heap.size w).alloc (Nat.le_refl _) (.cells #[.int .i8 2,.int .i64 0,.string s] 98)).trans (b1.mono (by simp));have c0:w1.cell? ⟨w.heap.size,0,none⟩=some (.int .i8 2):=by rw[b1.cell (p:=⟨w.heap.size,0,none⟩) (by simp)];go_simp
  have c2:w1.cell? ⟨w.heap.size,2,none⟩=some (.string s):=by rw[b1.cell (p:=⟨w.heap.size,2,none⟩) (by simp)];go_simp
  clear b1 hc
  cases hn:Z0 s
  ·go_wp2_with (first
    | (go_at_call 322;refine(ZfI s _ hs).mono ?_;rw[hn];rintro e w' ⟨rfl,rfl⟩)
    | (go_at_call 323;refine(ZmW s _ h).mono ?_;rintro e w2 ⟨rfl,b2⟩))
   all_goals
    go_ret2;exact⟨rfl,b1'.trans (b2.mono b1'.size)⟩
  ·go_wp2_with (go_at_call 322;refine(ZfI s _ hs).mono ?_;rw[hn];rintro e w' ⟨rfl,rfl⟩);go_ret2;exact⟨rfl,b1'⟩
 ·rw[if_neg h]at hc⊢;go_enter Tryz.func295,Tryz.ntmps295;go_wp2_with fail;refine(Zd2 2 0 s _ hs).mono ?_;rintro e w1 ⟨rfl,b1⟩;rw[hc];have b1':=((Below.refl w.heap.size w).alloc (Nat.le_refl _) (.cells #[.int .i8 2,.int .i64 0,.string s] 98)).trans (b1.mono (by simp));go_wp2;go_ret2;exact⟨rfl,b1'⟩
theorem ZkN{s:ByteArray}(h:¬ s.size≤200):Z0 s=false:=by
 unfold Z0;have:decide (s.size≤120)=false:=decide_eq_false (by omega);rw[this];simp
theorem ZmT(s:ByteArray):((Zcn s).toList==s.toList)=false:=by
 rw[beq_eq_false_iff_ne];intro e;have:=toList_inj e;have h:=ZjJ s;rw[this]at h;omega
theorem ZhC(s:ByteArray)(w:World)(hs:s.size≤maxLen):Calls Tryz.prog 234 #[.string s] w fun e w'=>e=.returned (.bool (Z0 s))∧Below w.heap.size w w':=by
 have hq:=ZmT s;go_enter Tryz.func234,Tryz.ntmps234;go_wp2_with fail;refine(ZmS s _ hs).mono ?_;rintro e w1 ⟨rfl,b1⟩;unfold Zoi
 by_cases h:s.size≤200
 ·rw[if_pos h]
  cases hn:Z0 s
  ·simp only[Bool.false_eq_true,if_false];generalize Zcn s=q at hq;go_wp2;go_ret;exact⟨Ze hn.symm,b1⟩
  ·simp only[if_true];go_wp2;go_ret;exact⟨Ze hn.symm,b1⟩
 ·rw[if_neg h];go_wp2;go_ret;exact⟨Ze (ZkN h).symm,b1⟩
theorem ZkO(pred:ByteArray)(v:Value)(l:List T)(w:World)(hp:pred.size≤maxLen)(hl:Lt w v l):Calls Tryz.prog 297 #[.agg #[.string pred,v]] w fun e w'=>e=.returned (.bool (ZaD pred l))∧Below w.heap.size w w':=by
 obtain⟨a,c,rfl,hc1,hc2,hat⟩:=hl.form;have hwf:=hl.wf;have hmax:l.length≤maxLen:=Nat.le_trans hc1 hc2;unfold maxLen at hmax;have HA:Hid (ZaD pred l=(Z0 pred&&decide (l.length≤24)&&l.all ZK)):=rfl;go_enter Tryz.func297,Tryz.ntmps297;go_wp2_with fail;refine(ZhC pred _ hp).mono ?_;rintro e w1 ⟨rfl,b1⟩;have b1':=((Below.refl w.heap.size w).alloc (Nat.le_refl _) (.cells #[.string pred,.slice a l.length c] 93)).trans (b1.mono (by simp))
 have c1:w1.cell? ⟨w.heap.size,1,none⟩=some (.slice a l.length c):=by rw[b1.cell (p:=⟨w.heap.size,1,none⟩) (by simp)];go_simp
 clear b1
 cases hn:Z0 pred
 ·have HF:Hid (ZaD pred l=false):=by show ZaD pred l=false;rw[HA.out,hn];rfl
  go_wp2;go_ret;exact⟨Ze HF.out.symm,b1'⟩
 ·by_cases h24:l.length≤24
  ·have h24':(l.length:Int)≤24:=by omega
   have HB:Hid (ZaD pred l=l.all ZK):=by show ZaD pred l=_;rw[HA.out,hn,decide_eq_true h24];simp
   go_wp2;go_loopw [18] (fun i wr=>∃k:Nat,k≤l.length∧i=.int .i64 k∧Below w.heap.size w wr∧Hid ((l.take k).all ZK=true)) (fun i _=>l.length-(intOf i).toNat)
   case atStart=>exact⟨0,Nat.zero_le _,rfl,b1',by simp[Hid]⟩
   case round=>
    obtain⟨k,hk,rfl,bel,HS⟩:=hrel
    by_cases hlt:k<l.length
    ·have hlt':(k:Int)<(l.length:Int):=by omega
     obtain⟨g,off,rfl,hg,hT⟩:=hat (by omega);obtain⟨x0,x1,x2,x3⟩:=(hT k hlt).below bel hg;have htw:=Zgi hwf k;have HN:Hid (ZK (atT l k)=false→ZaD pred l=false):=fun h=>by rw[HB.out];exact ZlB hlt h
     have HY:Hid (ZK (atT l k)=true→(l.take (k+1)).all ZK=true):=fun h=>by rw[ZjF hlt,HS.out,h];rfl
     generalize atT l k=t at x0 x1 x2 x3 htw HN HY;clear hat hT;go_wp2_with fail;refine(Zd0 t _ htw).mono ?_;rintro e w2 ⟨rfl,b2⟩;have b2':=(bel.alloc bel.size (.cells #[.string t.v,.int .i8 t.a.k,.int .i64 t.a.n,.string t.a.s] 100)).trans (b2.mono (by have:=bel.size;simp;omega))
     cases ht:ZK t
     ·go_wp2;go_ret;exact⟨Ze (HN.out ht).symm,b2'⟩
     ·go_wp2;go_roundw
      case rel=>exact⟨k+1,by omega,by go_num,b2',HY.out ht⟩
      case measure=>simp[intOf];omega
    ·obtain rfl:k=l.length:=by omega
     go_wp2;go_ret;exact⟨Ze (by rw[HB.out,←HS.out,List.take_length]),bel⟩
  ·have h24':(24:Int)<(l.length:Int):=by omega
   have HF:Hid (ZaD pred l=false):=by show ZaD pred l=false;rw[HA.out,decide_eq_false h24];simp
   go_wp2;go_ret;exact⟨Ze HF.out.symm,b1'⟩
theorem Ziu(s:ByteArray)(w:World):Calls Tryz.prog 312 #[.string s] w fun e w'=>e=.returned (.bool (kwB s))∧w'=w:=by
 go_enter Tryz.func312,Tryz.ntmps312;go_wp2
 all_goals
  go_ret;refine⟨Ze ?_,rfl⟩;go_light;unfold kwB ZfH
  first
   | (simp_all;done)
   | (rw[Bool.eq_iff_iff];simp;simp_all)
theorem ZdA(s:ByteArray)(w:World)(hs:s.size≤maxLen):Calls Tryz.prog 279 #[.string s] w fun e w'=>e=.returned (.bool (Z0 s))∧w'=w:=by
 rw[ZkW];go_enter Tryz.func279,Tryz.ntmps279;go_wp2_with fail;refine(Zfd s 97 122 _ hs fun c h=>by simp[Zai,ZaT,h.1,h.2]).mono ?_;rintro e w' ⟨rfl,rfl⟩
 cases hx:ZaR 97 122 s
 ·go_wp2;go_ret;exact⟨Ze (by rw[hx];rfl),rfl⟩
 ·go_wp2_with (go_at_call 312;refine(Ziu s _).mono ?_;rintro e w' ⟨rfl,rfl⟩);go_ret;exact⟨Ze (by rw[hx];simp),rfl⟩
theorem ZmU(pred:ByteArray)(v:Value)(l:List T)(w:World)(hp:pred.size≤maxLen)(hl:Lt w v l):Calls Tryz.prog 314 #[.agg #[.string pred,v]] w fun e w'=>e=.returned (.bool (ZaD pred l))∧Below w.heap.size w w':=by
 obtain⟨a,c,rfl,hc1,hc2,hat⟩:=hl.form;have hwf:=hl.wf;have hmax:l.length≤maxLen:=Nat.le_trans hc1 hc2;unfold maxLen at hmax;have HA:Hid (ZaD pred l=(Z0 pred&&decide (l.length≤24)&&l.all ZK)):=rfl;have b0:=(Below.refl w.heap.size w).alloc (Nat.le_refl _) (.cells #[.string pred,.slice a l.length c] 93)
 cases hn:Z0 pred
 ·have HF:Hid (ZaD pred l=false):=by show ZaD pred l=false;rw[HA.out,hn];rfl
  go_enter Tryz.func314,Tryz.ntmps314;go_wp2_with (go_at_call 279;refine(ZdA pred _ hp).mono ?_;rw[hn];rintro e w' ⟨rfl,rfl⟩);go_ret;exact⟨Ze HF.out.symm,b0⟩
 ·by_cases h24:l.length≤24
  ·have h24':(l.length:Int)≤24:=by omega
   have HB:Hid (ZaD pred l=l.all ZK):=by show ZaD pred l=_;rw[HA.out,hn,decide_eq_true h24];simp
   have c1:(w.alloc (.cells #[.string pred,.slice a l.length c] 93)).cell? ⟨w.heap.size,1,none⟩=some (.slice a l.length c):=by go_simp
   have b00:Below (w.alloc (.cells #[.string pred,.slice a l.length c] 93)).heap.size (w.alloc (.cells #[.string pred,.slice a l.length c] 93)) (w.alloc (.cells #[.string pred,.slice a l.length c] 93)):=Below.refl _ _;go_enter Tryz.func314,Tryz.ntmps314;go_wp2_with (go_at_call 279;refine(ZdA pred _ hp).mono ?_;rw[hn];rintro e w' ⟨rfl,rfl⟩);generalize w.alloc (.cells #[.string pred,.slice a l.length c] 93)=W at b0 c1 b00⊢
   have hWlt:w.heap.size<W.heap.size:=World.block_lt_of_cell? _ _ c1;go_loopw [3] (fun i wr=>∃k:Nat,k≤l.length∧i=.int .i64 k∧Below W.heap.size W wr∧Hid ((l.take k).all ZK=true)) (fun i _=>l.length-(intOf i).toNat)
   case atStart=>exact⟨0,Nat.zero_le _,rfl,b00,by simp[Hid]⟩
   case round=>
    obtain⟨k,hk,rfl,bel,HS⟩:=hrel;have d1:wr.cell? ⟨w.heap.size,1,none⟩=some (.slice a l.length c):=by rw[bel.cell (p:=⟨w.heap.size,1,none⟩) hWlt];exact c1
    have belw:Below w.heap.size w wr:=b0.trans (bel.mono b0.size)
    by_cases hlt:k<l.length
    ·have hlt':(k:Int)<(l.length:Int):=by omega
     obtain⟨g,off,rfl,hg,hT⟩:=hat (by omega);obtain⟨x0,x1,x2,x3⟩:=(hT k hlt).below belw hg;have htw:=Zgi hwf k;have HN:Hid (ZK (atT l k)=false→ZaD pred l=false):=fun h=>by rw[HB.out];exact ZlB hlt h
     have HY:Hid (ZK (atT l k)=true→(l.take (k+1)).all ZK=true):=fun h=>by rw[ZjF hlt,HS.out,h];rfl
     generalize atT l k=t at x0 x1 x2 x3 htw HN HY;clear hat hT c1 b00;go_wp2_with fail;refine(ZeV t _ htw).mono ?_;rintro e w2 ⟨rfl,b2⟩
     cases ht:ZK t
     ·go_wp2;go_ret;exact⟨Ze (HN.out ht).symm,belw.trans (b2.mono belw.size)⟩
     ·go_wp2;go_roundw
      case rel=>exact⟨k+1,by omega,by go_num,bel.trans (b2.mono bel.size),HY.out ht⟩
      case measure=>simp[intOf];omega
    ·obtain rfl:k=l.length:=by omega
     go_wp2;go_ret;exact⟨Ze (by rw[HB.out,←HS.out,List.take_length]),belw⟩
  ·have h24':(24:Int)<(l.length:Int):=by omega
   have HF:Hid (ZaD pred l=false):=by show ZaD pred l=false;rw[HA.out,decide_eq_false h24];simp
   go_enter Tryz.func314,Tryz.ntmps314;go_wp2_with (go_at_call 279;refine(ZdA pred _ hp).mono ?_;rw[hn];rintro e w' ⟨rfl,rfl⟩);go_ret;exact⟨Ze HF.out.symm,b0⟩
def Zm(s:ByteArray):List Value:=[.string s]
def atS(l:List ByteArray)(i:Nat):ByteArray:=l.getD i noS
theorem Zgk{l:List ByteArray}{i:Nat}(h:i<l.length):atS l i=l[i]:=by simp[atS,List.getD,List.getElem?_eq_getElem h]
theorem Z3{w:World}{v:Value}{l:List ByteArray}(h:Ls w v l.length (l.flatMap Zm)):∃a c,v=.slice a l.length c∧l.length≤c∧c≤maxLen∧(0<l.length→∃g off,a=some ⟨g,off,none⟩∧g<w.heap.size∧∀i,i<l.length→w.cell? ⟨g,off+i,none⟩=some (.string (atS l i))):=by
 obtain⟨hn,a,c,hv,h1,h2,hc⟩:=h;refine⟨a,c,hv,h1,h2,fun h0=>?_⟩;obtain⟨g,off,ha,hg,hf⟩:=hc h0;refine⟨g,off,ha,hg,fun i hi=>?_⟩;have:=hf.elem (k:=1) (fun _=>rfl) noS hi (j:=0) (by omega) rfl;rw[Nat.mul_one,Nat.add_zero]at this;exact this
def inB(l:List ByteArray)(s:ByteArray):Bool:=l.any (fun x=>decide (x=s))
theorem ZD{l:List ByteArray}{s:ByteArray}:inB l s=true↔s∈l:=by
 unfold inB;rw[List.any_eq_true];constructor
 ·rintro⟨x,hx,e⟩;rw[←of_decide_eq_true e];exact hx
 ·exact fun h=>⟨s,h,decide_eq_true rfl⟩
def vsT:List ByteArray→List T→List ByteArray
 | out,[]=>out
 | out,t::ts=>if t.v=noS∨t.v=ZI∨inB out t.v=true then vsT out ts else vsT (out++[t.v]) ts
theorem Zaw:∀(ts:List T) (out:List ByteArray),(vsT out ts).length≤out.length+ts.length
 | [],out=>by simp[vsT]
 | t::ts,out=>by
  unfold vsT
  split
  ·have:=Zaw ts out;simp only[List.length_cons];omega
  ·have:=Zaw ts (out++[t.v]);simp only[List.length_cons,List.length_append,List.length_nil]at this⊢;omega
theorem ZbS:∀(ts:List T) (out:List ByteArray) (n:ByteArray),n∈vsT out ts→n∈out∨∃t∈ts,t.v=n
 | [],out,n,h=>.inl (by simpa[vsT]using h)
 | t::ts,out,n,h=>by
  unfold vsT at h
  split at h
  ·rcases ZbS ts out n h with h1 | ⟨x,h1,h2⟩
   ·exact .inl h1
   ·exact .inr ⟨x,List.mem_cons_of_mem _ h1,h2⟩
  ·rcases ZbS ts _ n h with h1 | ⟨x,h1,h2⟩
   ·rcases List.mem_append.1 h1 with h3 | h3
    ·exact .inl h3
    ·exact .inr ⟨t,List.mem_cons_self,(List.mem_singleton.1 h3).symm⟩
   ·exact .inr ⟨x,List.mem_cons_of_mem _ h1,h2⟩
theorem ZdB:∀(ts:List T) (out:List ByteArray) (n:ByteArray),n∈out→n∈vsT out ts
 | [],out,n,h=>by simpa[vsT]using h
 | t::ts,out,n,h=>by
  unfold vsT
  split
  ·exact ZdB ts out n h
  ·exact ZdB ts _ n (List.mem_append.2 (.inl h))
theorem Ziv:∀(ts:List T) (out:List ByteArray),∀t∈ts,t.v≠noS→t.v≠ZI→t.v∈vsT out ts
 | [],out,t,h,_,_=>by cases h
 | x::ts,out,t,h,h1,h2=>by
  unfold vsT;rcases List.mem_cons.1 h with rfl | h3
  ·split
   ·rename_i hc
    rcases hc with hc | hc | hc
    ·exact absurd hc h1
    ·exact absurd hc h2
    ·exact ZdB ts out _ (ZD.1 hc)
   ·exact ZdB ts _ _ (List.mem_append.2 (.inr (List.mem_singleton.2 rfl)))
  ·split
   ·exact Ziv ts out t h3 h1 h2
   ·exact Ziv ts _ t h3 h1 h2
theorem ZkP{l:List ByteArray}{k:Nat}{s:ByteArray}(h:k<l.length)(e:atS l k=s):s∈l:=by
 rw[←e,Zgk h];exact List.getElem_mem h
theorem ZjG{l:List ByteArray}{s:ByteArray}(h:∀j,j<l.length→atS l j≠s):s ∉ l:=by
 intro hm;obtain⟨j,hj,e⟩:=List.getElem_of_mem hm;exact h j hj (by rw[Zgk hj];exact e)
theorem ZlC:(Tryz.prog.info? 9).map (fun i=>(i.zero,i.size,i.bytes))=some (some (.string ⟨#[]⟩),1,16):=by kernel_rfl
theorem Zgl{t:T}{ts:List T}{out:List ByteArray}(h:t.v=noS∨t.v=ZI∨inB out t.v=true):vsT out (t::ts)=vsT out ts:=by rw[vsT,if_pos h]
theorem Zol{t:T}{ts:List T}{out:List ByteArray}(h1:¬ t.v=noS)(h2:¬ t.v=ZI)(h3:¬ inB out t.v=true):vsT out (t::ts)=vsT (out++[t.v]) ts:=by
 rw[vsT,if_neg];rintro(h | h | h)
 ·exact h1 h
 ·exact h2 h
 ·exact h3 h
theorem Zqi(s:ByteArray)(v:Value)(l:List ByteArray)(w:World)(hl:Ls w v l.length (l.flatMap Zm)):Calls Tryz.prog 284 #[.string s,v] w fun e w'=>e=.returned (.bool (inB l s))∧w'=w:=by
 obtain⟨a,c,rfl,hc1,hc2,hat⟩:=Z3 hl;have hmax:l.length≤maxLen:=Nat.le_trans hc1 hc2;unfold maxLen at hmax;have HAT:Hid _:=hat;obtain⟨r,HR⟩:∃r,Hid (inB l s=r):=⟨_,rfl⟩;rw[HR.out];clear hat hl;go_enter Tryz.func284,Tryz.ntmps284;go_wp2;go_loopw [5] (fun i wr=>wr=w∧∃k:Nat,k≤l.length∧i=.int .i64 k∧Hid (∀j,j<k→atS l j≠s)) (fun i _=>l.length-(intOf i).toNat)
 case atStart=>exact⟨rfl,0,Nat.zero_le _,rfl,fun j hj=>absurd hj (by omega)⟩
 case round=>
  obtain⟨rfl,k,hk,rfl,HB⟩:=hrel
  by_cases hlt:k<l.length
  ·have hlt':(k:Int)<(l.length:Int):=by omega
   obtain⟨g,off,rfl,hg,hT⟩:=HAT.out (by omega);have x0:=hT k hlt;obtain⟨y,HY⟩:∃y,Hid (atS l k=y):=⟨_,rfl⟩;rw[HY.out]at x0;clear hT
   by_cases e:y=s
   ·have hB:(y.toList==s.toList)=true:=by rw[e];simp
    have HV:Hid (r=true):=by
     show r=true;rw[←HR.out];exact ZD.2 (ZkP hlt (HY.out.trans e))
    clear e;go_wp2;go_ret;exact⟨by rw[HV.out];rfl,rfl⟩
   ·have hB:(y.toList==s.toList)=false:=by
     rw[beq_eq_false_iff_ne];exact fun h=>e (toList_inj h)
    have HE:Hid (y≠s):=e;clear e;go_wp2;go_roundw
    case rel=>
     refine⟨trivial,k+1,by omega,by go_num,fun j hj=>?_⟩
     by_cases h:j<k
     ·exact HB.out j h
     ·obtain rfl:j=k:=by omega
      rw[HY.out];exact HE.out
    case measure=>simp[intOf];omega
  ·obtain rfl:k=l.length:=by omega
   have HV:Hid (r=false):=by
    show r=false;rw[←HR.out];exact Bool.eq_false_iff.2 (fun h=>ZjG HB.out (ZD.1 h))
   go_wp2;go_ret;exact⟨by rw[HV.out];rfl,rfl⟩
theorem Zgm(v:Value)(ts:List T)(w:World)(h24:ts.length≤4398046511104)(hl:Lt w v ts):Calls Tryz.prog 223 #[v] w fun e w'=>∃sv,e=.returned sv∧w'.ownsRow w.heap.size 9 1 sv (vsT [] ts).length ((vsT [] ts).flatMap Zm)∧Below w.heap.size w w':=by
 obtain⟨i0,hi0,hz0,hz1,hz2⟩:=info_parts ZlC;have HWF:Hid (∀t∈ts,t.wf):=hl.wf;obtain⟨a,c,rfl,hc1,hc2,hat⟩:=hl.form;have HAT:Hid _:=hat;obtain⟨r,HR⟩:∃r,Hid (vsT [] ts=r):=⟨_,rfl⟩;rw[HR.out];clear hl hat hc1 hc2;go_enter Tryz.func223,Tryz.ntmps223;go_wp2;go_loopw [3,4] (fun sv i wr=>∃k:Nat,k≤ts.length∧i=.int .i64 k∧Below w.heap.size w wr∧∃s:List ByteArray,wr.ownsRow w.heap.size 9 1 sv s.length (s.flatMap Zm)∧s.length≤k∧Hid (vsT s (ts.drop k)=r)) (fun _ i _=>ts.length-(intOf i).toNat)
 case atStart=>exact⟨0,Nat.zero_le _,rfl,Below.refl _ _,[],World.ownsRow_nil _ _ _ _,by simp,HR⟩
 case round=>
  obtain⟨k,hk,rfl,bel,s,ho,hsl,HS⟩:=hrel;have HO:Hid (wr.ownsRow w.heap.size 9 1 _ s.length (s.flatMap Zm)):=ho;have HBEL:Hid (Below w.heap.size w wr):=bel;obtain⟨ao,co,rfl,hlo⟩:=ZB ho
  by_cases hlt:k<ts.length
  ·have hlt':(k:Int)<(ts.length:Int):=by omega
   obtain⟨g,off,rfl,hg,hT⟩:=HAT.out (by omega);obtain⟨x0,x1,x2,x3⟩:=(hT k hlt).below bel hg;have hxw:=Zgi HWF.out k;have e1:ts.drop k=atT ts k::ts.drop (k+1):=by rw[ZcQ hlt];exact List.drop_eq_getElem_cons hlt
   have HS':Hid (vsT s (atT ts k::ts.drop (k+1))=r):=by show _=r;rw[←e1];exact HS.out
   clear HS e1 hT ho bel x1 x2 x3;generalize atT ts k=x at *;have HXW:Hid _:=hxw;clear hxw
   by_cases en:x.v=noS
   ·have he:x.v.toList.isEmpty=true:=by rw[en,ByteArray.toList_eq];rfl
    have HN:Hid (vsT s (ts.drop (k+1))=r):=by show _=r;rw[←HS'.out,Zgl (.inl en)]
    clear en HS';go_wp2;go_roundw
    case rel=>exact⟨k+1,by omega,by go_num,HBEL.out,s,HO.out,by omega,HN⟩
    case measure=>simp[intOf];omega
   ·have he:=Za7 x.v en
    by_cases eb:x.v=ZI
    ·have hB:(x.v.toList==[95])=true:=by rw[eb,ByteArray.toList_eq];rfl
     have HN:Hid (vsT s (ts.drop (k+1))=r):=by show _=r;rw[←HS'.out,Zgl (.inr (.inl eb))]
     clear en eb HS';go_wp2;go_roundw
     case rel=>exact⟨k+1,by omega,by go_num,HBEL.out,s,HO.out,by omega,HN⟩
     case measure=>simp[intOf];omega
    ·have hB:=Za0 eb;have HEN:Hid (¬ x.v=noS):=en;have HEB:Hid (¬ x.v=ZI):=eb;clear en eb;have HIN:Hid _:=Zqi x.v _ s wr (ZY HO.out)
     by_cases ei:inB s x.v=true
     ·have HN:Hid (vsT s (ts.drop (k+1))=r):=by show _=r;rw[←HS'.out,Zgl (.inr (.inr ei))]
      rw[ei]at HIN;clear ei HS';go_wp2_with fail;refine Calls.mono HIN.out ?_;rintro e w1 ⟨rfl,rfl⟩;go_wp2;go_roundw
      case rel=>exact⟨k+1,by omega,by go_num,HBEL.out,s,HO.out,by omega,HN⟩
      case measure=>simp[intOf];omega
     ·have HN:Hid (vsT (s++[x.v]) (ts.drop (k+1))=r):=by show _=r;rw[←HS'.out,Zol HEN.out HEB.out ei]
      rw[Bool.eq_false_iff.2 ei]at HIN;clear ei HS';go_wp2_with fail;refine Calls.mono HIN.out ?_;rintro e w1 ⟨rfl,rfl⟩;have hzw:=HBEL.out.size;go_wp2_with (at_builtin;refine wpList_append_own_at _ rfl _ _ 26 rfl w.heap.size 9 i0 _ 1 16 Tryz.underlying26 hi0 hz0 hz1 hz2 rfl (by decide) _ _ _ rfl (Zn HO.out ((Below.refl _ _).alloc (Nat.le_refl _) _)) ⟨_,0,none⟩ 1 1 [.string x.v] rfl rfl (ZR _ #[.string x.v] _) (by simp[Value.oneCell']) (by unfold maxLen;omega) (by omega) (by simp;omega) ?_;intro v' w2 hown' hgrow hnil hloc)
      go_roundw
      case rel=>
       refine⟨k+1,by omega,by go_num,?_,s++[x.v],?_,by simp;omega,HN⟩
       ·exact(HBEL.out.alloc HBEL.out.size _).grown hgrow (by have:=HBEL.out.size;simp;omega) (fun j hj=>(HO.out.lt j hj).1)
       ·rw[List.flatMap_append,List.length_append];exact hown'
      case measure=>simp[intOf];omega
  ·obtain rfl:k=ts.length:=by omega
   have HV:Hid (s=r):=by
    show s=r;rw[←HS.out,List.drop_length];simp[vsT]
   go_wp2;go_ret;rw[←HV.out];exact⟨_,rfl,HO.out,HBEL.out⟩
end
section
open Go.RowKit Go.Maps Go.ChangeMaps
theorem Zap:Keyed Tryz.prog 9:=string_keyed Tryz.underlying9
theorem Zba(s:ByteArray)(h:s.size≤maxLen):keyOf Tryz.prog 9 (.string s)=some (.string s.data.toList):=by
 unfold keyOf mapKey;rw[Tryz.underlying9];simp[h]
def SetIs(w:World)(b:Nat)(ss:List ByteArray):Prop:=
 ∃es clock,w.heap[b]?=some (.map es clock)∧es.toList.map (fun e=>(e.key,e.val))=ss.map (fun s=>(Value.string s,Value.agg #[]))∧∀s∈ss,s.size≤maxLen
theorem SetIs.lt{w:World}{b:Nat}{ss:List ByteArray}(h:SetIs w b ss):b<w.heap.size:=by
 obtain⟨es,c,hb,_⟩:=h;exact(Array.getElem?_eq_some_iff.1 hb).1
theorem SetIs.of_block{w w':World}{b:Nat}{ss:List ByteArray}(h:SetIs w b ss)(e:w'.heap[b]?=w.heap[b]?):SetIs w' b ss:=by
 obtain⟨es,c,hb,r⟩:=h;exact⟨es,c,e.trans hb,r⟩
theorem SetIs.made(w:World):SetIs (w.alloc (.map #[] 0)) w.heap.size []:=⟨#[],0,heap_alloc_new w _,rfl,by simp⟩
theorem Zdl{es:Array MapEntry}{ss:List ByteArray}(h:es.toList.map (fun e=>(e.key,e.val))=ss.map (fun s=>(Value.string s,Value.agg #[]))){j:Nat}{e:MapEntry}(hj:es.toList[j]?=some e) :
  ∃s,ss[j]?=some s∧e.key=.string s∧e.val=.agg #[]:=by
 have h1:=congrArg (fun l=>l[j]?) h;simp only[List.getElem?_map,hj,Option.map_some]at h1;obtain⟨p,hp,he⟩:=Option.map_eq_some_iff.1 h1.symm;simp only[Prod.mk.injEq]at he;exact⟨p,hp,he.1.symm,he.2.symm⟩
theorem ZcS{es:Array MapEntry}{ss:List ByteArray}(h:es.toList.map (fun e=>(e.key,e.val))=ss.map (fun s=>(Value.string s,Value.agg #[])))(hw:∀s∈ss,s.size≤maxLen):∀e∈es.toList,∃l,keyOf Tryz.prog 9 e.key=some l:=by
 intro e he;obtain⟨j,hj⟩:=List.getElem?_of_mem he;obtain⟨p,hp,hk,_⟩:=Zdl h hj;rw[hk];exact⟨_,Zba _ (hw p (List.mem_of_getElem? hp))⟩
theorem ZjK{es:Array MapEntry}{ss:List ByteArray}(h:es.toList.map (fun e=>(e.key,e.val))=ss.map (fun s=>(Value.string s,Value.agg #[]))){s:ByteArray}(hn:∀e∈es.toList,e.key≠.string s):s ∉ ss:=by
 intro hp;obtain⟨j,hj⟩:=List.getElem?_of_mem hp;have h1:=congrArg (fun l=>l[j]?) h;simp only[List.getElem?_map,hj,Option.map_some]at h1;obtain⟨x,hx,he⟩:=Option.map_eq_some_iff.1 h1;simp only[Prod.mk.injEq]at he;exact hn x (List.mem_of_getElem? hx) he.1
theorem ZjL(w:World):(zeroValue 378).run Tryz.prog w=.ok (.agg #[]) w:=by kernel_rfl
theorem SetIs.look{w:World}{b:Nat}{ss:List ByteArray}(h:SetIs w b ss){s:ByteArray}(hs:s.size≤maxLen) :
  (Instr.lookup 129 (.map (some b)) (.string s) true).run Tryz.prog w=.ok (.tuple #[.agg #[],.bool (inB ss s)]) w:=by
 obtain⟨es,c,hb,hes,hw⟩:=h;have hl:=Zba s hs;rcases Zap.find w hl es.toList (ZcS hes hw)with ⟨h1,h2⟩ | ⟨j,e,h1,h2,h3⟩
 ·have hi:inB ss s=false:=Bool.eq_false_iff.2 (fun hh=>ZjK hes h2 (ZD.1 hh));rw[hi];simp[Instr.lookup,run_underlying Tryz.underlying129,MapKept.run_getObj_map hb,Zap.check w _ hl,h1,Result.andThen,ZjL]
 ·obtain⟨p,hp,hk,hval⟩:=Zdl hes h2
  have e:p=s:=by
   have:=hk.symm.trans h3
   injection this
  have hi:inB ss s=true:=ZD.2 (e▸List.mem_of_getElem? hp);rw[hi];simp[Instr.lookup,run_underlying Tryz.underlying129,MapKept.run_getObj_map hb,Zap.check w _ hl,h1,hval,Result.andThen]
theorem SetIs.put{w:World}{b:Nat}{ss:List ByteArray}(h:SetIs w b ss){s:ByteArray}(hs:s.size≤maxLen)(hn:s ∉ ss) :
  ∃w',(Instr.mapUpdate 129 (.map (some b)) (.string s) (.agg #[])).run Tryz.prog w=.ok () w'∧SetIs w' b (ss++[s])∧w.mapTurned w' b:=by
 obtain⟨es,c,hb,hes,hw⟩:=h;have hl:=Zba s hs;rcases Zap.find w hl es.toList (ZcS hes hw)with ⟨h1,h2⟩ | ⟨j,e,h1,h2,h3⟩
 ·refine⟨setBlock w b (.map (es.push ⟨.string s,.agg #[],c⟩) (c+1)),by simp[Instr.mapUpdate,run_underlying Tryz.underlying129,MapKept.run_getObj_map hb,Zap.check w false hl,h1,MapKept.run_setObj_map _ hb,Result.andThen,setBlock],⟨_,_,heap_setBlock_same hb _,by simp[hes],?_⟩,?_⟩
  ·intro p hp;rcases List.mem_append.1 hp with hp | hp
   ·exact hw p hp
   ·simp at hp;subst hp;exact hs
  ·exact⟨es,c,_,_,hb,rfl⟩
 ·obtain⟨p,hp,hk,hval⟩:=Zdl hes h2;refine absurd (List.mem_of_getElem? hp) ?_
  have e:p=s:=by
   have:=hk.symm.trans h3
   injection this
  rw[e];exact hn
end
section
open Go.RowKit Go.Maps
attribute [local go_sem ↓] Go.wp_at_zero Go.wp_at_succ
def Zbv(ns:List ByteArray)(t:ByteArray):List ByteArray:=if t=noS∨t=ZI∨inB ns t=true then ns else ns++[t]
theorem Zdk(ns:List ByteArray)(t:T)(ts:List T):vsT ns (t::ts)=vsT (Zbv ns t.v) ts:=by
 unfold Zbv;rw[vsT]
 split<;>rfl
theorem ZeU(ns:List ByteArray)(t:ByteArray):(Zbv ns t).length≤ns.length+1:=by
 unfold Zbv
 split<;>simp
structure Vst (B:Nat) (w0:World) (bo bs bm:Nat) (ns:List ByteArray) (sv:Value) (w:World):Prop where
 bel:Below B w0 w
 bz:B≤w.heap.size
 lo:B≤bo∧B≤bs∧B≤bm
 ne:bo≠bs∧bo≠bm∧bs≠bm
 cs:w.cell? ⟨bs,0,none⟩=some (.map (some bm))
 co:w.cell? ⟨bo,0,none⟩=some sv
 fo:w.frozen? ⟨bo,0,none⟩=false
 own:w.ownsRow B 9 1 sv ns.length (ns.flatMap Zm)
 ap:∀g,sv.ownBlock=some g→g≠bo∧g≠bs∧g≠bm
 set:SetIs w bm ns
theorem Vst.keep{B:Nat}{w0:World}{bo bs bm:Nat}{ns:List ByteArray}{sv:Value}{w w':World}(h:Vst B w0 bo bs bm ns sv w)(hb:Below w.heap.size w w'):Vst B w0 bo bs bm ns sv w':=
 ⟨h.bel.trans (hb.mono h.bz),Nat.le_trans h.bz hb.size,h.lo,h.ne,by rw[hb.cell (p:=⟨bs,0,none⟩) (World.block_lt_of_cell? _ _ h.cs)];exact h.cs,by rw[hb.cell (p:=⟨bo,0,none⟩) (World.block_lt_of_cell? _ _ h.co)];exact h.co,by rw[hb.frozen (p:=⟨bo,0,none⟩) (World.block_lt_of_cell? _ _ h.co)];exact h.fo,Zn h.own hb,h.ap,h.set.of_block (hb.block _ h.set.lt)⟩
theorem Zok{B:Nat}{w0:World}{bo bs bm:Nat}{ns:List ByteArray}{sv sv':Value}{w w2 w3:World}{t:ByteArray}(h:Vst B w0 bo bs bm ns sv w)(hset:SetIs w2 bm (ns++[t]))(hturn:w.mapTurned w2 bm){o:Obj}
  (hown:w3.ownsRow B 9 1 sv' (ns.length+1) (ns.flatMap Zm++[.string t])) (hgrow:(w2.drew.alloc o).grownBy w3 sv.ownBlock) (hloc:sv'.ownBlock=sv.ownBlock∨sv'.ownBlock=some (w2.drew.alloc o).heap.size) :
  Vst B w0 bo bs bm (ns++[t]) sv' (w3.setCell ⟨bo,0,none⟩ sv'):=by
 have gr:=hturn.grown;have hbo:=World.block_lt_of_cell? _ _ h.co;have hbs:=World.block_lt_of_cell? _ _ h.cs;have hbm:=h.set.lt;simp only at hbo hbs;have hz:w.heap.size≤w2.heap.size:=gr.size;have hzd:(w2.drew.alloc o).heap.size=w2.heap.size+1:=by simp
 have hz3:w2.heap.size+1≤w3.heap.size:=by have:=hgrow.size;rw[hzd]at this;exact this
 have k3:∀k,k<w2.heap.size→some k≠sv.ownBlock→w3.heap[k]?=w2.heap[k]?:=fun k hk hn=>by
  rw[hgrow.block k (by rw[hzd];omega) hn];exact Below.heap_alloc w2.drew o k hk
 have k2:∀k,k<w.heap.size→k≠bm→w2.heap[k]?=w.heap[k]?:=fun k hk hn=>gr.block k hk (fun e=>hn (Option.some.inj e))
 have nr:∀k,sv.ownBlock=some k→k≠bo∧k≠bs∧k≠bm:=h.ap;have nbo:some bo≠sv.ownBlock:=fun e=>(nr bo e.symm).1 rfl
 have nbs:some bs≠sv.ownBlock:=fun e=>(nr bs e.symm).2.1 rfl
 have nbm:some bm≠sv.ownBlock:=fun e=>(nr bm e.symm).2.2 rfl
 have apn:∀g,sv'.ownBlock=some g→g≠bo∧g≠bs∧g≠bm:=fun g hg=>by
  rcases hloc with e | e
  ·exact nr g (by rw[←e];exact hg)
  ·rw[e]at hg;have:=Option.some.inj hg;rw[hzd]at this;omega
 have hco3:w3.cell? ⟨bo,0,none⟩=some sv:=by
  rw[World.cell?_of_block (a:=⟨bo,0,none⟩) (k3 bo (by omega) nbo),World.cell?_of_block (a:=⟨bo,0,none⟩) (k2 bo hbo h.ne.2.1)];exact h.co
 have hfo3:w3.frozen? ⟨bo,0,none⟩=false:=by
  rw[World.frozen?_of_block (a:=⟨bo,0,none⟩) (k3 bo (by omega) nbo),World.frozen?_of_block (a:=⟨bo,0,none⟩) (k2 bo hbo h.ne.2.1)];exact h.fo
 refine⟨?_,?_,h.lo,h.ne,?_,?_,?_,?_,apn,?_⟩
 ·have b2:Below B w0 w2:=h.bel.grown gr h.bz (fun j hj=>by cases hj;exact h.lo.2.2);have hz2:B≤w2.heap.size:=Nat.le_trans h.bz hz;have b3:Below B w0 (w2.drew.alloc o):=b2.drew.alloc hz2 _;have b4:Below B w0 w3:=b3.grown hgrow (by rw[hzd];omega) (fun j hj=>(h.own.lt j hj).1);exact b4.setCell (p:=⟨bo,0,none⟩) h.lo.1 _
 ·have:=h.bz;simp;omega
 ·rw[World.cell?_of_block (a:=⟨bs,0,none⟩) (heap_setCell_other _ _ _ _ (by show bs≠bo;exact Ne.symm h.ne.1)),World.cell?_of_block (a:=⟨bs,0,none⟩) (k3 bs (by omega) nbs),World.cell?_of_block (a:=⟨bs,0,none⟩) (k2 bs hbs h.ne.2.2)];exact h.cs
 ·exact World.cell?_setCell_same _ _ _ hco3
 ·go_simp
 ·have hl:(ns++[t]).length=ns.length+1:=by simp
  have hf:(ns++[t]).flatMap Zm=ns.flatMap Zm++[.string t]:=by rw[List.flatMap_append];rfl
  rw[hl,hf];exact Zx hown (fun g hg=>heap_setCell_other _ _ _ _ (by show g≠bo;exact(apn g hg).1))
 ·refine hset.of_block ?_;rw[heap_setCell_other _ _ _ _ (by show bm≠bo;exact Ne.symm h.ne.2.1)];exact k3 bm (by omega) nbm
theorem Zgj{B:Nat}{w0:World}{bo bs bm:Nat}{ns:List ByteArray}{sv:Value}{w:World}(h:Vst B w0 bo bs bm ns sv w)(hn:ns.length≤4398046511104)(g o:Nat)(t:ByteArray)(hg:g<B)(ht:t.size≤maxLen)(hx:w.cell? ⟨g,o,none⟩=some (.string t)) :
  Calls Tryz.prog 309 #[.pointer (some ⟨g,o,none⟩),.pointer (some ⟨bs,0,none⟩),.pointer (some ⟨bo,0,none⟩)] w fun e w'=>(∃u,e=.returned u)∧∃sv',Vst B w0 bo bs bm (Zbv ns t) sv' w':=by
 obtain⟨i0,hi0,hz0,hz1,hz2⟩:=info_parts ZlC;obtain⟨a,c,rfl,hlo⟩:=ZB h.own;have c1:=h.cs;have gw:g<w.heap.size:=Nat.lt_of_lt_of_le hg h.bz;have hba:Below w.heap.size w (w.alloc (.cells #[] 378)):=(Below.refl _ _).alloc (Nat.le_refl _) _;have hl0:=(h.keep (Below.refl _ _).drew).set.look ht;have hl1:=(h.keep hba.drew).set.look ht;have HV1:Hid (Vst B w0 bo bs bm ns (.slice a ns.length c) (w.alloc (.cells #[] 378)).drew):=h.keep hba.drew
 have c2:(w.alloc (.cells #[] 378)).cell? ⟨bs,0,none⟩=some (.map (some bm)):=by rw[hba.cell (p:=⟨bs,0,none⟩) (World.block_lt_of_cell? _ _ h.cs)];exact h.cs
 have hx2:(w.alloc (.cells #[] 378)).cell? ⟨g,o,none⟩=some (.string t):=by rw[hba.cell (p:=⟨g,o,none⟩) gw];exact hx
 have HX1:Hid ((w.alloc (.cells #[] 378)).drew.cell? ⟨g,o,none⟩=some (.string t)):=hx2;clear hba;obtain⟨ib,hib⟩:∃ib,inB ns t=ib:=⟨_,rfl⟩;rw[hib]at hl0 hl1;have HIB:Hid _:=hib;clear h hib;go_enter Tryz.func309,Tryz.ntmps309;go_wp2_with fail;go_region
 all_goals
  clear hl0 hl1 c1 c2 hx2 hx;generalize (w.alloc (.cells #[] 378)).drew=W1 at HV1 HX1⊢;have x1:=HX1.out;have gw1:g<W1.heap.size:=World.block_lt_of_cell? _ _ x1
  cases ib
  ·by_cases en:t=noS
   ·have he:t.toList.isEmpty=true:=by rw[en,ByteArray.toList_eq];rfl
    have HST:Hid (Zbv ns t=ns):=by show _=_;unfold Zbv;rw[if_pos (.inl en)]
    clear en;go_wp2
    ((try simp only[Exit.inBlock,Exit.then]);refine bodyPost_ret (results_none rfl _ _ _) rfl ?_)
    exact⟨⟨_,rfl⟩,_,by rw[HST.out];exact HV1.out⟩
   ·have he:=Za7 t en
    by_cases eb:t=ZI
    ·have hB:(t.toList==[95])=true:=by rw[eb,ByteArray.toList_eq];rfl
     have HST:Hid (Zbv ns t=ns):=by show _=_;unfold Zbv;rw[if_pos (.inr (.inl eb))]
     clear en eb;go_wp2
     ((try simp only[Exit.inBlock,Exit.then]);refine bodyPost_ret (results_none rfl _ _ _) rfl ?_)
     exact⟨⟨_,rfl⟩,_,by rw[HST.out];exact HV1.out⟩
    ·have hB:=Za0 eb
     have HST:Hid (Zbv ns t=ns++[t]):=by
      show _=_;unfold Zbv;rw[if_neg];rintro(h | h | h)
      ·exact en h
      ·exact eb h
      ·rw[HIB.out]at h;cases h
     clear en eb;have hv2:Vst B w0 bo bs bm ns (.slice a ns.length c) W1.drew:=HV1.out.keep (Below.refl _ _).drew;have hni:t ∉ ns:=fun hm=>by have:=ZD.2 hm;rw[HIB.out]at this;cases this
     obtain⟨w2,hput,hset,hturn⟩:=hv2.set.put ht hni;have cs1:=hv2.cs;have gr:=hturn.grown;have HV2:Hid _:=hv2;have HSET:Hid _:=hset;have HTURN:Hid _:=hturn;have hbo:bo<W1.drew.heap.size:=World.block_lt_of_cell? _ _ hv2.co;have co2:w2.cell? ⟨bo,0,none⟩=some (.slice a ns.length c):=by rw[World.cell?_of_block (a:=⟨bo,0,none⟩) (gr.block bo hbo (fun e=>hv2.ne.2.1 (Option.some.inj e)))];exact hv2.co
     have hbo2:bo<w2.heap.size:=Nat.lt_of_lt_of_le hbo gr.size;have co3:(w2.alloc (.cells #[.string t] 9)).cell? ⟨bo,0,none⟩=some (.slice a ns.length c):=by rw[World.cell?_of_block (a:=⟨bo,0,none⟩) (Below.heap_alloc w2 _ bo hbo2)];exact co2
     have fo2:w2.frozen? ⟨bo,0,none⟩=false:=by rw[World.frozen?_of_block (a:=⟨bo,0,none⟩) (gr.block bo hbo (fun e=>hv2.ne.2.1 (Option.some.inj e)))];exact hv2.fo
     have x2:w2.cell? ⟨g,o,none⟩=some (.string t):=by
      rw[World.cell?_of_block (a:=⟨g,o,none⟩) (gr.block g gw1 (fun e=>by have:=Option.some.inj e;have:=hv2.lo.2.2;omega))];exact x1
     have hz2':B≤w2.heap.size:=Nat.le_trans hv2.bz gr.size;have own2:w2.ownsRow B 9 1 (.slice a ns.length c) ns.length (ns.flatMap Zm):=Zx hv2.own (fun k hk=>gr.block k (hv2.own.lt k hk).2 (fun e=>(hv2.ap k hk).2.2 (Option.some.inj e)));have HOWN:Hid ((w2.drew.alloc (.cells #[.string t] 9)).ownsRow B 9 1 (.slice a ns.length c) ns.length (ns.flatMap Zm)):=Zx own2 (fun k hk=>Below.heap_alloc w2.drew _ k (own2.lt k hk).2)
     have HC:Hid (∀(j:Nat) (u:Value),([.string t]:List Value)[j]?=some u→(w2.drew.alloc (.cells #[.string t] 9)).cell? ((⟨w2.heap.size,0,none⟩:Addr).add j)=some u):=ZR w2.drew #[.string t] _;have HSZ:Hid (B≤(w2.drew.alloc (.cells #[.string t] 9)).heap.size):=by show _≤_;simp;omega
     have HFIN:Hid (∀{sv':Value} {w3:World},w3.ownsRow B 9 1 sv' (ns.length+1) (ns.flatMap Zm++[.string t])→(w2.drew.alloc (.cells #[.string t] 9)).grownBy w3 (Value.slice a ns.length c).ownBlock→(sv'.ownBlock=(Value.slice a ns.length c).ownBlock∨sv'.ownBlock=some (w2.drew.alloc (.cells #[.string t] 9)).heap.size)→Vst B w0 bo bs bm (ns++[t]) sv' (w3.setCell ⟨bo,0,none⟩ sv')∧w3.cell? ⟨bo,0,none⟩=some (.slice a ns.length c)∧w3.frozen? ⟨bo,0,none⟩=false):=fun h1 h2 h3=>by
      refine⟨Zok HV2.out HSET.out HTURN.out h1 h2 h3,?_,?_⟩
      ·rw[World.cell?_of_block (a:=⟨bo,0,none⟩) (h2.block bo (by simp;omega) (fun e=>(HV2.out.ap bo e.symm).1 rfl)),World.cell?_of_block (a:=⟨bo,0,none⟩) (Below.heap_alloc w2.drew _ bo hbo2)];exact co2
      ·rw[World.frozen?_of_block (a:=⟨bo,0,none⟩) (h2.block bo (by simp;omega) (fun e=>(HV2.out.ap bo e.symm).1 rfl)),World.frozen?_of_block (a:=⟨bo,0,none⟩) (Below.heap_alloc w2.drew _ bo hbo2)];exact fo2
     clear hv2 hset hturn gr own2 hni;go_upto_region 2 with fail
     go_region
     all_goals
      go_upto_region 3 with fail
      go_region_law (
       refine ZaN rfl (.tmp 36) (.tmp 41) 26 rfl 9 i0 _ 1 16 Tryz.underlying26 hi0 hz0 hz1 hz2 rfl (by decide) B (.slice a ns.length c) ns.length _ (by simp[Act.eval,Act.put]) HOWN.out ⟨w2.heap.size,0,none⟩ 1 1 [.string t] (by simp[Act.eval,Act.put]) rfl HC.out (by simp[Value.oneCell']) (by unfold maxLen;omega) (by omega) HSZ.out ?_;intro v' w3 hown' hgrow hloc;obtain⟨hfin,r1,r2⟩:=HFIN.out hown' hgrow hloc
       obtain⟨a',c',rfl,_⟩:=ZB hown';clear hown' hgrow hloc)
      all_goals
       go_wp2;go_end0;exact⟨⟨_,rfl⟩,_,by rw[HST.out];exact hfin⟩
  ·have HST:Hid (Zbv ns t=ns):=by show _=_;unfold Zbv;rw[if_pos (.inr (.inr HIB.out))]
   go_wp2
   ((try simp only[Exit.inBlock,Exit.then]);refine bodyPost_ret (results_none rfl _ _ _) rfl ?_)
   exact⟨⟨_,rfl⟩,_,by rw[HST.out];exact HV1.out⟩
def Zew(bs bo:Nat):Value:=.func (.func 309) #[] #[.pointer (some ⟨bs,0,none⟩),.pointer (some ⟨bo,0,none⟩)]
theorem Zqk(v:Value)(w:World):(Instr.typeAssert (.iface 340 v) 20 155 true).run Tryz.prog w=.ok (.tuple #[.pointer none,.bool false]) w:=by kernel_rfl
theorem ZmY(v:Value)(w:World):(Instr.typeAssert (.iface 340 v) 20 337 true).run Tryz.prog w=.ok (.tuple #[.pointer none,.bool false]) w:=by kernel_rfl
theorem Zql(v:Value)(w:World):(Instr.typeAssert (.iface 340 v) 20 340 true).run Tryz.prog w=.ok (.tuple #[v,.bool true]) w:=by kernel_rfl
theorem Zex{B:Nat}{w0:World}{bo bs bm:Nat}{ns:List ByteArray}{sv:Value}{w:World}(h:Vst B w0 bo bs bm ns sv w)(hB:B=w0.heap.size)(ba o:Nat)(hba:ba<B)(a:Option Addr)(c:Nat)(ts:List T)(hc:w0.cell? ⟨ba,o+1,none⟩=some (.slice a ts.length c))(hL:Lt w0 (.slice a ts.length c) ts)(hn:ns.length+ts.length≤4398046511104) :
  Calls Tryz.prog 104 #[.iface 340 (.pointer (some ⟨ba,o,none⟩)),Zew bs bo] w fun e w'=>(∃u,e=.returned u)∧∃sv',Vst B w0 bo bs bm (vsT ns ts) sv' w':=by
 have hwf:=hL.wf;obtain⟨a',c',e,hc1,hc2,hat⟩:=hL.form
 cases e
 have hmax:ts.length≤maxLen:=Nat.le_trans hc1 hc2;unfold maxLen at hmax;have HAT:Hid _:=hat;have HWF:Hid _:=hwf;have HCC:Hid (∀u,Below B w0 u→u.cell? ⟨ba,o+1,none⟩=some (.slice a ts.length c)):=fun u hu=>by rw[hu.cell (p:=⟨ba,o+1,none⟩) hba];exact hc
 have HV:Hid (Vst B w0 bo bs bm ns sv w):=h;have c0:=HCC.out w h.bel;have h1:=Zqk (.pointer (some ⟨ba,o,none⟩));have h2:=ZmY (.pointer (some ⟨ba,o,none⟩));have h3:=Zql (.pointer (some ⟨ba,o,none⟩));obtain⟨r,HR⟩:∃r,Hid (vsT ns ts=r):=⟨_,rfl⟩;rw[HR.out];clear hat hwf hL hc h hc1 hc2;unfold Zew;go_enter Tryz.func104,Tryz.ntmps104;go_wp2;clear c0 h1 h2 h3;go_loopw [81] (fun i wr=>∃k:Nat,k≤ts.length∧i=.int .i64 k∧∃(ns':List ByteArray) (sv':Value),Hid (Vst B w0 bo bs bm ns' sv' wr)∧ns'.length≤ns.length+k∧Hid (vsT ns' (ts.drop k)=r)) (fun i _=>ts.length-(intOf i).toNat)
 case atStart=>exact⟨0,Nat.zero_le _,rfl,ns,sv,HV,Nat.le_refl _,HR⟩
 case round=>
  obtain⟨k,hk,rfl,ns',sv',HV',hl,HS⟩:=hrel;have c0:=HCC.out wr HV'.out.bel
  by_cases hlt:k<ts.length
  ·have hlt':(k:Int)<(ts.length:Int):=by omega
   have hk0:(0:Int)≤(k:Int):=by omega
   obtain⟨g,off,rfl,hg,hT⟩:=HAT.out (by omega);have hgB:g<B:=by rw[hB];exact hg
   have x0:wr.cell? ⟨g,off+k*4,none⟩=some (.string (atT ts k).v):=by rw[HV'.out.bel.cell (p:=⟨g,off+k*4,none⟩) hgB];exact(hT k hlt).c0
   have hxw:=Zgi HWF.out k;have e1:ts.drop k=atT ts k::ts.drop (k+1):=by rw[ZcQ hlt];exact List.drop_eq_getElem_cons hlt
   have HN:Hid (vsT (Zbv ns' (atT ts k).v) (ts.drop (k+1))=r):=by show _=r;rw[←HS.out,e1,Zdk]
   have HH:Hid _:=Zgj HV'.out (by omega) g (off+k*4) (atT ts k).v hgB hxw.text x0;have HLn:Hid _:=ZeU ns' (atT ts k).v;clear hT e1 hxw x0 HS;generalize (atT ts k).v=t at HN HH HLn;go_wp2_with fail;refine Calls.mono HH.out ?_;rintro e w2 ⟨⟨u,rfl⟩,sv2,hv2⟩;go_wp2;go_roundw
   case rel=>exact⟨k+1,by omega,by go_num,Zbv ns' t,sv2,hv2,by have:=HLn.out;omega,HN⟩
   case measure=>simp[intOf];omega
  ·obtain rfl:k=ts.length:=by omega
   have HV2:Hid (ns'=r):=by show ns'=r;rw[←HS.out,List.drop_length];simp[vsT]
   go_wp2;go_end0;rw[←HV2.out];exact⟨⟨_,rfl⟩,_,HV'.out⟩
theorem Ziz(w:World):Vst w.heap.size w w.heap.size (w.heap.size+2) (w.heap.size+1) [] (.slice none 0 0) (((w.alloc (.cells #[.slice none 0 0] 26)).alloc (.map #[] 0)).alloc (.cells #[.map (some (w.heap.size+1))] 129)):=by
 have s1:(w.alloc (.cells #[.slice none 0 0] 26)).heap.size=w.heap.size+1:=by simp
 have s2:((w.alloc (.cells #[.slice none 0 0] 26)).alloc (.map #[] 0)).heap.size=w.heap.size+2:=by simp
 have b1:Below w.heap.size w (w.alloc (.cells #[.slice none 0 0] 26)):=(Below.refl _ _).alloc (Nat.le_refl _) _
 have b2:Below (w.heap.size+1) (w.alloc (.cells #[.slice none 0 0] 26)) ((w.alloc (.cells #[.slice none 0 0] 26)).alloc (.map #[] 0)):=by
  have:=(Below.refl (w.alloc (.cells #[.slice none 0 0] 26)).heap.size (w.alloc (.cells #[.slice none 0 0] 26))).alloc (Nat.le_refl _) (.map #[] 0);rw[s1]at this;exact this
 have b3:Below (w.heap.size+2) ((w.alloc (.cells #[.slice none 0 0] 26)).alloc (.map #[] 0)) (((w.alloc (.cells #[.slice none 0 0] 26)).alloc (.map #[] 0)).alloc (.cells #[.map (some (w.heap.size+1))] 129)):=by
  have:=(Below.refl ((w.alloc (.cells #[.slice none 0 0] 26)).alloc (.map #[] 0)).heap.size ((w.alloc (.cells #[.slice none 0 0] 26)).alloc (.map #[] 0))).alloc (Nat.le_refl _) (.cells #[.map (some (w.heap.size+1))] 129);rw[s2]at this;exact this
 have hm:SetIs ((w.alloc (.cells #[.slice none 0 0] 26)).alloc (.map #[] 0)) (w.heap.size+1) []:=by
  have:=SetIs.made (w.alloc (.cells #[.slice none 0 0] 26));rw[s1]at this;exact this
 have hb:Below w.heap.size w (((w.alloc (.cells #[.slice none 0 0] 26)).alloc (.map #[] 0)).alloc (.cells #[.map (some (w.heap.size+1))] 129)):=(b1.trans (b2.mono (by omega))).trans (b3.mono (by omega));refine⟨hb,by simp;omega,⟨Nat.le_refl _,by omega,by omega⟩,⟨by omega,by omega,by omega⟩,?_,?_,?_,World.ownsRow_nil _ _ _ _,fun g hg=>(by cases hg),?_⟩
 ·have e:((w.alloc (.cells #[.slice none 0 0] 26)).alloc (.map #[] 0)).heap.size=w.heap.size+2:=s2;unfold World.cell?;rw[show(⟨w.heap.size+2,0,none⟩:Addr).block=((w.alloc (.cells #[.slice none 0 0] 26)).alloc (.map #[] 0)).heap.size from e.symm,heap_alloc_new];rfl
 ·rw[b3.cell (p:=⟨w.heap.size,0,none⟩) (by show w.heap.size<_;omega),b2.cell (p:=⟨w.heap.size,0,none⟩) (by show w.heap.size<_;omega)];go_simp
 ·rw[b3.frozen (p:=⟨w.heap.size,0,none⟩) (by show w.heap.size<_;omega),b2.frozen (p:=⟨w.heap.size,0,none⟩) (by show w.heap.size<_;omega)];exact Lib.frozen_of_heap (heap_alloc_new w _) 0
 ·exact hm.of_block (b3.block _ (by omega))
theorem Zdn(u:World):(Instr.makeMap 129 none).run Tryz.prog u=.ok (.map (some u.heap.size)) (u.alloc (.map #[] 0)):=by kernel_rfl
theorem Zev(ba:Nat)(a:Option Addr)(c:Nat)(ts:List T)(w:World)(hba:ba<w.heap.size)(hc:w.cell? ⟨ba,1,none⟩=some (.slice a ts.length c))(hL:Lt w (.slice a ts.length c) ts)(hn:ts.length≤4398046511104) :
  Calls Tryz.prog 274 #[.iface 340 (.pointer (some ⟨ba,0,none⟩))] w fun e w'=>∃sv,e=.returned sv∧w'.ownsRow w.heap.size 9 1 sv (vsT [] ts).length ((vsT [] ts).flatMap Zm)∧Below w.heap.size w w':=by
 have HW:Hid _:=Zex (Ziz w) rfl ba 0 hba a c ts hc hL (by simpa using hn);unfold Zew at HW;have hmk:=Zdn;clear hc hL;go_enter Tryz.func274,Tryz.ntmps274;go_wp2_with fail;refine Calls.mono HW.out ?_;rintro e w2 ⟨⟨u,rfl⟩,sv2,hv2⟩;have c0:=hv2.co;obtain⟨a2,c2,rfl,_⟩:=ZB hv2.own;go_wp2;go_ret;exact⟨_,rfl,hv2.own,hv2.bel⟩
theorem ZdH(pr:ByteArray)(v:Value)(ts:List T)(w:World)(hn:ts.length≤4398046511104)(hl:Lt w v ts):Calls Tryz.prog 210 #[.agg #[.string pr,v]] w fun e w'=>∃sv,e=.returned sv∧w'.ownsRow w.heap.size 9 1 sv (vsT [] ts).length ((vsT [] ts).flatMap Zm)∧Below w.heap.size w w':=by
 obtain⟨a,c,rfl,hc1,hc2,-⟩:=hl.form;have b0:=(Below.refl w.heap.size w).alloc (Nat.le_refl _) (.cells #[.string pr,.slice a ts.length c] 93);have HV:Hid _:=Zev w.heap.size a c ts (w.alloc (.cells #[.string pr,.slice a ts.length c] 93)) (by simp) (by go_simp) (hl.below b0) hn;clear hl;go_enter Tryz.func210,Tryz.ntmps210;go_wp2_with fail;refine Calls.mono HV.out ?_;rintro e w1 ⟨sv,rfl,ho,b1⟩
 go_wp2;go_ret;exact⟨_,rfl,Go.Joins.ownsRow_le ho (by simp),b0.trans (b1.mono b0.size)⟩
theorem Zgu(v v':Value)(l:List ByteArray)(w:World)(h1:Ls w v l.length (l.flatMap Zm))(h2:Ls w v' l.length (l.flatMap Zm)) :
  Calls Tryz.prog 37 #[v,v'] w fun r w'=>r=.returned (.bool true)∧Below w.heap.size w w':=by
 obtain⟨a,c,rfl,hc1,hc2,hk⟩:=Z3 h1;obtain⟨a',c',rfl,hc1',hc2',hk'⟩:=Z3 h2;have hmax:l.length≤maxLen:=Nat.le_trans hc1 hc2;unfold maxLen at hmax;have HK:Hid _:=hk;have HK':Hid _:=hk';clear hk hk' h1 h2 hc2 hc2';go_enter Tryz.func37,Tryz.ntmps37;go_wp2;go_loopw [5] (fun i wr=>∃k:Nat,k≤l.length∧i=.int .i64 k∧Below w.heap.size w wr) (fun i _=>l.length-(intOf i).toNat)
 case atStart=>exact⟨0,Nat.zero_le _,rfl,Below.refl _ _⟩
 case round=>
  obtain⟨k,hk,rfl,bel⟩:=hrel
  by_cases hlt:k<l.length
  ·have hlt':(k:Int)<(l.length:Int):=by omega
   obtain⟨g,off,rfl,hg,hKS⟩:=HK.out (by omega);obtain⟨g',off',rfl,hg',hKS'⟩:=HK'.out (by omega);have y0:wr.cell? ⟨g,off+k,none⟩=some (.string (atS l k)):=by rw[bel.cell (p:=⟨g,off+k,none⟩) hg];exact hKS k hlt
   have z0:wr.cell? ⟨g',off'+k,none⟩=some (.string (atS l k)):=by rw[bel.cell (p:=⟨g',off'+k,none⟩) hg'];exact hKS' k hlt
   generalize atS l k=x at y0 z0;have hQ:(x.toList==x.toList)=true:=by simp
   clear hKS hKS';go_wp2_with fail;go_quiet (fail);go_wp2;go_roundw
   case rel=>exact⟨k+1,by omega,by go_num,⟨bel.os,bel.tape,bel.output,bel.size,bel.block⟩⟩
   case measure=>simp[intOf];omega
  ·obtain rfl:k=l.length:=by omega
   go_wp2;go_ret;exact⟨rfl,bel⟩
end
end Go.Proofs.YtjdnpgpbeppgjaaGreatDoor
