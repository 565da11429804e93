import Derived.Test.YtjdnpgpbeppgjaaGreatDoorA22
import Derived.Deep.Upon
import Derived.OwnWalk
import Derived.Lib.Hide
import Derived.Test.YtjdnpgpbeppgjaaGreatDoorA13
import Derived.Test.YtjdnpgpbeppgjaaGreatDoorA21
import Derived.Test.YtjdnpgpbeppgjaaGreatDoorA6
import Derived.Test.YtjdnpgpbeppgjaaGreatDoorA3
import Derived.Deep.DeepCutAuto
import Derived.Test.YtjdnpgpbeppgjaaGreatDoorA11
import Derived.Test.YtjdnpgpbeppgjaaGreatDoorA9
set_option linter.unusedSimpArgs false
set_option linter.unusedVariables false
set_option maxHeartbeats 3200000
set_option maxRecDepth 100000
namespace Go.Proofs.YtjdnpgpbeppgjaaGreatDoor
section
open Go.RowKit Go.Maps
attribute [local go_sem ↓] Go.wp_at_zero Go.wp_at_succ
theorem ZpV{s:List P}(hs:∀p∈s,p.wf){x:A5}(h:x.wf):(apA (res s) x).wf:=⟨h.gb,ZkR hs h.t⟩
theorem BB.keep{w w':World}{d:Nat}{bd:List XL}{a:Option Addr}{c:Nat}{bl:List Nat}(h:BB w d bd a c bl)(hs:w.heap.size≤w'.heap.size)(hk:∀b∈bl,w'.heap[b]?=w.heap[b]?):BB w' d bd a c bl:=by
 refine⟨h.c1,h.c2,?_⟩;rcases h.lies with h1 | ⟨g,ls,ha,hg,hbl,hl,hnd,hf,hx⟩
 ·exact .inl h1
 ·subst hbl;have e:=hk g (by simp);refine .inr ⟨g,ls,ha,Nat.lt_of_lt_of_le hg hs,rfl,hl,hnd,fun j=>(ZaF e j).trans (hf j),fun i hi=>⟨(hx i hi).1.sameC (fun j _ _=>ZJ e j),(hx i hi).2.keep hs (fun b hb=>hk b (List.mem_cons_of_mem _ (ZaK (i:=i) (by rw[List.length_map];omega) (by rw[ZcY];exact hb))))⟩⟩
theorem BB.lt{w:World}{d:Nat}{bd:List XL}{a:Option Addr}{c:Nat}{bl:List Nat}(h:BB w d bd a c bl):∀b∈bl,b<w.heap.size:=fun b hb=>by
 rcases h.lies with ⟨_,h1⟩ | ⟨g,ls,ha,hg,hbl,hl,hnd,hf,hx⟩
 ·rw[h1]at hb;cases hb
 ·subst hbl;rcases List.mem_cons.1 hb with rfl | hb
  ·exact hg
  ·obtain⟨l,hl1,hl2⟩:=List.mem_flatten.1 hb;obtain⟨i,hi,rfl⟩:=List.mem_iff_getElem.1 hl1;have hi':i<bd.length:=by rw[List.length_map]at hi;omega
   refine(hx i hi').2.lt b ?_;have e:=ZcY ls i;rw[List.getD_eq_getElem?_getD,List.getElem?_eq_getElem hi]at e;have e':(ls.map ZcD)[i]=ZcD (ZaA ls i):=e;rw[e']at hl2;exact hl2
theorem ZlU{bm:Nat}{s:List P}(nd:(s.map P.v).Nodup)(hs:∀p∈s,p.wf)(d:Nat)(w:World)(hd:List A5)(bd:List XL)(a:Option Addr)(c:Nat)(ba:Option Addr)(bc b:Nat)(l1 l2:List Nat)(hm:MapT w bm s)(h1:w.cell? ⟨b,1,none⟩=some (.slice a hd.length c))(h2:w.cell? ⟨b,2,none⟩=some (.slice ba bd.length bc))(hA:AB w hd a c l1)(hB:BB w d bd ba bc l2)(hnd:(l1++l2).Nodup)(hb:b ∉ l1++l2)(hmb:bm ∉ l1++l2)(hn1:hd.length≤281474976710656)(hn2:bd.length≤281474976710656) :
  Calls Tryz.prog 104 #[.iface 155 (.pointer (some ⟨b,0,none⟩)),ZeD bm] w fun e w'=>(∃u,e=.returned u)∧Tch (fun q=>q∈l1++l2) w w'∧AB w' (hd.map (apA (res s))) a c l1∧BB w' d (bd.map (apX (res s) d)) ba bc l2:=by
 have hbl:b<w.heap.size:=World.block_lt_of_cell? _ _ h1;have hdj:∀q,q∈l1→q ∉ l2:=fun q h h'=>(List.nodup_append.1 hnd).2.2 q h q h' rfl
 have b1:b ∉ l1:=fun h=>hb (by simp[h])
 have b2:b ∉ l2:=fun h=>hb (by simp[h])
 have m1:bm ∉ l1:=fun h=>hmb (by simp[h])
 have m2:bm ∉ l2:=fun h=>hmb (by simp[h])
 have t1:=Zoh (.pointer (some ⟨b,0,none⟩))
 have HCC:Hid (∀u,Tch (fun q=>q∈l1++l2) w u→u.cell? ⟨b,1,none⟩=some (.slice a hd.length c)∧u.cell? ⟨b,2,none⟩=some (.slice ba bd.length bc)):=fun u t=>by
  have e:=t.block b hbl hb;exact⟨(ZJ e 1).trans h1,(ZJ e 2).trans h2⟩
 obtain⟨gh,HG,HW0⟩:∃gh,Hid (0<hd.length→a=some ⟨gh,0,none⟩∧l1=[gh])∧Hid (0<hd.length→Wh w gh bm hd s 0 w):=by
  rcases hA.lies with ⟨h0,_⟩ | ⟨g,ha,hg,hbl,hf,hx⟩
  ·exact⟨0,fun h=>by rw[h0]at h;simp at h,fun h=>by rw[h0]at h;simp at h⟩
  ·exact⟨g,fun _=>⟨ha,hbl⟩,fun _=>⟨Tch.refl _ _,hm,hg,hf,fun i hi=>(hx i hi).1,fun i _ h=>absurd h (by omega),fun i hi _=>(hx i hi).2⟩⟩
 have HPU:Hid (∀k wr,k<hd.length→Wh w gh bm hd s k wr→Calls Tryz.prog 106 #[.map (some bm),.pointer (some ⟨gh,k*5+1,none⟩)] wr fun e w'=>(∃u,e=.returned u)∧Wh w gh bm hd s (k+1) w'):=fun k wr hk ha=>by
  have hmg:bm≠gh:=fun e=>m1 (by rw[(HG.out (by omega)).2,e];simp)
  exact(ZeB ha.map nd (ha.rest k hk (Nat.le_refl _)) (fun i _=>ha.fz _) (hA.wf _ (by rw[Zdj hk];exact List.getElem_mem _)).t).mono (fun e w' h=>⟨h.1,ha.step hmg h.2⟩)
 have HHT:Hid (∀k wr,0<hd.length→Wh w gh bm hd s k wr→Tch (fun q=>q∈l1) w wr):=fun k wr h0 hw=>hw.tch.mono (fun q hq=>by rw[(HG.out h0).2,hq];simp)
 have HA2:Hid (∀wr,(hd.length=0→wr=w)→(0<hd.length→Wh w gh bm hd s hd.length wr)→AB wr (hd.map (apA (res s))) a c l1):=fun wr he hw=>by
  by_cases h0:0<hd.length
  ·obtain⟨ha,hl⟩:=HG.out h0;have hW:=hw h0;refine⟨by rw[List.length_map];exact hA.c1,hA.c2,fun x hx=>by obtain⟨y,hy,rfl⟩:=List.mem_map.1 hx;exact ZpV hs (hA.wf y hy),.inr ⟨gh,ha,hW.gl,hl,hW.fz,fun i hi=>?_⟩⟩;rw[List.length_map]at hi;rw[ZoC _ hi];exact⟨hW.agg i hi,hW.done i hi hi⟩
  ·have e0:hd=[]:=List.length_eq_zero_iff.1 (by omega);rw[he (by omega)];subst e0;exact hA
 have HBK:Hid (∀wr,Tch (fun q=>q∈l1) w wr→BB wr d bd ba bc l2):=fun wr t=>hB.keep t.size (fun q hq=>t.block q (hB.lt q hq) (fun h=>hdj q h hq))
 have HAK:Hid (∀W2 wr,AB W2 (hd.map (apA (res s))) a c l1→Tch (fun q=>q∈l2) W2 wr→AB wr (hd.map (apA (res s))) a c l1):=fun W2 wr h t=>h.keep t.size (fun q hq=>t.block q (h.lt q hq) (fun h'=>hdj q hq h'))
 have HM0:=Lib.hid hm;have HND:Hid ((s.map P.v).Nodup∧(∀p∈s,p.wf)):=⟨nd,hs⟩;have HMB:=Lib.hid m2;obtain⟨x1,x2⟩:=HCC.out w (Tch.refl _ _);clear hA hB hm nd hs hnd hb hmb hdj b1 b2 m1 m2 h1 h2 hbl;unfold ZeD;go_enter Tryz.func104,Tryz.ntmps104;go_wp2;clear x1 x2 t1;go_loopw [21] (fun i wr=>∃k:Nat,k≤hd.length∧i=.int .i64 k∧Hid (Tch (fun q=>q∈l1) w wr∧MapT wr bm s∧(hd.length=0→wr=w)∧(0<hd.length→Wh w gh bm hd s k wr))) (fun i _=>hd.length-(intOf i).toNat)
 case atStart=>exact⟨0,Nat.zero_le _,rfl,Tch.refl _ _,HM0.out,fun _=>rfl,HW0.out⟩
 case round=>
  clear HW0 HM0;obtain⟨k,hk,rfl,HI⟩:=hrel;obtain⟨x1,x2⟩:=HCC.out wr (HI.out.1.mono (fun q hq=>by simp[hq]))
  by_cases hlt:k<hd.length
  ·have hlt':(k:Int)<(hd.length:Int):=by omega
   have hk0:(0:Int)≤(k:Int):=by omega
   obtain rfl:a=some ⟨gh,0,none⟩:=(HG.out (by omega)).1;have HP:=Lib.hid (HPU.out k wr hlt (HI.out.2.2.2 (by omega)));go_wp2_with fail;refine Calls.mono HP.out ?_;rintro e w2 ⟨⟨u,rfl⟩,hw2⟩;have HI2:Hid (Tch (fun q=>q∈l1) w w2∧MapT w2 bm s∧(hd.length=0→w2=w)∧(0<hd.length→Wh w gh bm hd s (k+1) w2)):=⟨HHT.out _ _ (by omega) hw2,hw2.map,fun h=>absurd h (by omega),fun _=>hw2⟩;clear hw2 HP HI x1 x2;go_wp2
   go_roundw
   case rel=>exact⟨k+1,by omega,by go_num,HI2⟩
   case measure=>simp[intOf];omega
  ·obtain rfl:k=hd.length:=by omega
   have HT1:=Lib.hid HI.out.1;have HMP:=Lib.hid HI.out.2.1;have HAB:=Lib.hid (HA2.out wr HI.out.2.2.1 HI.out.2.2.2);have hbb:=HBK.out wr HI.out.1;obtain⟨W2,rfl⟩:∃W2,W2=wr:=⟨_,rfl⟩
   obtain⟨gb,ls,HGB,HWB0⟩:∃gb ls,Hid (0<bd.length→ba=some ⟨gb,0,none⟩∧l2=gb::(ls.map ZcD).flatten∧ls.length=bd.length∧(gb::(ls.map ZcD).flatten).Nodup)∧Hid (0<bd.length→Wb W2 gb bm d bd ls s 0 W2):=by
    rcases hbb.lies with ⟨h0,_⟩ | ⟨g,ls,ha,hg,hbl,hl,hnd,hf,hx⟩
    ·exact⟨0,[],fun h=>by rw[h0]at h;simp at h,fun h=>by rw[h0]at h;simp at h⟩
    ·exact⟨g,ls,fun _=>⟨ha,hbl,hl,by rw[←hbl];exact hnd⟩,fun _=>⟨Tch.refl _ _,HMP.out,hg,hf,fun i _ h=>absurd h (by omega),fun i hi _=>hx i hi⟩⟩
   have HBB:=Lib.hid hbb
   have HBU:Hid (∀k wr,k<bd.length→Wb W2 gb bm d bd ls s k wr→Calls Tryz.prog 104 #[.iface 337 (.pointer (some ⟨gb,k*16,none⟩)),ZeD bm] wr fun e w'=>(∃u,e=.returned u)∧Wb W2 gb bm d bd ls s (k+1) w'):=fun k wr hk hw=>by
    obtain⟨_,hl2,hll,hnd⟩:=HGB.out (by omega);have hm2:bm ∉ gb::(ls.map ZcD).flatten:=by rw[←hl2];exact HMB.out
    obtain⟨y1,y2⟩:=hw.rest k hk (Nat.le_refl _);have hin:∀q,q∈ZcD (ZaA ls k)→q∈(ls.map ZcD).flatten:=fun q hq=>ZaK (i:=k) (by rw[List.length_map];omega) (by rw[ZcY];exact hq)
    refine(ZhO HND.out.1 HND.out.2 d wr _ _ gb (k*16) _ _ _ hw.map y1 hw.fz y2 (fun q=>(List.nodup_cons.1 hnd).1 (hin _ q)) (fun q=>hm2 (List.mem_cons_of_mem _ (hin _ q))) (fun q=>hm2 (by rw[q];simp))).mono (fun e w' h=>⟨h.1,hw.step hk hll hnd hm2 h.2⟩)
   unfold ZeD at HBU;clear HI hbb HPU HHT HA2 HBK HG;go_wp2;clear x1 x2;go_loopw [39] (fun i wr=>∃k:Nat,k≤bd.length∧i=.int .i64 k∧Hid (Tch (fun q=>q∈l2) W2 wr∧(bd.length=0→wr=W2)∧(0<bd.length→Wb W2 gb bm d bd ls s k wr))) (fun i _=>bd.length-(intOf i).toNat)
   case atStart=>exact⟨0,Nat.zero_le _,rfl,Tch.refl _ _,fun _=>rfl,HWB0.out⟩
   case round=>
    clear HWB0;obtain⟨k,hk,rfl,HI⟩:=hrel;have HTT:Hid (Tch (fun q=>q∈l1++l2) w wr):=(HT1.out.mono (fun q hq=>by simp[hq])).trans (HI.out.1.mono (fun q hq=>by simp[hq]));obtain⟨x1,x2⟩:=HCC.out wr HTT.out
    by_cases hlt:k<bd.length
    ·have hlt':(k:Int)<(bd.length:Int):=by omega
     have hk0:(0:Int)≤(k:Int):=by omega
     obtain rfl:ba=some ⟨gb,0,none⟩:=(HGB.out (by omega)).1;have HP:=Lib.hid (HBU.out k wr hlt (HI.out.2.2 (by omega)));go_wp2_with fail;refine Calls.mono HP.out ?_;rintro e w2 ⟨⟨u,rfl⟩,hw2⟩;have HI2:Hid (Tch (fun q=>q∈l2) W2 w2∧(bd.length=0→w2=W2)∧(0<bd.length→Wb W2 gb bm d bd ls s (k+1) w2)):=⟨hw2.tch.mono (fun q hq=>by rw[(HGB.out (by omega)).2.1];exact hq),fun h=>absurd h (by omega),fun _=>hw2⟩
     clear hw2 HP HI x1 x2 HTT;go_wp2;go_roundw
     case rel=>exact⟨k+1,by omega,by go_num,HI2⟩
     case measure=>simp[intOf];omega
    ·obtain rfl:k=bd.length:=by omega
     have HFIN:Hid (BB wr d (bd.map (apX (res s) d)) ba bc l2):=by
      show BB _ _ _ _ _ _
      by_cases h0:0<bd.length
      ·obtain⟨ha,hl2,hll,hnd⟩:=HGB.out h0;have hW:=HI.out.2.2 h0;refine⟨by rw[List.length_map];exact HBB.out.c1,HBB.out.c2,.inr ⟨gb,ls,ha,hW.gl,hl2,by rw[List.length_map];exact hll,by rw[hl2];exact hnd,hW.fz,fun i hi=>?_⟩⟩;rw[List.length_map]at hi;rw[Zng _ hi];exact hW.done i hi hi
      ·have e0:bd=[]:=List.length_eq_zero_iff.1 (by omega);rw[HI.out.2.1 (by omega)];have:=HBB.out;subst e0;exact this
     have HAF:=Lib.hid (HAK.out W2 wr HAB.out HI.out.1);go_wp2;go_end0;exact⟨⟨_,rfl⟩,HTT.out,HAF.out,HFIN.out⟩
theorem ZlJ:(Tryz.prog.info? 100).map (fun i=>(i.zero,i.size,i.bytes))=some (some (.agg #[.string ⟨#[]⟩,.int .i8 0,.int .i64 0,.string ⟨#[]⟩]),4,48):=by kernel_rfl
theorem Zm2(n c:Nat)(w:World):(binOp .eql 91 (.slice none n c) (.slice none 0 0)).run Tryz.prog w=.ok (.bool true) w:=by kernel_rfl
theorem Zm3(ad:Addr)(n c:Nat)(w:World):(binOp .eql 91 (.slice (some ad) n c) (.slice none 0 0)).run Tryz.prog w=.ok (.bool false) w:=by kernel_rfl
theorem ZlK(v:Value)(n:Nat)(ys:List Value)(w:World)(hl:Ls w v n ys)(hly:ys.length=n*4)(h1:∀u∈ys,u.oneCell'=true)(hn:n≤1048576):Calls Tryz.prog 239 #[v] w fun e w'=>∃sv,e=.returned sv∧w'.ownsRow w.heap.size 100 4 sv n ys∧Below w.heap.size w w':=by
 obtain⟨i0,hi0,hz0,hz1,hz2⟩:=info_parts ZlJ;have HL:=Lib.hid hl;obtain⟨_,a,c,rfl,hc1,hc2,hat⟩:=hl;have H1:=Lib.hid h1;clear h1
 cases a with
 | none=>
  have h0:n=0:=by
   by_cases h:n=0
   ·exact h
   ·obtain⟨g,off,e,_⟩:=hat (by omega)
    cases e
  subst h0;obtain rfl:ys=[]:=List.length_eq_zero_iff.1 (by rw[hly]);have hne:=Zm2 0 c w;clear hat HL;go_enter Tryz.func239,Tryz.ntmps239;go_wp2;go_ret;exact⟨_,rfl,World.ownsRow_nil _ _ _ _,Below.refl _ _⟩
 | some ad=>
  have hne:=Zm3 ad n c w;have HAL:Hid (∀o,Below w.heap.size w (w.alloc o)):=fun o=>(Below.refl _ _).alloc (Nat.le_refl _) o
  clear hat;go_enter Tryz.func239,Tryz.ntmps239;go_wp2_with (at_builtin;refine Zae rfl (.tmp 5) (.tmp 6) 91 100 rfl Tryz.underlying91 hi0 hz0 hz1 hz2 rfl (by decide) (b:=w.heap.size) (v:=.slice (some ⟨w.heap.size,0,none⟩) 0 0) (n:=0) (xs:=[]) (a:=some ad) (c:=c) (m:=n) (ys:=ys) (by simp[Act.eval,Act.put]) (World.ownsRow_lit w #[] 0 (Nat.le_refl _) (by decide) rfl) (by simp[Act.eval,Act.put]) (HL.out.below (HAL.out _)) hly H1.out (by unfold maxLen;omega) (by omega) (by simp) ?_;intro v5 w5 own5 hg5 hl5;have bel5:Below w.heap.size w w5:=(HAL.out _).grown hg5 (by simp) (fun j hj=>by simp[Value.ownBlock]at hj;omega);rw[Nat.zero_add,List.nil_append]at own5)
  go_ret;exact⟨_,rfl,own5,bel5⟩
theorem Zm4:(Tryz.prog.info? 119).map (fun i=>(i.zero,i.size,i.bytes))=some (some (.agg #[.int .i8 0,.string ⟨#[]⟩,.int .i8 0,.int .i64 0,.string ⟨#[]⟩]),5,56):=by kernel_rfl
theorem Zoy(n c:Nat)(w:World):(binOp .eql 22 (.slice none n c) (.slice none 0 0)).run Tryz.prog w=.ok (.bool true) w:=by kernel_rfl
theorem Zoz(ad:Addr)(n c:Nat)(w:World):(binOp .eql 22 (.slice (some ad) n c) (.slice none 0 0)).run Tryz.prog w=.ok (.bool false) w:=by kernel_rfl
theorem Zm5(v:Value)(n:Nat)(ys:List Value)(w:World)(hl:Ls w v n ys)(hly:ys.length=n*5)(h1:∀u∈ys,u.oneCell'=true)(hn:n≤1048576):Calls Tryz.prog 237 #[v] w fun e w'=>∃sv,e=.returned sv∧w'.ownsRow w.heap.size 119 5 sv n ys∧Below w.heap.size w w':=by
 obtain⟨i0,hi0,hz0,hz1,hz2⟩:=info_parts Zm4;have HL:=Lib.hid hl;obtain⟨_,a,c,rfl,hc1,hc2,hat⟩:=hl;have H1:=Lib.hid h1;clear h1
 cases a with
 | none=>
  have h0:n=0:=by
   by_cases h:n=0
   ·exact h
   ·obtain⟨g,off,e,_⟩:=hat (by omega)
    cases e
  subst h0;obtain rfl:ys=[]:=List.length_eq_zero_iff.1 (by rw[hly]);have hne:=Zoy 0 c w;clear hat HL;go_enter Tryz.func237,Tryz.ntmps237;go_wp2;go_ret;exact⟨_,rfl,World.ownsRow_nil _ _ _ _,Below.refl _ _⟩
 | some ad=>
  have hne:=Zoz ad n c w;have HAL:Hid (∀o,Below w.heap.size w (w.alloc o)):=fun o=>(Below.refl _ _).alloc (Nat.le_refl _) o
  clear hat;go_enter Tryz.func237,Tryz.ntmps237;go_wp2_with (at_builtin;refine Zae rfl (.tmp 5) (.tmp 6) 22 119 rfl Tryz.underlying22 hi0 hz0 hz1 hz2 rfl (by decide) (b:=w.heap.size) (v:=.slice (some ⟨w.heap.size,0,none⟩) 0 0) (n:=0) (xs:=[]) (a:=some ad) (c:=c) (m:=n) (ys:=ys) (by simp[Act.eval,Act.put]) (World.ownsRow_lit w #[] 0 (Nat.le_refl _) (by decide) rfl) (by simp[Act.eval,Act.put]) (HL.out.below (HAL.out _)) hly H1.out (by unfold maxLen;omega) (by omega) (by simp) ?_;intro v5 w5 own5 hg5 hl5;have bel5:Below w.heap.size w w5:=(HAL.out _).grown hg5 (by simp) (fun j hj=>by simp[Value.ownBlock]at hj;omega);rw[Nat.zero_add,List.nil_append]at own5)
  go_ret;exact⟨_,rfl,own5,bel5⟩
theorem ZlL:(Tryz.prog.info? 103).map (fun i=>(i.zero,i.size,i.bytes))=some (some (.agg #[.int .i8 0,.string ⟨#[]⟩,.int .i8 0,.int .i64 0,.string ⟨#[]⟩,.slice none 0 0]),6,80):=by kernel_rfl
theorem Zm6(n c:Nat)(w:World):(binOp .eql 101 (.slice none n c) (.slice none 0 0)).run Tryz.prog w=.ok (.bool true) w:=by kernel_rfl
theorem Zm7(ad:Addr)(n c:Nat)(w:World):(binOp .eql 101 (.slice (some ad) n c) (.slice none 0 0)).run Tryz.prog w=.ok (.bool false) w:=by kernel_rfl
theorem ZlM(v:Value)(n:Nat)(ys:List Value)(w:World)(hl:Ls w v n ys)(hly:ys.length=n*6)(h1:∀u∈ys,u.oneCell'=true)(hn:n≤1048576):Calls Tryz.prog 300 #[v] w fun e w'=>∃sv,e=.returned sv∧w'.ownsRow w.heap.size 103 6 sv n ys∧Below w.heap.size w w':=by
 obtain⟨i0,hi0,hz0,hz1,hz2⟩:=info_parts ZlL;have HL:=Lib.hid hl;obtain⟨_,a,c,rfl,hc1,hc2,hat⟩:=hl;have H1:=Lib.hid h1;clear h1
 cases a with
 | none=>
  have h0:n=0:=by
   by_cases h:n=0
   ·exact h
   ·obtain⟨g,off,e,_⟩:=hat (by omega)
    cases e
  subst h0;obtain rfl:ys=[]:=List.length_eq_zero_iff.1 (by rw[hly]);have hne:=Zm6 0 c w;clear hat HL;go_enter Tryz.func300,Tryz.ntmps300;go_wp2;go_ret;exact⟨_,rfl,World.ownsRow_nil _ _ _ _,Below.refl _ _⟩
 | some ad=>
  have hne:=Zm7 ad n c w;have HAL:Hid (∀o,Below w.heap.size w (w.alloc o)):=fun o=>(Below.refl _ _).alloc (Nat.le_refl _) o
  clear hat;go_enter Tryz.func300,Tryz.ntmps300;go_wp2_with (at_builtin;refine Zae rfl (.tmp 5) (.tmp 6) 101 103 rfl Tryz.underlying101 hi0 hz0 hz1 hz2 rfl (by decide) (b:=w.heap.size) (v:=.slice (some ⟨w.heap.size,0,none⟩) 0 0) (n:=0) (xs:=[]) (a:=some ad) (c:=c) (m:=n) (ys:=ys) (by simp[Act.eval,Act.put]) (World.ownsRow_lit w #[] 0 (Nat.le_refl _) (by decide) rfl) (by simp[Act.eval,Act.put]) (HL.out.below (HAL.out _)) hly H1.out (by unfold maxLen;omega) (by omega) (by simp) ?_;intro v5 w5 own5 hg5 hl5;have bel5:Below w.heap.size w w5:=(HAL.out _).grown hg5 (by simp) (fun j hj=>by simp[Value.ownBlock]at hj;omega);rw[Nat.zero_add,List.nil_append]at own5)
  go_ret;exact⟨_,rfl,own5,bel5⟩
theorem ZhM:(Tryz.prog.info? 105).map (fun i=>(i.zero,i.size,i.bytes))=some (some (.agg #[.int .i8 0,.string ⟨#[]⟩,.slice none 0 0,.int .i8 0,.int .i8 0,.string ⟨#[]⟩,.int .i8 0,.int .i64 0,.string ⟨#[]⟩,.slice none 0 0,.int .i8 0,.string ⟨#[]⟩,.int .i8 0,.int .i64 0,.string ⟨#[]⟩,.slice none 0 0]),16,216):=by kernel_rfl
theorem ZiF(n c:Nat)(w:World):(binOp .eql 23 (.slice none n c) (.slice none 0 0)).run Tryz.prog w=.ok (.bool true) w:=by kernel_rfl
theorem ZiG(ad:Addr)(n c:Nat)(w:World):(binOp .eql 23 (.slice (some ad) n c) (.slice none 0 0)).run Tryz.prog w=.ok (.bool false) w:=by kernel_rfl
theorem ZhN(v:Value)(n:Nat)(ys:List Value)(w:World)(hl:Ls w v n ys)(hly:ys.length=n*16)(h1:∀u∈ys,u.oneCell'=true)(hn:n≤1048576):Calls Tryz.prog 238 #[v] w fun e w'=>∃sv,e=.returned sv∧w'.ownsRow w.heap.size 105 16 sv n ys∧Below w.heap.size w w':=by
 obtain⟨i0,hi0,hz0,hz1,hz2⟩:=info_parts ZhM;have HL:=Lib.hid hl;obtain⟨_,a,c,rfl,hc1,hc2,hat⟩:=hl;have H1:=Lib.hid h1;clear h1
 cases a with
 | none=>
  have h0:n=0:=by
   by_cases h:n=0
   ·exact h
   ·obtain⟨g,off,e,_⟩:=hat (by omega)
    cases e
  subst h0;obtain rfl:ys=[]:=List.length_eq_zero_iff.1 (by rw[hly]);have hne:=ZiF 0 c w;clear hat HL;go_enter Tryz.func238,Tryz.ntmps238;go_wp2;go_ret;exact⟨_,rfl,World.ownsRow_nil _ _ _ _,Below.refl _ _⟩
 | some ad=>
  have hne:=ZiG ad n c w;have HAL:Hid (∀o,Below w.heap.size w (w.alloc o)):=fun o=>(Below.refl _ _).alloc (Nat.le_refl _) o
  clear hat;go_enter Tryz.func238,Tryz.ntmps238;go_wp2_with (at_builtin;refine Zae rfl (.tmp 5) (.tmp 6) 23 105 rfl Tryz.underlying23 hi0 hz0 hz1 hz2 rfl (by decide) (b:=w.heap.size) (v:=.slice (some ⟨w.heap.size,0,none⟩) 0 0) (n:=0) (xs:=[]) (a:=some ad) (c:=c) (m:=n) (ys:=ys) (by simp[Act.eval,Act.put]) (World.ownsRow_lit w #[] 0 (Nat.le_refl _) (by decide) rfl) (by simp[Act.eval,Act.put]) (HL.out.below (HAL.out _)) hly H1.out (by unfold maxLen;omega) (by omega) (by simp) ?_;intro v5 w5 own5 hg5 hl5;have bel5:Below w.heap.size w w5:=(HAL.out _).grown hg5 (by simp) (fun j hj=>by simp[Value.ownBlock]at hj;omega);rw[Nat.zero_add,List.nil_append]at own5)
  go_ret;exact⟨_,rfl,own5,bel5⟩
end
section
open Go.RowKit Go.Maps
theorem Zbx{w:World}{B:Nat}{e:TypeId}{k:Nat}{sv:Value}{n:Nat}{xs:List Value}(h:w.ownsRow B e k sv n xs):∃a c,sv=.slice a n c∧n≤c∧c≤maxLen∧(n=0∧a=none∨∃g,a=some ⟨g,0,none⟩∧B≤g∧g<w.heap.size∧(∀j,w.frozen? ⟨g,j,none⟩=false)∧∀j u,xs[j]?=some u→w.cell? ⟨g,j,none⟩=some u):=by
 have h':=h;obtain⟨hl,⟨rfl,rfl⟩ | ⟨g,cap,cur,rfl,h0,hb,hn,hc,hs,ht⟩⟩:=h
 ·exact⟨none,0,rfl,Nat.le_refl _,Nat.zero_le _,.inl ⟨rfl,rfl⟩⟩
 ·refine⟨_,cap,rfl,hn,hc,.inr ⟨g,rfl,h0,(Array.getElem?_eq_some_iff.1 hb).1,fun j=>?_,fun j u hu=>?_⟩⟩
  ·unfold World.frozen?;simp only[hb];simp
  ·have:=h'.cells (g:=g) rfl j u hu;rw[show(⟨g,0,none⟩:Addr).add j=⟨g,j,none⟩ by cases j<;>simp[Addr.add]]at this;exact this
theorem ZpT{w:World}{B:Nat}{sv:Value}{ts:List T}(h:w.ownsRow B 100 4 sv ts.length (ts.flatMap T.cells))(hw:∀t∈ts,t.wf):∃a c bl,sv=.slice a ts.length c∧TB w ts a c bl∧(∀b∈bl,B≤b)∧bl.Nodup:=by
 obtain⟨a,c,rfl,hc1,hc2,h0 | ⟨g,rfl,hB,hg,hf,hx⟩⟩:=Zbx h
 ·exact⟨a,c,[],rfl,⟨hc1,hc2,hw,.inl ⟨List.length_eq_zero_iff.1 h0.1,rfl⟩⟩,(fun b hb=>by cases hb),List.nodup_nil⟩
 ·refine⟨_,c,[g],rfl,⟨hc1,hc2,hw,.inr ⟨g,rfl,hg,rfl,hf,fun i hi=>?_⟩⟩,fun b hb=>by rw[List.mem_singleton.1 hb];exact hB,by simp⟩;have hc:∀j v,j<4→(T.cells (atT ts i))[j]?=some v→w.cell? ⟨g,i*4+j,none⟩=some v:=fun j v hj hv=>hx _ _ (by rw[ZaQ T.cells 4 (fun _=>rfl) T0 ts i j hi hj];exact hv)
  exact⟨hc 0 _ (by omega) rfl,hc 1 _ (by omega) rfl,hc 2 _ (by omega) rfl,hc 3 _ (by omega) rfl⟩
theorem ZpU{w:World}{B:Nat}{sv:Value}{hd:List A5}(h:w.ownsRow B 119 5 sv hd.length (hd.flatMap A5.cells))(hw:∀t∈hd,t.wf):∃a c bl,sv=.slice a hd.length c∧AB w hd a c bl∧(∀b∈bl,B≤b)∧bl.Nodup:=by
 obtain⟨a,c,rfl,hc1,hc2,h0 | ⟨g,rfl,hB,hg,hf,hx⟩⟩:=Zbx h
 ·exact⟨a,c,[],rfl,⟨hc1,hc2,hw,.inl ⟨List.length_eq_zero_iff.1 h0.1,rfl⟩⟩,(fun b hb=>by cases hb),List.nodup_nil⟩
 ·refine⟨_,c,[g],rfl,⟨hc1,hc2,hw,.inr ⟨g,rfl,hg,rfl,hf,fun i hi=>?_⟩⟩,fun b hb=>by rw[List.mem_singleton.1 hb];exact hB,by simp⟩;have hc:∀j v,j<5→(A5.cells (atA hd i))[j]?=some v→w.cell? ⟨g,i*5+j,none⟩=some v:=fun j v hj hv=>hx _ _ (by rw[ZaQ A5.cells 5 (fun _=>rfl) A50 hd i j hi hj];exact hv)
  exact⟨hc 0 _ (by omega) rfl,⟨hc 1 _ (by omega) rfl,hc 2 _ (by omega) rfl,hc 3 _ (by omega) rfl,hc 4 _ (by omega) rfl⟩⟩
theorem ZoB{w:World}{d:Nat}{e:E}{a:Option Addr}{c:Nat}(h:EIs w (d+1) e a c):∃xs:List X,xs.map X.e=e.kids∧Lx w (.slice a e.kids.length c) d xs:=by
 obtain⟨⟨hop,hkl⟩,htw,hc1,hc2,hk⟩:=h
 by_cases h0:0<e.kids.length
 ·obtain⟨g,off,rfl,hg,hx⟩:=hk h0
  have key:∀m,m≤e.kids.length→∃xs:List X,xs.map X.e=e.kids.take m∧(∀i,i<m→XAt w g (off+i*6) (atX xs i).e.op (atX xs i).e.t (.slice (atX xs i).a (atX xs i).e.kids.length (atX xs i).c))∧∀x∈xs,EIs w d x.e x.a x.c:=by
   intro m
   induction m with
   | zero=>intro _;exact⟨[],by simp,fun i hi=>absurd hi (by omega),fun x hx=>by cases hx⟩
   | succ m ih=>
    intro hm;obtain⟨xs,e1,e2,e3⟩:=ih (by omega);obtain⟨a',c',y1,y2⟩:=hx m (by omega)
    have hl:xs.length=m:=by
     have:=congrArg List.length e1;rw[List.length_map,List.length_take]at this;omega
    refine⟨xs++[⟨atE e.kids m,a',c'⟩],?_,fun i hi=>?_,fun x hx=>?_⟩
    ·rw[List.map_append,e1,List.take_add_one,List.getElem?_eq_getElem (by omega),ZbO (by omega)];rfl
    ·by_cases ei:i=m
     ·subst ei;have:atX (xs++[(⟨atE e.kids i,a',c'⟩:X)]) i=⟨atE e.kids i,a',c'⟩:=by unfold atX;rw[List.getD_eq_getElem?_getD,List.getElem?_append_right (by omega),hl];simp
      rw[this];exact y1
     ·have:atX (xs++[(⟨atE e.kids m,a',c'⟩:X)]) i=atX xs i:=by unfold atX;rw[List.getD_eq_getElem?_getD,List.getD_eq_getElem?_getD,List.getElem?_append_left (by omega)]
      rw[this];exact e2 i (by omega)
    ·rcases List.mem_append.1 hx with hx | hx
     ·exact e3 x hx
     ·rw[List.mem_singleton.1 hx];exact y2
  obtain⟨xs,e1,e2,e3⟩:=key _ (Nat.le_refl _);rw[List.take_length]at e1;have hl:xs.length=e.kids.length:=by rw[←e1,List.length_map]
  refine⟨xs,e1,⟨?_,e3⟩⟩;rw[←hl];refine⟨by rw[hl];exact Nat.le_trans hc1 hc2,_,c,rfl,by rw[hl];exact hc1,hc2,fun _=>⟨g,off,rfl,hg,fun i hi=>?_⟩⟩;have hlen:=ZdC xs;have hi6:i/6<xs.length:=by omega
  have hx6:=ZaQ X.cells 6 (fun _=>rfl) X0 xs (i/6) (i % 6) hi6 (by omega);rw[show i/6*6+i % 6=i by omega,List.getElem?_eq_getElem hi]at hx6;have hq:=e2 (i/6) (by omega)
  have hgoal:∀j v,j<6→(X.cells (atX xs (i/6)))[j]?=some v→w.cell? ⟨g,off+(i/6*6+j),none⟩=some v:=fun j v hj hv=>by
   rw[←Nat.add_assoc];obtain rfl | rfl | rfl | rfl | rfl | rfl:j=0∨j=1∨j=2∨j=3∨j=4∨j=5:=by omega
   ·simp[X.cells]at hv;subst hv;exact hq.c0
   ·simp[X.cells]at hv;subst hv;exact hq.c1
   ·simp[X.cells]at hv;subst hv;exact hq.c2
   ·simp[X.cells]at hv;subst hv;exact hq.c3
   ·simp[X.cells]at hv;subst hv;exact hq.c4
   ·simp[X.cells]at hv;subst hv;exact hq.c5
  have:=hgoal (i % 6) _ (by omega) hx6.symm;rw[show i/6*6+i % 6=i by omega]at this;exact this
 ·have e0:e.kids=[]:=List.length_eq_zero_iff.1 (by omega);refine⟨[],by rw[e0];rfl,⟨?_,fun x hx=>by cases hx⟩⟩;rw[e0];exact⟨Nat.zero_le _,a,c,rfl,Nat.zero_le _,hc2,fun h=>absurd h (by simp)⟩
end
section
open Go.RowKit Go.Maps
attribute [local go_sem ↓] Go.wp_at_zero Go.wp_at_succ
theorem ZjS(ts:List T):∀u∈ts.flatMap T.cells,u.oneCell'=true:=by
 intro u hu;rw[List.mem_flatMap]at hu;obtain⟨t,_,ht⟩:=hu;simp[T.cells]at ht;rcases ht with rfl | rfl | rfl | rfl<;>rfl
theorem EB.nodup{w:World}:∀{d:Nat} {e:E} {a:Option Addr} {c:Nat} {bl:List Nat},EB w d e a c bl→bl.Nodup
 | 0,_,_,_,_,h=>h.elim
 | d+1,e,a,c,bl,h=>by
  obtain⟨h1,h2,h3,h4,h5⟩:=h;rcases h5 with ⟨_,h5⟩ | ⟨g,bls,ha,hg,hbl,hl,hnd,hf,hx⟩
  ·rw[h5];exact List.nodup_nil
  ·exact hnd
theorem ZjT(xs:List X):∀u∈xs.flatMap X.cells,u.oneCell'=true:=by
 intro u hu;rw[List.mem_flatMap]at hu;obtain⟨t,_,ht⟩:=hu;simp[X.cells]at ht;rcases ht with rfl | rfl | rfl | rfl | rfl | rfl<;>rfl
def ZhL(w:World)(g o:Nat)(x:X):World:=(((((w.setCell ⟨g,o,none⟩ (.int .i8 x.e.op)).setCell ⟨g,o+1,none⟩ (.string x.e.t.v)).setCell ⟨g,o+2,none⟩ (.int .i8 x.e.t.a.k)).setCell ⟨g,o+3,none⟩ (.int .i64 x.e.t.a.n)).setCell ⟨g,o+4,none⟩ (.string x.e.t.a.s)).setCell ⟨g,o+5,none⟩ (.slice x.a x.e.kids.length x.c)
theorem ZjU(w:World)(g o:Nat)(x:X):ZhL w g o x=w.setCells g o x.cells:=rfl
theorem ZcA(w:World)(g o:Nat)(x:X){b:Nat}(h:b≠g):(ZhL w g o x).heap[b]?=w.heap[b]?:=by
 unfold ZhL;rw[heap_setCell_other _ _ _ _ h,heap_setCell_other _ _ _ _ h,heap_setCell_other _ _ _ _ h,heap_setCell_other _ _ _ _ h,heap_setCell_other _ _ _ _ h,heap_setCell_other _ _ _ _ h]
theorem ZeA(w:World)(g o:Nat)(x:X):(ZhL w g o x).heap.size=w.heap.size:=by unfold ZhL;simp only[World.size_setCell]
theorem Zqo(u:X):∀(vs:List X) (j:Nat),j<vs.length→((((((vs.flatMap X.cells).set (j*6) (.int .i8 u.e.op)).set (j*6+1) (.string u.e.t.v)).set (j*6+2) (.int .i8 u.e.t.a.k)).set (j*6+3) (.int .i64 u.e.t.a.n)).set (j*6+4) (.string u.e.t.a.s)).set (j*6+5) (.slice u.a u.e.kids.length u.c)=(vs.set j u).flatMap X.cells
 | [],j,h=>absurd h (by simp)
 | t::r,0,h=>by simp[X.cells]
 | t::r,j+1,h=>by
  have e:∀i,(j+1)*6+i=j*6+i+6:=fun i=>by omega
  have e0:(j+1)*6=j*6+6:=by omega
  simp only[List.flatMap_cons,List.set_cons_succ,e,e0,X.cells,List.cons_append,List.nil_append];have:=Zqo u r j (by simpa using h);rw[←this]
theorem Zm0{w:World}{B g n cap:Nat}{xs:List X}{j:Nat}(u:X)(hj:j<xs.length)(h:w.ownsRow B 103 6 (.slice (some ⟨g,0,none⟩) n cap) n (xs.flatMap X.cells)):(ZhL w g (j*6) u).ownsRow B 103 6 (.slice (some ⟨g,0,none⟩) n cap) n ((xs.set j u).flatMap X.cells):=by
 have hl:=ZdC xs;rw[←Zqo u xs j hj];have o1:=(h.stored (j*6) (.int .i8 u.e.op)).1;have o2:=(o1.stored (j*6+1) (.string u.e.t.v)).1;have o3:=(o2.stored (j*6+2) (.int .i8 u.e.t.a.k)).1;have o4:=(o3.stored (j*6+3) (.int .i64 u.e.t.a.n)).1;have o5:=(o4.stored (j*6+4) (.string u.e.t.a.s)).1;exact(o5.stored (j*6+5) (.slice u.a u.e.kids.length u.c)).1
theorem Zk5{l:List X}{i k:Nat}{x:X}(hk:k<l.length):atX (l.set k x) i=if i=k then x else atX l i:=by
 unfold atX;rw[List.getD_eq_getElem?_getD,List.getD_eq_getElem?_getD,List.getElem?_set]
 by_cases e:k=i
 ·subst e;simp[hk]
 ·rw[if_neg e,if_neg (fun q=>e q.symm)]
structure CeS (w:World) (R:List Value) (d:Nat) (ks:List E) (g c:Nat) (bls:List (List Nat)) (xs:List X) (k:Nat) (wr:World):Prop where
 bel:Below w.heap.size w wr
 bz:w.heap.size+2≤wr.heap.size
 r0:RL wr w.heap.size 103 (R++[.slice (some ⟨g,0,none⟩) ks.length c])
 r1:RL wr (w.heap.size+1) 103 [.int .i8 0,.string ⟨#[]⟩,.int .i8 0,.int .i64 0,.string ⟨#[]⟩,.slice none 0 0]
 own:wr.ownsRow (w.heap.size+2) 103 6 (.slice (some ⟨g,0,none⟩) ks.length c) ks.length (xs.flatMap X.cells)
 es:xs.map X.e=ks
 bl:bls.length=k
 lo:∀b∈bls.flatten,w.heap.size+2≤b
 nd:(g::bls.flatten).Nodup
 done:∀i,i<ks.length→i<k→EB wr d (atX xs i).e (atX xs i).a (atX xs i).c (bls.getD i [])
 rest:∀i,i<ks.length→k≤i→EIs w d (atX xs i).e (atX xs i).a (atX xs i).c
theorem CeS.step{w:World}{R:List Value}{d:Nat}{ks:List E}{g c:Nat}{bls:List (List Nat)}{xs:List X}{k:Nat}{wr w2:World}(h:CeS w R d ks g c bls xs k wr)(hk:k<ks.length)(b2:Below wr.heap.size wr w2){a':Option Addr}{c':Nat}{bl':List Nat}(hE:EB w2 d (atX xs k).e a' c' bl')(hlo:∀b∈bl',wr.heap.size≤b) :
  CeS w R d ks g c (bls++[bl']) (xs.set k ⟨(atX xs k).e,a',c'⟩) (k+1) (ZhL w2 g (k*6) ⟨(atX xs k).e,a',c'⟩):=by
 have hxl:xs.length=ks.length:=by rw[←h.es,List.length_map]
 have hgl:=h.own.lt g rfl;have hfl:(bls++[bl']).flatten=bls.flatten++bl':=by simp
 have hbs:=h.bl
 have hdl:∀b∈bls.flatten,b<wr.heap.size:=fun b hb=>by
  obtain⟨l,hl1,hl2⟩:=List.mem_flatten.1 hb;obtain⟨i,hi,rfl⟩:=List.mem_iff_getElem.1 hl1;exact(h.done i (by omega) (by omega)).lt b (by rw[List.getD_eq_getElem?_getD,List.getElem?_eq_getElem hi];exact hl2)
 have hgn:=List.nodup_cons.1 h.nd;have ob:=h.bz;refine⟨?_,by rw[ZeA];have:=b2.size;omega,?_,?_,Zm0 _ (by omega) (Zn h.own b2),?_,by simp[hbs],?_,?_,fun i hi hik=>?_,fun i hi hik=>?_⟩
 ·rw[ZjU];exact Zy (by omega) _ _ _ (h.bel.trans (b2.mono h.bel.size))
 ·exact World.rowIs.of_block (h.r0.below b2) (ZcA _ _ _ _ (by omega))
 ·exact World.rowIs.of_block (h.r1.below b2) (ZcA _ _ _ _ (by omega))
 ·rw[List.map_set,h.es]
  have:(atX xs k).e=ks[k]:=by
   have e1:(xs.map X.e)[k]?=ks[k]?:=by rw[h.es]
   rw[List.getElem?_map,List.getElem?_eq_getElem (by omega),List.getElem?_eq_getElem hk]at e1;rw[ZeW (by omega)];exact Option.some.inj e1
  show ks.set k (atX xs k).e=ks;rw[this];exact List.set_getElem_self hk
 ·intro b hb;rw[hfl]at hb;rcases List.mem_append.1 hb with hb | hb
  ·exact h.lo b hb
  ·have:=hlo b hb;omega
 ·rw[hfl,List.nodup_cons,List.nodup_append];refine⟨fun q=>?_,hgn.2,hE.nodup,fun x hx y hy e=>?_⟩
  ·rcases List.mem_append.1 q with q | q
   ·exact hgn.1 q
   ·have:=hlo g q;omega
  ·subst e;have:=hlo _ hy;have:=hdl _ hx;omega
 ·rw[Zk5 (by omega)]
  by_cases e:i=k
  ·subst e;rw[if_pos rfl];have e2:(bls++[bl']).getD i []=bl':=by rw[List.getD_eq_getElem?_getD,List.getElem?_append_right (by omega),hbs];simp
   rw[e2];exact hE.keep (by rw[ZeA];exact Nat.le_refl _) (fun b hb=>ZcA _ _ _ _ (by have:=hlo b hb;omega))
  ·rw[if_neg e];have e2:(bls++[bl']).getD i []=bls.getD i []:=by rw[List.getD_eq_getElem?_getD,List.getD_eq_getElem?_getD,List.getElem?_append_left (by omega)]
   rw[e2];have hd:=h.done i hi (by omega);refine hd.keep (by rw[ZeA];exact b2.size) (fun b hb=>?_);have hbf:=ZaK (bls:=bls) (i:=i) (by omega) hb;rw[ZcA _ _ _ _ (fun q=>hgn.1 (by rw[←q];exact hbf))];exact b2.block b (hd.lt b hb)
 ·rw[Zk5 (by omega),if_neg (by omega)];exact h.rest i hi (by omega)
theorem CeS.eb{w:World}{R:List Value}{d:Nat}{e:E}{g c:Nat}{bls:List (List Nat)}{xs:List X}{wr:World}(h:CeS w R d e.kids g c bls xs e.kids.length wr)(hop : -128≤e.op∧e.op≤127)(hkl:e.kids.length≤281474976710656)(ht:e.t.wf):EB wr (d+1) e (some ⟨g,0,none⟩) c (g::bls.flatten):=by
 obtain⟨a1,c1,e1,hc1,hc2,hx⟩:=Zbx h.own;simp only[Value.slice.injEq,true_and]at e1;obtain⟨rfl,rfl⟩:=e1;have hxl:xs.length=e.kids.length:=by rw[←h.es,List.length_map]
 rcases hx with ⟨_,hx⟩ | ⟨g',hg',hB,hgl,hf,hx⟩
 ·cases hx
 ·cases hg'
  refine⟨⟨hop,hkl⟩,ht,hc1,hc2,.inr ⟨g,bls,rfl,hgl,rfl,h.bl,h.nd,hf,fun i hi=>?_⟩⟩
  have he:(atX xs i).e=atE e.kids i:=by
   have e1:(xs.map X.e)[i]?=e.kids[i]?:=by rw[h.es]
   rw[List.getElem?_map,List.getElem?_eq_getElem (by omega),List.getElem?_eq_getElem hi]at e1;rw[ZeW (by omega),ZbO hi];exact Option.some.inj e1
  have hcl:∀j v,j<6→(X.cells (atX xs i))[j]?=some v→wr.cell? ⟨g,i*6+j,none⟩=some v:=fun j v hj hv=>hx _ _ (by rw[ZaQ X.cells 6 (fun _=>rfl) X0 xs i j (by omega) hj];exact hv)
  refine⟨(atX xs i).a,(atX xs i).c,?_,?_⟩
  ·rw[←he];exact⟨hcl 0 _ (by omega) rfl,hcl 1 _ (by omega) rfl,hcl 2 _ (by omega) rfl,hcl 3 _ (by omega) rfl,hcl 4 _ (by omega) rfl,hcl 5 _ (by omega) rfl⟩
  ·rw[←he];exact h.done i hi hi
def ZjV(wr:World)(b:Nat)(e:E)(a1:Option Addr)(c1:Nat):World:=(((((wr.setCell ⟨b,0,none⟩ (.int .i8 e.op)).setCell ⟨b,1,none⟩ (.string e.t.v)).setCell ⟨b,2,none⟩ (.int .i8 e.t.a.k)).setCell ⟨b,3,none⟩ (.int .i64 e.t.a.n)).setCell ⟨b,4,none⟩ (.string e.t.a.s)).setCell ⟨b,5,none⟩ (.slice a1 e.kids.length c1)
theorem Zm1{w wr:World}{d:Nat}{e:E}{a1:Option Addr}{c1:Nat}{bl:List Nat}(bel:Below w.heap.size w wr)(r1:RL wr (w.heap.size+1) 103 [.int .i8 0,.string ⟨#[]⟩,.int .i8 0,.int .i64 0,.string ⟨#[]⟩,.slice none 0 0])(hE:EB wr (d+1) e a1 c1 bl)(hlo:∀b∈bl,w.heap.size+2≤b) :
  RL (ZjV wr (w.heap.size+1) e a1 c1) (w.heap.size+1) 103 [.int .i8 e.op,.string e.t.v,.int .i8 e.t.a.k,.int .i64 e.t.a.n,.string e.t.a.s,.slice a1 e.kids.length c1]∧Below w.heap.size w (ZjV wr (w.heap.size+1) e a1 c1)∧EB (ZjV wr (w.heap.size+1) e a1 c1) (d+1) e a1 c1 bl:=by
 refine⟨(((((r1.set 0 _).set 1 _).set 2 _).set 3 _).set 4 _).set 5 _,?_,?_⟩
 ·exact(((((bel.setCell (p:=⟨w.heap.size+1,0,none⟩) (by show _≤w.heap.size+1;omega) _).setCell (p:=⟨w.heap.size+1,1,none⟩) (by show _≤w.heap.size+1;omega) _).setCell (p:=⟨w.heap.size+1,2,none⟩) (by show _≤w.heap.size+1;omega) _).setCell (p:=⟨w.heap.size+1,3,none⟩) (by show _≤w.heap.size+1;omega) _).setCell (p:=⟨w.heap.size+1,4,none⟩) (by show _≤w.heap.size+1;omega) _).setCell (p:=⟨w.heap.size+1,5,none⟩) (by show _≤w.heap.size+1;omega) _
 ·refine hE.keep (by unfold ZjV;simp only[World.size_setCell];exact Nat.le_refl _) (fun b hb=>?_);have hn:b≠w.heap.size+1:=by have:=hlo b hb;omega
  unfold ZjV;rw[heap_setCell_other _ _ _ _ hn,heap_setCell_other _ _ _ _ hn,heap_setCell_other _ _ _ _ hn,heap_setCell_other _ _ _ _ hn,heap_setCell_other _ _ _ _ hn,heap_setCell_other _ _ _ _ hn]
theorem ZgR:∀(d:Nat) (e:E) (a:Option Addr) (c:Nat) (w:World),EIs w d e a c→ZZ d e →
  Calls Tryz.prog 240 #[e.val a c] w fun q w'=>∃a' c' bl,q=.returned (e.val a' c')∧Below w.heap.size w w'∧EB w' d e a' c' bl∧(∀b∈bl,w.heap.size≤b):=by
 intro d
 induction d with
 | zero=>intro e a c w hE;exact absurd hE (fun h=>h)
 | succ d ih=>
 intro e a c w hE hsm;obtain⟨xs,hxe,hLx⟩:=ZoB hE;have hxl:xs.length=e.kids.length:=by rw[←hxe,List.length_map]
 obtain⟨⟨hop,hkl⟩,htw,hc1,hc2,hk⟩:=hE;have hk2:e.kids.length≤1048576:=hsm.1;have HSM:Hid (∀i,i<e.kids.length→ZZ d (atE e.kids i)):=hsm.2;have HIH:=Lib.hid ih;have HLX:=Lib.hid hLx;have HXE:=Lib.hid hxe;have HTW:=Lib.hid htw;have HOP:=Lib.hid hop;have hA1:=Zp (w:=w) (.cells #[.int .i8 e.op,.string e.t.v,.int .i8 e.t.a.k,.int .i64 e.t.a.n,.string e.t.a.s,.slice a e.kids.length c] 103);have hA2:=Zp (w:=w.alloc (.cells #[.int .i8 e.op,.string e.t.v,.int .i8 e.t.a.k,.int .i64 e.t.a.n,.string e.t.a.s,.slice a e.kids.length c] 103)) (.cells #[.int .i8 0,.string ⟨#[]⟩,.int .i8 0,.int .i64 0,.string ⟨#[]⟩,.slice none 0 0] 103)
 have HB0:=Lib.hid (hA1.trans (hA2.mono hA1.size));have HR0:=Lib.hid ((Zk w #[.int .i8 e.op,.string e.t.v,.int .i8 e.t.a.k,.int .i64 e.t.a.n,.string e.t.a.s,.slice a e.kids.length c] 103).below hA2);have hR1:=Zk (w.alloc (.cells #[.int .i8 e.op,.string e.t.v,.int .i8 e.t.a.k,.int .i64 e.t.a.n,.string e.t.a.s,.slice a e.kids.length c] 103)) #[.int .i8 0,.string ⟨#[]⟩,.int .i8 0,.int .i64 0,.string ⟨#[]⟩,.slice none 0 0] 103
 rw[World.size_alloc]at hR1;have HR1:=Lib.hid hR1;have HSZ:Hid (((w.alloc (.cells #[.int .i8 e.op,.string e.t.v,.int .i8 e.t.a.k,.int .i64 e.t.a.n,.string e.t.a.s,.slice a e.kids.length c] 103)).alloc (.cells #[.int .i8 0,.string ⟨#[]⟩,.int .i8 0,.int .i64 0,.string ⟨#[]⟩,.slice none 0 0] 103)).heap.size=w.heap.size+2):=by show _=_;simp
 clear hA1 hA2 hR1 hk ih hop htw hLx hsm hxe;unfold E.val;go_enter Tryz.func240,Tryz.ntmps240;go_upto_region 1 with fail
 generalize (w.alloc (.cells #[.int .i8 e.op,.string e.t.v,.int .i8 e.t.a.k,.int .i64 e.t.a.n,.string e.t.a.s,.slice a e.kids.length c] 103)).alloc (.cells #[.int .i8 0,.string ⟨#[]⟩,.int .i8 0,.int .i64 0,.string ⟨#[]⟩,.slice none 0 0] 103)=W at HB0 HR0 HR1 HSZ⊢;have y5:=HR0.out.at (j:=5) rfl;have hlies:=(HLX.out.below HB0.out).lies;rw[hxl]at hlies;have HCL:=Lib.hid (ZlM _ e.kids.length (xs.flatMap X.cells) W hlies (by rw[ZdC,hxl]) (ZjT xs) hk2)
 clear hlies;go_wp2_with fail;refine HCL.out.mono ?_;rintro q w1 ⟨sv,rfl,ho,b1⟩;rw[HSZ.out]at ho;have k0:=HR0.out.below b1;have k1:=HR1.out.below b1;have f5:=World.rowIs.frozen k0 5;have z5:=k0.at (j:=5) rfl;have hz1:w.heap.size+2≤w1.heap.size:=by rw[←HSZ.out];exact b1.size
 have HB1:=Lib.hid (HB0.out.trans (b1.mono HB0.out.size));obtain⟨a1,c1,rfl,hn1,hn2,hcase⟩:=Zbx ho;have HK0:=Lib.hid (k0.set 5 (.slice a1 e.kids.length c1));have HK1:=Lib.hid (k1.other (i:=5) (show w.heap.size+1≠w.heap.size by omega) (.slice a1 e.kids.length c1));have HB2:Hid (Below w.heap.size w (w1.setCell ⟨w.heap.size,5,none⟩ (.slice a1 e.kids.length c1))):=HB1.out.setCell (p:=⟨w.heap.size,5,none⟩) (Nat.le_refl _) _
 have HZ2:Hid (w.heap.size+2≤(w1.setCell ⟨w.heap.size,5,none⟩ (.slice a1 e.kids.length c1)).heap.size):=by show _≤_;rw[World.size_setCell];exact hz1
 have HO2:Hid ((w1.setCell ⟨w.heap.size,5,none⟩ (.slice a1 e.kids.length c1)).ownsRow (w.heap.size+2) 103 6 (.slice a1 e.kids.length c1) e.kids.length (xs.flatMap X.cells)):=Zx ho (fun g hg=>by
  have:=(ho.lt g hg).1;rw[heap_setCell_other _ _ _ _ (by show g≠w.heap.size;omega)])
 clear HB1 ho HCL k0 k1 y5 hz1 b1 HR0 HR1 HB0 HSZ;go_upto_region 2 with fail
 generalize w1.setCell ⟨w.heap.size,5,none⟩ (.slice a1 e.kids.length c1)=W2 at HK0 HK1 HB2 HZ2 HO2⊢;clear z5 f5
 by_cases h0:e.kids.length=0
 ·have HEB:Hid (∀u,EB u (d+1) e a1 c1 []):=fun u=>⟨⟨HOP.out,hkl⟩,HTW.out,hn1,hn2,.inl ⟨List.length_eq_zero_iff.1 h0,rfl⟩⟩
  have x5:=HK0.out.at (j:=5) rfl;have HX5:=Lib.hid x5;have HH0:=Lib.hid h0;go_wp2;clear x5 h0;go_loopw [11] (fun i wr=>i=.int .i64 0∧wr=W2) (fun i _=>0)
  case atStart=>exact⟨rfl,rfl⟩
  case round=>
   obtain⟨rfl,rfl⟩:=hrel;have g0:=HK0.out.at (j:=0) rfl;have g1:=HK0.out.at (j:=1) rfl;have g2:=HK0.out.at (j:=2) rfl;have g3:=HK0.out.at (j:=3) rfl;have g4:=HK0.out.at (j:=4) rfl;have g5:=HK0.out.at (j:=5) rfl;have o0:=HK1.out.at (j:=0) rfl;have o1:=HK1.out.at (j:=1) rfl;have o2:=HK1.out.at (j:=2) rfl;have o3:=HK1.out.at (j:=3) rfl;have o4:=HK1.out.at (j:=4) rfl;have o5:=HK1.out.at (j:=5) rfl;have f0:=World.rowIs.frozen HK1.out 0
   have f1:=World.rowIs.frozen HK1.out 1;have f2:=World.rowIs.frozen HK1.out 2;have f3:=World.rowIs.frozen HK1.out 3;have f4:=World.rowIs.frozen HK1.out 4;have f5:=World.rowIs.frozen HK1.out 5;have HD:=Lib.hid (Zm1 HB2.out HK1.out (HEB.out _) (fun b hb=>by cases hb));unfold ZjV at HD;have h0:=HH0.out;clear HK0 HK1 HB2 HZ2 HO2 HX5 HLX HXE HIH HSM hcase;rw[HH0.out]at HD;go_wp2;refine bodyPost_ret (ZO Tryz.results240 (v:=.agg #[.int .i8 e.op,.string e.t.v,.int .i8 e.t.a.k,.int .i64 e.t.a.n,.string e.t.a.s,.slice a1 0 c1]) rfl (run_loadVar_mid _ _ 0 103 [.int .i8 e.op,.string e.t.v,.int .i8 e.t.a.k,.int .i64 e.t.a.n,.string e.t.a.s,.slice a1 0 c1] _ HD.out.1.range Tryz.underlying103 rfl (by kernel_rfl))) rfl ?_
   exact⟨a1,c1,[],by rw[HH0.out],HD.out.2.1,HD.out.2.2,fun b hb=>by cases hb⟩
 ·obtain⟨g,rfl,hB,hgl,hfz,hcx⟩:∃g,a1=some ⟨g,0,none⟩∧w.heap.size+2≤g∧True∧True∧True:=by
   rcases hcase with ⟨q,_⟩ | ⟨g,q,hB,_⟩
   ·exact absurd q h0
   ·exact⟨g,q,hB,trivial,trivial,trivial⟩
  have HS0:Hid (CeS w [.int .i8 e.op,.string e.t.v,.int .i8 e.t.a.k,.int .i64 e.t.a.n,.string e.t.a.s] d e.kids g c1 [] xs 0 W2):=⟨HB2.out,HZ2.out,HK0.out,HK1.out,HO2.out,HXE.out,rfl,fun b hb=>(by cases hb),by simp,fun i _ h=>absurd h (by omega),fun i hi _=>HLX.out.each _ (by rw[ZeW (by omega)];exact List.getElem_mem _)⟩;have x5:=HK0.out.at (j:=5) rfl;clear HK0 HK1 HB2 HZ2 HO2 hcase HLX HXE;go_wp2
  clear x5;go_loopw [11] (fun i wr=>∃(k:Nat) (bls:List (List Nat)) (xs:List X),k≤e.kids.length∧i=.int .i64 k∧Hid (CeS w [.int .i8 e.op,.string e.t.v,.int .i8 e.t.a.k,.int .i64 e.t.a.n,.string e.t.a.s] d e.kids g c1 bls xs k wr)) (fun i _=>e.kids.length-(intOf i).toNat)
  case atStart=>exact⟨0,[],xs,Nat.zero_le _,rfl,HS0⟩
  case round=>
   clear HS0;obtain⟨k,bls,zs,hk,rfl,HS⟩:=hrel;have m5:=HS.out.r0.at (j:=5) rfl
   by_cases hlt:k<e.kids.length
   ·have hlt':(k:Int)<(e.kids.length:Int):=by omega
    have hk0:(0:Int)≤(k:Int):=by omega
    have hzl:zs.length=e.kids.length:=by rw[←HS.out.es,List.length_map]
    have he:(atX zs k).e=atE e.kids k:=by
     have e1:(zs.map X.e)[k]?=e.kids[k]?:=by rw[HS.out.es]
     rw[List.getElem?_map,List.getElem?_eq_getElem (by omega),List.getElem?_eq_getElem hlt]at e1;rw[ZeW (by omega),ZbO hlt];exact Option.some.inj e1
    have hck:∀(u:World),Below wr.heap.size wr u→∀j v,j<6→(X.cells (atX zs k))[j]?=some v→u.cell? ⟨g,k*6+j,none⟩=some v∧u.frozen? ⟨g,k*6+j,none⟩=false:=fun u hu j v hj hv=>by
     have hz:k*6+j<e.kids.length*6:=by omega
     have ho:=Zn HS.out.own hu;refine⟨?_,ho.frozenAt _⟩;rw[ho.cellAt _ hz,ZaQ X.cells 6 (fun _=>rfl) X0 zs k j (by omega) hj];exact hv
    have HCK:=Lib.hid hck;have HST:Hid (∀w2,Below wr.heap.size wr w2→∀a' c' bl',EB w2 d (atX zs k).e a' c' bl'→(∀b∈bl',wr.heap.size≤b)→CeS w [.int .i8 e.op,.string e.t.v,.int .i8 e.t.a.k,.int .i64 e.t.a.n,.string e.t.a.s] d e.kids g c1 (bls++[bl']) (zs.set k ⟨(atX zs k).e,a',c'⟩) (k+1) (ZhL w2 g (k*6) ⟨(atX zs k).e,a',c'⟩)):=fun w2 b2 a' c' bl' hE hlo=>HS.out.step hlt b2 hE hlo
    have HI:Hid (∀u,Below w.heap.size w u→Calls Tryz.prog 240 #[(atX zs k).e.val (atX zs k).a (atX zs k).c] u fun q w'=>∃a' c' bl,q=.returned ((atX zs k).e.val a' c')∧Below u.heap.size u w'∧EB w' d (atX zs k).e a' c' bl∧(∀b∈bl,u.heap.size≤b)):=fun u hu=>HIH.out _ _ _ u ((HS.out.rest k hlt (Nat.le_refl _)).below hu) (by rw[he];exact HSM.out k hlt)
    have HBW:=Lib.hid HS.out.bel;have HR0:=Lib.hid HS.out.r0;unfold E.val at HI;clear he hck HS;generalize atX zs k=x at HCK HST HI;have y0:=(HCK.out wr (Below.refl _ _) 0 _ (by omega) rfl).1;have y1:=(HCK.out wr (Below.refl _ _) 1 _ (by omega) rfl).1;have y2:=(HCK.out wr (Below.refl _ _) 2 _ (by omega) rfl).1;have y3:=(HCK.out wr (Below.refl _ _) 3 _ (by omega) rfl).1;have y4:=(HCK.out wr (Below.refl _ _) 4 _ (by omega) rfl).1
    have y5:=(HCK.out wr (Below.refl _ _) 5 _ (by omega) rfl).1;rw[Nat.add_zero]at y0;go_wp2_with fail
    go_region_law (
     refine ZeC rfl 240 Tryz.func240 (by kernel_rfl) (by kernel_rfl) #[.tmp 21] _ rfl #[.agg #[.int .i8 x.e.op,.string x.e.t.v,.int .i8 x.e.t.a.k,.int .i64 x.e.t.a.n,.string x.e.t.a.s,.slice x.a x.e.kids.length x.c]] (by simp[Act.eval,Act.put]) (HI.out wr.drew HBW.out.drew) ?_;rintro ee w2 ⟨a4,c4,bl4,rfl,b2,hE4,hlo4⟩;refine⟨_,rfl,?_⟩;have B2:Below wr.heap.size wr w2:=(Below.refl wr.heap.size wr).drew.trans b2
     have n5:=(HR0.out.below B2).at (j:=5) rfl;obtain⟨p0,f0⟩:=HCK.out w2 B2 0 _ (by omega) rfl;obtain⟨p1,f1⟩:=HCK.out w2 B2 1 _ (by omega) rfl;obtain⟨p2,f2⟩:=HCK.out w2 B2 2 _ (by omega) rfl;obtain⟨p3,f3⟩:=HCK.out w2 B2 3 _ (by omega) rfl;obtain⟨p4,f4⟩:=HCK.out w2 B2 4 _ (by omega) rfl;obtain⟨p5,f5⟩:=HCK.out w2 B2 5 _ (by omega) rfl;rw[Nat.add_zero]at p0 f0;have HN:=Lib.hid (HST.out w2 B2 a4 c4 bl4 hE4 hlo4)
     unfold ZhL at HN;clear B2 b2 hE4 hlo4)
    all_goals
     go_wp2;go_roundw
     case rel=>exact⟨k+1,_,_,by omega,by go_num,HN⟩
     case measure=>simp[intOf];omega
   ·obtain rfl:k=e.kids.length:=by omega
    have g0:=HS.out.r0.at (j:=0) rfl;have g1:=HS.out.r0.at (j:=1) rfl;have g2:=HS.out.r0.at (j:=2) rfl;have g3:=HS.out.r0.at (j:=3) rfl;have g4:=HS.out.r0.at (j:=4) rfl;have g5:=HS.out.r0.at (j:=5) rfl;have o0:=HS.out.r1.at (j:=0) rfl;have o1:=HS.out.r1.at (j:=1) rfl;have o2:=HS.out.r1.at (j:=2) rfl;have o3:=HS.out.r1.at (j:=3) rfl;have o4:=HS.out.r1.at (j:=4) rfl;have o5:=HS.out.r1.at (j:=5) rfl;have f0:=World.rowIs.frozen HS.out.r1 0
    have f1:=World.rowIs.frozen HS.out.r1 1;have f2:=World.rowIs.frozen HS.out.r1 2;have f3:=World.rowIs.frozen HS.out.r1 3;have f4:=World.rowIs.frozen HS.out.r1 4;have f5:=World.rowIs.frozen HS.out.r1 5
    have HLO:Hid (∀b∈g::bls.flatten,w.heap.size+2≤b):=fun b hb=>by
     rcases List.mem_cons.1 hb with rfl | hb
     ·exact hB
     ·exact HS.out.lo b hb
    have HD:=Lib.hid (Zm1 HS.out.bel HS.out.r1 (HS.out.eb HOP.out hkl HTW.out) HLO.out);unfold ZjV at HD;clear HS HIH HSM;go_wp2;refine bodyPost_ret (ZO Tryz.results240 (v:=.agg #[.int .i8 e.op,.string e.t.v,.int .i8 e.t.a.k,.int .i64 e.t.a.n,.string e.t.a.s,.slice (some ⟨g,0,none⟩) e.kids.length c1]) rfl (run_loadVar_mid _ _ 0 103 [.int .i8 e.op,.string e.t.v,.int .i8 e.t.a.k,.int .i64 e.t.a.n,.string e.t.a.s,.slice (some ⟨g,0,none⟩) e.kids.length c1] _ HD.out.1.range Tryz.underlying103 rfl (by kernel_rfl))) rfl ?_
    exact⟨_,c1,_,rfl,HD.out.2.1,HD.out.2.2,fun b hb=>by have:=HLO.out b hb;omega⟩
end
end Go.Proofs.YtjdnpgpbeppgjaaGreatDoor
