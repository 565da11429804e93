import Derived.Test.YtjdnpgpbeppgjaaGreatDoorA18
import Derived.Shelf.Spec.TrailingZeros
import Derived.RangeFuncNested
import Derived.RangeFuncBound
import Derived.RangeFuncCalls
import Derived.RangeFuncLeaves
import Derived.Shelf.Abstract
import Derived.WalkKit
import Derived.OwnWalkIn
import Derived.TacticsInMore
import Derived.LoopNIn
import Derived.LoopIn
import Derived.Lib.Hide
import Derived.Shelf.RegionOpen
set_option linter.unusedSimpArgs false
set_option linter.unusedVariables false
set_option maxHeartbeats 6400000
set_option maxRecDepth 100000
namespace Go.Proofs.YtjdnpgpbeppgjaaGreatDoor
section
open Go.RowKit Go.Maps Go.ChangeMaps
attribute [local go_sem ↓] Go.wp_at_zero Go.wp_at_succ
attribute [-go_sem] loadVar
def Zf0:Option (List ByteArray × Nat)→Bool
 | some (_,left)=>decide (left=0)
 | none=>false
structure BdR (d:Nat) (l:List XL):Prop where
 bn:l.length≤16
 bc:∀i,i<l.length→(atL l i).x.ts.length≤24
 bl:∀i,i<l.length→szD d (atL l i).x.l≤1048576
 br:∀i,i<l.length→szD d (atL l i).x.r≤1048576
theorem Zmm{x:Lit4}(h:ZQ x=true):x.ts.length≤24:=by
 unfold ZQ at h
 split at h
 ·simp only[Bool.and_eq_true]at h;have h1:=h.1;unfold ZaD at h1;simp only[Bool.and_eq_true,decide_eq_true_eq]at h1;omega
 ·split at h
  ·simp only[Bool.and_eq_true,decide_eq_true_eq]at h;omega
  ·cases h
theorem Zie{d:Nat}{r:R3}(h:ruleB d r=true)(hT:(Zi d r).length≤1048576):BdR d r.bd:=by
 have hl:∀i,i<r.bd.length→(Zl d (atL r.bd i).x).length≤1048576:=fun i hi=>by
  have h1:=Zdw (fun y=>Zl d y.x) r.bd (atL r.bd i) (by rw[ZS hi];exact List.getElem_mem hi);unfold Zi at hT;rw[List.length_append]at hT;exact Nat.le_trans h1 (by omega)
 unfold ruleB at h;simp only[Bool.and_eq_true,decide_eq_true_eq,List.all_eq_true]at h;refine⟨h.2.2.1,fun i hi=>?_,fun i hi=>?_,fun i hi=>?_⟩
 ·rw[ZS hi];exact Zmm (h.2.2.2.2.1 _ (List.getElem_mem hi))
 ·have h1:=hl i hi;unfold Zl at h1;rw[List.length_append,List.length_append]at h1;unfold szD;omega
 ·have h1:=hl i hi;unfold Zl at h1;rw[List.length_append,List.length_append]at h1;unfold szD;omega
theorem Zbp{u:World}{g o:Nat}{cs:List Value}(h:u.rangeAt g o cs)(hl:cs.length=3):(loadVar 25 ⟨g,o,none⟩).run Tryz.prog u=.ok (.agg cs.toArray) u:=
 run_loadVar_mid u g o 25 cs _ h Tryz.underlying25 rfl (by rw[hl];kernel_rfl)
theorem Zbq{u:World}{g o:Nat}{cs:List Value}(h:u.rangeAt g o cs)(hl:cs.length=4):(loadVar 84 ⟨g,o,none⟩).run Tryz.prog u=.ok (.agg cs.toArray) u:=
 run_loadVar_mid u g o 84 cs _ h Tryz.underlying84 rfl (by rw[hl];kernel_rfl)
theorem ZaO{u:World}{a:Addr}{v:Value}(h:u.cell? a=some v):(loadVar 30 a).run Tryz.prog u=.ok v u:=by rw[loadVar.eq_1];go_simp
theorem ZpL(d:Nat)(ss:List ByteArray)(x:Lit4)(k:Nat):(stM d ss x k).i=(k:Int):=by
 unfold stM
 split
 ·rfl
 ·split<;>rfl
theorem ZnH{l:List ByteArray}(h:∀x∈l,x.size≤maxLen):∀i,i<l.length→(atS l i).size≤maxLen:=by
 intro i hi;unfold atS;rw[List.getD,List.getElem?_eq_getElem hi];exact h _ (List.getElem_mem hi)
theorem Zdx(d:Nat)(r:R3)(p:RP)(xs:List SX)(w:World)(hKT:KT w)(hR:RIs w (d+1) r p)(hs:Zaj (d+1) r)(hT:(Zi (d+1) r).length≤1048576){sa:Option Addr}{sc:Nat}(hX:Lz w (.slice sa xs.length sc) xs){v:Value}{l:List ByteArray}(hl:Ls w v l.length (l.flatMap Zm))(hsz:∀i,i<l.length→(atS l i).size≤maxLen) :
  Calls Tryz.prog 19 #[.agg #[.string r.pr,.slice p.a r.hd.length p.c,.slice p.ba r.bd.length p.bc,.slice sa xs.length sc],v] w fun e w'=>Below w.heap.size w w' ∧
   ((e=.returned (.bool false)∧(ruleB (d+1) r=false∨knB l l.length=false∨∃fs,ZbI (d+1) l r fs∧fs.length≠(vsT [] (Zi (d+1) r)).length)) ∨
    (ruleB (d+1) r=true∧knB l l.length=true∧∃fs,ZbI (d+1) l r fs∧fs.length=(vsT [] (Zi (d+1) r)).length∧e=.returned (.bool (Zf0 (goR (d+1) r.bd l (2^r.bd.length-1) (xs.map SX.s)))))):=by
 have hA0:=Zp (w:=w) (.cells #[.string r.pr,.slice p.a r.hd.length p.c,.slice p.ba r.bd.length p.bc,.slice sa xs.length sc] 32);have HR:=Lib.hid (hR.below hA0);have HX:=Lib.hid (hX.below hA0);have HB0:=Lib.hid hA0;have HBD:Hid (ruleB (d+1) r=true→BdR (d+1) r.bd):=fun h=>Zie h hT
 have HRL:=Lib.hid (Zk w #[.string r.pr,.slice p.a r.hd.length p.c,.slice p.ba r.bd.length p.bc,.slice sa xs.length sc] 32)
 have hld:=Zbp (u:=w.alloc (.cells #[.string r.pr,.slice p.a r.hd.length p.c,.slice p.ba r.bd.length p.bc,.slice sa xs.length sc] 32)) (g:=w.heap.size) (o:=0) (cs:=[.string r.pr,.slice p.a r.hd.length p.c,.slice p.ba r.bd.length p.bc]) (fun j v hv=>by
   have hj:j<3:=(List.getElem?_eq_some_iff.1 hv).1;have hj6:j=0∨j=1∨j=2:=by omega
   have hr:=Zk w #[.string r.pr,.slice p.a r.hd.length p.c,.slice p.ba r.bd.length p.bc,.slice sa xs.length sc] 32;rcases hj6 with rfl | rfl | rfl<;>exact RL.at hr hv) rfl
 have HBG:=Lib.hid (Zg5 d r p _ (hKT.below hA0) (hR.below hA0) hs hT (hl.below hA0) hsz);unfold R3.val at HBG;clear hKT hR hs hT hX hl hsz hA0;go_enter Tryz.func19,Tryz.ntmps19;go_wp2_with fail;refine HBG.out.mono ?_;obtain⟨W,hW⟩:∃W,W=w.alloc (.cells #[.string r.pr,.slice p.a r.hd.length p.c,.slice p.ba r.bd.length p.bc,.slice sa xs.length sc] 32):=⟨_,rfl⟩;rw[←hW]at HR HX HB0 HRL⊢;clear hW hld HBG
 rintro e w1 ⟨b1,hcase⟩;rcases hcase with ⟨hr0,rfl⟩ | ⟨hr1,hk0,rfl⟩ | ⟨hr1,hk1,fs,hlk,⟨hne,rfl⟩ | ⟨heq,tb,kb,rfl,htu,htb,hkb⟩⟩
 ·have HF:=Lib.hid (And.intro hr0 (HB0.out.trans (b1.mono HB0.out.size)));clear hr0 b1 HBD;go_wp2;go_ret;exact⟨HF.out.2,.inl ⟨rfl,.inl HF.out.1⟩⟩
 ·have HF:=Lib.hid (And.intro hk0 (HB0.out.trans (b1.mono HB0.out.size)));clear hr1 hk0 b1 HBD;go_wp2;go_ret;exact⟨HF.out.2,.inl ⟨rfl,.inr (.inl HF.out.1)⟩⟩
 ·have HF:=Lib.hid (And.intro (⟨fs,hlk,hne⟩:∃fs,ZbI (d+1) l r fs∧fs.length≠(vsT [] (Zi (d+1) r)).length) (HB0.out.trans (b1.mono HB0.out.size)));clear hr1 hk1 hlk hne b1 HBD;go_wp2;go_ret;exact⟨HF.out.2,.inl ⟨rfl,.inr (.inr HF.out.1)⟩⟩
 ·have HY:=Lib.hid (And.intro hr1 (And.intro hk1 (⟨fs,hlk,heq⟩:∃fs,ZbI (d+1) l r fs∧fs.length=(vsT [] (Zi (d+1) r)).length)));have HD:=Lib.hid (HBD.out hr1);have HTU:=Lib.hid htu;have HB1:=Lib.hid b1;have HTB:=Lib.hid htb;have HKB:=Lib.hid hkb;have ls:=ZaO (RL.at (RL.below HRL.out b1) (j:=3) rfl);have hnb:=HD.out.bn;clear hr1 hk1 hlk heq htu b1 htb hkb HBD;obtain⟨n,hn⟩:∃n,n=r.bd.length:=⟨_,rfl⟩
  have HN:=Lib.hid hn;rw[←hn]at hnb HTU;have hp2:(2:Nat)^n≤65536:=Nat.le_trans (Nat.pow_le_pow_right (by omega) hnb) (by decide);have hp1:1≤(2:Nat)^n:=Nat.one_le_two_pow;have HPW:Hid ((2:Nat)^n≤65536):=hp2;have HP0:Hid (2^n-1<(2:Nat)^n):=by show _<_;omega
  clear hp1 hp2 hn;obtain⟨a',c',hac,hc1,hc2,hat⟩:=HX.out.form
  injection hac with e1 e2 e3
  subst e1 e3;have HAT:=Lib.hid hat;unfold maxLen at hc2;clear hat e2
  have HLB:Hid (∀u,Below W.heap.size W u→Lb u (.slice p.ba n p.bc) (d+1) r.bd):=fun u hu=>by
   rw[HN.out];exact HR.out.bd.below hu
  have HGO:Hid (goR (d+1) r.bd l (2^n-1) ((xs.take 0).map SX.s)=some (l,2^n-1)):=rfl;go_wp2;go_loopw [8,9,10,23] (fun _ _ _ i wr=>∃(j left:Nat) (ss:List ByteArray),j≤xs.length∧i=.int .i64 j∧Hid (goR (d+1) r.bd l (2^n-1) ((xs.take j).map SX.s)=some (ss,left))∧Hid (left<2^n)∧Hid (ZbN wr tb kb (.slice p.ba n p.bc) ss left)∧Hid (Below W.heap.size W wr)) (fun _ _ _ i _=>xs.length-(intOf i).toNat)
  case atStart=>exact⟨0,2^n-1,l,Nat.zero_le _,rfl,HGO,HP0,HTU,HB1.out⟩
  case round=>
   obtain⟨j,left,ss,hj,rfl,HG,HLT,HT,HB⟩:=hrel
   by_cases hlt:j<xs.length
   ·have hlt':(j:Int)<(xs.length:Int):=by omega
    have hj0:(0:Int)≤(j:Int):=by omega
    obtain⟨g,off,rfl,hg,hr⟩:=HAT.out (by omega);have lst:=Zbq (Zu (hr j hlt) HB.out hg) rfl;have HLX:=Lib.hid ((HX.out.at_is hlt).below HB.out);have HGF:Hid (okW (d+1) r.bd ss left (atZ xs j).s=false→goR (d+1) r.bd l (2^n-1) (xs.map SX.s)=none):=fun h=>Zbi hlt HG.out h
    have HGG:Hid (okW (d+1) r.bd ss left (atZ xs j).s=true→goR (d+1) r.bd l (2^n-1) ((xs.take (j+1)).map SX.s)=some (ss++(stL (d+1) ss r.bd (atZ xs j).s.i.toNat).g,Z9 left (atZ xs j).s.i.toNat)):=fun h=>Zi9 hlt HG.out h
    clear HG hr hg HGO;generalize atZ xs j=y at lst HLX HGF HGG;obtain⟨⟨sk,si,sm,sg⟩,ya,yc⟩:=y;unfold SX.cells at lst;simp only at lst HLX HGF HGG;have HBL:Hid (Below wr.heap.size wr (wr.alloc (.cells #[.int .i8 sk,.int .i64 si,.int .u32 sm,.slice ya sg.length yc] 84))):=Zp _;have HRS:=Lib.hid (Zk wr #[.int .i8 sk,.int .i64 si,.int .u32 sm,.slice ya sg.length yc] 84);go_upto_region 7 with fail
    obtain⟨U,hU⟩:∃U,U=wr.alloc (.cells #[.int .i8 sk,.int .i64 si,.int .u32 sm,.slice ya sg.length yc] 84):=⟨_,rfl⟩;rw[←hU]at HBL HRS⊢;have HTU1:Hid (ZbN U tb kb (.slice p.ba n p.bc) ss left):=⟨RL.below HT.out.rl HBL.out,HT.out.set.of_block (HBL.out.block kb HT.out.set.lt),HT.out.ne⟩;have HBU:Hid (Below W.heap.size W U):=HB.out.trans (HBL.out.mono HB.out.size);have HLU:=Lib.hid (HLX.out.below HBL.out)
    have HTK:Hid (tb<wr.heap.size∧kb<wr.heap.size):=⟨HT.out.rl.lt,HT.out.set.lt⟩;clear hU lst HLX HT HB HBL;have hl32:left<4294967296:=by have:=HLT.out;have:=HPW.out;omega
    have l1:=Zbc (RL.at (RL.below HTU1.out.rl (Below.refl _ _).drew) (j:=2) rfl);have l2:=Zbk (RL.at (RL.below HRS.out (Below.refl _ _).drew) (j:=1) rfl);have hgf:=Lib.hid (ZiQ left hl32 si U.drew);refine ZcJ ?_;apply Exists.intro;apply Exists.intro;refine⟨?_,?_⟩
    ·refine wp_region_noPanic ?_;go_region_with (go_at_call 77;refine(hgf.out).mono ?_;rintro ee w4 ⟨rfl,rfl⟩)
     all_goals exact NoPanic.normal ⟨rfl,rfl,rfl⟩
    simp (config:={maxSteps:=8000000}) only[Act.put,List.getElem_toArray,List.getElem_cons_zero,List.getElem_cons_succ,List.setIfInBounds_toArray,List.set_cons_succ,List.set_cons_zero];simp only[Exit.then];clear l1 hgf;go_at_K
    cases hh:Zbu left si
    ·have HF:=Lib.hid (HGF.out (by unfold okW;rw[hh];rfl));clear hh HGF HGG;go_wp2;go_ret;exact⟨HB0.out.trans (HBU.out.drew.mono HB0.out.size),.inr ⟨HY.out.1,HY.out.2.1,HY.out.2.2.elim fun fs h=>⟨fs,h.1,h.2,by rw[←HN.out,HF.out];rfl⟩⟩⟩
    ·obtain⟨h0,hi⟩:=ZcH HLT.out hh;obtain⟨k,rfl⟩:∃k:Nat,si=(k:Int):=⟨si.toNat,by omega⟩;rw[Int.toNat_natCast]at HGG hi;have hkn:k<r.bd.length:=by rw[←HN.out];exact hi
     have HST:=Lib.hid (Zeg (w:=U.drew) (d:=d+1) (k:=k) ⟨RL.below HTU1.out.rl (Below.refl _ _).drew,HTU1.out.set.of_block rfl,HTU1.out.ne⟩ (HLB.out _ HBU.out.drew) hkn HD.out.bn (HD.out.bc k hkn) (HD.out.bl k hkn) (HD.out.br k hkn));have HNW:=Lib.hid (Zid (d+1) ss (atL r.bd k).x k);have HZZ:=Lib.hid (Zkt ((HLB.out _ HBU.out).at_is hkn) ss k);have HGL:=Lib.hid (ZfZ (d+1) ss (atL r.bd k).x k (HD.out.bc k hkn) (HD.out.bl k hkn) (HD.out.br k hkn))
     have hti:(stL (d+1) ss r.bd k).i=(k:Int):=ZpL _ _ _ _
     have HOK:Hid (okW (d+1) r.bd ss left ⟨sk,(k:Int),sm,sg⟩=(((stL (d+1) ss r.bd k).k != 0)&&Za2 ⟨sk,(k:Int),sm,sg⟩ (stL (d+1) ss r.bd k))):=by
      show _=_;unfold okW;rw[hh,Int.toNat_natCast,Bool.true_and]
     unfold stL at HST hti HOK HGG;generalize stM (d+1) ss (atL r.bd k).x k=t at HST HNW HZZ HGL hti HOK HGG;obtain⟨tk,ti,tm,tg⟩:=t;simp only at HST HNW HZZ HGL hti HOK HGG;subst hti;unfold St.val at HST;simp only at HST;clear hh h0 hkn;go_wp2_with fail;refine HST.out.mono ?_;rintro e w2 ⟨b2,a2,c2,rfl,hown⟩;have HB2:Hid (Below U.heap.size U w2):=(Below.refl _ _).drew.trans b2;have HOW:Hid (w2.ownsRow U.heap.size 9 1 (.slice a2 tg.length c2) tg.length (tg.flatMap Zm)):=hown
     have l8:=ZG (RL.below (RL.below HRS.out HB2.out) (Zp (w:=w2) (.cells #[.int .i8 tk,.int .i64 (k:Int),.int .u32 tm,.slice a2 tg.length c2] 84)));have HRT:=Lib.hid (Zk w2 #[.int .i8 tk,.int .i64 (k:Int),.int .u32 tm,.slice a2 tg.length c2] 84);have l9:=ZG (Zk w2 #[.int .i8 tk,.int .i64 (k:Int),.int .u32 tm,.slice a2 tg.length c2] 84);have HBV:Hid (Below w2.heap.size w2 (w2.alloc (.cells #[.int .i8 tk,.int .i64 (k:Int),.int .u32 tm,.slice a2 tg.length c2] 84))):=Zp _
     clear HST b2 hown l2
     cases hz:(tk != 0)
     ·have HF:=Lib.hid (HGF.out (by rw[HOK.out,hz];rfl));clear HGF HGG HOK HRT;go_wp2;go_ret;exact⟨HB0.out.trans ((HBU.out.trans ((HB2.out.trans (HBV.out.mono HB2.out.size)).mono HBU.out.size)).mono HB0.out.size),.inr ⟨HY.out.1,HY.out.2.1,HY.out.2.2.elim fun fs h=>⟨fs,h.1,h.2,by rw[←HN.out,HF.out];rfl⟩⟩⟩
     ·rw[hz,Bool.true_and]at HOK;have HSA:=Lib.hid (ZnI (w:=w2.alloc (.cells #[.int .i8 tk,.int .i64 (k:Int),.int .u32 tm,.slice a2 tg.length c2] 84)) ⟨sk,(k:Int),sm,sg⟩ ⟨tk,(k:Int),tm,tg⟩ ya a2 yc c2 ((HLU.out.below HB2.out).below HBV.out) ((ZY HOW.out).below HBV.out));unfold St.val at HSA;simp only at HSA;go_wp2_with fail;refine HSA.out.mono ?_;generalize w2.alloc (.cells #[.int .i8 tk,.int .i64 (k:Int),.int .u32 tm,.slice a2 tg.length c2] 84)=V at HRT HBV l8 l9⊢
      rintro e w3 ⟨rfl,b3⟩;have HB3:Hid (Below U.heap.size U w3):=(HB2.out.trans (HBV.out.mono HB2.out.size)).trans (b3.mono (Nat.le_trans HB2.out.size HBV.out.size));have HO3:=Lib.hid (Zn (Zn HOW.out HBV.out) b3);have l9':=ZG (RL.below HRT.out b3);clear HSA l8 l9 b3 HRT
      cases hsm:Za2 ⟨sk,(k:Int),sm,sg⟩ ⟨tk,(k:Int),tm,tg⟩
      ·have HF:=Lib.hid (HGF.out (by rw[HOK.out,hsm]));clear HGF HGG HOK hsm;go_wp2;go_ret;exact⟨HB0.out.trans ((HBU.out.trans (HB3.out.mono HBU.out.size)).mono HB0.out.size),.inr ⟨HY.out.1,HY.out.2.1,HY.out.2.2.elim fun fs h=>⟨fs,h.1,h.2,by rw[←HN.out,HF.out];rfl⟩⟩⟩
      ·have HG2:=Lib.hid (HGG.out (by rw[HOK.out,hsm]));have HTA:=Lib.hid (Zf3 (w:=w3) (B:=U.heap.size) ⟨RL.below HTU1.out.rl HB3.out,HTU1.out.set.of_block (HB3.out.block kb HTU1.out.set.lt),HTU1.out.ne⟩ ⟨tk,(k:Int),tm,tg⟩ (a:=a2) (c:=c2) (k:=k) rfl (by omega) hl32 HO3.out HTU1.out.rl.lt HTU1.out.set.lt (ZnH HZZ.out) HNW.out HGL.out);unfold St.val at HTA;simp only at HTA;clear HGF HGG HOK hsm
       go_wp2_with fail;refine HTA.out.mono ?_;rintro e w4 ⟨⟨y,rfl⟩,htu,hpx⟩;have HT4:=Lib.hid htu;have HB4:Hid (Below W.heap.size W w4):=(HBU.out.trans (HB3.out.mono HBU.out.size)).trans (hpx.below (Nat.le_trans HBU.out.size HB3.out.size) HTB.out HKB.out);have HL4:Hid (Z9 left k<2^n):=Nat.lt_of_le_of_lt (Zcf _ _) HLT.out;clear HTA htu hpx l9';go_wp2;go_roundw
       case rel=>exact⟨j+1,Z9 left k,ss++tg,by omega,by go_num,HG2,HL4,HT4,HB4⟩
       case measure=>simp[intOf];omega
   ·obtain rfl:j=xs.length:=by omega
    rw[List.take_length]at HG;have ll:=Zbc (RL.at HT.out.rl (j:=2) rfl)
    have HE:Hid (Zf0 (goR (d+1) r.bd l (2^r.bd.length-1) (xs.map SX.s))=((left:Int)==0)):=by
     show _=_;rw[←HN.out,HG.out];show decide (left=0)=_
     cases left with
     | zero=>rfl
     | succ m=>
      rw[decide_eq_false (by omega)];exact(beq_eq_false_iff_ne.2 (by omega)).symm
    clear HG;go_wp2;go_ret;exact⟨HB0.out.trans (HB.out.mono HB0.out.size),.inr ⟨HY.out.1,HY.out.2.1,HY.out.2.2.elim fun fs h=>⟨fs,h.1,h.2,by rw[HE.out];rfl⟩⟩⟩
end
section
open Go.RowKit Go.Maps Go.Shelf
theorem Zki:∀(ts:List T) (out:List ByteArray) (n:ByteArray),(∀m∈out,m≠noS∧m≠ZI)→n∈vsT out ts→n≠noS∧n≠ZI
 | [],out,n,h,hn=>h n hn
 | t::ts,out,n,h,hn=>by
  rw[vsT]at hn
  split at hn
  ·exact Zki ts out n h hn
  ·next hc=>
   refine Zki ts _ n (fun m hm=>?_) hn;rcases List.mem_append.1 hm with h1 | h1
   ·exact h m h1
   ·obtain rfl:=List.mem_singleton.1 h1;exact⟨fun e=>hc (Or.inl e),fun e=>hc (Or.inr (Or.inl e))⟩
theorem ZbF{ts:List T}{n:ByteArray}:n∈vsT [] ts↔n≠noS∧n≠ZI∧∃t∈ts,t.v=n:=by
 constructor
 ·intro h;have h1:=Zki ts [] n (fun m hm=>by cases hm) h;rcases ZbS _ _ _ h with h2 | h2
  ·cases h2
  ·exact⟨h1.1,h1.2,h2⟩
 ·rintro⟨h1,h2,t,ht,rfl⟩;exact Ziv _ _ t ht h1 h2
theorem Zfn{ts us:List T}(h:∀t∈ts,t∈us):∀n∈vsT [] ts,n∈vsT [] us:=fun n hn=>by
 obtain⟨h1,h2,t,ht,e⟩:=ZbF.1 hn;exact ZbF.2 ⟨h1,h2,t,h t ht,e⟩
theorem ZaG{d:Nat}{x:Lit4}{t:T}:t∈Zl d x↔t∈x.ts∨t∈Zg d x.l∨t∈Zg d x.r:=by
 unfold Zl;rw[List.mem_append,List.mem_append]
theorem Zl3{s t:St}(h:Za2 s t=true):s=t:=by
 obtain⟨k,i,m,g⟩:=s;obtain⟨k2,i2,m2,g2⟩:=t;unfold Za2 at h;simp only[Bool.and_eq_true,decide_eq_true_eq]at h;obtain⟨rfl,rfl,rfl,rfl⟩:=h;rfl
theorem Zd7{left k i:Nat}(hi:i<32)(hk:k<32):(Z9 left k).testBit i=(left.testBit i && !decide (k=i)):=by
 have hp:(2:Nat)^k<2^32:=Nat.pow_lt_pow_right (by decide) hk;unfold Z9;rw[Nat.testBit_and,show(4294967295:Nat)-2^k=2^32-(2^k+1) by omega,Nat.testBit_two_pow_sub_succ hp,Nat.testBit_two_pow];simp[hi]
theorem Zfo{d:Nat}{l:List XL}{ss:List ByteArray}{left:Nat}{s:St}(hl:left<2^l.length)(h:okW d l ss left s=true):∃k:Nat,s.i=(k:Int)∧k<l.length∧left.testBit k=true∧((stL d ss l k).k != 0)=true∧s=stL d ss l k:=by
 unfold okW at h;rw[Bool.and_eq_true,Bool.and_eq_true]at h;obtain⟨h1,h2,h3⟩:=h;obtain⟨h4,h5⟩:=ZcH hl h1;obtain⟨k,hk⟩:∃k:Nat,s.i=(k:Int):=⟨s.i.toNat,by omega⟩;rw[hk,Int.toNat_natCast]at h2 h3 h5;unfold Zbu at h1;rw[hk,Int.toNat_natCast]at h1;simp only[Bool.and_eq_true]at h1;exact⟨k,hk,h5,h1.2,h2,Zl3 h3⟩
theorem ZfJ:∀(l out:List ByteArray) (x:ByteArray),x∈l.foldl Zby out→x∈out∨x∈l
 | [],out,x,h=>.inl h
 | n::l,out,x,h=>by
  rw[List.foldl_cons]at h;rcases ZfJ l _ x h with h1 | h1
  ·unfold Zby at h1
   split at h1
   ·exact .inl h1
   ·rcases List.mem_append.1 h1 with h2 | h2
    ·exact .inl h2
    ·obtain rfl:=List.mem_singleton.1 h2;exact .inr (by simp)
  ·exact .inr (List.mem_cons_of_mem _ h1)
theorem Zlf(qs:List Qn){all:List ByteArray}(hq:∀x∈ZgZ qs,x∈all):∀(k:Nat) (fs:List ByteArray),(∀x∈fs,x∈all)→fs.Nodup→(∀x∈itQ qs k fs,x∈all)∧(itQ qs k fs).Nodup
 | 0,fs,h,hn=>⟨h,hn⟩
 | k+1,fs,h,hn=>by
  obtain⟨h1,h2⟩:=Zlf qs hq k fs h hn;rw[ZfC];exact⟨Zlc qs _ all h1 hq,ZfD qs _ h2⟩
end
section
open Go.RowKit Go.Maps
attribute [local go_sem ↓] Go.wp_at_zero Go.wp_at_succ
structure DT (w:World):Prop where
 lt:1<w.heap.size
 cell:∀i:Nat,i<32→w.cell? ⟨1,i,none⟩=some (.int .u8 (Lib.deBruijn32tab.getD i 0))
theorem DT.below{w w':World}(t:DT w)(h:Below w.heap.size w w'):DT w':=
 ⟨Nat.lt_of_lt_of_le t.lt h.size,fun i hi=>by rw[h.cell (p:=⟨_,i,none⟩) t.lt];exact t.cell i hi⟩
theorem Zo5(x k idx:Nat)(w:World)(hz:((x:Int)==0)=false)(key:bits BinOp.and IntKind.u32 (x:Int) (-(x:Int) % 4294967296)*125613361 % 4294967296/134217728=(idx:Int))(hi:idx<32)(hk:k<32)(hcell:w.cell? ⟨1,idx,none⟩=some (.int .u8 k)) :
  Calls Tryz.prog 302 #[.int .u32 (x:Int)] w fun e w'=>e=.returned (.int .i64 (k:Int))∧w'=w:=by
 go_enter Tryz.func302,Tryz.ntmps302;go_wp2_with (simp only[key]);go_ret;exact⟨rfl,rfl⟩
theorem Zqb{x:Nat}(hx0:x≠0)(hx:x<4294967296)(w:World)(h:DT w) :
  Calls Tryz.prog 302 #[.int .u32 (x:Int)] w fun e w'=>e=.returned (.int .i64 (Lib.ctz 32 x:Int))∧w'=w:=by
 obtain⟨hlow,hk⟩:=Lib.lowest_bit 32 x hx0 hx;obtain⟨hi,htab⟩:=Lib.deBruijn32_at _ hk;have hcell:=h.cell _ hi;rw[htab]at hcell;exact Zo5 x _ _ w (by rw[beq_eq_false_iff_ne];omega) (tz32_key x _ hx hx0 hlow) hi hk hcell
def Z4(M:Nat):List Nat:=(List.range 32).filter (fun i=>M.testBit i)
theorem ZnM{M:Nat}(h0:M≠0)(hM:M<4294967296):M.testBit (Lib.ctz 32 M)=true∧Lib.ctz 32 M<32∧(∀i,i<Lib.ctz 32 M→M.testBit i=false)∧∀i,(M-1).testBit i=if i<Lib.ctz 32 M then true else if i=Lib.ctz 32 M then false else M.testBit i:=by
 obtain⟨m,hm,hk⟩:=Lib.ctzFrom_spec 32 M (by omega) hM;have e:Lib.ctz 32 M=Lib.ctzFrom 32 M:=by simp[Lib.ctz,h0]
 rw[e];generalize Lib.ctzFrom 32 M=k at hm hk;have hp:0<2^k:=Nat.two_pow_pos k;have e1:M=2^k*(2*m+1)+0:=by omega
 have e2:M-1=2^k*(2*m)+(2^k-1):=by
  rw[hm,Nat.mul_add,Nat.mul_one];omega
 have b1:∀i,M.testBit i=if i<k then false else(2*m+1).testBit (i-k):=fun i=>by
  rw[e1,Nat.testBit_two_pow_mul_add _ hp];simp
 have b2:∀i,(M-1).testBit i=if i<k then true else(2*m).testBit (i-k):=fun i=>by
  rw[e2,Nat.testBit_two_pow_mul_add _ (by omega)]
  split
  ·next h=>rw[Nat.testBit_two_pow_sub_one];exact decide_eq_true h
  ·rfl
 refine⟨?_,hk,fun i hi=>by rw[b1,if_pos hi],fun i=>?_⟩
 ·rw[b1,if_neg (by omega),Nat.sub_self];simp[Nat.testBit_zero]
 ·rw[b2]
  by_cases hi:i<k
  ·rw[if_pos hi,if_pos hi]
  ·rw[if_neg hi,if_neg hi]
   by_cases he:i=k
   ·subst he;rw[if_pos rfl,Nat.sub_self];simp[Nat.testBit_zero]
   ·rw[if_neg he,b1,if_neg hi];obtain⟨j,hj⟩:∃j,i-k=j+1:=⟨i-k-1,by omega⟩;rw[hj,Nat.testBit_succ,Nat.testBit_succ]
    congr 1
    omega
theorem Zkw:Z4 0=[]:=by simp[Z4]
theorem Zkx{M:Nat}(h0:M≠0)(hM:M<4294967296):Z4 M=Lib.ctz 32 M::Z4 (M &&& (M-1)):=by
 obtain⟨h1,h2,h3,h4⟩:=ZnM h0 hM;generalize Lib.ctz 32 M=k at h1 h2 h3 h4
 have hb:∀i,(M &&& (M-1)).testBit i=(M.testBit i && !decide (i=k)):=fun i=>by
  rw[Nat.testBit_and,h4]
  by_cases hi:i<k
  ·rw[if_pos hi,h3 i hi];rfl
  ·rw[if_neg hi]
   by_cases he:i=k
   ·subst he;simp
   ·rw[if_neg he];simp[he]
 have er:List.range 32=List.range k++(k::List.range' (k+1) (31-k)):=by
  have e:List.range 32=List.range' 0 (k+(1+(31-k))):=by rw[List.range_eq_range'];congr 1;omega
  rw[e,←List.range'_append_1,Nat.zero_add,List.range_eq_range',Nat.add_comm 1,List.range'_succ]
 unfold Z4;rw[er,List.filter_append,List.filter_append,List.filter_cons,List.filter_cons,if_pos h1,if_neg (by rw[hb];simp)];have f1:(List.range k).filter (fun i=>M.testBit i)=[]:=List.filter_eq_nil_iff.2 (fun i hi=>by rw[h3 i (List.mem_range.1 hi)];simp);have f2:(List.range k).filter (fun i=>(M &&& (M-1)).testBit i)=[]:=List.filter_eq_nil_iff.2 (fun i hi=>by rw[hb,h3 i (List.mem_range.1 hi)];simp)
 rw[f1,f2,List.nil_append,List.nil_append]
 congr 1
 refine List.filter_congr fun i hi=>?_
 rw[hb];have:=(List.mem_range'_1.1 hi).1;have hne:i≠k:=by omega
 simp[hne]
theorem Zhc{M i:Nat}(h:i∈Z4 M):M.testBit i=true∧i<32:=by
 have:=List.mem_filter.1 h;exact⟨this.2,List.mem_range.1 this.1⟩
end
section
open Go.RowKit
def Zjz(F:Fence)(n:Nat)(P:Program)(g:Nat)(lb:Array Value)(encs:Nat→Array Value)(Kp:World→World→Prop)(N:Nat)(w:World):Prop:=
 ∀(l:Nat) (J Jx:Nat→World→Prop) (W:World),Below w.heap.size w W→AbidesFrom W.heap.size J→AbidesFrom W.heap.size Jx →
  (∀k W1,k<N→J k W1→YieldAt F (n-1) P l (encs k) W1 fun e W'=>
   (e=.returned (.bool true)∧J (k+1) W'∧Kp W1 W')∨(e=.returned (.bool false)∧Jx (k+1) W')) →
  J 0 W →
  CallsIn F n P g (#[.func (.yield l) #[] #[]]++lb) W fun e W'=>(∃v,e=.returned v)∧(J N W'∨∃k,k≤N∧Jx k W')
def Zn8(B:Nat)(Kp:World→World→Prop)(I:Nat→World→Prop)(Ix:Code→Nat→World→Prop)(k:Nat)(W:World):Exit→Act→World→Prop
 | .normal,_,W'=>KeepsFrom B W W'∧Kp W W'∧I k W'
 | .ret,_,W'=>KeepsFrom B W W'∧Ix .ret k W'
 | .exit id,_,W'=>KeepsFrom B W W'∧Ix (.exit id) k W'
 | .goto t,_,W'=>KeepsFrom B W W'∧Ix (.goto t) k W'
 | .panic _,_,_=>False
 | .outgrown,_,_=>False
structure Books (W:World) (b:Nat) (r:Loop):Prop where
 lp:W.heap[b+1]?=some (.loop r)
 df:W.heap[b]?=some (.deferred (some []))
theorem Books.put{W:World}{b:Nat}{r:Loop}(h:Books W b r)(r':Loop):Books (W.putObj (b+1) (.loop r')) b r':=
 ⟨World.putObj_heap_same (Array.getElem?_eq_some_iff.1 h.lp).1,(World.putObj_heap_other (by omega)).trans h.df⟩
theorem Books.kept{W W':World}{b B:Nat}{r:Loop}(h:Books W b r)(hk:KeepsFrom B W W')(hB:B≤b):Books W' b r:=
 ⟨hk.same _ _ (by omega) h.lp rfl,hk.same _ _ hB h.df rfl⟩
theorem Books.walks{W W':World}{b:Nat}{r:Loop}{row:Option Nat}(h:Books W b r)(hg:W.grownBy W' row)(hr:∀q,row=some q→∃o:Obj,W.heap[q]?=some o∧o.isWalk=true):Books W' b r:=
 ⟨(grownBy_keeps hg hr h.lp rfl).trans h.lp,(grownBy_keeps hg hr h.df rfl).trans h.df⟩
theorem ZcW{F:Fence}{n:Nat}{P:Program}{g:Operand}{ps:Array Tmp}{assign body:Code}{Q:Exit→Act→World→Prop}{a:Act}{w:World}
  (hro:F.round=none) (h1:1≤n) {gf:Nat} {lb:Array Value} (hg:a.eval g=.func (.func gf) #[] lb) (hFg:F.fn gf) (eg:∀args w,(callFunc gf args).run P w=.ok (.enter gf args) w)
  {encs:Nat→Array Value} {Kp:World→World→Prop} {N:Nat} {w0:World} (hseq:Zjz F (n-1) P gf lb encs Kp N w0)
  (hKt:∀{A B C:World},Kp A B→Kp B C→Kp A C) (hKb:∀(W:World) (l:Nat) (o o':Obj),w.heap.size≤l→W.heap[l]?=some o→o.isCells=false→o.isWalk=false→Kp W (W.putObj l o')) (hb0:Below w0.heap.size w0 w) (hps:∀k,(encs k).size=ps.size)
  (I:Nat→World→Prop) (Ix:Code→Nat→World→Prop) (hI:OwnFrom w.heap.size I) (hIx:∀c,OwnFrom w.heap.size (Ix c)) (h0:I 0 w) (Ax:Nat→Act→World→Prop) (hAx:∀k a',OwnFrom w.heap.size (fun(_:Unit) W=>Ax k a' W))
  (hassign:∀(l k:Nat) (W:World) (K:Act→World→Prop),k<N→I k W→(∀a' W',KeepsFrom w.heap.size W W'→Kp W W'→I k W'→Ax k a' W'→K a' W') →
   assign.wpIn (F.inRound l) (n-1-1) P (Exit.then K (fun _ _ _=>False)) {tmps:=(ps.zip (encs k)).foldl (fun t (p,v)=>t.setIfInBounds p v) a.tmps,defers:=[]} W)
  (hbody:∀(l k:Nat) (a':Act) (W:World),k<N→I k W→Ax k a' W→body.wpIn (F.inRound l) (n-1-1) P (Zn8 w.heap.size Kp I Ix (k+1) W) a' W)
  (hdone:∀(D:Nat) (W:World),w.heap.size≤D→I N W→W.heap[D]?=some (.deferred (some []))→Q .normal {a with defers:={target:=.collected D,args:=#[]}::a.defers} W)
  (hstop:∀(D:Nat) (c:Code) (k:Nat) (W:World),w.heap.size≤D→k≤N→Ix c k W→W.heap[D]?=some (.deferred (some []))→c.wpIn F n P Q {a with defers:={target:=.collected D,args:=#[]}::a.defers} W) :
  (Code.rangeFunc g ps assign body).wpIn F n P Q a w:=by
 refine wpIn_rangeFunc fun fn hfn=>?_
 rw[hro]
 let rec0:LoopState→Option Code→Loop:=fun st pe=>{state:=st,pending:=pe,fn,tmps:=a.tmps,params:=ps,assign,body,defers:=w.heap.size}
 obtain⟨W1,hW1⟩:∃W1,(w.alloc (.deferred (some []))).alloc (.loop (rec0 .ready none))=W1:=⟨_,rfl⟩;have hs1:W1.heap.size=w.heap.size+2:=by rw[←hW1];simp
 have hk1:Books W1 w.heap.size (rec0 .ready none):=by
  refine⟨?_,?_⟩
  ·rw[←hW1];have:=World.alloc_heap_new (w.alloc (.deferred (some []))) (.loop (rec0 .ready none))
   rwa [World.size_alloc]at this
  ·rw[←hW1];exact(Below.heap_alloc _ _ _ (by simp)).trans (World.alloc_heap_new w _)
 have hI1:I 0 W1:=by rw[←hW1];exact hI.alloc _ (hI.alloc _ h0)
 have hb1:Below w0.heap.size w0 W1:=by
  rw[←hW1];exact hb0.trans ((((Below.refl _ w).alloc (Nat.le_refl _) _).alloc (by simp) _).mono hb0.size)
 refine⟨w.heap.size+1,[{target:=.collected w.heap.size,args:=#[]}],W1,{target:=.fn (.func gf) lb,args:=#[.func (.yield (w.heap.size+1)) #[] #[]]},W1,gf,#[.func (.yield (w.heap.size+1)) #[] #[]]++lb,W1,?_,?_,?_,?_,fun _=>h1,?_⟩
 ·rw[←hW1];exact run_enterLoop_outer _ _ _ _ _
 ·simp only[resolve,hg];simp[go_sem]
 ·intro f' hf';simp[Target.leads]at hf';subst hf';exact hFg
 ·simp[invoke,go_sem,eg]
 have hnw:∀{A:World} {row:Option Nat},(∀r,row=some r→W1.heap.size≤r∧∃o:Obj,A.heap[r]?=some o∧o.isWalk=true)→(∀r,row=some r→w.heap.size≤r∧∃o:Obj,A.heap[r]?=some o∧o.isCells=false):=fun hr r e=>by
  obtain⟨hB,o,ho,hw⟩:=hr r e;exact⟨by omega,o,ho,Obj.not_cells_of_walk hw⟩
 refine(hseq (w.heap.size+1) (fun k W=>I k W∧Books W w.heap.size (rec0 .ready none)) (fun k W=>∃c,Ix c k W∧Books W w.heap.size (rec0 .done (some c))) W1 hb1
  (fun s A B row hs hg' hr=>⟨hI s A B row hs.1 hg' (hnw hr),hs.2.walks hg' (fun r e=>(hr r e).2)⟩)
  (fun s A B row hs hg' hr=>by
   obtain⟨c,hc,hk⟩:=hs;exact⟨c,hIx c s A B row hc hg' (hnw hr),hk.walks hg' (fun r e=>(hr r e).2)⟩)
  ?_ ⟨hI1,hk1⟩).mono ?_
 ·rintro k W hkN ⟨hi,hk⟩;have hy:=run_yield (P:=P) (args:=encs k) hk.lp (hps k);refine⟨fn,_,assign,body,hy,roundIn_of_wpIn hfn (hassign _ k W _ hkN hi fun a' Wa hkfa hkpa hia hax=>?_)⟩;clear hy;have hka:=hk.kept hkfa (Nat.le_refl _);refine⟨_,run_beginRound hka.lp rfl,?_⟩;have hk2:=hka.put {rec0 .ready none with state:=.busy};have hp2:Kp Wa (Wa.putObj (w.heap.size+1) (.loop {rec0 .ready none with state:=.busy})):=hKb _ _ _ _ (by omega) hka.lp rfl rfl
  refine wpIn_mono (hbody _ k a' _ hkN (hI.putObj _ hia (by omega) hka.lp rfl) ((hAx k a').putObj (s:=()) _ hax (by omega) hka.lp rfl)) ?_
  have fin:∀(jump:Option Code) (W3:World),KeepsFrom w.heap.size (Wa.putObj (w.heap.size+1) (.loop {rec0 .ready none with state:=.busy})) W3 →
    (Instr.endRound (w.heap.size+1) jump).run P W3=.ok (.bool jump.isNone) (W3.putObj (w.heap.size+1) (.loop (rec0 (if jump.isNone then .ready else .done) jump))) ∧
    Books W3 w.heap.size {rec0 .ready none with state:=.busy}:=fun jump W3 hk3=>
   ⟨run_endRound (P:=P) jump (hk2.kept hk3 (Nat.le_refl _)).lp,hk2.kept hk3 (Nat.le_refl _)⟩
  intro e a3 W3 hp
  cases e with
  | normal=>
   obtain⟨hr,hb3⟩:=fin none W3 hp.1;exact⟨_,_,hr,.inl ⟨rfl,⟨hI.putObj _ hp.2.2 (by omega) hb3.lp rfl,hb3.put _⟩,hKt hkpa (hKt (hKt hp2 hp.2.1) (hKb _ _ _ _ (by omega) hb3.lp rfl rfl))⟩⟩
  | ret=>
   obtain⟨hr,hb3⟩:=fin (some .ret) W3 hp.1;exact⟨_,_,hr,.inr ⟨rfl,.ret,(hIx _).putObj _ hp.2 (by omega) hb3.lp rfl,hb3.put _⟩⟩
  | exit id=>
   obtain⟨hr,hb3⟩:=fin (some (.exit id)) W3 hp.1;exact⟨_,_,hr,.inr ⟨rfl,.exit id,(hIx _).putObj _ hp.2 (by omega) hb3.lp rfl,hb3.put _⟩⟩
  | goto t=>
   obtain⟨hr,hb3⟩:=fin (some (.goto t)) W3 hp.1;exact⟨_,_,hr,.inr ⟨rfl,.goto t,(hIx _).putObj _ hp.2 (by omega) hb3.lp rfl,hb3.put _⟩⟩
  | panic ch=>exact hp.elim
  | outgrown=>exact hp.elim
 ·rintro e W2 ⟨⟨v,rfl⟩,(⟨hi,hk⟩ | ⟨k,hkN,c,hi,hk⟩)⟩
  ·exact⟨none,_,run_endLoop (P:=P) hk.lp (by simp),hdone _ _ (Nat.le_refl _) (hI.putObj _ hi (by omega) hk.lp rfl) (hk.put _).df⟩
  ·exact⟨some c,_,run_endLoop (P:=P) hk.lp (by simp),hstop _ c k _ (Nat.le_refl _) hkN ((hIx c).putObj _ hi (by omega) hk.lp rfl) (hk.put _).df⟩
end
section
open Go.RowKit Go.Maps Go.Shelf
attribute [local go_sem ↓] Go.wp_at_zero Go.wp_at_succ
attribute [local go_sem] Oper.semAt_some
def Zi6(W W':World):Prop:=W'.heap[1]?=W.heap[1]?
theorem DT.of_block{w w':World}(h:DT w)(k:Zi6 w w'):DT w':=by
 have e:∀o,w'.cell? ⟨1,o,none⟩=w.cell? ⟨1,o,none⟩:=fun o=>World.cell?_of_block (w:=w) (a:=⟨1,o,none⟩) k
 refine⟨?_,fun i hi=>(e i).trans (h.cell i hi)⟩;have h1:=h.lt;unfold Zi6 at k;rw[Array.getElem?_eq_getElem h1]at k;exact(Array.getElem?_eq_some_iff.1 k).1
def ZX(M k:Nat):Nat:=(Z4 M).getD k 0
def Zic(M k:Nat):Array Value:=#[.int .i64 ((ZX M k:Nat):Int)]
theorem Zml(M:Nat):(Z4 M).length≤32:=by
 have:=List.length_filter_le (fun i=>M.testBit i) (List.range 32);simpa[Z4]using this
theorem Ze2{M:Nat}(h:M≠0):M &&& (M-1)<M:=Nat.lt_of_le_of_lt Nat.and_le_right (by omega)
attribute [-go_sem] loadVar
theorem ZfX(M:Int)(w:World):Calls Tryz.prog 241 #[.int .u32 M] w fun e w'=>∃b0,e=.returned (.func (.func 301) #[] #[.pointer (some ⟨b0,0,none⟩)])∧w'.cell? ⟨b0,0,none⟩=some (.int .u32 M)∧b0<w'.heap.size∧w.heap.size≤b0∧Below w.heap.size w w':=by
 go_enter Tryz.func241,Tryz.ntmps241;go_wp2;go_ret;exact⟨_,rfl,(by go_simp),(by simp),(by omega),(Below.refl w.heap.size w).alloc (Nat.le_refl _) _⟩
theorem Zee(n:Nat){w:World}{M b0:Nat}(hM:M<4294967296)(hT:DT w)(h0:w.cell? ⟨b0,0,none⟩=some (.int .u32 (M:Int)))(hb:b0<w.heap.size) :
  Zjz Fence.wide n Tryz.prog 301 #[.pointer (some ⟨b0,0,none⟩)] (Zic M) Zi6 (Z4 M).length w:=by
 intro l J Jx W hW _ _ hY hJ0;have c0:=Zbc ((hW.cell (p:=⟨b0,0,none⟩) hb).trans h0);have HDT:=Lib.hid (hT.below hW);have HY:=Lib.hid hY;have HJ:=Lib.hid hJ0;have HM:=Lib.hid hM;have HN:=Lib.hid (Zml M);clear h0 hW hY hT hb hJ0 hM;refine callsIn_of_wp Tryz.func301 rfl trivial ?_ rfl;simp only[Tryz.ntmps301,List.size_toArray,List.length_cons,List.length_nil,Nat.reduceAdd,Nat.reduceSub,Array.replicate_succ,Array.replicate_zero,List.push_toArray,List.append_toArray,List.nil_append,List.cons_append]
 gi_wp2
 clear c0
 gi_loopw [3] (fun r wr=>∃k rest:Nat,r=.int .u32 (rest:Int)∧Hid (rest<4294967296)∧Hid (Z4 rest=(Z4 M).drop k)∧Hid (k≤(Z4 M).length)∧Hid (J k wr)∧Hid (Zi6 W wr)) (fun r _=>(intOf r).toNat)
 case atStart=>exact⟨0,M,rfl,HM,rfl,Nat.zero_le _,HJ,rfl⟩
 case round=>
  obtain⟨k,rest,rfl,HR,HB,HK,HJs,HKp⟩:=hrel
  by_cases hz:rest=0
  ·subst hz
   have HJN:Hid (J (Z4 M).length wr):=by
    have h1:=HB.out;rw[Zkw]at h1;have h2:=List.drop_eq_nil_iff.1 h1.symm;have e:(Z4 M).length=k:=Nat.le_antisymm h2 HK.out;show J _ _;rw[e];exact HJs.out
   clear HY HDT HJ HM HJs HB HK
   gi_wp2
   go_end0;exact⟨⟨_,rfl⟩,.inl HJN.out⟩
  ·have hne:((rest:Int) != 0)=true:=by rw[bne_iff_ne];omega
   have hc:=Zkx hz HR.out;rw[HB.out]at hc
   have hlt:k<(Z4 M).length:=by
    apply Nat.lt_of_not_le;intro hle;rw[List.drop_eq_nil_iff.2 hle]at hc
    cases hc
   have hat:ZX M k=Lib.ctz 32 rest:=by
    unfold ZX;have h1:((Z4 M).drop k)[0]?=some (Lib.ctz 32 rest):=by rw[hc];rfl
    rw[List.getElem?_drop,Nat.add_zero]at h1;simp[List.getD,h1]
   have HB2:Hid (Z4 (rest &&& (rest-1))=(Z4 M).drop (k+1)):=by
    show _=_;have h1:((Z4 M).drop k).tail=Z4 (rest &&& (rest-1)):=by rw[hc];rfl
    rw[←h1,List.tail_drop]
   have HZ:=Lib.hid (Zqb hz HR.out wr (HDT.out.of_block HKp.out));obtain⟨fn,tmps,assign,body,hy,hR⟩:=HY.out k wr hlt HJs.out;unfold Zic at hy;rw[hat]at hy;have hand:=ZdM rest (rest-1) HR.out (by have:=HR.out;omega);have HR2:Hid (rest &&& (rest-1)<4294967296∧rest &&& (rest-1)<rest):=⟨Nat.lt_trans (Ze2 hz) HR.out,Ze2 hz⟩
   have hw1:IntKind.u32.wrap ((rest:Int)-1)=((rest-1:Nat):Int):=by
    have:=HR.out;simp only[IntKind.wrap,IntKind.signed,IntKind.bits,Bool.false_and,Bool.false_eq_true,if_false];omega
   have HKL:Hid (k+1≤(Z4 M).length):=hlt;clear hc hat hlt HDT HY HJ HM HB HK HJs hz;generalize Lib.ctz 32 rest=z at hy HZ
   gi_wp2_with fail
   refine⟨trivial,fun h=>(nomatch h),(callsIn_wide.2 HZ.out).mono ?_⟩;rintro e w1 ⟨rfl,rfl⟩
   gi_wp2
   refine⟨fun h=>(nomatch h),hR.mono ?_⟩;rintro e W3 (⟨rfl,hJ3,hk3⟩ | ⟨rfl,hJx3⟩)
   ·have HF:Hid (J (k+1) W3∧Zi6 W W3):=⟨hJ3,hk3.trans HKp.out⟩;clear hJ3 hk3
    gi_wp2
    go_roundw
    case rel=>exact⟨k+1,rest &&& (rest-1),by first | rfl | rw[hand] | (rw[hw1,hand]),HR2.out.1,HB2,HKL,HF.out.1,HF.out.2⟩
    case measure=>
     have:=HR2.out.2;simp[intOf];omega
   ·have HF:=Lib.hid hJx3;clear hJx3
    gi_wp2
    refine bodyPost_ret (results_none rfl _ _ _) rfl ?_;exact⟨⟨_,rfl⟩,.inr ⟨k+1,HKL.out,HF.out⟩⟩
end
end Go.Proofs.YtjdnpgpbeppgjaaGreatDoor
