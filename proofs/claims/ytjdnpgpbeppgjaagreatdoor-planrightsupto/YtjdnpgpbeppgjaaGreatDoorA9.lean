import Derived.Test.YtjdnpgpbeppgjaaGreatDoorA8
import Derived.Test.YtjdnpgpbeppgjaaGreatDoorA2
import Derived.Test.YtjdnpgpbeppgjaaGreatDoorA3
import Derived.Test.YtjdnpgpbeppgjaaGreatDoorA4
import Derived.Test.YtjdnpgpbeppgjaaGreatDoorA7
import Derived.Test.YtjdnpgpbeppgjaaGreatDoorA6
set_option linter.unusedSimpArgs false
set_option linter.unusedVariables false
set_option maxHeartbeats 6400000
namespace Go.Proofs.YtjdnpgpbeppgjaaGreatDoor
section
open Go.RowKit Go.Maps
attribute [local go_sem ↓] Go.wp_at_zero Go.wp_at_succ
attribute [-go_sem] loadVar storeVar
theorem ZdY(d:Nat)(r:R3)(p:RP)(w:World)(hT:KT w)(hR:RIs w d r p)(hs:Zaj d r):Calls Tryz.prog 102 #[r.val p] w fun e w'=>e=.returned (.bool (ruleB d r))∧Below w.heap.size w w':=by
 obtain⟨pr,hd,bd⟩:=r;obtain⟨pa,pc,ba,bc⟩:=p;have HA:Hid (ruleB d ⟨pr,hd,bd⟩=(Z0 pr&&(decide (hd.length≤24)&&(decide (bd.length≤16)&&(hd.all ZaS&&(bd.all (fun y=>ZQ y.x)&&decide ((vsT [] (Zi d ⟨pr,hd,bd⟩)).length≤24))))))):=rfl;have HVs:Hid (∀u,Below w.heap.size w u→Calls Tryz.prog 231 #[.agg #[.string pr,.slice pa hd.length pc,.slice ba bd.length bc]] u fun e w'=>∃sv,e=.returned sv∧Ls w' sv (vsT [] (Zi d ⟨pr,hd,bd⟩)).length ((vsT [] (Zi d ⟨pr,hd,bd⟩)).flatMap Zm)∧Below u.heap.size u w'):=fun u hu=>ZdG d ⟨pr,hd,bd⟩ ⟨pa,pc,ba,bc⟩ u (hR.below hu) (by have:=hs.terms;omega)
 have hhl:=hR.hl;have hbl:=hR.bl;have hpb:=hR.pb;have h1:=hR.hd;have h2:=hR.bd;unfold R3.val;dsimp only at hhl hbl hpb h1 h2⊢;have HAi:Hid (∀i,i<hd.length→∀u,Calls Tryz.prog 235 #[.agg (atA hd i).cells.toArray] u fun e w'=>e=.returned (.bool (ZaS (atA hd i)))∧Below u.heap.size u w'):=fun i hi u=>Zod _ u (h1.at_wf hi)
 have HLi:Hid (∀i,i<bd.length→∀u,Below w.heap.size w u→Calls Tryz.prog 236 #[.agg (atL bd i).cells.toArray] u fun e w'=>e=.returned (.bool (ZQ (atL bd i).x))∧Below u.heap.size u w'):=fun i hi=>fun u hu=>ZgH d _ _ u (hT.below hu) ((h2.at_is hi).below hu) (h2.at_is hi).l.len (h2.at_is hi).r.len
 obtain⟨a1,c1,e1,hc1,hc2,hk1⟩:=h1.form
 cases e1
 obtain⟨a2,c2,e2,hc3,hc4,hk2⟩:=h2.form
 cases e2
 have HK1:Hid _:=hk1;have HK2:Hid _:=hk2;have HBA:Hid (Below w.heap.size w (w.alloc (.cells #[.string pr,.slice pa hd.length pc,.slice ba bd.length bc] 25))):=(Below.refl w.heap.size w).alloc (Nat.le_refl _) _;have HR0:Hid (RL (w.alloc (.cells #[.string pr,.slice pa hd.length pc,.slice ba bd.length bc] 25)) w.heap.size 25 [.string pr,.slice pa hd.length pc,.slice ba bd.length bc]):=Zk w #[.string pr,.slice pa hd.length pc,.slice ba bd.length bc] 25
 have HLD:Hid (∀u,RL u w.heap.size 25 [.string pr,.slice pa hd.length pc,.slice ba bd.length bc]→(loadVar 25 ⟨w.heap.size,0,none⟩).run Tryz.prog u=.ok (.agg #[.string pr,.slice pa hd.length pc,.slice ba bd.length bc]) u):=fun u hu=>run_loadVar_mid _ _ 0 25 [.string pr,.slice pa hd.length pc,.slice ba bd.length bc] _ (RL.range hu) Tryz.underlying25 rfl (by kernel_rfl)
 have hagg1:=fun q=>loadVar.eq_1 23 q
 have hagg2:=fun q=>loadVar.eq_1 22 q
 have hagg3:=fun q=>loadVar.eq_1 9 q
 obtain⟨vn,hvn⟩:∃vn,vsT [] (Zi d ⟨pr,hd,bd⟩)=vn:=⟨_,rfl⟩;rw[hvn]at HA HVs;obtain⟨rb,hrb⟩:∃rb,ruleB d ⟨pr,hd,bd⟩=rb:=⟨_,rfl⟩;rw[hrb]at HA⊢;clear hk1 hk2 h1 h2 hR hs hvn hrb hc2 hc4 hc1 hc3 hT;go_enter Tryz.func102,Tryz.ntmps102;go_wp2_with fail;refine(ZhC pr _ hpb).mono ?_;rintro e w1 ⟨rfl,b1⟩;have HB1:Hid (Below w.heap.size w w1):=HBA.out.trans (b1.mono HBA.out.size);have HR1:Hid (RL w1 w.heap.size 25 [.string pr,.slice pa hd.length pc,.slice ba bd.length bc]):=RL.below HR0.out b1
 clear b1 HR0 HBA;have r1:=HR1.out.at (j:=1) rfl;have r2:=HR1.out.at (j:=2) rfl
 cases hn:Z0 pr
 ·have HF:Hid (rb=false):=by show _=_;rw[HA.out,hn];rfl
  go_wp2;go_ret;exact⟨Ze HF.out.symm,HB1.out⟩
 ·by_cases h24:hd.length≤24
  ·by_cases h16:bd.length≤16
   ·have h24':(hd.length:Int)≤24:=by omega
    have h16':(bd.length:Int)≤16:=by omega
    have HB:Hid (rb=(hd.all ZaS&&(bd.all (fun y=>ZQ y.x)&&decide (vn.length≤24)))):=by show _=_;rw[HA.out,hn,decide_eq_true h24,decide_eq_true h16];rfl
    clear HA hn;go_wp2;clear r1 r2;go_loopw [26] (fun i wr=>∃k:Nat,k≤hd.length∧i=.int .i64 k∧Below w.heap.size w wr∧Hid (RL wr w.heap.size 25 [.string pr,.slice pa hd.length pc,.slice ba bd.length bc])∧Hid ((hd.take k).all ZaS=true)) (fun i _=>hd.length-(intOf i).toNat)
    case atStart=>exact⟨0,Nat.zero_le _,rfl,HB1.out,HR1,by simp[Hid]⟩
    case round=>
     obtain⟨k,hk,rfl,bel,HRw,HS⟩:=hrel
     by_cases hlt:k<hd.length
     ·have hlt':(k:Int)<(hd.length:Int):=by omega
      have hk0:(0:Int)≤(k:Int):=by omega
      obtain⟨g,off,rfl,hg,hT⟩:=HK1.out (by omega);have hld:=Zep (Zu (hT k hlt) bel hg) rfl;have HI:Hid _:=HAi.out k hlt;have HN:Hid (ZaS (atA hd k)=false→rb=false):=fun h=>by rw[HB.out,ZjA hlt h];rfl
      have HY:Hid (ZaS (atA hd k)=true→(hd.take (k+1)).all ZaS=true):=fun h=>by rw[Zhx hlt,HS.out,h];rfl
      have hst:(storeVar 119 ⟨wr.heap.size,0,none⟩ (.agg (atA hd k).cells.toArray)).run Tryz.prog (wr.alloc (.cells #[.int .i8 0,.string ⟨#[]⟩,.int .i8 0,.int .i64 0,.string ⟨#[]⟩] 119))=.ok () (wr.alloc (.cells (atA hd k).cells.toArray 119)):=run_storeVar_new wr 119 #[.int .i8 0,.string ⟨#[]⟩,.int .i8 0,.int .i64 0,.string ⟨#[]⟩] (atA hd k).cells.toArray (by kernel_rfl) rfl (Zen _);have hl2:=Zep (RL.range (Zk wr (atA hd k).cells.toArray 119)) rfl
      have HB2:Hid (Below w.heap.size w (wr.alloc (.cells (atA hd k).cells.toArray 119))):=bel.alloc bel.size _;have HBN:Hid (Below wr.heap.size wr (wr.alloc (.cells (atA hd k).cells.toArray 119))):=(Below.refl _ _).alloc (Nat.le_refl _) _;generalize wr.alloc (.cells (atA hd k).cells.toArray 119)=W2 at hst hl2 HB2 HBN;have hl2':(loadVar 119 ⟨wr.heap.size,0,none⟩).run Tryz.prog W2=.ok (.agg (atA hd k).cells.toArray) W2:=hl2
      clear hl2;generalize Value.agg (atA hd k).cells.toArray=QV at hld hst hl2' HI;generalize ZaS (atA hd k)=ab at HI HN HY;clear hT;go_wp2_with fail;refine Calls.mono (HI.out _) ?_;rintro e w2 ⟨rfl,b2⟩;have bel2:Below w.heap.size w w2:=HB2.out.trans (b2.mono HB2.out.size);have HR2:Hid (RL w2 w.heap.size 25 _):=RL.below (RL.below HRw.out HBN.out) b2;clear b2 HI hld hst hl2'
      cases ab
      ·go_wp2;go_ret;exact⟨Ze (HN.out (by first | rfl | trivial)).symm,bel2⟩
      ·go_wp2;go_roundw
       case rel=>exact⟨k+1,by omega,by go_num,bel2,HR2,HY.out (by first | rfl | trivial)⟩
       case measure=>simp[intOf];omega
     ·obtain rfl:k=hd.length:=by omega
      rw[List.take_length]at HS;have HB2:Hid (rb=(bd.all (fun y=>ZQ y.x)&&decide (vn.length≤24))):=by show _=_;rw[HB.out,HS.out];rfl
      have HRx:Hid _:=HRw.out;have q2:=HRw.out.at (j:=2) rfl;have HBx:Hid _:=bel;clear HB HS HRw bel;go_wp2;clear q2;go_loopw [37] (fun i wr=>∃k:Nat,k≤bd.length∧i=.int .i64 k∧Below w.heap.size w wr∧Hid (RL wr w.heap.size 25 [.string pr,.slice pa hd.length pc,.slice ba bd.length bc])∧Hid ((bd.take k).all (fun y=>ZQ y.x)=true)) (fun i _=>bd.length-(intOf i).toNat)
      case atStart=>exact⟨0,Nat.zero_le _,rfl,HBx.out,HRx,by simp[Hid]⟩
      case round=>
       obtain⟨k,hk,rfl,bel,HRw,HS⟩:=hrel
       by_cases hlt:k<bd.length
       ·have hlt':(k:Int)<(bd.length:Int):=by omega
        have hk0:(0:Int)≤(k:Int):=by omega
        obtain⟨g,off,rfl,hg,hT⟩:=HK2.out (by omega);have hld:=Zan (Zu (hT k hlt) bel hg) rfl;have HI:Hid _:=HLi.out k hlt;have HN:Hid (ZQ (atL bd k).x=false→rb=false):=fun h=>by rw[HB2.out,ZjB (f:=fun y=>ZQ y.x) hlt h];rfl
        have HY:Hid (ZQ (atL bd k).x=true→(bd.take (k+1)).all (fun y=>ZQ y.x)=true):=fun h=>by rw[Zhy (f:=fun y=>ZQ y.x) hlt,HS.out,h];rfl
        have hst:(storeVar 105 ⟨wr.heap.size,0,none⟩ (.agg (atL bd k).cells.toArray)).run Tryz.prog (wr.alloc (.cells #[.int .i8 0,.string ⟨#[]⟩,.slice none 0 0,.int .i8 0,.int .i8 0,.string ⟨#[]⟩,.int .i8 0,.int .i64 0,.string ⟨#[]⟩,.slice none 0 0,.int .i8 0,.string ⟨#[]⟩,.int .i8 0,.int .i64 0,.string ⟨#[]⟩,.slice none 0 0] 105))=.ok () (wr.alloc (.cells (atL bd k).cells.toArray 105)):=run_storeVar_new wr 105 #[.int .i8 0,.string ⟨#[]⟩,.slice none 0 0,.int .i8 0,.int .i8 0,.string ⟨#[]⟩,.int .i8 0,.int .i64 0,.string ⟨#[]⟩,.slice none 0 0,.int .i8 0,.string ⟨#[]⟩,.int .i8 0,.int .i64 0,.string ⟨#[]⟩,.slice none 0 0] (atL bd k).cells.toArray (by kernel_rfl) rfl (ZbR _)
        have hl2:=Zan (RL.range (Zk wr (atL bd k).cells.toArray 105)) rfl;have HB3:Hid (Below w.heap.size w (wr.alloc (.cells (atL bd k).cells.toArray 105))):=bel.alloc bel.size _;have HBN:Hid (Below wr.heap.size wr (wr.alloc (.cells (atL bd k).cells.toArray 105))):=(Below.refl _ _).alloc (Nat.le_refl _) _;generalize wr.alloc (.cells (atL bd k).cells.toArray 105)=W2 at hst hl2 HB3 HBN;have hl2':(loadVar 105 ⟨wr.heap.size,0,none⟩).run Tryz.prog W2=.ok (.agg (atL bd k).cells.toArray) W2:=hl2
        clear hl2;generalize Value.agg (atL bd k).cells.toArray=QV at hld hst hl2' HI;generalize ZQ (atL bd k).x=ab at HI HN HY;clear hT;go_wp2_with fail;refine Calls.mono (HI.out _ HB3.out) ?_;rintro e w2 ⟨rfl,b2⟩;have bel2:Below w.heap.size w w2:=HB3.out.trans (b2.mono HB3.out.size);have HR2:Hid (RL w2 w.heap.size 25 _):=RL.below (RL.below HRw.out HBN.out) b2;clear b2 HI hld hst hl2'
        cases ab
        ·go_wp2;go_ret;exact⟨Ze (HN.out (by first | rfl | trivial)).symm,bel2⟩
        ·go_wp2;go_roundw
         case rel=>exact⟨k+1,by omega,by go_num,bel2,HR2,HY.out (by first | rfl | trivial)⟩
         case measure=>simp[intOf];omega
       ·obtain rfl:k=bd.length:=by omega
        rw[List.take_length]at HS;have HB4:Hid (rb=decide (vn.length≤24)):=by show _=_;rw[HB2.out,HS.out];rfl
        have hl9:=HLD.out _ HRw.out;go_wp2_with fail;refine Calls.mono (HVs.out _ bel) ?_;rintro e w2 ⟨sv,rfl,hls,b2⟩;obtain⟨va,vc,rfl,hv1,hv2,_⟩:=Z3 hls;have bel2:Below w.heap.size w w2:=bel.trans (b2.mono bel.size);clear hls b2 hl9 HB2 HS;go_wp2;go_ret;exact⟨Ze (by rw[HB4.out];rw[Bool.eq_iff_iff];simp only[decide_eq_true_eq];omega),bel2⟩
   ·have h16':(16:Int)<(bd.length:Int):=by omega
    have h24':(hd.length:Int)≤24:=by omega
    have HF:Hid (rb=false):=by show _=_;rw[HA.out,decide_eq_false h16];simp
    go_wp2;go_ret;exact⟨Ze HF.out.symm,HB1.out⟩
  ·have h24':(24:Int)<(hd.length:Int):=by omega
   have HF:Hid (rb=false):=by show _=_;rw[HA.out,decide_eq_false h24];simp
   go_wp2;go_ret;exact⟨Ze HF.out.symm,HB1.out⟩
theorem ZmP(d:Nat)(r:R3)(p:RP)(w:World)(hR:RIs w d r p)(hs:Zaj d r):Calls Tryz.prog 221 #[r.val p] w fun e w'=>e=.returned (.bool (ruleB d r))∧Below w.heap.size w w':=by
 obtain⟨pr,hd,bd⟩:=r;obtain⟨pa,pc,ba,bc⟩:=p;have HA:Hid (ruleB d ⟨pr,hd,bd⟩=(Z0 pr&&(decide (hd.length≤24)&&(decide (bd.length≤16)&&(hd.all ZaS&&(bd.all (fun y=>ZQ y.x)&&decide ((vsT [] (Zi d ⟨pr,hd,bd⟩)).length≤24))))))):=rfl;have HVs:Hid (∀u,Below w.heap.size w u→Calls Tryz.prog 91 #[.agg #[.string pr,.slice pa hd.length pc,.slice ba bd.length bc]] u fun e w'=>∃sv,e=.returned sv∧Ls w' sv (vsT [] (Zi d ⟨pr,hd,bd⟩)).length ((vsT [] (Zi d ⟨pr,hd,bd⟩)).flatMap Zm)∧Below u.heap.size u w'):=fun u hu=>ZdF d ⟨pr,hd,bd⟩ ⟨pa,pc,ba,bc⟩ u (hR.below hu) hs.terms
 have hhl:=hR.hl;have hbl:=hR.bl;have hpb:=hR.pb;have h1:=hR.hd;have h2:=hR.bd;unfold R3.val;dsimp only at hhl hbl hpb h1 h2⊢;have HAi:Hid (∀i,i<hd.length→∀u,Calls Tryz.prog 280 #[.agg (atA hd i).cells.toArray] u fun e w'=>e=.returned (.bool (ZaS (atA hd i)))∧Below u.heap.size u w'):=fun i hi u=>Zoe _ u (h1.at_wf hi)
 have HLi:Hid (∀i,i<bd.length→∀u,Below w.heap.size w u→Calls Tryz.prog 281 #[.agg (atL bd i).cells.toArray] u fun e w'=>e=.returned (.bool (ZQ (atL bd i).x))∧Below u.heap.size u w'):=fun i hi=>fun u hu=>Ziw d _ _ u ((h2.at_is hi).below hu) (h2.at_is hi).l.len (h2.at_is hi).r.len
 obtain⟨a1,c1,e1,hc1,hc2,hk1⟩:=h1.form
 cases e1
 obtain⟨a2,c2,e2,hc3,hc4,hk2⟩:=h2.form
 cases e2
 have HK1:Hid _:=hk1;have HK2:Hid _:=hk2;have HBA:Hid (Below w.heap.size w (w.alloc (.cells #[.string pr,.slice pa hd.length pc,.slice ba bd.length bc] 25))):=(Below.refl w.heap.size w).alloc (Nat.le_refl _) _;have HR0:Hid (RL (w.alloc (.cells #[.string pr,.slice pa hd.length pc,.slice ba bd.length bc] 25)) w.heap.size 25 [.string pr,.slice pa hd.length pc,.slice ba bd.length bc]):=Zk w #[.string pr,.slice pa hd.length pc,.slice ba bd.length bc] 25
 have HLD:Hid (∀u,RL u w.heap.size 25 [.string pr,.slice pa hd.length pc,.slice ba bd.length bc]→(loadVar 25 ⟨w.heap.size,0,none⟩).run Tryz.prog u=.ok (.agg #[.string pr,.slice pa hd.length pc,.slice ba bd.length bc]) u):=fun u hu=>run_loadVar_mid _ _ 0 25 [.string pr,.slice pa hd.length pc,.slice ba bd.length bc] _ (RL.range hu) Tryz.underlying25 rfl (by kernel_rfl)
 have hagg1:=fun q=>loadVar.eq_1 23 q
 have hagg2:=fun q=>loadVar.eq_1 22 q
 have hagg3:=fun q=>loadVar.eq_1 9 q
 obtain⟨vn,hvn⟩:∃vn,vsT [] (Zi d ⟨pr,hd,bd⟩)=vn:=⟨_,rfl⟩;rw[hvn]at HA HVs;obtain⟨rb,hrb⟩:∃rb,ruleB d ⟨pr,hd,bd⟩=rb:=⟨_,rfl⟩;rw[hrb]at HA⊢;clear hk1 hk2 h1 h2 hR hs hvn hrb hc2 hc4 hc1 hc3;go_enter Tryz.func221,Tryz.ntmps221;go_wp2_with fail;refine(ZdA pr _ hpb).mono ?_;rintro e w1 ⟨rfl,hw1⟩;subst hw1;have HB1:Hid (Below w.heap.size w (w.alloc (.cells #[.string pr,.slice pa hd.length pc,.slice ba bd.length bc] 25))):=HBA.out
 have HR1:Hid (RL (w.alloc (.cells #[.string pr,.slice pa hd.length pc,.slice ba bd.length bc] 25)) w.heap.size 25 [.string pr,.slice pa hd.length pc,.slice ba bd.length bc]):=HR0.out;clear HR0 HBA;generalize w.alloc (.cells #[.string pr,.slice pa hd.length pc,.slice ba bd.length bc] 25)=w1 at HB1 HR1⊢;have r1:=HR1.out.at (j:=1) rfl;have r2:=HR1.out.at (j:=2) rfl
 cases hn:Z0 pr
 ·have HF:Hid (rb=false):=by show _=_;rw[HA.out,hn];rfl
  go_wp2;go_ret;exact⟨Ze HF.out.symm,HB1.out⟩
 ·by_cases h24:hd.length≤24
  ·by_cases h16:bd.length≤16
   ·have h24':(hd.length:Int)≤24:=by omega
    have h16':(bd.length:Int)≤16:=by omega
    have HB:Hid (rb=(hd.all ZaS&&(bd.all (fun y=>ZQ y.x)&&decide (vn.length≤24)))):=by show _=_;rw[HA.out,hn,decide_eq_true h24,decide_eq_true h16];rfl
    clear HA hn;go_wp2;clear r1 r2;go_loopw [3] (fun i wr=>∃k:Nat,k≤hd.length∧i=.int .i64 k∧Below w.heap.size w wr∧Hid (RL wr w.heap.size 25 [.string pr,.slice pa hd.length pc,.slice ba bd.length bc])∧Hid ((hd.take k).all ZaS=true)) (fun i _=>hd.length-(intOf i).toNat)
    case atStart=>exact⟨0,Nat.zero_le _,rfl,HB1.out,HR1,by simp[Hid]⟩
    case round=>
     obtain⟨k,hk,rfl,bel,HRw,HS⟩:=hrel;have r1:=HRw.out.at (j:=1) rfl
     by_cases hlt:k<hd.length
     ·have hlt':(k:Int)<(hd.length:Int):=by omega
      have hk0:(0:Int)≤(k:Int):=by omega
      obtain⟨g,off,rfl,hg,hT⟩:=HK1.out (by omega);have hld:=Zep (Zu (hT k hlt) bel hg) rfl;have HI:Hid _:=HAi.out k hlt;have HN:Hid (ZaS (atA hd k)=false→rb=false):=fun h=>by rw[HB.out,ZjA hlt h];rfl
      have HY:Hid (ZaS (atA hd k)=true→(hd.take (k+1)).all ZaS=true):=fun h=>by rw[Zhx hlt,HS.out,h];rfl
      have HB2:Hid (Below w.heap.size w wr):=bel;generalize Value.agg (atA hd k).cells.toArray=QV at hld HI;generalize ZaS (atA hd k)=ab at HI HN HY;clear hT;go_wp2_with fail;refine Calls.mono (HI.out _) ?_;rintro e w2 ⟨rfl,b2⟩;have bel2:Below w.heap.size w w2:=HB2.out.trans (b2.mono HB2.out.size);have HR2:Hid (RL w2 w.heap.size 25 _):=RL.below (HRw.out) b2;clear b2 HI hld r1
      cases ab
      ·go_wp2;go_ret;exact⟨Ze (HN.out (by first | rfl | trivial)).symm,bel2⟩
      ·go_wp2;go_roundw
       case rel=>exact⟨k+1,by omega,by go_num,bel2,HR2,HY.out (by first | rfl | trivial)⟩
       case measure=>simp[intOf];omega
     ·obtain rfl:k=hd.length:=by omega
      rw[List.take_length]at HS;have HB2:Hid (rb=(bd.all (fun y=>ZQ y.x)&&decide (vn.length≤24))):=by show _=_;rw[HB.out,HS.out];rfl
      have HRx:Hid _:=HRw.out;have q2:=HRw.out.at (j:=2) rfl;have HBx:Hid _:=bel;clear HB HS HRw bel;go_wp2;clear q2 r1;go_loopw [4] (fun i wr=>∃k:Nat,k≤bd.length∧i=.int .i64 k∧Below w.heap.size w wr∧Hid (RL wr w.heap.size 25 [.string pr,.slice pa hd.length pc,.slice ba bd.length bc])∧Hid ((bd.take k).all (fun y=>ZQ y.x)=true)) (fun i _=>bd.length-(intOf i).toNat)
      case atStart=>exact⟨0,Nat.zero_le _,rfl,HBx.out,HRx,by simp[Hid]⟩
      case round=>
       obtain⟨k,hk,rfl,bel,HRw,HS⟩:=hrel;have r2:=HRw.out.at (j:=2) rfl
       by_cases hlt:k<bd.length
       ·have hlt':(k:Int)<(bd.length:Int):=by omega
        have hk0:(0:Int)≤(k:Int):=by omega
        obtain⟨g,off,rfl,hg,hT⟩:=HK2.out (by omega);have hld:=Zan (Zu (hT k hlt) bel hg) rfl;have HI:Hid _:=HLi.out k hlt;have HN:Hid (ZQ (atL bd k).x=false→rb=false):=fun h=>by rw[HB2.out,ZjB (f:=fun y=>ZQ y.x) hlt h];rfl
        have HY:Hid (ZQ (atL bd k).x=true→(bd.take (k+1)).all (fun y=>ZQ y.x)=true):=fun h=>by rw[Zhy (f:=fun y=>ZQ y.x) hlt,HS.out,h];rfl
        have HB3:Hid (Below w.heap.size w wr):=bel;generalize Value.agg (atL bd k).cells.toArray=QV at hld HI;generalize ZQ (atL bd k).x=ab at HI HN HY;clear hT;go_wp2_with fail;refine Calls.mono (HI.out _ HB3.out) ?_;rintro e w2 ⟨rfl,b2⟩;have bel2:Below w.heap.size w w2:=HB3.out.trans (b2.mono HB3.out.size);have HR2:Hid (RL w2 w.heap.size 25 _):=RL.below (HRw.out) b2;clear b2 HI hld r2
        cases ab
        ·go_wp2;go_ret;exact⟨Ze (HN.out (by first | rfl | trivial)).symm,bel2⟩
        ·go_wp2;go_roundw
         case rel=>exact⟨k+1,by omega,by go_num,bel2,HR2,HY.out (by first | rfl | trivial)⟩
         case measure=>simp[intOf];omega
       ·obtain rfl:k=bd.length:=by omega
        rw[List.take_length]at HS;have HB4:Hid (rb=decide (vn.length≤24)):=by show _=_;rw[HB2.out,HS.out];rfl
        have hl9:=HLD.out _ HRw.out;go_wp2_with fail;refine Calls.mono (HVs.out _ bel) ?_;rintro e w2 ⟨sv,rfl,hls,b2⟩;obtain⟨va,vc,rfl,hv1,hv2,_⟩:=Z3 hls;have bel2:Below w.heap.size w w2:=bel.trans (b2.mono bel.size);clear hls b2 hl9 HB2 HS r2;go_wp2;go_ret;exact⟨Ze (by rw[HB4.out];rw[Bool.eq_iff_iff];simp only[decide_eq_true_eq];omega),bel2⟩
   ·have h16':(16:Int)<(bd.length:Int):=by omega
    have h24':(hd.length:Int)≤24:=by omega
    have HF:Hid (rb=false):=by show _=_;rw[HA.out,decide_eq_false h16];simp
    go_wp2;go_ret;exact⟨Ze HF.out.symm,HB1.out⟩
  ·have h24':(24:Int)<(hd.length:Int):=by omega
   have HF:Hid (rb=false):=by show _=_;rw[HA.out,decide_eq_false h24];simp
   go_wp2;go_ret;exact⟨Ze HF.out.symm,HB1.out⟩
theorem ZgE(d:Nat)(r:R3)(p:RP)(w:World)(hT:KT w)(hR:RIs w d r p)(hs:Zaj d r):Calls Tryz.prog 98 #[r.val p] w fun e w'=>e=.returned (.int .i64 (Zgp (ruleB d r)))∧Below w.heap.size w w':=by
 have BA:=(Below.refl w.heap.size w).alloc (Nat.le_refl _) (.cells #[.string r.pr,.slice p.a r.hd.length p.c,.slice p.ba r.bd.length p.bc] 25);have HL:Hid _:=ZdY d r p _ (hT.below BA) (hR.below BA) hs;have hld:(loadVar 25 ⟨w.heap.size,0,none⟩).run Tryz.prog (w.alloc (.cells #[.string r.pr,.slice p.a r.hd.length p.c,.slice p.ba r.bd.length p.bc] 25))=.ok (.agg #[.string r.pr,.slice p.a r.hd.length p.c,.slice p.ba r.bd.length p.bc]) _:=run_loadVar_mid _ _ 0 25 [.string r.pr,.slice p.a r.hd.length p.c,.slice p.ba r.bd.length p.bc] _ (RL.range (Zk w #[.string r.pr,.slice p.a r.hd.length p.c,.slice p.ba r.bd.length p.bc] 25)) Tryz.underlying25 rfl (by kernel_rfl)
 clear hR hs hT;unfold R3.val at *;go_enter Tryz.func98,Tryz.ntmps98;go_wp2_with fail;refine Calls.mono HL.out ?_;rintro ee w1 ⟨rfl,b1⟩;go_wp2_with fail;refine(Zfa _ _).mono ?_;rintro ee w2 ⟨rfl,rfl⟩;go_wp2;go_ret;exact⟨rfl,BA.trans (b1.mono BA.size)⟩
theorem Zgd(d:Nat)(r:R3)(p:RP)(w:World)(hR:RIs w d r p)(hs:Zaj d r):Calls Tryz.prog 88 #[r.val p] w fun e w'=>e=.returned (.int .i64 (Zgp (ruleB d r)))∧Below w.heap.size w w':=by
 have BA:=(Below.refl w.heap.size w).alloc (Nat.le_refl _) (.cells #[.string r.pr,.slice p.a r.hd.length p.c,.slice p.ba r.bd.length p.bc] 25);have HL:Hid _:=ZmP d r p _ (hR.below BA) hs;have hld:(loadVar 25 ⟨w.heap.size,0,none⟩).run Tryz.prog (w.alloc (.cells #[.string r.pr,.slice p.a r.hd.length p.c,.slice p.ba r.bd.length p.bc] 25))=.ok (.agg #[.string r.pr,.slice p.a r.hd.length p.c,.slice p.ba r.bd.length p.bc]) _:=run_loadVar_mid _ _ 0 25 [.string r.pr,.slice p.a r.hd.length p.c,.slice p.ba r.bd.length p.bc] _ (RL.range (Zk w #[.string r.pr,.slice p.a r.hd.length p.c,.slice p.ba r.bd.length p.bc] 25)) Tryz.underlying25 rfl (by kernel_rfl)
 clear hR hs;unfold R3.val at *;go_enter Tryz.func88,Tryz.ntmps88;go_wp2_with fail;refine Calls.mono HL.out ?_;rintro ee w1 ⟨rfl,b1⟩;go_wp2_with fail;refine(Zop _ _).mono ?_;rintro ee w2 ⟨rfl,rfl⟩;go_wp2;go_ret;exact⟨rfl,BA.trans (b1.mono BA.size)⟩
end
section
open Go.RowKit Go.Maps Go.ChangeMaps
structure Vb where
 v:ByteArray
 b:Nat
def ZcE(x:Vb):Value:=.pointer (some ⟨x.b,0,none⟩)
def Zke(x:Vb):Value × Value:=(.string x.v,ZcE x)
def MapV(w:World)(b:Nat)(s:List Vb):Prop:=
 ∃es clock,w.heap[b]?=some (.map es clock)∧es.toList.map (fun e=>(e.key,e.val))=s.map Zke∧∀p∈s,p.v.size≤maxLen
theorem MapV.lt{w:World}{b:Nat}{s:List Vb}(h:MapV w b s):b<w.heap.size:=by
 obtain⟨es,c,hb,_⟩:=h;exact(Array.getElem?_eq_some_iff.1 hb).1
theorem MapV.of_block{w w':World}{b:Nat}{s:List Vb}(h:MapV w b s)(e:w'.heap[b]?=w.heap[b]?):MapV w' b s:=by
 obtain⟨es,c,hb,r⟩:=h;exact⟨es,c,e.trans hb,r⟩
theorem MapV.made(w:World):MapV (w.alloc (.map #[] 0)) w.heap.size []:=⟨#[],0,heap_alloc_new w _,rfl,by simp⟩
theorem ZfE{es:Array MapEntry}{s:List Vb}(h:es.toList.map (fun e=>(e.key,e.val))=s.map Zke){j:Nat}{e:MapEntry}(hj:es.toList[j]?=some e) :
  ∃p,s[j]?=some p∧e.key=.string p.v∧e.val=ZcE p:=by
 have h1:=congrArg (fun l=>l[j]?) h;simp only[List.getElem?_map,hj,Option.map_some]at h1;obtain⟨p,hp,he⟩:=Option.map_eq_some_iff.1 h1.symm;simp only[Zke,Prod.mk.injEq]at he;exact⟨p,hp,he.1.symm,he.2.symm⟩
theorem ZfF{es:Array MapEntry}{s:List Vb}(h:es.toList.map (fun e=>(e.key,e.val))=s.map Zke)(hw:∀p∈s,p.v.size≤maxLen):∀e∈es.toList,∃l,keyOf Tryz.prog 9 e.key=some l:=by
 intro e he;obtain⟨j,hj⟩:=List.getElem?_of_mem he;obtain⟨p,hp,hk,_⟩:=ZfE h hj;rw[hk];exact⟨_,Zba _ (hw p (List.mem_of_getElem? hp))⟩
theorem Znp{es:Array MapEntry}{s:List Vb}(h:es.toList.map (fun e=>(e.key,e.val))=s.map Zke){n:ByteArray}(hn:∀e∈es.toList,e.key≠.string n):∀p∈s,p.v≠n:=by
 intro p hp e;obtain⟨j,hj⟩:=List.getElem?_of_mem hp;have h1:=congrArg (fun l=>l[j]?) h;simp only[List.getElem?_map,hj,Option.map_some]at h1;obtain⟨x,hx,he⟩:=Option.map_eq_some_iff.1 h1;simp only[Zke,Prod.mk.injEq]at he;exact hn x (List.mem_of_getElem? hx) (by rw[he.1,e])
theorem Zp1(w:World):(zeroValue 393).run Tryz.prog w=.ok (.pointer none) w:=by kernel_rfl
def Zg0(s:List Vb)(n:ByteArray):Option Vb:=s.find? (fun p=>decide (p.v=n))
def Ze0(s:List Vb)(n:ByteArray):Value:=match Zg0 s n with
 | some p=>ZcE p
 | none=>.pointer none
theorem MapV.look{w:World}{b:Nat}{s:List Vb}(h:MapV w b s)(nd:(s.map Vb.v).Nodup){n:ByteArray}(hn:n.size≤maxLen) :
  (Instr.lookup 389 (.map (some b)) (.string n) false).run Tryz.prog w=.ok (Ze0 s n) w:=by
 obtain⟨es,c,hb,hes,hw⟩:=h;have hl:=Zba n hn;rcases Zap.find w hl es.toList (ZfF hes hw)with ⟨h1,h2⟩ | ⟨j,e,h1,h2,h3⟩
 ·have:Ze0 s n=.pointer none:=by
   unfold Ze0 Zg0;rw[List.find?_eq_none.2 (fun p hp=>by simpa using Znp hes h2 p hp)]
  rw[this];simp[Instr.lookup,run_underlying Tryz.underlying389,MapKept.run_getObj_map hb,Zap.check w _ hl,h1,Result.andThen,Zp1]
 ·obtain⟨p,hp,hk,hval⟩:=ZfE hes h2
  have e:p.v=n:=by
   have:=hk.symm.trans h3
   injection this
  have hf:s.find? (fun p=>decide (p.v=n))=some p:=by
   cases hf:s.find? (fun p=>decide (p.v=n))with
   | none=>exact absurd e (by simpa using List.find?_eq_none.1 hf p (List.mem_of_getElem? hp))
   | some q=>
    have hq:q.v=n:=by simpa using List.find?_some hf
    obtain⟨i,hi⟩:=List.getElem?_of_mem (List.mem_of_find?_eq_some hf);have e1:(s.map Vb.v)[i]?=some n:=by rw[List.getElem?_map,hi,←hq];rfl
    have e2:(s.map Vb.v)[j]?=some n:=by rw[List.getElem?_map,hp,←e];rfl
    obtain⟨i1,i2⟩:=List.getElem?_eq_some_iff.1 e1;obtain⟨j1,j2⟩:=List.getElem?_eq_some_iff.1 e2;have nd':=List.pairwise_iff_getElem.1 nd
    have:i=j:=by
     rcases Nat.lt_trichotomy i j with h | h | h
     ·exact absurd (i2.trans j2.symm) (nd' i j i1 j1 h)
     ·exact h
     ·exact absurd (j2.trans i2.symm) (nd' j i j1 i1 h)
    rw[this,hp]at hi;rw[Option.some.inj hi]
  unfold Ze0 Zg0;rw[hf];simp[Instr.lookup,run_underlying Tryz.underlying389,MapKept.run_getObj_map hb,Zap.check w _ hl,h1,hval,Result.andThen]
theorem MapV.put{w:World}{b:Nat}{s:List Vb}(h:MapV w b s){p:Vb}(hs:p.v.size≤maxLen)(hn:∀q∈s,q.v≠p.v) :
  ∃w',(Instr.mapUpdate 389 (.map (some b)) (.string p.v) (ZcE p)).run Tryz.prog w=.ok () w'∧MapV w' b (s++[p])∧w.mapTurned w' b:=by
 obtain⟨es,c,hb,hes,hw⟩:=h;have hl:=Zba p.v hs;rcases Zap.find w hl es.toList (ZfF hes hw)with ⟨h1,h2⟩ | ⟨j,e,h1,h2,h3⟩
 ·refine⟨setBlock w b (.map (es.push ⟨.string p.v,ZcE p,c⟩) (c+1)),by simp[Instr.mapUpdate,run_underlying Tryz.underlying389,MapKept.run_getObj_map hb,Zap.check w false hl,h1,MapKept.run_setObj_map _ hb,Result.andThen,setBlock],⟨_,_,heap_setBlock_same hb _,by simp[hes,Zke],?_⟩,?_⟩
  ·intro q hq;rcases List.mem_append.1 hq with hq | hq
   ·exact hw q hq
   ·simp at hq;subst hq;exact hs
  ·exact⟨es,c,_,_,hb,rfl⟩
 ·obtain⟨q,hp,hk,hval⟩:=ZfE hes h2;refine absurd ?_ (hn q (List.mem_of_getElem? hp));have:=hk.symm.trans h3
  injection this
end
section
open Go.RowKit Go.Maps
def Zby(out:List ByteArray)(n:ByteArray):List ByteArray:=if inB out n=true then out else out++[n]
structure Sd where
 lone:Option ByteArray
 vars:List ByteArray
abbrev Qn:=Sd × Sd
def ZP(v:Option ByteArray)(o fs:List ByteArray):Option ByteArray:=match v with
 | some v=>if(!inB fs v&&o.all (inB fs))=true then some v else none
 | none=>none
def Zaf(fs:List ByteArray)(q:Qn):Option ByteArray:=match ZP q.1.lone q.2.vars fs with
 | some v=>some v
 | none=>ZP q.2.lone q.1.vars fs
def ZaP(fs:List ByteArray)(q:Qn):List ByteArray:=match Zaf fs q with
 | some v=>fs++[v]
 | none=>fs
def Zbz(qs:List Qn)(fs:List ByteArray):List ByteArray:=qs.foldl ZaP fs
def ZU:List Qn→List ByteArray→List ByteArray × List Qn
 | [],fs=>(fs,[])
 | q::ws,fs=>match Zaf fs q with
  | some v=>ZU ws (fs++[v])
  | none=>((ZU ws fs).1,q::(ZU ws fs).2)
structure Spent (fs:List ByteArray) (q:Qn):Prop where
 l:∀v,q.1.lone=some v→v∈fs
 r:∀v,q.2.lone=some v→v∈fs
structure OkQ (q:Qn):Prop where
 l:∀v,q.1.lone=some v→v∈q.1.vars
 r:∀v,q.2.lone=some v→v∈q.2.vars
theorem Spent.mono{fs fs':List ByteArray}{q:Qn}(h:Spent fs q)(hs:∀x∈fs,x∈fs'):Spent fs' q:=⟨fun v hv=>hs v (h.l v hv),fun v hv=>hs v (h.r v hv)⟩
theorem Zbg{v:Option ByteArray}{o fs:List ByteArray}{x:ByteArray}(h:ZP v o fs=some x):v=some x∧¬ x∈fs∧∀y∈o,y∈fs:=by
 unfold ZP at h
 cases v with
 | none=>cases h
 | some v=>
  simp only at h
  split at h
  ·rename_i hc
   injection h with h
   subst h;rw[Bool.and_eq_true,Bool.not_eq_true']at hc;exact⟨rfl,fun k=>(by rw[ZD.2 k]at hc;cases hc.1),fun y hy=>ZD.1 (List.all_eq_true.1 hc.2 y hy)⟩
  ·cases h
theorem ZgY{v:Option ByteArray}{o fs:List ByteArray}(h:∀x,v=some x→x∈fs):ZP v o fs=none:=by
 unfold ZP
 cases v with
 | none=>rfl
 | some v=>
  simp only;rw[if_neg (by rw[ZD.2 (h v rfl)];simp)]
theorem Spent.no{fs:List ByteArray}{q:Qn}(h:Spent fs q):Zaf fs q=none:=by
 unfold Zaf;rw[ZgY h.l];exact ZgY h.r
theorem Zkc{fs:List ByteArray}{q:Qn}{v:ByteArray}(hq:OkQ q)(h:Zaf fs q=some v):Spent (fs++[v]) q:=by
 unfold Zaf at h
 cases h1:ZP q.1.lone q.2.vars fs with
 | some x=>
  rw[h1]at h
  injection h with h
  subst h;obtain⟨e1,_,e3⟩:=Zbg h1;exact⟨fun y hy=>by rw[e1]at hy;injection hy with hy;simp[hy],fun y hy=>List.mem_append.2 (.inl (e3 y (hq.r y hy)))⟩
 | none=>
  rw[h1]at h;obtain⟨e1,_,e3⟩:=Zbg h;exact⟨fun y hy=>List.mem_append.2 (.inl (e3 y (hq.l y hy))),fun y hy=>by rw[e1]at hy;injection hy with hy;simp[hy]⟩
theorem ZiN{fs:List ByteArray}{q:Qn}{v:ByteArray}(h:Zaf fs q=some v):¬ v∈fs∧(q.1.lone=some v∨q.2.lone=some v):=by
 unfold Zaf at h
 cases h1:ZP q.1.lone q.2.vars fs with
 | some x=>
  rw[h1]at h
  injection h with h
  subst h;exact⟨(Zbg h1).2.1,.inl (Zbg h1).1⟩
 | none=>
  rw[h1]at h;exact⟨(Zbg h).2.1,.inr (Zbg h).1⟩
inductive Wt (fs:List ByteArray):List Qn→List Qn→Prop where
 | nil:Wt fs [] []
 | keep (q:Qn) {qa ws:List Qn}:Wt fs qa ws→Wt fs (q::qa) (q::ws)
 | skip (q:Qn) {qa ws:List Qn}:Spent fs q→Wt fs qa ws→Wt fs (q::qa) ws
theorem Wt.all(fs:List ByteArray):∀l,Wt fs l l
 | []=>.nil
 | q::l=>.keep q (Wt.all fs l)
theorem Wt.mono{fs fs':List ByteArray}(hs:∀x∈fs,x∈fs'){qa ws:List Qn}(h:Wt fs qa ws):Wt fs' qa ws:=by
 induction h with
 | nil=>exact .nil
 | keep q _ ih=>exact .keep q ih
 | skip q hq _ ih=>exact .skip q (hq.mono hs) ih
theorem Zdp:∀(ws:List Qn) (fs:List ByteArray),∀x∈fs,x∈(ZU ws fs).1
 | [],fs,x,hx=>hx
 | q::ws,fs,x,hx=>by
  unfold ZU
  cases h:Zaf fs q with
  | some v=>exact Zdp ws _ x (List.mem_append.2 (.inl hx))
  | none=>exact Zdp ws fs x hx
theorem Wt.round:∀(qa ws:List Qn) (fs:List ByteArray),(∀q∈qa,OkQ q)→Wt fs qa ws→Zbz qa fs=(ZU ws fs).1∧Wt (ZU ws fs).1 qa (ZU ws fs).2
 | [],ws,fs,_,h=>by cases h;exact⟨rfl,.nil⟩
 | q::qa,ws,fs,hok,h=>by
  have hok':∀x∈qa,OkQ x:=fun x hx=>hok x (List.mem_cons_of_mem _ hx)
  show Zbz qa (ZaP fs q)=_∧_
  cases h with
  | @keep _ _ ws' h'=>
   cases hg:Zaf fs q with
   | none=>
    have e1:ZaP fs q=fs:=by unfold ZaP;rw[hg]
    have e2:ZU (q::ws') fs=((ZU ws' fs).1,q::(ZU ws' fs).2):=by rw[ZU,hg]
    rw[e1,e2];obtain⟨h1,h2⟩:=Wt.round qa ws' fs hok' h';exact⟨h1,.keep q h2⟩
   | some v=>
    have e1:ZaP fs q=fs++[v]:=by unfold ZaP;rw[hg]
    have e2:ZU (q::ws') fs=ZU ws' (fs++[v]):=by rw[ZU,hg]
    rw[e1,e2];obtain⟨h1,h2⟩:=Wt.round qa ws' (fs++[v]) hok' (h'.mono (fun x hx=>List.mem_append.2 (.inl hx)));exact⟨h1,.skip q ((Zkc (hok q List.mem_cons_self) hg).mono (Zdp ws' _)) h2⟩
  | skip _ hs h'=>
   have e1:ZaP fs q=fs:=by unfold ZaP;rw[hs.no]
   rw[e1];obtain⟨h1,h2⟩:=Wt.round qa ws fs hok' h';exact⟨h1,.skip q (hs.mono (Zdp ws fs)) h2⟩
theorem ZeG:∀(ws:List Qn) (fs:List ByteArray),(ZU ws fs).2.length≤ws.length∧((ZU ws fs).2.length=ws.length→(ZU ws fs).1=fs)
 | [],fs=>⟨Nat.le_refl _,fun _=>rfl⟩
 | q::ws,fs=>by
  unfold ZU
  cases h:Zaf fs q with
  | some v=>
   obtain⟨h1,h2⟩:=ZeG ws (fs++[v]);simp only[List.length_cons];exact⟨by omega,fun e=>by omega⟩
  | none=>
   obtain⟨h1,h2⟩:=ZeG ws fs;simp only[List.length_cons];exact⟨by omega,fun e=>h2 (by omega)⟩
theorem ZeH:∀(qs:List Qn) (fs:List ByteArray),∃more,Zbz qs fs=fs++more
 | [],fs=>⟨[],by simp[Zbz]⟩
 | q::qs,fs=>by
  obtain⟨m,hm⟩:=ZeH qs (ZaP fs q);show ∃more,Zbz qs (ZaP fs q)=_;unfold ZaP at hm⊢
  cases h:Zaf fs q with
  | some v=>rw[h]at hm;exact⟨[v]++m,by rw[←List.append_assoc];exact hm⟩
  | none=>rw[h]at hm;exact⟨m,hm⟩
def itQ(qs:List Qn):Nat→List ByteArray→List ByteArray
 | 0,fs=>fs
 | k+1,fs=>itQ qs k (Zbz qs fs)
theorem ZfC(qs:List Qn):∀(k:Nat) (fs:List ByteArray),itQ qs (k+1) fs=Zbz qs (itQ qs k fs)
 | 0,fs=>rfl
 | k+1,fs=>ZfC qs k (Zbz qs fs)
theorem ZeI(qs:List Qn):∀(k:Nat) (fs:List ByteArray),Zbz qs fs=fs→itQ qs k fs=fs
 | 0,fs,_=>rfl
 | k+1,fs,h=>by rw[itQ,h];exact ZeI qs k fs h
theorem Zh0(qs:List Qn):∀(j k:Nat) (fs:List ByteArray),itQ qs (j+k) fs=itQ qs k (itQ qs j fs)
 | 0,k,fs=>by rw[Nat.zero_add];rfl
 | j+1,k,fs=>by rw[show j+1+k=(j+k)+1 by omega,itQ,Zh0 qs j k];rfl
theorem ZoL{qs:List Qn}{fs:List ByteArray}{j k:Nat}(hj:Zbz qs (itQ qs j fs)=itQ qs j fs)(hk:Zbz qs (itQ qs k fs)=itQ qs k fs):itQ qs j fs=itQ qs k fs:=by
 rcases Nat.le_total j k with h | h
 ·obtain⟨m,rfl⟩:=Nat.exists_eq_add_of_le h;rw[Zh0,ZeI qs m _ hj]
 ·obtain⟨m,rfl⟩:=Nat.exists_eq_add_of_le h;rw[Zh0,ZeI qs m _ hk]
def ZgZ(qs:List Qn):List ByteArray:=qs.flatMap fun q=>q.1.lone.toList++q.2.lone.toList
theorem Zkd{out:List ByteArray}(h:out.Nodup)(n:ByteArray):(Zby out n).Nodup:=by
 unfold Zby
 split
 ·exact h
 ·rename_i hc
  rw[List.nodup_append];refine⟨h,by simp,fun a ha b hb=>?_⟩;rw[List.mem_singleton.1 hb];rintro rfl;exact hc (ZD.2 ha)
theorem ZeZ:∀(l out:List ByteArray),out.Nodup→(l.foldl Zby out).Nodup
 | [],out,h=>h
 | n::l,out,h=>ZeZ l _ (Zkd h n)
theorem ZfD:∀(qs:List Qn) (fs:List ByteArray),fs.Nodup→(Zbz qs fs).Nodup
 | [],fs,h=>h
 | q::qs,fs,h=>by
  show(Zbz qs (ZaP fs q)).Nodup;refine ZfD qs _ ?_;unfold ZaP
  cases hg:Zaf fs q with
  | none=>exact h
  | some v=>
   rw[List.nodup_append];refine⟨h,by simp,fun a ha b hb=>?_⟩;rw[List.mem_singleton.1 hb];rintro rfl;exact(ZiN hg).1 ha
theorem Zlc:∀(qs:List Qn) (fs all:List ByteArray),(∀x∈fs,x∈all)→(∀x∈ZgZ qs,x∈all)→∀x∈Zbz qs fs,x∈all
 | [],fs,all,h,_,x,hx=>h x hx
 | q::qs,fs,all,h,h2,x,hx=>by
  refine Zlc qs (ZaP fs q) all (fun y hy=>?_) (fun y hy=>h2 y (by unfold ZgZ;rw[List.flatMap_cons];exact List.mem_append.2 (.inr hy))) x hx;unfold ZaP at hy
  cases hg:Zaf fs q with
  | none=>rw[hg]at hy;exact h y hy
  | some v=>
   rw[hg]at hy;rcases List.mem_append.1 hy with hy | hy
   ·exact h y hy
   ·rw[List.mem_singleton.1 hy];refine h2 v ?_;unfold ZgZ;rw[List.flatMap_cons];refine List.mem_append.2 (.inl ?_);rcases(ZiN hg).2 with k | k
    ·rw[k];simp
    ·rw[k];simp
theorem Zdq:∀(l m:List ByteArray),l.Nodup→(∀x∈l,x∈m)→l.length≤m.length
 | [],m,_,_=>Nat.zero_le _
 | x::l,m,h,hm=>by
  rw[List.nodup_cons]at h;have hx:x∈m:=hm x List.mem_cons_self
  have hlt:(m.filter (fun y=>decide (y≠x))).length<m.length:=by
   rw[List.length_filter_lt_length_iff_exists];exact⟨x,hx,by simp⟩
  have:=Zdq l (m.filter (fun y=>decide (y≠x))) h.2 (fun y hy=>by
   rw[List.mem_filter];exact⟨hm y (List.mem_cons_of_mem _ hy),decide_eq_true (fun e=>h.1 (e▸hy))⟩)
  rw[List.length_cons];omega
def sdE(d:Nat)(e:E):Sd:=⟨if e.op=0∧e.kids.length=0 then(vsT [] (Zg d e)).head? else none,vsT [] (Zg d e)⟩
theorem Zd5{d:Nat}{e:E}(h:e.kids.length=0):vsT [] (Zg (d+1) e)=if e.t.v=noS∨e.t.v=ZI then []else [e.t.v]:=by
 rw[Zao,List.length_eq_zero_iff.1 h];show vsT [] [e.t]=_;unfold vsT
 by_cases hc:e.t.v=noS∨e.t.v=ZI
 ·rw[if_pos hc,if_pos (by rcases hc with k | k;exact .inl k;exact .inr (.inl k))];rfl
 ·rw[if_neg hc,if_neg (by
   rintro(k | k | k)
   ·exact hc (.inl k)
   ·exact hc (.inr k)
   ·cases k)]
  rfl
theorem Zld(d:Nat)(e:E):∀v,(sdE d e).lone=some v→v∈(sdE d e).vars:=by
 intro v hv;unfold sdE at hv⊢;simp only at hv⊢
 split at hv
 ·exact List.mem_of_mem_head? hv
 ·cases hv
end
section
open Go.RowKit Go.Maps
attribute [local go_sem ↓] Go.wp_at_zero Go.wp_at_succ
theorem Zp{w:World}(o:Obj):Below w.heap.size w (w.alloc o):=(Below.refl _ _).alloc (Nat.le_refl _) _
def avX(y:XL):List ByteArray:=if y.x.k=1 then vsT [] y.x.ts else []
def avL(l:List XL):List ByteArray:=l.flatMap avX
def eqX(d:Nat)(y:XL):List Qn:=if y.x.k=3∧y.x.rel=1 then [(sdE d y.x.l,sdE d y.x.r)]else []
def eqL(d:Nat)(l:List XL):List Qn:=l.flatMap (eqX d)
def atN(l:List XL):List ByteArray:=(avL l).foldl Zby []
theorem Zh2{l:List XL}{k:Nat}(h:k<l.length):l.take (k+1)=l.take k++[atL l k]:=by rw[List.take_add_one,List.getElem?_eq_getElem h,ZS h];rfl
theorem ZpF{l:List ByteArray}{k:Nat}(h:k<l.length):l.take (k+1)=l.take k++[atS l k]:=by rw[List.take_add_one,List.getElem?_eq_getElem h,Zgk h];rfl
theorem ZeK:∀(l out:List ByteArray),(l.foldl Zby out).length≤out.length+l.length
 | [],out=>by simp
 | n::l,out=>by
  have:=ZeK l (Zby out n);have h2:(Zby out n).length≤out.length+1:=by unfold Zby;split<;>simp
  simp only[List.foldl_cons,List.length_cons];omega
theorem Zcq:(Tryz.prog.info? 9).map (fun i=>(i.zero,i.size,i.bytes))=some (some (.string ⟨#[]⟩),1,16):=by kernel_rfl
end
end Go.Proofs.YtjdnpgpbeppgjaaGreatDoor
