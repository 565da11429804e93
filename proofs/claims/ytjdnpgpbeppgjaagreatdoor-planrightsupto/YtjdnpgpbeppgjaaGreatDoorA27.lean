import Derived.Test.YtjdnpgpbeppgjaaGreatDoorPlMkR
import Derived.Test.YtjdnpgpbeppgjaaGreatDoorA20
import Derived.Test.YtjdnpgpbeppgjaaGreatDoorA21
import Derived.Test.YtjdnpgpbeppgjaaGreatDoorA19
set_option linter.unusedSimpArgs false
set_option linter.unusedVariables false
set_option maxHeartbeats 3200000
set_option maxRecDepth 100000
namespace Go.Proofs.YtjdnpgpbeppgjaaGreatDoor
section
open Go.RowKit Go.Maps Go.Shelf
attribute [local go_sem ↓] Go.wp_at_zero Go.wp_at_succ
attribute [-go_sem] loadVar
theorem Zp7(w:World):Lp w (.slice none 0 0) []:=⟨⟨Nat.zero_le _,none,0,rfl,Nat.le_refl _,Nat.zero_le _,fun h=>absurd h (by simp)⟩,fun t ht=>by cases ht⟩
theorem ZbK{u:World}{b:Nat}{t:TypeId}{cs:List Value}(h:RL u b t cs)(hl:cs.length=4):(loadVar 32 ⟨b,0,none⟩).run Tryz.prog u=.ok (.agg cs.toArray) u:=
 run_loadVar_mid u b 0 32 cs _ (RL.range h) Tryz.underlying32 rfl (by rw[hl];kernel_rfl)
def Zi1:Value:=.agg #[.string ⟨#[]⟩,.slice none 0 0,.slice none 0 0,.slice none 0 0]
def Zqs(d:Nat)(r:R3)(l:List ByteArray)(first:Int)(w':World)(e:Ending):Prop:=
 ∃(r':R3) (p':RP) (xs:List SX) (a:Option Addr) (c:Nat),e=.returned (.tuple #[.agg #[.string r'.pr,.slice p'.a r'.hd.length p'.c,.slice p'.ba r'.bd.length p'.bc,.slice a xs.length c],.int .i64 0])∧LikeR (ZhR [] d r) r'∧RIs w' d r' p'∧Gt d r.bd l (2^r.bd.length-1) (ZaH d l r.bd (2^r.bd.length-1) first) (xs.map SX.s)∧Lz w' (.slice a xs.length c) xs
theorem Zfq{w:World}{B:Nat}{e:TypeId}{k:Nat}{v:Value}{n:Nat}{xs:List Value}(h:w.ownsRow B e k v n xs){g:Nat}(hg:g<B)(pr:ByteArray)(ra:Option Addr)(rn rc:Nat)(ba:Option Addr)(bn bc:Nat)(aa:Option Addr)(nn cc:Nat):(pl4 w g pr ra rn rc ba bn bc aa nn cc).ownsRow B e k v n xs:=
 Zx h (fun j hj=>Zcr _ _ _ _ _ _ _ _ _ _ _ _ (by have:=(h.lt j hj).1;omega))
theorem ZnE(d:Nat)(r:R3)(p:RP)(w:World)(hKT:KT w)(hDT:DT w)(hR:RIs w (d+1) r p)(hs:Zaj (d+1) r)(hT:(Zi (d+1) r).length≤1048576){v:Value}{l:List ByteArray}(hl:Ls w v l.length (l.flatMap Zm))(hsz:∀i,i<l.length→(atS l i).size≤maxLen)(first:Int) :
  Calls Tryz.prog 9 #[r.val p,v,.int .i64 first] w fun e w'=>Below w.heap.size w w' ∧
   ((ruleB (d+1) r=false∧e=.returned (.tuple #[Zi1,.int .i64 40])) ∨
    (ruleB (d+1) r=true∧knB l l.length=false∧e=.returned (.tuple #[Zi1,.int .i64 1])) ∨
    (ruleB (d+1) r=true∧knB l l.length=true∧∃fs,ZbI (d+1) l r fs∧((fs.length≠(vsT [] (Zi (d+1) r)).length∧e=.returned (.tuple #[Zi1,.int .i64 73])) ∨
     (fs.length=(vsT [] (Zi (d+1) r)).length∧((first ≠ -1∧Zb2 r.bd (2^r.bd.length-1) first=false∧e=.returned (.tuple #[Zi1,.int .i64 120]))∨((first = -1∨Zb2 r.bd (2^r.bd.length-1) first=true)∧Zqs (d+1) r l first w' e)))))):=by
 have hA1:=Zp (w:=w) (.cells #[.string r.pr,.slice p.a r.hd.length p.c,.slice p.ba r.bd.length p.bc] 25);have hA2:Below w.heap.size w ((w.alloc (.cells #[.string r.pr,.slice p.a r.hd.length p.c,.slice p.ba r.bd.length p.bc] 25)).alloc (.cells #[.string ⟨#[]⟩,.slice none 0 0,.slice none 0 0,.slice none 0 0] 32)):=hA1.trans ((Zp _).mono hA1.size);have HRL:Hid (RL ((w.alloc (.cells #[.string r.pr,.slice p.a r.hd.length p.c,.slice p.ba r.bd.length p.bc] 25)).alloc (.cells #[.string ⟨#[]⟩,.slice none 0 0,.slice none 0 0,.slice none 0 0] 32)) w.heap.size 25 [.string r.pr,.slice p.a r.hd.length p.c,.slice p.ba r.bd.length p.bc]):=RL.below (Zk w #[.string r.pr,.slice p.a r.hd.length p.c,.slice p.ba r.bd.length p.bc] 25) (Zp _)
 have HPL:Hid (RL ((w.alloc (.cells #[.string r.pr,.slice p.a r.hd.length p.c,.slice p.ba r.bd.length p.bc] 25)).alloc (.cells #[.string ⟨#[]⟩,.slice none 0 0,.slice none 0 0,.slice none 0 0] 32)) (w.heap.size+1) 32 [.string ⟨#[]⟩,.slice none 0 0,.slice none 0 0,.slice none 0 0]):=by
  have h1:=Zk (w.alloc (.cells #[.string r.pr,.slice p.a r.hd.length p.c,.slice p.ba r.bd.length p.bc] 25)) #[.string ⟨#[]⟩,.slice none 0 0,.slice none 0 0,.slice none 0 0] 32;rw[World.size_alloc]at h1;exact h1
 have hld:=Zbp (g:=w.heap.size) (o:=0) (cs:=[.string r.pr,.slice p.a r.hd.length p.c,.slice p.ba r.bd.length p.bc]) (RL.range HRL.out) rfl;have HBG:=Lib.hid (Zg5 d r p _ (hKT.below hA2) (hR.below hA2) hs hT (hl.below hA2) hsz);have HB2:=Lib.hid hA2;have HKT:=Lib.hid hKT;have HDT:=Lib.hid hDT;have HR:=Lib.hid hR;have HSM:=Lib.hid hs;have HBD:Hid (ruleB (d+1) r=true→BdR (d+1) r.bd):=fun h=>Zie h hT
 unfold R3.val at HBG;clear hA1 hA2 hKT hDT hR hs hT hl hsz;unfold R3.val;go_enter Tryz.func9,Tryz.ntmps9;go_wp2_with fail;refine HBG.out.mono ?_;obtain⟨W,hW⟩:∃W,W=(w.alloc (.cells #[.string r.pr,.slice p.a r.hd.length p.c,.slice p.ba r.bd.length p.bc] 25)).alloc (.cells #[.string ⟨#[]⟩,.slice none 0 0,.slice none 0 0,.slice none 0 0] 32):=⟨_,rfl⟩;have HZW:Hid (W.heap.size=w.heap.size+2):=by show _=_;rw[hW];simp
 rw[←hW]at HRL HPL HB2⊢;clear hW hld HBG;rintro e w1 ⟨b1,hcase⟩;have HB1:=Lib.hid b1;have HPW:=Lib.hid (RL.below HPL.out b1);have z0:=RL.at HPW.out (j:=0) rfl;have z1:=RL.at HPW.out (j:=1) rfl;have z2:=RL.at HPW.out (j:=2) rfl;have z3:=RL.at HPW.out (j:=3) rfl;have y0:=World.rowIs.frozen HPW.out 0;have y1:=World.rowIs.frozen HPW.out 1;have y2:=World.rowIs.frozen HPW.out 2;have y3:=World.rowIs.frozen HPW.out 3
 have HWB:Hid (Below w.heap.size w w1):=HB2.out.trans (b1.mono HB2.out.size);have HNO:Hid (RL (pl4 w1 (w.heap.size+1) ⟨#[]⟩ none 0 0 none 0 0 none 0 0) (w.heap.size+1) 32 [.string ⟨#[]⟩,.slice none 0 0,.slice none 0 0,.slice none 0 0]∧Below w.heap.size w (pl4 w1 (w.heap.size+1) ⟨#[]⟩ none 0 0 none 0 0 none 0 0)):=⟨Zkr HPW.out _ _ _ _ _ _ _ _ _ _,ZeN HWB.out (Nat.le_succ _) _ _ _ _ _ _ _ _ _ _⟩
 clear b1;unfold pl4 at HNO;rcases hcase with ⟨hr0,rfl⟩ | ⟨hr1,hk0,rfl⟩ | ⟨hr1,hk1,fs,hlk,⟨hne,rfl⟩ | ⟨heq,tb,kb,rfl,htu,htb,hkb⟩⟩
 ·have HF:=Lib.hid hr0;clear hr0 HBD;go_wp2;refine bodyPost_ret (Z8 Tryz.results9 (v:=Zi1) (u:=.int .i64 40) rfl rfl (ZbK HNO.out.1 rfl)) rfl ?_;exact⟨HNO.out.2,.inl ⟨HF.out,rfl⟩⟩
 ·have HF:=Lib.hid (And.intro hr1 hk0);clear hr1 hk0 HBD;go_wp2;refine bodyPost_ret (Z8 Tryz.results9 (v:=Zi1) (u:=.int .i64 1) rfl rfl (ZbK HNO.out.1 rfl)) rfl ?_;exact⟨HNO.out.2,.inr (.inl ⟨HF.out.1,HF.out.2,rfl⟩)⟩
 ·have HF:=Lib.hid (And.intro hr1 (And.intro hk1 (And.intro hlk hne)));clear hr1 hk1 hlk hne HBD;go_wp2;refine bodyPost_ret (Z8 Tryz.results9 (v:=Zi1) (u:=.int .i64 73) rfl rfl (ZbK HNO.out.1 rfl)) rfl ?_;exact⟨HNO.out.2,.inr (.inr ⟨HF.out.1,HF.out.2.1,fs,HF.out.2.2.1,.inl ⟨HF.out.2.2.2,rfl⟩⟩)⟩
 ·have HY:=Lib.hid (And.intro hr1 (And.intro hk1 (And.intro hlk heq)));have HD:=Lib.hid (HBD.out hr1);have HTU:=Lib.hid htu;have HTB:Hid (w.heap.size+2≤tb):=by have:=HZW.out;show _≤_;omega
  have HKB:Hid (w.heap.size+2≤kb):=by have:=HZW.out;show _≤_;omega
  have HLW:Hid ((2:Nat)^r.bd.length-1<2^r.bd.length):=by
   have:0<(2:Nat)^r.bd.length:=Nat.two_pow_pos _;show _<_;omega
  have hld2:=Zbp (u:=w1) (g:=w.heap.size) (o:=0) (cs:=[.string r.pr,.slice p.a r.hd.length p.c,.slice p.ba r.bd.length p.bc]) (RL.range (RL.below HRL.out HB1.out)) rfl;have HAP:=Lib.hid (ZhS (.slice none 0 0) [] (d+1) r p w1 (HKT.out.below HWB.out) (HR.out.below HWB.out) HSM.out (Zp7 w1) (Nat.zero_le _));unfold R3.val at HAP;clear hr1 hk1 hlk heq htu htb hkb HBD
  by_cases hfi:first = -1
  ·have dfi:(first != -1)=false:=by rw[hfi];rfl
   have HFI:Hid (first = -1∨Zb2 r.bd (2^r.bd.length-1) first=true):=.inl hfi;have HFH:Hid (first = -1∨Zbu (2^r.bd.length-1) first=true):=.inl hfi;clear hfi z0 z1 z2 z3 y0 y1 y2 y3;go_wp2_with fail;refine HAP.out.mono ?_;rintro e w3 ⟨r',p',rfl,b3,hlike,hfr⟩;have HLK:=Lib.hid hlike;have HFR:=Lib.hid hfr;have HB3:=Lib.hid b3;have HPL3:=Lib.hid (RL.below HPW.out b3);have HA6:Hid (Below w3.heap.size w3 (w3.alloc (.cells #[.string r'.pr,.slice p'.a r'.hd.length p'.c,.slice p'.ba r'.bd.length p'.bc] 25))):=Zp _
   have HRX:=Lib.hid (Zk w3 #[.string r'.pr,.slice p'.a r'.hd.length p'.c,.slice p'.ba r'.bd.length p'.bc] 25);clear HAP hlike hfr b3 hld2;go_upto_region 7 with fail
   obtain⟨V,hV⟩:∃V,V=w3.alloc (.cells #[.string r'.pr,.slice p'.a r'.hd.length p'.c,.slice p'.ba r'.bd.length p'.bc] 25):=⟨_,rfl⟩;rw[←hV]at HA6 HRX⊢;have HZ3:Hid (V.heap.size=w3.heap.size+1):=by show _=_;rw[hV];simp
   clear hV;have HBV:Hid (Below w1.heap.size w1 V):=HB3.out.trans (HA6.out.mono HB3.out.size);have HWV:Hid (Below w.heap.size w V):=HWB.out.trans (HBV.out.mono HWB.out.size);have HTV:Hid (ZbN V.drew tb kb (.slice p.ba r.bd.length p.bc) l (2^r.bd.length-1)):=⟨RL.below (RL.below HTU.out.rl HBV.out) (Below.refl _ _).drew,(HTU.out.set.of_block (HBV.out.block kb HTU.out.set.lt)).of_block rfl,HTU.out.ne⟩
   have hpx:∀u,Px tb kb V.drew u→Below w.heap.size w u:=fun u hu=>HWV.out.trans (Px.below (w:=V) ⟨hu.os,hu.tape,hu.output,hu.size,hu.block⟩ HWV.out.size (by have:=HTB.out;omega) (by have:=HKB.out;omega))
   have HGT:=Lib.hid (ZdE (w:=V.drew) (d:=d+1) HTV.out (fun u hu=>(HR.out.below (hpx u hu)).bd) HD.out HLW.out (fun u hu=>HDT.out.below (hpx u hu)) (fun x hx k ss=>Zkt (HR.out.bd.each x hx) ss k) first HFH.out);refine wp_region_noPanic ?_;refine wp_region_held (S:=fun u=>RL u w3.heap.size 25 [.string r'.pr,.slice p'.a r'.hd.length p'.c,.slice p'.ba r'.bd.length p'.bc]) (by kernel_rfl) ?_
   refine Zqt (w5:=V) (S:=fun u=>RL u w3.heap.size 25 [.string r'.pr,.slice p'.a r'.hd.length p'.c,.slice p'.ba r'.bd.length p'.bc]) (tb:=tb) (b6:=w.heap.size+1) (b10:=w3.heap.size) (first:=first) (pr:=r'.pr) (ra:=p'.a) (rn:=r'.hd.length) (rc:=p'.c) (ba:=p'.ba) (bn:=r'.bd.length) (bc:=p'.bc) (Pf:=fun aa nn cc u=>∃xs:List SX,nn=xs.length∧RL u (w.heap.size+1) 32 [.string r'.pr,.slice p'.a r'.hd.length p'.c,.slice p'.ba r'.bd.length p'.bc,.slice aa xs.length cc]∧Below w.heap.size w u∧RIs u (d+1) r' p'∧Gt (d+1) r.bd l (2^r.bd.length-1) (ZaH (d+1) l r.bd (2^r.bd.length-1) first) (xs.map SX.s)∧Lz u (.slice aa xs.length cc) xs) rfl rfl rfl rfl rfl rfl rfl (by kernel_rfl) (by kernel_rfl) (by kernel_rfl) (by kernel_rfl) (by kernel_rfl) (by intros;assumption) (by simp) rfl rfl rfl rfl (RL.below HRX.out (Below.refl _ _).drew) (fun _ _ _ h=>h) (fun u hu=>Zbp (RL.range hu) rfl) ?_ ?_
   ·refine HGT.out.mono ?_;rintro e u1 ⟨hpx1,xs,a,c,rfl,hgt,hown,hgiv⟩;have h1:=HTB.out;have h2:=HKB.out;have h3:=HZ3.out;have hw3:w.heap.size+2≤w3.heap.size:=Nat.le_trans (by have:=HZW.out;have:=HB1.out.size;omega) HB3.out.size;have htl:tb<w3.heap.size:=Nat.lt_of_lt_of_le HTU.out.rl.lt HB3.out.size;have hkl:kb<w3.heap.size:=Nat.lt_of_lt_of_le HTU.out.set.lt HB3.out.size;have hV2:V.drew.heap.size=V.heap.size:=rfl
    have hrx:RL u1 w3.heap.size 25 [.string r'.pr,.slice p'.a r'.hd.length p'.c,.slice p'.ba r'.bd.length p'.bc]:=World.rowIs.of_block (RL.below HRX.out (Below.refl _ _).drew) (hpx1.block _ (by omega) (by omega) (by omega));have hpl:RL u1 (w.heap.size+1) 32 [.string ⟨#[]⟩,.slice none 0 0,.slice none 0 0,.slice none 0 0]:=World.rowIs.of_block (RL.below (RL.below HPL3.out HA6.out) (Below.refl _ _).drew) (hpx1.block _ (by omega) (by omega) (by omega))
    have hne:w3.heap.size≠w.heap.size+1:=by omega
    refine⟨a,xs.length,c,rfl,hrx,⟨_,_,_,_,hpl⟩,World.rowIs.of_block hrx (Zcr _ _ _ _ _ _ _ _ _ _ _ _ hne),xs,rfl,Zkr hpl _ _ _ _ _ _ _ _ _ _,ZeN (hpx u1 hpx1) (Nat.le_succ _) _ _ _ _ _ _ _ _ _ _,?_,hgt,?_⟩
    ·refine HFR.out _ ?_ (fun k hk1 hk2=>?_)
     ·have h4:(pl4 u1 (w.heap.size+1) r'.pr p'.a r'.hd.length p'.c p'.ba r'.bd.length p'.bc a xs.length c).heap.size=u1.heap.size:=by simp[pl4,World.setCell]
      have:=hpx1.size;omega
     ·have hk3:w1.heap.size≤k:=hk1;have ht1:tb<w1.heap.size:=HTU.out.rl.lt;have ht2:kb<w1.heap.size:=HTU.out.set.lt;have hk4:w.heap.size+1<w1.heap.size:=HPW.out.lt;rw[Zcr _ _ _ _ _ _ _ _ _ _ _ _ (by omega)];exact(hpx1.block k (by omega) (by omega) (by omega)).trans (HA6.out.block k hk2)
    ·exact⟨ZY (Zfq hown (g:=w.heap.size+1) (by omega) _ _ _ _ _ _ _ _ _ _),fun y hy=>ZY (Zfq (hgiv y hy) (g:=w.heap.size+1) (by omega) _ _ _ _ _ _ _ _ _ _)⟩
   rintro wc aa nn cc ⟨xs,rfl,hrl,hbw,hri,hgt,hlz⟩;refine NoPanic.normal ?_
   rename_i hK
   refine hK _ _ ?_;simp (config:={maxSteps:=8000000}) only[Act.put,List.getElem_toArray,List.getElem_cons_zero,List.getElem_cons_succ,List.setIfInBounds_toArray,List.set_cons_succ,List.set_cons_zero];have HRS:=Lib.hid hrl;have HFF:=Lib.hid (And.intro hbw (And.intro hri (And.intro hgt hlz)));clear hK hrl hbw hri hgt hlz HGT hpx;go_wp2;refine bodyPost_ret (Z8 Tryz.results9 (v:=.agg #[.string r'.pr,.slice p'.a r'.hd.length p'.c,.slice p'.ba r'.bd.length p'.bc,.slice aa xs.length cc]) (u:=.int .i64 0) rfl rfl (ZbK HRS.out rfl)) rfl ?_
   exact⟨HFF.out.1,.inr (.inr ⟨HY.out.1,HY.out.2.1,fs,HY.out.2.2.1,.inr ⟨HY.out.2.2.2,.inr ⟨HFI.out,r',p',xs,aa,cc,rfl,HLK.out,HFF.out.2.1,HFF.out.2.2.1,HFF.out.2.2.2⟩⟩⟩)⟩
  ·have dfi:(first != -1)=true:=by rw[bne_iff_ne];exact hfi
   have HFN:=Lib.hid hfi;have HTA:=Lib.hid (ZcI HTU.out (HR.out.below HWB.out).bd HD.out.bn HLW.out first);clear hfi;go_wp2_with fail;refine HTA.out.mono ?_;rintro e w1 ⟨rfl,rfl⟩
   cases ha:Zb2 r.bd (2^r.bd.length-1) first
   ·have HF:=Lib.hid ha;clear ha HTA HAP;go_wp2;refine bodyPost_ret (Z8 Tryz.results9 (v:=Zi1) (u:=.int .i64 120) rfl rfl (ZbK HNO.out.1 rfl)) rfl ?_;exact⟨HNO.out.2,.inr (.inr ⟨HY.out.1,HY.out.2.1,fs,HY.out.2.2.1,.inr ⟨HY.out.2.2.2,.inl ⟨HFN.out,HF.out,rfl⟩⟩⟩)⟩
   ·have HFI:Hid (first = -1∨Zb2 r.bd (2^r.bd.length-1) first=true):=.inr ha
    have HFH:Hid (first = -1∨Zbu (2^r.bd.length-1) first=true):=.inr (by
     unfold Zb2 at ha;simp only[Bool.and_eq_true]at ha;exact ha.1)
    clear ha HTA z0 z1 z2 z3 y0 y1 y2 y3;go_wp2_with fail;refine HAP.out.mono ?_;rintro e w3 ⟨r',p',rfl,b3,hlike,hfr⟩;have HLK:=Lib.hid hlike;have HFR:=Lib.hid hfr;have HB3:=Lib.hid b3;have HPL3:=Lib.hid (RL.below HPW.out b3);have HA6:Hid (Below w3.heap.size w3 (w3.alloc (.cells #[.string r'.pr,.slice p'.a r'.hd.length p'.c,.slice p'.ba r'.bd.length p'.bc] 25))):=Zp _;have HRX:=Lib.hid (Zk w3 #[.string r'.pr,.slice p'.a r'.hd.length p'.c,.slice p'.ba r'.bd.length p'.bc] 25)
    clear HAP hlike hfr b3 hld2;go_upto_region 7 with fail
    obtain⟨V,hV⟩:∃V,V=w3.alloc (.cells #[.string r'.pr,.slice p'.a r'.hd.length p'.c,.slice p'.ba r'.bd.length p'.bc] 25):=⟨_,rfl⟩;rw[←hV]at HA6 HRX⊢;have HZ3:Hid (V.heap.size=w3.heap.size+1):=by show _=_;rw[hV];simp
    clear hV;have HBV:Hid (Below w1.heap.size w1 V):=HB3.out.trans (HA6.out.mono HB3.out.size);have HWV:Hid (Below w.heap.size w V):=HWB.out.trans (HBV.out.mono HWB.out.size);have HTV:Hid (ZbN V.drew tb kb (.slice p.ba r.bd.length p.bc) l (2^r.bd.length-1)):=⟨RL.below (RL.below HTU.out.rl HBV.out) (Below.refl _ _).drew,(HTU.out.set.of_block (HBV.out.block kb HTU.out.set.lt)).of_block rfl,HTU.out.ne⟩
    have hpx:∀u,Px tb kb V.drew u→Below w.heap.size w u:=fun u hu=>HWV.out.trans (Px.below (w:=V) ⟨hu.os,hu.tape,hu.output,hu.size,hu.block⟩ HWV.out.size (by have:=HTB.out;omega) (by have:=HKB.out;omega))
    have HGT:=Lib.hid (ZdE (w:=V.drew) (d:=d+1) HTV.out (fun u hu=>(HR.out.below (hpx u hu)).bd) HD.out HLW.out (fun u hu=>HDT.out.below (hpx u hu)) (fun x hx k ss=>Zkt (HR.out.bd.each x hx) ss k) first HFH.out);refine wp_region_noPanic ?_;refine wp_region_held (S:=fun u=>RL u w3.heap.size 25 [.string r'.pr,.slice p'.a r'.hd.length p'.c,.slice p'.ba r'.bd.length p'.bc]) (by kernel_rfl) ?_
    refine Zqt (w5:=V) (S:=fun u=>RL u w3.heap.size 25 [.string r'.pr,.slice p'.a r'.hd.length p'.c,.slice p'.ba r'.bd.length p'.bc]) (tb:=tb) (b6:=w.heap.size+1) (b10:=w3.heap.size) (first:=first) (pr:=r'.pr) (ra:=p'.a) (rn:=r'.hd.length) (rc:=p'.c) (ba:=p'.ba) (bn:=r'.bd.length) (bc:=p'.bc) (Pf:=fun aa nn cc u=>∃xs:List SX,nn=xs.length∧RL u (w.heap.size+1) 32 [.string r'.pr,.slice p'.a r'.hd.length p'.c,.slice p'.ba r'.bd.length p'.bc,.slice aa xs.length cc]∧Below w.heap.size w u∧RIs u (d+1) r' p'∧Gt (d+1) r.bd l (2^r.bd.length-1) (ZaH (d+1) l r.bd (2^r.bd.length-1) first) (xs.map SX.s)∧Lz u (.slice aa xs.length cc) xs) rfl rfl rfl rfl rfl rfl rfl (by kernel_rfl) (by kernel_rfl) (by kernel_rfl) (by kernel_rfl) (by kernel_rfl) (by intros;assumption) (by simp) rfl rfl rfl rfl (RL.below HRX.out (Below.refl _ _).drew) (fun _ _ _ h=>h) (fun u hu=>Zbp (RL.range hu) rfl) ?_ ?_
    ·refine HGT.out.mono ?_;rintro e u1 ⟨hpx1,xs,a,c,rfl,hgt,hown,hgiv⟩;have h1:=HTB.out;have h2:=HKB.out;have h3:=HZ3.out;have hw3:w.heap.size+2≤w3.heap.size:=Nat.le_trans (by have:=HZW.out;have:=HB1.out.size;omega) HB3.out.size;have htl:tb<w3.heap.size:=Nat.lt_of_lt_of_le HTU.out.rl.lt HB3.out.size;have hkl:kb<w3.heap.size:=Nat.lt_of_lt_of_le HTU.out.set.lt HB3.out.size;have hV2:V.drew.heap.size=V.heap.size:=rfl
     have hrx:RL u1 w3.heap.size 25 [.string r'.pr,.slice p'.a r'.hd.length p'.c,.slice p'.ba r'.bd.length p'.bc]:=World.rowIs.of_block (RL.below HRX.out (Below.refl _ _).drew) (hpx1.block _ (by omega) (by omega) (by omega));have hpl:RL u1 (w.heap.size+1) 32 [.string ⟨#[]⟩,.slice none 0 0,.slice none 0 0,.slice none 0 0]:=World.rowIs.of_block (RL.below (RL.below HPL3.out HA6.out) (Below.refl _ _).drew) (hpx1.block _ (by omega) (by omega) (by omega))
     have hne:w3.heap.size≠w.heap.size+1:=by omega
     refine⟨a,xs.length,c,rfl,hrx,⟨_,_,_,_,hpl⟩,World.rowIs.of_block hrx (Zcr _ _ _ _ _ _ _ _ _ _ _ _ hne),xs,rfl,Zkr hpl _ _ _ _ _ _ _ _ _ _,ZeN (hpx u1 hpx1) (Nat.le_succ _) _ _ _ _ _ _ _ _ _ _,?_,hgt,?_⟩
     ·refine HFR.out _ ?_ (fun k hk1 hk2=>?_)
      ·have h4:(pl4 u1 (w.heap.size+1) r'.pr p'.a r'.hd.length p'.c p'.ba r'.bd.length p'.bc a xs.length c).heap.size=u1.heap.size:=by simp[pl4,World.setCell]
       have:=hpx1.size;omega
      ·have hk3:w1.heap.size≤k:=hk1;have ht1:tb<w1.heap.size:=HTU.out.rl.lt;have ht2:kb<w1.heap.size:=HTU.out.set.lt;have hk4:w.heap.size+1<w1.heap.size:=HPW.out.lt;rw[Zcr _ _ _ _ _ _ _ _ _ _ _ _ (by omega)];exact(hpx1.block k (by omega) (by omega) (by omega)).trans (HA6.out.block k hk2)
     ·exact⟨ZY (Zfq hown (g:=w.heap.size+1) (by omega) _ _ _ _ _ _ _ _ _ _),fun y hy=>ZY (Zfq (hgiv y hy) (g:=w.heap.size+1) (by omega) _ _ _ _ _ _ _ _ _ _)⟩
    rintro wc aa nn cc ⟨xs,rfl,hrl,hbw,hri,hgt,hlz⟩;refine NoPanic.normal ?_
    rename_i hK
    refine hK _ _ ?_;simp (config:={maxSteps:=8000000}) only[Act.put,List.getElem_toArray,List.getElem_cons_zero,List.getElem_cons_succ,List.setIfInBounds_toArray,List.set_cons_succ,List.set_cons_zero];have HRS:=Lib.hid hrl;have HFF:=Lib.hid (And.intro hbw (And.intro hri (And.intro hgt hlz)));clear hK hrl hbw hri hgt hlz HGT hpx;go_wp2;refine bodyPost_ret (Z8 Tryz.results9 (v:=.agg #[.string r'.pr,.slice p'.a r'.hd.length p'.c,.slice p'.ba r'.bd.length p'.bc,.slice aa xs.length cc]) (u:=.int .i64 0) rfl rfl (ZbK HRS.out rfl)) rfl ?_
    exact⟨HFF.out.1,.inr (.inr ⟨HY.out.1,HY.out.2.1,fs,HY.out.2.2.1,.inr ⟨HY.out.2.2.2,.inr ⟨HFI.out,r',p',xs,aa,cc,rfl,HLK.out,HFF.out.2.1,HFF.out.2.2.1,HFF.out.2.2.2⟩⟩⟩)⟩
end
section
open Go.RowKit Go.Maps Go.Shelf
theorem LikeR.atX{r s:R3}(h:LikeR r s)(i:Nat):(atL s.bd i).x=(atL r.bd i).x:=by
 by_cases hi:i<r.bd.length
 ·exact h.bd i hi
 ·have h1:r.bd.length≤i:=by omega
  have h2:s.bd.length≤i:=by rw[h.bl];exact h1
  unfold atL;rw[List.getD,List.getD,List.getElem?_eq_none h1,List.getElem?_eq_none h2]
theorem LikeR.stL{r s:R3}(h:LikeR r s)(d:Nat)(ss:List ByteArray)(k:Nat):Go.Proofs.YtjdnpgpbeppgjaaGreatDoor.stL d ss s.bd k=Go.Proofs.YtjdnpgpbeppgjaaGreatDoor.stL d ss r.bd k:=by
 unfold Go.Proofs.YtjdnpgpbeppgjaaGreatDoor.stL;rw[h.atX]
theorem LikeR.okW{r s:R3}(h:LikeR r s)(d:Nat)(ss:List ByteArray)(left:Nat)(x:St):Go.Proofs.YtjdnpgpbeppgjaaGreatDoor.okW d s.bd ss left x=Go.Proofs.YtjdnpgpbeppgjaaGreatDoor.okW d r.bd ss left x:=by
 unfold Go.Proofs.YtjdnpgpbeppgjaaGreatDoor.okW;rw[h.stL]
theorem LikeR.goR{r s:R3}(h:LikeR r s)(d:Nat):∀(xs:List St) (ss:List ByteArray) (left:Nat),Go.Proofs.YtjdnpgpbeppgjaaGreatDoor.goR d s.bd ss left xs=Go.Proofs.YtjdnpgpbeppgjaaGreatDoor.goR d r.bd ss left xs
 | [],ss,left=>rfl
 | x::xs,ss,left=>by
  rw[Go.Proofs.YtjdnpgpbeppgjaaGreatDoor.goR,Go.Proofs.YtjdnpgpbeppgjaaGreatDoor.goR,h.okW,h.stL,LikeR.goR h d xs]
theorem Zjx(d:Nat):∀{l m:List XL},l.map XL.x=m.map XL.x→eqL d l=eqL d m
 | [],[],_=>rfl
 | [],y::m,h=>by cases h
 | y::l,[],h=>by cases h
 | y::l,z::m,h=>by
  rw[List.map_cons,List.map_cons]at h
  injection h with h1 h2
  have ih:=Zjx d h2;unfold eqL at ih⊢;rw[List.flatMap_cons,List.flatMap_cons,ih];unfold eqX;rw[h1]
theorem Zjy:∀{l m:List XL},l.map XL.x=m.map XL.x→avL l=avL m
 | [],[],_=>rfl
 | [],y::m,h=>by cases h
 | y::l,[],h=>by cases h
 | y::l,z::m,h=>by
  rw[List.map_cons,List.map_cons]at h
  injection h with h1 h2
  have ih:=Zjy h2;unfold avL at ih⊢;rw[List.flatMap_cons,List.flatMap_cons,ih];unfold avX;rw[h1]
theorem LikeR.limK{r s:R3}(h:LikeR r s){d:Nat}{ss fs:List ByteArray}(hl:ZbI d ss s fs):ZbI d ss r fs:=by
 have e0:(kbL d ss s).map XL.x=(kbL d ss r).map XL.x:=by
  unfold kbL;rw[h.terms d,List.map_cons,List.map_cons,h.map]
 have e1:=Zjx d e0
 have e2:atN (kbL d ss s)=atN (kbL d ss r):=by
  unfold atN;rw[Zjy e0]
 obtain⟨⟨k,hk⟩,hs⟩:=hl;rw[e1,e2]at hk;rw[e1]at hs;exact⟨⟨k,hk⟩,hs⟩
theorem Zdi{d:Nat}{r:R3}{y:XL}(hy:y∈r.bd){us:List T}(h:∀t∈us,t∈Zl d y.x):∀m∈vsT [] us,m∈vsT [] (Zi d r):=fun m hm=>Zfn (fun t ht=>by
  unfold Zi;exact List.mem_append.2 (.inr (List.mem_flatMap.2 ⟨y,hy,h t ht⟩))) m hm
theorem Zpi{d:Nat}{r:R3}{l fs:List ByteArray}(hL:ZbI (d+1) l r fs):(∀x∈fs,x∈vsT [] (Zi (d+1) r))∧fs.Nodup:=by
 have hat:∀x∈atN (kbL (d+1) l r),x∈vsT [] (Zi (d+1) r):=fun x hx2=>by
  unfold atN at hx2;rcases ZfJ _ _ x hx2 with h1 | h1
  ·cases h1
  ·unfold avL at h1;obtain⟨y,hy,hxy⟩:=List.mem_flatMap.1 h1;rcases List.mem_cons.1 hy with rfl | hy
   ·obtain⟨_,_,t,ht,e⟩:=ZbF.1 (show x∈vsT [] (Z7 l (vsT [] (Zi (d+1) r)))from hxy);unfold Z7 at ht;obtain⟨m,hm,rfl⟩:=List.mem_map.1 ht;have hm2:=List.mem_filter.1 hm;have e':m=x:=e;subst e';exact hm2.1
   ·unfold avX at hxy
    split at hxy
    ·exact Zdi hy (fun t ht=>ZaG.2 (.inl ht)) x hxy
    ·cases hxy
 have hlone:∀x∈ZgZ (eqL (d+1) (kbL (d+1) l r)),x∈vsT [] (Zi (d+1) r):=fun x hx2=>by
  unfold ZgZ at hx2;obtain⟨q,hq,hxq⟩:=List.mem_flatMap.1 hx2;unfold eqL at hq;obtain⟨y,hy,hqy⟩:=List.mem_flatMap.1 hq;rcases List.mem_cons.1 hy with rfl | hy
  ·cases hqy
  ·unfold eqX at hqy
   split at hqy
   ·obtain rfl:=List.mem_singleton.1 hqy;rcases List.mem_append.1 hxq with h1 | h1
    ·exact Zdi hy (fun t ht=>ZaG.2 (.inr (.inl ht))) x (Zld (d+1) y.x.l x (Option.mem_toList.1 h1))
    ·exact Zdi hy (fun t ht=>ZaG.2 (.inr (.inr ht))) x (Zld (d+1) y.x.r x (Option.mem_toList.1 h1))
   ·cases hqy
 obtain⟨⟨k,rfl⟩,_⟩:=hL;exact Zlf _ hlone k _ hat (ZeZ _ _ List.nodup_nil)
theorem ZmO{d:Nat}{r:R3}{l fs:List ByteArray}(hL:ZbI (d+1) l r fs):fs.length=(vsT [] (Zi (d+1) r)).length↔∀n∈vsT [] (Zi (d+1) r),n∈fs:=by
 obtain⟨h1,h2⟩:=Zpi hL;have h3:(vsT [] (Zi (d+1) r)).Nodup:=ZbV _ _ List.nodup_nil;constructor
 ·intro hlen n hn;apply Classical.byContradiction;intro hnf;have hle:=Zdq fs ((vsT [] (Zi (d+1) r)).filter (fun m=>decide (m≠n))) h2 (fun x hx=>List.mem_filter.2 ⟨h1 x hx,decide_eq_true (fun e=>hnf (e▸hx))⟩);have hlt:((vsT [] (Zi (d+1) r)).filter (fun m=>decide (m≠n))).length<(vsT [] (Zi (d+1) r)).length:=List.length_filter_lt_length_iff_exists.2 ⟨n,hn,by simp⟩;omega
 ·intro h;have a:=Zdq _ _ h2 h1;have b:=Zdq _ _ h3 h;omega
theorem ZkL{qs:List Qn}{fs:List ByteArray}(h:Zbz qs fs=fs):∀q∈qs,Zlx fs q:=fun q hq=>by
 have h1:=Zfy qs fs h q hq;refine⟨fun v hv hm=>?_,fun v hv hm=>?_⟩
 ·apply Classical.byContradiction;intro hn;refine ZiL hn ?_ h1;unfold ZoD;rw[decide_eq_true hv,List.all_eq_true.2 (fun y hy=>ZD.2 (hm y hy))];rfl
 ·apply Classical.byContradiction;intro hn;refine ZiL hn ?_ h1;unfold ZoD;rw[decide_eq_true hv,List.all_eq_true.2 (fun y hy=>ZD.2 (hm y hy)),Bool.or_eq_true];exact .inr rfl
def ZM(e:E):ByteArray:=if e.op=0 then e.t.v else noS
def Z5(a b:List ByteArray):Bool:=a.all (inB b)
def ZN(d:Nat)(x:Lit4)(ss:List ByteArray):ByteArray:=
 if x.k≠3∨x.rel≠1 then noS
 else if ZM x.l≠noS∧inB ss (ZM x.l)=false∧Z5 (vsT [] (Zg d x.r)) ss=true then ZM x.l
 else if ZM x.r≠noS∧inB ss (ZM x.r)=false∧Z5 (vsT [] (Zg d x.l)) ss=true then ZM x.r
 else noS
def Zhf(M n:Nat):Int:=if M=2^n-1 then 3 else if M=0 then 1 else 2
def ZT(d:Nat)(ss:List ByteArray)(x:Lit4)(k:Nat):St × Bool:=
 if x.k=2 then(⟨4,(k:Int),((Zaz ss x.ts x.ts.length:Nat):Int),[]⟩,Z5 (vsT [] (Zl d x)) ss)
 else if x.k=3 then(if Z5 (vsT [] (Zl d x)) ss=true then(⟨5,(k:Int),0,[]⟩,true)else(⟨6,(k:Int),0,[ZN d x ss]⟩,decide (ZN d x ss≠noS)))
 else(⟨Zhf (Zaz ss x.ts x.ts.length) x.ts.length,(k:Int),((Zaz ss x.ts x.ts.length:Nat):Int),ZA ss (vsT [] (Zl d x))⟩,true)
theorem ZaZ{a b:List ByteArray}:Z5 a b=true↔∀n∈a,n∈b:=by
 unfold Z5;rw[List.all_eq_true];exact⟨fun h n hn=>ZD.1 (h n hn),fun h n hn=>ZD.2 (h n hn)⟩
theorem Zf5{ss l:List ByteArray}{n:ByteArray}:n∈ZA ss l↔n∈l∧n ∉ ss:=by
 unfold ZA;rw[List.mem_filter];constructor
 ·rintro⟨h1,h2⟩;refine⟨h1,fun h=>?_⟩;rw[ZD.2 h]at h2
  cases h2
 ·rintro⟨h1,h2⟩;refine⟨h1,?_⟩
  cases hb:inB ss n
  ·rfl
  ·exact absurd (ZD.1 hb) h2
theorem Zdy{ss l:List ByteArray}:(ZA ss l).length=0↔Z5 l ss=true:=by
 rw[ZaZ,List.length_eq_zero_iff];constructor
 ·intro h n hn;apply Classical.byContradiction;intro hns;have:n∈ZA ss l:=Zf5.2 ⟨hn,hns⟩;rw[h]at this
  cases this
 ·intro h;rw[List.eq_nil_iff_forall_not_mem];intro n hn;exact(Zf5.1 hn).2 (h n (Zf5.1 hn).1)
theorem Zdb:∀(ts:List T) (out:List ByteArray),(∀t∈ts,t.v=noS)→vsT out ts=out
 | [],out,_=>rfl
 | t::ts,out,h=>by
  rw[vsT,if_pos (.inl (h t (by simp)))];exact Zdb ts out (fun s hs=>h s (by simp[hs]))
theorem ZcO:∀(ts us:List T) (out:List ByteArray),vsT out (ts++us)=vsT (vsT out ts) us
 | [],us,out=>rfl
 | t::ts,us,out=>by
  rw[List.cons_append,vsT,vsT]
  split
  ·exact ZcO ts us out
  ·exact ZcO ts us _
theorem Zhg{d:Nat}{e:E}{ss:List ByteArray}(hk:e.kids.length=0)(ho:e.op=0)(hl:(ZA ss (vsT [] (Zg (d+1) e))).length≠0):ZM e≠noS∧inB ss (ZM e)=false∧ZA ss (vsT [] (Zg (d+1) e))=[ZM e]:=by
 have h1:=Zd5 (d:=d) hk;have h2:ZM e=e.t.v:=by unfold ZM;rw[if_pos ho]
 rw[h1]at hl⊢;rw[h2]
 by_cases hn:e.t.v=noS∨e.t.v=ZI
 ·rw[if_pos hn]at hl;exact absurd rfl hl
 ·rw[if_neg hn]at hl⊢
  cases hb:inB ss e.t.v
  ·refine⟨fun h=>hn (.inl h),rfl,?_⟩;unfold ZA;rw[List.filter_cons_of_pos (by rw[hb];rfl)];rfl
  ·exfalso
   apply hl;unfold ZA;rw[List.filter_cons_of_neg (by rw[hb];decide)];rfl
def Zdc(x:Lit4):Prop:=(x.l.op=0→x.l.kids.length=0)∧(x.r.op=0→x.r.kids.length=0)
theorem ZnQ{d:Nat}{ss:List ByteArray}{x:Lit4}(hk:x.k=3)(hts:x.ts=[])(hL:Zdc x)(k:Nat):(ZT (d+1) ss x k).2=((stM (d+1) ss x k).k != 0)∧((stM (d+1) ss x k).k≠0→(ZT (d+1) ss x k).1=stM (d+1) ss x k):=by
 have hv:vsT [] (Zl (d+1) x)=vsT (vsT [] (Zg (d+1) x.l)) (Zg (d+1) x.r):=by
  unfold Zl;rw[hts,List.nil_append,ZcO]
 have hall:Z5 (vsT [] (Zl (d+1) x)) ss=true↔Z5 (vsT [] (Zg (d+1) x.l)) ss=true∧Z5 (vsT [] (Zg (d+1) x.r)) ss=true:=by
  rw[ZaZ,ZaZ,ZaZ];constructor
  ·intro h;exact⟨fun n hn=>h n (Zfn (fun t ht=>ZaG.2 (.inr (.inl ht))) n hn),fun n hn=>h n (Zfn (fun t ht=>ZaG.2 (.inr (.inr ht))) n hn)⟩
  ·rintro⟨h1,h2⟩ n hn;obtain⟨a1,a2,t,ht,e⟩:=ZbF.1 hn;rcases ZaG.1 ht with h | h | h
   ·rw[hts]at h
    cases h
   ·exact h1 n (ZbF.2 ⟨a1,a2,t,h,e⟩)
   ·exact h2 n (ZbF.2 ⟨a1,a2,t,h,e⟩)
 have hc0:Zaz ss x.ts x.ts.length=0:=by rw[hts];rfl
 have hA:=@Zdy ss (vsT [] (Zg (d+1) x.l));have hB:=@Zdy ss (vsT [] (Zg (d+1) x.r));have e1:¬ x.k=1:=by rw[hk];decide
 have e2:¬ x.k=2:=by rw[hk];decide
 unfold ZT stM;rw[if_neg e1,if_neg e2,if_neg e2,if_pos hk,hc0];unfold Zal
 by_cases hab:(ZA ss (vsT [] (Zg (d+1) x.l))).length=0∧(ZA ss (vsT [] (Zg (d+1) x.r))).length=0
 ·rw[if_pos hab,if_pos (hall.2 ⟨hA.1 hab.1,hB.1 hab.2⟩)];exact⟨rfl,fun _=>rfl⟩
 ·rw[if_neg hab,if_neg (fun h=>hab ⟨hA.2 (hall.1 h).1,hB.2 (hall.1 h).2⟩)];unfold ZN
  by_cases hr:x.rel=1
  ·have r1:¬ x.rel≠1:=fun h=>h hr
   have r2:¬ (x.k≠3∨x.rel≠1):=fun h=>by
    rcases h with h | h
    ·exact h hk
    ·exact h hr
   rw[if_neg r1,if_neg r2]
   by_cases hl:(ZA ss (vsT [] (Zg (d+1) x.r))).length=0∧x.l.op=0
   ·obtain⟨q1,q2,q3⟩:=Zhg (d:=d) (ss:=ss) (hL.1 hl.2) hl.2 (fun h=>hab ⟨h,hl.1⟩);have c1:ZM x.l≠noS∧inB ss (ZM x.l)=false∧Z5 (vsT [] (Zg (d+1) x.r)) ss=true:=⟨q1,q2,hB.1 hl.1⟩;rw[if_pos hl,if_pos c1,q3];exact⟨decide_eq_true q1,fun _=>rfl⟩
   ·have c1:¬ (ZM x.l≠noS∧inB ss (ZM x.l)=false∧Z5 (vsT [] (Zg (d+1) x.r)) ss=true):=fun h=>by
     have h1:x.l.op=0:=by
      apply Classical.byContradiction;intro hh;apply h.1;unfold ZM;rw[if_neg hh]
     exact hl ⟨hB.2 h.2.2,h1⟩
    rw[if_neg hl,if_neg c1]
    by_cases hl2:(ZA ss (vsT [] (Zg (d+1) x.l))).length=0∧x.r.op=0
    ·obtain⟨q1,q2,q3⟩:=Zhg (d:=d) (ss:=ss) (hL.2 hl2.2) hl2.2 (fun h=>hab ⟨hl2.1,h⟩);have c2:ZM x.r≠noS∧inB ss (ZM x.r)=false∧Z5 (vsT [] (Zg (d+1) x.l)) ss=true:=⟨q1,q2,hA.1 hl2.1⟩;rw[if_pos hl2,if_pos c2,q3];exact⟨decide_eq_true q1,fun _=>rfl⟩
    ·have c2:¬ (ZM x.r≠noS∧inB ss (ZM x.r)=false∧Z5 (vsT [] (Zg (d+1) x.l)) ss=true):=fun h=>by
      have h1:x.r.op=0:=by
       apply Classical.byContradiction;intro hh;apply h.1;unfold ZM;rw[if_neg hh]
      exact hl2 ⟨hA.2 h.2.2,h1⟩
     rw[if_neg hl2,if_neg c2];exact⟨rfl,fun h=>absurd rfl h⟩
  ·have r2:x.k≠3∨x.rel≠1:=.inr hr;rw[if_pos hr,if_pos r2];exact⟨rfl,fun h=>absurd rfl h⟩
theorem Zdz{d:Nat}{e:E}(h:noE e=true):∀t∈Zg d e,t.v=noS:=by
 have h':(decide (e.op=0)&&(decide (e.t=T0)&&decide (e.kids.length=0)))=true:=h;simp only[Bool.and_eq_true,decide_eq_true_eq]at h';intro t ht
 cases d with
 | zero=>cases ht
 | succ d=>
  rw[Zao,List.length_eq_zero_iff.1 h'.2.2]at ht;rw[List.mem_singleton.1 ht,h'.2.1];rfl
theorem Zo8{d:Nat}{ss:List ByteArray}{x:Lit4}(hx:ZQ x=true)(hL:Zdc x)(k:Nat):(ZT (d+1) ss x k).2=((stM (d+1) ss x k).k != 0)∧((stM (d+1) ss x k).k≠0→(ZT (d+1) ss x k).1=stM (d+1) ss x k):=by
 unfold ZQ at hx
 by_cases h12:x.k=1∨x.k=2
 ·rw[if_pos h12]at hx;simp only[Bool.and_eq_true]at hx
  have hv:vsT [] (Zl (d+1) x)=vsT [] x.ts:=by
   unfold Zl;rw[ZcO,ZcO,Zdb _ _ (Zdz hx.2.2.1),Zdb _ _ (Zdz hx.2.2.2)]
  rcases h12 with h1 | h2
  ·have e2:¬ x.k=2:=by rw[h1];decide
   have e3:¬ x.k=3:=by rw[h1];decide
   unfold ZT stM;rw[if_pos h1,if_neg e2,if_neg e3,hv]
   have hk:ZfM (Zaz ss x.ts x.ts.length) x.ts.length≠0:=by
    unfold ZfM
    split
    ·decide
    ·split<;>decide
   exact⟨by simpa using hk,fun _=>rfl⟩
  ·have e1:¬ x.k=1:=by rw[h2];decide
   unfold ZT stM;rw[if_neg e1,if_pos h2,if_pos h2,hv]
   by_cases ha:(ZA ss (vsT [] x.ts)).length=0
   ·rw[if_pos ha,Zdy.1 ha];exact⟨rfl,fun _=>rfl⟩
   ·rw[if_neg ha];have:Z5 (vsT [] x.ts) ss=false:=Bool.eq_false_iff.2 (fun h=>ha (Zdy.2 h));rw[this];exact⟨rfl,fun h=>absurd rfl h⟩
 ·rw[if_neg h12]at hx
  split at hx
  ·next h3=>
   simp only[Bool.and_eq_true,decide_eq_true_eq]at hx;exact ZnQ h3 (List.length_eq_zero_iff.1 hx.2.1) hL k
  ·cases hx
def okQ(d:Nat)(l:List XL)(ss:List ByteArray)(left:Nat)(s:St):Bool:=
 decide (0≤s.i)&&(decide (s.i.toNat<l.length)&&(left.testBit s.i.toNat&&((ZT d ss (atL l s.i.toNat).x s.i.toNat).2&&(decide ((ZT d ss (atL l s.i.toNat).x s.i.toNat).1.k=s.k)&&(decide ((ZT d ss (atL l s.i.toNat).x s.i.toNat).1.m=s.m)&&decide ((ZT d ss (atL l s.i.toNat).x s.i.toNat).1.g=s.g))))))
theorem Zqd{d:Nat}{l:List XL}{ss:List ByteArray}{left:Nat}{s:St}(hl:left<2^l.length)(hx:l.all (fun y=>ZQ y.x)=true)(hL:∀y∈l,Zdc y.x):okQ (d+1) l ss left s=okW (d+1) l ss left s:=by
 unfold okQ okW Zbu
 by_cases h0:0≤s.i
 ·by_cases hi:s.i.toNat<l.length
  ·have hm:atL l s.i.toNat∈l:=by
    rw[ZS hi];exact List.getElem_mem hi
   rw[List.all_eq_true]at hx;obtain⟨h1,h2⟩:=Zo8 (d:=d) (ss:=ss) (hx _ hm) (hL _ hm) s.i.toNat;have hs:stL (d+1) ss l s.i.toNat=stM (d+1) ss (atL l s.i.toNat).x s.i.toNat:=rfl
   have hii:(stM (d+1) ss (atL l s.i.toNat).x s.i.toNat).i=s.i:=by
    rw[←hs,Zny];omega
   rw[decide_eq_true h0,decide_eq_true hi,h1,hs]
   cases hk:((stM (d+1) ss (atL l s.i.toNat).x s.i.toNat).k != 0)
   ·simp
   ·rw[h2 (by rw[bne_iff_ne]at hk;exact hk)];unfold Za2;rw[decide_eq_true hii.symm];simp[eq_comm]
  ·have hb:left.testBit s.i.toNat=false:=Nat.testBit_lt_two_pow (Nat.lt_of_lt_of_le hl (Nat.pow_le_pow_right (by omega) (by omega)));rw[decide_eq_false hi,hb];simp
 ·rw[decide_eq_false h0];simp
def ZaV(d:Nat)(l:List ByteArray)(y:XL):List ByteArray:=if ZN d y.x l≠noS then l++[ZN d y.x l]else l
def Zeh(d:Nat)(bd:List XL)(l:List ByteArray):List ByteArray:=bd.foldl (ZaV d) l
theorem Zhh(d:Nat)(l:List ByteArray)(y:XL):∀n∈l,n∈ZaV d l y:=fun n hn=>by
 unfold ZaV
 split
 ·exact List.mem_append.2 (.inl hn)
 ·exact hn
theorem Zmq(d:Nat)(l:List ByteArray)(y:XL):l.length≤(ZaV d l y).length:=by
 unfold ZaV
 split<;>simp
theorem Zei(d:Nat):∀(bd:List XL) (l:List ByteArray),l.length≤(Zeh d bd l).length
 | [],l=>Nat.le_refl _
 | y::bd,l=>Nat.le_trans (Zmq d l y) (Zei d bd (ZaV d l y))
theorem Zf6{d:Nat}:∀{bd:List XL} {l:List ByteArray},(Zeh d bd l).length=l.length→∀y∈bd,ZN d y.x l=noS
 | [],l,_,y,hy=>by cases hy
 | z::bd,l,h,y,hy=>by
  have h1:(Zeh d bd (ZaV d l z)).length=l.length:=h;have h2:=Zei d bd (ZaV d l z)
  have h3:ZN d z.x l=noS:=by
   apply Classical.byContradiction;intro hz
   have:(ZaV d l z).length=l.length+1:=by
    unfold ZaV;rw[if_pos hz];simp
   omega
  have h4:ZaV d l z=l:=by
   unfold ZaV;rw[if_neg (fun hh=>hh h3)]
  rw[h4]at h1;rcases List.mem_cons.1 hy with rfl | hy
  ·exact h3
  ·exact Zf6 h1 y hy
theorem Zhi{d:Nat}{e:E}{v:ByteArray}(h:(sdE (d+1) e).lone=some v):e.op=0∧ZM e=v∧v≠noS∧v≠ZI:=by
 unfold sdE at h;simp only at h
 split at h
 ·next hh=>
  rw[Zd5 hh.2]at h
  by_cases hn:e.t.v=noS∨e.t.v=ZI
  ·rw[if_pos hn]at h
   cases h
  ·rw[if_neg hn]at h
   injection h with h
   refine⟨hh.1,?_,fun e1=>hn (.inl (h.trans e1)),fun e1=>hn (.inr (h.trans e1))⟩;unfold ZM;rw[if_pos hh.1];exact h
 ·cases h
theorem Zlp{d:Nat}{e:E}(ho:e.op=0)(hk:e.kids.length=0)(h1:e.t.v≠noS)(h2:e.t.v≠ZI):(sdE (d+1) e).lone=some e.t.v:=by
 unfold sdE;simp only;rw[if_pos ⟨ho,hk⟩,Zd5 hk,if_neg (fun h=>by rcases h with h | h;exact h1 h;exact h2 h)];rfl
theorem Zky{d:Nat}{x:Lit4}{l:List ByteArray}(h:ZN d x l≠noS):x.k=3∧x.rel=1∧((ZN d x l=ZM x.l∧Z5 (vsT [] (Zg d x.r)) l=true)∨(ZN d x l=ZM x.r∧Z5 (vsT [] (Zg d x.l)) l=true)):=by
 unfold ZN at h⊢
 by_cases h0:x.k≠3∨x.rel≠1
 ·rw[if_pos h0]at h;exact absurd rfl h
 ·rw[if_neg h0]at h⊢;have hk:x.k=3:=Classical.byContradiction fun hh=>h0 (.inl hh)
  have hr:x.rel=1:=Classical.byContradiction fun hh=>h0 (.inr hh)
  refine⟨hk,hr,?_⟩
  split
  ·next hc=>exact .inl ⟨rfl,hc.2.2⟩
  ·next hc=>
   rw[if_neg hc]at h
   split
   ·next hc2=>exact .inr ⟨rfl,hc2.2.2⟩
   ·next hc2=>
    rw[if_neg hc2]at h;exact absurd rfl h
theorem Zje{e:E}(h:ZM e≠noS):e.op=0∧ZM e=e.t.v:=by
 by_cases ho:e.op=0
 ·exact⟨ho,by unfold ZM;rw[if_pos ho]⟩
 ·exfalso
  apply h;unfold ZM;rw[if_neg ho]
def ZnR(d:Nat)(r:R3)(fs l:List ByteArray):Prop:=∀n∈l,n∈fs∨n ∉ vsT [] (Zi d r)
theorem ZnS{d:Nat}{r:R3}{ss fs l:List ByteArray}(hK:ZbI (d+1) ss r fs)(hL:∀y∈r.bd,Zdc y.x){y:XL}(hy:y∈r.bd)(h:ZnR (d+1) r fs l):ZnR (d+1) r fs (ZaV (d+1) l y):=by
 intro n hn;unfold ZaV at hn
 split at hn
 ·next hs=>
  rcases List.mem_append.1 hn with hn | hn
  ·exact h n hn
  ·obtain rfl:=List.mem_singleton.1 hn
   by_cases hb:ZN (d+1) y.x l=ZI
   ·right;intro hm;exact(ZbF.1 hm).2.1 hb
   ·left;obtain⟨hk,hr,hc⟩:=Zky hs
    have hq:(sdE (d+1) y.x.l,sdE (d+1) y.x.r)∈eqL (d+1) r.bd:=List.mem_flatMap.2 ⟨y,hy,by
     unfold eqX;rw[if_pos ⟨hk,hr⟩];exact List.mem_singleton.2 rfl⟩
    have hst:Zbz (eqL (d+1) r.bd) fs=fs:=hK.st;have hsh:=ZkL hst _ hq;rcases hc with ⟨e1,e2⟩ | ⟨e1,e2⟩
    ·rw[e1]at hs hb⊢;obtain⟨o1,o2⟩:=Zje hs;rw[o2]at hs hb⊢;refine hsh.1 _ (Zlp o1 ((hL y hy).1 o1) hs hb) (fun m hm=>?_);rcases h m (ZaZ.1 e2 m hm)with h1 | h1
     ·exact h1
     ·exact absurd (Zdi hy (fun t ht=>ZaG.2 (.inr (.inr ht))) m hm) h1
    ·rw[e1]at hs hb⊢;obtain⟨o1,o2⟩:=Zje hs;rw[o2]at hs hb⊢;refine hsh.2 _ (Zlp o1 ((hL y hy).2 o1) hs hb) (fun m hm=>?_);rcases h m (ZaZ.1 e2 m hm)with h1 | h1
     ·exact h1
     ·exact absurd (Zdi hy (fun t ht=>ZaG.2 (.inr (.inl ht))) m hm) h1
 ·exact h n hn
theorem Zmr{d:Nat}{r:R3}{ss fs F:List ByteArray}(hK:ZbI (d+1) ss r fs)(h0:∀n∈ss,n∈F)(h1:∀y∈r.bd,y.x.k=1→∀n∈vsT [] (Zl (d+1) y.x),n∈F)(hst:∀y∈r.bd,ZN (d+1) y.x F=noS)(hI:ZnR (d+1) r fs F):Z5 (vsT [] (Zi (d+1) r)) F=true↔fs.length=(vsT [] (Zi (d+1) r)).length:=by
 rw[ZmO hK,ZaZ];constructor
 ·intro h n hn;rcases hI n (h n hn)with h2 | h2
  ·exact h2
  ·exact absurd hn h2
 ·intro h n hn
  have hfF:∀x∈fs,x∈F:=by
   obtain⟨k,hk⟩:=hK.it;have hk2:fs=itQ (eqL (d+1) r.bd) k (atN (kbL (d+1) ss r)):=hk;rw[hk2];refine Zly _ (fun q hq=>?_) k _ (fun x hx=>?_)
   ·unfold eqL at hq;obtain⟨y,hy,hqy⟩:=List.mem_flatMap.1 hq;unfold eqX at hqy
    split at hqy
    ·next hc=>
     obtain rfl:=List.mem_singleton.1 hqy;have hs:=hst y hy;unfold ZN at hs
     rw[if_neg (fun hh=>by
      rcases hh with hh | hh
      ·exact hh hc.1
      ·exact hh hc.2)]at hs
     refine⟨fun v hv hm=>?_,fun v hv hm=>?_⟩
     ·obtain⟨_,e1,e2,_⟩:=Zhi hv;apply Classical.byContradiction;intro hnF;have hb:inB F (ZM y.x.l)=false:=Bool.eq_false_iff.2 (fun hh=>hnF (by rw[←e1];exact ZD.1 hh));rw[if_pos ⟨by rw[e1];exact e2,hb,ZaZ.2 hm⟩]at hs;exact e2 (e1.symm.trans hs)
     ·obtain⟨_,e1,e2,_⟩:=Zhi hv;apply Classical.byContradiction;intro hnF;have hb:inB F (ZM y.x.r)=false:=Bool.eq_false_iff.2 (fun hh=>hnF (by rw[←e1];exact ZD.1 hh))
      split at hs
      ·next hc1=>exact hc1.1 hs
      ·rw[if_pos ⟨by rw[e1];exact e2,hb,ZaZ.2 hm⟩]at hs;exact e2 (e1.symm.trans hs)
    ·cases hqy
   ·unfold atN at hx;rw[ZeE]at hx;rcases hx with hx | hx
    ·cases hx
    ·unfold avL at hx;obtain⟨y,hy,hxy⟩:=List.mem_flatMap.1 hx;rcases List.mem_cons.1 hy with rfl | hy
     ·obtain⟨_,_,t,ht,e⟩:=ZbF.1 (show x∈vsT [] (Z7 ss (vsT [] (Zi (d+1) r)))from hxy);unfold Z7 at ht;obtain⟨m,hm,rfl⟩:=List.mem_map.1 ht;have e':m=x:=e;subst e';exact h0 m (ZD.1 (List.mem_filter.1 hm).2)
     ·unfold avX at hxy
      split at hxy
      ·next hk1=>exact h1 y hy hk1 x (Zfn (fun t ht=>ZaG.2 (.inl ht)) x hxy)
      ·cases hxy
  exact hfF n (h n hn)
theorem Zhj{n:Nat}{e:E}(h:ZH n e=true)(ho:e.op=0):e.kids.length=0:=by
 cases n with
 | zero=>cases h
 | succ n=>
  unfold ZH at h;simp only[Bool.and_eq_true,decide_eq_true_eq]at h;have h1:=h.1.2;rw[ho]at h1;rw[h1];rfl
theorem Zms{x:Lit4}(hx:ZQ x=true):Zdc x:=by
 unfold ZQ at hx
 split at hx
 ·simp only[Bool.and_eq_true]at hx;have q1:(decide (x.l.op=0)&&(decide (x.l.t=T0)&&decide (x.l.kids.length=0)))=true:=hx.2.2.1;have q2:(decide (x.r.op=0)&&(decide (x.r.t=T0)&&decide (x.r.kids.length=0)))=true:=hx.2.2.2;simp only[Bool.and_eq_true,decide_eq_true_eq]at q1 q2;exact⟨fun _=>q1.2.2,fun _=>q2.2.2⟩
 ·split at hx
  ·simp only[Bool.and_eq_true,decide_eq_true_eq]at hx;exact⟨fun h=>Zhj hx.2.2.2.2.1 h,fun h=>Zhj hx.2.2.2.2.2 h⟩
  ·cases hx
theorem Zjf{l:List XL}(hx:l.all (fun y=>ZQ y.x)=true):∀y∈l,Zdc y.x:=fun y hy=>by
 rw[List.all_eq_true]at hx;exact Zms (hx y hy)
theorem Zlq{d:Nat}{l:List XL}:∀(xs:List St) {ss ss':List ByteArray} {left left':Nat},left<2^l.length→goR d l ss left xs=some (ss',left')→(∀i∈xs.map (fun s=>s.i.toNat),i<l.length)∧left'<2^l.length
 | [],ss,ss',left,left',hb,h=>by
  injection h with h
  injection h with h1 h2
  subst h2;exact⟨fun i hi=>(by cases hi),hb⟩
 | s::xs,ss,ss',left,left',hb,h=>by
  rw[goR]at h
  split at h
  ·next ho=>
   obtain⟨k,e1,e2,e3,e4,e5⟩:=Zfo hb ho;have e6:s.i.toNat=k:=by omega
   rw[e6]at h;obtain⟨h1,h2⟩:=Zlq xs (Nat.lt_of_le_of_lt (Zcf _ _) hb) h;refine⟨fun i hi=>?_,h2⟩;rw[List.map_cons,e6]at hi;rcases List.mem_cons.1 hi with rfl | hi
   ·exact e2
   ·exact h1 i hi
  ·cases h
theorem Zjg{d:Nat}{l:List XL}(hl:l.length≤16){ss:List ByteArray}{xs:List St}:Zf0 (goR d l ss (2^l.length-1) xs)=true↔xs.length=l.length∧∃s',goR d l ss (2^l.length-1) xs=some s':=by
 have hb:2^l.length-1<2^l.length:=by have:=Nat.two_pow_pos l.length;omega
 constructor
 ·intro h
  cases hg:goR d l ss (2^l.length-1) xs with
  | none=>
   rw[hg]at h
   cases h
  | some r=>
   obtain⟨ss',left⟩:=r;rw[hg]at h;have h0:left=0:=of_decide_eq_true h;subst h0;exact⟨(Zph hl hg).1,_,rfl⟩
 ·rintro⟨hlen,⟨ss',left⟩,hg⟩;rw[hg];obtain⟨h1,h2,h3⟩:=Zgb hl xs hb hg;obtain⟨h4,h5⟩:=Zlq xs hb hg
  have hall:∀i,i<l.length→i∈xs.map (fun s=>s.i.toNat):=fun i hi=>by
   apply Classical.byContradiction;intro hn;have hsub:∀x∈xs.map (fun s=>s.i.toNat),x∈(List.range l.length).filter (fun m=>decide (m≠i)):=fun x hx=>List.mem_filter.2 ⟨List.mem_range.2 (h4 x hx),decide_eq_true (fun e=>hn (e▸hx))⟩
   have hle:=nodup_leN _ _ h1 hsub;have hlt:((List.range l.length).filter (fun m=>decide (m≠i))).length<(List.range l.length).length:=List.length_filter_lt_length_iff_exists.2 ⟨i,List.mem_range.2 hi,by simp⟩;rw[List.length_map]at hle;rw[List.length_range]at hlt;omega
  have h0:left=0:=by
   apply Nat.eq_of_testBit_eq;intro i;rw[Nat.zero_testBit]
   by_cases hi:i<l.length
   ·exact((h3 i hi).1 (hall i hi)).2
   ·exact Nat.testBit_lt_two_pow (Nat.lt_of_lt_of_le h5 (Nat.pow_le_pow_right (by omega) (by omega)))
  exact decide_eq_true h0
where
 nodup_leN:∀(l m:List Nat),l.Nodup→(∀x∈l,x∈m)→l.length≤m.length
  | [],m,_,_=>Nat.zero_le _
  | a::l,m,hn,hs=>by
   obtain⟨h1,h2⟩:=List.nodup_cons.1 hn;have ha:=hs a (by simp)
   have:=nodup_leN l (m.erase a) h2 (fun x hx=>by
    have hne:x≠a:=fun e=>h1 (by rw[←e];exact hx)
    exact(List.mem_erase_of_ne hne).2 (hs x (List.mem_cons_of_mem _ hx)))
   rw[List.length_erase_of_mem ha]at this;have hp:=List.length_pos_of_mem ha;rw[List.length_cons];omega
end
section
open Go.RowKit Go.Maps Go.Shelf
attribute [local go_sem ↓] Go.wp_at_zero Go.wp_at_succ
theorem ZkJ(c:Int)(w:World):Calls Tryz.prog 336 #[.int .u8 c] w fun e w'=>e=.returned (.bool (ZaT c))∧w'=w:=by
 go_enter Tryz.func336,Tryz.ntmps336;go_wp2
 all_goals
  go_ret;refine⟨Ze ?_,rfl⟩;unfold ZaT
  first | (simp;omega) | simp_all
theorem ZcP(c:Int)(w:World):Calls Tryz.prog 282 #[.int .u8 c] w fun e w'=>e=.returned (.bool (Zag c))∧w'=w:=by
 go_enter Tryz.func282,Tryz.ntmps282;go_wp2
 all_goals
  go_ret;refine⟨Ze ?_,rfl⟩;unfold Zag
  first | (simp;omega) | simp_all
theorem ZkK(c:Int)(w:World):Calls Tryz.prog 337 #[.int .u8 c] w fun e w'=>e=.returned (.bool (Zb1 c))∧w'=w:=by
 go_enter Tryz.func337,Tryz.ntmps337;go_wp2
 all_goals
  go_ret;refine⟨Ze ?_,rfl⟩;unfold Zb1
  first | (simp;omega) | simp_all
theorem Zhv(c:Int)(w:World):Calls Tryz.prog 317 #[.int .u8 c] w fun e w'=>e=.returned (.bool (Zai c))∧w'=w:=by
 unfold Zai
 cases x1:ZaT c<;>cases x2:Zag c<;>cases x3:Zb1 c<;>by_cases x4:c=95
 all_goals
  have x4':(c==95)=decide (c=95):=by simp[x4,BEq.beq]
  go_enter Tryz.func317,Tryz.ntmps317
  go_wp2_with (first
   | (go_at_call 336;refine(ZkJ _ _).mono ?_;rintro e w' ⟨rfl,rfl⟩)
   | (go_at_call 282;refine(ZcP _ _).mono ?_;rintro e w' ⟨rfl,rfl⟩)
   | (go_at_call 337;refine(ZkK _ _).mono ?_;rintro e w' ⟨rfl,rfl⟩))
  go_ret;refine⟨Ze ?_,rfl⟩
  simp_all
theorem Zn7(s:ByteArray)(w:World)(hs:s.size≤maxLen):Calls Tryz.prog 283 #[.string s,.int .i64 0] w fun e w'=>(∃q:Nat,q≤s.size∧e=.returned (.string (s.extract 0 q))∧ZE s s.size=decide (q=s.size))∧w'=w:=by
 unfold maxLen at hs;go_enter Tryz.func283,Tryz.ntmps283;go_wp2_with fail;go_loop [5] (fun i=>∃q:Nat,q≤s.size∧i=.int .i64 q∧Hid (ZE s q=true)) (fun i=>s.size-(intOf i).toNat)
 case atStart=>exact⟨0,Nat.zero_le _,rfl,rfl⟩
 case round=>
  obtain⟨q,hq,rfl,HQ⟩:=hrel
  by_cases hlt:q<s.size
  ·have hlt':(q:Int)<(s.size:Int):=by omega
   have HB:Hid (Zbn s q=((s[q]'hlt).toNat:Int)):=Zbh hlt
   cases hr:Zai ((s[q]'hlt).toNat:Int)with
   | true=>
    have HN:Hid (ZE s (q+1)=true):=by show ZE s (q+1)=true;simp only[ZE,HQ.out,HB.out,hr,Bool.and_self]
    clear HQ HB;go_wp2_with (go_at_call 317;refine(Zhv _ _).mono ?_;rw[hr];rintro e w' ⟨rfl,rfl⟩);go_round
    case rel=>exact⟨q+1,by omega,by go_num,HN.out⟩
    case measure=>simp[intOf];omega
   | false=>
    have HF:Hid (ZE s s.size=decide (q=s.size)):=by
     show ZE s s.size=_;rw[Zbo (by rw[HB.out];exact hr) hlt,decide_eq_false (by omega)]
    clear HQ HB;have h2:(q:Int)≤(s.size:Int):=by omega
    have h3:(0:Int)≤(q:Int):=by omega
    go_wp2_with (go_at_call 317;refine(Zhv _ _).mono ?_;rw[hr];rintro e w' ⟨rfl,rfl⟩);go_ret;exact⟨⟨q,hq,rfl,HF.out⟩,rfl⟩
  ·have hlt':¬ (q:Int)<(s.size:Int):=by omega
   obtain rfl:q=s.size:=by omega
   have HF:Hid (ZE s s.size=true):=HQ.out;clear HQ;have h2:(s.size:Int)≤(s.size:Int):=Int.le_refl _;have h3:(0:Int)≤(s.size:Int):=by omega
   go_wp2_with fail;go_ret;exact⟨⟨s.size,Nat.le_refl _,by rw[ByteArray.extract_zero_size];rfl,by rw[HF.out,decide_eq_true rfl]⟩,rfl⟩
theorem Zpg{s:ByteArray}{q:Nat}(hq:q≤s.size):((s.extract 0 q).toList==s.toList)=decide (q=s.size):=by
 by_cases h:q=s.size
 ·rw[decide_eq_true h,beq_iff_eq,h,ByteArray.extract_zero_size]
 ·rw[decide_eq_false h,beq_eq_false_iff_ne];intro e;have e2:=congrArg ByteArray.size (toList_inj e);rw[ByteArray.size_extract]at e2;omega
theorem ZmM{s:ByteArray}:Zbd s=Zb7 s:=by
 unfold Zbd ZK
 by_cases h0:s=noS
 ·subst h0;rfl
 ·by_cases hb:s=ZI
  ·subst hb;rfl
  ·simp only[h0,hb,if_false,decide_false,Bool.not_false,Bool.true_and,Bool.false_or,decide_true]
theorem ZgD(s:ByteArray)(w:World)(hs:s.size≤maxLen):Calls Tryz.prog 222 #[.string s] w fun e w'=>e=.returned (.bool (Zbd s))∧w'=w:=by
 rw[ZmM];have HM:Hid (s.size≤maxLen):=hs;unfold maxLen at hs;unfold Zb7 ZaR
 by_cases h0:s.size=0
 ·have h0':(s.size:Int)=0:=by omega
  go_enter Tryz.func222,Tryz.ntmps222;go_wp2_with fail;go_ret;exact⟨Ze (by simp[h0]),rfl⟩
 ·have hp:0<s.size:=by omega
  have hp':(0:Int)<(s.size:Int):=by omega
  have HB:Hid (Zbn s 0=((s[0]'hp).toNat:Int)):=Zbh hp;rw[HB.out]
  by_cases h1:s.size≤120
  ·have h1':(s.size:Int)≤120:=by omega
   have HR:=Lib.hid (Zn7 s w HM.out);have HC:Hid (decide ((65:Int)≤((s[0]'hp).toNat:Int)∧((s[0]'hp).toNat:Int)≤90)=Zag ((s[0]'hp).toNat:Int)):=rfl;rw[HC.out,decide_eq_true h1,decide_eq_true h0];clear HB HC;generalize ZE s s.size=lb at HR⊢
   cases hm:Zag ((s[0]'hp).toNat:Int)with
   | false=>
    go_enter Tryz.func222,Tryz.ntmps222;go_wp2_with (go_at_call 282;refine(ZcP _ _).mono ?_;rw[hm];rintro e w' ⟨rfl,rfl⟩);go_ret;exact⟨Ze (by simp),rfl⟩
   | true=>
    go_enter Tryz.func222,Tryz.ntmps222
    go_wp2_with (first
     | (go_at_call 282;refine(ZcP _ _).mono ?_;rw[hm];rintro e w' ⟨rfl,rfl⟩)
     | fail)
    refine HR.out.mono ?_;rintro e w' ⟨⟨q,hq,rfl,hl⟩,rfl⟩;have hx:=Zpg hq;rw[←hl]at hx;clear HR hl;generalize s.extract 0 q=s2 at hx⊢
    cases lb
    all_goals
     go_wp2_with fail;go_ret;exact⟨Ze (by simp),rfl⟩
  ·have h1':¬ (s.size:Int)≤120:=by omega
   clear HB;go_enter Tryz.func222,Tryz.ntmps222;go_wp2_with fail;go_ret;exact⟨Ze (by simp[h1]),rfl⟩
end
section
open Go.RowKit Go.Maps Go.Shelf
attribute [local go_sem ↓] Go.wp_at_zero Go.wp_at_succ
attribute [-go_sem] loadVar
theorem ZoN{l:List ByteArray}{s:ByteArray}(h:∀j,j<l.length→atS l j≠s):inB l s=false:=Bool.eq_false_iff.2 (fun hh=>by
 obtain⟨j,hj,e⟩:=List.getElem_of_mem (ZD.1 hh);refine h j hj ?_;unfold atS;rw[List.getD,List.getElem?_eq_getElem hj];exact e)
theorem Zp4{l:List ByteArray}{s:ByteArray}{j:Nat}(hj:j<l.length)(h:atS l j=s):inB l s=true:=ZD.2 (by
 unfold atS at h;rw[List.getD,List.getElem?_eq_getElem hj]at h;exact h▸List.getElem_mem hj)
end
end Go.Proofs.YtjdnpgpbeppgjaaGreatDoor
