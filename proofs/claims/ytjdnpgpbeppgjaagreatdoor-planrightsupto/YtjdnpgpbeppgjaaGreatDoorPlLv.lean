import Derived.Test.YtjdnpgpbeppgjaaGreatDoorPlOt
set_option linter.unusedSimpArgs false
set_option linter.unusedVariables false
set_option maxHeartbeats 3200000
set_option maxRecDepth 100000
namespace Go.Proofs.YtjdnpgpbeppgjaaGreatDoor
open Go.RowKit Go.Maps Go.Shelf
attribute [local go_sem ↓] Go.wp_at_zero Go.wp_at_succ
attribute [-go_sem] loadVar
theorem lsX(w:World):Ls (w.alloc (.cells #[.string ⟨#[88]⟩] 9)) (.slice (some ⟨w.heap.size,0,none⟩) 1 1) [sX].length ([sX].flatMap Zm):=Zlm (Zk w #[.string ⟨#[88]⟩] 9) (by decide)
theorem Zqr(w:World):Ls w (.slice none 0 0) ([]:List ByteArray).length (([]:List ByteArray).flatMap Zm):=⟨Nat.zero_le _,none,0,rfl,Nat.le_refl _,Nat.zero_le _,fun h=>absurd h (by show ¬ (0<0);decide)⟩
theorem szX:∀i,i<[sX].length→(atS [sX] i).size≤maxLen:=ZnH (by intro x hx;obtain rfl:=List.mem_singleton.1 hx;decide)
theorem sz0:∀i,i<([]:List ByteArray).length→(atS ([]:List ByteArray) i).size≤maxLen:=fun i hi=>absurd hi (by show ¬ (i<0);omega)
theorem ZbJ(d:Nat)(o:Int)(t:T):ZZ d (E.mk o t []):=by
 cases d with
 | zero=>exact trivial
 | succ d=>exact⟨by show(0:Nat)≤_;decide,fun i hi=>absurd hi (by show ¬ (i<0);omega)⟩
theorem Zh8(p1 p2:LP):Zaj 3 (oR p1 p2):=by
 refine⟨by show(2:Nat)≤_;decide,by show(2:Nat)≤_;decide,fun y hy=>?_,?_⟩
 ·have z1:szD 3 (E.mk 0 oN [])=1:=by kernel_rfl
  have z2:szD 3 (E.mk 2 T0 [E.mk 0 oM [],E.mk 0 o1 []])=3:=by kernel_rfl
  have z3:szD 3 E0=1:=by kernel_rfl
  rcases List.mem_cons.1 hy with rfl | hy
  ·refine⟨by show(0:Nat)≤_;decide,⟨ZbJ _ _ _,by show szD 3 (E.mk 0 oN [])≤_;omega⟩,⟨⟨by show(2:Nat)≤_;decide,fun i hi=>?_⟩,by show szD 3 (E.mk 2 T0 [E.mk 0 oM [],E.mk 0 o1 []])≤_;omega⟩⟩;have hi':i<2:=hi;have hc:i=0∨i=1:=by omega
   rcases hc with rfl | rfl
   ·exact ZbJ _ _ _
   ·exact ZbJ _ _ _
  ·obtain rfl:=List.mem_singleton.1 hy;exact⟨by show(2:Nat)≤_;decide,⟨ZbJ _ _ _,by show szD 3 E0≤_;omega⟩,⟨ZbJ _ _ _,by show szD 3 E0≤_;omega⟩⟩
 ·have h:(Zi 3 (oR p1 p2)).length=10:=by kernel_rfl
  omega
theorem Zh9(p1 p2:LP):(Zi 3 (oR p1 p2)).length≤1048576:=by
 have h:(Zi 3 (oR p1 p2)).length=10:=by kernel_rfl
 omega
theorem Zp5{xs:List SX}{s t:St}(h:xs.map SX.s=[s,t]):∃x1 x2,xs=[x1,x2]∧x1.s=s∧x2.s=t:=by
 cases xs with
 | nil=>cases h
 | cons x1 ys=>
  cases ys with
  | nil=>cases h
  | cons x2 zs=>
   cases zs with
   | cons x3 us=>cases h
   | nil=>
    injection h with h1 h2
    injection h2 with h2 _
    exact⟨x1,x2,rfl,h1,h2⟩
theorem Zp6{w:World}(hK:KT w)(hD:DT w){p1 p2:LP}{p:RP}(hR:RIs w 3 (oR p1 p2) p){v:Value}(hl:Ls w v [sX].length ([sX].flatMap Zm)) :
  Calls Tryz.prog 9 #[(oR p1 p2).val p,v,.int .i64 (-1)] w fun e w'=>Below w.heap.size w w'∧∃(q1 q2:LP) (q:RP) (x1 x2:SX) (a:Option Addr) (c:Nat),x1.s=oT1∧x2.s=oT2∧e=.returned (.tuple #[.agg #[.string (oR q1 q2).pr,.slice q.a 2 q.c,.slice q.ba 2 q.bc,.slice a 2 c],.int .i64 0])∧RIs w' 3 (oR q1 q2) q∧Lz w' (.slice a 2 c) [x1,x2]:=by
 refine(ZnE 2 (oR p1 p2) p w hK hD hR (Zh8 p1 p2) (Zh9 p1 p2) hl szX (-1)).mono ?_;rintro e w' ⟨hb,h⟩;refine⟨hb,?_⟩;rcases h with ⟨h1,_⟩ | ⟨_,h1,_⟩ | ⟨_,_,fs,hlk,⟨h1,_⟩ | ⟨_,⟨h1,_⟩ | ⟨_,r',q,xs,a,c,he,hlike,hri,hgt,hlz⟩⟩⟩
 ·rw[ZnF]at h1
  cases h1
 ·rw[show([sX]:List ByteArray).length=1 from rfl,Zqu]at h1
  cases h1
 ·exact absurd ((ZpH hlk).trans (ZnG p1 p2).symm) h1
 ·exact absurd rfl h1
 ·rw[Zqw]at hlike;obtain⟨q1,q2,rfl⟩:=Zp9 hlike;obtain⟨x1,x2,rfl,h1,h2⟩:=Zp5 (ZqM hgt);exact⟨q1,q2,q,x1,x2,a,c,h1,h2,he,hri,hlz⟩
theorem ZoZ{w:World}(hK:KT w){p1 p2:LP}{p:RP}(hR:RIs w 3 (oR p1 p2) p){x1 x2:SX}(h1:x1.s=oT1)(h2:x2.s=oT2){a:Option Addr}{c:Nat}(hX:Lz w (.slice a 2 c) [x1,x2]){v:Value}(hl:Ls w v [sX].length ([sX].flatMap Zm)) :
  Calls Tryz.prog 19 #[.agg #[.string (oR p1 p2).pr,.slice p.a 2 p.c,.slice p.ba 2 p.bc,.slice a 2 c],v] w fun e w'=>Below w.heap.size w w'∧e=.returned (.bool true):=by
 refine(Zdx 2 (oR p1 p2) p [x1,x2] w hK hR (Zh8 p1 p2) (Zh9 p1 p2) hX hl szX).mono ?_;rintro e w' ⟨hb,h⟩;refine⟨hb,?_⟩;rcases h with ⟨_,h | h | ⟨fs,hlk,h⟩⟩ | ⟨_,_,fs,_,_,rfl⟩
 ·rw[ZnF]at h
  cases h
 ·rw[show([sX]:List ByteArray).length=1 from rfl,Zqu]at h
  cases h
 ·exact absurd ((ZpH hlk).trans (ZnG p1 p2).symm) h
 ·rw[show [x1,x2].map SX.s=[oT1,oT2] by rw[List.map_cons,List.map_cons,h1,h2];rfl];rw[show Zf0 (goR (2+1) (oR p1 p2).bd [sX] (2^(oR p1 p2).bd.length-1) [oT1,oT2])=true from ZqL p1 p2]
theorem ZnD{w:World}(hK:KT w){p1 p2:LP}{p:RP}(hR:RIs w 3 (oR p1 p2) p){x1 x2:SX}(h1:x1.s=oT1)(h2:x2.s=oT2){a:Option Addr}{c:Nat}(hX:Lz w (.slice a 2 c) [x1,x2]) :
  Calls Tryz.prog 19 #[.agg #[.string (oR p1 p2).pr,.slice p.a 2 p.c,.slice p.ba 2 p.bc,.slice a 2 c],.slice none 0 0] w fun e w'=>Below w.heap.size w w'∧e=.returned (.bool false):=by
 refine(Zdx 2 (oR p1 p2) p [x1,x2] w hK hR (Zh8 p1 p2) (Zh9 p1 p2) hX (Zqr w) sz0).mono ?_;rintro e w' ⟨hb,h⟩;refine⟨hb,?_⟩;rcases h with ⟨rfl,_⟩ | ⟨_,_,fs,_,_,rfl⟩
 ·rfl
 ·rw[show [x1,x2].map SX.s=[oT1,oT2] by rw[List.map_cons,List.map_cons,h1,h2];rfl];rw[show Zf0 (goR (2+1) (oR p1 p2).bd [] (2^(oR p1 p2).bd.length-1) [oT1,oT2])=false from Zqv p1 p2]
theorem Zi0{w:World}(hK:KT w)(hD:DT w):Calls Tryz.prog 17 #[] w fun e w'=>e=.returned (.bool true)∧Below w.heap.size w w':=by
 have HO:=Lib.hid (Zmk w);have HK:=Lib.hid hK;have HD:=Lib.hid hD;clear hK hD;go_enter Tryz.func17,Tryz.ntmps17;go_wp2_with fail;refine HO.out.mono ?_;rintro e w1 ⟨p1,p2,p,rfl,b1,hri⟩;have HB1:=Lib.hid b1;have hA:=Zp (w:=w1) (.cells #[.string ⟨#[88]⟩] 9);have HBA:Hid (Below w.heap.size w (w1.alloc (.cells #[.string ⟨#[88]⟩] 9))):=b1.trans (hA.mono b1.size);have HM:=Lib.hid (Zp6 (HK.out.below HBA.out) (HD.out.below HBA.out) (hri.below hA) (lsX w1))
 unfold R3.val at HM⊢;clear HO b1 hri hA;go_wp2_with fail;refine HM.out.mono ?_;generalize w1.alloc (.cells #[.string ⟨#[88]⟩] 9)=W1 at HBA⊢;rintro e w2 ⟨b2,q1,q2,q,x1,x2,a,c,h1,h2,rfl,hri,hlz⟩;obtain⟨ga,ca,hac,_,_,hat⟩:=hlz.form
 injection hac with e1 e2 e3
 subst e1 e3;obtain⟨g,off,rfl,hg,hr⟩:=hat (by show(0:Nat)<2;decide);have hAV:=Zp (w:=w2) (.cells #[.string (oR q1 q2).pr,.slice q.a 2 q.c,.slice q.ba 2 q.bc,.slice (some ⟨g,off,none⟩) 2 c] 32);have r0:=Zu (hr 0 (by show(0:Nat)<2;decide)) hAV hg;have r1:=Zu (hr 1 (by show(1:Nat)<2;decide)) hAV hg;rw[show atZ [x1,x2] 0=x1 from rfl]at r0;rw[show atZ [x1,x2] 1=x2 from rfl]at r1;have hl1:=hlz.each x1 (by simp)
 have HGV:=Lib.hid (hlz.below hAV);obtain⟨s1,xa1,xc1⟩:=x1;obtain⟨s2,xa2,xc2⟩:=x2;simp only at h1 h2;subst h1 h2;obtain⟨a1,c1,ha1,_,_,hat1⟩:=Z3 hl1
 injection ha1 with f1 f2 f3
 subst f1 f3;obtain⟨g1,off1,hxa,hg1,hs1⟩:=hat1 (by show(0:Nat)<1;decide);simp only at hxa;subst hxa;have HPB:=Lib.hid (Zk w2 #[.string (oR q1 q2).pr,.slice q.a 2 q.c,.slice q.ba 2 q.bc,.slice (some ⟨g,off,none⟩) 2 c] 32);have k1:=Zah (r0 0 _ rfl);have k2:=Zbk (r0 1 _ rfl);have k3:=ZaU (r0 2 _ rfl);have k4:=Zay (r0 3 _ rfl);have k5:=Zah (r1 0 _ rfl);have k6:=ZL ((hAV.cell (p:=⟨g1,off1+0,none⟩) hg1).trans (hs1 0 (by show(0:Nat)<1;decide)))
 have k7:=ZaO (RL.at HPB.out (j:=3) rfl);have k8:=ZbK HPB.out rfl;simp only[Nat.zero_mul,Nat.one_mul,Nat.add_zero,oT1,oT2]at k1 k2 k3 k4 k5 k6;rw[show atS ([sM]:List ByteArray) 0=⟨#[77]⟩from rfl]at k6;have HBW:Hid (Below w.heap.size w w2):=HBA.out.trans (b2.mono HBA.out.size);have HBV:Hid (Below w2.heap.size w2 (w2.alloc (.cells #[.string (oR q1 q2).pr,.slice q.a 2 q.c,.slice q.ba 2 q.bc,.slice (some ⟨g,off,none⟩) 2 c] 32))):=hAV
 have HRI:=Lib.hid (hri.below hAV);clear b2 hat hAV r0 r1 hl1 hat1 hs1 hr hri hlz;have HWV:Hid (Below w.heap.size w (w2.alloc (.cells #[.string (oR q1 q2).pr,.slice q.a 2 q.c,.slice q.ba 2 q.bc,.slice (some ⟨g,off,none⟩) 2 c] 32))):=HBW.out.trans (HBV.out.mono HBW.out.size);have hAX:=Zp (w:=(w2.alloc (.cells #[.string (oR q1 q2).pr,.slice q.a 2 q.c,.slice q.ba 2 q.bc,.slice (some ⟨g,off,none⟩) 2 c] 32))) (.cells #[.string ⟨#[88]⟩] 9)
 have hr1:=ZoZ ((HK.out.below HWV.out).below hAX) (HRI.out.below hAX) rfl rfl (HGV.out.below hAX) (lsX _);rw[World.size_alloc]at hr1;have HR1:=Lib.hid hr1;have HAX:=Lib.hid hAX;clear hr1 hAX;go_wp2_with fail;refine HR1.out.mono ?_;generalize (w2.alloc (.cells #[.string (oR q1 q2).pr,.slice q.a 2 q.c,.slice q.ba 2 q.bc,.slice (some ⟨g,off,none⟩) 2 c] 32))=V at HWV HAX HPB HRI HGV k1 k2 k3 k4 k5 k6 k7 k8 HBV⊢
 clear k1 k2 k3 k4 k5 k6 k7 k8 HR1;rintro e w3 ⟨b3,rfl⟩;have hb3:Below V.heap.size V w3:=HAX.out.trans (b3.mono HAX.out.size);have HB3:=Lib.hid hb3;have k9:=ZbK (RL.below HPB.out hb3) rfl;have HR2:=Lib.hid (ZnD ((HK.out.below HWV.out).below hb3) (HRI.out.below hb3) rfl rfl (HGV.out.below hb3));clear b3 hb3;go_wp2_with fail;refine HR2.out.mono ?_;rintro e w4 ⟨b4,rfl⟩;have HF:Hid (Below w.heap.size w w4):=HWV.out.trans ((HB3.out.trans (b4.mono HB3.out.size)).mono HWV.out.size)
 clear b4 k9;go_wp2;go_ret;exact⟨rfl,HF.out⟩
end Go.Proofs.YtjdnpgpbeppgjaaGreatDoor
