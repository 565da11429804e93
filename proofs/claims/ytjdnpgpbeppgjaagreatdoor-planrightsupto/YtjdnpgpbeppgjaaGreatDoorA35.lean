import Derived.Test.YtjdnpgpbeppgjaaGreatDoorA34
import Derived.Test.YtjdnpgpbeppgjaaGreatDoorA27
set_option linter.unusedSimpArgs false
set_option linter.unusedVariables false
set_option maxHeartbeats 3200000
namespace Go.Proofs.YtjdnpgpbeppgjaaGreatDoor
section
open Go.RowKit Go.Maps Go.Shelf
attribute [local go_sem ↓] Go.wp_at_zero Go.wp_at_succ
attribute [-go_sem] loadVar storeVar
theorem Zf7{B:Nat}{u w:World}(h:Below B u w)(a:Addr)(v:Value):Below B (u.setCell a v) (w.setCell a v):=
 ⟨h.os,h.tape,h.output,by simpa[World.setCell]using h.size,fun k hk=>by simp only[World.setCell,Array.getElem?_modify,h.block k hk]⟩
theorem Ze6{B b:Nat}:∀(vs:List Value) (o:Nat) {u w:World},Below B u w→Below B (u.setCells b o vs) (w.setCells b o vs)
 | [],_,_,_,h=>h
 | v::r,o,u,w,h=>by
  rw[World.setCells,World.setCells];exact Ze6 r (o+1) (Zf7 h _ v)
theorem Zb3{b:Nat}:∀(vs:List Value) (o:Nat) (w:World),(w.setCells b o vs).heap.size=w.heap.size
 | [],_,_=>rfl
 | v::r,o,w=>by
  rw[World.setCells,Zb3 r (o+1)];simp
theorem TwR.setQ{w:World}{lo d b j:Nat}{v:Value}(hb:b<lo){r:R3}{p:RP}(h:TwR w lo d r p):TwR (w.setCell ⟨b,j,none⟩ v) lo d r p:=⟨h.hd.set hb,h.bd.set hb⟩
theorem ZeR{lo d b:Nat}{x:R3}{p:RP}(hb:b<lo):∀(vs:List Value) (o:Nat) (w:World),TwR w lo d x p→TwR (w.setCells b o vs) lo d x p
 | [],_,_,h=>h
 | v::r,o,w,h=>by
  rw[World.setCells];exact ZeR hb r (o+1) _ (h.setQ hb)
theorem TwR.lowerQ{w:World}{lo lo' d:Nat}(hl:lo'≤lo){r:R3}{p:RP}(h:TwR w lo d r p):TwR w lo' d r p:=⟨h.hd.lower hl,h.bd.lower hl⟩
theorem TwYs.setQ{w:World}{lo b j:Nat}{v:Value}(hb:b<lo){l:List SX}{a:Option Addr}{c:Nat}(h:TwYs w lo l a c):TwYs (w.setCell ⟨b,j,none⟩ v) lo l a c:=by
 obtain⟨h1,⟨g,h2,h3,h4,h5⟩,h6,h7⟩:=h;refine⟨h1,⟨g,h2,h3,by simpa using h4,World.rowIs.setOther h5 (by show g≠b;omega) v⟩,fun i hi=>TwX.set hb (h6 i hi),fun g' hg i hi=>TwX.set ?_ (h7 g' hg i hi)⟩
 have e:g=g':=by
  rw[h2]at hg;simpa using congrArg Addr.block (Option.some.inj hg)
 omega
theorem Zf8{lo b:Nat}{l:List SX}{a:Option Addr}{c:Nat}(hb:b<lo):∀(vs:List Value) (o:Nat) (w:World),TwYs w lo l a c→TwYs (w.setCells b o vs) lo l a c
 | [],_,_,h=>h
 | v::r,o,w,h=>by
  rw[World.setCells];exact Zf8 hb r (o+1) _ (h.setQ hb)
structure TwN (w:World) (lo d:Nat) (r s:R3) (q:RP) (xs ys:List SX) (a:Option Addr):Prop where
 like:LikeR r s
 len:ys.length=xs.length
 each:∀i,i<xs.length→ZcV (atZ xs i) (atZ ys i)
 rests:∃V:World,lo≤V.heap.size∧Below V.heap.size V w∧TwR V lo d s q∧TwYs w V.heap.size ys a (ys.length+1)
theorem TwN.rule{w:World}{lo d:Nat}{r s:R3}{q:RP}{xs ys:List SX}{a:Option Addr}(h:TwN w lo d r s q xs ys a):TwR w lo d s q:=by
 obtain⟨V,_,h2,h3,_⟩:=h.rests;exact h3.below h2
theorem TwN.below{w w':World}{lo d:Nat}{r s:R3}{q:RP}{xs ys:List SX}{a:Option Addr}(h:TwN w lo d r s q xs ys a)(b:Below w.heap.size w w'):TwN w' lo d r s q xs ys a:=by
 obtain⟨h1,h2,h3,V,h4,h5,h6,h7⟩:=h;exact⟨h1,h2,h3,V,h4,h5.trans (b.mono h5.size),h6,h7.below b⟩
theorem TwYs.lz{w:World}{lo:Nat}{l:List SX}{a:Option Addr}{c:Nat}(h:TwYs w lo l a c)(hl:l.length≤1048576)(hs:∀i,i<l.length→(atZ l i).s.g.length≤1048576):Lz w (.slice a l.length c) l:=by
 obtain⟨g,rfl,hg,_,hk⟩:=h.range;have hcap:=h.cap;subst hcap;refine⟨ZaC (f:=SX.cells) (k:=4) (by omega) (fun _=>rfl) SX0 (by omega) (by unfold maxLen;omega) hg hk,fun y hy=>?_⟩;obtain⟨i,hi,e⟩:=List.getElem_of_mem hy;have h1:=TwY.is (h.each i hi) (hs i hi);rw[ZcL hi,e]at h1;exact h1
theorem Zej{u:World}{b:Nat}{t:TypeId}{x0 x1 x2 x3:Value}(h:RL u b t [x0,x1,x2,x3]):(loadVar 25 ⟨b,0,none⟩).run Tryz.prog u=.ok (.agg #[x0,x1,x2]) u:=
 Zbp (cs:=[x0,x1,x2]) (fun j v hv=>by
  have hj:j<3:=(List.getElem?_eq_some_iff.1 hv).1;have hj6:j=0∨j=1∨j=2:=by omega
  rcases hj6 with rfl | rfl | rfl<;>exact RL.at h hv) rfl
theorem Zcu{u:World}{b:Nat}{t:TypeId}{x0 x1 x2 x3:Value}(h:RL u b t [x0,x1,x2,x3]):(loadVar 32 ⟨b,0,none⟩).run Tryz.prog u=.ok (.agg #[x0,x1,x2,x3]) u:=
 run_loadVar_mid u b 0 32 [x0,x1,x2,x3] _ (RL.range h) Tryz.underlying32 rfl (by kernel_rfl)
theorem Zek{d:Nat}{r:R3}{p:RP}{xs:List SX}{sa:Option Addr}{sc:Nat}{w:World}(hp:PWt w)(hs:Zaj d r)(hR:RIs w d r p)(hX:Lz w (.slice sa xs.length sc) xs)(hxs:xs.length≤1048576)(hxg:∀i,i<xs.length→(atZ xs i).s.g.length≤1048576) :
  Calls Tryz.prog 18 #[.agg #[.string r.pr,.slice p.a r.hd.length p.c,.slice p.ba r.bd.length p.bc,.slice sa xs.length sc]] w fun e w'=>∃(s:R3) (q:RP) (ys:List SX) (a':Option Addr),e=.returned (.agg #[.string s.pr,.slice q.a s.hd.length q.c,.slice q.ba s.bd.length q.bc,.slice a' ys.length (ys.length+1)])∧Below w.heap.size w w'∧TwN w' w.heap.size d r s q xs ys a':=by
 have BA:=(Below.refl w.heap.size w).alloc (Nat.le_refl _) (.cells #[.string r.pr,.slice p.a r.hd.length p.c,.slice p.ba r.bd.length p.bc,.slice sa xs.length sc] 32);have BB:=BA.alloc BA.size (.cells #[.string ⟨#[]⟩,.slice none 0 0,.slice none 0 0,.slice none 0 0] 32);have HR0:Hid (RL ((w.alloc (.cells #[.string r.pr,.slice p.a r.hd.length p.c,.slice p.ba r.bd.length p.bc,.slice sa xs.length sc] 32)).alloc (.cells #[.string ⟨#[]⟩,.slice none 0 0,.slice none 0 0,.slice none 0 0] 32)) w.heap.size 32 [.string r.pr,.slice p.a r.hd.length p.c,.slice p.ba r.bd.length p.bc,.slice sa xs.length sc]):=(Zk w #[.string r.pr,.slice p.a r.hd.length p.c,.slice p.ba r.bd.length p.bc,.slice sa xs.length sc] 32).below ((Below.refl _ _).alloc (Nat.le_refl _) _)
 have HR1:Hid (RL ((w.alloc (.cells #[.string r.pr,.slice p.a r.hd.length p.c,.slice p.ba r.bd.length p.bc,.slice sa xs.length sc] 32)).alloc (.cells #[.string ⟨#[]⟩,.slice none 0 0,.slice none 0 0,.slice none 0 0] 32)) (w.heap.size+1) 32 [.string ⟨#[]⟩,.slice none 0 0,.slice none 0 0,.slice none 0 0]):=by
  have:=Zk (w.alloc (.cells #[.string r.pr,.slice p.a r.hd.length p.c,.slice p.ba r.bd.length p.bc,.slice sa xs.length sc] 32)) #[.string ⟨#[]⟩,.slice none 0 0,.slice none 0 0,.slice none 0 0] 32;rw[World.size_alloc]at this;exact this
 have HT:=Lib.hid (Zio d r p _ (Zq hp BB) hs.hd hs.bd hs.each (hR.below BB));have HX:=Lib.hid hX;have HBB:Hid (Below w.heap.size w _):=BB;have HPW:=Lib.hid hp;have HG:=Lib.hid hxg;have ls0:=Zej HR0.out;unfold R3.val at HT;clear BA BB hp hR hX hxg;go_enter Tryz.func18,Tryz.ntmps18;go_wp2_with fail;refine Calls.mono HT.out ?_;obtain⟨A0,hA0⟩:∃A0,A0=(w.alloc (.cells #[.string r.pr,.slice p.a r.hd.length p.c,.slice p.ba r.bd.length p.bc,.slice sa xs.length sc] 32)).alloc (.cells #[.string ⟨#[]⟩,.slice none 0 0,.slice none 0 0,.slice none 0 0] 32):=⟨_,rfl⟩
 have hz:A0.heap.size=w.heap.size+2:=by rw[hA0];simp
 rw[←hA0]at HR0 HR1 HBB⊢;clear HT ls0 hA0;rintro e w1 ⟨s,q,rfl,b1,hlk,htw⟩;obtain⟨spr,shd,sbd⟩:=s;obtain⟨qa,qc,qb,qbc⟩:=q;simp only;have HA:Hid (RL w1 w.heap.size 32 _):=RL.below HR0.out b1;have HB:Hid (RL w1 (w.heap.size+1) 32 _):=RL.below HR1.out b1;have HLK:=Lib.hid hlk;have HTR:Hid (TwR (w1.setCells w.heap.size 0 [.string spr,.slice qa shd.length qc,.slice qb sbd.length qbc]) (w.heap.size+2) d ⟨spr,shd,sbd⟩ ⟨qa,qc,qb,qbc⟩):=ZeR (by omega) _ _ _ (by rw[←hz];exact htw)
 have HB1:Hid (Below w.heap.size w (w1.setCells w.heap.size 0 [.string spr,.slice qa shd.length qc,.slice qb sbd.length qbc])):=Zy (Nat.le_refl _) _ _ _ (HBB.out.trans (b1.mono HBB.out.size));have hst1:(storeVar 25 ⟨w.heap.size,0,none⟩ (.agg #[.string spr,.slice qa shd.length qc,.slice qb sbd.length qbc])).run Tryz.prog w1=.ok () (w1.setCells w.heap.size 0 [.string spr,.slice qa shd.length qc,.slice qb sbd.length qbc]):=run_storeVar_mid w1 _ 0 _ #[.string spr,.slice qa shd.length qc,.slice qb sbd.length qbc] (fun j hj=>by have:=Zb6 HA.out;exact this j (by simp at hj⊢;omega)) (by kernel_rfl) (by simp[Value.oneCell'])
 have HA2:Hid (RL (w1.setCells w.heap.size 0 [.string spr,.slice qa shd.length qc,.slice qb sbd.length qbc]) w.heap.size 32 [.string spr,.slice qa shd.length qc,.slice qb sbd.length qbc,.slice sa xs.length sc]):=((RL.set HA.out 0 (.string spr)).set 1 (.slice qa shd.length qc)).set 2 (.slice qb sbd.length qbc);have HB2:Hid (RL (w1.setCells w.heap.size 0 [.string spr,.slice qa shd.length qc,.slice qb sbd.length qbc]) (w.heap.size+1) 32 [.string ⟨#[]⟩,.slice none 0 0,.slice none 0 0,.slice none 0 0]):=((RL.other (i:=0) HB.out (by omega:w.heap.size+1≠w.heap.size) _).other (i:=1) (by omega:w.heap.size+1≠w.heap.size) _).other (i:=2) (by omega:w.heap.size+1≠w.heap.size) _
 have hz2:w.heap.size+2≤(w1.setCells w.heap.size 0 [.string spr,.slice qa shd.length qc,.slice qb sbd.length qbc]).heap.size:=by rw[Zb3,←hz];exact b1.size
 generalize w1.setCells w.heap.size 0 [.string spr,.slice qa shd.length qc,.slice qb sbd.length qbc]=U1 at hst1 HTR HB1 HA2 HB2 hz2;have ls1:=ZaO (RL.at HA2.out (j:=3) rfl);have HTS:=Lib.hid (ZkG _ xs U1 (Zq HPW.out HB1.out) hxs HG.out (HX.out.below HB1.out));clear b1 htw hlk HR0 HR1 HBB HA HB;go_wp2_with fail;refine Calls.mono HTS.out ?_;rintro e w2 ⟨a',ys,rfl,b2,hyl,hye,hys⟩;have HA3:Hid (RL (w2.setCell ⟨w.heap.size,3,none⟩ (.slice a' xs.length (xs.length+1))) w.heap.size 32 [.string spr,.slice qa shd.length qc,.slice qb sbd.length qbc,.slice a' xs.length (xs.length+1)]):=(RL.below HA2.out b2).set 3 _
 have hA2':=RL.below HA2.out b2
 have hst2:(storeVar 30 ⟨w.heap.size,3,none⟩ (.slice a' xs.length (xs.length+1))).run Tryz.prog w2=.ok () (w2.setCell ⟨w.heap.size,3,none⟩ (.slice a' xs.length (xs.length+1))):=by
  have c:=RL.at hA2' (j:=3) rfl;have fz:=World.rowIs.frozen hA2' 3;rw[storeVar.eq_1];go_simp
 have HB3:Hid (RL (w2.setCell ⟨w.heap.size,3,none⟩ (.slice a' xs.length (xs.length+1))) (w.heap.size+1) 32 [.string ⟨#[]⟩,.slice none 0 0,.slice none 0 0,.slice none 0 0]):=RL.other (i:=3) (RL.below HB2.out b2) (by omega:w.heap.size+1≠w.heap.size) _;have HV:Hid (Below U1.heap.size (U1.setCell ⟨w.heap.size,3,none⟩ (.slice a' xs.length (xs.length+1))) (w2.setCell ⟨w.heap.size,3,none⟩ (.slice a' xs.length (xs.length+1)))):=Zf7 b2 _ _
 have HTR2:Hid (TwR (U1.setCell ⟨w.heap.size,3,none⟩ (.slice a' xs.length (xs.length+1))) (w.heap.size+2) d ⟨spr,shd,sbd⟩ ⟨qa,qc,qb,qbc⟩):=HTR.out.setQ (by omega);have HYS:Hid (TwYs (w2.setCell ⟨w.heap.size,3,none⟩ (.slice a' xs.length (xs.length+1))) U1.heap.size ys a' (xs.length+1)):=hys.setQ (by omega);have HBU:Hid (Below w.heap.size w (w2.setCell ⟨w.heap.size,3,none⟩ (.slice a' xs.length (xs.length+1)))):=(HB1.out.trans (b2.mono HB1.out.size)).setCell (p:=⟨w.heap.size,3,none⟩) (Nat.le_refl _) _
 have HYE:=Lib.hid hye;have HYL:=Lib.hid hyl;generalize w2.setCell ⟨w.heap.size,3,none⟩ (.slice a' xs.length (xs.length+1))=U2 at hst2 HA3 HB3 HV HYS HBU;have ls2:=Zcu HA3.out;have hst3:(storeVar 32 ⟨w.heap.size+1,0,none⟩ (.agg #[.string spr,.slice qa shd.length qc,.slice qb sbd.length qbc,.slice a' xs.length (xs.length+1)])).run Tryz.prog U2=.ok () (U2.setCells (w.heap.size+1) 0 [.string spr,.slice qa shd.length qc,.slice qb sbd.length qbc,.slice a' xs.length (xs.length+1)]):=run_storeVar_mid U2 _ 0 _ #[.string spr,.slice qa shd.length qc,.slice qb sbd.length qbc,.slice a' xs.length (xs.length+1)] (by have:=Zb6 HB3.out;exact this) (by kernel_rfl) (by simp[Value.oneCell'])
 clear b2 hys hye hyl HTS hA2' HA2 HB2 HB1 HTR ls1;go_wp2;refine bodyPost_ret (ZO Tryz.results18 (v:=.agg #[.string spr,.slice qa shd.length qc,.slice qb sbd.length qbc,.slice a' xs.length (xs.length+1)]) rfl (run_loadVar_mid _ _ 0 32 [.string spr,.slice qa shd.length qc,.slice qb sbd.length qbc,.slice a' xs.length (xs.length+1)] _ (RL.range (Zcz HB3.out [.string spr,.slice qa shd.length qc,.slice qb sbd.length qbc,.slice a' xs.length (xs.length+1)] rfl)) Tryz.underlying32 rfl (by kernel_rfl))) rfl ?_
 have hln:ys.length=xs.length:=HYL.out;refine⟨⟨spr,shd,sbd⟩,⟨qa,qc,qb,qbc⟩,ys,a',by rw[hln],Zy (by omega) _ _ _ HBU.out,HLK.out,hln,HYE.out,(U1.setCell ⟨w.heap.size,3,none⟩ (.slice a' xs.length (xs.length+1))).setCells (w.heap.size+1) 0 [.string spr,.slice qa shd.length qc,.slice qb sbd.length qbc,.slice a' xs.length (xs.length+1)],?_,?_,?_,?_⟩
 ·rw[Zb3];simp;omega
 ·rw[Zb3];have:=Ze6 (b:=w.heap.size+1) [.string spr,.slice qa shd.length qc,.slice qb sbd.length qbc,.slice a' xs.length (xs.length+1)] 0 HV.out;simpa using this
 ·exact(ZeR (by omega) _ _ _ HTR2.out).lowerQ (by omega)
 ·rw[Zb3,hln];have:=Zf8 (b:=w.heap.size+1) (by omega) [.string spr,.slice qa shd.length qc,.slice qb sbd.length qbc,.slice a' xs.length (xs.length+1)] 0 _ HYS.out;simpa using this
theorem Zij{d:Nat}{r s:R3}{p q:RP}{xs ys:List SX}{sa a:Option Addr}{sc lo:Nat}{w:World}(hp:PWt w)(hs:Zaj d r)(hR:RIs w d r p)(hX:Lz w (.slice sa xs.length sc) xs)(hxs:xs.length≤1048576)(hxg:∀i,i<xs.length→(atZ xs i).s.g.length≤1048576)(hN:TwN w lo d r s q xs ys a) :
  Calls Tryz.prog 21 #[.agg #[.string s.pr,.slice q.a s.hd.length q.c,.slice q.ba s.bd.length q.bc,.slice a ys.length (ys.length+1)],.agg #[.string r.pr,.slice p.a r.hd.length p.c,.slice p.ba r.bd.length p.bc,.slice sa xs.length sc]] w fun e w'=>e=.returned (.bool true)∧Below w.heap.size w w':=by
 have BA:=(Below.refl w.heap.size w).alloc (Nat.le_refl _) (.cells #[.string s.pr,.slice q.a s.hd.length q.c,.slice q.ba s.bd.length q.bc,.slice a ys.length (ys.length+1)] 32);have BB:=BA.alloc BA.size (.cells #[.string r.pr,.slice p.a r.hd.length p.c,.slice p.ba r.bd.length p.bc,.slice sa xs.length sc] 32);have HR0:Hid (RL ((w.alloc (.cells #[.string s.pr,.slice q.a s.hd.length q.c,.slice q.ba s.bd.length q.bc,.slice a ys.length (ys.length+1)] 32)).alloc (.cells #[.string r.pr,.slice p.a r.hd.length p.c,.slice p.ba r.bd.length p.bc,.slice sa xs.length sc] 32)) w.heap.size 32 [.string s.pr,.slice q.a s.hd.length q.c,.slice q.ba s.bd.length q.bc,.slice a ys.length (ys.length+1)]):=(Zk w #[.string s.pr,.slice q.a s.hd.length q.c,.slice q.ba s.bd.length q.bc,.slice a ys.length (ys.length+1)] 32).below ((Below.refl _ _).alloc (Nat.le_refl _) _)
 have HR1:Hid (RL ((w.alloc (.cells #[.string s.pr,.slice q.a s.hd.length q.c,.slice q.ba s.bd.length q.bc,.slice a ys.length (ys.length+1)] 32)).alloc (.cells #[.string r.pr,.slice p.a r.hd.length p.c,.slice p.ba r.bd.length p.bc,.slice sa xs.length sc] 32)) (w.heap.size+1) 32 [.string r.pr,.slice p.a r.hd.length p.c,.slice p.ba r.bd.length p.bc,.slice sa xs.length sc]):=by
  have:=Zk (w.alloc (.cells #[.string s.pr,.slice q.a s.hd.length q.c,.slice q.ba s.bd.length q.bc,.slice a ys.length (ys.length+1)] 32)) #[.string r.pr,.slice p.a r.hd.length p.c,.slice p.ba r.bd.length p.bc,.slice sa xs.length sc] 32;rw[World.size_alloc]at this;exact this
 obtain⟨A0,hA0⟩:∃A0,A0=(w.alloc (.cells #[.string s.pr,.slice q.a s.hd.length q.c,.slice q.ba s.bd.length q.bc,.slice a ys.length (ys.length+1)] 32)).alloc (.cells #[.string r.pr,.slice p.a r.hd.length p.c,.slice p.ba r.bd.length p.bc,.slice sa xs.length sc] 32):=⟨_,rfl⟩;have HL1:Hid _:=Zim d r s p q lo _ (Zq hp BB) hN.like hs (hN.rule.below BB) (hR.below BB)
 have HL2:Hid (∀u,Below A0.heap.size A0 u→Calls Tryz.prog 82 #[.slice a ys.length (ys.length+1),.slice sa xs.length sc] u fun e w'=>e=.returned (.bool true)∧Below u.heap.size u w'):=fun u hu=>by
  obtain⟨V,_,h2,_,h4⟩:=hN.rests;have hB:Below w.heap.size w u:=by rw[hA0]at hu;exact BB.trans (hu.mono BB.size)
  have h5:=h4.below hB;rw[show(Value.slice a ys.length (ys.length+1))=Value.slice a xs.length (ys.length+1) by rw[hN.len]];exact ZkH xs ys a sa (ys.length+1) sc V.heap.size u hN.len hN.each hxs hxg (Zq hp hB) h5 (hX.below hB)
 have HBB:Hid (Below w.heap.size w _):=BB
 have HLa:Hid (∀u,Below A0.heap.size A0 u→(loadVar 30 ⟨w.heap.size,3,none⟩).run Tryz.prog u=.ok (.slice a ys.length (ys.length+1)) u∧(loadVar 30 ⟨w.heap.size+1,3,none⟩).run Tryz.prog u=.ok (.slice sa xs.length sc) u):=fun u hu=>by
  rw[hA0]at hu;exact⟨ZaO (RL.at (RL.below HR0.out hu) (j:=3) rfl),ZaO (RL.at (RL.below HR1.out hu) (j:=3) rfl)⟩
 have ls0:=Zej HR0.out;have ls1:=Zej HR1.out;unfold R3.val at HL1;clear BA BB hp hR hX hxg hs hN HR0 HR1;go_enter Tryz.func21,Tryz.ntmps21;go_wp2_with fail;refine Calls.mono HL1.out ?_;rw[←hA0]at HBB⊢;clear hA0 ls0 ls1 HL1;rintro e w1 ⟨rfl,b1⟩;have HC:=Lib.hid (HL2.out _ b1);have HB1:Hid (Below w.heap.size w w1):=HBB.out.trans (b1.mono HBB.out.size);obtain⟨l3,l4⟩:=HLa.out _ b1;clear b1 HL2 HLa HBB
 go_wp2_with fail;refine Calls.mono HC.out ?_;rintro e w2 ⟨rfl,b2⟩;have HF:Hid (Below w.heap.size w w2):=HB1.out.trans (b2.mono HB1.out.size);clear b2 HC HB1 l3 l4;go_wp2;go_ret;exact⟨rfl,HF.out⟩
end
section
open Go.RowKit Go.Maps Go.Shelf
def sX:ByteArray:=⟨#[88]⟩
def sN:ByteArray:=⟨#[78]⟩
def sM:ByteArray:=⟨#[77]⟩
def v1:V:=⟨1,1,⟨#[]⟩⟩
def oX:T:=⟨sX,V0⟩
def oN:T:=⟨sN,V0⟩
def oM:T:=⟨sM,V0⟩
def o1:T:=⟨⟨#[]⟩,v1⟩
def oS:Lit4:=⟨3,⟨#[]⟩,[],1,E.mk 0 oN [],E.mk 2 T0 [E.mk 0 oM [],E.mk 0 o1 []]⟩
def oE:Lit4:=⟨1,⟨#[101]⟩,[oX,oM],0,E0,E0⟩
def oR(p1 p2:LP):R3:=⟨⟨#[112]⟩,[⟨0,oX⟩,⟨0,oN⟩],[⟨oS,p1⟩,⟨oE,p2⟩]⟩
def oT1:St:=⟨2,1,1,[sM]⟩
def oT2:St:=⟨6,0,0,[sN]⟩
theorem ZnF(p1 p2:LP):ruleB 3 (oR p1 p2)=true:=by kernel_rfl
theorem Zqu:knB [sX] 1=true:=by kernel_rfl
theorem ZnG(p1 p2:LP):(vsT [] (Zi 3 (oR p1 p2))).length=3:=by kernel_rfl
theorem Zo0(p1 p2:LP):ZaL 3 [sX] (oR p1 p2).bd 3=(oT1,true):=by kernel_rfl
theorem Zo1(p1 p2:LP):ZaL 3 [sX,sM] (oR p1 p2).bd (Z9 3 1)=(oT2,true):=by kernel_rfl
theorem Zo2(p1 p2:LP):ZaL 3 [sX,sM,sN] (oR p1 p2).bd (Z9 (Z9 3 1) 0)=(⟨0,0,0,[]⟩,false):=by kernel_rfl
theorem ZqL(p1 p2:LP):Zf0 (goR 3 (oR p1 p2).bd [sX] 3 [oT1,oT2])=true:=by kernel_rfl
theorem Zqv(p1 p2:LP):Zf0 (goR 3 (oR p1 p2).bd [] 3 [oT1,oT2])=false:=by kernel_rfl
theorem Zqw(p1 p2:LP):ZhR [] 3 (oR p1 p2)=oR p1 p2:=by kernel_rfl
theorem ZpH{fs:List ByteArray}{p1 p2:LP}(h:ZbI 3 [sX] (oR p1 p2) fs):fs.length=3:=by
 obtain⟨⟨j,rfl⟩,hs⟩:=h;have hk:Zbz (eqL 3 (kbL 3 [sX] (oR p1 p2))) (itQ (eqL 3 (kbL 3 [sX] (oR p1 p2))) 1 (atN (kbL 3 [sX] (oR p1 p2))))=itQ (eqL 3 (kbL 3 [sX] (oR p1 p2))) 1 (atN (kbL 3 [sX] (oR p1 p2))):=by kernel_rfl
 have e:=ZoL hs hk;have h3:(itQ (eqL 3 (kbL 3 [sX] (oR p1 p2))) 1 (atN (kbL 3 [sX] (oR p1 p2)))).length=3:=by kernel_rfl
 exact(congrArg List.length e).trans h3
theorem ZqM{xs:List St}{p1 p2:LP}(h:Gt 3 (oR p1 p2).bd [sX] 3 (ZaH 3 [sX] (oR p1 p2).bd 3 (-1)) xs):xs=[oT1,oT2]:=by
 have e1:ZaH 3 [sX] (oR p1 p2).bd 3 (-1)=(oT1,true):=by
  unfold ZaH;rw[if_pos rfl];exact Zo0 p1 p2
 rw[e1]at h
 cases h with
 | more _ _ _ xs h=>
  have e2:ZaL 3 ([sX]++oT1.g) (oR p1 p2).bd (Z9 3 oT1.i.toNat)=(oT2,true):=Zo1 p1 p2;rw[e2]at h
  cases h with
  | more _ _ _ xs h=>
   have e3:ZaL 3 ([sX]++oT1.g++oT2.g) (oR p1 p2).bd (Z9 (Z9 3 oT1.i.toNat) oT2.i.toNat)=(⟨0,0,0,[]⟩,false):=Zo2 p1 p2;rw[e3]at h
   cases h
   rfl
theorem Zp9{p1 p2:LP}{r:R3}(h:LikeR (oR p1 p2) r):∃q1 q2,r=oR q1 q2:=by
 obtain⟨pr,hd,bd⟩:=r;have h1:=h.pr;have h2:=h.hd;have h3:=h.bl;simp only at h1 h2 h3;subst h1 h2;have h4:bd.length=2:=h3
 match bd,h4 with
 | [⟨x1,q1⟩,⟨x2,q2⟩],_=>
  have a1:=h.bd 0 (by show 0<2;decide);have a2:=h.bd 1 (by show 1<2;decide);have b1:x1=oS:=a1;have b2:x2=oE:=a2;subst b1 b2;exact⟨q1,q2,rfl⟩
end
end Go.Proofs.YtjdnpgpbeppgjaaGreatDoor
