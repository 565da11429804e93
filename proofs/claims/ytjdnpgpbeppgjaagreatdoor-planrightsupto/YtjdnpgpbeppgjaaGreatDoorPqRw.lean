import Derived.Test.YtjdnpgpbeppgjaaGreatDoorPqRi
import Derived.Test.YtjdnpgpbeppgjaaGreatDoorA35
import Derived.Test.YtjdnpgpbeppgjaaGreatDoorPlLv
import Derived.BigRegion
set_option linter.unusedSimpArgs false
set_option linter.unusedVariables false
set_option maxHeartbeats 6400000
set_option maxRecDepth 100000
namespace Go.Proofs.YtjdnpgpbeppgjaaGreatDoor
open Go.RowKit Go.Maps Go.Shelf
attribute [local go_sem ↓] Go.wp_at_zero Go.wp_at_succ
attribute [local go_sem] Oper.semAt_some
attribute [-go_sem] loadVar storeVar
theorem LikeR.symmQ{r s:R3}(h:LikeR r s):LikeR s r:=⟨h.pr.symm,h.hd.symm,h.bl.symm,fun i hi=>(h.bd i (by rw[←h.bl];exact hi)).symm⟩
theorem Ze7{d:Nat}{r s:R3}{l:List ByteArray}{xs:List St}{b:Bool}(h:LikeR r s)(hq:ZaI d s l xs b):ZaI d r l xs b:=by
 obtain⟨h1,h2⟩:=hq;rw[h.ruleB]at h1 h2;refine⟨h1,fun hr hk fs hf=>?_⟩;have h3:=h2 hr hk fs (h.symmQ.limK hf);rw[h.terms,h.bl,h.goR]at h3;exact h3
theorem Zjn{d:Nat}{r s:R3}{l:List ByteArray}{xs:List St}{e:Ending}(h:LikeR r s)
  (hc:(e=.returned (.bool false)∧(ruleB (d+1) s=false∨knB l l.length=false∨∃fs,ZbI (d+1) l s fs∧fs.length≠(vsT [] (Zi (d+1) s)).length))∨(ruleB (d+1) s=true∧knB l l.length=true∧∃fs,ZbI (d+1) l s fs∧fs.length=(vsT [] (Zi (d+1) s)).length∧e=.returned (.bool (Zf0 (goR (d+1) s.bd l (2^s.bd.length-1) xs))))) :
  ∃b,e=.returned (.bool b)∧∀b',ZaI (d+1) r l xs b'→b'=b:=by
 rcases hc with ⟨rfl,hc⟩ | ⟨h1,h2,fs,h3,h4,rfl⟩
 ·refine⟨false,rfl,fun b' hq=>?_⟩;obtain⟨q1,q2⟩:=Ze7 h.symmQ hq;rcases hc with hc | hc | ⟨fs,h3,h4⟩
  ·exact q1 (.inl hc)
  ·exact q1 (.inr hc)
  ·cases hr:ruleB (d+1) s
   ·exact q1 (.inl hr)
   ·cases hk:knB l l.length
    ·exact q1 (.inr hk)
    ·rw[q2 hr hk fs h3,decide_eq_false h4];rfl
 ·refine⟨_,rfl,fun b' hq=>?_⟩;obtain⟨q1,q2⟩:=Ze7 h.symmQ hq;rw[q2 h1 h2 fs h3,decide_eq_true h4,Bool.true_and]
theorem Zhp{xs ys:List SX}(hl:ys.length=xs.length)(h:∀i,i<xs.length→ZcV (atZ xs i) (atZ ys i)):ys.map SX.s=xs.map SX.s:=by
 refine List.ext_getElem (by simp[hl]) fun i h1 h2=>?_
 simp only[List.length_map]at h1 h2;have:=h i h2;unfold ZcV at this;rw[ZcL h1,ZcL h2]at this;simpa using this
theorem Zn2(b:Bool)(u:World):(binOp .neq 4 (.bool b) (.bool b)).run Tryz.prog u=.ok (.bool false) u:=by
 cases b<;>go_simp
theorem Zqg{w:World}{g:Nat}{l:List SX}(hr:w.rowIs g 84 ((l.length+1)*4) (Zav 4 (swZ l (l.length/2))))(ht:∀i,i<l.length→TwY w (g+1) (atZ l i))(hl:l.length≤1048576)(hs:∀i,i<l.length→(atZ l i).s.g.length≤1048576):Lz w (.slice (some ⟨g,0,none⟩) l.reverse.length (l.length+1)) l.reverse:=by
 refine⟨?_,fun y hy=>?_⟩
 ·refine ZaC (f:=SX.cells) (k:=4) (by omega) (fun _=>rfl) SX0 (by simp) (by unfold maxLen;omega) (World.rowIs.lt hr) (fun i hi=>?_);rw[List.length_reverse]at hi;have:=ZaJ hr rfl (i:=i) (by omega) (by rw[Zlv hi];rfl);rw[Zlv hi]at this;exact this
 ·have hy':y∈l:=List.mem_reverse.1 hy;obtain⟨i,hi,e⟩:=List.getElem_of_mem hy';have h1:=TwY.is (ht i hi) (hs i hi);rw[ZcL hi,e]at h1;exact h1
theorem Zcv{lo b:Nat}{l:List ByteArray}{a:Option Addr}{c:Nat}(hb:b<lo):∀(vs:List Value) (o:Nat) (w:World),TwX w lo l a c→TwX (w.setCells b o vs) lo l a c
 | [],_,_,h=>h
 | v::r,o,w,h=>by
  rw[World.setCells];exact Zcv hb r (o+1) _ (TwX.set hb h)
theorem Zb4{b b':Nat}{t:TypeId}{l:List Value}(hb:b'≠b):∀(vs:List Value) (o:Nat) (w:World),RL w b' t l→RL (w.setCells b o vs) b' t l
 | [],_,_,h=>h
 | v::r,o,w,h=>by
  rw[World.setCells];exact Zb4 hb r (o+1) _ (RL.other h hb v)
theorem Zmz(u:World)(pr:ByteArray)(a0:Option Addr)(n0 c0:Nat)(a1:Option Addr)(n1 c1:Nat)(a2:Option Addr)(n2 c2:Nat):(storeVar 32 ⟨u.heap.size,0,none⟩ (.agg #[.string pr,.slice a0 n0 c0,.slice a1 n1 c1,.slice a2 n2 c2])).run Tryz.prog (u.alloc (.cells #[.string ⟨#[]⟩,.slice none 0 0,.slice none 0 0,.slice none 0 0] 32))=.ok () (u.alloc (.cells #[.string pr,.slice a0 n0 c0,.slice a1 n1 c1,.slice a2 n2 c2] 32)):=by
 rw[storeVar.eq_1];go_simp
def ZdT:List (List Nat × Nat):=[([],0),([0],1),([0,1],3),([0,1,3],4),([0,1,3,4,2,5],6),([0,1,3,4,2,5,6],7),([0,1,3,4,2,5,6,7],8),([0,1,3,4,2,5,6,7,8],9),([0,1,3,4,2,5,6,7,8,9,10],11),([0,1,3,4,2,5,6,7,8,9,10,11],12),([0,1,3,4,2,5,6,7,8,9,10,11,12],13),([0,1,3,4,2,5,6,7,8,9,10,11,12,13],14),([0,1,3,4,2,5,6,7,8,9,10,11,12,13,14],15),([0,1,3,4,2,5,6,7,8,9,10,11,12,13,14,15,16],17),([0,1,3,4,2,5,6,7,8,9,10,11,12,13,14,15,16,17],18)]
theorem ZqV{ops:Array Oper}{Q:Exit→Act→World→Prop}{S:World→Prop}{a0:Act}{w5:World}{b2 b5:Nat}{tv pv vv kv:Value}{PB:Bool→Prop}{ty1 ty2 ty3:Array TypeId}
  (q0:Zf ops 0 none (.load 32 (.tmp 5)) (some 17))
  (q1:Zf ops 1 none (.move (.tmp 6)) (some 18))
  (q3:Zf ops 3 none (.load 32 (.tmp 2)) (some 20))
  (q4:Zf ops 4 none (.move (.tmp 1)) (some 21))
  (q2:Zf ops 2 none (.call {callee:=.value (.func 19),args:=#[.tmp 17,.tmp 18],argTypes:=ty1}) (some 19))
  (q5:Zf ops 5 none (.call {callee:=.value (.func 20),args:=#[.tmp 20,.tmp 21],argTypes:=ty1}) (some 22))
  (q6:Zf ops 6 none (.binOp .neq 4 (.tmp 19) (.tmp 22) 4) (some 23))
  (q7:Zf ops 7 none (.move (.tmp 23)) (some 24))
  (q8:Zf ops 8 (some (7,false)) (.load 32 (.tmp 5)) (some 25))
  (q9:Zf ops 9 (some (7,false)) (.load 32 (.tmp 2)) (some 26))
  (q10:Zf ops 10 (some (7,false)) (.call {callee:=.value (.func 21),args:=#[.tmp 25,.tmp 26],argTypes:=ty2}) (some 27))
  (q11:Zf ops 11 (some (7,false)) (.unOp .not 4 (.tmp 27)) (some 28))
  (q12:Zf ops 12 none (.pick (.tmp 24) (.const (.bool true)) (.tmp 28)) (some 29))
  (q13:Zf ops 13 none (.move (.tmp 29)) (some 30))
  (q14:Zf ops 14 (some (13,false)) (.move (.tmp 6)) (some 31))
  (q15:Zf ops 15 (some (13,false)) (.move (.tmp 1)) (some 32))
  (q16:Zf ops 16 (some (13,false)) (.call {callee:=.value (.func 13),args:=#[.tmp 31,.tmp 32],argTypes:=ty3}) (some 33))
  (q17:Zf ops 17 (some (13,false)) (.unOp .not 4 (.tmp 33)) (some 34))
  (q18:Zf ops 18 none (.pick (.tmp 30) (.const (.bool true)) (.tmp 34)) (some 35))
  (hs:Region.noSelect ops=true) (hq:(ZdT.all fun p=>Region.free .any ops (LR 19 p.1) p.2&&(Region.ready .any ops (LR 19 p.1)).contains p.2)=true)
  (r2:Region.ready .any ops (LR 19 [0,1,3,4])=[2])
  (r5:Region.ready .any ops (LR 19 [0,1,3,4,2])=[5])
  (r10:Region.ready .any ops (LR 19 [0,1,3,4,2,5,6,7,8,9])=[10])
  (r16:Region.ready .any ops (LR 19 [0,1,3,4,2,5,6,7,8,9,10,11,12,13,14,15])=[16])
  (rend:Region.ready .any ops (LR 19 [0,1,3,4,2,5,6,7,8,9,10,11,12,13,14,15,16,17,18])=[])
  (hQ:∀(d:Option Tmp) (v:Value) c a w,Q (.panic c) (a.put d v) w→Q (.panic c) a w)
  (hsz:35<a0.tmps.size) (e5:a0.eval (.tmp 5)=.pointer (some ⟨b5,0,none⟩)) (e6:a0.eval (.tmp 6)=vv) (e2:a0.eval (.tmp 2)=.pointer (some ⟨b2,0,none⟩)) (e1:a0.eval (.tmp 1)=kv)
  (hS0:S w5.drew)
  (keep:∀u u',S u→S u'→S u') (LT:∀u,S u→(loadVar 32 ⟨b5,0,none⟩).run Tryz.prog u=.ok tv u) (LP:∀u,S u→(loadVar 32 ⟨b2,0,none⟩).run Tryz.prog u=.ok pv u)
  (H1:∀u,S u→Calls Tryz.prog 19 #[tv,vv] u fun e w'=>∃b1,e=.returned (.bool b1)∧S w'∧PB b1) (H2:∀u b1,S u→PB b1→Calls Tryz.prog 20 #[pv,kv] u fun e w'=>e=.returned (.bool b1)∧S w')
  (H3:∀u,S u→Calls Tryz.prog 21 #[tv,pv] u fun e w'=>e=.returned (.bool true)∧S w') (H4:∀u,S u→Calls Tryz.prog 13 #[vv,kv] u fun e w'=>e=.returned (.bool true)∧S w')
  (EN:∀(b:Bool) (u:World),(binOp .neq 4 (.bool b) (.bool b)).run Tryz.prog u=.ok (.bool false) u)
  (F:∀(wc:World) (b1:Bool),S wc→Q .normal (((((((((((((((((((a0.put (some 17) (tv)).put (some 18) (vv)).put (some 20) (pv)).put (some 21) (kv)).put (some 19) (.bool b1)).put (some 22) (.bool b1)).put (some 23) (.bool false)).put (some 24) (.bool false)).put (some 25) (tv)).put (some 26) (pv)).put (some 27) (.bool true)).put (some 28) (.bool false)).put (some 29) (.bool false)).put (some 30) (.bool false)).put (some 31) (vv)).put (some 32) (kv)).put (some 33) (.bool true)).put (some 34) (.bool false)).put (some 35) (.bool false)) wc) :
  wpAnyH Tryz.prog .any ops Q S 19 (LR 19 []) a0 w5.drew:=by
 have hall:∀p∈ZdT,Region.free .any ops (LR 19 p.1) p.2=true∧(Region.ready .any ops (LR 19 p.1)).contains p.2=true:=by
  intro p hp;have:=List.all_eq_true.1 hq p hp;simpa using this
 unfold ZdT at hall;obtain⟨og7,hog7,_,_,dog7⟩:=Zd q7;obtain⟨og13,hog13,_,_,dog13⟩:=Zd q13;refine Zj [] (tv) q0 hs (hall ([],0) (by simp)) hQ (fun o w' hop hS=>ZF _ _ hop w' (by(repeat rw[Za _ _ (by decide)]);exact e5) (LT _ hS)) hS0 ?_;refine Zj [0] (vv) q1 hs (hall ([0],1) (by simp)) hQ (fun o w' hop hS=>Zs _ _ hop w' (by(repeat rw[Za _ _ (by decide)]);exact e6)) hS0 ?_
 refine Zj [0,1] (pv) q3 hs (hall ([0,1],3) (by simp)) hQ (fun o w' hop hS=>ZF _ _ hop w' (by(repeat rw[Za _ _ (by decide)]);exact e2) (LP _ hS)) hS0 ?_;refine Zj [0,1,3] (kv) q4 hs (hall ([0,1,3],4) (by simp)) hQ (fun o w' hop hS=>Zs _ _ hop w' (by(repeat rw[Za _ _ (by decide)]);exact e1)) hS0 ?_;refine wpAnyH_all r2 (by simp) ?_;intro i hi;obtain rfl:=List.mem_singleton.1 hi
 obtain⟨o2,ho,hg,hop,hd⟩:=Zd q2;have x2_0:(((((a0.put (some 17) (tv)).put (some 18) (vv)).put (some 20) (pv)).put (some 21) (kv))).eval (.tmp 17)=tv:=(by(repeat(first | rw[Zc _ _ (by(try simp only[Zb]);omega)] | rw[Za _ _ (by decide)])));have x2_1:(((((a0.put (some 17) (tv)).put (some 18) (vv)).put (some 20) (pv)).put (some 21) (kv))).eval (.tmp 18)=vv:=(by(repeat(first | rw[Zc _ _ (by(try simp only[Zb]);omega)] | rw[Za _ _ (by decide)])))
 refine Zw ho (Zv hg) (ZC 19 Tryz.func19 (by kernel_rfl) (by kernel_rfl) #[.tmp 17,.tmp 18] _ hop #[tv,vv] (by simp only[List.map_toArray,List.map_cons,List.map_nil,x2_0,x2_1])) ?_;refine(H1 _ hS0).mono ?_;rintro e u1 ⟨b1,rfl,k1,hpb⟩;have hS2:=keep _ _ hS0 k1;refine⟨_,rfl,hS2,?_⟩;rw[hd];clear ho hg hop hd;rw[←Zh];refine wpAnyH_all r5 (by simp) ?_;intro i hi;obtain rfl:=List.mem_singleton.1 hi
 obtain⟨o5,ho,hg,hop,hd⟩:=Zd q5;have x5_0:((((((a0.put (some 17) (tv)).put (some 18) (vv)).put (some 20) (pv)).put (some 21) (kv)).put (some 19) (.bool b1))).eval (.tmp 20)=pv:=(by(repeat(first | rw[Zc _ _ (by(try simp only[Zb]);omega)] | rw[Za _ _ (by decide)])));have x5_1:((((((a0.put (some 17) (tv)).put (some 18) (vv)).put (some 20) (pv)).put (some 21) (kv)).put (some 19) (.bool b1))).eval (.tmp 21)=kv:=(by(repeat(first | rw[Zc _ _ (by(try simp only[Zb]);omega)] | rw[Za _ _ (by decide)])))
 refine Zw ho (Zv hg) (ZC 20 Tryz.func20 (by kernel_rfl) (by kernel_rfl) #[.tmp 20,.tmp 21] _ hop #[pv,kv] (by simp only[List.map_toArray,List.map_cons,List.map_nil,x5_0,x5_1])) ?_;refine(H2 _ _ hS2 hpb).mono ?_;rintro e u2 ⟨rfl,k2⟩;have hS5:=keep _ _ hS2 k2;refine⟨_,rfl,hS5,?_⟩;rw[hd];clear ho hg hop hd;rw[←Zh];refine Zj [0,1,3,4,2,5] (.bool false) q6 hs (hall ([0,1,3,4,2,5],6) (by simp)) hQ (fun o w' hop hS=>Zel _ _ hop w' (by(repeat(first | rw[Zc _ _ (by(try simp only[Zb]);omega)] | rw[Za _ _ (by decide)]))) (by(repeat(first | rw[Zc _ _ (by(try simp only[Zb]);omega)] | rw[Za _ _ (by decide)]))) (by first | rfl | go_simp) ((EN b1) w')) hS5 ?_
 refine Zj [0,1,3,4,2,5,6] (.bool false) q7 hs (hall ([0,1,3,4,2,5,6],7) (by simp)) hQ (fun o w' hop hS=>Zs _ _ hop w' (by(repeat(first | rw[Zc _ _ (by(try simp only[Zb]);omega)] | rw[Za _ _ (by decide)])))) hS5 ?_;obtain⟨o8,ho,hg,hop,hd⟩:=Zd q8;have hfr:=hall ([0,1,3,4,2,5,6,7],8) (by simp);refine wpAnyH_take (listed:=LR 19 [0,1,3,4,2,5,6,7]) (v:=tv) ho hs hfr.1 hfr.2 (hQ _ _) (Or.inl ⟨((Zz hog7 dog7 hg (by(repeat(first | rw[Zo _ _ (by(try simp only[Zb]);omega)] | rw[Zr _ _ (by decide)])))).trans (by decide)),fun w' hS=>ZF _ _ hop w' (by(repeat rw[Za _ _ (by decide)]);exact e5) (LT _ hS)⟩) hS5 ?_
 rw[hd,←Zh];clear ho hg hop hd hfr;obtain⟨o9,ho,hg,hop,hd⟩:=Zd q9;have hfr:=hall ([0,1,3,4,2,5,6,7,8],9) (by simp);refine wpAnyH_take (listed:=LR 19 [0,1,3,4,2,5,6,7,8]) (v:=pv) ho hs hfr.1 hfr.2 (hQ _ _) (Or.inl ⟨((Zz hog7 dog7 hg (by(repeat(first | rw[Zo _ _ (by(try simp only[Zb]);omega)] | rw[Zr _ _ (by decide)])))).trans (by decide)),fun w' hS=>ZF _ _ hop w' (by(repeat rw[Za _ _ (by decide)]);exact e2) (LP _ hS)⟩) hS5 ?_
 rw[hd,←Zh];clear ho hg hop hd hfr;refine wpAnyH_all r10 (by simp) ?_;intro i hi;obtain rfl:=List.mem_singleton.1 hi;obtain⟨o10,ho,hg,hop,hd⟩:=Zd q10;have x10_0:(((((((((((a0.put (some 17) (tv)).put (some 18) (vv)).put (some 20) (pv)).put (some 21) (kv)).put (some 19) (.bool b1)).put (some 22) (.bool b1)).put (some 23) (.bool false)).put (some 24) (.bool false)).put (some 25) (tv)).put (some 26) (pv))).eval (.tmp 25)=tv:=(by(repeat(first | rw[Zc _ _ (by(try simp only[Zb]);omega)] | rw[Za _ _ (by decide)])))
 have x10_1:(((((((((((a0.put (some 17) (tv)).put (some 18) (vv)).put (some 20) (pv)).put (some 21) (kv)).put (some 19) (.bool b1)).put (some 22) (.bool b1)).put (some 23) (.bool false)).put (some 24) (.bool false)).put (some 25) (tv)).put (some 26) (pv))).eval (.tmp 26)=pv:=(by(repeat(first | rw[Zc _ _ (by(try simp only[Zb]);omega)] | rw[Za _ _ (by decide)])));refine Zw ho ((Zz hog7 dog7 hg (by(repeat(first | rw[Zo _ _ (by(try simp only[Zb]);omega)] | rw[Zr _ _ (by decide)])))).trans (by decide)) (ZC 21 Tryz.func21 (by kernel_rfl) (by kernel_rfl) #[.tmp 25,.tmp 26] _ hop #[tv,pv] (by simp only[List.map_toArray,List.map_cons,List.map_nil,x10_0,x10_1])) ?_
 refine(H3 _ hS5).mono ?_;rintro e u3 ⟨rfl,k3⟩;have hS10:=keep _ _ hS5 k3;refine⟨_,rfl,hS10,?_⟩;rw[hd];clear ho hg hop hd;rw[←Zh];obtain⟨o11,ho,hg,hop,hd⟩:=Zd q11;have hfr:=hall ([0,1,3,4,2,5,6,7,8,9,10],11) (by simp);refine wpAnyH_take (listed:=LR 19 [0,1,3,4,2,5,6,7,8,9,10]) (v:=.bool false) ho hs hfr.1 hfr.2 (hQ _ _) (Or.inl ⟨((Zz hog7 dog7 hg (by(repeat(first | rw[Zo _ _ (by(try simp only[Zb]);omega)] | rw[Zr _ _ (by decide)])))).trans (by decide)),fun w' hS=>Zcy (b:=true) _ _ hop w' (by(repeat(first | rw[Zc _ _ (by(try simp only[Zb]);omega)] | rw[Za _ _ (by decide)])))⟩) hS10 ?_
 rw[hd,←Zh];clear ho hg hop hd hfr;refine Zj [0,1,3,4,2,5,6,7,8,9,10,11] (.bool false) q12 hs (hall ([0,1,3,4,2,5,6,7,8,9,10,11],12) (by simp)) hQ (fun o w' hop hS=>Zcx _ _ hop w' (by(repeat(first | rw[Zc _ _ (by(try simp only[Zb]);omega)] | rw[Za _ _ (by decide)]))) (by(repeat(first | rw[Zc _ _ (by(try simp only[Zb]);omega)] | rw[Za _ _ (by decide)])))) hS10 ?_
 refine Zj [0,1,3,4,2,5,6,7,8,9,10,11,12] (.bool false) q13 hs (hall ([0,1,3,4,2,5,6,7,8,9,10,11,12],13) (by simp)) hQ (fun o w' hop hS=>Zs _ _ hop w' (by(repeat(first | rw[Zc _ _ (by(try simp only[Zb]);omega)] | rw[Za _ _ (by decide)])))) hS10 ?_;obtain⟨o14,ho,hg,hop,hd⟩:=Zd q14;have hfr:=hall ([0,1,3,4,2,5,6,7,8,9,10,11,12,13],14) (by simp);refine wpAnyH_take (listed:=LR 19 [0,1,3,4,2,5,6,7,8,9,10,11,12,13]) (v:=vv) ho hs hfr.1 hfr.2 (hQ _ _) (Or.inl ⟨((Zz hog13 dog13 hg (by(repeat(first | rw[Zo _ _ (by(try simp only[Zb]);omega)] | rw[Zr _ _ (by decide)])))).trans (by decide)),fun w' hS=>Zs _ _ hop w' (by(repeat rw[Za _ _ (by decide)]);exact e6)⟩) hS10 ?_
 rw[hd,←Zh];clear ho hg hop hd hfr;obtain⟨o15,ho,hg,hop,hd⟩:=Zd q15;have hfr:=hall ([0,1,3,4,2,5,6,7,8,9,10,11,12,13,14],15) (by simp);refine wpAnyH_take (listed:=LR 19 [0,1,3,4,2,5,6,7,8,9,10,11,12,13,14]) (v:=kv) ho hs hfr.1 hfr.2 (hQ _ _) (Or.inl ⟨((Zz hog13 dog13 hg (by(repeat(first | rw[Zo _ _ (by(try simp only[Zb]);omega)] | rw[Zr _ _ (by decide)])))).trans (by decide)),fun w' hS=>Zs _ _ hop w' (by(repeat rw[Za _ _ (by decide)]);exact e1)⟩) hS10 ?_
 rw[hd,←Zh];clear ho hg hop hd hfr;refine wpAnyH_all r16 (by simp) ?_;intro i hi;obtain rfl:=List.mem_singleton.1 hi;obtain⟨o16,ho,hg,hop,hd⟩:=Zd q16;have x16_0:(((((((((((((((((a0.put (some 17) (tv)).put (some 18) (vv)).put (some 20) (pv)).put (some 21) (kv)).put (some 19) (.bool b1)).put (some 22) (.bool b1)).put (some 23) (.bool false)).put (some 24) (.bool false)).put (some 25) (tv)).put (some 26) (pv)).put (some 27) (.bool true)).put (some 28) (.bool false)).put (some 29) (.bool false)).put (some 30) (.bool false)).put (some 31) (vv)).put (some 32) (kv))).eval (.tmp 31)=vv:=(by(repeat(first | rw[Zc _ _ (by(try simp only[Zb]);omega)] | rw[Za _ _ (by decide)])))
 have x16_1:(((((((((((((((((a0.put (some 17) (tv)).put (some 18) (vv)).put (some 20) (pv)).put (some 21) (kv)).put (some 19) (.bool b1)).put (some 22) (.bool b1)).put (some 23) (.bool false)).put (some 24) (.bool false)).put (some 25) (tv)).put (some 26) (pv)).put (some 27) (.bool true)).put (some 28) (.bool false)).put (some 29) (.bool false)).put (some 30) (.bool false)).put (some 31) (vv)).put (some 32) (kv))).eval (.tmp 32)=kv:=(by(repeat(first | rw[Zc _ _ (by(try simp only[Zb]);omega)] | rw[Za _ _ (by decide)])))
 refine Zw ho ((Zz hog13 dog13 hg (by(repeat(first | rw[Zo _ _ (by(try simp only[Zb]);omega)] | rw[Zr _ _ (by decide)])))).trans (by decide)) (ZC 13 Tryz.func13 (by kernel_rfl) (by kernel_rfl) #[.tmp 31,.tmp 32] _ hop #[vv,kv] (by simp only[List.map_toArray,List.map_cons,List.map_nil,x16_0,x16_1])) ?_;refine(H4 _ hS10).mono ?_;rintro e u4 ⟨rfl,k4⟩;have hS16:=keep _ _ hS10 k4
 refine⟨_,rfl,hS16,?_⟩;rw[hd];clear ho hg hop hd;rw[←Zh];obtain⟨o17,ho,hg,hop,hd⟩:=Zd q17;have hfr:=hall ([0,1,3,4,2,5,6,7,8,9,10,11,12,13,14,15,16],17) (by simp);refine wpAnyH_take (listed:=LR 19 [0,1,3,4,2,5,6,7,8,9,10,11,12,13,14,15,16]) (v:=.bool false) ho hs hfr.1 hfr.2 (hQ _ _) (Or.inl ⟨((Zz hog13 dog13 hg (by(repeat(first | rw[Zo _ _ (by(try simp only[Zb]);omega)] | rw[Zr _ _ (by decide)])))).trans (by decide)),fun w' hS=>Zcy (b:=true) _ _ hop w' (by(repeat(first | rw[Zc _ _ (by(try simp only[Zb]);omega)] | rw[Za _ _ (by decide)])))⟩) hS16 ?_
 rw[hd,←Zh];clear ho hg hop hd hfr;refine Zj [0,1,3,4,2,5,6,7,8,9,10,11,12,13,14,15,16,17] (.bool false) q18 hs (hall ([0,1,3,4,2,5,6,7,8,9,10,11,12,13,14,15,16,17],18) (by simp)) hQ (fun o w' hop hS=>Zcx _ _ hop w' (by(repeat(first | rw[Zc _ _ (by(try simp only[Zb]);omega)] | rw[Za _ _ (by decide)]))) (by(repeat(first | rw[Zc _ _ (by(try simp only[Zb]);omega)] | rw[Za _ _ (by decide)])))) hS16 ?_
 exact wpAnyH_done rend (F _ b1 hS16) _
theorem planRights_walk(d:Nat)(r:R3)(p:RP)(xs:List SX)(w:World)(hG:(KT w∧DT w)∧PWt w)(hR:RIs w (d+1) r p){sa:Option Addr}{sc:Nat}(hX:Lz w (.slice sa xs.length sc) xs)(hxs:xs.length≤1048576)(hxg:∀i,i<xs.length→(atZ xs i).s.g.length≤1048576){v:Value}{l:List ByteArray}(hl:Ls w v l.length (l.flatMap Zm))(hsz:∀i,i<l.length→(atS l i).size≤maxLen)(hll:l.length≤1048576) :
  Calls Tryz.prog 4 #[.agg #[.string r.pr,.slice p.a r.hd.length p.c,.slice p.ba r.bd.length p.bc,.slice sa xs.length sc],v] w fun e w'=>e=.returned (.bool true)∧Below w.heap.size w w':=by
 obtain⟨⟨hKT,hDT⟩,hPW⟩:=hG;have hA0:=Zp (w:=w) (.cells #[.string r.pr,.slice p.a r.hd.length p.c,.slice p.ba r.bd.length p.bc,.slice sa xs.length sc] 32);have HB0:=Lib.hid hA0;have HRL:=Lib.hid (Zk w #[.string r.pr,.slice p.a r.hd.length p.c,.slice p.ba r.bd.length p.bc,.slice sa xs.length sc] 32);have HK:Hid (∀u,Below w.heap.size w u→KT u∧DT u∧PWt u):=fun u hu=>⟨hKT.below hu,hDT.below hu,Zq hPW hu⟩
 have HR:Hid (∀u,Below w.heap.size w u→RIs u (d+1) r p):=fun u hu=>hR.below hu
 have HX:Hid (∀u,Below w.heap.size w u→Lz u (.slice sa xs.length sc) xs):=fun u hu=>hX.below hu
 have HL:Hid (∀u,Below w.heap.size w u→Ls u v l.length (l.flatMap Zm)):=fun u hu=>hl.below hu
 have HSZ:=Lib.hid hsz;have HXG:=Lib.hid hxg;obtain⟨la,lc,hv,hlc1,hlc2,_⟩:=Z3 hl;subst hv;have hBY:=Zgg (d+1) r p _ (hR.below hA0);unfold R3.val at hBY;have HBY:=Lib.hid hBY;obtain⟨W,hW⟩:∃W,W=w.alloc (.cells #[.string r.pr,.slice p.a r.hd.length p.c,.slice p.ba r.bd.length p.bc,.slice sa xs.length sc] 32):=⟨_,rfl⟩;rw[←hW]at HB0 HRL HBY;clear hKT hDT hPW hR hX hl hsz hxg hA0 hBY hlc1 hlc2
 go_enter Tryz.func4,Tryz.ntmps4;go_upto_region 1 with fail
 rw[←hW];have lr0:=Zej HRL.out;generalize w.heap.size=b2 at HRL lr0⊢;clear hW;go_wp2_with fail;refine HBY.out.mono ?_;rintro e w1 ⟨b,rfl,b1,hsm⟩;have HB1:=Lib.hid b1;clear lr0 HBY b1
 cases b
 case true=>
  clear hsm;go_wp2;go_ret;exact⟨rfl,HB0.out.trans (HB1.out.mono HB0.out.size)⟩
 case false=>
 have HSM:=Lib.hid (hsm rfl);have HW1:Hid (Below w.heap.size w w1):=HB0.out.trans (HB1.out.mono HB0.out.size);have lp1:=Zcu (RL.below HRL.out HB1.out);have HTP:=Lib.hid (Zek (HK.out _ HW1.out).2.2 HSM.out (HR.out _ HW1.out) (HX.out _ HW1.out) hxs HXG.out);have HZ1:Hid (w.heap.size≤w1.heap.size):=HW1.out.size;clear hsm;go_wp2_with fail;refine HTP.out.mono ?_;rintro e w2 ⟨s,q,ys,ta,rfl,b2',hN⟩
 have HN:=Lib.hid hN;have HB2:Hid (Below W.heap.size W w2):=HB1.out.trans (b2'.mono HB1.out.size);have HW2:Hid (Below w.heap.size w w2):=HB0.out.trans (HB2.out.mono HB0.out.size);have HTX:=Lib.hid (Zht _ l w2 (HK.out _ HW2.out).2.2 hll (HL.out _ HW2.out));clear hN HTP b2' lp1 HB1 HW1;go_wp2_with fail;refine HTX.out.mono ?_;rintro e w3 ⟨va,rfl,b3,hx3⟩;obtain⟨V,hV1,hV2,hV3,hV4⟩:=HN.out.rests;obtain⟨g,hta,hg1,hg2,hgr⟩:=hV4.lies
 subst hta;have HYN:Hid (ys.length=xs.length):=HN.out.len;have HYE:=Lib.hid HN.out.each;have HLK:=Lib.hid HN.out.like;obtain⟨n,hn⟩:∃n,n=ys.length:=⟨_,rfl⟩;rw[←hn]at hgr⊢;have HNN:Hid (ys.length=n):=hn.symm;clear hn;have hA3:=Zp (w:=w3) (.cells #[.string s.pr,.slice q.a s.hd.length q.c,.slice q.ba s.bd.length q.bc,.slice (some ⟨g,0,none⟩) n (n+1)] 32);obtain⟨W4,hW4⟩:∃W4,W4=w3.alloc (.cells #[.string s.pr,.slice q.a s.hd.length q.c,.slice q.ba s.bd.length q.bc,.slice (some ⟨g,0,none⟩) n (n+1)] 32):=⟨_,rfl⟩
 have hst5:=Zmz w3 s.pr q.a s.hd.length q.c q.ba s.bd.length q.bc (some ⟨g,0,none⟩) n (n+1);have HR5:=Lib.hid (Zk w3 #[.string s.pr,.slice q.a s.hd.length q.c,.slice q.ba s.bd.length q.bc,.slice (some ⟨g,0,none⟩) n (n+1)] 32);rw[←hW4]at HR5 hst5
 have HB4:Hid (Below W.heap.size W W4):=by
  show Below _ _ _;rw[hW4];exact(HB2.out.trans (b3.mono HB2.out.size)).trans (hA3.mono (HB2.out.trans (b3.mono HB2.out.size)).size)
 have HW4:Hid (Below w.heap.size w W4):=HB0.out.trans (HB4.out.mono HB0.out.size)
 have HV4:Hid (Below V.heap.size V W4):=by
  show Below _ _ _;rw[hW4];exact(hV2.trans (b3.mono hV2.size)).trans (hA3.mono (hV2.trans (b3.mono hV2.size)).size)
 have HN4:Hid (TwN W4 w1.heap.size (d+1) r s q xs ys (some ⟨g,0,none⟩)):=by
  show TwN _ _ _ _ _ _ _ _ _;rw[hW4];exact(HN.out.below b3).below hA3
 have HX4:Hid (TwX W4 w2.heap.size l va (l.length+1)):=by
  show TwX _ _ _ _ _;rw[hW4];exact hx3.below hA3
 have HGW:Hid (V.heap.size≤g∧g<w2.heap.size∧w2.heap.size≤w3.heap.size∧w.heap.size≤V.heap.size):=⟨hg1,hg2,b3.size,Nat.le_trans HZ1.out hV1⟩;have HRS:Hid (∀u,Below V.heap.size V u→RIs u (d+1) s q):=fun u hu=>(hV3.below hu).is HLK.out (HR.out _ (Below.refl _ _)) HSM.out
 clear HTX b3 hx3 HN hV1 hV2 hV3 hV4 hg1 hg2 hgr hA3;go_upto_region 4 with fail
 rw[←hW4];obtain⟨b5,hb5⟩:∃b5,b5=w3.heap.size:=⟨_,rfl⟩;rw[←hb5]at HR5⊢
 have HG5:Hid (g<b5∧V.heap.size≤g∧g<w2.heap.size):=by
  have h1:=HGW.out;show _∧_∧_;omega
 clear hb5 hW4 hst5
 have HYG:Hid (∀i,i<ys.length→(atZ ys i).s.g.length≤1048576):=fun i hi=>by
  have h1:i<xs.length:=by rw[←HYN.out];exact hi
  have h2:=HYE.out i h1;unfold ZcV at h2;rw[h2];exact HXG.out i h1
 have HYL:Hid (ys.length≤1048576):=by show _≤_;rw[HYN.out];exact hxs
 have HSS:=Lib.hid (HLK.out.small HSM.out);have HUW:Hid (∀u,Below W4.heap.size W4 u→Below w.heap.size w u):=fun u hu=>HW4.out.trans (hu.mono HW4.out.size)
 have HUV:Hid (∀u,Below W4.heap.size W4 u→Below V.heap.size V u):=fun u hu=>HV4.out.trans (hu.mono HV4.out.size)
 refine wp_region_noPanic ?_;refine wp_region_held (S:=fun u=>Below W4.heap.size W4 u) (by kernel_rfl) ?_;refine ZqV (w5:=W4) (S:=fun u=>Below W4.heap.size W4 u) (b2:=b2) (b5:=b5) (tv:=.agg #[.string s.pr,.slice q.a s.hd.length q.c,.slice q.ba s.bd.length q.bc,.slice (some ⟨g,0,none⟩) n (n+1)]) (pv:=.agg #[.string r.pr,.slice p.a r.hd.length p.c,.slice p.ba r.bd.length p.bc,.slice sa xs.length sc]) (vv:=.slice va l.length (l.length+1)) (kv:=.slice la l.length lc) (PB:=fun b=>∀b',ZaI (d+1) r l (xs.map SX.s) b'→b'=b) rfl rfl rfl rfl rfl rfl rfl rfl rfl rfl rfl rfl rfl rfl rfl rfl rfl rfl rfl (by kernel_rfl) (by kernel_rfl) (by kernel_rfl) (by kernel_rfl) (by kernel_rfl) (by kernel_rfl) (by kernel_rfl) (by intros;assumption) (by simp) rfl rfl rfl rfl (Below.refl _ _).drew (fun _ _ _ h=>h) (fun u hu=>Zcu (RL.below HR5.out hu)) (fun u hu=>Zcu (RL.below HRL.out (HB4.out.trans (hu.mono HB4.out.size)))) ?_ ?_ ?_ ?_ Zn2 ?_
 ·intro u hu;obtain⟨V',_,h2,_,h4⟩:=HN4.out.rests;have hz:=(h4.below hu).lz HYL.out HYG.out;have h:=Zdx d s q ys u (HK.out _ (HUW.out u hu)).1 (HRS.out u (HUV.out u hu)) HSS.out HSS.out.terms hz ((HX4.out.below hu).ls hll) HSZ.out;rw[HNN.out]at h;refine h.mono ?_;rintro e w' ⟨hb,hc⟩;obtain⟨b,rfl,hpb⟩:=Zjn HLK.out hc;rw[Zhp HYN.out HYE.out]at hpb;exact⟨b,rfl,hu.trans (hb.mono hu.size),hpb⟩
 ·intro u b1 hu hpb;refine(Zf9 (HR.out _ (HUW.out u hu)) HSM.out (HX.out _ (HUW.out u hu)) (HL.out _ (HUW.out u hu)) HSZ.out hll).mono ?_;rintro e w' ⟨⟨b',rfl,hq⟩,hb⟩;exact⟨by rw[hpb b' hq],hu.trans (hb.mono hu.size)⟩
 ·intro u hu;have h:=Zij (HK.out _ (HUW.out u hu)).2.2 HSM.out (HR.out _ (HUW.out u hu)) (HX.out _ (HUW.out u hu)) hxs HXG.out (HN4.out.below hu);rw[HNN.out]at h;exact h.mono (fun e w' hh=>⟨hh.1,hu.trans (hh.2.mono hu.size)⟩)
 ·intro u hu;exact(Zhu l va la (l.length+1) lc w2.heap.size u hll (HK.out _ (HUW.out u hu)).2.2 (HX4.out.below hu) (HL.out _ (HUW.out u hu))).mono (fun e w' hh=>⟨hh.1,hu.trans (hh.2.mono hu.size)⟩)
 intro wc b1 hwc;refine NoPanic.normal ?_
 rename_i hK
 refine hK _ _ ?_;simp (config:={maxSteps:=8000000}) only[Act.put,List.getElem_toArray,List.getElem_cons_zero,List.getElem_cons_succ,List.setIfInBounds_toArray,List.set_cons_succ,List.set_cons_zero];have HBC:Hid (Below W4.heap.size W4 wc):=hwc;have HWC:Hid (Below w.heap.size w wc):=HUW.out _ hwc;have HVC:Hid (Below V.heap.size V wc):=HUV.out _ hwc;have HRC:=Lib.hid (RL.below HR5.out hwc);have HXC:=Lib.hid (HX4.out.below hwc)
 have HYC:Hid (wc.rowIs g 84 ((ys.length+1)*4) (Zav 4 (swZ ys 0))∧∀i,i<ys.length→TwY wc (g+1) (atZ ys i)):=by
  obtain⟨V',_,h2,_,h4⟩:=(HN4.out.below hwc).rests;obtain⟨g',hg',_,_,hr⟩:=h4.lies;have e:g=g':=by simpa using congrArg Addr.block (Option.some.inj hg')
  subst e;exact⟨World.rowIs.congr hr (ZqD ys),h4.apart g rfl⟩
 clear hK hwc HN4 HX4 HR5 HUW HUV HV4 HBC HRL HB4 HW4;have hq2:(n:Int)/2=((n/2:Nat):Int):=by omega
 have hq3:Int.tdiv (n:Int) 2=((n/2:Nat):Int):=by rw[Int.tdiv_eq_ediv_of_nonneg (by omega)];omega
 obtain⟨hf,hhf⟩:∃hf,n/2=hf:=⟨_,rfl⟩;rw[hhf]at hq2 hq3;have hfl:hf≤n:=by omega
 have hnl:n≤1048576:=by rw[←HNN.out];exact HYL.out
 have HHF:Hid (n/2=hf):=hhf;clear hhf;go_upto_region 6 with fail
 go_wp2;go_loopw [7,8] (fun i _ wr=>∃k:Nat,k≤hf∧i=.int .i64 (k:Int)∧Hid (Below w.heap.size w wr)∧Hid (Below V.heap.size V wr)∧Hid (wr.rowIs g 84 ((ys.length+1)*4) (Zav 4 (swZ ys k)))∧Hid (∀i,i<ys.length→TwY wr (g+1) (atZ ys i))∧Hid (TwX wr w2.heap.size l va (l.length+1))∧Hid (RL wr b5 32 [.string s.pr,.slice q.a s.hd.length q.c,.slice q.ba s.bd.length q.bc,.slice (some ⟨g,0,none⟩) n (n+1)])) (fun i _ _=>hf-(intOf i).toNat)
 case atStart=>exact⟨0,Nat.zero_le _,rfl,HWC.out,HVC.out,HYC.out.1,HYC.out.2,HXC.out,HRC.out⟩
 case round=>
  obtain⟨k,hk,rfl,HBW,HBV,HRW,HTY,HTX,HRP⟩:=hrel;clear HYC HXC HRC HWC HVC;have ls:=ZaO (RL.at HRP.out (j:=3) rfl)
  by_cases hlt:k<hf
  ·have hlt':(k:Int)<(hf:Int):=by omega
   have hk2:k<ys.length/2:=by have h1:=HNN.out;have h2:=HHF.out;rw[h1];omega
   obtain⟨m,hm⟩:∃m,ys.length-1-k=m:=⟨_,rfl⟩;have hmk:(n:Int)-1-(k:Int)=(m:Int):=by have h1:=HNN.out;have h2:=HHF.out;omega
   have hm1:(m:Int)<(n:Int):=by omega
   have hk1:(k:Int)<(n:Int):=by omega
   have hrow:=HRW.out;have lsd:=ZaO (RL.at (RL.below HRP.out (Below.refl _ _).drew) (j:=3) rfl);have hldk:=Zbq (u:=wr.drew) (ZaJ (World.rowIs.drew hrow) rfl (i:=k) (by omega) (by unfold swZ;rw[if_neg (by omega)];rfl)) (by unfold swZ;rw[if_neg (by omega)];rfl);have hldm:=Zbq (u:=wr.drew) (ZaJ (World.rowIs.drew hrow) rfl (i:=m) (by omega) (by unfold swZ;rw[if_neg (by omega)];rfl)) (by unfold swZ;rw[if_neg (by omega)];rfl)
   have ek:swZ ys k k=(atZ ys k).cells:=by unfold swZ;rw[if_neg (by omega),ZqE hk2]
   have em:swZ ys k m=(atZ ys m).cells:=by unfold swZ;rw[if_neg (by omega),←hm,ZqF hk2]
   rw[ek]at hldk;rw[em]at hldm;obtain⟨hA,hB⟩:=Zpf hk2 (World.rowIs.drew hrow);rw[hm]at hA hB;have hs1:=ZbW (Zas (World.rowIs.drew hrow) rfl (i:=k) (by omega)) (cs:=(atZ ys m).cells) rfl (Zbr _);have hs2:=ZbW (u:=wr.drew.setCells g (k*4) (atZ ys m).cells) (Zas (ZaM (k:=k) (by decide) (World.rowIs.drew hrow) (atZ ys m).cells rfl) rfl (i:=m) (by omega)) (cs:=(atZ ys k).cells) rfl (Zbr _)
   have hs3:=ZbW (Zas (World.rowIs.drew hrow) rfl (i:=m) (by omega)) (cs:=(atZ ys k).cells) rfl (Zbr _);have hs4:=ZbW (u:=wr.drew.setCells g (m*4) (atZ ys k).cells) (Zas (ZaM (k:=m) (by decide) (World.rowIs.drew hrow) (atZ ys k).cells rfl) rfl (i:=k) (by omega)) (cs:=(atZ ys m).cells) rfl (Zbr _);have hgl:w.heap.size≤g:=by have:=HGW.out;omega
   have hgV:V.heap.size≤g:=HG5.out.2.1;have hgX:g<w2.heap.size:=HG5.out.2.2;have hgb:b5≠g:=by have:=HG5.out;omega
   have HA:Hid (((wr.drew.setCells g (k*4) (atZ ys m).cells).setCells g (m*4) (atZ ys k).cells).rowIs g 84 ((ys.length+1)*4) (Zav 4 (swZ ys (k+1)))∧Below w.heap.size w ((wr.drew.setCells g (k*4) (atZ ys m).cells).setCells g (m*4) (atZ ys k).cells)∧Below V.heap.size V ((wr.drew.setCells g (k*4) (atZ ys m).cells).setCells g (m*4) (atZ ys k).cells)∧(∀i,i<ys.length→TwY ((wr.drew.setCells g (k*4) (atZ ys m).cells).setCells g (m*4) (atZ ys k).cells) (g+1) (atZ ys i))∧TwX ((wr.drew.setCells g (k*4) (atZ ys m).cells).setCells g (m*4) (atZ ys k).cells) w2.heap.size l va (l.length+1)∧RL ((wr.drew.setCells g (k*4) (atZ ys m).cells).setCells g (m*4) (atZ ys k).cells) b5 32 [.string s.pr,.slice q.a s.hd.length q.c,.slice q.ba s.bd.length q.bc,.slice (some ⟨g,0,none⟩) n (n+1)]):=⟨hA,Zy hgl _ _ _ (Zy hgl _ _ _ HBW.out.drew),Zy hgV _ _ _ (Zy hgV _ _ _ HBV.out.drew),fun i hi=>Zad (by omega) _ _ _ (Zad (by omega) _ _ _ ((HTY.out i hi).below (Below.refl _ _).drew)),Zcv hgX _ _ _ (Zcv hgX _ _ _ (HTX.out.below (Below.refl _ _).drew)),Zb4 hgb _ _ _ (Zb4 hgb _ _ _ (RL.below HRP.out (Below.refl _ _).drew))⟩
   have HB:Hid (((wr.drew.setCells g (m*4) (atZ ys k).cells).setCells g (k*4) (atZ ys m).cells).rowIs g 84 ((ys.length+1)*4) (Zav 4 (swZ ys (k+1)))∧Below w.heap.size w ((wr.drew.setCells g (m*4) (atZ ys k).cells).setCells g (k*4) (atZ ys m).cells)∧Below V.heap.size V ((wr.drew.setCells g (m*4) (atZ ys k).cells).setCells g (k*4) (atZ ys m).cells)∧(∀i,i<ys.length→TwY ((wr.drew.setCells g (m*4) (atZ ys k).cells).setCells g (k*4) (atZ ys m).cells) (g+1) (atZ ys i))∧TwX ((wr.drew.setCells g (m*4) (atZ ys k).cells).setCells g (k*4) (atZ ys m).cells) w2.heap.size l va (l.length+1)∧RL ((wr.drew.setCells g (m*4) (atZ ys k).cells).setCells g (k*4) (atZ ys m).cells) b5 32 [.string s.pr,.slice q.a s.hd.length q.c,.slice q.ba s.bd.length q.bc,.slice (some ⟨g,0,none⟩) n (n+1)]):=⟨hB,Zy hgl _ _ _ (Zy hgl _ _ _ HBW.out.drew),Zy hgV _ _ _ (Zy hgV _ _ _ HBV.out.drew),fun i hi=>Zad (by omega) _ _ _ (Zad (by omega) _ _ _ ((HTY.out i hi).below (Below.refl _ _).drew)),Zcv hgX _ _ _ (Zcv hgX _ _ _ (HTX.out.below (Below.refl _ _).drew)),Zb4 hgb _ _ _ (Zb4 hgb _ _ _ (RL.below HRP.out (Below.refl _ _).drew))⟩
   have lsA:=ZaO (u:=wr.drew.setCells g (k*4) (atZ ys m).cells) (RL.at (Zb4 hgb _ _ _ (RL.below HRP.out (Below.refl _ _).drew)) (j:=3) rfl);have lsB:=ZaO (u:=wr.drew.setCells g (m*4) (atZ ys k).cells) (RL.at (Zb4 hgb _ _ _ (RL.below HRP.out (Below.refl _ _).drew)) (j:=3) rfl);generalize (wr.drew.setCells g (k*4) (atZ ys m).cells).setCells g (m*4) (atZ ys k).cells=WA at hs2 HA
   generalize (wr.drew.setCells g (m*4) (atZ ys k).cells).setCells g (k*4) (atZ ys m).cells=WB at hs4 HB;generalize wr.drew.setCells g (k*4) (atZ ys m).cells=W1 at hs1 hs2 lsA;generalize wr.drew.setCells g (m*4) (atZ ys k).cells=W2 at hs3 hs4 lsB;generalize Value.agg (atZ ys k).cells.toArray=KV at hldk hs2 hs3;generalize Value.agg (atZ ys m).cells.toArray=MV at hldm hs1 hs4;clear hrow hA hB ek em HTY HRW hk2 hm HTX HBW HBV HRP hgl hgV hgX hgb
   go_upto_region 10 with fail
   go_region
   all_goals
    go_wp2;go_roundw
    case rel=>first | exact⟨k+1,by omega,by go_num,HA.out.2.1,HA.out.2.2.1,HA.out.1,HA.out.2.2.2.1,HA.out.2.2.2.2.1,HA.out.2.2.2.2.2⟩ | exact⟨k+1,by omega,by go_num,HB.out.2.1,HB.out.2.2.1,HB.out.1,HB.out.2.2.2.1,HB.out.2.2.2.2.1,HB.out.2.2.2.2.2⟩
    case measure=>simp[intOf];omega
  ·obtain rfl:k=hf:=by omega
   have hrv:Lz wr (.slice (some ⟨g,0,none⟩) ys.reverse.length (ys.length+1)) ys.reverse:=by
    have h1:=HRW.out;rw[show k=ys.length/2 by rw[HNN.out,HHF.out]]at h1;exact Zqg h1 HTY.out HYL.out HYG.out
   have HRG:Hid (∀i,i<ys.reverse.length→(atZ ys.reverse i).s.g.length≤1048576):=fun i hi=>by
    rw[List.length_reverse]at hi;rw[Zlu hi];exact HYG.out _ (by omega)
   have hrl:ys.reverse.length=n:=by rw[List.length_reverse];exact HNN.out
   obtain⟨rl,hrl0⟩:∃rl,ys.reverse=rl:=⟨_,rfl⟩;rw[hrl0]at hrv HRG hrl;have HRLN:Hid (rl.length=n):=hrl;have HNL:Hid (n≤1048576):=by show _≤_;rw[←HNN.out];exact HYL.out
   have hrv2:=hrv;rw[hrl,HNN.out]at hrv2;have HLZ:=Lib.hid hrv;have lpn:=Zcu HRP.out;have hTP:=Zek (HK.out _ HBW.out).2.2 HSS.out (HRS.out _ HBV.out) hrv (by rw[hrl];exact HNL.out) HRG.out;rw[hrl,HNN.out]at hTP;have HTP:=Lib.hid hTP;clear hTP hrl0 hrv hrv2 HRW HTY hrl;go_wp2_with fail;refine HTP.out.mono ?_;clear ls hq2 hq3;rintro e w7 ⟨s2,q2,zs,ta2,rfl,b7,hN2⟩;have HW7:Hid (Below w.heap.size w w7):=HBW.out.trans (b7.mono HBW.out.size)
   have HV7:Hid (Below V.heap.size V w7):=HBV.out.trans (b7.mono HBV.out.size);have HP7:=Lib.hid (RL.below HRP.out b7);have HX7:=Lib.hid (HTX.out.below b7);have HL7:=Lib.hid (HLZ.out.below b7);have HZL:Hid (zs.length≤1048576):=by show _≤_;rw[hN2.len,HRLN.out];exact HNL.out
   have HZG:Hid (∀i,i<zs.length→(atZ zs i).s.g.length≤1048576):=fun i hi=>by
    have h1:i<rl.length:=by rw[←hN2.len];exact hi
    have h2:=hN2.each i h1;unfold ZcV at h2;rw[h2];exact HRG.out i h1
   have HQR:=Lib.hid (Zf9 (hN2.rule.is hN2.like (HRS.out _ HBV.out) HSS.out) (hN2.like.small HSS.out) (by
    obtain⟨V',_,h2,_,h4⟩:=hN2.rests;exact h4.lz HZL.out HZG.out) (HL.out _ HW7.out) HSZ.out hll)
   have HMP:=Lib.hid (Zhp hN2.len hN2.each);have HLK2:=Lib.hid hN2.like;clear hN2 b7 HTP HLZ HRP HTX lpn;go_wp2_with fail;refine HQR.out.mono ?_;rintro e w8 ⟨⟨bq,rfl,hq⟩,b8⟩
   have HQ:Hid (ZaI (d+1) s2 l (rl.map SX.s) bq):=by
    rw[HMP.out]at hq;exact hq
   have HW8:Hid (Below w.heap.size w w8):=HW7.out.trans (b8.mono HW7.out.size);have HV8:Hid (Below V.heap.size V w8):=HV7.out.trans (b8.mono HV7.out.size);have lp8:=Zcu (RL.below HP7.out b8);have hRA:=Zdx d s q rl w8 (HK.out _ HW8.out).1 (HRS.out _ HV8.out) HSS.out HSS.out.terms (HL7.out.below b8) ((HX7.out.below b8).ls hll) HSZ.out;rw[HRLN.out,HNN.out]at hRA;have HRA:=Lib.hid hRA;clear hq b8 HQR HMP hRA HP7 HX7 HL7
   go_wp2_with fail;refine HRA.out.mono ?_;rintro e w9 ⟨b9',hc⟩;obtain⟨bp,rfl,hpb⟩:=Zjn HLK2.out.symmQ hc;obtain rfl:=hpb bq HQ.out;have HW9:Hid (Below w.heap.size w w9):=HW8.out.trans (b9'.mono HW8.out.size);have HLI:=Lib.hid (Zi0 (HK.out _ HW9.out).1 (HK.out _ HW9.out).2.1);clear hc hpb b9' HRA lp8 HQ
   cases bq
   all_goals
    go_wp2_with fail;refine HLI.out.mono ?_;rintro e w10 ⟨rfl,b10⟩;have HF:Hid (Below w.heap.size w w10):=HW9.out.trans (b10.mono HW9.out.size);clear b10 HLI;go_wp2;go_ret;exact⟨rfl,HF.out⟩
end Go.Proofs.YtjdnpgpbeppgjaaGreatDoor
