import Derived.Test.YtjdnpgpbeppgjaaGreatDoorA21
import Derived.Test.YtjdnpgpbeppgjaaGreatDoorA24
import Derived.Test.YtjdnpgpbeppgjaaGreatDoorA8
import Derived.Test.YtjdnpgpbeppgjaaGreatDoorA29
import Derived.Test.YtjdnpgpbeppgjaaGreatDoorA19
set_option linter.unusedSimpArgs false
set_option linter.unusedVariables false
set_option maxHeartbeats 3200000
namespace Go.Proofs.YtjdnpgpbeppgjaaGreatDoor
section
open Go.RowKit Go.Maps
attribute [local go_sem ↓] Go.wp_at_zero Go.wp_at_succ
theorem Zim(d:Nat)(r s:R3)(p q:RP)(lo:Nat)(w:World)(hp:PWt w)(hl:LikeR r s)(hs:Zaj d r)(hW:TwR w lo d s q)(hR:RIs w d r p) :
  Calls Tryz.prog 12 #[s.val q,r.val p] w fun e w'=>e=.returned (.bool true)∧Below w.heap.size w w':=by
 obtain⟨pr',hd',bd⟩:=r;obtain⟨pr,hd,l'⟩:=s;obtain⟨pa,pc,ba,bc⟩:=p;obtain⟨qa,qc,qb,qbc⟩:=q;obtain⟨h1,h2,h3,h4⟩:=hl;dsimp only at h1 h2 h3 h4;subst h1 h2;unfold R3.val;dsimp only;rw[h3];have BA:=(Below.refl w.heap.size w).alloc (Nat.le_refl _) (.cells #[.string pr,.slice qa hd.length qc,.slice qb bd.length qbc] 25);have BB:=BA.alloc BA.size (.cells #[.string pr,.slice pa hd.length pc,.slice ba bd.length bc] 25)
 have HR0:Hid (RL ((w.alloc (.cells #[.string pr,.slice qa hd.length qc,.slice qb bd.length qbc] 25)).alloc (.cells #[.string pr,.slice pa hd.length pc,.slice ba bd.length bc] 25)) w.heap.size 25 [.string pr,.slice qa hd.length qc,.slice qb bd.length qbc]):=(Zk w #[.string pr,.slice qa hd.length qc,.slice qb bd.length qbc] 25).below ((Below.refl _ _).alloc (Nat.le_refl _) _)
 have HR1:Hid (RL ((w.alloc (.cells #[.string pr,.slice qa hd.length qc,.slice qb bd.length qbc] 25)).alloc (.cells #[.string pr,.slice pa hd.length pc,.slice ba bd.length bc] 25)) (w.heap.size+1) 25 [.string pr,.slice pa hd.length pc,.slice ba bd.length bc]):=by
  have:=Zk (w.alloc (.cells #[.string pr,.slice qa hd.length qc,.slice qb bd.length qbc] 25)) #[.string pr,.slice pa hd.length pc,.slice ba bd.length bc] 25;rw[World.size_alloc]at this;exact this
 have HA:Hid _:=Zin hd qa pa qc pc lo _ hs.hd (Zq hp BB) (hW.hd.below BB) (hR.hd.below BB);have HB:Hid (∀u,Below w.heap.size w u→Calls Tryz.prog 36 #[.slice qb bd.length qbc,.slice ba bd.length bc] u fun r w'=>r=.returned (.bool true)∧Below u.heap.size u w'):=fun u hu=>ZeS d bd l' qb ba qbc bc lo u hs.bd h3 h4 hs.each (Zq hp hu) (hW.bd.below hu) (hR.bd.below hu)
 have HBB:Hid (Below w.heap.size w _):=BB;have e0:(pr.toList==pr.toList)=true:=by simp
 clear hp BA BB hR hW h3 h4 hs;dsimp only at HA;go_enter Tryz.func12,Tryz.ntmps12;go_wp2_with fail;refine Calls.mono HA.out ?_;rintro ee w1 ⟨rfl,b1⟩;have B1:Hid (Below w.heap.size w w1):=HBB.out.trans (b1.mono HBB.out.size);have H0:Hid (RL w1 w.heap.size 25 _):=RL.below HR0.out b1;have H1:Hid (RL w1 (w.heap.size+1) 25 _):=RL.below HR1.out b1;have u2:=H0.out.at (j:=2) rfl;have v2:=H1.out.at (j:=2) rfl
 clear b1 HR0 HR1 HBB HA;go_wp2_with fail;refine Calls.mono (HB.out _ B1.out) ?_;rintro ee w2 ⟨rfl,b2⟩;go_wp2;go_ret;exact⟨rfl,B1.out.trans (b2.mono B1.out.size)⟩
end
section
open Go.RowKit Go.Maps Go.Shelf
attribute [local go_sem ↓] Go.wp_at_zero Go.wp_at_succ
attribute [-go_sem] loadVar storeVar
theorem Zil(w:World)(hp:PWt w):Calls Tryz.prog 25 #[.int .i64 777777] w fun e w'=>e=.returned (.string Zt)∧Below w.heap.size w w':=by
 have HP:Hid (PWt w):=hp;clear hp;go_enter Tryz.func25,Tryz.ntmps25;go_wp2_with fail;refine(Za8 _ HP.out).mono ?_;rintro e w1 ⟨rfl,b1⟩;have HB:=Lib.hid b1;clear b1 HP;generalize hmw:Zt=MW;have HM:Hid _:=hmw;clear hmw;go_wp2;go_ret;exact⟨by rw[HM.out];rfl,HB.out⟩
theorem Zjv(w:World)(hp:PWt w):Calls Tryz.prog 38 #[.string Zt,.int .i64 777777] w fun e w'=>e=.returned (.bool true)∧Below w.heap.size w w':=by
 have HP:Hid (PWt w):=hp;clear hp;obtain⟨MW,hmw⟩:∃MW,Zt=MW:=⟨_,rfl⟩;have HM:Hid (Zt=MW):=hmw;rw[hmw];clear hmw;go_enter Tryz.func38,Tryz.ntmps38;go_wp2_with fail;refine(Za8 _ HP.out).mono ?_;rintro e w1 ⟨rfl,b1⟩;have HB:=Lib.hid b1;rw[HM.out];clear b1 HP;have hq:(MW.toList==MW.toList)=true:=beq_self_eq_true _;go_wp2;go_ret;exact⟨rfl,HB.out⟩
theorem ZkI(n:Nat)(hn:n≤1048576)(w:World) :
  (Instr.makeSlice 26 (.int .i64 ((n:Int)+1)) (.int .i64 ((n:Int)+1))).run Tryz.prog w=.ok (.slice (some ⟨w.heap.size,0,none⟩) (n+1) (n+1)) (w.alloc (.cells (madeCells #[.string ⟨#[]⟩] (n+1)) 9)):=by
 have h:=Zcq;obtain⟨i,hi,he⟩:=Option.map_eq_some_iff.1 h;simp only[Prod.mk.injEq]at he;obtain⟨h1,h2,h3⟩:=he;have:=run_make (P:=Tryz.prog) w 26 9 i _ Tryz.underlying26 hi h1 .i64 .i64 ((n:Int)+1) ((n:Int)+1) (by omega) (Int.le_refl _) (by rw[h3];omega) (by omega);rw[this,h2,show((n:Int)+1).toNat=n+1 by omega,Nat.mul_one];rfl
theorem Zlw{u:World}{b k n:Nat}{f:Nat→Value}(h:u.rowIs b 9 n f)(hk:k<n)(s:ByteArray):(storeVar 9 ⟨b,k,none⟩ (.string s)).run Tryz.prog u=.ok () (u.setCell ⟨b,k,none⟩ (.string s)):=by
 have c:=h.cell hk;have fz:=h.frozen k;rw[storeVar.eq_1];go_simp
structure TwX (w:World) (lo:Nat) (l:List ByteArray) (a:Option Addr) (c:Nat):Prop where
 cap:c=l.length+1
 lies:∃g,a=some ⟨g,0,none⟩∧lo≤g∧g<w.heap.size∧w.cell? ⟨g,l.length,none⟩=some (.string Zt)∧∀i,i<l.length→w.cell? ⟨g,i,none⟩=some (.string (atS l i))
theorem TwX.below{w w':World}{lo:Nat}{l:List ByteArray}{a:Option Addr}{c:Nat}(h:TwX w lo l a c)(b:Below w.heap.size w w'):TwX w' lo l a c:=by
 obtain⟨h1,g,h2,h3,h4,h5,h6⟩:=h;exact⟨h1,g,h2,h3,Nat.lt_of_lt_of_le h4 b.size,(b.cell (p:=⟨g,l.length,none⟩) h4).trans h5,fun i hi=>(b.cell (p:=⟨g,i,none⟩) h4).trans (h6 i hi)⟩
theorem TwX.set{w:World}{lo b j:Nat}{v:Value}(hb:b<lo){l:List ByteArray}{a:Option Addr}{c:Nat}(h:TwX w lo l a c):TwX (w.setCell ⟨b,j,none⟩ v) lo l a c:=by
 obtain⟨h1,g,h2,h3,h4,h5,h6⟩:=h;have e:(w.setCell ⟨b,j,none⟩ v).heap[g]?=w.heap[g]?:=heap_setCell_other _ _ _ _ (by show g≠b;omega);exact⟨h1,g,h2,h3,by simpa using h4,(ZJ e _).trans h5,fun i hi=>(ZJ e _).trans (h6 i hi)⟩
theorem TwX.lower{w:World}{lo lo':Nat}(hl:lo'≤lo){l:List ByteArray}{a:Option Addr}{c:Nat}(h:TwX w lo l a c):TwX w lo' l a c:=by
 obtain⟨h1,g,h2,h3,h4,h5,h6⟩:=h;exact⟨h1,g,h2,Nat.le_trans hl h3,h4,h5,h6⟩
theorem TwX.ls{w:World}{lo:Nat}{l:List ByteArray}{a:Option Addr}{c:Nat}(h:TwX w lo l a c)(hl:l.length≤1048576):Ls w (.slice a l.length c) l.length (l.flatMap Zm):=by
 obtain⟨rfl,g,rfl,_,hg,_,hk⟩:=h;refine ZaC (f:=Zm) (k:=1) (by omega) (fun _=>rfl) noS (by omega) (by unfold maxLen;omega) hg (fun i hi j v hv=>?_);have hj:j=0:=by have:=(List.getElem?_eq_some_iff.1 hv).1;simp[Zm]at this;omega
 subst hj;have e:Value.string (l.getD i noS)=v:=by simpa[Zm]using hv
 rw[←e,Nat.mul_one];exact hk i hi
theorem Zht(v:Value)(l:List ByteArray)(w:World)(hp:PWt w)(hs:l.length≤1048576)(hL:Ls w v l.length (l.flatMap Zm)) :
  Calls Tryz.prog 7 #[v] w fun r w'=>∃a',r=.returned (.slice a' l.length (l.length+1))∧Below w.heap.size w w'∧TwX w' w.heap.size l a' (l.length+1):=by
 obtain⟨a,c,rfl,hc1,hc2,hk⟩:=Z3 hL;have hmk:=ZkI l.length hs;have HK:Hid _:=hk;have HP:Hid (PWt w):=hp;clear hk hp hc2 hL;go_enter Tryz.func7,Tryz.ntmps7;go_wp2;go_loopw [4] (fun i wr=>∃(k:Nat) (f:Nat→Value),k≤l.length∧i=.int .i64 k∧Below w.heap.size w wr∧wr.rowIs w.heap.size 9 (l.length+1) f∧Hid (∀i,i<k→f i=.string (atS l i))) (fun i _=>l.length-(intOf i).toNat)
 case atStart=>exact⟨0,fun _=>.string ⟨#[]⟩,Nat.zero_le _,rfl,(Below.refl _ _).alloc (Nat.le_refl _) _,World.rowIs_made w (.string ⟨#[]⟩) (l.length+1) 9,fun i hi=>absurd hi (Nat.not_lt_zero _)⟩
 case round=>
  obtain⟨k,f,hk,rfl,bel,hrow,HF⟩:=hrel;clear hmk;have HR:Hid (wr.rowIs w.heap.size 9 (l.length+1) f):=hrow;have hwlt:w.heap.size<wr.heap.size:=hrow.lt;clear hrow
  by_cases hlt:k<l.length
  ·have hlt':(k:Int)<(l.length:Int):=by omega
   obtain⟨g,off,rfl,hg,hKS⟩:=HK.out (by omega);have l1:=ZL ((bel.cell (p:=⟨g,off+k,none⟩) hg).trans (hKS k hlt));have hst:=Zlw HR.out (k:=k) (by omega) (atS l k);have HN:Hid ((wr.setCell ⟨w.heap.size,k,none⟩ (.string (atS l k))).rowIs w.heap.size 9 (l.length+1) (fun j=>if j=k then .string (atS l k)else f j)):=HR.out.set k (.string (atS l k));have HBn:Hid (Below w.heap.size w (wr.setCell ⟨w.heap.size,k,none⟩ (.string (atS l k)))):=bel.setCell (p:=⟨w.heap.size,k,none⟩) (Nat.le_refl _) _
   have HFn:Hid (∀i,i<k+1→(fun j=>if j=k then Value.string (atS l k)else f j) i=.string (atS l i)):=fun i hi=>by
    by_cases e:i=k
    ·subst e;simp
    ·simp only[if_neg e];exact HF.out i (by omega)
   generalize wr.setCell ⟨w.heap.size,k,none⟩ (.string (atS l k))=W2 at hst HN HBn;have hk1:(k:Int)<(l.length:Int)+1:=by omega
   generalize hx:atS l k=x at l1 hst HN HFn;clear hKS HR hx;go_wp2;go_roundw
   case rel=>exact⟨k+1,_,by omega,by go_num,HBn.out,HN.out,HFn.out⟩
   case measure=>simp[intOf];omega
  ·obtain rfl:k=l.length:=by omega
   go_wp2_with fail;refine(Zil _ (Zq HP.out bel)).mono ?_;rintro r w1 ⟨rfl,b1⟩;have HR1:Hid (w1.rowIs w.heap.size 9 (l.length+1) f):=HR.out.of_block (b1.block _ hwlt);have bel1:Below w.heap.size w w1:=bel.trans (b1.mono bel.size);have hst:=Zlw HR1.out (k:=l.length) (by omega) Zt;have HN:Hid ((w1.setCell ⟨w.heap.size,l.length,none⟩ (.string Zt)).rowIs w.heap.size 9 (l.length+1) (fun j=>if j=l.length then .string Zt else f j)):=HR1.out.set l.length (.string Zt)
   have HBn:Hid (Below w.heap.size w (w1.setCell ⟨w.heap.size,l.length,none⟩ (.string Zt))):=bel1.setCell (p:=⟨w.heap.size,l.length,none⟩) (Nat.le_refl _) _;generalize w1.setCell ⟨w.heap.size,l.length,none⟩ (.string Zt)=W2 at hst HN HBn;have hk1:(l.length:Int)<(l.length:Int)+1:=by omega
   clear b1 HR bel HR1;obtain⟨MW,hmw⟩:∃MW,Zt=MW:=⟨_,rfl⟩;rw[hmw]at hst HN⊢;have HM:Hid _:=hmw;clear hmw;go_wp2;go_ret;refine⟨some ⟨w.heap.size,0,none⟩,rfl,HBn.out,rfl,w.heap.size,rfl,Nat.le_refl _,World.rowIs.lt HN.out,?_,fun i hi=>?_⟩
   ·have:=World.rowIs.cell HN.out (i:=l.length) (by omega);rw[this,if_pos rfl,HM.out]
   ·have:=World.rowIs.cell HN.out (i:=i) (by omega);rw[this,if_neg (by omega),HF.out i hi]
theorem Zhu(l:List ByteArray)(a a0:Option Addr)(c c0 lo:Nat)(w:World)(hs:l.length≤1048576)(hp:PWt w)(hW:TwX w lo l a c)(hL:Ls w (.slice a0 l.length c0) l.length (l.flatMap Zm)) :
  Calls Tryz.prog 13 #[.slice a l.length c,.slice a0 l.length c0] w fun r w'=>r=.returned (.bool true)∧Below w.heap.size w w':=by
 have HS:Hid _:=Zgu _ _ l w (hW.ls hs) hL;obtain⟨rfl,g,rfl,_,hg,hmk,_⟩:=hW;have HMK:Hid (w.cell? ⟨g,l.length,none⟩=some (.string Zt)):=hmk;have HP:Hid (PWt w):=hp;clear hmk hp hL;go_enter Tryz.func13,Tryz.ntmps13;go_wp2_with fail;refine Calls.mono HS.out ?_;rintro r w1 ⟨rfl,b1⟩;have l1:=ZL ((b1.cell (p:=⟨g,l.length,none⟩) hg).trans HMK.out);have hMK:Hid _:=Zjv w1 (Zq HP.out b1)
 have hk1:(l.length:Int)<(l.length:Int)+1:=by omega
 obtain⟨MW,hmw⟩:∃MW,Zt=MW:=⟨_,rfl⟩;rw[hmw]at l1 hMK;clear hmw HS HMK HP;go_wp2_with (go_at_call 38;refine Calls.mono hMK.out ?_;rintro r w2 ⟨rfl,b2⟩);go_ret;exact⟨rfl,b1.trans (b2.mono b1.size)⟩
theorem Zbr(y:SX):(SX.cells y).toArray.all (·.oneCell')=true:=by simp[SX.cells,Value.oneCell']
theorem Zfs{n:Nat}(U:Nat→SX){i:Nat}(h:i<n):atZ ((List.range n).map U) i=U i:=by simp[atZ,List.getD,h]
def SX.val(y:SX):Value:=.agg #[.int .i8 y.s.k,.int .i64 y.s.i,.int .u32 y.s.m,.slice y.a y.s.g.length y.c]
theorem SX.val_eq(y:SX):Value.agg y.cells.toArray=y.val:=rfl
def YIs(w:World)(y:SX):Prop:=Ls w (.slice y.a y.s.g.length y.c) y.s.g.length (y.s.g.flatMap Zm)
theorem YIs.below{w w':World}{y:SX}(h:YIs w y)(b:Below w.heap.size w w'):YIs w' y:=Ls.below h b
def ZcV(x y:SX):Prop:=y.s=x.s
def TwY(w:World)(lo:Nat)(y:SX):Prop:=TwX w lo y.s.g y.a y.c
theorem TwY.below{w w':World}{lo:Nat}{y:SX}(h:TwY w lo y)(b:Below w.heap.size w w'):TwY w' lo y:=TwX.below h b
theorem TwY.lower{w:World}{lo lo':Nat}(hl:lo'≤lo){y:SX}(h:TwY w lo y):TwY w lo' y:=TwX.lower hl h
theorem Zad{lo b:Nat}{y:SX}(hb:b<lo):∀(vs:List Value) (o:Nat) (w:World),TwY w lo y→TwY (w.setCells b o vs) lo y
 | [],_,_,h=>h
 | v::r,o,w,h=>by rw[World.setCells];exact Zad hb r (o+1) _ (TwX.set hb h)
theorem TwY.is{u:World}{lo:Nat}{y:SX}(h:TwY u lo y)(hs:y.s.g.length≤1048576):YIs u y:=TwX.ls h hs
theorem ZmJ(x:SX)(w:World)(hp:PWt w)(hs:x.s.g.length≤1048576)(hF:YIs w x) :
  Calls Tryz.prog 206 #[x.val] w fun r w'=>∃y,r=.returned y.val∧Below w.heap.size w w'∧ZcV x y∧TwY w' w.heap.size y:=by
 obtain⟨⟨sk,si,sm,sg⟩,a,c⟩:=x;have hL:Ls w (.slice a sg.length c) sg.length (sg.flatMap Zm):=hF;unfold SX.val;dsimp only at hs hL⊢;have BA:=(Below.refl w.heap.size w).alloc (Nat.le_refl _) (.cells #[.int .i8 sk,.int .i64 si,.int .u32 sm,.slice a sg.length c] 84);have BB:=BA.alloc BA.size (.cells #[.int .i8 0,.int .i64 0,.int .u32 0,.slice none 0 0] 84);have HR0:Hid (RL _ w.heap.size 84 [.int .i8 sk,.int .i64 si,.int .u32 sm,.slice a sg.length c]):=(Zk w #[.int .i8 sk,.int .i64 si,.int .u32 sm,.slice a sg.length c] 84).below ((Below.refl _ _).alloc (Nat.le_refl _) (.cells #[.int .i8 0,.int .i64 0,.int .u32 0,.slice none 0 0] 84))
 have HR1:Hid (RL ((w.alloc (.cells #[.int .i8 sk,.int .i64 si,.int .u32 sm,.slice a sg.length c] 84)).alloc (.cells #[.int .i8 0,.int .i64 0,.int .u32 0,.slice none 0 0] 84)) (w.heap.size+1) 84 [.int .i8 0,.int .i64 0,.int .u32 0,.slice none 0 0]):=by
  have:=Zk (w.alloc (.cells #[.int .i8 sk,.int .i64 si,.int .u32 sm,.slice a sg.length c] 84)) #[.int .i8 0,.int .i64 0,.int .u32 0,.slice none 0 0] 84;rw[World.size_alloc]at this;exact this
 have HT:Hid _:=Zht _ sg _ (Zq hp BB) hs (hL.below BB);have HBB:Hid (Below w.heap.size w _):=BB;have x3:=Zay (RL.at HR0.out (j:=3) rfl);clear BA BB hL hF hp;go_enter Tryz.func206,Tryz.ntmps206;go_wp2_with fail;refine Calls.mono HT.out ?_;rintro r w1 ⟨a',rfl,b1,htw⟩;have HA:Hid (RL w1 w.heap.size 84 [.int .i8 sk,.int .i64 si,.int .u32 sm,.slice a sg.length c]):=RL.below HR0.out b1
 have HB:Hid (RL w1 (w.heap.size+1) 84 [.int .i8 0,.int .i64 0,.int .u32 0,.slice none 0 0]):=RL.below HR1.out b1;have HTW:Hid (TwX w1 (w.heap.size+2) sg a' (sg.length+1)):=htw.lower (by simp);have HB1:Hid (Below w.heap.size w w1):=HBB.out.trans (b1.mono HBB.out.size)
 have hst1:(storeVar 26 ⟨w.heap.size,3,none⟩ (.slice a' sg.length (sg.length+1))).run Tryz.prog w1=.ok () (w1.setCell ⟨w.heap.size,3,none⟩ (.slice a' sg.length (sg.length+1))):=by
  have c:=RL.at HA.out (j:=3) rfl;have fz:=World.rowIs.frozen HA.out 3;rw[storeVar.eq_1];go_simp
 have HA2:Hid (RL (w1.setCell ⟨w.heap.size,3,none⟩ (.slice a' sg.length (sg.length+1))) w.heap.size 84 [.int .i8 sk,.int .i64 si,.int .u32 sm,.slice a' sg.length (sg.length+1)]):=RL.set HA.out 3 (.slice a' sg.length (sg.length+1));have HBo:Hid (RL (w1.setCell ⟨w.heap.size,3,none⟩ (.slice a' sg.length (sg.length+1))) (w.heap.size+1) 84 [.int .i8 0,.int .i64 0,.int .u32 0,.slice none 0 0]):=RL.other (i:=3) HB.out (by omega:w.heap.size+1≠w.heap.size) _
 have HB2:Hid (Below w.heap.size w (w1.setCell ⟨w.heap.size,3,none⟩ (.slice a' sg.length (sg.length+1)))):=HB1.out.setCell (p:=⟨w.heap.size,3,none⟩) (Nat.le_refl _) _;have HT2:Hid (TwX (w1.setCell ⟨w.heap.size,3,none⟩ (.slice a' sg.length (sg.length+1))) (w.heap.size+2) sg a' (sg.length+1)):=HTW.out.set (by omega);generalize w1.setCell ⟨w.heap.size,3,none⟩ (.slice a' sg.length (sg.length+1))=W2 at hst1 HA2 HBo HB2 HT2
 have hld:=Zbq (RL.range HA2.out) rfl;have hst2:(storeVar 84 ⟨w.heap.size+1,0,none⟩ (.agg #[.int .i8 sk,.int .i64 si,.int .u32 sm,.slice a' sg.length (sg.length+1)])).run Tryz.prog W2=.ok () (W2.setCells (w.heap.size+1) 0 [.int .i8 sk,.int .i64 si,.int .u32 sm,.slice a' sg.length (sg.length+1)]):=run_storeVar_mid W2 _ 0 _ #[.int .i8 sk,.int .i64 si,.int .u32 sm,.slice a' sg.length (sg.length+1)] (by have:=Zb6 HBo.out;exact this) (by kernel_rfl) (by simp[Value.oneCell'])
 clear b1 htw HR0 HR1 HT HBB HA HB HTW HB1 x3;go_wp2;refine bodyPost_ret (ZO Tryz.results206 (v:=.agg #[.int .i8 sk,.int .i64 si,.int .u32 sm,.slice a' sg.length (sg.length+1)]) rfl (run_loadVar_mid _ _ 0 84 [.int .i8 sk,.int .i64 si,.int .u32 sm,.slice a' sg.length (sg.length+1)] _ (RL.range (Zcz HBo.out [.int .i8 sk,.int .i64 si,.int .u32 sm,.slice a' sg.length (sg.length+1)] rfl)) Tryz.underlying84 rfl (by kernel_rfl))) rfl ⟨⟨⟨sk,si,sm,sg⟩,a',sg.length+1⟩,rfl,?_,rfl,?_⟩
 ·exact Zy (by omega) _ _ _ HB2.out
 ·exact TwY.lower (by omega) (Zad (y:=⟨⟨sk,si,sm,sg⟩,a',sg.length+1⟩) (lo:=w.heap.size+2) (by omega) _ _ _ HT2.out)
theorem ZmK(x y:SX)(lo:Nat)(w:World)(hp:PWt w)(hs:x.s.g.length≤1048576)(hl:ZcV x y)(hW:TwY w lo y)(hF:YIs w x) :
  Calls Tryz.prog 214 #[y.val,x.val] w fun r w'=>r=.returned (.bool true)∧Below w.heap.size w w':=by
 obtain⟨sx,a0,c0⟩:=x;obtain⟨⟨sk,si,sm,sg⟩,a,c⟩:=y;have hl':⟨sk,si,sm,sg⟩=sx:=hl;subst hl';have hW':TwX w lo sg a c:=hW;have hL:Ls w (.slice a0 sg.length c0) sg.length (sg.flatMap Zm):=hF;unfold SX.val;dsimp only at hs⊢;have BA:=(Below.refl w.heap.size w).alloc (Nat.le_refl _) (.cells #[.int .i8 sk,.int .i64 si,.int .u32 sm,.slice a sg.length c] 84);have BB:=BA.alloc BA.size (.cells #[.int .i8 sk,.int .i64 si,.int .u32 sm,.slice a0 sg.length c0] 84)
 have HR0:Hid (RL ((w.alloc (.cells #[.int .i8 sk,.int .i64 si,.int .u32 sm,.slice a sg.length c] 84)).alloc (.cells #[.int .i8 sk,.int .i64 si,.int .u32 sm,.slice a0 sg.length c0] 84)) w.heap.size 84 [.int .i8 sk,.int .i64 si,.int .u32 sm,.slice a sg.length c]):=(Zk w #[.int .i8 sk,.int .i64 si,.int .u32 sm,.slice a sg.length c] 84).below ((Below.refl _ _).alloc (Nat.le_refl _) _)
 have HR1:Hid (RL ((w.alloc (.cells #[.int .i8 sk,.int .i64 si,.int .u32 sm,.slice a sg.length c] 84)).alloc (.cells #[.int .i8 sk,.int .i64 si,.int .u32 sm,.slice a0 sg.length c0] 84)) (w.heap.size+1) 84 [.int .i8 sk,.int .i64 si,.int .u32 sm,.slice a0 sg.length c0]):=by
  have:=Zk (w.alloc (.cells #[.int .i8 sk,.int .i64 si,.int .u32 sm,.slice a sg.length c] 84)) #[.int .i8 sk,.int .i64 si,.int .u32 sm,.slice a0 sg.length c0] 84;rw[World.size_alloc]at this;exact this
 have HL:Hid _:=Zhu sg a a0 c c0 lo _ hs (Zq hp BB) (hW'.below BB) (hL.below BB);have HB:Hid (Below w.heap.size w _):=BB;have y0:=Zah (RL.at HR0.out (j:=0) rfl);have y1:=Zbk (RL.at HR0.out (j:=1) rfl);have y2:=ZaU (RL.at HR0.out (j:=2) rfl);have y3:=Zay (RL.at HR0.out (j:=3) rfl);have z0:=Zah (RL.at HR1.out (j:=0) rfl);have z1:=Zbk (RL.at HR1.out (j:=1) rfl)
 have z2:=ZaU (RL.at HR1.out (j:=2) rfl);have z3:=Zay (RL.at HR1.out (j:=3) rfl);clear hW hW' hL BA BB hF hp HR0 HR1;go_enter Tryz.func214,Tryz.ntmps214;go_wp2_with (go_at_call 13;refine Calls.mono HL.out ?_;rintro ee w1 ⟨rfl,b1⟩);go_ret;exact⟨rfl,HB.out.trans (b1.mono HB.out.size)⟩
theorem ZmL(w:World):Calls Tryz.prog 135 #[.int .i64 777777] w fun e w'=>e=.returned (.agg #[.int .i8 0,.int .i64 (-777777),.int .u32 0,.slice none 0 0])∧Below w.heap.size w w':=by
 have BA:=(Below.refl w.heap.size w).alloc (Nat.le_refl _) (.cells #[.int .i8 0,.int .i64 0,.int .u32 0,.slice none 0 0] 84);have HR0:Hid (RL (w.alloc (.cells #[.int .i8 0,.int .i64 0,.int .u32 0,.slice none 0 0] 84)) w.heap.size 84 [.int .i8 0,.int .i64 0,.int .u32 0,.slice none 0 0]):=Zk w #[.int .i8 0,.int .i64 0,.int .u32 0,.slice none 0 0] 84;have HB:=Lib.hid BA;clear BA;obtain⟨W,hW⟩:∃W,W=w.alloc (.cells #[.int .i8 0,.int .i64 0,.int .u32 0,.slice none 0 0] 84):=⟨_,rfl⟩
 rw[←hW]at HR0 HB;have hst:(storeVar 84 ⟨w.heap.size,0,none⟩ (.agg #[.int .i8 0,.int .i64 (-777777),.int .u32 0,.slice none 0 0])).run Tryz.prog W=.ok () (W.setCells w.heap.size 0 [.int .i8 0,.int .i64 (-777777),.int .u32 0,.slice none 0 0]):=run_storeVar_mid W _ 0 _ #[.int .i8 0,.int .i64 (-777777),.int .u32 0,.slice none 0 0] (by have:=Zb6 HR0.out;exact this) (by kernel_rfl) (by simp[Value.oneCell'])
 go_enter Tryz.func135,Tryz.ntmps135;rw[hW]at hst;go_wp2;rw[←hW];refine bodyPost_ret (ZO Tryz.results135 (v:=.agg #[.int .i8 0,.int .i64 (-777777),.int .u32 0,.slice none 0 0]) rfl (run_loadVar_mid _ _ 0 84 [.int .i8 0,.int .i64 (-777777),.int .u32 0,.slice none 0 0] _ (RL.range (Zcz HR0.out [.int .i8 0,.int .i64 (-777777),.int .u32 0,.slice none 0 0] rfl)) Tryz.underlying84 rfl (by kernel_rfl))) rfl ⟨rfl,?_⟩
 exact Zy (Nat.le_refl _) _ _ _ HB.out
theorem Zjt(w:World):Calls Tryz.prog 215 #[.agg #[.int .i8 0,.int .i64 (-777777),.int .u32 0,.slice none 0 0],.int .i64 777777] w fun e w'=>e=.returned (.bool true)∧Below w.heap.size w w':=by
 have HB:=Lib.hid (Zp (w:=w) (.cells #[.int .i8 0,.int .i64 (-777777),.int .u32 0,.slice none 0 0] 84));have HR:=Lib.hid (Zk w #[.int .i8 0,.int .i64 (-777777),.int .u32 0,.slice none 0 0] 84);have y0:=Zah (RL.at HR.out (j:=0) rfl);have y1:=Zbk (RL.at HR.out (j:=1) rfl);have y3:=Zay (RL.at HR.out (j:=3) rfl);go_enter Tryz.func215,Tryz.ntmps215;go_wp2;go_ret;exact⟨rfl,HB.out⟩
theorem Zpe:(Tryz.prog.info? 84).map (fun i=>(i.zero,i.size,i.bytes))=some (some (.agg #[.int .i8 0,.int .i64 0,.int .u32 0,.slice none 0 0]),4,48):=by kernel_rfl
theorem Zik(n:Nat)(hn:n≤1048576)(w:World) :
  (Instr.makeSlice 30 (.int .i64 ((n:Int)+1)) (.int .i64 ((n:Int)+1))).run Tryz.prog w=.ok (.slice (some ⟨w.heap.size,0,none⟩) (n+1) (n+1)) (w.alloc (.cells (madeCells #[.int .i8 0,.int .i64 0,.int .u32 0,.slice none 0 0] ((n+1)*4)) 84)):=by
 have h:=Zpe;obtain⟨i,hi,he⟩:=Option.map_eq_some_iff.1 h;simp only[Prod.mk.injEq]at he;obtain⟨h1,h2,h3⟩:=he;have:=run_make (P:=Tryz.prog) w 30 84 i _ Tryz.underlying30 hi h1 .i64 .i64 ((n:Int)+1) ((n:Int)+1) (by omega) (Int.le_refl _) (by rw[h3];omega) (by omega);rw[this,h2,show((n:Int)+1).toNat=n+1 by omega];rfl
theorem ZbW{u:World}{b o:Nat}{cs:List Value}(h:u.there b o 4)(hl:cs.length=4)(h1:cs.toArray.all (·.oneCell')=true):(storeVar 84 ⟨b,o,none⟩ (.agg cs.toArray)).run Tryz.prog u=.ok () (u.setCells b o cs):=
 run_storeVar_mid u b o _ cs.toArray (by rw[List.size_toArray,hl];exact h) (by rw[List.size_toArray,hl];kernel_rfl) h1
structure TwYs (w:World) (lo:Nat) (l:List SX) (a:Option Addr) (c:Nat):Prop where
 cap:c=l.length+1
 lies:∃g,a=some ⟨g,0,none⟩∧lo≤g∧g<w.heap.size∧w.rowIs g 84 ((l.length+1)*4) (Zav 4 (fun i=>if i=l.length then [.int .i8 0,.int .i64 (-777777),.int .u32 0,.slice none 0 0]else(atZ l i).cells))
 each:∀i,i<l.length→TwY w lo (atZ l i)
 apart:∀g,a=some ⟨g,0,none⟩→∀i,i<l.length→TwY w (g+1) (atZ l i)
theorem ZkG(v:Value)(l:List SX)(w:World)(hp:PWt w)(hs:l.length≤1048576)(hsm:∀i,i<l.length→(atZ l i).s.g.length≤1048576)(hL:Lz w v l) :
  Calls Tryz.prog 76 #[v] w fun r w'=>∃a' l',r=.returned (.slice a' l.length (l.length+1))∧Below w.heap.size w w'∧l'.length=l.length∧(∀i,i<l.length→ZcV (atZ l i) (atZ l' i))∧TwYs w' w.heap.size l' a' (l.length+1):=by
 have HEa:Hid (∀i,i<l.length→YIs w (atZ l i)∧(atZ l i).s.g.length≤1048576):=fun i hi=>⟨hL.at_is hi,hsm i hi⟩
 obtain⟨a,c,rfl,hc1,hc2,hk⟩:=hL.form;have hmk:=Zik l.length hs;have HK:Hid _:=hk;have HP:Hid (PWt w):=hp;clear hk hp hc2 hL hsm;go_enter Tryz.func76,Tryz.ntmps76;go_wp2;go_loopw [4] (fun i wr=>∃(k:Nat) (U:Nat→SX),k≤l.length∧i=.int .i64 k∧Below w.heap.size w wr∧wr.rowIs w.heap.size 84 ((l.length+1)*4) (Zav 4 (upC SX.cells [.int .i8 0,.int .i64 0,.int .u32 0,.slice none 0 0] U k))∧Hid (∀i,i<k→ZcV (atZ l i) (U i)∧TwY wr (w.heap.size+1) (U i))) (fun i _=>l.length-(intOf i).toNat)
 case atStart=>exact⟨0,atZ l,Nat.zero_le _,rfl,(Below.refl _ _).alloc (Nat.le_refl _) _,Zge w #[.int .i8 0,.int .i64 0,.int .u32 0,.slice none 0 0] 84 (l.length+1) (by decide),fun i hi=>absurd hi (by omega)⟩
 case round=>
  obtain⟨k,U,hk,rfl,bel,hrow,HTW⟩:=hrel;clear hmk;have HR:Hid (wr.rowIs w.heap.size 84 ((l.length+1)*4) (Zav 4 (upC SX.cells [.int .i8 0,.int .i64 0,.int .u32 0,.slice none 0 0] U k))):=hrow;have hwlt:w.heap.size<wr.heap.size:=hrow.lt;clear hrow
  by_cases hlt:k<l.length
  ·have hlt':(k:Int)<(l.length:Int):=by omega
   obtain⟨g,off,rfl,hg,hKS⟩:=HK.out (by omega);have hld:=Zbq (Zu (hKS k hlt) bel hg) rfl;obtain⟨hxL,hxS⟩:=HEa.out k hlt;have HT:Hid _:=ZmJ (atZ l k) wr (Zq HP.out bel) hxS (hxL.below bel);rw[SX.val_eq]at hld;generalize (atZ l k).val=QV at hld HT;clear hKS hxL hxS;go_wp2_with fail;refine Calls.mono HT.out ?_;rintro r w1 ⟨s,rfl,b1,hlk,htw⟩;have HR1:Hid (w1.rowIs w.heap.size 84 ((l.length+1)*4) (Zav 4 (upC SX.cells [.int .i8 0,.int .i64 0,.int .u32 0,.slice none 0 0] U k))):=HR.out.of_block (b1.block _ hwlt)
   have bel1:Below w.heap.size w w1:=bel.trans (b1.mono bel.size);have hst:=ZbW (Zas HR1.out rfl (i:=k) (by omega)) (cs:=SX.cells s) rfl (Zbr _);rw[SX.val_eq]at hst
   have HN:Hid ((w1.setCells w.heap.size (k*4) (SX.cells s)).rowIs w.heap.size 84 ((l.length+1)*4) (Zav 4 (upC SX.cells [.int .i8 0,.int .i64 0,.int .u32 0,.slice none 0 0] (fun i=>if i=k then s else U i) (k+1)))):=by
    have:=ZaM (k:=k) (by decide) HR1.out (SX.cells s) rfl;rw[Zgh]at this;exact this
   have HBn:Hid (Below w.heap.size w (w1.setCells w.heap.size (k*4) (SX.cells s))):=Zy (Nat.le_refl _) _ _ _ bel1
   have HTn:Hid (∀i,i<k+1→ZcV (atZ l i) ((fun i=>if i=k then s else U i) i)∧TwY (w1.setCells w.heap.size (k*4) (SX.cells s)) (w.heap.size+1) ((fun i=>if i=k then s else U i) i)):=fun i hi=>by
    by_cases e:i=k
    ·subst e;simp only[if_true];exact⟨hlk,Zad (by omega) _ _ _ (htw.lower hwlt)⟩
    ·simp only[if_neg e];obtain⟨h1,h2⟩:=HTW.out i (by omega);exact⟨h1,Zad (by omega) _ _ _ (h2.below b1)⟩
   generalize w1.setCells w.heap.size (k*4) (SX.cells s)=W2 at hst HN HBn HTn;have hk1:(k:Int)<(l.length:Int)+1:=by omega
   have hst2:(storeVar 84 ⟨w.heap.size,k*4,none⟩ s.val).run Tryz.prog w1=.ok () W2:=hst;obtain⟨RV,hrv⟩:∃RV,s.val=RV:=⟨_,rfl⟩;rw[hrv]at hst2⊢;clear HR hld HT b1 htw HR1 HTW hst hrv hlk;go_wp2;go_roundw
   case rel=>exact⟨k+1,_,by omega,by go_num,HBn.out,HN.out,HTn.out⟩
   case measure=>simp[intOf];omega
  ·obtain rfl:k=l.length:=by omega
   go_wp2_with fail;refine(ZmL _).mono ?_;rintro r w1 ⟨rfl,b1⟩;have HR1:Hid (w1.rowIs w.heap.size 84 ((l.length+1)*4) (Zav 4 (upC SX.cells [.int .i8 0,.int .i64 0,.int .u32 0,.slice none 0 0] U l.length))):=HR.out.of_block (b1.block _ hwlt);have bel1:Below w.heap.size w w1:=bel.trans (b1.mono bel.size);have hst:=ZbW (Zas HR1.out rfl (i:=l.length) (by omega)) (cs:=[.int .i8 0,.int .i64 (-777777),.int .u32 0,.slice none 0 0]) rfl (by simp[Value.oneCell'])
   have HN:Hid ((w1.setCells w.heap.size (l.length*4) [.int .i8 0,.int .i64 (-777777),.int .u32 0,.slice none 0 0]).rowIs w.heap.size 84 ((l.length+1)*4) (Zav 4 (fun i=>if i=l.length then [.int .i8 0,.int .i64 (-777777),.int .u32 0,.slice none 0 0]else upC SX.cells [.int .i8 0,.int .i64 0,.int .u32 0,.slice none 0 0] U l.length i))):=ZaM (k:=l.length) (by decide) HR1.out [.int .i8 0,.int .i64 (-777777),.int .u32 0,.slice none 0 0] rfl
   have HBn:Hid (Below w.heap.size w (w1.setCells w.heap.size (l.length*4) [.int .i8 0,.int .i64 (-777777),.int .u32 0,.slice none 0 0])):=Zy (Nat.le_refl _) _ _ _ bel1
   have HTn:Hid (∀i,i<l.length→ZcV (atZ l i) (U i)∧TwY (w1.setCells w.heap.size (l.length*4) [.int .i8 0,.int .i64 (-777777),.int .u32 0,.slice none 0 0]) (w.heap.size+1) (U i)):=fun i hi=>by
    obtain⟨h1,h2⟩:=HTW.out i hi;exact⟨h1,Zad (by omega) _ _ _ (h2.below b1)⟩
   have hst2:(storeVar 84 ⟨w.heap.size,l.length*4,none⟩ (.agg #[.int .i8 0,.int .i64 (-777777),.int .u32 0,.slice none 0 0])).run Tryz.prog w1=_:=hst;clear hst;generalize w1.setCells w.heap.size (l.length*4) [.int .i8 0,.int .i64 (-777777),.int .u32 0,.slice none 0 0]=W2 at hst2 HN HBn HTn;have hk1:(l.length:Int)<(l.length:Int)+1:=by omega
   clear b1 HR bel HR1 HTW;go_wp2;go_ret;have hln:((List.range l.length).map U).length=l.length:=by simp
   refine⟨some ⟨w.heap.size,0,none⟩,(List.range l.length).map U,rfl,HBn.out,hln,fun i hi=>by rw[Zfs U hi];exact(HTn.out i hi).1,by rw[hln],⟨w.heap.size,rfl,Nat.le_refl _,World.rowIs.lt HN.out,?_⟩,fun i hi=>?_,fun g hg i hi=>?_⟩
   ·rw[hln];have:=HN.out;refine World.rowIs.congr this fun j hj=>?_
    unfold Zav;have hji:j/4<l.length+1:=by omega
    by_cases e:j/4=l.length
    ·simp only[if_pos e]
    ·simp only[if_neg e];rw[Zfs U (by omega:j/4<l.length)];unfold upC;rw[if_pos (by omega)]
   ·rw[hln]at hi;rw[Zfs U hi];exact(HTn.out i hi).2.lower (by omega)
   ·rw[hln]at hi;rw[Zfs U hi];have:w.heap.size=g:=by simpa using congrArg Addr.block (Option.some.inj hg)
    rw[←this];exact(HTn.out i hi).2
theorem TwYs.range{w:World}{lo:Nat}{l:List SX}{a:Option Addr}{c:Nat}(h:TwYs w lo l a c):∃g,a=some ⟨g,0,none⟩∧g<w.heap.size∧w.rangeAt g (l.length*4) [.int .i8 0,.int .i64 (-777777),.int .u32 0,.slice none 0 0]∧∀i,i<l.length→w.rangeAt g (i*4) (atZ l i).cells:=by
 obtain⟨g,ha,_,hg,hr⟩:=h.lies;refine⟨g,ha,hg,?_,fun i hi=>?_⟩
 ·have:=ZaJ hr rfl (i:=l.length) (by omega) (by rw[if_pos rfl];rfl);rw[if_pos rfl]at this;exact this
 ·have:=ZaJ hr rfl (i:=i) (by omega) (by rw[if_neg (by omega)];rfl);rw[if_neg (by omega)]at this;exact this
theorem TwYs.below{w w':World}{lo:Nat}{l:List SX}{a:Option Addr}{c:Nat}(h:TwYs w lo l a c)(b:Below w.heap.size w w'):TwYs w' lo l a c:=by
 obtain⟨h1,⟨g,h2,h3,h4,h5⟩,h6,h7⟩:=h;exact⟨h1,⟨g,h2,h3,Nat.lt_of_lt_of_le h4 b.size,World.rowIs.of_block h5 (b.block g h4)⟩,fun i hi=>(h6 i hi).below b,fun g' hg i hi=>(h7 g' hg i hi).below b⟩
theorem Zn6{wc u v:World}(h:Below wc.heap.size wc u)(b:Below u.heap.size u v):Below wc.heap.size wc v:=h.trans (b.mono h.size)
theorem ZkH(l l':List SX)(a a0:Option Addr)(c c0 lo:Nat)(w:World)(hl':l'.length=l.length)(hx':∀i,i<l.length→ZcV (atZ l i) (atZ l' i))(hll:l.length≤1048576)(hsm:∀i,i<l.length→(atZ l i).s.g.length≤1048576)(hp:PWt w)(hW:TwYs w lo l' a c)(hL:Lz w (.slice a0 l.length c0) l) :
  Calls Tryz.prog 82 #[.slice a l.length c,.slice a0 l.length c0] w fun r w'=>r=.returned (.bool true)∧Below w.heap.size w w':=by
 have HC:Hid (∀i,i<l.length→∀u,Below w.heap.size w u→Calls Tryz.prog 214 #[.agg (atZ l' i).cells.toArray,.agg (atZ l i).cells.toArray] u fun r w'=>r=.returned (.bool true)∧Below u.heap.size u w'):=fun i hi u hu=>by
  have h1:=hW.each i (by omega);rw[SX.val_eq,SX.val_eq];exact ZmK (atZ l i) (atZ l' i) lo u (Zq hp hu) (hsm i hi) (hx' i hi) (h1.below hu) (YIs.below (hL.at_is hi) hu)
 obtain⟨a1,c1,e1,hc1,hc2,hk⟩:=hL.form
 cases e1
 have hcap:=hW.cap;obtain⟨g,rfl,hg,hmk,hks⟩:=hW.range;rw[hl']at hcap hmk;subst hcap;have HK:Hid _:=hk;have HKS:Hid (∀i,i<l.length→w.rangeAt g (i*4) (atZ l' i).cells):=fun i hi=>hks i (by omega)
 have HMK:Hid (w.rangeAt g (l.length*4) [.int .i8 0,.int .i64 (-777777),.int .u32 0,.slice none 0 0]):=hmk;have HP:Hid (PWt w):=hp;clear hmk hp hL hW hk hks hsm hx' hl' hc1 hc2;go_enter Tryz.func82,Tryz.ntmps82;go_wp2;go_loopw [5] (fun i wr=>∃k:Nat,k≤l.length∧i=.int .i64 k∧Below w.heap.size w wr) (fun i _=>l.length-(intOf i).toNat)
 case atStart=>exact⟨0,Nat.zero_le _,rfl,Below.refl _ _⟩
 case round=>
  obtain⟨k,hk,rfl,bel⟩:=hrel
  by_cases hlt:k<l.length
  ·have hlt':(k:Int)<(l.length:Int):=by omega
   have hk0:(0:Int)≤(k:Int):=by omega
   obtain⟨g',off,rfl,hg',hKS⟩:=HK.out (by omega);have HL1:Hid (∀u,Below w.heap.size w u→(loadVar 84 ⟨g,k*4,none⟩).run Tryz.prog u=.ok (.agg (atZ l' k).cells.toArray) u):=fun u hu=>Zbq (Zu (HKS.out k hlt) hu hg) rfl
   have HL2:Hid (∀u,Below w.heap.size w u→(loadVar 84 ⟨g',off+k*4,none⟩).run Tryz.prog u=.ok (.agg (atZ l k).cells.toArray) u):=fun u hu=>Zbq (Zu (hKS k hlt) hu hg') rfl
   have HI:Hid _:=HC.out k hlt;generalize Value.agg (atZ l' k).cells.toArray=QV at HL1 HI;generalize Value.agg (atZ l k).cells.toArray=RV at HL2 HI;have hl1:∀u,Below w.heap.size w u→(loadVar 84 ⟨g,k*4,none⟩).run Tryz.prog u=.ok QV u:=HL1.out;have hl2:∀u,Below w.heap.size w u→(loadVar 84 ⟨g',off+k*4,none⟩).run Tryz.prog u=.ok RV u:=HL2.out;have hS0:=bel;clear hKS HL1 HL2;go_wp2_with fail
   go_region_held3 (fun u=>(Below w.heap.size w u))
    (first
     | assumption
     | exact bel.drew)
    (first
     | (go_at_call 214;refine Calls.mono (HI.out _ (by first | assumption | exact bel.drew)) ?_;rintro ee w2 ⟨rfl,b2⟩;have b2':Below w.heap.size w w2:=Zn6 (by first | assumption | exact bel.drew) b2)
     | fail)
   go_wp2;go_roundw
   case rel=>exact⟨k+1,by omega,by go_num,b2'⟩
   case measure=>simp[intOf];omega
  ·obtain rfl:k=l.length:=by omega
   have hld:=Zbq (Zu HMK.out bel hg) rfl;have hMK:Hid _:=Zjt wr;have hk1:(l.length:Int)<(l.length:Int)+1:=by omega
   have hld2:(loadVar 84 ⟨g,l.length*4,none⟩).run Tryz.prog wr=.ok (.agg #[.int .i8 0,.int .i64 (-777777),.int .u32 0,.slice none 0 0]) wr:=hld;generalize Value.agg #[.int .i8 0,.int .i64 (-777777),.int .u32 0,.slice none 0 0]=QV at hld2 hMK;clear hld HMK;go_wp2_with fail;refine Calls.mono hMK.out ?_;rintro ee w2 ⟨rfl,b2⟩;go_wp2;go_ret;exact⟨rfl,bel.trans (b2.mono bel.size)⟩
theorem Zlu{l:List SX}{i:Nat}(h:i<l.length):atZ l.reverse i=atZ l (l.length-1-i):=by
 rw[ZcL (by simpa using h),ZcL (by omega),List.getElem_reverse]
def swY(l:List SX)(i j:Nat):SX:=if j<i∨l.length≤i+j then atZ l (l.length-1-j)else atZ l j
def swZ(l:List SX)(i:Nat):Nat→List Value:=fun j=>if j=l.length then [.int .i8 0,.int .i64 (-777777),.int .u32 0,.slice none 0 0]else(swY l i j).cells
theorem ZqD(l:List SX):∀j,j<(l.length+1)*4→Zav 4 (fun i=>if i=l.length then [.int .i8 0,.int .i64 (-777777),.int .u32 0,.slice none 0 0]else(atZ l i).cells) j=Zav 4 (swZ l 0) j:=fun j hj=>by
 unfold Zav swZ swY
 by_cases e:j/4=l.length
 ·simp only[if_pos e]
 ·simp only[if_neg e];rw[if_neg (by omega)]
theorem ZqE{l:List SX}{i:Nat}(h:i<l.length/2):swY l i i=atZ l i:=by unfold swY;rw[if_neg (by omega)]
theorem ZqF{l:List SX}{i:Nat}(h:i<l.length/2):swY l i (l.length-1-i)=atZ l (l.length-1-i):=by unfold swY;rw[if_neg (by omega)]
theorem Zju{l:List SX}{i:Nat}(h:i<l.length/2)(j:Nat)(hj:j<l.length+1):(if j=i then(atZ l (l.length-1-i)).cells else if j=l.length-1-i then(atZ l i).cells else swZ l i j)=swZ l (i+1) j:=by
 unfold swZ
 by_cases e1:j=i
 ·rw[if_pos e1,if_neg (by omega)];unfold swY;rw[if_pos (by omega),e1]
 ·rw[if_neg e1]
  by_cases e2:j=l.length-1-i
  ·rw[if_pos e2,if_neg (by omega)];unfold swY;rw[if_pos (by omega),e2,show l.length-1-(l.length-1-i)=i by omega]
  ·rw[if_neg e2]
   by_cases e3:j=l.length
   ·rw[if_pos e3,if_pos e3]
   ·rw[if_neg e3,if_neg e3];unfold swY
    by_cases e4:j<i∨l.length≤i+j
    ·rw[if_pos e4,if_pos (by omega)]
    ·rw[if_neg e4,if_neg (by omega)]
theorem Zlv{l:List SX}{j:Nat}(hj:j<l.length):swZ l (l.length/2) j=(atZ l.reverse j).cells:=by
 unfold swZ;rw[if_neg (by omega),Zlu hj];unfold swY
 by_cases e:j<l.length/2∨l.length≤l.length/2+j
 ·rw[if_pos e]
 ·rw[if_neg e,show l.length-1-j=j by omega]
theorem Zpf{w:World}{b:Nat}{l:List SX}{i:Nat}(h:i<l.length/2)(hr:w.rowIs b 84 ((l.length+1)*4) (Zav 4 (swZ l i))) :
  ((w.setCells b (i*4) (atZ l (l.length-1-i)).cells).setCells b ((l.length-1-i)*4) (atZ l i).cells).rowIs b 84 ((l.length+1)*4) (Zav 4 (swZ l (i+1)))
  ∧ ((w.setCells b ((l.length-1-i)*4) (atZ l i).cells).setCells b (i*4) (atZ l (l.length-1-i)).cells).rowIs b 84 ((l.length+1)*4) (Zav 4 (swZ l (i+1))):=by
 refine⟨?_,?_⟩
 ·refine(ZaM (k:=l.length-1-i) (by decide) (ZaM (k:=i) (by decide) hr (atZ l (l.length-1-i)).cells rfl) (atZ l i).cells rfl).congr fun j hj=>?_
  have:=Zju h (j/4) (by omega);unfold Zav;rw[←this]
  by_cases e1:j/4=i
  ·simp only[if_pos e1,if_neg (show ¬ j/4=l.length-1-i by omega)]
  ·simp only[if_neg e1]
 ·refine(ZaM (k:=i) (by decide) (ZaM (k:=l.length-1-i) (by decide) hr (atZ l i).cells rfl) (atZ l (l.length-1-i)).cells rfl).congr fun j hj=>?_
  have:=Zju h (j/4) (by omega);unfold Zav;rw[←this]
end
end Go.Proofs.YtjdnpgpbeppgjaaGreatDoor
