import Derived.Test.YtjdnpgpbeppgjaaGreatDoorA27
import Derived.Deep.QuietTactic
import Derived.BigQuiet
set_option linter.unusedSimpArgs false
set_option linter.unusedVariables false
set_option maxHeartbeats 3200000
set_option maxRecDepth 100000
namespace Go.Proofs.YtjdnpgpbeppgjaaGreatDoor
section
open Go.RowKit Go.Maps Go.Shelf
attribute [local go_sem ↓] Go.wp_at_zero Go.wp_at_succ
attribute [-go_sem] loadVar
theorem Zcs{w:World}{v:Value}{l:List ByteArray}(hl:Ls w v l.length (l.flatMap Zm))(s:ByteArray) :
  Calls Tryz.prog 96 #[v,.string s] w fun e w'=>e=.returned (.bool (inB l s))∧w'=w:=by
 obtain⟨a,c,rfl,hc1,hc2,hat⟩:=Z3 hl;have HAT:=Lib.hid hat;unfold maxLen at hc2;clear hl hat;go_enter Tryz.func96,Tryz.ntmps96;go_wp2;go_loopw [5] (fun i wr=>∃k:Nat,k≤l.length∧i=.int .i64 k∧Hid (∀j,j<k→atS l j≠s)∧Hid (wr=w)) (fun i _=>l.length-(intOf i).toNat)
 case atStart=>exact⟨0,Nat.zero_le _,rfl,fun j hj=>absurd hj (Nat.not_lt_zero _),rfl⟩
 case round=>
  obtain⟨k,hk,rfl,HN,HW⟩:=hrel
  by_cases hlt:k<l.length
  ·have hlt':(k:Int)<(l.length:Int):=by omega
   have hk0:(0:Int)≤(k:Int):=by omega
   obtain⟨g,off,rfl,hg,hce⟩:=HAT.out (by omega);have hcw:wr.cell? ⟨g,off+k,none⟩=some (.string (atS l k)):=by rw[HW.out];exact hce k hlt
   have l1:=ZL hcw
   have HX:Hid (atS l k≠s→∀j,j<k+1→atS l j≠s):=fun h j hj=>by
    by_cases hjk:j=k
    ·rw[hjk];exact h
    ·exact HN.out j (by omega)
   have HY:Hid (atS l k=s→inB l s=true):=fun h=>Zp4 hlt h
   generalize atS l k=x at l1 HX HY;clear hce hcw hg
   by_cases hx:x=s
   ·have hd:(x.toList==s.toList)=true:=by rw[hx];exact beq_self_eq_true _
    have HF:=Lib.hid (HY.out hx);clear hx HX HY;go_wp2;go_ret;exact⟨by rw[HF.out];rfl,HW.out⟩
   ·have hd:(x.toList==s.toList)=false:=by
     rw[beq_eq_false_iff_ne];exact fun e=>hx (toList_inj e)
    have HF:=Lib.hid (HX.out hx);clear hx HX HY;go_wp2;go_roundw
    case rel=>exact⟨k+1,by omega,by go_num,HF,HW⟩
    case measure=>simp[intOf];omega
  ·obtain rfl:k=l.length:=by omega
   have HF:Hid (inB l s=false):=ZoN HN.out;go_wp2;go_ret;exact⟨by rw[HF.out];rfl,HW.out⟩
theorem Zct{w:World}{v v2:Value}{l l2:List ByteArray}(hl:Ls w v l.length (l.flatMap Zm))(hl2:Ls w v2 l2.length (l2.flatMap Zm)) :
  Calls Tryz.prog 90 #[v,v2] w fun e w'=>e=.returned (.bool (Z5 l l2))∧w'=w:=by
 obtain⟨a,c,rfl,hc1,hc2,hat⟩:=Z3 hl;have HAT:=Lib.hid hat;have HL2:=Lib.hid hl2;unfold maxLen at hc2;clear hl hat hl2;go_enter Tryz.func90,Tryz.ntmps90;go_wp2;go_loopw [5] (fun i wr=>∃k:Nat,k≤l.length∧i=.int .i64 k∧Hid (∀j,j<k→inB l2 (atS l j)=true)∧Hid (wr=w)) (fun i _=>l.length-(intOf i).toNat)
 case atStart=>exact⟨0,Nat.zero_le _,rfl,fun j hj=>absurd hj (Nat.not_lt_zero _),rfl⟩
 case round=>
  obtain⟨k,hk,rfl,HN,HW⟩:=hrel
  by_cases hlt:k<l.length
  ·have hlt':(k:Int)<(l.length:Int):=by omega
   have hk0:(0:Int)≤(k:Int):=by omega
   obtain⟨g,off,rfl,hg,hce⟩:=HAT.out (by omega);have hcw:wr.cell? ⟨g,off+k,none⟩=some (.string (atS l k)):=by rw[HW.out];exact hce k hlt
   have l1:=ZL hcw;have HH:=Lib.hid (Zcs (HL2.out) (atS l k));rw[←HW.out]at HH
   have HX:Hid (inB l2 (atS l k)=true→∀j,j<k+1→inB l2 (atS l j)=true):=fun h j hj=>by
    by_cases hjk:j=k
    ·rw[hjk];exact h
    ·exact HN.out j (by omega)
   have HY:Hid (inB l2 (atS l k)=false→Z5 l l2=false):=fun h=>Bool.eq_false_iff.2 (fun hh=>by
    unfold Z5 at hh;rw[List.all_eq_true]at hh;have:=hh (atS l k) (by unfold atS;rw[List.getD,List.getElem?_eq_getElem hlt];exact List.getElem_mem hlt);rw[h]at this
    cases this)
   generalize atS l k=x at l1 HX HY HH;clear hce hcw hg
   cases hx:inB l2 x
   ·have HF:=Lib.hid (HY.out hx);rw[hx]at HH;clear hx HX HY;go_wp2_with fail;refine HH.out.mono ?_;rintro e w2 ⟨rfl,rfl⟩;clear HH;go_wp2;go_ret;exact⟨by rw[HF.out];rfl,HW.out⟩
   ·have HF:=Lib.hid (HX.out hx);rw[hx]at HH;clear hx HX HY;go_wp2_with fail;refine HH.out.mono ?_;rintro e w2 ⟨rfl,rfl⟩;clear HH;go_wp2;go_roundw
    case rel=>exact⟨k+1,by omega,by go_num,HF,HW⟩
    case measure=>simp[intOf];omega
  ·obtain rfl:k=l.length:=by omega
   have HF:Hid (Z5 l l2=true):=by
    show Z5 l l2=true;unfold Z5;rw[List.all_eq_true];intro x hx;obtain⟨j,hj,e⟩:=List.getElem_of_mem hx;have:=HN.out j hj;unfold atS at this;rw[List.getD,List.getElem?_eq_getElem hj]at this;rw[←e];exact this
   go_wp2;go_ret;exact⟨by rw[HF.out];rfl,HW.out⟩
end
section
open Go.RowKit Go.Maps Go.Shelf
attribute [local go_sem ↓] Go.wp_at_zero Go.wp_at_succ
theorem ZnP{w:World}{a:Option Addr}{c:Nat}{l:List ByteArray}(h:Ls w (.slice a l.length c) l.length (l.flatMap Zm)){k:Nat}(hk:k≤l.length):Ls w (.slice a k c) (l.take k).length ((l.take k).flatMap Zm):=by
 obtain⟨h1,a',c',e,h2,h3,h4⟩:=h
 injection e with e1 e2 e3
 subst e1 e3;have e5:(l.take k).length=k:=by rw[List.length_take];omega
 rw[e5];refine⟨Nat.le_trans hk h1,a,c,rfl,Nat.le_trans hk h2,h3,fun h0=>?_⟩;obtain⟨g,off,e6,hg,hf⟩:=h4 (by omega);refine⟨g,off,e6,hg,fun i hi=>?_⟩;have e7:l.flatMap Zm=(l.take k).flatMap Zm++(l.drop k).flatMap Zm:=by rw[←List.flatMap_append,List.take_append_drop]
 have hi':i<(l.flatMap Zm).length:=by rw[e7,List.length_append];omega
 have:=hf i hi';rw[this];simp only[e7,List.getElem_append_left hi]
theorem Zf4{w:World}{v v2:Value}{l l2:List ByteArray}(hl:Ls w v l.length (l.flatMap Zm))(hl2:Ls w v2 l2.length (l2.flatMap Zm)) :
  Calls Tryz.prog 81 #[v,v2] w fun e w'=>e=.returned (.bool (decide (l=l2)))∧Below w.heap.size w w':=by
 obtain⟨a,c,rfl,hc1,hc2,hat⟩:=Z3 hl;obtain⟨a2,c2,rfl,hd1,hd2,hat2⟩:=Z3 hl2;unfold maxLen at hc2 hd2
 by_cases hll:l.length=l2.length
 ·rw[←hll]at hat2 hd1⊢;have HAT:=Lib.hid hat;have HAT2:=Lib.hid hat2;have HLL:=Lib.hid hll;clear hl hat hl2 hat2 hll;go_enter Tryz.func81,Tryz.ntmps81;go_wp2;go_loopw [5] (fun i wr=>∃k:Nat,k≤l.length∧i=.int .i64 k∧Hid (∀j,j<k→atS l j=atS l2 j)∧Below w.heap.size w wr) (fun i _=>l.length-(intOf i).toNat)
  case atStart=>exact⟨0,Nat.zero_le _,rfl,fun j hj=>absurd hj (Nat.not_lt_zero _),Below.refl _ _⟩
  case round=>
   obtain⟨k,hk,rfl,HN,bel⟩:=hrel
   by_cases hlt:k<l.length
   ·have hlt':(k:Int)<(l.length:Int):=by omega
    have hk0:(0:Int)≤(k:Int):=by omega
    obtain⟨g,off,rfl,hg,hce⟩:=HAT.out (by omega);obtain⟨g2,off2,rfl,hg2,hce2⟩:=HAT2.out (by omega);have y0:wr.cell? ⟨g,off+k,none⟩=some (.string (atS l k)):=(bel.cell (p:=⟨g,off+k,none⟩) hg).trans (hce k hlt);have z0:wr.cell? ⟨g2,off2+k,none⟩=some (.string (atS l2 k)):=(bel.cell (p:=⟨g2,off2+k,none⟩) hg2).trans (hce2 k hlt)
    have HX:Hid (atS l k=atS l2 k→∀j,j<k+1→atS l j=atS l2 j):=fun h j hj=>by
     by_cases hjk:j=k
     ·rw[hjk];exact h
     ·exact HN.out j (by omega)
    have HY:Hid (atS l k≠atS l2 k→decide (l=l2)=false):=fun h=>decide_eq_false (fun e=>h (by rw[e]))
    generalize atS l k=x at y0 HX HY;generalize atS l2 k=y at z0 HX HY;clear hce hg hce2 hg2
    by_cases hx:x=y
    ·have hd:(x.toList==y.toList)=true:=by rw[hx];exact beq_self_eq_true _
     have HF:=Lib.hid (HX.out hx);clear hx HX HY;go_wp2_with fail;go_quiet (fail);go_wp2;go_roundw
     case rel=>exact⟨k+1,by omega,by go_num,HF,⟨bel.os,bel.tape,bel.output,bel.size,bel.block⟩⟩
     case measure=>simp[intOf];omega
    ·have hd:(x.toList==y.toList)=false:=by
      rw[beq_eq_false_iff_ne];exact fun e=>hx (toList_inj e)
     have HF:=Lib.hid (HY.out hx);clear hx HX HY;go_wp2_with fail;go_quiet (fail);go_wp2;go_ret;exact⟨by rw[HF.out];rfl,⟨bel.os,bel.tape,bel.output,bel.size,bel.block⟩⟩
   ·obtain rfl:k=l.length:=by omega
    have HF:Hid (decide (l=l2)=true):=decide_eq_true (by
     refine List.ext_getElem HLL.out fun i h1 h2=>?_
     have:=HN.out i h1;unfold atS at this;rw[List.getD,List.getElem?_eq_getElem h1,List.getD,List.getElem?_eq_getElem h2]at this;exact this)
    go_wp2;go_ret;exact⟨by rw[HF.out];rfl,bel⟩
 ·have hll':¬ (l.length:Int)=(l2.length:Int):=by omega
  have HF:Hid (decide (l=l2)=false):=decide_eq_false (fun e=>hll (by rw[e]));clear hll hl hat hl2 hat2;go_enter Tryz.func81,Tryz.ntmps81;go_wp2;go_ret;exact⟨by rw[HF.out];rfl,Below.refl _ _⟩
end
section
open Go.RowKit Go.Maps Go.Shelf
attribute [local go_sem ↓] Go.wp_at_zero Go.wp_at_succ
attribute [local go_sem] Oper.semAt_some
attribute [-go_sem] loadVar
theorem Zc7(ev:Operand→Value)(o:Oper){x y:Operand}(hop:o.op=.indexAddr 26 x y)(w:World){g off n c k:Nat}(hx:ev x=.slice (some ⟨g,off,none⟩) n c)(hy:ev y=.int .i64 (k:Int))(hk:k<n):(execOp ev o).run Tryz.prog w=.ok (.value (.pointer (some ⟨g,off+k,none⟩))) w:=by
 have hk':(k:Int)<(n:Int):=by omega
 have hk0:(0:Int)≤(k:Int):=by omega
 simp only[execOp,hop,hx,hy];go_simp
theorem Zhe{k:Nat}(ev:Operand→Value)(o:Oper){x y:Operand}(hop:o.op=.slice 26 x none (some y) none)(w:World){g off nn cc:Nat}(hx:ev x=.slice (some ⟨g,off,none⟩) nn cc)(hy:ev y=.int .i64 (k:Int))(hk:k≤nn)(hc:nn≤cc):(execOp ev o).run Tryz.prog w=.ok (.value (.slice (some ⟨g,off,none⟩) k cc)) w:=by
 have h1:(k:Int)≤(cc:Int):=by omega
 have h0:(0:Int)≤(k:Int):=by omega
 simp only[execOp,hop,hx,Option.map,hy];go_simp
def Zc8:List (List Nat × Nat):=[([],0),([0],1),([0,1],2),([0,1,2],3),([0,1,2,3,4],5),([0,1,2,3,4,5],6),([0,1,2,3,4,5,6],7),([0,1,2,3,4,5,6,7],8),([0,1,2,3,4,5,6,7,8],9),([0,1,2,3,4,5,6,7,8,9],10),([0,1,2,3,4,5,6,7,8,9,10],11),([0,1,2,3,4,5,6,7,8,9,10,11],12),([0,1,2,3,4,5,6,7,8,9,10,11,12],13),([0,1,2,3,4,5,6,7,8,9,10,11,12,13],14),([0,1,2,3,4,5,6,7,8,9,10,11,12,13,14],15)]
theorem Zqy{ops:Array Oper}{Q:Exit→Act→World→Prop}{S:World→Prop}{a0:Act}{w5:World}{g off n c k:Nat}{s:ByteArray}{ty1 ty2:Array TypeId}
  (q0:Zf ops 0 none (.move (.tmp 0)) (some 10))
  (q1:Zf ops 1 none (.move (.tmp 3)) (some 11))
  (q2:Zf ops 2 none (.indexAddr 26 (.tmp 10) (.tmp 11)) (some 12))
  (q3:Zf ops 3 none (.load 9 (.tmp 12)) (some 13))
  (q4:Zf ops 4 none (.call {callee:=.value (.func 222),args:=#[.tmp 13],argTypes:=ty1}) (some 14))
  (q5:Zf ops 5 none (.unOp .not 4 (.tmp 14)) (some 15))
  (q6:Zf ops 6 none (.move (.tmp 15)) (some 16))
  (q7:Zf ops 7 (some (6,false)) (.move (.tmp 0)) (some 17))
  (q8:Zf ops 8 (some (6,false)) (.move (.tmp 3)) (some 18))
  (q9:Zf ops 9 (some (6,false)) (.slice 26 (.tmp 17) none (some (.tmp 18)) none) (some 19))
  (q10:Zf ops 10 (some (6,false)) (.move (.tmp 0)) (some 20))
  (q11:Zf ops 11 (some (6,false)) (.move (.tmp 3)) (some 21))
  (q12:Zf ops 12 (some (6,false)) (.indexAddr 26 (.tmp 20) (.tmp 21)) (some 22))
  (q13:Zf ops 13 (some (6,false)) (.load 9 (.tmp 22)) (some 23))
  (q14:Zf ops 14 (some (6,false)) (.call {callee:=.value (.func 96),args:=#[.tmp 19,.tmp 23],argTypes:=ty2}) (some 24))
  (q15:Zf ops 15 none (.pick (.tmp 16) (.const (.bool true)) (.tmp 24)) (some 25))
  (hs:Region.noSelect ops=true) (hq:(Zc8.all fun p=>Region.free .any ops (LR 16 p.1) p.2&&(Region.ready .any ops (LR 16 p.1)).contains p.2)=true)
  (r4:Region.ready .any ops (LR 16 [0,1,2,3])=[4])
  (rend:Region.ready .any ops (LR 16 [0,1,2,3,4,5,6,7,8,9,10,11,12,13,14,15])=[])
  (hQ:∀(d:Option Tmp) (v:Value) c a w,Q (.panic c) (a.put d v) w→Q (.panic c) a w)
  (hsz:25<a0.tmps.size) (e0:a0.eval (.tmp 0)=.slice (some ⟨g,off,none⟩) n c) (e3:a0.eval (.tmp 3)=.int .i64 (k:Int))
  (hS0:S w5.drew)
  (hk:k<n) (hk1:k≤n) (hnc:n≤c) (LS:∀u,S u→(loadVar 9 ⟨g,off+k,none⟩).run Tryz.prog u=.ok (.string s) u)
  (H1:∀u,S u→Calls Tryz.prog 222 #[.string s] u fun e w'=>e=.returned (.bool false)∧w'=u)
  (F:∀(wc:World),S wc→Q .normal ((((((((((((((((a0.put (some 10) (.slice (some ⟨g,off,none⟩) n c)).put (some 11) (.int .i64 (k:Int))).put (some 12) (.pointer (some ⟨g,off+k,none⟩))).put (some 13) (.string s)).put (some 14) (.bool false)).put (some 15) (.bool true)).put (some 16) (.bool true)).put (some 17) (undef)).put (some 18) (undef)).put (some 19) (undef)).put (some 20) (undef)).put (some 21) (undef)).put (some 22) (undef)).put (some 23) (undef)).put (some 24) (undef)).put (some 25) (.bool true)) wc) :
  wpAnyH Tryz.prog .any ops Q S 16 (LR 16 []) a0 w5.drew:=by
 have hall:∀p∈Zc8,Region.free .any ops (LR 16 p.1) p.2=true∧(Region.ready .any ops (LR 16 p.1)).contains p.2=true:=by
  intro p hp;have:=List.all_eq_true.1 hq p hp;simpa using this
 unfold Zc8 at hall;obtain⟨og6,hog6,_,_,dog6⟩:=Zd q6;refine Zj [] (.slice (some ⟨g,off,none⟩) n c) q0 hs (hall ([],0) (by simp)) hQ (fun o w' hop hS=>Zs _ _ hop w' (by(repeat rw[Za _ _ (by decide)]);exact e0)) hS0 ?_;refine Zj [0] (.int .i64 (k:Int)) q1 hs (hall ([0],1) (by simp)) hQ (fun o w' hop hS=>Zs _ _ hop w' (by(repeat rw[Za _ _ (by decide)]);exact e3)) hS0 ?_
 refine Zj [0,1] (.pointer (some ⟨g,off+k,none⟩)) q2 hs (hall ([0,1],2) (by simp)) hQ (fun o w' hop hS=>Zc7 _ _ hop w' (by(repeat(first | rw[Zc _ _ (by(try simp only[Zb]);omega)] | rw[Za _ _ (by decide)]))) (by(repeat(first | rw[Zc _ _ (by(try simp only[Zb]);omega)] | rw[Za _ _ (by decide)]))) hk) hS0 ?_;refine Zj [0,1,2] (.string s) q3 hs (hall ([0,1,2],3) (by simp)) hQ (fun o w' hop hS=>ZF _ _ hop w' (by(repeat(first | rw[Zc _ _ (by(try simp only[Zb]);omega)] | rw[Za _ _ (by decide)]))) (LS _ hS)) hS0 ?_
 refine wpAnyH_all r4 (by simp) ?_;intro i hi;obtain rfl:=List.mem_singleton.1 hi;obtain⟨o4,ho,hg,hop,hd⟩:=Zd q4;have x4_0:(((((a0.put (some 10) (.slice (some ⟨g,off,none⟩) n c)).put (some 11) (.int .i64 (k:Int))).put (some 12) (.pointer (some ⟨g,off+k,none⟩))).put (some 13) (.string s))).eval (.tmp 13)=.string s:=(by(repeat(first | rw[Zc _ _ (by(try simp only[Zb]);omega)] | rw[Za _ _ (by decide)])))
 refine Zw ho (Zv hg) (ZC 222 Tryz.func222 (by kernel_rfl) (by kernel_rfl) #[.tmp 13] _ hop #[.string s] (by simp only[List.map_toArray,List.map_cons,List.map_nil,x4_0])) ?_;refine(H1 _ hS0).mono ?_;rintro e u1 ⟨rfl,rfl⟩;refine⟨_,rfl,hS0,?_⟩;rw[hd];clear ho hg hop hd;rw[←Zh];refine Zj [0,1,2,3,4] (.bool true) q5 hs (hall ([0,1,2,3,4],5) (by simp)) hQ (fun o w' hop hS=>Zcy (b:=false) _ _ hop w' (by(repeat(first | rw[Zc _ _ (by(try simp only[Zb]);omega)] | rw[Za _ _ (by decide)])))) hS0 ?_
 refine Zj [0,1,2,3,4,5] (.bool true) q6 hs (hall ([0,1,2,3,4,5],6) (by simp)) hQ (fun o w' hop hS=>Zs _ _ hop w' (by(repeat(first | rw[Zc _ _ (by(try simp only[Zb]);omega)] | rw[Za _ _ (by decide)])))) hS0 ?_;obtain⟨o7,ho,hg,hop,hd⟩:=Zd q7;have hfr:=hall ([0,1,2,3,4,5,6],7) (by simp);refine wpAnyH_take (listed:=LR 16 [0,1,2,3,4,5,6]) (v:=undef) ho hs hfr.1 hfr.2 (hQ _ _) (Or.inr ⟨((Zz hog6 dog6 hg (by(repeat(first | rw[Zo _ _ (by(try simp only[Zb]);omega)] | rw[Zr _ _ (by decide)])))).trans (by decide)),rfl⟩) hS0 ?_
 rw[hd,←Zh];clear ho hg hop hd hfr;obtain⟨o8,ho,hg,hop,hd⟩:=Zd q8;have hfr:=hall ([0,1,2,3,4,5,6,7],8) (by simp);refine wpAnyH_take (listed:=LR 16 [0,1,2,3,4,5,6,7]) (v:=undef) ho hs hfr.1 hfr.2 (hQ _ _) (Or.inr ⟨((Zz hog6 dog6 hg (by(repeat(first | rw[Zo _ _ (by(try simp only[Zb]);omega)] | rw[Zr _ _ (by decide)])))).trans (by decide)),rfl⟩) hS0 ?_;rw[hd,←Zh]
 clear ho hg hop hd hfr;obtain⟨o9,ho,hg,hop,hd⟩:=Zd q9;have hfr:=hall ([0,1,2,3,4,5,6,7,8],9) (by simp);refine wpAnyH_take (listed:=LR 16 [0,1,2,3,4,5,6,7,8]) (v:=undef) ho hs hfr.1 hfr.2 (hQ _ _) (Or.inr ⟨((Zz hog6 dog6 hg (by(repeat(first | rw[Zo _ _ (by(try simp only[Zb]);omega)] | rw[Zr _ _ (by decide)])))).trans (by decide)),rfl⟩) hS0 ?_;rw[hd,←Zh];clear ho hg hop hd hfr
 obtain⟨o10,ho,hg,hop,hd⟩:=Zd q10;have hfr:=hall ([0,1,2,3,4,5,6,7,8,9],10) (by simp);refine wpAnyH_take (listed:=LR 16 [0,1,2,3,4,5,6,7,8,9]) (v:=undef) ho hs hfr.1 hfr.2 (hQ _ _) (Or.inr ⟨((Zz hog6 dog6 hg (by(repeat(first | rw[Zo _ _ (by(try simp only[Zb]);omega)] | rw[Zr _ _ (by decide)])))).trans (by decide)),rfl⟩) hS0 ?_;rw[hd,←Zh];clear ho hg hop hd hfr;obtain⟨o11,ho,hg,hop,hd⟩:=Zd q11
 have hfr:=hall ([0,1,2,3,4,5,6,7,8,9,10],11) (by simp);refine wpAnyH_take (listed:=LR 16 [0,1,2,3,4,5,6,7,8,9,10]) (v:=undef) ho hs hfr.1 hfr.2 (hQ _ _) (Or.inr ⟨((Zz hog6 dog6 hg (by(repeat(first | rw[Zo _ _ (by(try simp only[Zb]);omega)] | rw[Zr _ _ (by decide)])))).trans (by decide)),rfl⟩) hS0 ?_;rw[hd,←Zh];clear ho hg hop hd hfr;obtain⟨o12,ho,hg,hop,hd⟩:=Zd q12
 have hfr:=hall ([0,1,2,3,4,5,6,7,8,9,10,11],12) (by simp);refine wpAnyH_take (listed:=LR 16 [0,1,2,3,4,5,6,7,8,9,10,11]) (v:=undef) ho hs hfr.1 hfr.2 (hQ _ _) (Or.inr ⟨((Zz hog6 dog6 hg (by(repeat(first | rw[Zo _ _ (by(try simp only[Zb]);omega)] | rw[Zr _ _ (by decide)])))).trans (by decide)),rfl⟩) hS0 ?_;rw[hd,←Zh];clear ho hg hop hd hfr;obtain⟨o13,ho,hg,hop,hd⟩:=Zd q13
 have hfr:=hall ([0,1,2,3,4,5,6,7,8,9,10,11,12],13) (by simp);refine wpAnyH_take (listed:=LR 16 [0,1,2,3,4,5,6,7,8,9,10,11,12]) (v:=undef) ho hs hfr.1 hfr.2 (hQ _ _) (Or.inr ⟨((Zz hog6 dog6 hg (by(repeat(first | rw[Zo _ _ (by(try simp only[Zb]);omega)] | rw[Zr _ _ (by decide)])))).trans (by decide)),rfl⟩) hS0 ?_;rw[hd,←Zh];clear ho hg hop hd hfr;obtain⟨o14,ho,hg,hop,hd⟩:=Zd q14
 have hfr:=hall ([0,1,2,3,4,5,6,7,8,9,10,11,12,13],14) (by simp);refine wpAnyH_take (listed:=LR 16 [0,1,2,3,4,5,6,7,8,9,10,11,12,13]) (v:=undef) ho hs hfr.1 hfr.2 (hQ _ _) (Or.inr ⟨((Zz hog6 dog6 hg (by(repeat(first | rw[Zo _ _ (by(try simp only[Zb]);omega)] | rw[Zr _ _ (by decide)])))).trans (by decide)),rfl⟩) hS0 ?_;rw[hd,←Zh];clear ho hg hop hd hfr;refine Zj [0,1,2,3,4,5,6,7,8,9,10,11,12,13,14] (.bool true) q15 hs (hall ([0,1,2,3,4,5,6,7,8,9,10,11,12,13,14],15) (by simp)) hQ (fun o w' hop hS=>Zhw _ _ hop w' (by(repeat(first | rw[Zc _ _ (by(try simp only[Zb]);omega)] | rw[Za _ _ (by decide)]))) rfl) hS0 ?_
 exact wpAnyH_done rend (F _ hS0) _
def Zc9:List (List Nat × Nat):=[([],0),([0],1),([0,1],2),([0,1,2],3),([0,1,2,3,4],5),([0,1,2,3,4,5],6),([0,1,2,3,4,5,6],7),([0,1,2,3,4,5,6,7],8),([0,1,2,3,4,5,6,7,8],9),([0,1,2,3,4,5,6,7,8,9],10),([0,1,2,3,4,5,6,7,8,9,10],11),([0,1,2,3,4,5,6,7,8,9,10,11],12),([0,1,2,3,4,5,6,7,8,9,10,11,12],13),([0,1,2,3,4,5,6,7,8,9,10,11,12,13,14],15)]
theorem Zqz{ops:Array Oper}{Q:Exit→Act→World→Prop}{S:World→Prop}{a0:Act}{w5:World}{g off n c k:Nat}{s:ByteArray}{ty1 ty2:Array TypeId}
  (q0:Zf ops 0 none (.move (.tmp 0)) (some 10))
  (q1:Zf ops 1 none (.move (.tmp 3)) (some 11))
  (q2:Zf ops 2 none (.indexAddr 26 (.tmp 10) (.tmp 11)) (some 12))
  (q3:Zf ops 3 none (.load 9 (.tmp 12)) (some 13))
  (q4:Zf ops 4 none (.call {callee:=.value (.func 222),args:=#[.tmp 13],argTypes:=ty1}) (some 14))
  (q5:Zf ops 5 none (.unOp .not 4 (.tmp 14)) (some 15))
  (q6:Zf ops 6 none (.move (.tmp 15)) (some 16))
  (q7:Zf ops 7 (some (6,false)) (.move (.tmp 0)) (some 17))
  (q8:Zf ops 8 (some (6,false)) (.move (.tmp 3)) (some 18))
  (q9:Zf ops 9 (some (6,false)) (.slice 26 (.tmp 17) none (some (.tmp 18)) none) (some 19))
  (q10:Zf ops 10 (some (6,false)) (.move (.tmp 0)) (some 20))
  (q11:Zf ops 11 (some (6,false)) (.move (.tmp 3)) (some 21))
  (q12:Zf ops 12 (some (6,false)) (.indexAddr 26 (.tmp 20) (.tmp 21)) (some 22))
  (q13:Zf ops 13 (some (6,false)) (.load 9 (.tmp 22)) (some 23))
  (q14:Zf ops 14 (some (6,false)) (.call {callee:=.value (.func 96),args:=#[.tmp 19,.tmp 23],argTypes:=ty2}) (some 24))
  (q15:Zf ops 15 none (.pick (.tmp 16) (.const (.bool true)) (.tmp 24)) (some 25))
  (hs:Region.noSelect ops=true) (hq:(Zc9.all fun p=>Region.free .any ops (LR 16 p.1) p.2&&(Region.ready .any ops (LR 16 p.1)).contains p.2)=true)
  (r4:Region.ready .any ops (LR 16 [0,1,2,3])=[4])
  (r14:Region.ready .any ops (LR 16 [0,1,2,3,4,5,6,7,8,9,10,11,12,13])=[14])
  (rend:Region.ready .any ops (LR 16 [0,1,2,3,4,5,6,7,8,9,10,11,12,13,14,15])=[])
  (hQ:∀(d:Option Tmp) (v:Value) c a w,Q (.panic c) (a.put d v) w→Q (.panic c) a w)
  (hsz:25<a0.tmps.size) (e0:a0.eval (.tmp 0)=.slice (some ⟨g,off,none⟩) n c) (e3:a0.eval (.tmp 3)=.int .i64 (k:Int))
  (hS0:S w5.drew)
  (hk:k<n) (hk1:k≤n) (hnc:n≤c) (LS:∀u,S u→(loadVar 9 ⟨g,off+k,none⟩).run Tryz.prog u=.ok (.string s) u)
  (H1:∀u,S u→Calls Tryz.prog 222 #[.string s] u fun e w'=>e=.returned (.bool true)∧w'=u) (H2:∀u,S u→Calls Tryz.prog 96 #[.slice (some ⟨g,off,none⟩) k c,.string s] u fun e w'=>e=.returned (.bool false)∧w'=u)
  (F:∀(wc:World),S wc→Q .normal ((((((((((((((((a0.put (some 10) (.slice (some ⟨g,off,none⟩) n c)).put (some 11) (.int .i64 (k:Int))).put (some 12) (.pointer (some ⟨g,off+k,none⟩))).put (some 13) (.string s)).put (some 14) (.bool true)).put (some 15) (.bool false)).put (some 16) (.bool false)).put (some 17) (.slice (some ⟨g,off,none⟩) n c)).put (some 18) (.int .i64 (k:Int))).put (some 19) (.slice (some ⟨g,off,none⟩) k c)).put (some 20) (.slice (some ⟨g,off,none⟩) n c)).put (some 21) (.int .i64 (k:Int))).put (some 22) (.pointer (some ⟨g,off+k,none⟩))).put (some 23) (.string s)).put (some 24) (.bool false)).put (some 25) (.bool false)) wc) :
  wpAnyH Tryz.prog .any ops Q S 16 (LR 16 []) a0 w5.drew:=by
 have hall:∀p∈Zc9,Region.free .any ops (LR 16 p.1) p.2=true∧(Region.ready .any ops (LR 16 p.1)).contains p.2=true:=by
  intro p hp;have:=List.all_eq_true.1 hq p hp;simpa using this
 unfold Zc9 at hall;obtain⟨og6,hog6,_,_,dog6⟩:=Zd q6;refine Zj [] (.slice (some ⟨g,off,none⟩) n c) q0 hs (hall ([],0) (by simp)) hQ (fun o w' hop hS=>Zs _ _ hop w' (by(repeat rw[Za _ _ (by decide)]);exact e0)) hS0 ?_;refine Zj [0] (.int .i64 (k:Int)) q1 hs (hall ([0],1) (by simp)) hQ (fun o w' hop hS=>Zs _ _ hop w' (by(repeat rw[Za _ _ (by decide)]);exact e3)) hS0 ?_
 refine Zj [0,1] (.pointer (some ⟨g,off+k,none⟩)) q2 hs (hall ([0,1],2) (by simp)) hQ (fun o w' hop hS=>Zc7 _ _ hop w' (by(repeat(first | rw[Zc _ _ (by(try simp only[Zb]);omega)] | rw[Za _ _ (by decide)]))) (by(repeat(first | rw[Zc _ _ (by(try simp only[Zb]);omega)] | rw[Za _ _ (by decide)]))) hk) hS0 ?_;refine Zj [0,1,2] (.string s) q3 hs (hall ([0,1,2],3) (by simp)) hQ (fun o w' hop hS=>ZF _ _ hop w' (by(repeat(first | rw[Zc _ _ (by(try simp only[Zb]);omega)] | rw[Za _ _ (by decide)]))) (LS _ hS)) hS0 ?_
 refine wpAnyH_all r4 (by simp) ?_;intro i hi;obtain rfl:=List.mem_singleton.1 hi;obtain⟨o4,ho,hg,hop,hd⟩:=Zd q4;have x4_0:(((((a0.put (some 10) (.slice (some ⟨g,off,none⟩) n c)).put (some 11) (.int .i64 (k:Int))).put (some 12) (.pointer (some ⟨g,off+k,none⟩))).put (some 13) (.string s))).eval (.tmp 13)=.string s:=(by(repeat(first | rw[Zc _ _ (by(try simp only[Zb]);omega)] | rw[Za _ _ (by decide)])))
 refine Zw ho (Zv hg) (ZC 222 Tryz.func222 (by kernel_rfl) (by kernel_rfl) #[.tmp 13] _ hop #[.string s] (by simp only[List.map_toArray,List.map_cons,List.map_nil,x4_0])) ?_;refine(H1 _ hS0).mono ?_;rintro e u1 ⟨rfl,rfl⟩;refine⟨_,rfl,hS0,?_⟩;rw[hd];clear ho hg hop hd;rw[←Zh];refine Zj [0,1,2,3,4] (.bool false) q5 hs (hall ([0,1,2,3,4],5) (by simp)) hQ (fun o w' hop hS=>Zcy (b:=true) _ _ hop w' (by(repeat(first | rw[Zc _ _ (by(try simp only[Zb]);omega)] | rw[Za _ _ (by decide)])))) hS0 ?_
 refine Zj [0,1,2,3,4,5] (.bool false) q6 hs (hall ([0,1,2,3,4,5],6) (by simp)) hQ (fun o w' hop hS=>Zs _ _ hop w' (by(repeat(first | rw[Zc _ _ (by(try simp only[Zb]);omega)] | rw[Za _ _ (by decide)])))) hS0 ?_;obtain⟨o7,ho,hg,hop,hd⟩:=Zd q7;have hfr:=hall ([0,1,2,3,4,5,6],7) (by simp);refine wpAnyH_take (listed:=LR 16 [0,1,2,3,4,5,6]) (v:=.slice (some ⟨g,off,none⟩) n c) ho hs hfr.1 hfr.2 (hQ _ _) (Or.inl ⟨((Zz hog6 dog6 hg (by(repeat(first | rw[Zo _ _ (by(try simp only[Zb]);omega)] | rw[Zr _ _ (by decide)])))).trans (by decide)),fun w' hS=>Zs _ _ hop w' (by(repeat rw[Za _ _ (by decide)]);exact e0)⟩) hS0 ?_
 rw[hd,←Zh];clear ho hg hop hd hfr;obtain⟨o8,ho,hg,hop,hd⟩:=Zd q8;have hfr:=hall ([0,1,2,3,4,5,6,7],8) (by simp);refine wpAnyH_take (listed:=LR 16 [0,1,2,3,4,5,6,7]) (v:=.int .i64 (k:Int)) ho hs hfr.1 hfr.2 (hQ _ _) (Or.inl ⟨((Zz hog6 dog6 hg (by(repeat(first | rw[Zo _ _ (by(try simp only[Zb]);omega)] | rw[Zr _ _ (by decide)])))).trans (by decide)),fun w' hS=>Zs _ _ hop w' (by(repeat rw[Za _ _ (by decide)]);exact e3)⟩) hS0 ?_
 rw[hd,←Zh];clear ho hg hop hd hfr;obtain⟨o9,ho,hg,hop,hd⟩:=Zd q9;have hfr:=hall ([0,1,2,3,4,5,6,7,8],9) (by simp);refine wpAnyH_take (listed:=LR 16 [0,1,2,3,4,5,6,7,8]) (v:=.slice (some ⟨g,off,none⟩) k c) ho hs hfr.1 hfr.2 (hQ _ _) (Or.inl ⟨((Zz hog6 dog6 hg (by(repeat(first | rw[Zo _ _ (by(try simp only[Zb]);omega)] | rw[Zr _ _ (by decide)])))).trans (by decide)),fun w' hS=>Zhe _ _ hop w' (by(repeat(first | rw[Zc _ _ (by(try simp only[Zb]);omega)] | rw[Za _ _ (by decide)]))) (by(repeat(first | rw[Zc _ _ (by(try simp only[Zb]);omega)] | rw[Za _ _ (by decide)]))) hk1 hnc⟩) hS0 ?_
 rw[hd,←Zh];clear ho hg hop hd hfr;obtain⟨o10,ho,hg,hop,hd⟩:=Zd q10;have hfr:=hall ([0,1,2,3,4,5,6,7,8,9],10) (by simp);refine wpAnyH_take (listed:=LR 16 [0,1,2,3,4,5,6,7,8,9]) (v:=.slice (some ⟨g,off,none⟩) n c) ho hs hfr.1 hfr.2 (hQ _ _) (Or.inl ⟨((Zz hog6 dog6 hg (by(repeat(first | rw[Zo _ _ (by(try simp only[Zb]);omega)] | rw[Zr _ _ (by decide)])))).trans (by decide)),fun w' hS=>Zs _ _ hop w' (by(repeat rw[Za _ _ (by decide)]);exact e0)⟩) hS0 ?_
 rw[hd,←Zh];clear ho hg hop hd hfr;obtain⟨o11,ho,hg,hop,hd⟩:=Zd q11;have hfr:=hall ([0,1,2,3,4,5,6,7,8,9,10],11) (by simp);refine wpAnyH_take (listed:=LR 16 [0,1,2,3,4,5,6,7,8,9,10]) (v:=.int .i64 (k:Int)) ho hs hfr.1 hfr.2 (hQ _ _) (Or.inl ⟨((Zz hog6 dog6 hg (by(repeat(first | rw[Zo _ _ (by(try simp only[Zb]);omega)] | rw[Zr _ _ (by decide)])))).trans (by decide)),fun w' hS=>Zs _ _ hop w' (by(repeat rw[Za _ _ (by decide)]);exact e3)⟩) hS0 ?_
 rw[hd,←Zh];clear ho hg hop hd hfr;obtain⟨o12,ho,hg,hop,hd⟩:=Zd q12;have hfr:=hall ([0,1,2,3,4,5,6,7,8,9,10,11],12) (by simp);refine wpAnyH_take (listed:=LR 16 [0,1,2,3,4,5,6,7,8,9,10,11]) (v:=.pointer (some ⟨g,off+k,none⟩)) ho hs hfr.1 hfr.2 (hQ _ _) (Or.inl ⟨((Zz hog6 dog6 hg (by(repeat(first | rw[Zo _ _ (by(try simp only[Zb]);omega)] | rw[Zr _ _ (by decide)])))).trans (by decide)),fun w' hS=>Zc7 _ _ hop w' (by(repeat(first | rw[Zc _ _ (by(try simp only[Zb]);omega)] | rw[Za _ _ (by decide)]))) (by(repeat(first | rw[Zc _ _ (by(try simp only[Zb]);omega)] | rw[Za _ _ (by decide)]))) hk⟩) hS0 ?_
 rw[hd,←Zh];clear ho hg hop hd hfr;obtain⟨o13,ho,hg,hop,hd⟩:=Zd q13;have hfr:=hall ([0,1,2,3,4,5,6,7,8,9,10,11,12],13) (by simp);refine wpAnyH_take (listed:=LR 16 [0,1,2,3,4,5,6,7,8,9,10,11,12]) (v:=.string s) ho hs hfr.1 hfr.2 (hQ _ _) (Or.inl ⟨((Zz hog6 dog6 hg (by(repeat(first | rw[Zo _ _ (by(try simp only[Zb]);omega)] | rw[Zr _ _ (by decide)])))).trans (by decide)),fun w' hS=>ZF _ _ hop w' (by(repeat(first | rw[Zc _ _ (by(try simp only[Zb]);omega)] | rw[Za _ _ (by decide)]))) (LS _ hS)⟩) hS0 ?_
 rw[hd,←Zh];clear ho hg hop hd hfr;refine wpAnyH_all r14 (by simp) ?_;intro i hi;obtain rfl:=List.mem_singleton.1 hi;obtain⟨o14,ho,hg,hop,hd⟩:=Zd q14;have x14_0:(((((((((((((((a0.put (some 10) (.slice (some ⟨g,off,none⟩) n c)).put (some 11) (.int .i64 (k:Int))).put (some 12) (.pointer (some ⟨g,off+k,none⟩))).put (some 13) (.string s)).put (some 14) (.bool true)).put (some 15) (.bool false)).put (some 16) (.bool false)).put (some 17) (.slice (some ⟨g,off,none⟩) n c)).put (some 18) (.int .i64 (k:Int))).put (some 19) (.slice (some ⟨g,off,none⟩) k c)).put (some 20) (.slice (some ⟨g,off,none⟩) n c)).put (some 21) (.int .i64 (k:Int))).put (some 22) (.pointer (some ⟨g,off+k,none⟩))).put (some 23) (.string s))).eval (.tmp 19)=.slice (some ⟨g,off,none⟩) k c:=(by(repeat(first | rw[Zc _ _ (by(try simp only[Zb]);omega)] | rw[Za _ _ (by decide)])))
 have x14_1:(((((((((((((((a0.put (some 10) (.slice (some ⟨g,off,none⟩) n c)).put (some 11) (.int .i64 (k:Int))).put (some 12) (.pointer (some ⟨g,off+k,none⟩))).put (some 13) (.string s)).put (some 14) (.bool true)).put (some 15) (.bool false)).put (some 16) (.bool false)).put (some 17) (.slice (some ⟨g,off,none⟩) n c)).put (some 18) (.int .i64 (k:Int))).put (some 19) (.slice (some ⟨g,off,none⟩) k c)).put (some 20) (.slice (some ⟨g,off,none⟩) n c)).put (some 21) (.int .i64 (k:Int))).put (some 22) (.pointer (some ⟨g,off+k,none⟩))).put (some 23) (.string s))).eval (.tmp 23)=.string s:=(by(repeat(first | rw[Zc _ _ (by(try simp only[Zb]);omega)] | rw[Za _ _ (by decide)])))
 refine Zw ho ((Zz hog6 dog6 hg (by(repeat(first | rw[Zo _ _ (by(try simp only[Zb]);omega)] | rw[Zr _ _ (by decide)])))).trans (by decide)) (ZC 96 Tryz.func96 (by kernel_rfl) (by kernel_rfl) #[.tmp 19,.tmp 23] _ hop #[.slice (some ⟨g,off,none⟩) k c,.string s] (by simp only[List.map_toArray,List.map_cons,List.map_nil,x14_0,x14_1])) ?_;refine(H2 _ hS0).mono ?_;rintro e u2 ⟨rfl,rfl⟩
 refine⟨_,rfl,hS0,?_⟩;rw[hd];clear ho hg hop hd;rw[←Zh];refine Zj [0,1,2,3,4,5,6,7,8,9,10,11,12,13,14] (.bool false) q15 hs (hall ([0,1,2,3,4,5,6,7,8,9,10,11,12,13,14],15) (by simp)) hQ (fun o w' hop hS=>Zcx _ _ hop w' (by(repeat(first | rw[Zc _ _ (by(try simp only[Zb]);omega)] | rw[Za _ _ (by decide)]))) (by(repeat(first | rw[Zc _ _ (by(try simp only[Zb]);omega)] | rw[Za _ _ (by decide)])))) hS0 ?_
 exact wpAnyH_done rend (F _ hS0) _
def Zda:List (List Nat × Nat):=[([],0),([0],1),([0,1],2),([0,1,2],3),([0,1,2,3,4],5),([0,1,2,3,4,5],6),([0,1,2,3,4,5,6],7),([0,1,2,3,4,5,6,7],8),([0,1,2,3,4,5,6,7,8],9),([0,1,2,3,4,5,6,7,8,9],10),([0,1,2,3,4,5,6,7,8,9,10],11),([0,1,2,3,4,5,6,7,8,9,10,11],12),([0,1,2,3,4,5,6,7,8,9,10,11,12],13),([0,1,2,3,4,5,6,7,8,9,10,11,12,13,14],15)]
theorem ZqA{ops:Array Oper}{Q:Exit→Act→World→Prop}{S:World→Prop}{a0:Act}{w5:World}{g off n c k:Nat}{s:ByteArray}{ty1 ty2:Array TypeId}
  (q0:Zf ops 0 none (.move (.tmp 0)) (some 10))
  (q1:Zf ops 1 none (.move (.tmp 3)) (some 11))
  (q2:Zf ops 2 none (.indexAddr 26 (.tmp 10) (.tmp 11)) (some 12))
  (q3:Zf ops 3 none (.load 9 (.tmp 12)) (some 13))
  (q4:Zf ops 4 none (.call {callee:=.value (.func 222),args:=#[.tmp 13],argTypes:=ty1}) (some 14))
  (q5:Zf ops 5 none (.unOp .not 4 (.tmp 14)) (some 15))
  (q6:Zf ops 6 none (.move (.tmp 15)) (some 16))
  (q7:Zf ops 7 (some (6,false)) (.move (.tmp 0)) (some 17))
  (q8:Zf ops 8 (some (6,false)) (.move (.tmp 3)) (some 18))
  (q9:Zf ops 9 (some (6,false)) (.slice 26 (.tmp 17) none (some (.tmp 18)) none) (some 19))
  (q10:Zf ops 10 (some (6,false)) (.move (.tmp 0)) (some 20))
  (q11:Zf ops 11 (some (6,false)) (.move (.tmp 3)) (some 21))
  (q12:Zf ops 12 (some (6,false)) (.indexAddr 26 (.tmp 20) (.tmp 21)) (some 22))
  (q13:Zf ops 13 (some (6,false)) (.load 9 (.tmp 22)) (some 23))
  (q14:Zf ops 14 (some (6,false)) (.call {callee:=.value (.func 96),args:=#[.tmp 19,.tmp 23],argTypes:=ty2}) (some 24))
  (q15:Zf ops 15 none (.pick (.tmp 16) (.const (.bool true)) (.tmp 24)) (some 25))
  (hs:Region.noSelect ops=true) (hq:(Zda.all fun p=>Region.free .any ops (LR 16 p.1) p.2&&(Region.ready .any ops (LR 16 p.1)).contains p.2)=true)
  (r4:Region.ready .any ops (LR 16 [0,1,2,3])=[4])
  (r14:Region.ready .any ops (LR 16 [0,1,2,3,4,5,6,7,8,9,10,11,12,13])=[14])
  (rend:Region.ready .any ops (LR 16 [0,1,2,3,4,5,6,7,8,9,10,11,12,13,14,15])=[])
  (hQ:∀(d:Option Tmp) (v:Value) c a w,Q (.panic c) (a.put d v) w→Q (.panic c) a w)
  (hsz:25<a0.tmps.size) (e0:a0.eval (.tmp 0)=.slice (some ⟨g,off,none⟩) n c) (e3:a0.eval (.tmp 3)=.int .i64 (k:Int))
  (hS0:S w5.drew)
  (hk:k<n) (hk1:k≤n) (hnc:n≤c) (LS:∀u,S u→(loadVar 9 ⟨g,off+k,none⟩).run Tryz.prog u=.ok (.string s) u)
  (H1:∀u,S u→Calls Tryz.prog 222 #[.string s] u fun e w'=>e=.returned (.bool true)∧w'=u) (H2:∀u,S u→Calls Tryz.prog 96 #[.slice (some ⟨g,off,none⟩) k c,.string s] u fun e w'=>e=.returned (.bool true)∧w'=u)
  (F:∀(wc:World),S wc→Q .normal ((((((((((((((((a0.put (some 10) (.slice (some ⟨g,off,none⟩) n c)).put (some 11) (.int .i64 (k:Int))).put (some 12) (.pointer (some ⟨g,off+k,none⟩))).put (some 13) (.string s)).put (some 14) (.bool true)).put (some 15) (.bool false)).put (some 16) (.bool false)).put (some 17) (.slice (some ⟨g,off,none⟩) n c)).put (some 18) (.int .i64 (k:Int))).put (some 19) (.slice (some ⟨g,off,none⟩) k c)).put (some 20) (.slice (some ⟨g,off,none⟩) n c)).put (some 21) (.int .i64 (k:Int))).put (some 22) (.pointer (some ⟨g,off+k,none⟩))).put (some 23) (.string s)).put (some 24) (.bool true)).put (some 25) (.bool true)) wc) :
  wpAnyH Tryz.prog .any ops Q S 16 (LR 16 []) a0 w5.drew:=by
 have hall:∀p∈Zda,Region.free .any ops (LR 16 p.1) p.2=true∧(Region.ready .any ops (LR 16 p.1)).contains p.2=true:=by
  intro p hp;have:=List.all_eq_true.1 hq p hp;simpa using this
 unfold Zda at hall;obtain⟨og6,hog6,_,_,dog6⟩:=Zd q6;refine Zj [] (.slice (some ⟨g,off,none⟩) n c) q0 hs (hall ([],0) (by simp)) hQ (fun o w' hop hS=>Zs _ _ hop w' (by(repeat rw[Za _ _ (by decide)]);exact e0)) hS0 ?_;refine Zj [0] (.int .i64 (k:Int)) q1 hs (hall ([0],1) (by simp)) hQ (fun o w' hop hS=>Zs _ _ hop w' (by(repeat rw[Za _ _ (by decide)]);exact e3)) hS0 ?_
 refine Zj [0,1] (.pointer (some ⟨g,off+k,none⟩)) q2 hs (hall ([0,1],2) (by simp)) hQ (fun o w' hop hS=>Zc7 _ _ hop w' (by(repeat(first | rw[Zc _ _ (by(try simp only[Zb]);omega)] | rw[Za _ _ (by decide)]))) (by(repeat(first | rw[Zc _ _ (by(try simp only[Zb]);omega)] | rw[Za _ _ (by decide)]))) hk) hS0 ?_;refine Zj [0,1,2] (.string s) q3 hs (hall ([0,1,2],3) (by simp)) hQ (fun o w' hop hS=>ZF _ _ hop w' (by(repeat(first | rw[Zc _ _ (by(try simp only[Zb]);omega)] | rw[Za _ _ (by decide)]))) (LS _ hS)) hS0 ?_
 refine wpAnyH_all r4 (by simp) ?_;intro i hi;obtain rfl:=List.mem_singleton.1 hi;obtain⟨o4,ho,hg,hop,hd⟩:=Zd q4;have x4_0:(((((a0.put (some 10) (.slice (some ⟨g,off,none⟩) n c)).put (some 11) (.int .i64 (k:Int))).put (some 12) (.pointer (some ⟨g,off+k,none⟩))).put (some 13) (.string s))).eval (.tmp 13)=.string s:=(by(repeat(first | rw[Zc _ _ (by(try simp only[Zb]);omega)] | rw[Za _ _ (by decide)])))
 refine Zw ho (Zv hg) (ZC 222 Tryz.func222 (by kernel_rfl) (by kernel_rfl) #[.tmp 13] _ hop #[.string s] (by simp only[List.map_toArray,List.map_cons,List.map_nil,x4_0])) ?_;refine(H1 _ hS0).mono ?_;rintro e u1 ⟨rfl,rfl⟩;refine⟨_,rfl,hS0,?_⟩;rw[hd];clear ho hg hop hd;rw[←Zh];refine Zj [0,1,2,3,4] (.bool false) q5 hs (hall ([0,1,2,3,4],5) (by simp)) hQ (fun o w' hop hS=>Zcy (b:=true) _ _ hop w' (by(repeat(first | rw[Zc _ _ (by(try simp only[Zb]);omega)] | rw[Za _ _ (by decide)])))) hS0 ?_
 refine Zj [0,1,2,3,4,5] (.bool false) q6 hs (hall ([0,1,2,3,4,5],6) (by simp)) hQ (fun o w' hop hS=>Zs _ _ hop w' (by(repeat(first | rw[Zc _ _ (by(try simp only[Zb]);omega)] | rw[Za _ _ (by decide)])))) hS0 ?_;obtain⟨o7,ho,hg,hop,hd⟩:=Zd q7;have hfr:=hall ([0,1,2,3,4,5,6],7) (by simp);refine wpAnyH_take (listed:=LR 16 [0,1,2,3,4,5,6]) (v:=.slice (some ⟨g,off,none⟩) n c) ho hs hfr.1 hfr.2 (hQ _ _) (Or.inl ⟨((Zz hog6 dog6 hg (by(repeat(first | rw[Zo _ _ (by(try simp only[Zb]);omega)] | rw[Zr _ _ (by decide)])))).trans (by decide)),fun w' hS=>Zs _ _ hop w' (by(repeat rw[Za _ _ (by decide)]);exact e0)⟩) hS0 ?_
 rw[hd,←Zh];clear ho hg hop hd hfr;obtain⟨o8,ho,hg,hop,hd⟩:=Zd q8;have hfr:=hall ([0,1,2,3,4,5,6,7],8) (by simp);refine wpAnyH_take (listed:=LR 16 [0,1,2,3,4,5,6,7]) (v:=.int .i64 (k:Int)) ho hs hfr.1 hfr.2 (hQ _ _) (Or.inl ⟨((Zz hog6 dog6 hg (by(repeat(first | rw[Zo _ _ (by(try simp only[Zb]);omega)] | rw[Zr _ _ (by decide)])))).trans (by decide)),fun w' hS=>Zs _ _ hop w' (by(repeat rw[Za _ _ (by decide)]);exact e3)⟩) hS0 ?_
 rw[hd,←Zh];clear ho hg hop hd hfr;obtain⟨o9,ho,hg,hop,hd⟩:=Zd q9;have hfr:=hall ([0,1,2,3,4,5,6,7,8],9) (by simp);refine wpAnyH_take (listed:=LR 16 [0,1,2,3,4,5,6,7,8]) (v:=.slice (some ⟨g,off,none⟩) k c) ho hs hfr.1 hfr.2 (hQ _ _) (Or.inl ⟨((Zz hog6 dog6 hg (by(repeat(first | rw[Zo _ _ (by(try simp only[Zb]);omega)] | rw[Zr _ _ (by decide)])))).trans (by decide)),fun w' hS=>Zhe _ _ hop w' (by(repeat(first | rw[Zc _ _ (by(try simp only[Zb]);omega)] | rw[Za _ _ (by decide)]))) (by(repeat(first | rw[Zc _ _ (by(try simp only[Zb]);omega)] | rw[Za _ _ (by decide)]))) hk1 hnc⟩) hS0 ?_
 rw[hd,←Zh];clear ho hg hop hd hfr;obtain⟨o10,ho,hg,hop,hd⟩:=Zd q10;have hfr:=hall ([0,1,2,3,4,5,6,7,8,9],10) (by simp);refine wpAnyH_take (listed:=LR 16 [0,1,2,3,4,5,6,7,8,9]) (v:=.slice (some ⟨g,off,none⟩) n c) ho hs hfr.1 hfr.2 (hQ _ _) (Or.inl ⟨((Zz hog6 dog6 hg (by(repeat(first | rw[Zo _ _ (by(try simp only[Zb]);omega)] | rw[Zr _ _ (by decide)])))).trans (by decide)),fun w' hS=>Zs _ _ hop w' (by(repeat rw[Za _ _ (by decide)]);exact e0)⟩) hS0 ?_
 rw[hd,←Zh];clear ho hg hop hd hfr;obtain⟨o11,ho,hg,hop,hd⟩:=Zd q11;have hfr:=hall ([0,1,2,3,4,5,6,7,8,9,10],11) (by simp);refine wpAnyH_take (listed:=LR 16 [0,1,2,3,4,5,6,7,8,9,10]) (v:=.int .i64 (k:Int)) ho hs hfr.1 hfr.2 (hQ _ _) (Or.inl ⟨((Zz hog6 dog6 hg (by(repeat(first | rw[Zo _ _ (by(try simp only[Zb]);omega)] | rw[Zr _ _ (by decide)])))).trans (by decide)),fun w' hS=>Zs _ _ hop w' (by(repeat rw[Za _ _ (by decide)]);exact e3)⟩) hS0 ?_
 rw[hd,←Zh];clear ho hg hop hd hfr;obtain⟨o12,ho,hg,hop,hd⟩:=Zd q12;have hfr:=hall ([0,1,2,3,4,5,6,7,8,9,10,11],12) (by simp);refine wpAnyH_take (listed:=LR 16 [0,1,2,3,4,5,6,7,8,9,10,11]) (v:=.pointer (some ⟨g,off+k,none⟩)) ho hs hfr.1 hfr.2 (hQ _ _) (Or.inl ⟨((Zz hog6 dog6 hg (by(repeat(first | rw[Zo _ _ (by(try simp only[Zb]);omega)] | rw[Zr _ _ (by decide)])))).trans (by decide)),fun w' hS=>Zc7 _ _ hop w' (by(repeat(first | rw[Zc _ _ (by(try simp only[Zb]);omega)] | rw[Za _ _ (by decide)]))) (by(repeat(first | rw[Zc _ _ (by(try simp only[Zb]);omega)] | rw[Za _ _ (by decide)]))) hk⟩) hS0 ?_
 rw[hd,←Zh];clear ho hg hop hd hfr;obtain⟨o13,ho,hg,hop,hd⟩:=Zd q13;have hfr:=hall ([0,1,2,3,4,5,6,7,8,9,10,11,12],13) (by simp);refine wpAnyH_take (listed:=LR 16 [0,1,2,3,4,5,6,7,8,9,10,11,12]) (v:=.string s) ho hs hfr.1 hfr.2 (hQ _ _) (Or.inl ⟨((Zz hog6 dog6 hg (by(repeat(first | rw[Zo _ _ (by(try simp only[Zb]);omega)] | rw[Zr _ _ (by decide)])))).trans (by decide)),fun w' hS=>ZF _ _ hop w' (by(repeat(first | rw[Zc _ _ (by(try simp only[Zb]);omega)] | rw[Za _ _ (by decide)]))) (LS _ hS)⟩) hS0 ?_
 rw[hd,←Zh];clear ho hg hop hd hfr;refine wpAnyH_all r14 (by simp) ?_;intro i hi;obtain rfl:=List.mem_singleton.1 hi;obtain⟨o14,ho,hg,hop,hd⟩:=Zd q14;have x14_0:(((((((((((((((a0.put (some 10) (.slice (some ⟨g,off,none⟩) n c)).put (some 11) (.int .i64 (k:Int))).put (some 12) (.pointer (some ⟨g,off+k,none⟩))).put (some 13) (.string s)).put (some 14) (.bool true)).put (some 15) (.bool false)).put (some 16) (.bool false)).put (some 17) (.slice (some ⟨g,off,none⟩) n c)).put (some 18) (.int .i64 (k:Int))).put (some 19) (.slice (some ⟨g,off,none⟩) k c)).put (some 20) (.slice (some ⟨g,off,none⟩) n c)).put (some 21) (.int .i64 (k:Int))).put (some 22) (.pointer (some ⟨g,off+k,none⟩))).put (some 23) (.string s))).eval (.tmp 19)=.slice (some ⟨g,off,none⟩) k c:=(by(repeat(first | rw[Zc _ _ (by(try simp only[Zb]);omega)] | rw[Za _ _ (by decide)])))
 have x14_1:(((((((((((((((a0.put (some 10) (.slice (some ⟨g,off,none⟩) n c)).put (some 11) (.int .i64 (k:Int))).put (some 12) (.pointer (some ⟨g,off+k,none⟩))).put (some 13) (.string s)).put (some 14) (.bool true)).put (some 15) (.bool false)).put (some 16) (.bool false)).put (some 17) (.slice (some ⟨g,off,none⟩) n c)).put (some 18) (.int .i64 (k:Int))).put (some 19) (.slice (some ⟨g,off,none⟩) k c)).put (some 20) (.slice (some ⟨g,off,none⟩) n c)).put (some 21) (.int .i64 (k:Int))).put (some 22) (.pointer (some ⟨g,off+k,none⟩))).put (some 23) (.string s))).eval (.tmp 23)=.string s:=(by(repeat(first | rw[Zc _ _ (by(try simp only[Zb]);omega)] | rw[Za _ _ (by decide)])))
 refine Zw ho ((Zz hog6 dog6 hg (by(repeat(first | rw[Zo _ _ (by(try simp only[Zb]);omega)] | rw[Zr _ _ (by decide)])))).trans (by decide)) (ZC 96 Tryz.func96 (by kernel_rfl) (by kernel_rfl) #[.tmp 19,.tmp 23] _ hop #[.slice (some ⟨g,off,none⟩) k c,.string s] (by simp only[List.map_toArray,List.map_cons,List.map_nil,x14_0,x14_1])) ?_;refine(H2 _ hS0).mono ?_;rintro e u2 ⟨rfl,rfl⟩
 refine⟨_,rfl,hS0,?_⟩;rw[hd];clear ho hg hop hd;rw[←Zh];refine Zj [0,1,2,3,4,5,6,7,8,9,10,11,12,13,14] (.bool true) q15 hs (hall ([0,1,2,3,4,5,6,7,8,9,10,11,12,13,14],15) (by simp)) hQ (fun o w' hop hS=>Zcx _ _ hop w' (by(repeat(first | rw[Zc _ _ (by(try simp only[Zb]);omega)] | rw[Za _ _ (by decide)]))) (by(repeat(first | rw[Zc _ _ (by(try simp only[Zb]);omega)] | rw[Za _ _ (by decide)])))) hS0 ?_
 exact wpAnyH_done rend (F _ hS0) _
theorem Zfj{w:World}{v:Value}{l:List ByteArray}(hl:Ls w v l.length (l.flatMap Zm))(hsz:∀i,i<l.length→(atS l i).size≤maxLen) :
  Calls Tryz.prog 89 #[v] w fun e w'=>e=.returned (.bool (knB l l.length))∧Below w.heap.size w w':=by
 have HL:=Lib.hid hl;obtain⟨a,c,rfl,hc1,hc2,hat⟩:=Z3 hl;have HAT:=Lib.hid hat;have HSZ:=Lib.hid hsz;unfold maxLen at hc2;clear hl hat hsz;go_enter Tryz.func89,Tryz.ntmps89;go_wp2;go_loopw [3] (fun i wr=>∃k:Nat,k≤l.length∧i=.int .i64 k∧Hid (knB l k=true)∧Below w.heap.size w wr) (fun i _=>l.length-(intOf i).toNat)
 case atStart=>exact⟨0,Nat.zero_le _,rfl,rfl,Below.refl _ _⟩
 case round=>
  obtain⟨k,hk,rfl,HN,bel⟩:=hrel
  by_cases hlt:k<l.length
  ·have hlt':(k:Int)<(l.length:Int):=by omega
   have hk0:(0:Int)≤(k:Int):=by omega
   have HH:=Lib.hid (fun u (hu:Below w.heap.size w u)=>Zcs (ZnP (HL.out.below hu) hk) (atS l k));obtain⟨g,off,rfl,hg,hce⟩:=HAT.out (by omega);have y0:wr.cell? ⟨g,off+k,none⟩=some (.string (atS l k)):=(bel.cell (p:=⟨g,off+k,none⟩) hg).trans (hce k hlt);have HV:=Lib.hid (fun u=>ZgD (atS l k) u (HSZ.out k hlt))
   have HX:Hid (inB (l.take k) (atS l k)=false→Zbd (atS l k)=true→knB l (k+1)=true):=fun h1 h2=>by
    show knB l (k+1)=true;unfold knB;rw[HN.out,h1,h2];rfl
   have HY:Hid ((inB (l.take k) (atS l k)=true∨Zbd (atS l k)=false)→knB l l.length=false):=fun h=>Zkp _ hlt h
   generalize inB (l.take k) (atS l k)=b1 at HX HY HH;generalize atS l k=x at y0 HX HY HH HV;generalize Zbd x=b2 at HX HY HV;clear hce hg
   cases b2
   ·have HF:=Lib.hid (HY.out (.inr rfl));clear HX HY;go_upto_region 4 with fail
    refine wp_region_noPanic ?_;refine wp_region_held (S:=fun v=>v=wr.drew) (by kernel_rfl) ?_;refine Zqy (w5:=wr) (S:=fun v=>v=wr.drew) (g:=g) (off:=off) (n:=l.length) (c:=c) (k:=k) (s:=x) rfl rfl rfl rfl rfl rfl rfl rfl rfl rfl rfl rfl rfl rfl rfl rfl (by kernel_rfl) (by kernel_rfl) (by kernel_rfl) (by kernel_rfl) (by intros;assumption) (by simp) rfl rfl rfl hlt hk hc1 (fun v hv=>by rw[hv];exact ZL y0) (fun v hv=>HV.out v) ?_
    rintro wc rfl;refine NoPanic.normal ?_
    rename_i hK
    refine hK _ _ ?_;simp (config:={maxSteps:=8000000}) only[Act.put,List.getElem_toArray,List.getElem_cons_zero,List.getElem_cons_succ,List.setIfInBounds_toArray,List.set_cons_succ,List.set_cons_zero];have bel2:Below w.heap.size w wr.drew:=bel.drew;clear hK HH HV bel y0;go_wp2;go_ret;exact⟨by rw[HF.out];rfl,bel2⟩
   ·cases b1
    ·have HF:=Lib.hid (HX.out rfl rfl);clear HX HY;go_upto_region 4 with fail
     refine wp_region_noPanic ?_;refine wp_region_held (S:=fun v=>v=wr.drew) (by kernel_rfl) ?_;refine Zqz (w5:=wr) (S:=fun v=>v=wr.drew) (g:=g) (off:=off) (n:=l.length) (c:=c) (k:=k) (s:=x) rfl rfl rfl rfl rfl rfl rfl rfl rfl rfl rfl rfl rfl rfl rfl rfl (by kernel_rfl) (by kernel_rfl) (by kernel_rfl) (by kernel_rfl) (by kernel_rfl) (by intros;assumption) (by simp) rfl rfl rfl hlt hk hc1 (fun v hv=>by rw[hv];exact ZL y0) (fun v hv=>HV.out v) (fun v hv=>by rw[hv];exact HH.out _ bel.drew) ?_
     rintro wc rfl;refine NoPanic.normal ?_
     rename_i hK
     refine hK _ _ ?_;simp (config:={maxSteps:=8000000}) only[Act.put,List.getElem_toArray,List.getElem_cons_zero,List.getElem_cons_succ,List.setIfInBounds_toArray,List.set_cons_succ,List.set_cons_zero];have bel2:Below w.heap.size w wr.drew:=bel.drew;clear hK HH HV bel y0;go_wp2;go_roundw
     case rel=>exact⟨k+1,by omega,by go_num,HF,bel2⟩
     case measure=>simp[intOf];omega
    ·have HF:=Lib.hid (HY.out (.inl rfl));clear HX HY;go_upto_region 4 with fail
     refine wp_region_noPanic ?_;refine wp_region_held (S:=fun v=>v=wr.drew) (by kernel_rfl) ?_;refine ZqA (w5:=wr) (S:=fun v=>v=wr.drew) (g:=g) (off:=off) (n:=l.length) (c:=c) (k:=k) (s:=x) rfl rfl rfl rfl rfl rfl rfl rfl rfl rfl rfl rfl rfl rfl rfl rfl (by kernel_rfl) (by kernel_rfl) (by kernel_rfl) (by kernel_rfl) (by kernel_rfl) (by intros;assumption) (by simp) rfl rfl rfl hlt hk hc1 (fun v hv=>by rw[hv];exact ZL y0) (fun v hv=>HV.out v) (fun v hv=>by rw[hv];exact HH.out _ bel.drew) ?_
     rintro wc rfl;refine NoPanic.normal ?_
     rename_i hK
     refine hK _ _ ?_;simp (config:={maxSteps:=8000000}) only[Act.put,List.getElem_toArray,List.getElem_cons_zero,List.getElem_cons_succ,List.setIfInBounds_toArray,List.set_cons_succ,List.set_cons_zero];have bel2:Below w.heap.size w wr.drew:=bel.drew;clear hK HH HV bel y0;go_wp2;go_ret;exact⟨by rw[HF.out];rfl,bel2⟩
  ·obtain rfl:k=l.length:=by omega
   go_wp2;go_ret;exact⟨by rw[HN.out];rfl,bel⟩
end
end Go.Proofs.YtjdnpgpbeppgjaaGreatDoor
