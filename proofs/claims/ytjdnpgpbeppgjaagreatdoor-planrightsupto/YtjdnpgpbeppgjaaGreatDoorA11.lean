import Derived.Test.YtjdnpgpbeppgjaaGreatDoorA10
import Derived.Test.YtjdnpgpbeppgjaaGreatDoorA4
import Derived.Test.YtjdnpgpbeppgjaaGreatDoorA9
import Derived.Test.YtjdnpgpbeppgjaaGreatDoorA7
set_option linter.unusedSimpArgs false
set_option linter.unusedVariables false
set_option maxHeartbeats 3200000
namespace Go.Proofs.YtjdnpgpbeppgjaaGreatDoor
section
open Go.RowKit Go.Maps
theorem ZbA(ev:Operand→Value)(o:Oper){ty:TypeId}{x:Operand}(hop:o.op=.load ty x)(w:World){a:Addr}{v:Value}(hx:ev x=.pointer (some a))(hl:(loadVar ty a).run Tryz.prog w=.ok v w):(execOp ev o).run Tryz.prog w=.ok (.value v) w:=by
 simp only[execOp,hop,hx];simp[Instr.loadAt,Instr.sureAddr,hl,Result.andThen]
theorem Za5(ev:Operand→Value)(o:Oper){x:Operand}(hop:o.op=.nilCheck x)(w:World){a:Addr}(hx:ev x=.pointer (some a)):(execOp ev o).run Tryz.prog w=.ok (.value (.pointer (some a))) w:=by
 simp only[execOp,hop,hx];go_simp
theorem ZeL(ev:Operand→Value)(o:Oper){x:Operand}(hop:o.op=.fieldAddr 405 x 0)(w:World){be:Nat}(hx:ev x=.pointer (some ⟨be,0,none⟩)):(execOp ev o).run Tryz.prog w=.ok (.value (.pointer (some ⟨be,0,none⟩))) w:=by
 simp only[execOp,hop,hx];go_simp
theorem ZeM(ev:Operand→Value)(o:Oper){x:Operand}(hop:o.op=.fieldAddr 405 x 1)(w:World){be:Nat}(hx:ev x=.pointer (some ⟨be,0,none⟩)):(execOp ev o).run Tryz.prog w=.ok (.value (.pointer (some ⟨be,2,none⟩))) w:=by
 simp only[execOp,hop,hx];go_simp
theorem Zg3(ev:Operand→Value)(o:Oper){x:Operand}(hop:o.op=.fieldAddr 402 x 0)(w:World){be:Nat}(hx:ev x=.pointer (some ⟨be,0,none⟩)):(execOp ev o).run Tryz.prog w=.ok (.value (.pointer (some ⟨be,0,none⟩))) w:=by
 simp only[execOp,hop,hx];go_simp
theorem Zl2(ev:Operand→Value)(o:Oper){x:Operand}(hop:o.op=.fieldAddr 402 x 0)(w:World){be:Nat}(hx:ev x=.pointer (some ⟨be,2,none⟩)):(execOp ev o).run Tryz.prog w=.ok (.value (.pointer (some ⟨be,2,none⟩))) w:=by
 simp only[execOp,hop,hx];go_simp
def ZcF:List (List Nat × Nat):=[([],0),([0],1),([0,1],2),([0,1,2],3),([0,1,2,3],4),([0,1,2,3,4],5),([0,1,2,3,4,5],6),([0,1,2,3,4,5,6],7),([0,1,2,3,4,5,6,7],8),([0,1,2,3,4,5,6,7,8,9],10),([0,1,2,3,4,5,6,7,8,9,10],11),([0,1,2,3,4,5,6,7,8,9,10,11],12),([0,1,2,3,4,5,6,7,8,9,10,11,12],13),([0,1,2,3,4,5,6,7,8,9,10,11,12,13],14),([0,1,2,3,4,5,6,7,8,9,10,11,12,13,14],15),([0,1,2,3,4,5,6,7,8,9,10,11,12,13,14,15],16),([0,1,2,3,4,5,6,7,8,9,10,11,12,13,14,15,16],17),([0,1,2,3,4,5,6,7,8,9,10,11,12,13,14,15,16,17],18),([0,1,2,3,4,5,6,7,8,9,10,11,12,13,14,15,16,17,18],19),([0,1,2,3,4,5,6,7,8,9,10,11,12,13,14,15,16,17,18,19],20),([0,1,2,3,4,5,6,7,8,9,10,11,12,13,14,15,16,17,18,19,20],21),([0,1,2,3,4,5,6,7,8,9,10,11,12,13,14,15,16,17,18,19,20,21],22)]
theorem Zp2{ops:Array Oper}{Q:Exit→Act→World→Prop}{S:World→Prop}{a0:Act}{w5:World}{bf be:Nat}{L0 L1:Value}{ty1 ty2:Array TypeId}{P:World→Prop}
  (q0:Zf ops 0 none (.move (.tmp 0)) (some 5))
  (q1:Zf ops 1 none (.move (.tmp 1)) (some 6))
  (q2:Zf ops 2 none (.nilCheck (.tmp 6)) (some 7))
  (q3:Zf ops 3 none (.fieldAddr 405 (.tmp 7) 0) (some 8))
  (q4:Zf ops 4 none (.fieldAddr 402 (.tmp 8) 0) (some 9))
  (q5:Zf ops 5 none (.load 393 (.tmp 9)) (some 10))
  (q6:Zf ops 6 none (.move (.tmp 1)) (some 11))
  (q7:Zf ops 7 none (.nilCheck (.tmp 11)) (some 12))
  (q8:Zf ops 8 none (.fieldAddr 405 (.tmp 12) 1) (some 13))
  (q9:Zf ops 9 none (.call {callee:=.value (.func 319),args:=#[.tmp 5,.tmp 10,.tmp 13],argTypes:=ty1}) (some 14))
  (q10:Zf ops 10 none (.move (.tmp 14)) (some 15))
  (q11:Zf ops 11 (some (10,false)) (.move (.tmp 0)) (some 16))
  (q12:Zf ops 12 (some (10,false)) (.move (.tmp 1)) (some 17))
  (q13:Zf ops 13 (some (10,false)) (.nilCheck (.tmp 17)) (some 18))
  (q14:Zf ops 14 (some (10,false)) (.fieldAddr 405 (.tmp 18) 1) (some 19))
  (q15:Zf ops 15 (some (10,false)) (.fieldAddr 402 (.tmp 19) 0) (some 20))
  (q16:Zf ops 16 (some (10,false)) (.load 393 (.tmp 20)) (some 21))
  (q17:Zf ops 17 (some (10,false)) (.move (.tmp 1)) (some 22))
  (q18:Zf ops 18 (some (10,false)) (.nilCheck (.tmp 22)) (some 23))
  (q19:Zf ops 19 (some (10,false)) (.fieldAddr 405 (.tmp 23) 0) (some 24))
  (q20:Zf ops 20 (some (10,false)) (.call {callee:=.value (.func 319),args:=#[.tmp 16,.tmp 21,.tmp 24],argTypes:=ty2}) (some 25))
  (q21:Zf ops 21 none (.pick (.tmp 15) (.const (.bool true)) (.tmp 25)) (some 26))
  (q22:Zf ops 22 none (.assign (.tmp 26)) (some 4))
  (hs:Region.noSelect ops=true) (hq:(ZcF.all fun p=>Region.free .any ops (LR 23 p.1) p.2&&(Region.ready .any ops (LR 23 p.1)).contains p.2)=true)
  (r9:Region.ready .any ops (LR 23 [0,1,2,3,4,5,6,7,8])=[9])
  (rend:Region.ready .any ops (LR 23 [0,1,2,3,4,5,6,7,8,9,10,11,12,13,14,15,16,17,18,19,20,21,22])=[])
  (hQ:∀(d:Option Tmp) (v:Value) c a w,Q (.panic c) (a.put d v) w→Q (.panic c) a w)
  (hsz:26<a0.tmps.size) (e0:a0.eval (.tmp 0)=.pointer (some ⟨bf,0,none⟩)) (e1:a0.eval (.tmp 1)=.pointer (some ⟨be,0,none⟩))
  (hS0:S w5.drew)
  (keep:∀u u',S u→S u'→S u') (LL0:∀u,S u→(loadVar 393 ⟨be,0,none⟩).run Tryz.prog u=.ok L0 u) (LL1:∀u,S u→(loadVar 393 ⟨be,2,none⟩).run Tryz.prog u=.ok L1 u)
  (C1:Calls Tryz.prog 319 #[.pointer (some ⟨bf,0,none⟩),L0,.pointer (some ⟨be,2,none⟩)] w5.drew fun e w'=>e=.returned (.bool true)∧S w'∧P w')
  (F:∀(wc:World),P wc→Q .normal (((((((((((((((((((((((a0.put (some 5) (.pointer (some ⟨bf,0,none⟩))).put (some 6) (.pointer (some ⟨be,0,none⟩))).put (some 7) (.pointer (some ⟨be,0,none⟩))).put (some 8) (.pointer (some ⟨be,0,none⟩))).put (some 9) (.pointer (some ⟨be,0,none⟩))).put (some 10) (L0)).put (some 11) (.pointer (some ⟨be,0,none⟩))).put (some 12) (.pointer (some ⟨be,0,none⟩))).put (some 13) (.pointer (some ⟨be,2,none⟩))).put (some 14) (.bool true)).put (some 15) (.bool true)).put (some 16) (undef)).put (some 17) (undef)).put (some 18) (undef)).put (some 19) (undef)).put (some 20) (undef)).put (some 21) (undef)).put (some 22) (undef)).put (some 23) (undef)).put (some 24) (undef)).put (some 25) (undef)).put (some 26) (.bool true)).put (some 4) (.bool true)) wc) :
  wpAnyH Tryz.prog .any ops Q S 23 (LR 23 []) a0 w5.drew:=by
 have hall:∀p∈ZcF,Region.free .any ops (LR 23 p.1) p.2=true∧(Region.ready .any ops (LR 23 p.1)).contains p.2=true:=by
  intro p hp;have:=List.all_eq_true.1 hq p hp;simpa using this
 unfold ZcF at hall;obtain⟨og10,hog10,_,_,dog10⟩:=Zd q10;refine Zj [] (.pointer (some ⟨bf,0,none⟩)) q0 hs (hall ([],0) (by simp)) hQ (fun o w' hop hS=>Zs _ _ hop w' (by(repeat rw[Za _ _ (by decide)]);exact e0)) hS0 ?_;refine Zj [0] (.pointer (some ⟨be,0,none⟩)) q1 hs (hall ([0],1) (by simp)) hQ (fun o w' hop hS=>Zs _ _ hop w' (by(repeat rw[Za _ _ (by decide)]);exact e1)) hS0 ?_
 refine Zj [0,1] (.pointer (some ⟨be,0,none⟩)) q2 hs (hall ([0,1],2) (by simp)) hQ (fun o w' hop hS=>Za5 _ _ hop w' (by(repeat(first | rw[Zc _ _ (by(try simp only[Zb]);omega)] | rw[Za _ _ (by decide)])))) hS0 ?_;refine Zj [0,1,2] (.pointer (some ⟨be,0,none⟩)) q3 hs (hall ([0,1,2],3) (by simp)) hQ (fun o w' hop hS=>ZeL _ _ hop w' (by(repeat(first | rw[Zc _ _ (by(try simp only[Zb]);omega)] | rw[Za _ _ (by decide)])))) hS0 ?_
 refine Zj [0,1,2,3] (.pointer (some ⟨be,0,none⟩)) q4 hs (hall ([0,1,2,3],4) (by simp)) hQ (fun o w' hop hS=>Zg3 _ _ hop w' (by(repeat(first | rw[Zc _ _ (by(try simp only[Zb]);omega)] | rw[Za _ _ (by decide)])))) hS0 ?_;refine Zj [0,1,2,3,4] (L0) q5 hs (hall ([0,1,2,3,4],5) (by simp)) hQ (fun o w' hop hS=>ZbA _ _ hop w' (by(repeat(first | rw[Zc _ _ (by(try simp only[Zb]);omega)] | rw[Za _ _ (by decide)]))) (LL0 _ hS)) hS0 ?_
 refine Zj [0,1,2,3,4,5] (.pointer (some ⟨be,0,none⟩)) q6 hs (hall ([0,1,2,3,4,5],6) (by simp)) hQ (fun o w' hop hS=>Zs _ _ hop w' (by(repeat rw[Za _ _ (by decide)]);exact e1)) hS0 ?_;refine Zj [0,1,2,3,4,5,6] (.pointer (some ⟨be,0,none⟩)) q7 hs (hall ([0,1,2,3,4,5,6],7) (by simp)) hQ (fun o w' hop hS=>Za5 _ _ hop w' (by(repeat(first | rw[Zc _ _ (by(try simp only[Zb]);omega)] | rw[Za _ _ (by decide)])))) hS0 ?_
 refine Zj [0,1,2,3,4,5,6,7] (.pointer (some ⟨be,2,none⟩)) q8 hs (hall ([0,1,2,3,4,5,6,7],8) (by simp)) hQ (fun o w' hop hS=>ZeM _ _ hop w' (by(repeat(first | rw[Zc _ _ (by(try simp only[Zb]);omega)] | rw[Za _ _ (by decide)])))) hS0 ?_;refine wpAnyH_all r9 (by simp) ?_;intro i hi;obtain rfl:=List.mem_singleton.1 hi;obtain⟨o9,ho,hg,hop,hd⟩:=Zd q9;have x9_0:((((((((((a0.put (some 5) (.pointer (some ⟨bf,0,none⟩))).put (some 6) (.pointer (some ⟨be,0,none⟩))).put (some 7) (.pointer (some ⟨be,0,none⟩))).put (some 8) (.pointer (some ⟨be,0,none⟩))).put (some 9) (.pointer (some ⟨be,0,none⟩))).put (some 10) (L0)).put (some 11) (.pointer (some ⟨be,0,none⟩))).put (some 12) (.pointer (some ⟨be,0,none⟩))).put (some 13) (.pointer (some ⟨be,2,none⟩)))).eval (.tmp 5)=.pointer (some ⟨bf,0,none⟩):=(by(repeat(first | rw[Zc _ _ (by(try simp only[Zb]);omega)] | rw[Za _ _ (by decide)])))
 have x9_1:((((((((((a0.put (some 5) (.pointer (some ⟨bf,0,none⟩))).put (some 6) (.pointer (some ⟨be,0,none⟩))).put (some 7) (.pointer (some ⟨be,0,none⟩))).put (some 8) (.pointer (some ⟨be,0,none⟩))).put (some 9) (.pointer (some ⟨be,0,none⟩))).put (some 10) (L0)).put (some 11) (.pointer (some ⟨be,0,none⟩))).put (some 12) (.pointer (some ⟨be,0,none⟩))).put (some 13) (.pointer (some ⟨be,2,none⟩)))).eval (.tmp 10)=L0:=(by(repeat(first | rw[Zc _ _ (by(try simp only[Zb]);omega)] | rw[Za _ _ (by decide)])))
 have x9_2:((((((((((a0.put (some 5) (.pointer (some ⟨bf,0,none⟩))).put (some 6) (.pointer (some ⟨be,0,none⟩))).put (some 7) (.pointer (some ⟨be,0,none⟩))).put (some 8) (.pointer (some ⟨be,0,none⟩))).put (some 9) (.pointer (some ⟨be,0,none⟩))).put (some 10) (L0)).put (some 11) (.pointer (some ⟨be,0,none⟩))).put (some 12) (.pointer (some ⟨be,0,none⟩))).put (some 13) (.pointer (some ⟨be,2,none⟩)))).eval (.tmp 13)=.pointer (some ⟨be,2,none⟩):=(by(repeat(first | rw[Zc _ _ (by(try simp only[Zb]);omega)] | rw[Za _ _ (by decide)])))
 refine Zw ho (Zv hg) (ZC 319 Tryz.func319 (by kernel_rfl) (by kernel_rfl) #[.tmp 5,.tmp 10,.tmp 13] _ hop #[.pointer (some ⟨bf,0,none⟩),L0,.pointer (some ⟨be,2,none⟩)] (by simp only[List.map_toArray,List.map_cons,List.map_nil,x9_0,x9_1,x9_2])) ?_;refine(C1).mono ?_;rintro e u1 ⟨rfl,hS1,hP⟩;have hS9:=keep _ _ hS0 hS1;refine⟨_,rfl,hS9,?_⟩;rw[hd];clear ho hg hop hd;rw[←Zh];refine Zj [0,1,2,3,4,5,6,7,8,9] (.bool true) q10 hs (hall ([0,1,2,3,4,5,6,7,8,9],10) (by simp)) hQ (fun o w' hop hS=>Zs _ _ hop w' (by(repeat(first | rw[Zc _ _ (by(try simp only[Zb]);omega)] | rw[Za _ _ (by decide)])))) hS9 ?_
 obtain⟨o11,ho,hg,hop,hd⟩:=Zd q11;have hfr:=hall ([0,1,2,3,4,5,6,7,8,9,10],11) (by simp);refine wpAnyH_take (listed:=LR 23 [0,1,2,3,4,5,6,7,8,9,10]) (v:=undef) ho hs hfr.1 hfr.2 (hQ _ _) (Or.inr ⟨((Zz hog10 dog10 hg (by(repeat(first | rw[Zo _ _ (by(try simp only[Zb]);omega)] | rw[Zr _ _ (by decide)])))).trans (by decide)),rfl⟩) hS9 ?_;rw[hd,←Zh];clear ho hg hop hd hfr
 obtain⟨o12,ho,hg,hop,hd⟩:=Zd q12;have hfr:=hall ([0,1,2,3,4,5,6,7,8,9,10,11],12) (by simp);refine wpAnyH_take (listed:=LR 23 [0,1,2,3,4,5,6,7,8,9,10,11]) (v:=undef) ho hs hfr.1 hfr.2 (hQ _ _) (Or.inr ⟨((Zz hog10 dog10 hg (by(repeat(first | rw[Zo _ _ (by(try simp only[Zb]);omega)] | rw[Zr _ _ (by decide)])))).trans (by decide)),rfl⟩) hS9 ?_;rw[hd,←Zh];clear ho hg hop hd hfr
 obtain⟨o13,ho,hg,hop,hd⟩:=Zd q13;have hfr:=hall ([0,1,2,3,4,5,6,7,8,9,10,11,12],13) (by simp);refine wpAnyH_take (listed:=LR 23 [0,1,2,3,4,5,6,7,8,9,10,11,12]) (v:=undef) ho hs hfr.1 hfr.2 (hQ _ _) (Or.inr ⟨((Zz hog10 dog10 hg (by(repeat(first | rw[Zo _ _ (by(try simp only[Zb]);omega)] | rw[Zr _ _ (by decide)])))).trans (by decide)),rfl⟩) hS9 ?_;rw[hd,←Zh];clear ho hg hop hd hfr
 obtain⟨o14,ho,hg,hop,hd⟩:=Zd q14;have hfr:=hall ([0,1,2,3,4,5,6,7,8,9,10,11,12,13],14) (by simp);refine wpAnyH_take (listed:=LR 23 [0,1,2,3,4,5,6,7,8,9,10,11,12,13]) (v:=undef) ho hs hfr.1 hfr.2 (hQ _ _) (Or.inr ⟨((Zz hog10 dog10 hg (by(repeat(first | rw[Zo _ _ (by(try simp only[Zb]);omega)] | rw[Zr _ _ (by decide)])))).trans (by decide)),rfl⟩) hS9 ?_;rw[hd,←Zh]
 clear ho hg hop hd hfr;obtain⟨o15,ho,hg,hop,hd⟩:=Zd q15;have hfr:=hall ([0,1,2,3,4,5,6,7,8,9,10,11,12,13,14],15) (by simp);refine wpAnyH_take (listed:=LR 23 [0,1,2,3,4,5,6,7,8,9,10,11,12,13,14]) (v:=undef) ho hs hfr.1 hfr.2 (hQ _ _) (Or.inr ⟨((Zz hog10 dog10 hg (by(repeat(first | rw[Zo _ _ (by(try simp only[Zb]);omega)] | rw[Zr _ _ (by decide)])))).trans (by decide)),rfl⟩) hS9 ?_
 rw[hd,←Zh];clear ho hg hop hd hfr;obtain⟨o16,ho,hg,hop,hd⟩:=Zd q16;have hfr:=hall ([0,1,2,3,4,5,6,7,8,9,10,11,12,13,14,15],16) (by simp);refine wpAnyH_take (listed:=LR 23 [0,1,2,3,4,5,6,7,8,9,10,11,12,13,14,15]) (v:=undef) ho hs hfr.1 hfr.2 (hQ _ _) (Or.inr ⟨((Zz hog10 dog10 hg (by(repeat(first | rw[Zo _ _ (by(try simp only[Zb]);omega)] | rw[Zr _ _ (by decide)])))).trans (by decide)),rfl⟩) hS9 ?_
 rw[hd,←Zh];clear ho hg hop hd hfr;obtain⟨o17,ho,hg,hop,hd⟩:=Zd q17;have hfr:=hall ([0,1,2,3,4,5,6,7,8,9,10,11,12,13,14,15,16],17) (by simp);refine wpAnyH_take (listed:=LR 23 [0,1,2,3,4,5,6,7,8,9,10,11,12,13,14,15,16]) (v:=undef) ho hs hfr.1 hfr.2 (hQ _ _) (Or.inr ⟨((Zz hog10 dog10 hg (by(repeat(first | rw[Zo _ _ (by(try simp only[Zb]);omega)] | rw[Zr _ _ (by decide)])))).trans (by decide)),rfl⟩) hS9 ?_
 rw[hd,←Zh];clear ho hg hop hd hfr;obtain⟨o18,ho,hg,hop,hd⟩:=Zd q18;have hfr:=hall ([0,1,2,3,4,5,6,7,8,9,10,11,12,13,14,15,16,17],18) (by simp);refine wpAnyH_take (listed:=LR 23 [0,1,2,3,4,5,6,7,8,9,10,11,12,13,14,15,16,17]) (v:=undef) ho hs hfr.1 hfr.2 (hQ _ _) (Or.inr ⟨((Zz hog10 dog10 hg (by(repeat(first | rw[Zo _ _ (by(try simp only[Zb]);omega)] | rw[Zr _ _ (by decide)])))).trans (by decide)),rfl⟩) hS9 ?_
 rw[hd,←Zh];clear ho hg hop hd hfr;obtain⟨o19,ho,hg,hop,hd⟩:=Zd q19;have hfr:=hall ([0,1,2,3,4,5,6,7,8,9,10,11,12,13,14,15,16,17,18],19) (by simp);refine wpAnyH_take (listed:=LR 23 [0,1,2,3,4,5,6,7,8,9,10,11,12,13,14,15,16,17,18]) (v:=undef) ho hs hfr.1 hfr.2 (hQ _ _) (Or.inr ⟨((Zz hog10 dog10 hg (by(repeat(first | rw[Zo _ _ (by(try simp only[Zb]);omega)] | rw[Zr _ _ (by decide)])))).trans (by decide)),rfl⟩) hS9 ?_
 rw[hd,←Zh];clear ho hg hop hd hfr;obtain⟨o20,ho,hg,hop,hd⟩:=Zd q20;have hfr:=hall ([0,1,2,3,4,5,6,7,8,9,10,11,12,13,14,15,16,17,18,19],20) (by simp);refine wpAnyH_take (listed:=LR 23 [0,1,2,3,4,5,6,7,8,9,10,11,12,13,14,15,16,17,18,19]) (v:=undef) ho hs hfr.1 hfr.2 (hQ _ _) (Or.inr ⟨((Zz hog10 dog10 hg (by(repeat(first | rw[Zo _ _ (by(try simp only[Zb]);omega)] | rw[Zr _ _ (by decide)])))).trans (by decide)),rfl⟩) hS9 ?_
 rw[hd,←Zh];clear ho hg hop hd hfr;refine Zj [0,1,2,3,4,5,6,7,8,9,10,11,12,13,14,15,16,17,18,19,20] (.bool true) q21 hs (hall ([0,1,2,3,4,5,6,7,8,9,10,11,12,13,14,15,16,17,18,19,20],21) (by simp)) hQ (fun o w' hop hS=>Zhw _ _ hop w' (by(repeat(first | rw[Zc _ _ (by(try simp only[Zb]);omega)] | rw[Za _ _ (by decide)]))) rfl) hS9 ?_;refine Zj [0,1,2,3,4,5,6,7,8,9,10,11,12,13,14,15,16,17,18,19,20,21] (.bool true) q22 hs (hall ([0,1,2,3,4,5,6,7,8,9,10,11,12,13,14,15,16,17,18,19,20,21],22) (by simp)) hQ (fun o w' hop hS=>Zam _ _ hop w' (by(repeat(first | rw[Zc _ _ (by(try simp only[Zb]);omega)] | rw[Za _ _ (by decide)])))) hS9 ?_
 exact wpAnyH_done rend (F _ hP) _
def ZcG:List (List Nat × Nat):=[([],0),([0],1),([0,1],2),([0,1,2],3),([0,1,2,3],4),([0,1,2,3,4],5),([0,1,2,3,4,5],6),([0,1,2,3,4,5,6],7),([0,1,2,3,4,5,6,7],8),([0,1,2,3,4,5,6,7,8,9],10),([0,1,2,3,4,5,6,7,8,9,10],11),([0,1,2,3,4,5,6,7,8,9,10,11],12),([0,1,2,3,4,5,6,7,8,9,10,11,12],13),([0,1,2,3,4,5,6,7,8,9,10,11,12,13],14),([0,1,2,3,4,5,6,7,8,9,10,11,12,13,14],15),([0,1,2,3,4,5,6,7,8,9,10,11,12,13,14,15],16),([0,1,2,3,4,5,6,7,8,9,10,11,12,13,14,15,16],17),([0,1,2,3,4,5,6,7,8,9,10,11,12,13,14,15,16,17],18),([0,1,2,3,4,5,6,7,8,9,10,11,12,13,14,15,16,17,18],19),([0,1,2,3,4,5,6,7,8,9,10,11,12,13,14,15,16,17,18,19,20],21),([0,1,2,3,4,5,6,7,8,9,10,11,12,13,14,15,16,17,18,19,20,21],22)]
theorem Zp3{ops:Array Oper}{Q:Exit→Act→World→Prop}{S:World→Prop}{a0:Act}{w5:World}{bf be:Nat}{L0 L1:Value}{ty1 ty2:Array TypeId}{P:World→Prop}{b2:Bool}
  (q0:Zf ops 0 none (.move (.tmp 0)) (some 5))
  (q1:Zf ops 1 none (.move (.tmp 1)) (some 6))
  (q2:Zf ops 2 none (.nilCheck (.tmp 6)) (some 7))
  (q3:Zf ops 3 none (.fieldAddr 405 (.tmp 7) 0) (some 8))
  (q4:Zf ops 4 none (.fieldAddr 402 (.tmp 8) 0) (some 9))
  (q5:Zf ops 5 none (.load 393 (.tmp 9)) (some 10))
  (q6:Zf ops 6 none (.move (.tmp 1)) (some 11))
  (q7:Zf ops 7 none (.nilCheck (.tmp 11)) (some 12))
  (q8:Zf ops 8 none (.fieldAddr 405 (.tmp 12) 1) (some 13))
  (q9:Zf ops 9 none (.call {callee:=.value (.func 319),args:=#[.tmp 5,.tmp 10,.tmp 13],argTypes:=ty1}) (some 14))
  (q10:Zf ops 10 none (.move (.tmp 14)) (some 15))
  (q11:Zf ops 11 (some (10,false)) (.move (.tmp 0)) (some 16))
  (q12:Zf ops 12 (some (10,false)) (.move (.tmp 1)) (some 17))
  (q13:Zf ops 13 (some (10,false)) (.nilCheck (.tmp 17)) (some 18))
  (q14:Zf ops 14 (some (10,false)) (.fieldAddr 405 (.tmp 18) 1) (some 19))
  (q15:Zf ops 15 (some (10,false)) (.fieldAddr 402 (.tmp 19) 0) (some 20))
  (q16:Zf ops 16 (some (10,false)) (.load 393 (.tmp 20)) (some 21))
  (q17:Zf ops 17 (some (10,false)) (.move (.tmp 1)) (some 22))
  (q18:Zf ops 18 (some (10,false)) (.nilCheck (.tmp 22)) (some 23))
  (q19:Zf ops 19 (some (10,false)) (.fieldAddr 405 (.tmp 23) 0) (some 24))
  (q20:Zf ops 20 (some (10,false)) (.call {callee:=.value (.func 319),args:=#[.tmp 16,.tmp 21,.tmp 24],argTypes:=ty2}) (some 25))
  (q21:Zf ops 21 none (.pick (.tmp 15) (.const (.bool true)) (.tmp 25)) (some 26))
  (q22:Zf ops 22 none (.assign (.tmp 26)) (some 4))
  (hs:Region.noSelect ops=true) (hq:(ZcG.all fun p=>Region.free .any ops (LR 23 p.1) p.2&&(Region.ready .any ops (LR 23 p.1)).contains p.2)=true)
  (r9:Region.ready .any ops (LR 23 [0,1,2,3,4,5,6,7,8])=[9])
  (r20:Region.ready .any ops (LR 23 [0,1,2,3,4,5,6,7,8,9,10,11,12,13,14,15,16,17,18,19])=[20])
  (rend:Region.ready .any ops (LR 23 [0,1,2,3,4,5,6,7,8,9,10,11,12,13,14,15,16,17,18,19,20,21,22])=[])
  (hQ:∀(d:Option Tmp) (v:Value) c a w,Q (.panic c) (a.put d v) w→Q (.panic c) a w)
  (hsz:26<a0.tmps.size) (e0:a0.eval (.tmp 0)=.pointer (some ⟨bf,0,none⟩)) (e1:a0.eval (.tmp 1)=.pointer (some ⟨be,0,none⟩))
  (hS0:S w5.drew)
  (keep:∀u u',S u→S u'→S u') (LL0:∀u,S u→(loadVar 393 ⟨be,0,none⟩).run Tryz.prog u=.ok L0 u) (LL1:∀u,S u→(loadVar 393 ⟨be,2,none⟩).run Tryz.prog u=.ok L1 u)
  (C1:Calls Tryz.prog 319 #[.pointer (some ⟨bf,0,none⟩),L0,.pointer (some ⟨be,2,none⟩)] w5.drew fun e w'=>e=.returned (.bool false)∧S w'∧Calls Tryz.prog 319 #[.pointer (some ⟨bf,0,none⟩),L1,.pointer (some ⟨be,0,none⟩)] w' fun e w''=>e=.returned (.bool b2)∧S w''∧P w'')
  (F:∀(wc:World),P wc→Q .normal (((((((((((((((((((((((a0.put (some 5) (.pointer (some ⟨bf,0,none⟩))).put (some 6) (.pointer (some ⟨be,0,none⟩))).put (some 7) (.pointer (some ⟨be,0,none⟩))).put (some 8) (.pointer (some ⟨be,0,none⟩))).put (some 9) (.pointer (some ⟨be,0,none⟩))).put (some 10) (L0)).put (some 11) (.pointer (some ⟨be,0,none⟩))).put (some 12) (.pointer (some ⟨be,0,none⟩))).put (some 13) (.pointer (some ⟨be,2,none⟩))).put (some 14) (.bool false)).put (some 15) (.bool false)).put (some 16) (.pointer (some ⟨bf,0,none⟩))).put (some 17) (.pointer (some ⟨be,0,none⟩))).put (some 18) (.pointer (some ⟨be,0,none⟩))).put (some 19) (.pointer (some ⟨be,2,none⟩))).put (some 20) (.pointer (some ⟨be,2,none⟩))).put (some 21) (L1)).put (some 22) (.pointer (some ⟨be,0,none⟩))).put (some 23) (.pointer (some ⟨be,0,none⟩))).put (some 24) (.pointer (some ⟨be,0,none⟩))).put (some 25) (.bool b2)).put (some 26) (.bool b2)).put (some 4) (.bool b2)) wc) :
  wpAnyH Tryz.prog .any ops Q S 23 (LR 23 []) a0 w5.drew:=by
 have hall:∀p∈ZcG,Region.free .any ops (LR 23 p.1) p.2=true∧(Region.ready .any ops (LR 23 p.1)).contains p.2=true:=by
  intro p hp;have:=List.all_eq_true.1 hq p hp;simpa using this
 unfold ZcG at hall;obtain⟨og10,hog10,_,_,dog10⟩:=Zd q10;refine Zj [] (.pointer (some ⟨bf,0,none⟩)) q0 hs (hall ([],0) (by simp)) hQ (fun o w' hop hS=>Zs _ _ hop w' (by(repeat rw[Za _ _ (by decide)]);exact e0)) hS0 ?_;refine Zj [0] (.pointer (some ⟨be,0,none⟩)) q1 hs (hall ([0],1) (by simp)) hQ (fun o w' hop hS=>Zs _ _ hop w' (by(repeat rw[Za _ _ (by decide)]);exact e1)) hS0 ?_
 refine Zj [0,1] (.pointer (some ⟨be,0,none⟩)) q2 hs (hall ([0,1],2) (by simp)) hQ (fun o w' hop hS=>Za5 _ _ hop w' (by(repeat(first | rw[Zc _ _ (by(try simp only[Zb]);omega)] | rw[Za _ _ (by decide)])))) hS0 ?_;refine Zj [0,1,2] (.pointer (some ⟨be,0,none⟩)) q3 hs (hall ([0,1,2],3) (by simp)) hQ (fun o w' hop hS=>ZeL _ _ hop w' (by(repeat(first | rw[Zc _ _ (by(try simp only[Zb]);omega)] | rw[Za _ _ (by decide)])))) hS0 ?_
 refine Zj [0,1,2,3] (.pointer (some ⟨be,0,none⟩)) q4 hs (hall ([0,1,2,3],4) (by simp)) hQ (fun o w' hop hS=>Zg3 _ _ hop w' (by(repeat(first | rw[Zc _ _ (by(try simp only[Zb]);omega)] | rw[Za _ _ (by decide)])))) hS0 ?_;refine Zj [0,1,2,3,4] (L0) q5 hs (hall ([0,1,2,3,4],5) (by simp)) hQ (fun o w' hop hS=>ZbA _ _ hop w' (by(repeat(first | rw[Zc _ _ (by(try simp only[Zb]);omega)] | rw[Za _ _ (by decide)]))) (LL0 _ hS)) hS0 ?_
 refine Zj [0,1,2,3,4,5] (.pointer (some ⟨be,0,none⟩)) q6 hs (hall ([0,1,2,3,4,5],6) (by simp)) hQ (fun o w' hop hS=>Zs _ _ hop w' (by(repeat rw[Za _ _ (by decide)]);exact e1)) hS0 ?_;refine Zj [0,1,2,3,4,5,6] (.pointer (some ⟨be,0,none⟩)) q7 hs (hall ([0,1,2,3,4,5,6],7) (by simp)) hQ (fun o w' hop hS=>Za5 _ _ hop w' (by(repeat(first | rw[Zc _ _ (by(try simp only[Zb]);omega)] | rw[Za _ _ (by decide)])))) hS0 ?_
 refine Zj [0,1,2,3,4,5,6,7] (.pointer (some ⟨be,2,none⟩)) q8 hs (hall ([0,1,2,3,4,5,6,7],8) (by simp)) hQ (fun o w' hop hS=>ZeM _ _ hop w' (by(repeat(first | rw[Zc _ _ (by(try simp only[Zb]);omega)] | rw[Za _ _ (by decide)])))) hS0 ?_;refine wpAnyH_all r9 (by simp) ?_;intro i hi;obtain rfl:=List.mem_singleton.1 hi;obtain⟨o9,ho,hg,hop,hd⟩:=Zd q9;have x9_0:((((((((((a0.put (some 5) (.pointer (some ⟨bf,0,none⟩))).put (some 6) (.pointer (some ⟨be,0,none⟩))).put (some 7) (.pointer (some ⟨be,0,none⟩))).put (some 8) (.pointer (some ⟨be,0,none⟩))).put (some 9) (.pointer (some ⟨be,0,none⟩))).put (some 10) (L0)).put (some 11) (.pointer (some ⟨be,0,none⟩))).put (some 12) (.pointer (some ⟨be,0,none⟩))).put (some 13) (.pointer (some ⟨be,2,none⟩)))).eval (.tmp 5)=.pointer (some ⟨bf,0,none⟩):=(by(repeat(first | rw[Zc _ _ (by(try simp only[Zb]);omega)] | rw[Za _ _ (by decide)])))
 have x9_1:((((((((((a0.put (some 5) (.pointer (some ⟨bf,0,none⟩))).put (some 6) (.pointer (some ⟨be,0,none⟩))).put (some 7) (.pointer (some ⟨be,0,none⟩))).put (some 8) (.pointer (some ⟨be,0,none⟩))).put (some 9) (.pointer (some ⟨be,0,none⟩))).put (some 10) (L0)).put (some 11) (.pointer (some ⟨be,0,none⟩))).put (some 12) (.pointer (some ⟨be,0,none⟩))).put (some 13) (.pointer (some ⟨be,2,none⟩)))).eval (.tmp 10)=L0:=(by(repeat(first | rw[Zc _ _ (by(try simp only[Zb]);omega)] | rw[Za _ _ (by decide)])))
 have x9_2:((((((((((a0.put (some 5) (.pointer (some ⟨bf,0,none⟩))).put (some 6) (.pointer (some ⟨be,0,none⟩))).put (some 7) (.pointer (some ⟨be,0,none⟩))).put (some 8) (.pointer (some ⟨be,0,none⟩))).put (some 9) (.pointer (some ⟨be,0,none⟩))).put (some 10) (L0)).put (some 11) (.pointer (some ⟨be,0,none⟩))).put (some 12) (.pointer (some ⟨be,0,none⟩))).put (some 13) (.pointer (some ⟨be,2,none⟩)))).eval (.tmp 13)=.pointer (some ⟨be,2,none⟩):=(by(repeat(first | rw[Zc _ _ (by(try simp only[Zb]);omega)] | rw[Za _ _ (by decide)])))
 refine Zw ho (Zv hg) (ZC 319 Tryz.func319 (by kernel_rfl) (by kernel_rfl) #[.tmp 5,.tmp 10,.tmp 13] _ hop #[.pointer (some ⟨bf,0,none⟩),L0,.pointer (some ⟨be,2,none⟩)] (by simp only[List.map_toArray,List.map_cons,List.map_nil,x9_0,x9_1,x9_2])) ?_;refine(C1).mono ?_;rintro e u1 ⟨rfl,hS1,C2⟩;have hS9:=keep _ _ hS0 hS1;refine⟨_,rfl,hS9,?_⟩;rw[hd];clear ho hg hop hd;rw[←Zh];refine Zj [0,1,2,3,4,5,6,7,8,9] (.bool false) q10 hs (hall ([0,1,2,3,4,5,6,7,8,9],10) (by simp)) hQ (fun o w' hop hS=>Zs _ _ hop w' (by(repeat(first | rw[Zc _ _ (by(try simp only[Zb]);omega)] | rw[Za _ _ (by decide)])))) hS9 ?_
 obtain⟨o11,ho,hg,hop,hd⟩:=Zd q11;have hfr:=hall ([0,1,2,3,4,5,6,7,8,9,10],11) (by simp);refine wpAnyH_take (listed:=LR 23 [0,1,2,3,4,5,6,7,8,9,10]) (v:=.pointer (some ⟨bf,0,none⟩)) ho hs hfr.1 hfr.2 (hQ _ _) (Or.inl ⟨((Zz hog10 dog10 hg (by(repeat(first | rw[Zo _ _ (by(try simp only[Zb]);omega)] | rw[Zr _ _ (by decide)])))).trans (by decide)),fun w' hS=>Zs _ _ hop w' (by(repeat rw[Za _ _ (by decide)]);exact e0)⟩) hS9 ?_
 rw[hd,←Zh];clear ho hg hop hd hfr;obtain⟨o12,ho,hg,hop,hd⟩:=Zd q12;have hfr:=hall ([0,1,2,3,4,5,6,7,8,9,10,11],12) (by simp);refine wpAnyH_take (listed:=LR 23 [0,1,2,3,4,5,6,7,8,9,10,11]) (v:=.pointer (some ⟨be,0,none⟩)) ho hs hfr.1 hfr.2 (hQ _ _) (Or.inl ⟨((Zz hog10 dog10 hg (by(repeat(first | rw[Zo _ _ (by(try simp only[Zb]);omega)] | rw[Zr _ _ (by decide)])))).trans (by decide)),fun w' hS=>Zs _ _ hop w' (by(repeat rw[Za _ _ (by decide)]);exact e1)⟩) hS9 ?_
 rw[hd,←Zh];clear ho hg hop hd hfr;obtain⟨o13,ho,hg,hop,hd⟩:=Zd q13;have hfr:=hall ([0,1,2,3,4,5,6,7,8,9,10,11,12],13) (by simp);refine wpAnyH_take (listed:=LR 23 [0,1,2,3,4,5,6,7,8,9,10,11,12]) (v:=.pointer (some ⟨be,0,none⟩)) ho hs hfr.1 hfr.2 (hQ _ _) (Or.inl ⟨((Zz hog10 dog10 hg (by(repeat(first | rw[Zo _ _ (by(try simp only[Zb]);omega)] | rw[Zr _ _ (by decide)])))).trans (by decide)),fun w' hS=>Za5 _ _ hop w' (by(repeat(first | rw[Zc _ _ (by(try simp only[Zb]);omega)] | rw[Za _ _ (by decide)])))⟩) hS9 ?_
 rw[hd,←Zh];clear ho hg hop hd hfr;obtain⟨o14,ho,hg,hop,hd⟩:=Zd q14;have hfr:=hall ([0,1,2,3,4,5,6,7,8,9,10,11,12,13],14) (by simp);refine wpAnyH_take (listed:=LR 23 [0,1,2,3,4,5,6,7,8,9,10,11,12,13]) (v:=.pointer (some ⟨be,2,none⟩)) ho hs hfr.1 hfr.2 (hQ _ _) (Or.inl ⟨((Zz hog10 dog10 hg (by(repeat(first | rw[Zo _ _ (by(try simp only[Zb]);omega)] | rw[Zr _ _ (by decide)])))).trans (by decide)),fun w' hS=>ZeM _ _ hop w' (by(repeat(first | rw[Zc _ _ (by(try simp only[Zb]);omega)] | rw[Za _ _ (by decide)])))⟩) hS9 ?_
 rw[hd,←Zh];clear ho hg hop hd hfr;obtain⟨o15,ho,hg,hop,hd⟩:=Zd q15;have hfr:=hall ([0,1,2,3,4,5,6,7,8,9,10,11,12,13,14],15) (by simp);refine wpAnyH_take (listed:=LR 23 [0,1,2,3,4,5,6,7,8,9,10,11,12,13,14]) (v:=.pointer (some ⟨be,2,none⟩)) ho hs hfr.1 hfr.2 (hQ _ _) (Or.inl ⟨((Zz hog10 dog10 hg (by(repeat(first | rw[Zo _ _ (by(try simp only[Zb]);omega)] | rw[Zr _ _ (by decide)])))).trans (by decide)),fun w' hS=>Zl2 _ _ hop w' (by(repeat(first | rw[Zc _ _ (by(try simp only[Zb]);omega)] | rw[Za _ _ (by decide)])))⟩) hS9 ?_
 rw[hd,←Zh];clear ho hg hop hd hfr;obtain⟨o16,ho,hg,hop,hd⟩:=Zd q16;have hfr:=hall ([0,1,2,3,4,5,6,7,8,9,10,11,12,13,14,15],16) (by simp);refine wpAnyH_take (listed:=LR 23 [0,1,2,3,4,5,6,7,8,9,10,11,12,13,14,15]) (v:=L1) ho hs hfr.1 hfr.2 (hQ _ _) (Or.inl ⟨((Zz hog10 dog10 hg (by(repeat(first | rw[Zo _ _ (by(try simp only[Zb]);omega)] | rw[Zr _ _ (by decide)])))).trans (by decide)),fun w' hS=>ZbA _ _ hop w' (by(repeat(first | rw[Zc _ _ (by(try simp only[Zb]);omega)] | rw[Za _ _ (by decide)]))) (LL1 _ hS)⟩) hS9 ?_
 rw[hd,←Zh];clear ho hg hop hd hfr;obtain⟨o17,ho,hg,hop,hd⟩:=Zd q17;have hfr:=hall ([0,1,2,3,4,5,6,7,8,9,10,11,12,13,14,15,16],17) (by simp);refine wpAnyH_take (listed:=LR 23 [0,1,2,3,4,5,6,7,8,9,10,11,12,13,14,15,16]) (v:=.pointer (some ⟨be,0,none⟩)) ho hs hfr.1 hfr.2 (hQ _ _) (Or.inl ⟨((Zz hog10 dog10 hg (by(repeat(first | rw[Zo _ _ (by(try simp only[Zb]);omega)] | rw[Zr _ _ (by decide)])))).trans (by decide)),fun w' hS=>Zs _ _ hop w' (by(repeat rw[Za _ _ (by decide)]);exact e1)⟩) hS9 ?_
 rw[hd,←Zh];clear ho hg hop hd hfr;obtain⟨o18,ho,hg,hop,hd⟩:=Zd q18;have hfr:=hall ([0,1,2,3,4,5,6,7,8,9,10,11,12,13,14,15,16,17],18) (by simp);refine wpAnyH_take (listed:=LR 23 [0,1,2,3,4,5,6,7,8,9,10,11,12,13,14,15,16,17]) (v:=.pointer (some ⟨be,0,none⟩)) ho hs hfr.1 hfr.2 (hQ _ _) (Or.inl ⟨((Zz hog10 dog10 hg (by(repeat(first | rw[Zo _ _ (by(try simp only[Zb]);omega)] | rw[Zr _ _ (by decide)])))).trans (by decide)),fun w' hS=>Za5 _ _ hop w' (by(repeat(first | rw[Zc _ _ (by(try simp only[Zb]);omega)] | rw[Za _ _ (by decide)])))⟩) hS9 ?_
 rw[hd,←Zh];clear ho hg hop hd hfr;obtain⟨o19,ho,hg,hop,hd⟩:=Zd q19;have hfr:=hall ([0,1,2,3,4,5,6,7,8,9,10,11,12,13,14,15,16,17,18],19) (by simp);refine wpAnyH_take (listed:=LR 23 [0,1,2,3,4,5,6,7,8,9,10,11,12,13,14,15,16,17,18]) (v:=.pointer (some ⟨be,0,none⟩)) ho hs hfr.1 hfr.2 (hQ _ _) (Or.inl ⟨((Zz hog10 dog10 hg (by(repeat(first | rw[Zo _ _ (by(try simp only[Zb]);omega)] | rw[Zr _ _ (by decide)])))).trans (by decide)),fun w' hS=>ZeL _ _ hop w' (by(repeat(first | rw[Zc _ _ (by(try simp only[Zb]);omega)] | rw[Za _ _ (by decide)])))⟩) hS9 ?_
 rw[hd,←Zh];clear ho hg hop hd hfr;refine wpAnyH_all r20 (by simp) ?_;intro i hi;obtain rfl:=List.mem_singleton.1 hi;obtain⟨o20,ho,hg,hop,hd⟩:=Zd q20;have x20_0:(((((((((((((((((((((a0.put (some 5) (.pointer (some ⟨bf,0,none⟩))).put (some 6) (.pointer (some ⟨be,0,none⟩))).put (some 7) (.pointer (some ⟨be,0,none⟩))).put (some 8) (.pointer (some ⟨be,0,none⟩))).put (some 9) (.pointer (some ⟨be,0,none⟩))).put (some 10) (L0)).put (some 11) (.pointer (some ⟨be,0,none⟩))).put (some 12) (.pointer (some ⟨be,0,none⟩))).put (some 13) (.pointer (some ⟨be,2,none⟩))).put (some 14) (.bool false)).put (some 15) (.bool false)).put (some 16) (.pointer (some ⟨bf,0,none⟩))).put (some 17) (.pointer (some ⟨be,0,none⟩))).put (some 18) (.pointer (some ⟨be,0,none⟩))).put (some 19) (.pointer (some ⟨be,2,none⟩))).put (some 20) (.pointer (some ⟨be,2,none⟩))).put (some 21) (L1)).put (some 22) (.pointer (some ⟨be,0,none⟩))).put (some 23) (.pointer (some ⟨be,0,none⟩))).put (some 24) (.pointer (some ⟨be,0,none⟩)))).eval (.tmp 16)=.pointer (some ⟨bf,0,none⟩):=(by(repeat(first | rw[Zc _ _ (by(try simp only[Zb]);omega)] | rw[Za _ _ (by decide)])))
 have x20_1:(((((((((((((((((((((a0.put (some 5) (.pointer (some ⟨bf,0,none⟩))).put (some 6) (.pointer (some ⟨be,0,none⟩))).put (some 7) (.pointer (some ⟨be,0,none⟩))).put (some 8) (.pointer (some ⟨be,0,none⟩))).put (some 9) (.pointer (some ⟨be,0,none⟩))).put (some 10) (L0)).put (some 11) (.pointer (some ⟨be,0,none⟩))).put (some 12) (.pointer (some ⟨be,0,none⟩))).put (some 13) (.pointer (some ⟨be,2,none⟩))).put (some 14) (.bool false)).put (some 15) (.bool false)).put (some 16) (.pointer (some ⟨bf,0,none⟩))).put (some 17) (.pointer (some ⟨be,0,none⟩))).put (some 18) (.pointer (some ⟨be,0,none⟩))).put (some 19) (.pointer (some ⟨be,2,none⟩))).put (some 20) (.pointer (some ⟨be,2,none⟩))).put (some 21) (L1)).put (some 22) (.pointer (some ⟨be,0,none⟩))).put (some 23) (.pointer (some ⟨be,0,none⟩))).put (some 24) (.pointer (some ⟨be,0,none⟩)))).eval (.tmp 21)=L1:=(by(repeat(first | rw[Zc _ _ (by(try simp only[Zb]);omega)] | rw[Za _ _ (by decide)])))
 have x20_2:(((((((((((((((((((((a0.put (some 5) (.pointer (some ⟨bf,0,none⟩))).put (some 6) (.pointer (some ⟨be,0,none⟩))).put (some 7) (.pointer (some ⟨be,0,none⟩))).put (some 8) (.pointer (some ⟨be,0,none⟩))).put (some 9) (.pointer (some ⟨be,0,none⟩))).put (some 10) (L0)).put (some 11) (.pointer (some ⟨be,0,none⟩))).put (some 12) (.pointer (some ⟨be,0,none⟩))).put (some 13) (.pointer (some ⟨be,2,none⟩))).put (some 14) (.bool false)).put (some 15) (.bool false)).put (some 16) (.pointer (some ⟨bf,0,none⟩))).put (some 17) (.pointer (some ⟨be,0,none⟩))).put (some 18) (.pointer (some ⟨be,0,none⟩))).put (some 19) (.pointer (some ⟨be,2,none⟩))).put (some 20) (.pointer (some ⟨be,2,none⟩))).put (some 21) (L1)).put (some 22) (.pointer (some ⟨be,0,none⟩))).put (some 23) (.pointer (some ⟨be,0,none⟩))).put (some 24) (.pointer (some ⟨be,0,none⟩)))).eval (.tmp 24)=.pointer (some ⟨be,0,none⟩):=(by(repeat(first | rw[Zc _ _ (by(try simp only[Zb]);omega)] | rw[Za _ _ (by decide)])))
 refine Zw ho ((Zz hog10 dog10 hg (by(repeat(first | rw[Zo _ _ (by(try simp only[Zb]);omega)] | rw[Zr _ _ (by decide)])))).trans (by decide)) (ZC 319 Tryz.func319 (by kernel_rfl) (by kernel_rfl) #[.tmp 16,.tmp 21,.tmp 24] _ hop #[.pointer (some ⟨bf,0,none⟩),L1,.pointer (some ⟨be,0,none⟩)] (by simp only[List.map_toArray,List.map_cons,List.map_nil,x20_0,x20_1,x20_2])) ?_
 refine(C2).mono ?_;rintro e u2 ⟨rfl,hS2,hP⟩;have hS20:=keep _ _ hS9 hS2;refine⟨_,rfl,hS20,?_⟩;rw[hd];clear ho hg hop hd;rw[←Zh];refine Zj [0,1,2,3,4,5,6,7,8,9,10,11,12,13,14,15,16,17,18,19,20] (.bool b2) q21 hs (hall ([0,1,2,3,4,5,6,7,8,9,10,11,12,13,14,15,16,17,18,19,20],21) (by simp)) hQ (fun o w' hop hS=>Zcx _ _ hop w' (by(repeat(first | rw[Zc _ _ (by(try simp only[Zb]);omega)] | rw[Za _ _ (by decide)]))) (by(repeat(first | rw[Zc _ _ (by(try simp only[Zb]);omega)] | rw[Za _ _ (by decide)])))) hS20 ?_
 refine Zj [0,1,2,3,4,5,6,7,8,9,10,11,12,13,14,15,16,17,18,19,20,21] (.bool b2) q22 hs (hall ([0,1,2,3,4,5,6,7,8,9,10,11,12,13,14,15,16,17,18,19,20,21],22) (by simp)) hQ (fun o w' hop hS=>Zam _ _ hop w' (by(repeat(first | rw[Zc _ _ (by(try simp only[Zb]);omega)] | rw[Za _ _ (by decide)])))) hS20 ?_;exact wpAnyH_done rend (F _ hP) _
end
section
open Go.RowKit Go.Maps
attribute [local go_sem ↓] Go.wp_at_zero Go.wp_at_succ
theorem Zfm{u:World}{a:Addr}{v:Value}(h:u.cell? a=some v):(loadVar 393 a).run Tryz.prog u=.ok v u:=by go_simp
theorem GvP.undrew{B bf bm:Nat}{vs:List Vb}{fs:List ByteArray}{sv:Value}{r:Er}{o:Option ByteArray}{w w':World}(h:GvP B bf bm vs fs sv r o w.drew w'):GvP B bf bm vs fs sv r o w w':=by
 obtain⟨r',sv',h1,h2,h3,h4,h5,h6,h7⟩:=h;exact⟨r',sv',h1,h2,h3,h4,h5,⟨h6.os,h6.tape,h6.output,h6.size,h6.block⟩,h7⟩
theorem GvP.then{B bf bm:Nat}{vs:List Vb}{fs:List ByteArray}{sv sv1:Value}{r r1:Er}{o:Option ByteArray}{w u w':World}(hbe:r1.be=r.be)(hq:r1.q=r.q∧r1.l0=r.l0∧r1.l1=r.l1)(ha:∀g off,(r1.a0=some ⟨g,off,none⟩→∃off0,r.a0=some ⟨g,off0,none⟩)∧(r1.a1=some ⟨g,off,none⟩→∃off0,r.a1=some ⟨g,off0,none⟩))(ht:Tz (fun k=>FP bf bm vs sv k∨k=r.be) w u)(hn:∀g,sv1.ownBlock=some g→sv.ownBlock=some g∨w.heap.size≤g)
  (h:GvP B bf bm vs fs sv1 r1 o u w'):GvP B bf bm vs fs sv r o w w':=by
 obtain⟨r',sv',h1,h2,h3,h4,h5,h6,h7⟩:=h;refine⟨r',sv',h1.trans hbe,⟨h2.1.trans hq.1,h2.2.1.trans hq.2.1,h2.2.2.trans hq.2.2⟩,fun g off=>⟨fun e=>?_,fun e=>?_⟩,h4,h5,ht.trans h6 ?_,fun g hg=>?_⟩
 ·obtain⟨o1,e1⟩:=(h3 g off).1 e;exact(ha g o1).1 e1
 ·obtain⟨o1,e1⟩:=(h3 g off).2 e;exact(ha g o1).2 e1
 ·rintro b hb (e | e)
  ·rcases e with e | e | e | e
   ·exact .inl (.inl e)
   ·exact .inl (.inr (.inl e))
   ·rcases hn b e with k | k
    ·exact .inl (.inr (.inr (.inl k)))
    ·omega
   ·exact .inl (.inr (.inr (.inr e)))
  ·exact .inr (e.trans hbe)
 ·rcases h7 g hg with k | k
  ·exact hn g k
  ·exact .inr (Nat.le_trans ht.size k)
theorem Zl1{B bf bm:Nat}{vs:List Vb}{fs:List ByteArray}{sv:Value}{w:World}(h:Fd B bf bm vs fs sv w)(hB:B≤w.heap.size)(r:Er)(hr:EqIs bf bm vs fs sv w r)(hl:fs.length≤1000000000) :
  Calls Tryz.prog 294 #[.pointer (some ⟨bf,0,none⟩),.pointer (some ⟨r.be,0,none⟩)] w fun e w'=>e=.returned (.bool (Zaf fs r.q).isSome)∧GvP B bf bm vs fs sv r (Zaf fs r.q) w w':=by
 have hbe:=World.rowIs.lt hr.row;have hD:Below w.heap.size w w.drew:=(Below.refl _ _).drew;have HFD:=Lib.hid (h.below hD);have HRD:Hid (EqIs bf bm vs fs sv w.drew r):=hr.keep (Tz.of_below (ex:=fun _=>False) hD) (fun _ _ _ e=>e) (fun n hn=>hn) (fun x hx=>hx) (fun k _ hk=>hk);have HS0:Hid (w.drew.cell? ⟨r.be,0,none⟩=some (Z6 r.l0)∧w.drew.cell? ⟨r.be,2,none⟩=some (Z6 r.l1)):=⟨HRD.out.row.at (j:=0) rfl,HRD.out.row.at (j:=2) rfl⟩
 have HG0:=Lib.hid (ZlV HFD.out hB r HRD.out hl (Nat.lt_of_lt_of_le hbe hD.size));clear h hr
 cases ho1:ZP r.q.1.lone r.q.2.vars fs with
 | some v=>
  have HGV:Hid (Zaf fs r.q=some v):=by show _=_;unfold Zaf;rw[ho1]
  rw[ho1]at HG0;rw[HGV.out]
  have HC1:Hid (Calls Tryz.prog 319 #[.pointer (some ⟨bf,0,none⟩),Z6 r.l0,.pointer (some ⟨r.be,2,none⟩)] w.drew fun e w'=>e=.returned (.bool true)∧(w'.cell? ⟨r.be,0,none⟩=some (Z6 r.l0)∧w'.cell? ⟨r.be,2,none⟩=some (Z6 r.l1))∧GvP B bf bm vs fs sv r (some v) w w'):=by
   refine HG0.out.mono ?_;rintro e w' ⟨rfl,hg⟩;refine⟨rfl,?_,hg.undrew⟩;obtain⟨r',sv',h1,h2,_,_,h5,_⟩:=hg;have a0:=h5.row.at (j:=0) rfl;have a2:=h5.row.at (j:=2) rfl;rw[h1,h2.2.1]at a0;rw[h1,h2.2.2]at a2;exact⟨a0,a2⟩
  clear ho1;go_enter Tryz.func294,Tryz.ntmps294;go_upto_region 1 with fail
  refine wp_region_noPanic ?_;refine wp_region_held (S:=fun u=>u.cell? ⟨r.be,0,none⟩=some (Z6 r.l0)∧u.cell? ⟨r.be,2,none⟩=some (Z6 r.l1)) (by kernel_rfl) ?_;refine Zp2 (w5:=w) (S:=fun u=>u.cell? ⟨r.be,0,none⟩=some (Z6 r.l0)∧u.cell? ⟨r.be,2,none⟩=some (Z6 r.l1)) (bf:=bf) (be:=r.be) (L0:=Z6 r.l0) (L1:=Z6 r.l1) (P:=fun wc=>GvP B bf bm vs fs sv r (some v) w wc) rfl rfl rfl rfl rfl rfl rfl rfl rfl rfl rfl rfl rfl rfl rfl rfl rfl rfl rfl rfl rfl rfl rfl (by kernel_rfl) (by kernel_rfl) (by kernel_rfl) (by kernel_rfl) (fun _ _ _ _ _ h=>h) (by simp) rfl rfl HS0.out (fun _ _ _ h=>h) (fun u hu=>Zfm hu.1) (fun u hu=>Zfm hu.2) HC1.out ?_
  intro wc hP;refine NoPanic.normal ?_
  rename_i hK
  refine hK _ _ ?_;simp (config:={maxSteps:=8000000}) only[Act.put,List.getElem_toArray,List.getElem_cons_zero,List.getElem_cons_succ,List.setIfInBounds_toArray,List.set_cons_succ,List.set_cons_zero];have HP:=Lib.hid hP;clear hP;go_wp2;go_ret;exact⟨rfl,HP.out⟩
 | none=>
  have HGV:Hid (Zaf fs r.q=ZP r.q.2.lone r.q.1.vars fs):=by show _=_;unfold Zaf;rw[ho1]
  rw[ho1]at HG0;rw[HGV.out]
  have HC1:Hid (Calls Tryz.prog 319 #[.pointer (some ⟨bf,0,none⟩),Z6 r.l0,.pointer (some ⟨r.be,2,none⟩)] w.drew fun e w'=>e=.returned (.bool false)∧(w'.cell? ⟨r.be,0,none⟩=some (Z6 r.l0)∧w'.cell? ⟨r.be,2,none⟩=some (Z6 r.l1))∧Calls Tryz.prog 319 #[.pointer (some ⟨bf,0,none⟩),Z6 r.l1,.pointer (some ⟨r.be,0,none⟩)] w' fun e w''=>e=.returned (.bool (ZP r.q.2.lone r.q.1.vars fs).isSome)∧(w''.cell? ⟨r.be,0,none⟩=some (Z6 r.l0)∧w''.cell? ⟨r.be,2,none⟩=some (Z6 r.l1))∧GvP B bf bm vs fs sv r (ZP r.q.2.lone r.q.1.vars fs) w w''):=by
   refine HG0.out.mono ?_;rintro e u ⟨rfl,hg⟩;obtain⟨r1,sv1,h1,h2,h3,h4,h5,h6,h7⟩:=hg.undrew;simp only[Option.toList_none,List.append_nil]at h4 h5;refine⟨rfl,?_,?_⟩
   ·have a0:=h5.row.at (j:=0) rfl;have a2:=h5.row.at (j:=2) rfl;rw[h1,h2.2.1]at a0;rw[h1,h2.2.2]at a2;exact⟨a0,a2⟩
   ·have hg1:=ZlW h4 (Nat.le_trans hB h6.size) r1 h5 hl (World.rowIs.lt h5.row);rw[h1,h2.1,h2.2.2]at hg1;refine hg1.mono ?_;rintro e w'' ⟨rfl,hg2⟩;refine⟨rfl,?_,GvP.then h1 h2 h3 h6 h7 hg2⟩;obtain⟨r',sv',k1,k2,_,_,k5,_⟩:=hg2;have a0:=k5.row.at (j:=0) rfl;have a2:=k5.row.at (j:=2) rfl;rw[k1,h1,k2.2.1,h2.2.1]at a0;rw[k1,h1,k2.2.2,h2.2.2]at a2;exact⟨a0,a2⟩
  generalize ZP r.q.2.lone r.q.1.vars fs=o2 at HC1;clear ho1 HGV HG0;go_enter Tryz.func294,Tryz.ntmps294;go_upto_region 1 with fail
  refine wp_region_noPanic ?_;refine wp_region_held (S:=fun u=>u.cell? ⟨r.be,0,none⟩=some (Z6 r.l0)∧u.cell? ⟨r.be,2,none⟩=some (Z6 r.l1)) (by kernel_rfl) ?_;refine Zp3 (w5:=w) (S:=fun u=>u.cell? ⟨r.be,0,none⟩=some (Z6 r.l0)∧u.cell? ⟨r.be,2,none⟩=some (Z6 r.l1)) (bf:=bf) (be:=r.be) (L0:=Z6 r.l0) (L1:=Z6 r.l1) (P:=fun wc=>GvP B bf bm vs fs sv r o2 w wc) (b2:=o2.isSome) rfl rfl rfl rfl rfl rfl rfl rfl rfl rfl rfl rfl rfl rfl rfl rfl rfl rfl rfl rfl rfl rfl rfl (by kernel_rfl) (by kernel_rfl) (by kernel_rfl) (by kernel_rfl) (by kernel_rfl) (fun _ _ _ _ _ h=>h) (by simp) rfl rfl HS0.out (fun _ _ _ h=>h) (fun u hu=>Zfm hu.1) (fun u hu=>Zfm hu.2) HC1.out ?_
  intro wc hP;refine NoPanic.normal ?_
  rename_i hK
  refine hK _ _ ?_;simp (config:={maxSteps:=8000000}) only[Act.put,List.getElem_toArray,List.getElem_cons_zero,List.getElem_cons_succ,List.setIfInBounds_toArray,List.set_cons_succ,List.set_cons_zero];have HP:=Lib.hid hP;clear hP;go_wp2;go_ret;exact⟨rfl,HP.out⟩
theorem ZeC{P:Program}{ops:Array Oper}{o:Oper}{a:Act}{w:World}{K:Act→World→Prop}{Q:Exit→Act→World→Prop}{E:Prop}
  (hg:o.guard=none) (f:FuncId) {fn:Func} (hf:P.funcs[f]?=some fn) (hn:(fn.name=="runtime.NumGoroutine")=false) (hb:fn.body.isNone=false) (xs:Array Operand) (tys:Array TypeId) (hop:o.op=Op.call {callee:=Callee.value (Operand.func f),args:=xs,argTypes:=tys}) (vs:Array Value) (hx:xs.map a.eval=vs)
  {post:Ending→World→Prop} (hc:Calls P f vs w post) (hK:∀e w',post e w'→∃v,e=.returned v∧K (a.put o.dst v) w') :
  if Region.wanted o (yielded ops a.tmps)=true then Oper.wp P o a w K Q else E:=by
 have hw:Region.wanted o (yielded ops a.tmps)=true:=by simp[Region.wanted,hg]
 rw[if_pos hw]
 have he:(execOp a.eval o).run P w=.ok (.enter f vs) w:=by
  have hn':¬ fn.name="runtime.NumGoroutine":=by simpa using hn
  have hb':¬ fn.body=none:=by cases h:fn.body<;>simp[h]at hb⊢
  simp[execOp,hop,resolve,invoke,←hx,Act.eval,Result.andThen,Deferred.ofValue,callFunc,(show Sem.run P program w=.ok P w from rfl),hf,hn',hb',go_sem]
 unfold Oper.wp;rw[he,Oper.upon_enter];refine hc.mono fun e w' h=>?_
 obtain⟨v,rfl,hk⟩:=hK e w' h;exact hk
def Zkf(x:Vb):List Value:=[ZcE x]
theorem ZfG(d:Nat)(e:E)(a:Option Addr)(c:Nat)(w:World)(hE:EIs w d e a c)(hs:szD d e≤1048576):Calls Tryz.prog 275 #[e.val a c] w fun r w'=>∃sv,r=.returned sv∧w'.ownsRow (w.heap.size+1) 9 1 sv (vsT [] (Zg d e)).length ((vsT [] (Zg d e)).flatMap Zm)∧Below w.heap.size w w':=by
 have b0:=(Below.refl w.heap.size w).alloc (Nat.le_refl _) (.cells #[.int .i8 e.op,.string e.t.v,.int .i8 e.t.a.k,.int .i64 e.t.a.n,.string e.t.a.s,.slice a e.kids.length c] 103);have HV:Hid _:=Zck w.heap.size d e a c (w.alloc (.cells #[.int .i8 e.op,.string e.t.v,.int .i8 e.t.a.k,.int .i64 e.t.a.n,.string e.t.a.s,.slice a e.kids.length c] 103)) (by simp) (by refine⟨?_,?_,?_,?_,?_,?_⟩<;>go_simp) (hE.below b0) hs
 clear hE;unfold E.val;go_enter Tryz.func275,Tryz.ntmps275;go_wp2_with fail;refine Calls.mono HV.out ?_;rintro ee w1 ⟨sv,rfl,ho,b1⟩;go_wp2;go_ret;exact⟨_,rfl,by simpa using ho,b0.trans (b1.mono b0.size)⟩
theorem ZoM:(Tryz.prog.info? 393).map (fun i=>(i.zero,i.size,i.bytes))=some (some (.pointer none),1,8):=by kernel_rfl
structure SiS (B bf bm:Nat) (vs:List Vb) (fs:List ByteArray) (sv:Value) (w:World) (ec:List Value) (Z:World) (vs' xs:List Vb) (a:Option Addr) (c:Nat) (u:World):Prop where
 fd:Fd B bf bm vs' fs sv u
 r3:RL u w.heap.size 103 ec
 r4:RL u (w.heap.size+1) 402 [.pointer none,.slice none 0 0]
 r5:RL u (w.heap.size+2) 402 [.pointer none,.slice a xs.length c]
 own:u.ownsRow Z.heap.size 393 1 (.slice a xs.length c) xs.length (xs.flatMap Zkf)
 tz:Tz (fun k=>k=bm) w u
 ext:∃m,vs'=vs++m∧∀y∈m,Z.heap.size≤y.b
 mem:∀x∈xs,x∈vs'
 nm:∀b,w.heap.size+3≤b→b<Z.heap.size→u.heap[b]?=Z.heap[b]?
 ap:∀g,(Value.slice a xs.length c).ownBlock=some g→∀x∈vs',g≠x.b
 zs:w.heap.size+3≤Z.heap.size∧Z.heap.size≤u.heap.size
 bl:bf<w.heap.size∧bm<w.heap.size∧∀g,sv.ownBlock=some g→g<w.heap.size
theorem SiS.keep{B bf bm:Nat}{vs:List Vb}{fs:List ByteArray}{sv:Value}{w:World}{ec:List Value}{Z:World}{vs' vs'' xs:List Vb}{a:Option Addr}{c:Nat}{u u2:World}(h:SiS B bf bm vs fs sv w ec Z vs' xs a c u)
  (hf:Fd B bf bm vs'' fs sv u2) (hm:∃m,vs''=vs'++m∧∀y∈m,u.heap.size≤y.b) (ht:Tz (fun k=>k=bm) u u2):SiS B bf bm vs fs sv w ec Z vs'' xs a c u2:=by
 obtain⟨m,rfl,hm⟩:=hm;obtain⟨m0,hv,hm0⟩:=h.ext;have hbm:=h.bl.2.1;have hz:=h.zs;have hk:∀k,w.heap.size≤k→k<u.heap.size→u2.heap[k]?=u.heap[k]?:=fun k h1 h2=>ht.block k h2 (by omega)
 refine⟨hf,World.rowIs.of_block h.r3 (hk _ (by omega) (World.rowIs.lt h.r3)),World.rowIs.of_block h.r4 (hk _ (by omega) (World.rowIs.lt h.r4)),World.rowIs.of_block h.r5 (hk _ (by omega) (World.rowIs.lt h.r5)),Zx h.own (fun g hg=>hk g (by have:=(h.own.lt g hg).1;omega) (h.own.lt g hg).2),h.tz.trans ht (fun _ _ e=>e),⟨m0++m,by rw[hv,List.append_assoc],fun y hy=>?_⟩,fun x hx=>List.mem_append.2 (.inl (h.mem x hx)),fun b h1 h2=>(hk b (by omega) (by omega)).trans (h.nm b h1 h2),fun g hg x hx=>?_,⟨hz.1,Nat.le_trans hz.2 ht.size⟩,h.bl⟩
 ·rcases List.mem_append.1 hy with hy | hy
  ·exact hm0 y hy
  ·exact Nat.le_trans hz.2 (hm y hy)
 ·rcases List.mem_append.1 hx with hx | hx
  ·exact h.ap g hg x hx
  ·have:=hm x hx;have:=(h.own.lt g hg).2;omega
theorem SiS.below{B bf bm:Nat}{vs:List Vb}{fs:List ByteArray}{sv:Value}{w:World}{ec:List Value}{Z:World}{vs' xs:List Vb}{a:Option Addr}{c:Nat}{u u2:World}(h:SiS B bf bm vs fs sv w ec Z vs' xs a c u)
  (hb:Below u.heap.size u u2):SiS B bf bm vs fs sv w ec Z vs' xs a c u2:=h.keep (h.fd.below hb) ⟨[],by simp,fun y hy=>by cases hy⟩ (Tz.of_below hb)
theorem SiS.step{B bf bm:Nat}{vs:List Vb}{fs:List ByteArray}{sv:Value}{w:World}{ec:List Value}{Z:World}{vs' xs:List Vb}{a:Option Addr}{c:Nat}{Y w3:World}{sv':Value}{x:Vb}(h:SiS B bf bm vs fs sv w ec Z vs' xs a c Y)(hx:x∈vs')
  (hown':w3.ownsRow Z.heap.size 393 1 sv' (xs.length+1) (xs.flatMap Zkf++[ZcE x])) (hgrow:Y.grownBy w3 (Value.slice a xs.length c).ownBlock) (hloc:sv'.ownBlock=(Value.slice a xs.length c).ownBlock∨sv'.ownBlock=some Y.heap.size) :
  ∃a5 c5,sv'=.slice a5 (xs.length+1) c5∧RL w3 (w.heap.size+2) 402 [.pointer none,.slice a xs.length c]∧SiS B bf bm vs fs sv w ec Z vs' (xs++[x]) a5 c5 (w3.setCell ⟨w.heap.size+2,1,none⟩ (.slice a5 (xs.length+1) c5)):=by
 obtain⟨a5,c5,rfl,_⟩:=ZB hown';have hz:=h.zs;have hbl:=h.bl;have k3:∀k,k<Y.heap.size→some k≠(Value.slice a xs.length c).ownBlock→w3.heap[k]?=Y.heap[k]?:=fun k hk hn=>hgrow.block k hk hn
 have hlow:∀k,k<Z.heap.size→w3.heap[k]?=Y.heap[k]?:=fun k hk=>k3 k (by omega) (fun e=>by have:=(h.own.lt k e.symm).1;omega)
 have h5:RL w3 (w.heap.size+2) 402 [.pointer none,.slice a xs.length c]:=World.rowIs.of_block h.r5 (hlow _ (by omega));have kf:∀k,k≠w.heap.size+2→(w3.setCell ⟨w.heap.size+2,1,none⟩ (.slice a5 (xs.length+1) c5)).heap[k]?=w3.heap[k]?:=fun k hk=>heap_setCell_other _ _ _ _ (by show k≠w.heap.size+2;exact hk)
 have hel:(xs++[x]).length=xs.length+1:=by simp
 obtain⟨m0,hv,hm0⟩:=h.ext;have hvb:∀y∈vs',y.b<w.heap.size∨Z.heap.size≤y.b∨True:=fun _ _=>.inr (.inr trivial)
 have hfp:∀k,FP bf bm vs' sv k→k≠w.heap.size+2∧some k≠(Value.slice a xs.length c).ownBlock:=by
  rintro k (rfl | rfl | e | ⟨y,hy,rfl⟩)
  ·exact⟨by omega,fun e=>by have:=(h.own.lt _ e.symm).1;omega⟩
  ·exact⟨by omega,fun e=>by have:=(h.own.lt _ e.symm).1;omega⟩
  ·have:=hbl.2.2 k e;exact⟨by omega,fun e=>by have:=(h.own.lt _ e.symm).1;omega⟩
  ·refine⟨fun e=>?_,fun e=>h.ap _ e.symm y hy rfl⟩;have c1:=h.r5;rw[←e]at c1;have q1:Y.cell? ⟨y.b,0,none⟩=some (.pointer none):=c1.at (j:=0) rfl;have q2:Y.cell? ⟨y.b,0,none⟩=some (.string y.v):=(h.fd.each y hy).at (j:=0) rfl;rw[q1]at q2
   cases q2
 have hnew:∀g,(Value.slice a5 (xs.length+1) c5).ownBlock=some g→(Value.slice a xs.length c).ownBlock=some g∨g=Y.heap.size:=fun g hg=>by
  rcases hloc with e | e
  ·exact .inl (by rw[←e];exact hg)
  ·rw[e]at hg;exact .inr (Option.some.inj hg).symm
 refine⟨a5,c5,rfl,h5,⟨h.fd.keep (fun k hk=>?_),?_,?_,?_,?_,?_,⟨m0,hv,hm0⟩,?_,?_,?_,⟨hz.1,?_⟩,hbl⟩⟩
 ·rw[kf k (hfp k hk).1];exact k3 k (h.fd.lt k hk) (hfp k hk).2
 ·exact World.rowIs.of_block h.r3 (by rw[kf _ (by omega)];exact hlow _ (by omega))
 ·exact World.rowIs.of_block h.r4 (by rw[kf _ (by omega)];exact hlow _ (by omega))
 ·rw[hel];exact h5.set 1 _
 ·have e2:(xs++[x]).flatMap Zkf=xs.flatMap Zkf++[ZcE x]:=by rw[List.flatMap_append];rfl
  rw[hel,e2];exact Zx hown' (fun g hg=>kf g (by have:=(hown'.lt g hg).1;omega))
 ·have ht:=h.tz;refine⟨hgrow.os.trans ht.os,hgrow.tape.trans ht.tape,hgrow.output.trans ht.output,by simp only[World.size_setCell];have:=hgrow.size;have:=ht.size;omega,fun b hb he=>?_⟩;rw[kf b (by omega),hlow b (by omega)];exact ht.block b hb he
 ·intro y hy;rcases List.mem_append.1 hy with hy | hy
  ·exact h.mem y hy
  ·rw[List.mem_singleton.1 hy];exact hx
 ·intro b h1 h2;rw[kf b (by omega),hlow b (by omega)];exact h.nm b h1 h2
 ·intro g hg y hy;rw[hel]at hg;rcases hnew g hg with e | e
  ·exact h.ap g e y hy
  ·have:=h.fd.lt y.b (.inr (.inr (.inr ⟨y,hy,rfl⟩)));omega
 ·simp only[World.size_setCell];have:=hgrow.size;omega
theorem Znr{w:World}{base:Nat}{a:Option Addr}{c:Nat}{xs:List Vb}(h:w.ownsRow base 393 1 (.slice a xs.length c) xs.length (xs.flatMap Zkf)):Lq w a c xs:=by
 obtain⟨a',c',e,h1,h2,h3⟩:=Zem (f:=Zkf) (k:=1) (fun _=>rfl) Vb0 (ZY h)
 cases e
 refine⟨h1,h2,fun h0=>?_⟩;obtain⟨g,off,ha,hg,hc⟩:=h3 h0;refine⟨g,off,ha,hg,fun i hi=>?_⟩;have:=hc i hi 0 _ rfl;rw[Nat.mul_one,Nat.add_zero]at this;exact this
theorem Zg1{u:World}{a:Addr}{k:Int}(h:u.cell? a=some (.int .i8 k)):(loadVar 90 a).run Tryz.prog u=.ok (.int .i8 k) u:=by go_simp
theorem Zl0{u:World}{a:Addr}{k:Int}(h:u.cell? a=some (.int .i8 k)):(loadVar 94 a).run Tryz.prog u=.ok (.int .i8 k) u:=by go_simp
theorem Zg2{u:World}{g o:Nat}{cs:List Value}(h:u.rangeAt g o cs)(hl:cs.length=6):(loadVar 103 ⟨g,o,none⟩).run Tryz.prog u=.ok (.agg cs.toArray) u:=
 run_loadVar_mid u g o _ cs _ h Tryz.underlying103 rfl (by rw[hl];kernel_rfl)
attribute [-go_sem] loadVar storeVar
theorem Znq{d:Nat}{l:List XL}{k:Nat}(h:k<l.length):eqL d (l.take (k+1))=eqL d (l.take k)++eqX d (atL l k):=by
 unfold eqL;rw[Zh2 h,List.flatMap_append];simp
theorem ZdL{u:World}{b:Nat}{y:XL}(h:RL u b 105 y.cells) :
  (loadVar 90 ⟨b,0,none⟩).run Tryz.prog u=.ok (.int .i8 y.x.k) u∧(loadVar 94 ⟨b,3,none⟩).run Tryz.prog u=.ok (.int .i8 y.x.rel) u ∧
  (loadVar 103 ⟨b,4,none⟩).run Tryz.prog u=.ok (y.x.l.val y.p.la y.p.lc) u∧(loadVar 103 ⟨b,10,none⟩).run Tryz.prog u=.ok (y.x.r.val y.p.ra y.p.rc) u:=by
 refine⟨Zg1 (RL.at h (j:=0) rfl),Zl0 (RL.at h (j:=3) rfl),?_,?_⟩
 ·refine Zg2 (cs:=[.int .i8 y.x.l.op,.string y.x.l.t.v,.int .i8 y.x.l.t.a.k,.int .i64 y.x.l.t.a.n,.string y.x.l.t.a.s,.slice y.p.la y.x.l.kids.length y.p.lc]) (fun j v hj=>?_) rfl
  match j,hj with
  | 0,hj=>simp at hj;subst hj;exact RL.at h (j:=4) rfl
  | 1,hj=>simp at hj;subst hj;exact RL.at h (j:=5) rfl
  | 2,hj=>simp at hj;subst hj;exact RL.at h (j:=6) rfl
  | 3,hj=>simp at hj;subst hj;exact RL.at h (j:=7) rfl
  | 4,hj=>simp at hj;subst hj;exact RL.at h (j:=8) rfl
  | 5,hj=>simp at hj;subst hj;exact RL.at h (j:=9) rfl
 ·refine Zg2 (cs:=[.int .i8 y.x.r.op,.string y.x.r.t.v,.int .i8 y.x.r.t.a.k,.int .i64 y.x.r.t.a.n,.string y.x.r.t.a.s,.slice y.p.ra y.x.r.kids.length y.p.rc]) (fun j v hj=>?_) rfl
  match j,hj with
  | 0,hj=>simp at hj;subst hj;exact RL.at h (j:=10) rfl
  | 1,hj=>simp at hj;subst hj;exact RL.at h (j:=11) rfl
  | 2,hj=>simp at hj;subst hj;exact RL.at h (j:=12) rfl
  | 3,hj=>simp at hj;subst hj;exact RL.at h (j:=13) rfl
  | 4,hj=>simp at hj;subst hj;exact RL.at h (j:=14) rfl
  | 5,hj=>simp at hj;subst hj;exact RL.at h (j:=15) rfl
end
end Go.Proofs.YtjdnpgpbeppgjaaGreatDoor
