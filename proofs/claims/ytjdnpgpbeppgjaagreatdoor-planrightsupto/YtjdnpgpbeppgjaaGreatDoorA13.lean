import Derived.Test.YtjdnpgpbeppgjaaGreatDoorA12
import Derived.Test.YtjdnpgpbeppgjaaGreatDoorA2
import Derived.Deep.Upon
import Derived.OwnWalk
import Derived.Lib.Hide
import Derived.Test.YtjdnpgpbeppgjaaGreatDoorA11
set_option linter.unusedSimpArgs false
set_option linter.unusedVariables false
set_option maxHeartbeats 3200000
set_option maxRecDepth 100000
namespace Go.Proofs.YtjdnpgpbeppgjaaGreatDoor
section
open Go.RowKit Go.Maps
theorem ZaX{P:Program}{ops:Array Oper}{Q:Exit→Act→World→Prop}{K:Act→World→Prop}{i:Nat}{a:Act}{w w':World}{o:Oper}{v:Value}(hi:ops[i]?=some o)(hw:Region.wanted o (yielded ops a.tmps)=true)(hrun:(execOp a.eval o).run P w=.ok (.value v) w')(hK:K (a.put o.dst v) w'):wpOp P ops Q i K a w:=by
 unfold wpOp;rw[hi];simp only[hw,if_true];refine Or.inl ?_;unfold Oper.wp;rw[hrun];exact hK
theorem ZlX(ev:Operand→Value)(o:Oper){x:Operand}(hop:o.op=.fieldAddr 105 x 3)(w:World){be:Nat}(hx:ev x=.pointer (some ⟨be,0,none⟩)):(execOp ev o).run Tryz.prog w=.ok (.value (.pointer (some ⟨be,4,none⟩))) w:=by
 simp only[execOp,hop,hx];go_simp
theorem ZlY(ev:Operand→Value)(o:Oper){x:Operand}(hop:o.op=.fieldAddr 105 x 4)(w:World){be:Nat}(hx:ev x=.pointer (some ⟨be,0,none⟩)):(execOp ev o).run Tryz.prog w=.ok (.value (.pointer (some ⟨be,10,none⟩))) w:=by
 simp only[execOp,hop,hx];go_simp
theorem Zka(ev:Operand→Value)(o:Oper){x y:Operand}(hop:o.op=.build 405 #[(0,x),(1,y)])(w:World){o1 o2 a1 a2:Option Addr}{n1 n2 c1 c2:Nat}(hx:ev x=.agg #[.pointer o1,.slice a1 n1 c1])(hy:ev y=.agg #[.pointer o2,.slice a2 n2 c2]):(execOp ev o).run Tryz.prog w=.ok (.value (.agg #[.pointer o1,.slice a1 n1 c1,.pointer o2,.slice a2 n2 c2])) w:=by
 simp only[execOp,hop];simp only[List.map_toArray,List.map_cons,List.map_nil,Array.map,hx,hy];go_simp
theorem Zno(ev:Operand→Value)(o:Oper){x:Operand}(hop:o.op=.box 405 x)(w:World){o1 o2 a1 a2:Option Addr}{n1 n2 c1 c2:Nat}(hx:ev x=.agg #[.pointer o1,.slice a1 n1 c1,.pointer o2,.slice a2 n2 c2]):(execOp ev o).run Tryz.prog w=.ok (.value (.pointer (some ⟨w.heap.size,0,none⟩))) (w.alloc (.cells #[.pointer o1,.slice a1 n1 c1,.pointer o2,.slice a2 n2 c2] 405)):=by
 simp only[execOp,hop,hx];go_simp
def Zcm:List (List Nat × Nat):=[([],0),([0],1),([0,1],2),([0,1,2],4),([0,1,2,4],5),([0,1,2,4,5],6),([0,1,2,4,5,6,3,7],8)]
theorem ZoK{ops:Array Oper}{Q:Exit→Act→World→Prop}{S:World→Prop}{a0:Act}{w5:World}{bf bw lb:Nat}{EL ER:Value}{ty1 ty2 ty3:Array TypeId}{P:World→Prop}
  (q0:Zf ops 0 none (.move (.tmp 3)) (some 39))
  (q1:Zf ops 1 none (.fieldAddr 105 (.tmp 8) 3) (some 40))
  (q2:Zf ops 2 none (.load 103 (.tmp 40)) (some 41))
  (q4:Zf ops 4 none (.move (.tmp 3)) (some 43))
  (q5:Zf ops 5 none (.fieldAddr 105 (.tmp 8) 4) (some 44))
  (q6:Zf ops 6 none (.load 103 (.tmp 44)) (some 45))
  (q3:Zf ops 3 none (.call {callee:=.value (.func 292),args:=#[.tmp 39,.tmp 41],argTypes:=ty1}) (some 42))
  (q7:Zf ops 7 none (.call {callee:=.value (.func 292),args:=#[.tmp 43,.tmp 45],argTypes:=ty2}) (some 46))
  (q8:Zf ops 8 none (.build 405 #[(0,.tmp 42),(1,.tmp 46)]) (some 47))
  (q9:Zf ops 9 none (.box 405 (.tmp 47)) (some 48))
  (q10:Zf ops 10 none (.call {callee:=.value (.func 291),args:=#[.tmp 6,.tmp 48],argTypes:=ty3}) (some 49))
  (hs:Region.noSelect ops=true) (hq:(Zcm.all fun p=>Region.free .any ops (LR 11 p.1) p.2&&(Region.ready .any ops (LR 11 p.1)).contains p.2)=true)
  (r3:Region.ready .any ops (LR 11 [0,1,2,4,5,6])=[3])
  (r7:Region.ready .any ops (LR 11 [0,1,2,4,5,6,3])=[7])
  (r9:Region.ready .any ops (LR 11 [0,1,2,4,5,6,3,7,8])=[9])
  (r10:Region.ready .any ops (LR 11 [0,1,2,4,5,6,3,7,8,9])=[10])
  (rend:Region.ready .any ops (LR 11 [0,1,2,4,5,6,3,7,8,9,10])=[])
  (hQ:∀(d:Option Tmp) (v:Value) c a w,Q (.panic c) (a.put d v) w→Q (.panic c) a w)
  (hsz:49<a0.tmps.size) (e3:a0.eval (.tmp 3)=.pointer (some ⟨bf,0,none⟩)) (e6:a0.eval (.tmp 6)=.pointer (some ⟨bw,0,none⟩)) (e8:a0.eval (.tmp 8)=.pointer (some ⟨lb,0,none⟩))
  (hS0:S w5.drew)
  (keep:∀u u',S u→S u'→S u') (LL:∀u,S u→(loadVar 103 ⟨lb,4,none⟩).run Tryz.prog u=.ok EL u) (LR0:∀u,S u→(loadVar 103 ⟨lb,10,none⟩).run Tryz.prog u=.ok ER u)
  (C1:Calls Tryz.prog 292 #[.pointer (some ⟨bf,0,none⟩),EL] w5.drew fun e u1=>∃o1 a1 n1 c1,e=.returned (.agg #[.pointer o1,.slice a1 n1 c1])∧S u1∧Calls Tryz.prog 292 #[.pointer (some ⟨bf,0,none⟩),ER] u1 fun e u2=>∃o2 a2 n2 c2,e=.returned (.agg #[.pointer o2,.slice a2 n2 c2])∧S u2∧S (u2.alloc (.cells #[.pointer o1,.slice a1 n1 c1,.pointer o2,.slice a2 n2 c2] 405))∧Calls Tryz.prog 291 #[.pointer (some ⟨bw,0,none⟩),.pointer (some ⟨u2.heap.size,0,none⟩)] (u2.alloc (.cells #[.pointer o1,.slice a1 n1 c1,.pointer o2,.slice a2 n2 c2] 405)) fun e u3=>∃v3,e=.returned v3∧S u3∧P u3)
  (F:∀(wc u2:World) (o1 o2 a1 a2:Option Addr) (n1 n2 c1 c2:Nat) (v3:Value),P wc→Q .normal (((((((((((a0.put (some 39) (.pointer (some ⟨bf,0,none⟩))).put (some 40) (.pointer (some ⟨lb,4,none⟩))).put (some 41) (EL)).put (some 43) (.pointer (some ⟨bf,0,none⟩))).put (some 44) (.pointer (some ⟨lb,10,none⟩))).put (some 45) (ER)).put (some 42) (.agg #[.pointer o1,.slice a1 n1 c1])).put (some 46) (.agg #[.pointer o2,.slice a2 n2 c2])).put (some 47) (.agg #[.pointer o1,.slice a1 n1 c1,.pointer o2,.slice a2 n2 c2])).put (some 48) (.pointer (some ⟨u2.heap.size,0,none⟩))).put (some 49) (v3)) wc) :
  wpAnyH Tryz.prog .any ops Q S 11 (LR 11 []) a0 w5.drew:=by
 have hall:∀p∈Zcm,Region.free .any ops (LR 11 p.1) p.2=true∧(Region.ready .any ops (LR 11 p.1)).contains p.2=true:=by
  intro p hp;have:=List.all_eq_true.1 hq p hp;simpa using this
 unfold Zcm at hall;refine Zj [] (.pointer (some ⟨bf,0,none⟩)) q0 hs (hall ([],0) (by simp)) hQ (fun o w' hop hS=>Zs _ _ hop w' (by(repeat rw[Za _ _ (by decide)]);exact e3)) hS0 ?_;refine Zj [0] (.pointer (some ⟨lb,4,none⟩)) q1 hs (hall ([0],1) (by simp)) hQ (fun o w' hop hS=>ZlX _ _ hop w' (by(repeat rw[Za _ _ (by decide)]);exact e8)) hS0 ?_;refine Zj [0,1] (EL) q2 hs (hall ([0,1],2) (by simp)) hQ (fun o w' hop hS=>ZbA _ _ hop w' (by(repeat(first | rw[Zc _ _ (by(try simp only[Zb]);omega)] | rw[Za _ _ (by decide)]))) (LL _ hS)) hS0 ?_
 refine Zj [0,1,2] (.pointer (some ⟨bf,0,none⟩)) q4 hs (hall ([0,1,2],4) (by simp)) hQ (fun o w' hop hS=>Zs _ _ hop w' (by(repeat rw[Za _ _ (by decide)]);exact e3)) hS0 ?_;refine Zj [0,1,2,4] (.pointer (some ⟨lb,10,none⟩)) q5 hs (hall ([0,1,2,4],5) (by simp)) hQ (fun o w' hop hS=>ZlY _ _ hop w' (by(repeat rw[Za _ _ (by decide)]);exact e8)) hS0 ?_;refine Zj [0,1,2,4,5] (ER) q6 hs (hall ([0,1,2,4,5],6) (by simp)) hQ (fun o w' hop hS=>ZbA _ _ hop w' (by(repeat(first | rw[Zc _ _ (by(try simp only[Zb]);omega)] | rw[Za _ _ (by decide)]))) (LR0 _ hS)) hS0 ?_
 refine wpAnyH_all r3 (by simp) ?_;intro i hi;obtain rfl:=List.mem_singleton.1 hi;obtain⟨o3,ho,hg,hop,hd⟩:=Zd q3;have x3_0:(((((((a0.put (some 39) (.pointer (some ⟨bf,0,none⟩))).put (some 40) (.pointer (some ⟨lb,4,none⟩))).put (some 41) (EL)).put (some 43) (.pointer (some ⟨bf,0,none⟩))).put (some 44) (.pointer (some ⟨lb,10,none⟩))).put (some 45) (ER))).eval (.tmp 39)=.pointer (some ⟨bf,0,none⟩):=(by(repeat(first | rw[Zc _ _ (by(try simp only[Zb]);omega)] | rw[Za _ _ (by decide)])))
 have x3_1:(((((((a0.put (some 39) (.pointer (some ⟨bf,0,none⟩))).put (some 40) (.pointer (some ⟨lb,4,none⟩))).put (some 41) (EL)).put (some 43) (.pointer (some ⟨bf,0,none⟩))).put (some 44) (.pointer (some ⟨lb,10,none⟩))).put (some 45) (ER))).eval (.tmp 41)=EL:=(by(repeat(first | rw[Zc _ _ (by(try simp only[Zb]);omega)] | rw[Za _ _ (by decide)])));refine Zw ho (Zv hg) (ZC 292 Tryz.func292 (by kernel_rfl) (by kernel_rfl) #[.tmp 39,.tmp 41] _ hop #[.pointer (some ⟨bf,0,none⟩),EL] (by simp only[List.map_toArray,List.map_cons,List.map_nil,x3_0,x3_1])) ?_
 refine(C1).mono ?_;rintro e u1 ⟨o1,a1,n1,c1,rfl,hS1,C2⟩;have hS3:=keep _ _ hS0 hS1;refine⟨_,rfl,hS3,?_⟩;rw[hd];clear ho hg hop hd;rw[←Zh];refine wpAnyH_all r7 (by simp) ?_;intro i hi;obtain rfl:=List.mem_singleton.1 hi;obtain⟨o7,ho,hg,hop,hd⟩:=Zd q7;have x7_0:((((((((a0.put (some 39) (.pointer (some ⟨bf,0,none⟩))).put (some 40) (.pointer (some ⟨lb,4,none⟩))).put (some 41) (EL)).put (some 43) (.pointer (some ⟨bf,0,none⟩))).put (some 44) (.pointer (some ⟨lb,10,none⟩))).put (some 45) (ER)).put (some 42) (.agg #[.pointer o1,.slice a1 n1 c1]))).eval (.tmp 43)=.pointer (some ⟨bf,0,none⟩):=(by(repeat(first | rw[Zc _ _ (by(try simp only[Zb]);omega)] | rw[Za _ _ (by decide)])))
 have x7_1:((((((((a0.put (some 39) (.pointer (some ⟨bf,0,none⟩))).put (some 40) (.pointer (some ⟨lb,4,none⟩))).put (some 41) (EL)).put (some 43) (.pointer (some ⟨bf,0,none⟩))).put (some 44) (.pointer (some ⟨lb,10,none⟩))).put (some 45) (ER)).put (some 42) (.agg #[.pointer o1,.slice a1 n1 c1]))).eval (.tmp 45)=ER:=(by(repeat(first | rw[Zc _ _ (by(try simp only[Zb]);omega)] | rw[Za _ _ (by decide)])))
 refine Zw ho (Zv hg) (ZC 292 Tryz.func292 (by kernel_rfl) (by kernel_rfl) #[.tmp 43,.tmp 45] _ hop #[.pointer (some ⟨bf,0,none⟩),ER] (by simp only[List.map_toArray,List.map_cons,List.map_nil,x7_0,x7_1])) ?_;refine(C2).mono ?_;rintro e u2 ⟨o2,a2,n2,c2,rfl,hS2,hS2b,C3⟩;have hS7:=keep _ _ hS3 hS2;refine⟨_,rfl,hS7,?_⟩;rw[hd];clear ho hg hop hd;rw[←Zh];refine Zj [0,1,2,4,5,6,3,7] (.agg #[.pointer o1,.slice a1 n1 c1,.pointer o2,.slice a2 n2 c2]) q8 hs (hall ([0,1,2,4,5,6,3,7],8) (by simp)) hQ (fun o w' hop hS=>Zka _ _ hop w' (by(repeat(first | rw[Zc _ _ (by(try simp only[Zb]);omega)] | rw[Za _ _ (by decide)]))) (by(repeat(first | rw[Zc _ _ (by(try simp only[Zb]);omega)] | rw[Za _ _ (by decide)])))) hS7 ?_
 refine wpAnyH_all r9 (by simp) ?_;intro i hi;obtain rfl:=List.mem_singleton.1 hi;obtain⟨o9,ho,hg,hop,hd⟩:=Zd q9;refine ZaX ho (Zv hg) (Zno _ _ hop u2 (by(repeat(first | rw[Zc _ _ (by(try simp only[Zb]);omega)] | rw[Za _ _ (by decide)])))) ?_;have hS9:=hS2b;refine⟨hS9,?_⟩;rw[hd];clear ho hg hop hd;rw[←Zh];refine wpAnyH_all r10 (by simp) ?_;intro i hi;obtain rfl:=List.mem_singleton.1 hi
 obtain⟨o10,ho,hg,hop,hd⟩:=Zd q10;have x10_0:(((((((((((a0.put (some 39) (.pointer (some ⟨bf,0,none⟩))).put (some 40) (.pointer (some ⟨lb,4,none⟩))).put (some 41) (EL)).put (some 43) (.pointer (some ⟨bf,0,none⟩))).put (some 44) (.pointer (some ⟨lb,10,none⟩))).put (some 45) (ER)).put (some 42) (.agg #[.pointer o1,.slice a1 n1 c1])).put (some 46) (.agg #[.pointer o2,.slice a2 n2 c2])).put (some 47) (.agg #[.pointer o1,.slice a1 n1 c1,.pointer o2,.slice a2 n2 c2])).put (some 48) (.pointer (some ⟨u2.heap.size,0,none⟩)))).eval (.tmp 6)=.pointer (some ⟨bw,0,none⟩):=(by(repeat rw[Za _ _ (by decide)]);exact e6)
 have x10_1:(((((((((((a0.put (some 39) (.pointer (some ⟨bf,0,none⟩))).put (some 40) (.pointer (some ⟨lb,4,none⟩))).put (some 41) (EL)).put (some 43) (.pointer (some ⟨bf,0,none⟩))).put (some 44) (.pointer (some ⟨lb,10,none⟩))).put (some 45) (ER)).put (some 42) (.agg #[.pointer o1,.slice a1 n1 c1])).put (some 46) (.agg #[.pointer o2,.slice a2 n2 c2])).put (some 47) (.agg #[.pointer o1,.slice a1 n1 c1,.pointer o2,.slice a2 n2 c2])).put (some 48) (.pointer (some ⟨u2.heap.size,0,none⟩)))).eval (.tmp 48)=.pointer (some ⟨u2.heap.size,0,none⟩):=(by(repeat(first | rw[Zc _ _ (by(try simp only[Zb]);omega)] | rw[Za _ _ (by decide)])))
 refine Zw ho (Zv hg) (ZC 291 Tryz.func291 (by kernel_rfl) (by kernel_rfl) #[.tmp 6,.tmp 48] _ hop #[.pointer (some ⟨bw,0,none⟩),.pointer (some ⟨u2.heap.size,0,none⟩)] (by simp only[List.map_toArray,List.map_cons,List.map_nil,x10_0,x10_1])) ?_;refine(C3).mono ?_;rintro e u3 ⟨v3,rfl,hS3,hP⟩;have hS10:=keep _ _ hS9 hS3;refine⟨_,rfl,hS10,?_⟩;rw[hd];clear ho hg hop hd;rw[←Zh];exact wpAnyH_done rend (F _ u2 o1 o2 a1 a2 n1 n2 c1 c2 v3 hP) _
end
section
open Go.RowKit Go.Maps
attribute [local go_sem ↓] Go.wp_at_zero Go.wp_at_succ
theorem ZgX(l:Option Vb):∃o,Z6 l=.pointer o:=by
 cases l with
 | none=>exact⟨none,rfl⟩
 | some x=>exact⟨_,rfl⟩
structure Lst (B bf bm bw:Nat) (w0:World) (vs:List Vb) (fs:List ByteArray) (sv svw:Value) (L:List Er) (w:World):Prop where
 fd:Fd B bf bm vs fs sv w
 eq:Eqs bf bm vs fs sv w L
 wk:Wk B bw (L.map Er.be) svw w
 wa:∀j,WP bw svw j→¬ FP bf bm vs sv j∧∀r∈L,¬ EP r j
 bl:Below B w0 w
 lo:∀r∈L,B≤r.be
 bb:B≤bw
 zz:B≤w.heap.size
theorem Lst.ge{B bf bm bw:Nat}{w0:World}{vs:List Vb}{fs:List ByteArray}{sv svw:Value}{L:List Er}{w:World}(h:Lst B bf bm bw w0 vs fs sv svw L w):∀j,WP bw svw j→B≤j:=by
 rintro j (rfl | e)
 ·exact h.bb
 ·exact(h.wk.own.lt j e).1
theorem Lst.below{B bf bm bw:Nat}{w0:World}{vs:List Vb}{fs:List ByteArray}{sv svw:Value}{L:List Er}{w w':World}(h:Lst B bf bm bw w0 vs fs sv svw L w)(b:Below w.heap.size w w'):Lst B bf bm bw w0 vs fs sv svw L w':=
 ⟨h.fd.below b,h.eq.keep b.size (fun r hr k hk=>b.block k ((h.eq.is r hr).lt k hk).1) (fun _ hn=>hn) (fun _ hx=>hx) (fun _ _ hk=>hk),h.wk.keep (fun k hk=>b.block k (h.wk.lt k hk)),h.wa,h.bl.trans (b.mono h.zz),h.lo,h.bb,Nat.le_trans h.zz b.size⟩
def Nw(bf bm bw:Nat)(vs:List Vb)(sv svw:Value)(L:List Er)(w:World)(a:Option Addr):Prop:=∀g off,a=some ⟨g,off,none⟩→g<w.heap.size∧¬ FP bf bm vs sv g∧¬ WP bw svw g∧∀r∈L,g≠r.be
theorem ZoJ{bf bm:Nat}{vs m:List Vb}{sv:Value}{z:Nat}(hm:∀y∈m,z≤y.b):∀k,k<z→¬ FP bf bm vs sv k→¬ FP bf bm (vs++m) sv k:=by
 rintro k hk hf (e | e | e | ⟨x,hx,e⟩)
 ·exact hf (.inl e)
 ·exact hf (.inr (.inl e))
 ·exact hf (.inr (.inr (.inl e)))
 ·rcases List.mem_append.1 hx with hx | hx
  ·exact hf (.inr (.inr (.inr ⟨x,hx,e⟩)))
  ·have:=hm x hx;omega
theorem Lst.side{B bf bm bw:Nat}{w0:World}{vs:List Vb}{fs:List ByteArray}{sv svw:Value}{L:List Er}{u u':World}{q:Sd}{r:Ending}(h:Lst B bf bm bw w0 vs fs sv svw L u)(hs:SiP B bf bm vs fs sv q u r u') :
  ∃vs' l xs a c,r=.returned (.agg #[Z6 l,.slice a xs.length c])∧Lst B bf bm bw w0 vs' fs sv svw L u'∧Nw bf bm bw vs' sv svw L u' a∧Lq u' a c xs∧xs.map Vb.v=q.vars∧l.map Vb.v=q.lone∧(∀x,l=some x→x∈vs')∧(∀x∈xs,x∈vs')∧Tz (fun k=>k=bm) u u'∧(∀x∈vs,x∈vs') ∧
   (∀a1 c1 xs1,Nw bf bm bw vs sv svw L u a1→Lq u a1 c1 xs1→Nw bf bm bw vs' sv svw L u' a1∧Lq u' a1 c1 xs1):=by
 obtain⟨vs',l,xs,a,c,h1,h2,h3,⟨m,hm,hm2⟩,h5,h6,h7,h8,h9,h10⟩:=hs;subst hm;have hfp:=ZoJ (bf:=bf) (bm:=bm) (vs:=vs) (sv:=sv) hm2;have hbm:∀k,¬ FP bf bm vs sv k→k≠bm:=fun k hk e=>hk (.inr (.inl e))
 have hzu:=h3.size;refine⟨vs++m,l,xs,a,c,h1,⟨h2,?_,?_,?_,?_,h.lo,h.bb,Nat.le_trans h.zz hzu⟩,?_,h5,h6,h7,h8,h9,h3,fun x hx=>List.mem_append.2 (.inl hx),?_⟩
 ·exact h.eq.keep hzu (fun r hr k hk=>h3.block k ((h.eq.is r hr).lt k hk).1 (hbm k ((h.eq.is r hr).lt k hk).2)) (fun _ hn=>hn) (fun x hx=>List.mem_append.2 (.inl hx)) hfp
 ·exact h.wk.keep (fun k hk=>h3.block k (h.wk.lt k hk) (hbm k (h.wa k hk).1))
 ·exact fun j hj=>⟨hfp j (h.wk.lt j hj) (h.wa j hj).1,(h.wa j hj).2⟩
 ·exact Tz.below h.bl h3 h.zz (fun b e=>by rw[e];exact h.fd.lo.2.1)
 ·intro g off e;obtain⟨g1,g2,g3⟩:=h10 g off e;have hb:=h.fd.lt bf (.inl rfl);have hb2:=h.fd.lt bm (.inr (.inl rfl));refine⟨g2,?_,fun hw=>by have:=h.wk.lt g hw;omega,fun r hr e2=>by have:=((h.eq.is r hr).lt r.be (.inl rfl)).1;omega⟩;rintro(e1 | e1 | e1 | ⟨x,hx,e1⟩)
  ·omega
  ·omega
  ·have:=h.fd.lt g (.inr (.inr (.inl e1)));omega
  ·exact g3 x hx e1.symm
 ·intro a1 c1 xs1 hn hl;refine⟨fun g off e=>⟨Nat.lt_of_lt_of_le (hn g off e).1 hzu,hfp g (hn g off e).1 (hn g off e).2.1,(hn g off e).2.2⟩,hl.keep hzu (fun g off e=>h3.block g (hn g off e).1 (hbm g (hn g off e).2.1))⟩
theorem Lst.add{B bf bm bw:Nat}{w0:World}{vs:List Vb}{fs:List ByteArray}{sv svw svw':Value}{L:List Er}{u u4:World}{q1 q2:Sd}{l0 l1:Option Vb}{x0 x1:List Vb}{a0 a1:Option Addr}{c0 c1:Nat}(h:Lst B bf bm bw w0 vs fs sv svw L u)
  (n0:Nw bf bm bw vs sv svw L u a0) (n1:Nw bf bm bw vs sv svw L u a1) (lq0:Lq u a0 c0 x0) (lq1:Lq u a1 c1 x1) (e0:x0.map Vb.v=q1.vars) (e1:x1.map Vb.v=q2.vars) (f0:l0.map Vb.v=q1.lone) (f1:l1.map Vb.v=q2.lone) (m0:∀x,l0=some x→x∈vs) (m1:∀x,l1=some x→x∈vs) (i0:∀x∈x0,x∈vs) (i1:∀x∈x1,x∈vs)
  (hw:Wk B bw (L.map Er.be++[u.heap.size]) svw' u4) (ht:Tz (WP bw svw) (u.alloc (.cells #[Z6 l0,.slice a0 x0.length c0,Z6 l1,.slice a1 x1.length c1] 405)) u4) (hn:∀g,svw'.ownBlock=some g→svw.ownBlock=some g∨(u.alloc (.cells #[Z6 l0,.slice a0 x0.length c0,Z6 l1,.slice a1 x1.length c1] 405)).heap.size≤g) :
  ∃r,r.q=(q1,q2)∧Lst B bf bm bw w0 vs fs sv svw' (L++[r]) u4:=by
 have hA:=Zp (w:=u) (.cells #[Z6 l0,.slice a0 x0.length c0,Z6 l1,.slice a1 x1.length c1] 405);have hR:=Zk u #[Z6 l0,.slice a0 x0.length c0,Z6 l1,.slice a1 x1.length c1] 405;have hz:(u.alloc (.cells #[Z6 l0,.slice a0 x0.length c0,Z6 l1,.slice a1 x1.length c1] 405)).heap.size=u.heap.size+1:=by simp
 have h3:=h.below hA;generalize u.alloc (.cells #[Z6 l0,.slice a0 x0.length c0,Z6 l1,.slice a1 x1.length c1] 405)=u3 at *;have hlt3:∀k,WP bw svw k→k<u.heap.size:=h.wk.lt;obtain⟨r,hr⟩:∃r:Er,r=⟨u.heap.size,(q1,q2),l0,x0,a0,c0,l1,x1,a1,c1⟩:=⟨_,rfl⟩;have hrb:r.be=u.heap.size:=by rw[hr]
 have hEr:EqIs bf bm vs fs sv u3 r:=by
  rw[hr];refine⟨hR,lq0.keep hA.size (fun g off e=>hA.block g (n0 g off e).1),lq1.keep hA.size (fun g off e=>hA.block g (n1 g off e).1),f0.symm,f1.symm,⟨[],by rw[List.nil_append];exact e0.symm,fun n hn=>(by cases hn)⟩,⟨[],by rw[List.nil_append];exact e1.symm,fun n hn=>(by cases hn)⟩,m0,m1,i0,i1,fun e=>by have:=h.fd.lt _ e;simp only at this;omega,fun g off e=>⟨(n0 g off e).2.1,by have:=(n0 g off e).1;show g≠u.heap.size;omega,by have:=(n0 g off e).1;omega⟩,fun g off e=>⟨(n1 g off e).2.1,by have:=(n1 g off e).1;show g≠u.heap.size;omega,by have:=(n1 g off e).1;omega⟩⟩
 have hEb:∀k,EP r k→¬ WP bw svw k∧∀x∈L,k≠x.be:=by
  intro k hk;rw[hr]at hk;rcases hk with e | ⟨off,e⟩ | ⟨off,e⟩
  ·simp only at e;exact⟨fun hw=>by have:=hlt3 k hw;omega,fun x hx e2=>by have:=((h.eq.is x hx).lt x.be (.inl rfl)).1;omega⟩
  ·exact(n0 k off e).2.2
  ·exact(n1 k off e).2.2
 have heqs:Eqs bf bm vs fs sv u3 (L++[r]):=by
  refine⟨fun x hx=>?_,?_,fun x hx y hy k hk e=>?_⟩
  ·rcases List.mem_append.1 hx with hx | hx
   ·exact h3.eq.is x hx
   ·rw[List.mem_singleton.1 hx];exact hEr
  ·rw[List.map_append,List.nodup_append];refine⟨h.eq.nd,by simp,fun a ha b hb=>?_⟩;obtain⟨x,hx,rfl⟩:=List.mem_map.1 ha;simp only[List.map_cons,List.map_nil,List.mem_singleton]at hb;have:=((h.eq.is x hx).lt x.be (.inl rfl)).1;rw[hb,hrb];omega
  ·rcases List.mem_append.1 hx with hx2 | hx2
   ·rcases List.mem_append.1 hy with hy2 | hy2
    ·exact h.eq.ap x hx2 y hy2 k hk e
    ·rw[List.mem_singleton.1 hy2,hrb]at e;have:=((h.eq.is x hx2).lt k hk).1;omega
   ·rw[List.mem_singleton.1 hx2]at hk⊢;rcases List.mem_append.1 hy with hy2 | hy2
    ·exact absurd e ((hEb k hk).2 y hy2)
    ·rw[List.mem_singleton.1 hy2]
 have hwe:∀x∈L++[r],∀k,EP x k→¬ WP bw svw k:=fun x hx k hk hw=>by
  rcases List.mem_append.1 hx with hx | hx
  ·exact(h.wa k hw).2 x hx hk
  ·rw[List.mem_singleton.1 hx]at hk;exact(hEb k hk).1 hw
 refine⟨r,by rw[hr],⟨h3.fd.keep (fun k hk=>ht.block k (h3.fd.lt k hk) (fun e=>(h.wa k e).1 hk)),?_,?_,?_,?_,?_,h.bb,Nat.le_trans h3.zz ht.size⟩⟩
 ·exact heqs.keep ht.size (fun x hx k hk=>ht.block k ((heqs.is x hx).lt k hk).1 (hwe x hx k hk)) (fun _ hn=>hn) (fun _ hx=>hx) (fun _ _ hk=>hk)
 ·rw[List.map_append,List.map_cons,List.map_nil,hrb];exact hw
 ·have hbw:=hlt3 bw (.inl rfl);rintro j (e | e)
  ·rw[e];exact⟨(h.wa bw (.inl rfl)).1,fun x hx hk=>hwe x hx bw hk (.inl rfl)⟩
  ·rcases hn j e with k | k
   ·exact⟨(h.wa j (.inr k)).1,fun x hx hk=>hwe x hx j hk (.inr k)⟩
   ·exact⟨fun hf=>by have:=h3.fd.lt j hf;omega,fun x hx hk=>by have:=((heqs.is x hx).lt j hk).1;omega⟩
 ·exact Tz.below h3.bl ht h3.zz h.ge
 ·intro x hx;rcases List.mem_append.1 hx with hx | hx
  ·exact h.lo x hx
  ·rw[List.mem_singleton.1 hx,hrb];exact h.zz
theorem Lst.round{B bf bm bw:Nat}{w0:World}{vs:List Vb}{fs:List ByteArray}{sv svw:Value}{L:List Er}{u u':World}{e:Ending}(h:Lst B bf bm bw w0 vs fs sv svw L u)(hr:RnP B bf bm bw vs fs sv svw L u e u') :
  ∃sv' svw' L',e=.returned (.bool (decide (L'.length<L.length)))∧L'.map Er.q=(ZU (L.map Er.q) fs).2∧(ZU (L.map Er.q) fs).1.length+L'.length=fs.length+L.length∧Lst B bf bm bw w0 vs (ZU (L.map Er.q) fs).1 sv' svw' L' u':=by
 obtain⟨sv',svw',L',h1,h2,h3,h4,h5,h6,h7,h8,h9,h10⟩:=hr;refine⟨sv',svw',L',h1,h4,h9,h2,h3,h5,h6,Tz.below h.bl h7 h.zz ?_,fun r hr=>?_,h.bb,Nat.le_trans h.zz h7.size⟩
 ·rintro b (k | k | ⟨r,hr,k⟩)
  ·exact h.fd.ge b k
  ·exact h.ge b k
  ·rw[k];exact h.lo r hr
 ·obtain⟨r0,hr0,e0⟩:=h10 r hr;rw[e0];exact h.lo r0 hr0
theorem Zft{w:World}{b:Nat}{v:Value}{n:Nat}{xs:List Value}(ty t e:TypeId){i0:TypeInfo}{z:Value}{k bytes:Nat}(hu:Tryz.prog.underlying t=some (.slice e))(hi0:Tryz.prog.info? e=some i0)(hz0:i0.zero=some z)(hz1:i0.size=k)(hz2:i0.bytes=bytes)(hzs:z.cells.size=k)(hk:0<k)
  (hown:w.ownsRow b e k v n xs) {a:Option Addr} {m c:Nat} {ys:List Value} (hl:Ls w (.slice a m c) m ys) (hly:ys.length=m*k) (h1:∀u∈ys,u.oneCell'=true) (h63:n+m≤maxLen) (hby:(n+m)*bytes≤140737488355328) (hb:b≤w.heap.size) :
  ∃v' w',(Builtin.append_ #[t,t] ty #[v,.slice a m c]).run Tryz.prog w=.ok v' w'∧w'.ownsRow b e k v' (n+m) (xs++ys)∧w.grownBy w' v.ownBlock∧(v'.ownBlock=v.ownBlock∨v'.ownBlock=some w.heap.size):=by
 obtain⟨_,a',c',e',hc1,hc2,hat⟩:=hl
 by_cases h0:m=0
 ·subst h0;obtain rfl:ys=[]:=List.length_eq_zero_iff.1 (by rw[hly];simp)
  have hv:∃ba sc,v=.slice ba n sc∧n≤sc:=by
   rcases hown.2 with ⟨rfl,rfl⟩ | ⟨g,cap,cur,rfl,_,_,hnc,_,_,_⟩
   ·exact⟨none,0,rfl,Nat.le_refl _⟩
   ·exact⟨_,_,rfl,hnc⟩
  obtain⟨ba,sc,rfl,hsc⟩:=hv;refine⟨_,_,run_append_nothing w _ _ ty _ i0 hu hi0 ba n sc hsc _ ⟨.inl ⟨_,hu⟩,by intro w';cases a<;>simp[Builtin.lenOf],by cases a<;>simp[Builtin.firstCells,loadCells,loadCellsFrom],by cases a<;>simp[Builtin.firstCells,loadCells,loadCellsFrom],by simp,by simp⟩,?_,⟨rfl,rfl,rfl,Nat.le_refl _,fun _ _ _=>rfl⟩,.inl rfl⟩;simpa using hown
 ·obtain⟨g,off,ha,_,hf⟩:=hat (by omega)
  cases e'
  subst ha
  obtain⟨v',w',e1,e2,e3,_,e5⟩:=run_append_own_at (P:=Tryz.prog) w b t ty e i0 z k bytes hu hi0 hz0 hz1 hz2 hzs hk v n xs hown ⟨g,off,none⟩ m c ys hly (fun j u hu=>by
   obtain⟨q1,q2⟩:=List.getElem?_eq_some_iff.1 hu;have:=hf j q1;rw[q2]at this;rw[show(⟨g,off,none⟩:Addr).add j=⟨g,off+j,none⟩ by cases j<;>simp[Addr.add]];exact this) h1 h63 hby hb
  exact⟨v',w',e1,e2,e3,e5⟩
theorem Zae{ops:Array Oper}{rest:List Oper}{o:Oper}{ac:Act}{w:World}{Q:Exit→Act→World→Prop}(hgd:o.guard=none)(s x:Operand)(t e:TypeId)
  (hop:o.op=Op.call {callee:=Callee.builtin Builtin.append,args:=#[s,x],argTypes:=#[t,t]}) {i0:TypeInfo} {z:Value} {k bytes:Nat} (hu:Tryz.prog.underlying t=some (.slice e)) (hi0:Tryz.prog.info? e=some i0) (hz0:i0.zero=some z) (hz1:i0.size=k) (hz2:i0.bytes=bytes) (hzs:z.cells.size=k) (hk:0<k)
  {b:Nat} {v:Value} {n:Nat} {xs:List Value} (hs:ac.eval s=v) (hown:w.ownsRow b e k v n xs) {a:Option Addr} {m c:Nat} {ys:List Value} (hx:ac.eval x=.slice a m c) (hl:Ls w (.slice a m c) m ys) (hly:ys.length=m*k) (h1:∀u∈ys,u.oneCell'=true) (h63:n+m≤maxLen) (hby:(n+m)*bytes≤140737488355328) (hb:b≤w.heap.size)
  (h:∀v' w',w'.ownsRow b e k v' (n+m) (xs++ys)→w.grownBy w' v.ownBlock→(v'.ownBlock=v.ownBlock∨v'.ownBlock=some w.heap.size)→wpList Tryz.prog ops Q rest (ac.put o.dst v') w') :
  wpList Tryz.prog ops Q (o::rest) ac w:=by
 refine wpList_plain hgd fun KK hK=>?_
 obtain⟨v',w',hr,r1,r2,r3⟩:=Zft o.type t e hu hi0 hz0 hz1 hz2 hzs hk hown hl hly h1 h63 hby hb;unfold Oper.wp execOp;simp only[hop,resolve,invoke,builtin,Sem.run_bind,Sem.run_pure,Result.andThen_ok,List.map_toArray,List.map_cons,List.map_nil,hs,hx,hr];exact hK _ _ (h v' w' r1 r2 r3)
theorem Znj{u:World}{g o:Nat}{cs:List Value}(h:u.rangeAt g o cs)(hl:cs.length=2):(loadVar 93 ⟨g,o,none⟩).run Tryz.prog u=.ok (.agg cs.toArray) u:=
 run_loadVar_mid u g o _ cs _ h Tryz.underlying93 rfl (by rw[hl];kernel_rfl)
attribute [-go_sem] loadVar storeVar
theorem Znk{l:List XL}{k:Nat}(h:k<l.length):avL (l.take (k+1))=avL (l.take k)++avX (atL l k):=by
 unfold avL;rw[Zh2 h,List.flatMap_append];simp
theorem Zb0(l:List ByteArray):(l.flatMap Zm).length=l.length*1:=by
 induction l with
 | nil=>rfl
 | cons a l ih=>rw[List.flatMap_cons,List.length_append,ih];simp[Zm];omega
theorem Zc0(l:List ByteArray):∀u∈l.flatMap Zm,u.oneCell'=true:=by
 intro u hu;obtain⟨b,_,hb⟩:=List.mem_flatMap.1 hu;simp[Zm]at hb;subst hb;rfl
theorem Znl{u:World}{b:Nat}{y:XL}(h:RL u b 105 y.cells) :
  (loadVar 90 ⟨b,0,none⟩).run Tryz.prog u=.ok (.int .i8 y.x.k) u∧(loadVar 93 ⟨b,1,none⟩).run Tryz.prog u=.ok (.agg #[.string y.x.pr,.slice y.p.a y.x.ts.length y.p.c]) u:=by
 refine⟨Zg1 (RL.at h (j:=0) rfl),?_⟩;refine Znj (cs:=[.string y.x.pr,.slice y.p.a y.x.ts.length y.p.c]) (fun j v hj=>?_) rfl
 match j,hj with
 | 0,hj=>simp at hj;subst hj;exact RL.at h (j:=1) rfl
 | 1,hj=>simp at hj;subst hj;exact RL.at h (j:=2) rfl
theorem ZgB(d:Nat)(v:Value)(l:List XL)(w:World)(hL:Lb w v d l)(hts:∀i,i<l.length→(atL l i).x.ts.length≤1048576)(hn:(avL l).length≤4194304)(hll:l.length≤4194304) :
  Calls Tryz.prog 288 #[v] w fun e w'=>∃sv,e=.returned sv∧w'.ownsRow w.heap.size 9 1 sv (avL l).length ((avL l).flatMap Zm)∧Below w.heap.size w w':=by
 obtain⟨i0,hi0,hz0,hz1,hz2⟩:=info_parts Zcq;have HIS:Hid (∀i,i<l.length→∀u,Below w.heap.size w u→LIs u d (atL l i).x (atL l i).p):=fun i hi u hu=>(hL.at_is hi).below hu
 obtain⟨a,c,rfl,hc1,hc2,hat⟩:=hL.form;have HAT:=Lib.hid hat;have HTS:=Lib.hid hts
 have HNB:Hid (∀k,k≤l.length→(avL (l.take k)).length≤4194304):=fun k hk=>by
  have h2:(avL l).length=(avL (l.take k)).length+(avL (l.drop k)).length:=by
   unfold avL;rw[←List.length_append,←List.flatMap_append,List.take_append_drop]
  omega
 clear hat hL hts hc2 hn;go_enter Tryz.func288,Tryz.ntmps288;go_wp2;go_loopw [3,8] (fun v i wr=>∃(k:Nat) (a':Option Addr) (c':Nat) (fs:List ByteArray),k≤l.length∧i=.int .i64 k∧v=.slice a' fs.length c'∧Hid (fs=avL (l.take k))∧Hid (wr.ownsRow w.heap.size 9 1 (.slice a' fs.length c') fs.length (fs.flatMap Zm))∧Hid (Below w.heap.size w wr)) (fun _ i _=>l.length-(intOf i).toNat)
 case atStart=>exact⟨0,none,0,[],Nat.zero_le _,rfl,rfl,rfl,World.ownsRow_nil _ _ _ _,Below.refl _ _⟩
 case round=>
  obtain⟨k,a5,c5,fs,hk,rfl,rfl,HF,HO,HB⟩:=hrel;obtain⟨U,rfl⟩:∃U,U=wr:=⟨_,rfl⟩
  by_cases hlt:k<l.length
  ·have hlt':(k:Int)<(l.length:Int):=by omega
   have hk0:(0:Int)≤(k:Int):=by omega
   obtain⟨g,off,rfl,hg,hT⟩:=HAT.out (by omega);have r1:=Zu (hT k hlt) HB.out hg;have HNX0:=Lib.hid (Znk hlt);rw[←HF.out]at HNX0;have HXI:=Lib.hid (HIS.out k hlt);have hts0:(atL l k).x.ts.length≤1048576:=HTS.out k hlt;have HNB1:=Lib.hid (HNB.out (k+1) hlt);obtain⟨y,hy⟩:∃y,atL l k=y:=⟨_,rfl⟩;rw[hy]at r1 HNX0 HXI hts0;have hld:=Zan r1 rfl;have hst:(storeVar 105 ⟨U.heap.size,0,none⟩ (.agg y.cells.toArray)).run Tryz.prog (U.alloc (.cells #[.int .i8 0,.string ⟨#[]⟩,.slice none 0 0,.int .i8 0,.int .i8 0,.string ⟨#[]⟩,.int .i8 0,.int .i64 0,.string ⟨#[]⟩,.slice none 0 0,.int .i8 0,.string ⟨#[]⟩,.int .i8 0,.int .i64 0,.string ⟨#[]⟩,.slice none 0 0] 105))=.ok () (U.alloc (.cells y.cells.toArray 105)):=run_storeVar_new U 105 #[.int .i8 0,.string ⟨#[]⟩,.slice none 0 0,.int .i8 0,.int .i8 0,.string ⟨#[]⟩,.int .i8 0,.int .i64 0,.string ⟨#[]⟩,.slice none 0 0,.int .i8 0,.string ⟨#[]⟩,.int .i8 0,.int .i64 0,.string ⟨#[]⟩,.slice none 0 0] y.cells.toArray (by kernel_rfl) rfl (ZbR _)
   have BA:=Zp (w:=U) (.cells y.cells.toArray 105);have HRN:=Lib.hid (Zk U y.cells.toArray 105);have HB2:=Lib.hid (HB.out.trans (BA.mono HB.out.size));have HO2:=Lib.hid (Zn HO.out BA);clear hT r1 hy BA HO;generalize U.alloc (.cells y.cells.toArray 105)=W1 at hst HRN HB2 HO2;obtain⟨hf1,hf2⟩:=Znl (y:=y) HRN.out;generalize Value.agg y.cells.toArray=QV at hld hst
   by_cases hq:y.x.k=1
   ·have e1:(y.x.k==1)=true:=by rw[hq];rfl
    have HAV:Hid (avX y=vsT [] y.x.ts):=by show _=_;unfold avX;rw[if_pos hq]
    have HAX:=Lib.hid (ZdH y.x.pr (.slice y.p.a y.x.ts.length y.p.c) y.x.ts W1 (by omega) (HXI.out W1 HB2.out).ts);rw[HAV.out]at HNX0
    have HNL:Hid ((vsT [] y.x.ts).length≤1048576):=by
     show _≤_;have:=Zaw y.x.ts [];simp only[List.length_nil]at this;omega
    have HFL:Hid (fs.length≤4194304):=by
     show _≤_;rw[HF.out];exact HNB.out k (by omega)
    generalize vsT [] y.x.ts=ns at HAX HNX0 HNL;generalize Value.agg #[.string y.x.pr,.slice y.p.a y.x.ts.length y.p.c]=AV at hf2 HAX;clear hq HAV HXI hts0 HF HRN HB HNB1;go_wp2_with fail;refine HAX.out.mono ?_;rintro e w2 ⟨sv2,rfl,hown2,b2⟩;have HLN0:=ZY hown2;obtain⟨a2,c2,rfl,_⟩:=ZB hown2;have HLN:=Lib.hid HLN0;have HO3:=Lib.hid (Zn HO2.out b2);have HB3:=Lib.hid (HB2.out.trans (b2.mono HB2.out.size))
    have hzz:w.heap.size≤w2.heap.size:=HB3.out.size;have hfl:fs.length≤4194304:=HFL.out;have hnl:ns.length≤1048576:=HNL.out;clear HLN0 hown2 b2 HAX HO2 HB2 hf1 hf2 hld hst;go_wp2_with (at_builtin;refine Zae rfl (.tmp 15) (.tmp 18) 26 9 rfl Tryz.underlying26 hi0 hz0 hz1 hz2 rfl (by decide) (b:=w.heap.size) (v:=.slice a5 fs.length c5) (n:=fs.length) (xs:=fs.flatMap Zm) (a:=a2) (c:=c2) (m:=ns.length) (ys:=ns.flatMap Zm) (by simp[Act.eval,Act.put]) HO3.out (by simp[Act.eval,Act.put]) HLN.out (Zb0 ns) (Zc0 ns) (by unfold maxLen;omega) (by omega) hzz ?_;intro v' w4 hown' hgrow hloc)
    obtain⟨a6,c6,rfl,_⟩:=ZB hown';have HB4:Hid (Below w.heap.size w w4):=HB3.out.grown hgrow hzz (fun j hj=>(HO3.out.lt j hj).1)
    have HO4:Hid (w4.ownsRow w.heap.size 9 1 (.slice a6 (fs++ns).length c6) (fs++ns).length ((fs++ns).flatMap Zm)):=by
     show World.ownsRow _ _ _ _ _ _ _;rw[List.length_append,List.flatMap_append];exact hown'
    clear hown' hgrow hloc;go_wp2;go_roundw
    case rel=>exact⟨k+1,a6,c6,fs++ns,by omega,by go_num,by first | rfl | simp,HNX0.out.symm,HO4,HB4⟩
    case measure=>simp[intOf];omega
   ·have e1:(y.x.k==1)=false:=by rw[beq_eq_false_iff_ne];exact hq
    have HNF:Hid (fs=avL (l.take (k+1))):=by show fs=_;rw[HNX0.out];unfold avX;rw[if_neg hq,List.append_nil]
    clear hq HF;go_wp2;go_roundw
    case rel=>exact⟨k+1,a5,c5,fs,by omega,by go_num,rfl,HNF,HO2,HB2⟩
    case measure=>simp[intOf];omega
  ·obtain rfl:k=l.length:=by omega
   have HE:Hid (fs=avL l):=by show fs=_;rw[HF.out,List.take_length]
   go_wp2;go_ret;exact⟨_,rfl,by rw[←HE.out];exact HO.out,HB.out⟩
end
section
open Go.RowKit Go.Maps
attribute [local go_sem ↓] Go.wp_at_zero Go.wp_at_succ
attribute [-go_sem] loadVar storeVar
theorem ZpY(w:World):Fd w.heap.size (w.heap.size+1) w.heap.size [] [] (.slice none 0 0) ((w.alloc (.map #[] 0)).alloc (.cells #[.map (some w.heap.size),.slice none 0 0] 391)):=by
 have hA:=Zp (w:=w.alloc (.map #[] 0)) (.cells #[.map (some w.heap.size),.slice none 0 0] 391);have hR:=Zk (w.alloc (.map #[] 0)) #[.map (some w.heap.size),.slice none 0 0] 391;have hz:(w.alloc (.map #[] 0)).heap.size=w.heap.size+1:=by simp
 rw[hz]at hR;refine⟨hR,World.ownsRow_nil _ _ _ _,(MapV.made w).of_block (hA.block _ (by rw[hz];omega)),by simp,by simp,fun x hx=>(by cases hx),⟨by omega,Nat.le_refl _,fun x hx=>(by cases hx)⟩,⟨by omega,fun x hx=>(by cases hx)⟩,fun g hg=>by simp[Value.ownBlock]at hg,fun n hn=>(by cases hn)⟩
theorem ZoI{u:World}{a:Addr}{b:Option Addr}{n c:Nat}(h:u.cell? a=some (.slice b n c)):(loadVar 26 a).run Tryz.prog u=.ok (.slice b n c) u:=by rw[loadVar.eq_1];go_simp
theorem ZpZ{u:World}{a:Addr}{s:ByteArray}(h:u.cell? a=some (.string s)):(loadVar 9 a).run Tryz.prog u=.ok (.string s) u:=by rw[loadVar.eq_1];go_simp
structure Fnd (B bf bm z0:Nat) (w0 w2:World) (vs:List Vb) (fs:List ByteArray) (sv:Value) (w:World):Prop where
 fd:Fd B bf bm vs fs sv w
 bl:Below B w0 w
 fp:∀k,FP bf bm vs sv k→k<z0∨w2.heap.size≤k
 kp:∀k,z0≤k→k<w2.heap.size→w.heap[k]?=w2.heap[k]?
 zz:B≤w2.heap.size∧w2.heap.size≤w.heap.size∧B≤z0
theorem Fnd.more{B bf bm z0:Nat}{w0 w2:World}{vs vs':List Vb}{fs:List ByteArray}{sv:Value}{w w':World}{n:ByteArray}(h:Fnd B bf bm z0 w0 w2 vs fs sv w)(hf:Fd B bf bm vs' fs sv w')(hm:∃m,vs'=vs++m∧∀y∈m,w.heap.size≤y.b∧y.v=n)(ht:Tz (fun k=>k=bm) w w'):Fnd B bf bm z0 w0 w2 vs' fs sv w':=by
 obtain⟨m,rfl,hm⟩:=hm;have hz:=h.zz;have hs:=ht.size;refine⟨hf,Tz.below h.bl ht (by omega) (fun b e=>by rw[e];exact h.fd.lo.2.1),?_,fun k h1 h2=>?_,⟨hz.1,by omega,hz.2.2⟩⟩
 ·rintro k (e | e | e | ⟨x,hx,e⟩)
  ·exact h.fp k (.inl e)
  ·exact h.fp k (.inr (.inl e))
  ·exact h.fp k (.inr (.inr (.inl e)))
  ·rcases List.mem_append.1 hx with hx | hx
   ·exact h.fp k (.inr (.inr (.inr ⟨x,hx,e⟩)))
   ·have:=(hm x hx).1;exact .inr (by omega)
 ·rw[ht.block k (by omega) (fun e=>by have:=h.fp k (.inr (.inl e));omega)];exact h.kp k h1 h2
theorem Fnd.found{B bf bm z0:Nat}{w0 w2:World}{vs:List Vb}{fs fs':List ByteArray}{sv sv':Value}{w w':World}(h:Fnd B bf bm z0 w0 w2 vs fs sv w)(hf:Fd B bf bm vs fs' sv' w')(ht:Tz (FP bf bm vs sv) w w')(hn:∀g,sv'.ownBlock=some g→sv.ownBlock=some g∨w.heap.size≤g):Fnd B bf bm z0 w0 w2 vs fs' sv' w':=by
 have hz:=h.zz;have hs:=ht.size;refine⟨hf,Tz.below h.bl ht (by omega) h.fd.ge,?_,fun k h1 h2=>?_,⟨hz.1,by omega,hz.2.2⟩⟩
 ·rintro k (e | e | e | e)
  ·exact h.fp k (.inl e)
  ·exact h.fp k (.inr (.inl e))
  ·rcases hn k e with e | e
   ·exact h.fp k (.inr (.inr (.inl e)))
   ·exact .inr (by omega)
  ·exact h.fp k (.inr (.inr (.inr e)))
 ·rw[ht.block k (by omega) (fun e=>by have:=h.fp k e;omega)];exact h.kp k h1 h2
theorem Zla:∀(d:Nat) (l:List XL),(eqL d l).length≤l.length
 | d,[]=>Nat.le_refl _
 | d,y::l=>by
  have:=Zla d l;unfold eqL at this⊢;rw[List.flatMap_cons,List.length_append,List.length_cons];have:(eqX d y).length≤1:=by unfold eqX;split<;>simp
  omega
theorem Zp0(d:Nat)(l:List XL):∀q∈eqL d l,OkQ q:=by
 intro q hq;unfold eqL at hq;obtain⟨y,_,hq⟩:=List.mem_flatMap.1 hq;unfold eqX at hq
 split at hq
 ·rw[List.mem_singleton.1 hq];exact⟨Zld _ _,Zld _ _⟩
 ·cases hq
theorem ZiM{l:List ByteArray}{k:Nat}(h:k<l.length)(o:List ByteArray):(l.take (k+1)).foldl Zby o=Zby ((l.take k).foldl Zby o) (atS l k):=by rw[ZpF h,List.foldl_append];rfl
theorem ZfB(l:List ByteArray)(k:Nat):((l.take k).foldl Zby []).length≤l.length:=by
 have:=ZeK (l.take k) [];rw[List.length_take]at this;simp only[List.length_nil]at this;omega
theorem Rz.names{w:World}{d:Nat}{e:E}{a:Option Addr}{c:Nat}(h:EIs w d e a c):∀n∈vsT [] (Zg d e),n.size≤maxLen:=fun n hn=>by
 rcases ZbS _ _ _ hn with k | ⟨t,ht,rfl⟩
 ·cases k
 ·exact(Zbm d e a c h t ht).text
theorem Znm{w:World}{v:Value}{d:Nat}{l:List XL}(h:Lb w v d l):∀n∈avL l,n.size≤maxLen:=fun n hn=>by
 unfold avL at hn;obtain⟨y,hy,hn⟩:=List.mem_flatMap.1 hn;unfold avX at hn
 split at hn
 ·rcases ZbS _ _ _ hn with k | ⟨t,ht,rfl⟩
  ·cases k
  ·exact((h.each y hy).ts.wf t ht).text
 ·cases hn
def Zlb:Option Value→Nat | some (.slice _ n _)=>n | _=>0
theorem Znn{B bf bm bw lb:Nat}{w0:World}{vs:List Vb}{fs:List ByteArray}{sv svw:Value}{L:List Er}{u:World}{d:Nat}{y:XL}(h:Lst B bf bm bw w0 vs fs sv svw L u)(hL:LIs u (d+1) y.x y.p)(hB:B≤u.heap.size)(hb:RL u lb 105 y.cells)(hlb:¬ FP bf bm vs sv lb)(hlw:¬ WP bw svw lb)
  (hs:szD (d+1) y.x.l≤1048576∧szD (d+1) y.x.r≤1048576) (hl:L.length≤1000000000) (hEB:∀u',Tz (fun k=>k=bm) u u'→LIs u' (d+1) y.x y.p) :
  Calls Tryz.prog 292 #[.pointer (some ⟨bf,0,none⟩),y.x.l.val y.p.la y.p.lc] u fun e u1=>∃o1 a1 n1 c1,e=.returned (.agg #[.pointer o1,.slice a1 n1 c1])∧RL u1 lb 105 y.cells ∧
   Calls Tryz.prog 292 #[.pointer (some ⟨bf,0,none⟩),y.x.r.val y.p.ra y.p.rc] u1 fun e u2=>∃o2 a2 n2 c2,e=.returned (.agg #[.pointer o2,.slice a2 n2 c2])∧RL u2 lb 105 y.cells∧RL (u2.alloc (.cells #[.pointer o1,.slice a1 n1 c1,.pointer o2,.slice a2 n2 c2] 405)) lb 105 y.cells ∧
    Calls Tryz.prog 291 #[.pointer (some ⟨bw,0,none⟩),.pointer (some ⟨u2.heap.size,0,none⟩)] (u2.alloc (.cells #[.pointer o1,.slice a1 n1 c1,.pointer o2,.slice a2 n2 c2] 405)) fun e u3=>∃v3,e=.returned v3∧RL u3 lb 105 y.cells ∧
     ∃vs' svw' r,r.q=(sdE (d+1) y.x.l,sdE (d+1) y.x.r)∧Lst B bf bm bw w0 vs' fs sv svw' (L++[r]) u3:=by
 have hlen:∀e:E,szD (d+1) e≤1048576→(vsT [] (Zg (d+1) e)).length≤1048576:=fun e he=>by
  have:=Zaw (Zg (d+1) e) [];unfold szD at he;simp only[List.length_nil]at this;omega
 have hlb2:lb≠bm:=fun e=>hlb (.inr (.inl e))
 have hlbl:=World.rowIs.lt hb;refine(ZiO h.fd hB d y.x.l y.p.la y.p.lc hL.l hs.1 (hlen _ hs.1) (Rz.names hL.l)).mono ?_;intro e u1 hsi;obtain⟨vs1,l0,x0,a0,c0,rfl,h1,n0,lq0,e0,f0,m0,i0,t1,sub1,_⟩:=h.side hsi;obtain⟨o1,ho1⟩:=ZgX l0;have hb1:RL u1 lb 105 y.cells:=World.rowIs.of_block hb (t1.block lb hlbl hlb2);refine⟨o1,a0,x0.length,c0,by rw[ho1],hb1,?_⟩;have hL1:=hEB u1 t1;refine(ZiO h1.fd (Nat.le_trans hB t1.size) d y.x.r y.p.ra y.p.rc hL1.r hs.2 (hlen _ hs.2) (Rz.names hL1.r)).mono ?_
 intro e u2 hsi2;obtain⟨vs2,l1,x1,a1,c1,rfl,h2,n1,lq1,e1,f1,m1,i1,t2,sub2,hk2⟩:=h1.side hsi2;obtain⟨o2,ho2⟩:=ZgX l1;have hb2:RL u2 lb 105 y.cells:=World.rowIs.of_block hb1 (t2.block lb (World.rowIs.lt hb1) hlb2);obtain⟨n0',lq0'⟩:=hk2 a0 c0 x0 n0 lq0;have hA:=Zp (w:=u2) (.cells #[Z6 l0,.slice a0 x0.length c0,Z6 l1,.slice a1 x1.length c1] 405);have hb3:=hb2.below hA;refine⟨o2,a1,x1.length,c1,by rw[ho2],hb2,by rw[←ho1,←ho2];exact hb3,?_⟩
 rw[←ho1,←ho2];refine(ZoH (h2.wk.keep (fun k hk=>hA.block k (h2.wk.lt k hk))) (Nat.le_trans h2.zz hA.size) u2.heap.size (by rw[List.length_map];exact hl)).mono ?_;rintro e u3 ⟨⟨v3,rfl⟩,svw',hw,ht,hn⟩;obtain⟨r,hq,h3⟩:=h2.add n0' n1 lq0' lq1 e0 e1 f0 f1 (fun x hx=>sub2 x (m0 x hx)) m1 (fun x hx=>sub2 x (i0 x hx)) i1 hw ht hn;exact⟨v3,rfl,World.rowIs.of_block hb3 (ht.block lb (World.rowIs.lt hb3) hlw),vs2,svw',r,hq,h3⟩
end
end Go.Proofs.YtjdnpgpbeppgjaaGreatDoor
