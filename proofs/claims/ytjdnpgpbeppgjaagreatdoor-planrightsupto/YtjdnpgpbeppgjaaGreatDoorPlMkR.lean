import Derived.Test.YtjdnpgpbeppgjaaGreatDoorA21
import Derived.Test.YtjdnpgpbeppgjaaGreatDoorPlStR
import Derived.Test.YtjdnpgpbeppgjaaGreatDoorApRulF
set_option linter.unusedSimpArgs false
set_option linter.unusedVariables false
set_option maxHeartbeats 3200000
namespace Go.Proofs.YtjdnpgpbeppgjaaGreatDoor
open Go.RowKit Go.Maps Go.Shelf
attribute [local go_sem ↓] Go.wp_at_zero Go.wp_at_succ
attribute [local go_sem] Oper.semAt_some
attribute [-go_sem] loadVar
def pl4(w:World)(b:Nat)(pr:ByteArray)(ra:Option Addr)(rn rc:Nat)(ba:Option Addr)(bn bc:Nat)(aa:Option Addr)(nn cc:Nat):World:=(((w.setCell ⟨b,0,none⟩ (.string pr)).setCell ⟨b,1,none⟩ (.slice ra rn rc)).setCell ⟨b,2,none⟩ (.slice ba bn bc)).setCell ⟨b,3,none⟩ (.slice aa nn cc)
theorem Zcr(w:World)(g:Nat)(pr:ByteArray)(ra:Option Addr)(rn rc:Nat)(ba:Option Addr)(bn bc:Nat)(aa:Option Addr)(nn cc:Nat){b:Nat}(hne:b≠g):(pl4 w g pr ra rn rc ba bn bc aa nn cc).heap[b]?=w.heap[b]?:=by
 unfold pl4;rw[Below.heap_setCell _ _ _ _ hne,Below.heap_setCell _ _ _ _ hne,Below.heap_setCell _ _ _ _ hne,Below.heap_setCell _ _ _ _ hne]
theorem Zkr{w:World}{g:Nat}{t:TypeId}{a b c d:Value}(h:RL w g t [a,b,c,d])(pr:ByteArray)(ra:Option Addr)(rn rc:Nat)(ba:Option Addr)(bn bc:Nat)(aa:Option Addr)(nn cc:Nat):RL (pl4 w g pr ra rn rc ba bn bc aa nn cc) g t [.string pr,.slice ra rn rc,.slice ba bn bc,.slice aa nn cc]:=(((h.set 0 _).set 1 _).set 2 _).set 3 _
theorem ZeN{B:Nat}{w0 w:World}(h:Below B w0 w){g:Nat}(hg:B≤g)(pr:ByteArray)(ra:Option Addr)(rn rc:Nat)(ba:Option Addr)(bn bc:Nat)(aa:Option Addr)(nn cc:Nat):Below B w0 (pl4 w g pr ra rn rc ba bn bc aa nn cc):=
 (((h.setCell (p:=⟨g,0,none⟩) hg _).setCell (p:=⟨g,1,none⟩) hg _).setCell (p:=⟨g,2,none⟩) hg _).setCell (p:=⟨g,3,none⟩) hg _
theorem Zi2(ev:Operand→Value)(o:Oper){x y:Operand}(hop:o.op=.build 32 #[(0,x),(1,y)])(w:World){pr:ByteArray}{ra ba:Option Addr}{rn rc bn bc:Nat}{aa:Option Addr}{nn cc:Nat}(hx:ev x=.agg #[.string pr,.slice ra rn rc,.slice ba bn bc])(hy:ev y=.slice aa nn cc):(execOp ev o).run Tryz.prog w=.ok (.value (.agg #[.string pr,.slice ra rn rc,.slice ba bn bc,.slice aa nn cc])) w:=by
 simp only[execOp,hop];simp only[List.map_toArray,List.map_cons,List.map_nil,Array.map,hx,hy];go_simp
theorem Zi3(ev:Operand→Value)(o:Oper){x y:Operand}(hop:o.op=.store 32 x y)(w:World){b:Nat}{pr:ByteArray}{ra ba:Option Addr}{rn rc bn bc:Nat}{aa:Option Addr}{nn cc:Nat}{t0 t1 t2 t3:Value}(hx:ev x=.pointer (some ⟨b,0,none⟩))(hy:ev y=.agg #[.string pr,.slice ra rn rc,.slice ba bn bc,.slice aa nn cc])(hr:RL w b 32 [t0,t1,t2,t3]) :
  (execOp ev o).run Tryz.prog w=.ok .skip (pl4 w b pr ra rn rc ba bn bc aa nn cc):=by
 have c0:=hr.at (j:=0) rfl;have c1:=hr.at (j:=1) rfl;have c2:=hr.at (j:=2) rfl;have c3:=hr.at (j:=3) rfl;have f0:=World.rowIs.frozen hr 0;have f1:=World.rowIs.frozen hr 1;have f2:=World.rowIs.frozen hr 2;have f3:=World.rowIs.frozen hr 3;unfold pl4;simp only[execOp,hop,hx,hy];go_simp
def ZdN:List (List Nat × Nat):=[([],0),([0],1),([0,1],2),([0,1,2,3],4),([0,1,2,3,4,5],6)]
theorem Zqt{ops:Array Oper}{Q:Exit→Act→World→Prop}{S:World→Prop}{a0:Act}{w5:World}{tb b6 b10:Nat}{first:Int}{pr:ByteArray}{ra ba:Option Addr}{rn rc bn bc:Nat}{ty1:Array TypeId}{Pf:Option Addr→Nat→Nat→World→Prop}
  (q0:Zf ops 0 none (.load 25 (.tmp 10)) (some 36))
  (q1:Zf ops 1 none (.move (.tmp 8)) (some 37))
  (q2:Zf ops 2 none (.move (.tmp 2)) (some 38))
  (q3:Zf ops 3 none (.call {callee:=.value (.func 32),args:=#[.tmp 37,.tmp 38],argTypes:=ty1}) (some 39))
  (q4:Zf ops 4 none (.build 32 #[(0,.tmp 36),(1,.tmp 39)]) (some 40))
  (q5:Zf ops 5 none (.store 32 (.tmp 6) (.tmp 40)) none)
  (q6:Zf ops 6 none (.assign (.const (.int .i64 0))) (some 7))
  (hs:Region.noSelect ops=true) (hq:(ZdN.all fun p=>Region.free .any ops (LR 7 p.1) p.2&&(Region.ready .any ops (LR 7 p.1)).contains p.2)=true)
  (r3:Region.ready .any ops (LR 7 [0,1,2])=[3])
  (r5:Region.ready .any ops (LR 7 [0,1,2,3,4])=[5])
  (rend:Region.ready .any ops (LR 7 [0,1,2,3,4,5,6])=[])
  (hQ:∀(d:Option Tmp) (v:Value) c a w,Q (.panic c) (a.put d v) w→Q (.panic c) a w)
  (hsz:40<a0.tmps.size) (e2:a0.eval (.tmp 2)=.int .i64 first) (e6:a0.eval (.tmp 6)=.pointer (some ⟨b6,0,none⟩)) (e8:a0.eval (.tmp 8)=.pointer (some ⟨tb,0,none⟩)) (e10:a0.eval (.tmp 10)=.pointer (some ⟨b10,0,none⟩))
  (hS0:S w5.drew)
  (keep:∀u u',S u→S u'→S u') (LR0:∀u,S u→(loadVar 25 ⟨b10,0,none⟩).run Tryz.prog u=.ok (.agg #[.string pr,.slice ra rn rc,.slice ba bn bc]) u)
  (C1:Calls Tryz.prog 32 #[.pointer (some ⟨tb,0,none⟩),.int .i64 first] w5.drew fun e u1=>∃aa nn cc,e=.returned (.slice aa nn cc)∧S u1∧(∃t0 t1 t2 t3,RL u1 b6 32 [t0,t1,t2,t3])∧S (pl4 u1 b6 pr ra rn rc ba bn bc aa nn cc)∧Pf aa nn cc (pl4 u1 b6 pr ra rn rc ba bn bc aa nn cc))
  (F:∀(wc:World) (aa:Option Addr) (nn cc:Nat),Pf aa nn cc wc→Q .normal ((((((a0.put (some 36) (.agg #[.string pr,.slice ra rn rc,.slice ba bn bc])).put (some 37) (.pointer (some ⟨tb,0,none⟩))).put (some 38) (.int .i64 first)).put (some 39) (.slice aa nn cc)).put (some 40) (.agg #[.string pr,.slice ra rn rc,.slice ba bn bc,.slice aa nn cc])).put (some 7) (.int .i64 0)) wc) :
  wpAnyH Tryz.prog .any ops Q S 7 (LR 7 []) a0 w5.drew:=by
 have hall:∀p∈ZdN,Region.free .any ops (LR 7 p.1) p.2=true∧(Region.ready .any ops (LR 7 p.1)).contains p.2=true:=by
  intro p hp;have:=List.all_eq_true.1 hq p hp;simpa using this
 unfold ZdN at hall;refine Zj [] (.agg #[.string pr,.slice ra rn rc,.slice ba bn bc]) q0 hs (hall ([],0) (by simp)) hQ (fun o w' hop hS=>ZF _ _ hop w' (by(repeat rw[Za _ _ (by decide)]);exact e10) (LR0 _ hS)) hS0 ?_;refine Zj [0] (.pointer (some ⟨tb,0,none⟩)) q1 hs (hall ([0],1) (by simp)) hQ (fun o w' hop hS=>Zs _ _ hop w' (by(repeat rw[Za _ _ (by decide)]);exact e8)) hS0 ?_
 refine Zj [0,1] (.int .i64 first) q2 hs (hall ([0,1],2) (by simp)) hQ (fun o w' hop hS=>Zs _ _ hop w' (by(repeat rw[Za _ _ (by decide)]);exact e2)) hS0 ?_;refine wpAnyH_all r3 (by simp) ?_;intro i hi;obtain rfl:=List.mem_singleton.1 hi;obtain⟨o3,ho,hg,hop,hd⟩:=Zd q3;have x3_0:((((a0.put (some 36) (.agg #[.string pr,.slice ra rn rc,.slice ba bn bc])).put (some 37) (.pointer (some ⟨tb,0,none⟩))).put (some 38) (.int .i64 first))).eval (.tmp 37)=.pointer (some ⟨tb,0,none⟩):=(by(repeat(first | rw[Zc _ _ (by(try simp only[Zb]);omega)] | rw[Za _ _ (by decide)])))
 have x3_1:((((a0.put (some 36) (.agg #[.string pr,.slice ra rn rc,.slice ba bn bc])).put (some 37) (.pointer (some ⟨tb,0,none⟩))).put (some 38) (.int .i64 first))).eval (.tmp 38)=.int .i64 first:=(by(repeat(first | rw[Zc _ _ (by(try simp only[Zb]);omega)] | rw[Za _ _ (by decide)])))
 refine Zw ho (Zv hg) (ZC 32 Tryz.func32 (by kernel_rfl) (by kernel_rfl) #[.tmp 37,.tmp 38] _ hop #[.pointer (some ⟨tb,0,none⟩),.int .i64 first] (by simp only[List.map_toArray,List.map_cons,List.map_nil,x3_0,x3_1])) ?_;refine(C1).mono ?_;rintro e u1 ⟨aa,nn,cc,rfl,hS1,⟨t0,t1,t2,t3,hRB⟩,hSF,hP⟩;have hS3:=keep _ _ hS0 hS1;refine⟨_,rfl,hS3,?_⟩;rw[hd];clear ho hg hop hd;rw[←Zh]
 refine Zj [0,1,2,3] (.agg #[.string pr,.slice ra rn rc,.slice ba bn bc,.slice aa nn cc]) q4 hs (hall ([0,1,2,3],4) (by simp)) hQ (fun o w' hop hS=>Zi2 _ _ hop w' (by(repeat(first | rw[Zc _ _ (by(try simp only[Zb]);omega)] | rw[Za _ _ (by decide)]))) (by(repeat(first | rw[Zc _ _ (by(try simp only[Zb]);omega)] | rw[Za _ _ (by decide)])))) hS3 ?_;refine wpAnyH_all r5 (by simp) ?_
 intro i hi;obtain rfl:=List.mem_singleton.1 hi;obtain⟨o5,ho,hg,hop,hd⟩:=Zd q5;refine Zar ho (Zv hg) (Zi3 _ _ hop _ (by(repeat rw[Za _ _ (by decide)]);exact e6) (by(repeat(first | rw[Zc _ _ (by(try simp only[Zb]);omega)] | rw[Za _ _ (by decide)]))) hRB) ?_;have hS5:=hSF;refine⟨hS5,?_⟩;rw[hd,ZbL];clear ho hg hop hd;rw[←Zh];refine Zj [0,1,2,3,4,5] (.int .i64 0) q6 hs (hall ([0,1,2,3,4,5],6) (by simp)) hQ (fun o w' hop hS=>Zam _ _ hop w' rfl) hS5 ?_
 exact wpAnyH_done rend (F _ aa nn cc hP) _
end Go.Proofs.YtjdnpgpbeppgjaaGreatDoor
