import Derived.Test.YtjdnpgpbeppgjaaGreatDoorA16
import Derived.Test.YtjdnpgpbeppgjaaGreatDoorA11
set_option linter.unusedSimpArgs false
set_option linter.unusedVariables false
set_option maxHeartbeats 3200000
namespace Go.Proofs.YtjdnpgpbeppgjaaGreatDoor
open Go.RowKit Go.Maps Go.Shelf
attribute [local go_sem ↓] Go.wp_at_zero Go.wp_at_succ
attribute [local go_sem] Oper.semAt_some
attribute [-go_sem] loadVar
theorem Zf1(b:Array Value)(i:Nat):∀(js:List Nat) (t:Array Value),t.size=b.size→(js.foldl (fun t j=>t.setIfInBounds j (b.getD j undef)) t)[i]?=if i∈js then b[i]? else t[i]?
 | [],t,_=>by simp
 | j::js,t,h=>by
  rw[List.foldl_cons,Zf1 b i js _ (by simpa using h)]
  by_cases h1:i∈js
  ·simp[h1]
  ·rw[if_neg h1]
   by_cases h2:i=j
   ·subst h2;rw[if_pos List.mem_cons_self]
    by_cases h3:i<t.size
    ·rw[Array.getElem?_setIfInBounds_self_of_lt h3,Array.getD_eq_getD_getElem?,Array.getElem?_eq_getElem (by omega)];rfl
    ·rw[Array.getElem?_eq_none (by simp;omega),Array.getElem?_eq_none (by omega)]
   ·rw[if_neg (by simp[h1,h2]),Array.getElem?_setIfInBounds_ne (Ne.symm h2)]
def Ag(js:List Nat)(a0 a:Act):Prop:=a.tmps.size=a0.tmps.size∧a.defers=a0.defers∧∀i,i ∉ js→a.tmps[i]?=a0.tmps[i]?
theorem Ag.refl(js:List Nat)(a:Act):Ag js a a:=⟨rfl,rfl,fun _ _=>rfl⟩
theorem Ag.put{js:List Nat}{a0 a:Act}(h:Ag js a0 a){i:Nat}(hi:i∈js)(v:Value):Ag js a0 (a.put (some i) v):=
 ⟨by simpa[Act.put]using h.1,h.2.1,fun k hk=>by
  rw[show(a.put (some i) v).tmps=a.tmps.setIfInBounds i v from rfl,Array.getElem?_setIfInBounds_ne (by rintro rfl;exact hk hi)];exact h.2.2 k hk⟩
theorem Ag.form{js:List Nat}{a0 a:Act}(h:Ag js a0 a):a={a0 with tmps:=js.foldl (fun t j=>t.setIfInBounds j (a.tmps.getD j undef)) a0.tmps}:=by
 obtain⟨h1,h2,h3⟩:=h
 cases a with
 | mk t ds=>
  simp only at h1 h2 h3⊢;subst h2
  congr 1
  apply Array.ext_getElem?;intro i;rw[Zf1 t i js _ h1.symm]
  by_cases hi:i∈js
  ·rw[if_pos hi]
  ·rw[if_neg hi,h3 i hi]
theorem Zar{P:Program}{ops:Array Oper}{Q:Exit→Act→World→Prop}{K:Act→World→Prop}{i:Nat}{a:Act}{w w':World}{o:Oper}(hi:ops[i]?=some o)(hw:Region.wanted o (yielded ops a.tmps)=true)(hrun:(execOp a.eval o).run P w=.ok .skip w')(hK:K (a.put o.dst undef) w'):wpOp P ops Q i K a w:=by
 unfold wpOp;rw[hi];simp only[hw,if_true];refine Or.inl ?_;unfold Oper.wp;rw[hrun];exact hK
theorem Zmn(ev:Operand→Value)(o:Oper){x:Operand}(hop:o.op=.extract x 0)(w:World){u v:Value}(hx:ev x=.tuple #[u,v]):(execOp ev o).run Tryz.prog w=.ok (.value u) w:=by
 simp only[execOp,hop,hx];go_simp
theorem Zmo(ev:Operand→Value)(o:Oper){x:Operand}(hop:o.op=.extract x 1)(w:World){u v:Value}(hx:ev x=.tuple #[u,v]):(execOp ev o).run Tryz.prog w=.ok (.value v) w:=by
 simp only[execOp,hop,hx];go_simp
theorem ZF(ev:Operand→Value)(o:Oper){ty:TypeId}{x:Operand}(hop:o.op=.load ty x)(w:World){a:Addr}{v:Value}(hx:ev x=.pointer (some a))(hl:(loadVar ty a).run Tryz.prog w=.ok v w):(execOp ev o).run Tryz.prog w=.ok (.value v) w:=by
 simp only[execOp,hop,hx];simp[Instr.loadAt,Instr.sureAddr,hl,Result.andThen]
theorem ZV{js:List Nat}{a0 a:Act}(h:Ag js a0 a){i:Nat}(v:Value)(hi:i<a0.tmps.size):(a.put (some i) v).eval (.tmp i)=v:=Zc a v (by rw[h.1];exact hi)
theorem ZbL(a:Act)(v:Value):a.put none v=a:=rfl
theorem ZnL(ev:Operand→Value)(o:Oper){x:Operand}(hop:o.op=.call {callee:=.builtin .len,args:=#[x],argTypes:=#[26]})(w:World){a:Option Addr}{n c:Nat}(hx:ev x=.slice a n c):(execOp ev o).run Tryz.prog w=.ok (.value (.int .i64 (n:Int))) w:=by
 simp only[execOp,hop];simp[resolve,invoke,builtin,hx,Builtin.lenOf,Result.andThen,go_sem]
theorem ZcM(ev:Operand→Value)(o:Oper){x:Operand}(hop:o.op=.fieldAddr 133 x 1)(w:World){b:Nat}(hx:ev x=.pointer (some ⟨b,0,none⟩)):(execOp ev o).run Tryz.prog w=.ok (.value (.pointer (some ⟨b,1,none⟩))) w:=by
 simp only[execOp,hop,hx];go_simp
theorem ZcN(ev:Operand→Value)(o:Oper){x:Operand}(hop:o.op=.fieldAddr 105 x 1)(w:World){b:Nat}(hx:ev x=.pointer (some ⟨b,0,none⟩)):(execOp ev o).run Tryz.prog w=.ok (.value (.pointer (some ⟨b,1,none⟩))) w:=by
 simp only[execOp,hop,hx];go_simp
theorem Zf2(ev:Operand→Value)(o:Oper){x:Operand}(hop:o.op=.fieldAddr 93 x 1)(w:World){b:Nat}(hx:ev x=.pointer (some ⟨b,1,none⟩)):(execOp ev o).run Tryz.prog w=.ok (.value (.pointer (some ⟨b,2,none⟩))) w:=by
 simp only[execOp,hop,hx];go_simp
theorem Zkv(ev:Operand→Value)(o:Oper){x:Operand}(hop:o.op=.fieldAddr 84 x 0)(w:World){b:Nat}(hx:ev x=.pointer (some ⟨b,0,none⟩)):(execOp ev o).run Tryz.prog w=.ok (.value (.pointer (some ⟨b,0,none⟩))) w:=by
 simp only[execOp,hop,hx];go_simp
theorem ZbC(ev:Operand→Value)(o:Oper){x:Operand}(hop:o.op=.fieldAddr 84 x 3)(w:World){b:Nat}(hx:ev x=.pointer (some ⟨b,0,none⟩)):(execOp ev o).run Tryz.prog w=.ok (.value (.pointer (some ⟨b,3,none⟩))) w:=by
 simp only[execOp,hop,hx];go_simp
def st4(w:World)(b:Nat)(k i m:Int)(v:Value):World:=(((w.setCell ⟨b,0,none⟩ (.int .i8 k)).setCell ⟨b,1,none⟩ (.int .i64 i)).setCell ⟨b,2,none⟩ (.int .u32 m)).setCell ⟨b,3,none⟩ v
theorem ZW{B:Nat}{w0 w:World}(h:Below B w0 w){g:Nat}(hg:B≤g)(k i m:Int)(v:Value):Below B w0 (st4 w g k i m v):=
 (((h.setCell (p:=⟨g,0,none⟩) hg _).setCell (p:=⟨g,1,none⟩) hg _).setCell (p:=⟨g,2,none⟩) hg _).setCell (p:=⟨g,3,none⟩) hg _
theorem Za3{w:World}{g:Nat}{t:TypeId}{a b c d:Value}(h:RL w g t [a,b,c,d])(k i m:Int)(v:Value):RL (st4 w g k i m v) g t [.int .i8 k,.int .i64 i,.int .u32 m,v]:=(((h.set 0 _).set 1 _).set 2 _).set 3 _
theorem Ze3(ev:Operand→Value)(o:Oper)(hop:o.op=.alloc 84)(w:World):(execOp ev o).run Tryz.prog w=.ok (.value (.pointer (some ⟨w.heap.size,0,none⟩))) (w.alloc (.cells #[.int .i8 0,.int .i64 0,.int .u32 0,.slice none 0 0] 84)):=by
 simp only[execOp,hop];go_simp
theorem Zcc(ev:Operand→Value)(o:Oper){x y:Operand}(hop:o.op=.store 84 x y)(w:World){b:Nat}{k i m:Int}{a:Option Addr}{n c:Nat}{t0 t1 t2 t3:Value}(hx:ev x=.pointer (some ⟨b,0,none⟩))(hy:ev y=.agg #[.int .i8 k,.int .i64 i,.int .u32 m,.slice a n c])(hr:RL w b 84 [t0,t1,t2,t3]) :
  (execOp ev o).run Tryz.prog w=.ok .skip (st4 w b k i m (.slice a n c)):=by
 have c0:=hr.at (j:=0) rfl;have c1:=hr.at (j:=1) rfl;have c2:=hr.at (j:=2) rfl;have c3:=hr.at (j:=3) rfl;have f0:=World.rowIs.frozen hr 0;have f1:=World.rowIs.frozen hr 1;have f2:=World.rowIs.frozen hr 2;have f3:=World.rowIs.frozen hr 3;unfold st4;simp only[execOp,hop,hx,hy];go_simp
theorem Ze4(ev:Operand→Value)(o:Oper){x y:Operand}(hop:o.op=.build 84 #[(1,x),(2,y)])(w:World){i m:Int}(hx:ev x=.int .i64 i)(hy:ev y=.int .u32 m):(execOp ev o).run Tryz.prog w=.ok (.value (.agg #[.int .i8 0,.int .i64 i,.int .u32 m,.slice none 0 0])) w:=by
 simp only[execOp,hop];simp only[List.map_toArray,List.map_cons,List.map_nil,Array.map,hx,hy];go_simp
theorem Zcd(ev:Operand→Value)(o:Oper){x y:Operand}(hop:o.op=.store 26 x y)(w:World){b:Nat}{a:Option Addr}{n c:Nat}{t0 t1 t2 t3:Value}(hx:ev x=.pointer (some ⟨b,3,none⟩))(hy:ev y=.slice a n c)(hr:RL w b 84 [t0,t1,t2,t3]) :
  (execOp ev o).run Tryz.prog w=.ok .skip (w.setCell ⟨b,3,none⟩ (.slice a n c)):=by
 have c3:=hr.at (j:=3) rfl;have f3:=World.rowIs.frozen hr 3;simp only[execOp,hop,hx,hy];go_simp
theorem Zjc(ev:Operand→Value)(o:Oper){x y:Operand}(hop:o.op=.store 80 x y)(w:World){b:Nat}{k:Int}{t0 t1 t2 t3:Value}(hx:ev x=.pointer (some ⟨b,0,none⟩))(hy:ev y=.int .i8 k)(hr:RL w b 84 [t0,t1,t2,t3]) :
  (execOp ev o).run Tryz.prog w=.ok .skip (w.setCell ⟨b,0,none⟩ (.int .i8 k)):=by
 have c0:=hr.at (j:=0) rfl;have f0:=World.rowIs.frozen hr 0;simp only[execOp,hop,hx,hy];go_simp
def Zce:List Nat:=[7,15,16,17,18,19,20,21,22,23,24]
def ZdO:List (List Nat × Nat):=[([],0),([0],1),([0,1],2),([0,1,2],3),([0,1,2,3],4),([0,1,2,3,4],5),([0,1,2,3,4,5],6),([0,1,2,3,4,5,6],7),([0,1,2,3,4,5,6,7,8],9),([0,1,2,3,4,5,6,7,10,8],9)]
theorem ZqO{ops:Array Oper}{Q:Exit→Act→World→Prop}{a0:Act}{w5:World}{tb b6 kb:Nat}{k m:Int}{av:Value}{t1:Array TypeId}
  (q0:Zf ops 0 none (.move (.tmp 1)) (some 15))
  (q1:Zf ops 1 none (.move (.tmp 0)) (some 16))
  (q2:Zf ops 2 none (.nilCheck (.tmp 16)) (some 17))
  (q3:Zf ops 3 none (.fieldAddr 133 (.tmp 17) 1) (some 18))
  (q4:Zf ops 4 none (.load 130 (.tmp 18)) (some 19))
  (q5:Zf ops 5 none (.fieldAddr 105 (.tmp 6) 1) (some 20))
  (q6:Zf ops 6 none (.fieldAddr 93 (.tmp 20) 1) (some 21))
  (q7:Zf ops 7 none (.load 91 (.tmp 21)) (some 22))
  (q8:Zf ops 8 none (.call {callee:=.value (.func 207),args:=#[.tmp 19,.tmp 22],argTypes:=t1}) (some 23))
  (q9:Zf ops 9 none (.build 84 #[(1,.tmp 15),(2,.tmp 23)]) (some 24))
  (q10:Zf ops 10 none (.alloc 84) (some 7))
  (q11:Zf ops 11 none (.store 84 (.tmp 7) (.tmp 24)) none)
  (hs:Region.noSelect ops=true) (hq:(ZdO.all fun p=>Region.free .any ops (LR 12 p.1) p.2&&(Region.ready .any ops (LR 12 p.1)).contains p.2)=true)
  (r0F:Region.ready .any ops (LR 12 [0,1,2,3,4,5,6,7])=[8,10]) (r0T:Region.ready .any ops (LR 12 [0,1,2,3,4,5,6,7,10])=[8])
  (r1F:Region.ready .any ops (LR 12 [0,1,2,3,4,5,6,7,8,9])=[10]) (r1T:Region.ready .any ops (LR 12 [0,1,2,3,4,5,6,7,8,9,10])=[11]) (r1U:Region.ready .any ops (LR 12 [0,1,2,3,4,5,6,7,10,8,9])=[11])
  (rendT:Region.ready .any ops (LR 12 [0,1,2,3,4,5,6,7,8,9,10,11])=[]) (rendU:Region.ready .any ops (LR 12 [0,1,2,3,4,5,6,7,10,8,9,11])=[])
  (hQ:∀(d:Option Tmp) (v:Value) c a w,Q (.panic c) (a.put d v) w→Q (.panic c) a w)
  (hsz:24<a0.tmps.size) (e0:a0.eval (.tmp 0)=.pointer (some ⟨tb,0,none⟩)) (e1:a0.eval (.tmp 1)=.int .i64 k) (e6:a0.eval (.tmp 6)=.pointer (some ⟨b6,0,none⟩))
  (LK:∀u,Below w5.heap.size w5 u→(loadVar 130 ⟨tb,1,none⟩).run Tryz.prog u=.ok (.map (some kb)) u) (LA:∀u,Below w5.heap.size w5 u→(loadVar 91 ⟨b6,2,none⟩).run Tryz.prog u=.ok av u)
  (C1:∀u,Below w5.heap.size w5 u→Calls Tryz.prog 207 #[.map (some kb),av] u fun e w'=>e=.returned (.int .u32 m)∧Below u.heap.size u w')
  (F:∀(a:Act) (wc:World) (b20:Nat),Ag Zce a0 a→a.eval (.tmp 7)=.pointer (some ⟨b20,0,none⟩)→RL wc b20 84 [.int .i8 0,.int .i64 k,.int .u32 m,.slice none 0 0]→w5.heap.size≤b20→Below w5.heap.size w5 wc→Q .normal a wc) :
  wpAnyH Tryz.prog .any ops Q (fun u=>Below w5.heap.size w5 u) 12 (LR 12 []) a0 w5.drew:=by
 have hall:∀p∈ZdO,Region.free .any ops (LR 12 p.1) p.2=true∧(Region.ready .any ops (LR 12 p.1)).contains p.2=true:=by
  intro p hp;have:=List.all_eq_true.1 hq p hp;simpa using this
 unfold ZdO at hall;have kS:∀{u u':World},Below w5.heap.size w5 u→Below u.heap.size u u'→Below w5.heap.size w5 u':=fun h b=>h.trans (b.mono h.size)
 have kA:∀{u:World} (o:Obj),Below u.heap.size u (u.alloc o):=fun o=>(Below.refl _ _).alloc (Nat.le_refl _) _
 have P1T:∀(a:Act) (u:World) (b20:Nat),Ag Zce a0 a→a.eval (.tmp 24)=.agg #[.int .i8 0,.int .i64 k,.int .u32 m,.slice none 0 0]→a.eval (.tmp 7)=.pointer (some ⟨b20,0,none⟩)→RL u b20 84 [.int .i8 0,.int .i64 0,.int .u32 0,.slice none 0 0]→w5.heap.size≤b20→Below w5.heap.size w5 u→wpAnyH Tryz.prog .any ops Q (fun u=>Below w5.heap.size w5 u) 1 (LR 12 [0,1,2,3,4,5,6,7,8,9,10]) a u:=by
  intro a u b20 hA h0 h20 hR hb hS;refine wpAnyH_all r1T (by simp) ?_;intro i hi;obtain rfl:=List.mem_singleton.1 hi;obtain⟨o9,ho,hg,hop,hd⟩:=Zd q11;refine Zar ho (Zv hg) (Zcc _ _ hop u h20 h0 hR) ?_;have hS':Below w5.heap.size w5 (st4 u b20 0 k m (.slice none 0 0)):=ZW hS hb _ _ _ _;refine⟨hS',?_⟩;rw[hd];show wpAnyH _ _ _ _ _ 0 (LR 12 [0,1,2,3,4,5,6,7,8,9,10,11]) a _
  exact wpAnyH_done rendT (F _ _ b20 hA h20 (Za3 hR 0 k m _) hb hS') _
 have P1U:∀(a:Act) (u:World) (b20:Nat),Ag Zce a0 a→a.eval (.tmp 24)=.agg #[.int .i8 0,.int .i64 k,.int .u32 m,.slice none 0 0]→a.eval (.tmp 7)=.pointer (some ⟨b20,0,none⟩)→RL u b20 84 [.int .i8 0,.int .i64 0,.int .u32 0,.slice none 0 0]→w5.heap.size≤b20→Below w5.heap.size w5 u→wpAnyH Tryz.prog .any ops Q (fun u=>Below w5.heap.size w5 u) 1 (LR 12 [0,1,2,3,4,5,6,7,10,8,9]) a u:=by
  intro a u b20 hA h0 h20 hR hb hS;refine wpAnyH_all r1U (by simp) ?_;intro i hi;obtain rfl:=List.mem_singleton.1 hi;obtain⟨o9,ho,hg,hop,hd⟩:=Zd q11;refine Zar ho (Zv hg) (Zcc _ _ hop u h20 h0 hR) ?_;have hS':Below w5.heap.size w5 (st4 u b20 0 k m (.slice none 0 0)):=ZW hS hb _ _ _ _;refine⟨hS',?_⟩;rw[hd];show wpAnyH _ _ _ _ _ 0 (LR 12 [0,1,2,3,4,5,6,7,10,8,9,11]) a _
  exact wpAnyH_done rendU (F _ _ b20 hA h20 (Za3 hR 0 k m _) hb hS') _
 have P1F:∀(a:Act) (u:World),Ag Zce a0 a→a.eval (.tmp 24)=.agg #[.int .i8 0,.int .i64 k,.int .u32 m,.slice none 0 0]→Below w5.heap.size w5 u→wpAnyH Tryz.prog .any ops Q (fun u=>Below w5.heap.size w5 u) 2 (LR 12 [0,1,2,3,4,5,6,7,8,9]) a u:=by
  intro a u hA h0 hS;refine wpAnyH_all r1F (by simp) ?_;intro i hi;obtain rfl:=List.mem_singleton.1 hi;obtain⟨o8,ho,hg,hop,hd⟩:=Zd q10;refine ZaX ho (Zv hg) (Ze3 _ _ hop u) ⟨kS hS (kA _),?_⟩;rw[hd,←Zh];exact P1T _ _ u.heap.size (hA.put (by decide) _) (by rw[Za _ _ (by decide)];exact h0) (ZV hA _ (by omega)) (Zk u _ _) hS.size (kS hS (kA _))
 have P0T:∀(a:Act) (u:World) (b20:Nat),Ag Zce a0 a→a.eval (.tmp 15)=.int .i64 k→a.eval (.tmp 19)=.map (some kb)→a.eval (.tmp 22)=av→a.eval (.tmp 7)=.pointer (some ⟨b20,0,none⟩)→RL u b20 84 [.int .i8 0,.int .i64 0,.int .u32 0,.slice none 0 0]→w5.heap.size≤b20→Below w5.heap.size w5 u→wpAnyH Tryz.prog .any ops Q (fun u=>Below w5.heap.size w5 u) 3 (LR 12 [0,1,2,3,4,5,6,7,10]) a u:=by
  intro a u b20 hA f15 f19 f22 h20 hR hb hS;refine wpAnyH_all r0T (by simp) ?_;intro i hi;obtain rfl:=List.mem_singleton.1 hi;obtain⟨o8,ho,hg,hop,hd⟩:=Zd q8;refine Zw ho (Zv hg) (ZC 207 Tryz.func207 (by kernel_rfl) (by kernel_rfl) #[.tmp 19,.tmp 22] _ hop #[.map (some kb),av] (by simp only[List.map_toArray,List.map_cons,List.map_nil,f19,f22])) ?_;refine(C1 u hS).mono ?_;rintro e u1 ⟨rfl,b1⟩
  refine⟨_,rfl,kS hS b1,?_⟩;rw[hd,←Zh];clear ho hg hop hd;obtain⟨ob,ho,hg,hop,hd⟩:=Zd q9;have hfr:=hall ([0,1,2,3,4,5,6,7,10,8],9) (by simp);refine wpAnyH_take (listed:=LR 12 [0,1,2,3,4,5,6,7,10,8]) (v:=.agg #[.int .i8 0,.int .i64 k,.int .u32 m,.slice none 0 0]) ho hs hfr.1 hfr.2 (hQ _ _) (Or.inl ⟨Zv hg,fun w' hS=>Ze4 _ _ hop w' (by rw[Za _ _ (by decide)];exact f15) (ZV hA _ (by omega))⟩) (kS hS b1) ?_
  rw[hd,←Zh];exact P1U _ _ b20 ((hA.put (by decide) _).put (by decide) _) (ZV (hA.put (by decide) _) _ (by omega)) (by rw[Za _ _ (by decide),Za _ _ (by decide)];exact h20) (hR.below b1) hb (kS hS b1)
 have P0F:∀(a:Act) (u:World),Ag Zce a0 a→a.eval (.tmp 15)=.int .i64 k→a.eval (.tmp 19)=.map (some kb)→a.eval (.tmp 22)=av→Below w5.heap.size w5 u→wpAnyH Tryz.prog .any ops Q (fun u=>Below w5.heap.size w5 u) 4 (LR 12 [0,1,2,3,4,5,6,7]) a u:=by
  intro a u hA f15 f19 f22 hS;refine wpAnyH_all r0F (by simp) ?_;intro i hi;rcases List.mem_cons.1 hi with rfl | hi
  ·obtain⟨o8,ho,hg,hop,hd⟩:=Zd q8;refine Zw ho (Zv hg) (ZC 207 Tryz.func207 (by kernel_rfl) (by kernel_rfl) #[.tmp 19,.tmp 22] _ hop #[.map (some kb),av] (by simp only[List.map_toArray,List.map_cons,List.map_nil,f19,f22])) ?_;refine(C1 u hS).mono ?_;rintro e u1 ⟨rfl,b1⟩;refine⟨_,rfl,kS hS b1,?_⟩;rw[hd,←Zh];clear ho hg hop hd;obtain⟨ob,ho,hg,hop,hd⟩:=Zd q9;have hfr:=hall ([0,1,2,3,4,5,6,7,8],9) (by simp)
   refine wpAnyH_take (listed:=LR 12 [0,1,2,3,4,5,6,7,8]) (v:=.agg #[.int .i8 0,.int .i64 k,.int .u32 m,.slice none 0 0]) ho hs hfr.1 hfr.2 (hQ _ _) (Or.inl ⟨Zv hg,fun w' hS=>Ze4 _ _ hop w' (by rw[Za _ _ (by decide)];exact f15) (ZV hA _ (by omega))⟩) (kS hS b1) ?_;rw[hd,←Zh];exact P1F _ _ ((hA.put (by decide) _).put (by decide) _) (ZV (hA.put (by decide) _) _ (by omega)) (kS hS b1)
  ·obtain rfl:=List.mem_singleton.1 hi;obtain⟨o8,ho,hg,hop,hd⟩:=Zd q10;refine ZaX ho (Zv hg) (Ze3 _ _ hop u) ⟨kS hS (kA _),?_⟩;rw[hd,←Zh];exact P0T _ _ u.heap.size (hA.put (by decide) _) (by rw[Za _ _ (by decide)];exact f15) (by rw[Za _ _ (by decide)];exact f19) (by rw[Za _ _ (by decide)];exact f22) (ZV hA _ (by omega)) (Zk u _ _) hS.size (kS hS (kA _))
 have hS0:Below w5.heap.size w5 w5.drew:=(Below.refl _ _).drew;have A0:=Ag.refl Zce a0;obtain⟨o0,ho,hg,hop,hd⟩:=Zd q0;have hfr:=hall ([],0) (by simp);refine wpAnyH_take (listed:=LR 12 []) (v:=.int .i64 k) ho hs hfr.1 hfr.2 (hQ _ _) (Or.inl ⟨Zv hg,fun w' hS=>Zs _ _ hop w' e1⟩) hS0 ?_;rw[hd,←Zh];have A1:=A0.put (i:=15) (by decide) (.int .i64 k);have g15:=ZV A0 (.int .i64 k) (i:=15) (by omega)
 have e0:=(Za a0 (i:=15) (j:=0) (.int .i64 k) (by decide)).trans e0;have e1:=(Za a0 (i:=15) (j:=1) (.int .i64 k) (by decide)).trans e1;have e6:=(Za a0 (i:=15) (j:=6) (.int .i64 k) (by decide)).trans e6;generalize a0.put (some 15) (.int .i64 k)=c1 at *;clear ho hg hop hd hfr;obtain⟨o1,ho,hg,hop,hd⟩:=Zd q1;have hfr:=hall ([0],1) (by simp);refine wpAnyH_take (listed:=LR 12 [0]) (v:=.pointer (some ⟨tb,0,none⟩)) ho hs hfr.1 hfr.2 (hQ _ _) (Or.inl ⟨Zv hg,fun w' hS=>Zs _ _ hop w' e0⟩) hS0 ?_
 rw[hd,←Zh];have A2:=A1.put (i:=16) (by decide) (.pointer (some ⟨tb,0,none⟩));have g16:=ZV A1 (.pointer (some ⟨tb,0,none⟩)) (i:=16) (by omega);have e0:=(Za c1 (i:=16) (j:=0) (.pointer (some ⟨tb,0,none⟩)) (by decide)).trans e0;have e1:=(Za c1 (i:=16) (j:=1) (.pointer (some ⟨tb,0,none⟩)) (by decide)).trans e1;have e6:=(Za c1 (i:=16) (j:=6) (.pointer (some ⟨tb,0,none⟩)) (by decide)).trans e6
 have g15:=(Za c1 (i:=16) (j:=15) (.pointer (some ⟨tb,0,none⟩)) (by decide)).trans g15;generalize c1.put (some 16) (.pointer (some ⟨tb,0,none⟩))=c2 at *;clear ho hg hop hd hfr;obtain⟨o2,ho,hg,hop,hd⟩:=Zd q2;have hfr:=hall ([0,1],2) (by simp);refine wpAnyH_take (listed:=LR 12 [0,1]) (v:=.pointer (some ⟨tb,0,none⟩)) ho hs hfr.1 hfr.2 (hQ _ _) (Or.inl ⟨Zv hg,fun w' hS=>Za5 _ _ hop w' g16⟩) hS0 ?_
 rw[hd,←Zh];have A3:=A2.put (i:=17) (by decide) (.pointer (some ⟨tb,0,none⟩));have g17:=ZV A2 (.pointer (some ⟨tb,0,none⟩)) (i:=17) (by omega);have e0:=(Za c2 (i:=17) (j:=0) (.pointer (some ⟨tb,0,none⟩)) (by decide)).trans e0;have e1:=(Za c2 (i:=17) (j:=1) (.pointer (some ⟨tb,0,none⟩)) (by decide)).trans e1;have e6:=(Za c2 (i:=17) (j:=6) (.pointer (some ⟨tb,0,none⟩)) (by decide)).trans e6
 have g15:=(Za c2 (i:=17) (j:=15) (.pointer (some ⟨tb,0,none⟩)) (by decide)).trans g15;have g16:=(Za c2 (i:=17) (j:=16) (.pointer (some ⟨tb,0,none⟩)) (by decide)).trans g16;generalize c2.put (some 17) (.pointer (some ⟨tb,0,none⟩))=c3 at *;clear ho hg hop hd hfr;obtain⟨o3,ho,hg,hop,hd⟩:=Zd q3;have hfr:=hall ([0,1,2],3) (by simp);refine wpAnyH_take (listed:=LR 12 [0,1,2]) (v:=.pointer (some ⟨tb,1,none⟩)) ho hs hfr.1 hfr.2 (hQ _ _) (Or.inl ⟨Zv hg,fun w' hS=>ZcM _ _ hop w' g17⟩) hS0 ?_
 rw[hd,←Zh];have A4:=A3.put (i:=18) (by decide) (.pointer (some ⟨tb,1,none⟩));have g18:=ZV A3 (.pointer (some ⟨tb,1,none⟩)) (i:=18) (by omega);have e0:=(Za c3 (i:=18) (j:=0) (.pointer (some ⟨tb,1,none⟩)) (by decide)).trans e0;have e1:=(Za c3 (i:=18) (j:=1) (.pointer (some ⟨tb,1,none⟩)) (by decide)).trans e1;have e6:=(Za c3 (i:=18) (j:=6) (.pointer (some ⟨tb,1,none⟩)) (by decide)).trans e6
 have g15:=(Za c3 (i:=18) (j:=15) (.pointer (some ⟨tb,1,none⟩)) (by decide)).trans g15;have g16:=(Za c3 (i:=18) (j:=16) (.pointer (some ⟨tb,1,none⟩)) (by decide)).trans g16;have g17:=(Za c3 (i:=18) (j:=17) (.pointer (some ⟨tb,1,none⟩)) (by decide)).trans g17;generalize c3.put (some 18) (.pointer (some ⟨tb,1,none⟩))=c4 at *;clear ho hg hop hd hfr;obtain⟨o4,ho,hg,hop,hd⟩:=Zd q4
 have hfr:=hall ([0,1,2,3],4) (by simp);refine wpAnyH_take (listed:=LR 12 [0,1,2,3]) (v:=.map (some kb)) ho hs hfr.1 hfr.2 (hQ _ _) (Or.inl ⟨Zv hg,fun w' hS=>ZF _ _ hop w' g18 (LK w' hS)⟩) hS0 ?_;rw[hd,←Zh];have A5:=A4.put (i:=19) (by decide) (.map (some kb));have g19:=ZV A4 (.map (some kb)) (i:=19) (by omega);have e0:=(Za c4 (i:=19) (j:=0) (.map (some kb)) (by decide)).trans e0
 have e1:=(Za c4 (i:=19) (j:=1) (.map (some kb)) (by decide)).trans e1;have e6:=(Za c4 (i:=19) (j:=6) (.map (some kb)) (by decide)).trans e6;have g15:=(Za c4 (i:=19) (j:=15) (.map (some kb)) (by decide)).trans g15;have g16:=(Za c4 (i:=19) (j:=16) (.map (some kb)) (by decide)).trans g16;have g17:=(Za c4 (i:=19) (j:=17) (.map (some kb)) (by decide)).trans g17;have g18:=(Za c4 (i:=19) (j:=18) (.map (some kb)) (by decide)).trans g18
 generalize c4.put (some 19) (.map (some kb))=c5 at *;clear ho hg hop hd hfr;obtain⟨o5,ho,hg,hop,hd⟩:=Zd q5;have hfr:=hall ([0,1,2,3,4],5) (by simp);refine wpAnyH_take (listed:=LR 12 [0,1,2,3,4]) (v:=.pointer (some ⟨b6,1,none⟩)) ho hs hfr.1 hfr.2 (hQ _ _) (Or.inl ⟨Zv hg,fun w' hS=>ZcN _ _ hop w' e6⟩) hS0 ?_;rw[hd,←Zh];have A6:=A5.put (i:=20) (by decide) (.pointer (some ⟨b6,1,none⟩))
 have g20:=ZV A5 (.pointer (some ⟨b6,1,none⟩)) (i:=20) (by omega);have e0:=(Za c5 (i:=20) (j:=0) (.pointer (some ⟨b6,1,none⟩)) (by decide)).trans e0;have e1:=(Za c5 (i:=20) (j:=1) (.pointer (some ⟨b6,1,none⟩)) (by decide)).trans e1;have e6:=(Za c5 (i:=20) (j:=6) (.pointer (some ⟨b6,1,none⟩)) (by decide)).trans e6;have g15:=(Za c5 (i:=20) (j:=15) (.pointer (some ⟨b6,1,none⟩)) (by decide)).trans g15
 have g16:=(Za c5 (i:=20) (j:=16) (.pointer (some ⟨b6,1,none⟩)) (by decide)).trans g16;have g17:=(Za c5 (i:=20) (j:=17) (.pointer (some ⟨b6,1,none⟩)) (by decide)).trans g17;have g18:=(Za c5 (i:=20) (j:=18) (.pointer (some ⟨b6,1,none⟩)) (by decide)).trans g18;have g19:=(Za c5 (i:=20) (j:=19) (.pointer (some ⟨b6,1,none⟩)) (by decide)).trans g19;generalize c5.put (some 20) (.pointer (some ⟨b6,1,none⟩))=c6 at *
 clear ho hg hop hd hfr;obtain⟨o6,ho,hg,hop,hd⟩:=Zd q6;have hfr:=hall ([0,1,2,3,4,5],6) (by simp);refine wpAnyH_take (listed:=LR 12 [0,1,2,3,4,5]) (v:=.pointer (some ⟨b6,2,none⟩)) ho hs hfr.1 hfr.2 (hQ _ _) (Or.inl ⟨Zv hg,fun w' hS=>Zf2 _ _ hop w' g20⟩) hS0 ?_;rw[hd,←Zh];have A7:=A6.put (i:=21) (by decide) (.pointer (some ⟨b6,2,none⟩));have g21:=ZV A6 (.pointer (some ⟨b6,2,none⟩)) (i:=21) (by omega)
 have e0:=(Za c6 (i:=21) (j:=0) (.pointer (some ⟨b6,2,none⟩)) (by decide)).trans e0;have e1:=(Za c6 (i:=21) (j:=1) (.pointer (some ⟨b6,2,none⟩)) (by decide)).trans e1;have e6:=(Za c6 (i:=21) (j:=6) (.pointer (some ⟨b6,2,none⟩)) (by decide)).trans e6;have g15:=(Za c6 (i:=21) (j:=15) (.pointer (some ⟨b6,2,none⟩)) (by decide)).trans g15;have g16:=(Za c6 (i:=21) (j:=16) (.pointer (some ⟨b6,2,none⟩)) (by decide)).trans g16
 have g17:=(Za c6 (i:=21) (j:=17) (.pointer (some ⟨b6,2,none⟩)) (by decide)).trans g17;have g18:=(Za c6 (i:=21) (j:=18) (.pointer (some ⟨b6,2,none⟩)) (by decide)).trans g18;have g19:=(Za c6 (i:=21) (j:=19) (.pointer (some ⟨b6,2,none⟩)) (by decide)).trans g19;have g20:=(Za c6 (i:=21) (j:=20) (.pointer (some ⟨b6,2,none⟩)) (by decide)).trans g20;generalize c6.put (some 21) (.pointer (some ⟨b6,2,none⟩))=c7 at *
 clear ho hg hop hd hfr;obtain⟨o7,ho,hg,hop,hd⟩:=Zd q7;have hfr:=hall ([0,1,2,3,4,5,6],7) (by simp);refine wpAnyH_take (listed:=LR 12 [0,1,2,3,4,5,6]) (v:=av) ho hs hfr.1 hfr.2 (hQ _ _) (Or.inl ⟨Zv hg,fun w' hS=>ZF _ _ hop w' g21 (LA w' hS)⟩) hS0 ?_;rw[hd,←Zh];have A8:=A7.put (i:=22) (by decide) (av);have g22:=ZV A7 (av) (i:=22) (by omega);have e0:=(Za c7 (i:=22) (j:=0) (av) (by decide)).trans e0
 have e1:=(Za c7 (i:=22) (j:=1) (av) (by decide)).trans e1;have e6:=(Za c7 (i:=22) (j:=6) (av) (by decide)).trans e6;have g15:=(Za c7 (i:=22) (j:=15) (av) (by decide)).trans g15;have g16:=(Za c7 (i:=22) (j:=16) (av) (by decide)).trans g16;have g17:=(Za c7 (i:=22) (j:=17) (av) (by decide)).trans g17;have g18:=(Za c7 (i:=22) (j:=18) (av) (by decide)).trans g18;have g19:=(Za c7 (i:=22) (j:=19) (av) (by decide)).trans g19
 have g20:=(Za c7 (i:=22) (j:=20) (av) (by decide)).trans g20;have g21:=(Za c7 (i:=22) (j:=21) (av) (by decide)).trans g21;generalize c7.put (some 22) (av)=c8 at *;clear ho hg hop hd hfr;exact P0F _ _ A8 g15 g19 g22 hS0
def ZdP:List (List Nat × Nat):=[([],0),([0],1),([0,1],2),([0,1,2],3),([0,1,2,3],4),([0,1,2,3,4],5),([0,1,2,3,4,5,6,7],8)]
theorem ZqP{ops:Array Oper}{Q:Exit→Act→World→Prop}{S:World→Prop}{a0:Act}{w5:World}{tb kb b6 b7 nn:Nat}{av:Value}{ty1 ty2:Array TypeId}{Pf:Option Addr→Nat→World→Prop}
  (q0:Zf ops 0 none (.move (.tmp 0)) (some 48))
  (q1:Zf ops 1 none (.nilCheck (.tmp 48)) (some 49))
  (q2:Zf ops 2 none (.fieldAddr 133 (.tmp 49) 1) (some 50))
  (q3:Zf ops 3 none (.load 130 (.tmp 50)) (some 51))
  (q4:Zf ops 4 none (.fieldAddr 105 (.tmp 6) 1) (some 52))
  (q5:Zf ops 5 none (.load 93 (.tmp 52)) (some 53))
  (q6:Zf ops 6 none (.call {callee:=.value (.func 210),args:=#[.tmp 53],argTypes:=ty1}) (some 54))
  (q7:Zf ops 7 none (.call {callee:=.value (.func 209),args:=#[.tmp 51,.tmp 54],argTypes:=ty2}) (some 55))
  (q8:Zf ops 8 none (.fieldAddr 84 (.tmp 7) 3) (some 56))
  (q9:Zf ops 9 none (.store 26 (.tmp 56) (.tmp 55)) none)
  (hs:Region.noSelect ops=true) (hq:(ZdP.all fun p=>Region.free .any ops (LR 10 p.1) p.2&&(Region.ready .any ops (LR 10 p.1)).contains p.2)=true)
  (r6:Region.ready .any ops (LR 10 [0,1,2,3,4,5])=[6])
  (r7:Region.ready .any ops (LR 10 [0,1,2,3,4,5,6])=[7])
  (r9:Region.ready .any ops (LR 10 [0,1,2,3,4,5,6,7,8])=[9])
  (rend:Region.ready .any ops (LR 10 [0,1,2,3,4,5,6,7,8,9])=[])
  (hQ:∀(d:Option Tmp) (v:Value) c a w,Q (.panic c) (a.put d v) w→Q (.panic c) a w)
  (hsz:56<a0.tmps.size) (e0:a0.eval (.tmp 0)=.pointer (some ⟨tb,0,none⟩)) (e6:a0.eval (.tmp 6)=.pointer (some ⟨b6,0,none⟩)) (e7:a0.eval (.tmp 7)=.pointer (some ⟨b7,0,none⟩))
  (hS0:S w5.drew)
  (keep:∀u u',S u→S u'→S u') (LK:∀u,S u→(loadVar 130 ⟨tb,1,none⟩).run Tryz.prog u=.ok (.map (some kb)) u) (LA:∀u,S u→(loadVar 93 ⟨b6,1,none⟩).run Tryz.prog u=.ok av u)
  (C1:Calls Tryz.prog 210 #[av] w5.drew fun e u1=>∃v1,e=.returned v1∧S u1∧Calls Tryz.prog 209 #[.map (some kb),v1] u1 fun e u2=>∃aa cc,e=.returned (.slice aa nn cc)∧S u2∧(∃t0 t1 t2 t3,RL u2 b7 84 [t0,t1,t2,t3])∧S (u2.setCell ⟨b7,3,none⟩ (.slice aa nn cc))∧Pf aa cc (u2.setCell ⟨b7,3,none⟩ (.slice aa nn cc)))
  (F:∀(wc:World) (v1:Value) (aa:Option Addr) (cc:Nat),Pf aa cc wc→Q .normal (((((((((a0.put (some 48) (.pointer (some ⟨tb,0,none⟩))).put (some 49) (.pointer (some ⟨tb,0,none⟩))).put (some 50) (.pointer (some ⟨tb,1,none⟩))).put (some 51) (.map (some kb))).put (some 52) (.pointer (some ⟨b6,1,none⟩))).put (some 53) (av)).put (some 54) (v1)).put (some 55) (.slice aa nn cc)).put (some 56) (.pointer (some ⟨b7,3,none⟩))) wc) :
  wpAnyH Tryz.prog .any ops Q S 10 (LR 10 []) a0 w5.drew:=by
 have hall:∀p∈ZdP,Region.free .any ops (LR 10 p.1) p.2=true∧(Region.ready .any ops (LR 10 p.1)).contains p.2=true:=by
  intro p hp;have:=List.all_eq_true.1 hq p hp;simpa using this
 unfold ZdP at hall;refine Zj [] (.pointer (some ⟨tb,0,none⟩)) q0 hs (hall ([],0) (by simp)) hQ (fun o w' hop hS=>Zs _ _ hop w' (by(repeat rw[Za _ _ (by decide)]);exact e0)) hS0 ?_;refine Zj [0] (.pointer (some ⟨tb,0,none⟩)) q1 hs (hall ([0],1) (by simp)) hQ (fun o w' hop hS=>Za5 _ _ hop w' (by(repeat(first | rw[Zc _ _ (by(try simp only[Zb]);omega)] | rw[Za _ _ (by decide)])))) hS0 ?_
 refine Zj [0,1] (.pointer (some ⟨tb,1,none⟩)) q2 hs (hall ([0,1],2) (by simp)) hQ (fun o w' hop hS=>ZcM _ _ hop w' (by(repeat(first | rw[Zc _ _ (by(try simp only[Zb]);omega)] | rw[Za _ _ (by decide)])))) hS0 ?_;refine Zj [0,1,2] (.map (some kb)) q3 hs (hall ([0,1,2],3) (by simp)) hQ (fun o w' hop hS=>ZF _ _ hop w' (by(repeat(first | rw[Zc _ _ (by(try simp only[Zb]);omega)] | rw[Za _ _ (by decide)]))) (LK _ hS)) hS0 ?_
 refine Zj [0,1,2,3] (.pointer (some ⟨b6,1,none⟩)) q4 hs (hall ([0,1,2,3],4) (by simp)) hQ (fun o w' hop hS=>ZcN _ _ hop w' (by(repeat rw[Za _ _ (by decide)]);exact e6)) hS0 ?_;refine Zj [0,1,2,3,4] (av) q5 hs (hall ([0,1,2,3,4],5) (by simp)) hQ (fun o w' hop hS=>ZF _ _ hop w' (by(repeat(first | rw[Zc _ _ (by(try simp only[Zb]);omega)] | rw[Za _ _ (by decide)]))) (LA _ hS)) hS0 ?_
 refine wpAnyH_all r6 (by simp) ?_;intro i hi;obtain rfl:=List.mem_singleton.1 hi;obtain⟨o6,ho,hg,hop,hd⟩:=Zd q6;have x6_0:(((((((a0.put (some 48) (.pointer (some ⟨tb,0,none⟩))).put (some 49) (.pointer (some ⟨tb,0,none⟩))).put (some 50) (.pointer (some ⟨tb,1,none⟩))).put (some 51) (.map (some kb))).put (some 52) (.pointer (some ⟨b6,1,none⟩))).put (some 53) (av))).eval (.tmp 53)=av:=(by(repeat(first | rw[Zc _ _ (by(try simp only[Zb]);omega)] | rw[Za _ _ (by decide)])))
 refine Zw ho (Zv hg) (ZC 210 Tryz.func210 (by kernel_rfl) (by kernel_rfl) #[.tmp 53] _ hop #[av] (by simp only[List.map_toArray,List.map_cons,List.map_nil,x6_0])) ?_;refine(C1).mono ?_;rintro e u1 ⟨v1,rfl,hS1,C2⟩;have hS6:=keep _ _ hS0 hS1;refine⟨_,rfl,hS6,?_⟩;rw[hd];clear ho hg hop hd;rw[←Zh];refine wpAnyH_all r7 (by simp) ?_;intro i hi;obtain rfl:=List.mem_singleton.1 hi
 obtain⟨o7,ho,hg,hop,hd⟩:=Zd q7;have x7_0:((((((((a0.put (some 48) (.pointer (some ⟨tb,0,none⟩))).put (some 49) (.pointer (some ⟨tb,0,none⟩))).put (some 50) (.pointer (some ⟨tb,1,none⟩))).put (some 51) (.map (some kb))).put (some 52) (.pointer (some ⟨b6,1,none⟩))).put (some 53) (av)).put (some 54) (v1))).eval (.tmp 51)=.map (some kb):=(by(repeat(first | rw[Zc _ _ (by(try simp only[Zb]);omega)] | rw[Za _ _ (by decide)])))
 have x7_1:((((((((a0.put (some 48) (.pointer (some ⟨tb,0,none⟩))).put (some 49) (.pointer (some ⟨tb,0,none⟩))).put (some 50) (.pointer (some ⟨tb,1,none⟩))).put (some 51) (.map (some kb))).put (some 52) (.pointer (some ⟨b6,1,none⟩))).put (some 53) (av)).put (some 54) (v1))).eval (.tmp 54)=v1:=(by(repeat(first | rw[Zc _ _ (by(try simp only[Zb]);omega)] | rw[Za _ _ (by decide)])))
 refine Zw ho (Zv hg) (ZC 209 Tryz.func209 (by kernel_rfl) (by kernel_rfl) #[.tmp 51,.tmp 54] _ hop #[.map (some kb),v1] (by simp only[List.map_toArray,List.map_cons,List.map_nil,x7_0,x7_1])) ?_;refine(C2).mono ?_;rintro e u2 ⟨aa,cc,rfl,hS2,⟨t0,t1,t2,t3,hRB⟩,hSF,hP⟩;have hS7:=keep _ _ hS6 hS2;refine⟨_,rfl,hS7,?_⟩;rw[hd];clear ho hg hop hd;rw[←Zh];refine Zj [0,1,2,3,4,5,6,7] (.pointer (some ⟨b7,3,none⟩)) q8 hs (hall ([0,1,2,3,4,5,6,7],8) (by simp)) hQ (fun o w' hop hS=>ZbC _ _ hop w' (by(repeat rw[Za _ _ (by decide)]);exact e7)) hS7 ?_
 refine wpAnyH_all r9 (by simp) ?_;intro i hi;obtain rfl:=List.mem_singleton.1 hi;obtain⟨o9,ho,hg,hop,hd⟩:=Zd q9;refine Zar ho (Zv hg) (Zcd _ _ hop _ (by(repeat(first | rw[Zc _ _ (by(try simp only[Zb]);omega)] | rw[Za _ _ (by decide)]))) (by(repeat(first | rw[Zc _ _ (by(try simp only[Zb]);omega)] | rw[Za _ _ (by decide)]))) hRB) ?_;have hS9:=hSF
 refine⟨hS9,?_⟩;rw[hd,ZbL];clear ho hg hop hd;rw[←Zh];exact wpAnyH_done rend (F _ v1 aa cc hP) _
def ZdQ:List (List Nat × Nat):=[([],0),([0],1),([0,1],2),([0,1,2],3),([0,1,2,3],4),([0,1,2,3,4],5),([0,1,2,3,4,5,6,7],8),([0,1,2,3,4,5,6,7,8],9)]
theorem ZqQ{ops:Array Oper}{Q:Exit→Act→World→Prop}{S:World→Prop}{a0:Act}{w5:World}{tb kb b6 nn:Nat}{av:Value}{ty1 ty2:Array TypeId}
  (q0:Zf ops 0 none (.move (.tmp 0)) (some 59))
  (q1:Zf ops 1 none (.nilCheck (.tmp 59)) (some 60))
  (q2:Zf ops 2 none (.fieldAddr 133 (.tmp 60) 1) (some 61))
  (q3:Zf ops 3 none (.load 130 (.tmp 61)) (some 62))
  (q4:Zf ops 4 none (.fieldAddr 105 (.tmp 6) 1) (some 63))
  (q5:Zf ops 5 none (.load 93 (.tmp 63)) (some 64))
  (q6:Zf ops 6 none (.call {callee:=.value (.func 210),args:=#[.tmp 64],argTypes:=ty1}) (some 65))
  (q7:Zf ops 7 none (.call {callee:=.value (.func 209),args:=#[.tmp 62,.tmp 65],argTypes:=ty2}) (some 66))
  (q8:Zf ops 8 none (.call {callee:=.builtin .len,args:=#[.tmp 66],argTypes:=#[26]}) (some 67))
  (q9:Zf ops 9 none (.binOp .eql 3 (.tmp 67) (.const (.int .i64 0)) 3) (some 68))
  (hs:Region.noSelect ops=true) (hq:(ZdQ.all fun p=>Region.free .any ops (LR 10 p.1) p.2&&(Region.ready .any ops (LR 10 p.1)).contains p.2)=true)
  (r6:Region.ready .any ops (LR 10 [0,1,2,3,4,5])=[6])
  (r7:Region.ready .any ops (LR 10 [0,1,2,3,4,5,6])=[7])
  (rend:Region.ready .any ops (LR 10 [0,1,2,3,4,5,6,7,8,9])=[])
  (hQ:∀(d:Option Tmp) (v:Value) c a w,Q (.panic c) (a.put d v) w→Q (.panic c) a w)
  (hsz:68<a0.tmps.size) (e0:a0.eval (.tmp 0)=.pointer (some ⟨tb,0,none⟩)) (e6:a0.eval (.tmp 6)=.pointer (some ⟨b6,0,none⟩))
  (hS0:S w5.drew)
  (keep:∀u u',S u→S u'→S u') (HEQ:∀u,(binOp .eql 3 (.int .i64 (nn:Int)) (.int .i64 0)).run Tryz.prog u=.ok (.bool ((nn:Int)==0)) u) (LK:∀u,S u→(loadVar 130 ⟨tb,1,none⟩).run Tryz.prog u=.ok (.map (some kb)) u) (LA:∀u,S u→(loadVar 93 ⟨b6,1,none⟩).run Tryz.prog u=.ok av u)
  (C1:Calls Tryz.prog 210 #[av] w5.drew fun e u1=>∃v1,e=.returned v1∧S u1∧Calls Tryz.prog 209 #[.map (some kb),v1] u1 fun e u2=>∃aa cc,e=.returned (.slice aa nn cc)∧S u2)
  (F:∀(wc:World) (v1:Value) (aa:Option Addr) (cc:Nat),S wc→Q .normal ((((((((((a0.put (some 59) (.pointer (some ⟨tb,0,none⟩))).put (some 60) (.pointer (some ⟨tb,0,none⟩))).put (some 61) (.pointer (some ⟨tb,1,none⟩))).put (some 62) (.map (some kb))).put (some 63) (.pointer (some ⟨b6,1,none⟩))).put (some 64) (av)).put (some 65) (v1)).put (some 66) (.slice aa nn cc)).put (some 67) (.int .i64 (nn:Int))).put (some 68) (.bool ((nn:Int)==0))) wc) :
  wpAnyH Tryz.prog .any ops Q S 10 (LR 10 []) a0 w5.drew:=by
 have hall:∀p∈ZdQ,Region.free .any ops (LR 10 p.1) p.2=true∧(Region.ready .any ops (LR 10 p.1)).contains p.2=true:=by
  intro p hp;have:=List.all_eq_true.1 hq p hp;simpa using this
 unfold ZdQ at hall;refine Zj [] (.pointer (some ⟨tb,0,none⟩)) q0 hs (hall ([],0) (by simp)) hQ (fun o w' hop hS=>Zs _ _ hop w' (by(repeat rw[Za _ _ (by decide)]);exact e0)) hS0 ?_;refine Zj [0] (.pointer (some ⟨tb,0,none⟩)) q1 hs (hall ([0],1) (by simp)) hQ (fun o w' hop hS=>Za5 _ _ hop w' (by(repeat(first | rw[Zc _ _ (by(try simp only[Zb]);omega)] | rw[Za _ _ (by decide)])))) hS0 ?_
 refine Zj [0,1] (.pointer (some ⟨tb,1,none⟩)) q2 hs (hall ([0,1],2) (by simp)) hQ (fun o w' hop hS=>ZcM _ _ hop w' (by(repeat(first | rw[Zc _ _ (by(try simp only[Zb]);omega)] | rw[Za _ _ (by decide)])))) hS0 ?_;refine Zj [0,1,2] (.map (some kb)) q3 hs (hall ([0,1,2],3) (by simp)) hQ (fun o w' hop hS=>ZF _ _ hop w' (by(repeat(first | rw[Zc _ _ (by(try simp only[Zb]);omega)] | rw[Za _ _ (by decide)]))) (LK _ hS)) hS0 ?_
 refine Zj [0,1,2,3] (.pointer (some ⟨b6,1,none⟩)) q4 hs (hall ([0,1,2,3],4) (by simp)) hQ (fun o w' hop hS=>ZcN _ _ hop w' (by(repeat rw[Za _ _ (by decide)]);exact e6)) hS0 ?_;refine Zj [0,1,2,3,4] (av) q5 hs (hall ([0,1,2,3,4],5) (by simp)) hQ (fun o w' hop hS=>ZF _ _ hop w' (by(repeat(first | rw[Zc _ _ (by(try simp only[Zb]);omega)] | rw[Za _ _ (by decide)]))) (LA _ hS)) hS0 ?_
 refine wpAnyH_all r6 (by simp) ?_;intro i hi;obtain rfl:=List.mem_singleton.1 hi;obtain⟨o6,ho,hg,hop,hd⟩:=Zd q6;have x6_0:(((((((a0.put (some 59) (.pointer (some ⟨tb,0,none⟩))).put (some 60) (.pointer (some ⟨tb,0,none⟩))).put (some 61) (.pointer (some ⟨tb,1,none⟩))).put (some 62) (.map (some kb))).put (some 63) (.pointer (some ⟨b6,1,none⟩))).put (some 64) (av))).eval (.tmp 64)=av:=(by(repeat(first | rw[Zc _ _ (by(try simp only[Zb]);omega)] | rw[Za _ _ (by decide)])))
 refine Zw ho (Zv hg) (ZC 210 Tryz.func210 (by kernel_rfl) (by kernel_rfl) #[.tmp 64] _ hop #[av] (by simp only[List.map_toArray,List.map_cons,List.map_nil,x6_0])) ?_;refine(C1).mono ?_;rintro e u1 ⟨v1,rfl,hS1,C2⟩;have hS6:=keep _ _ hS0 hS1;refine⟨_,rfl,hS6,?_⟩;rw[hd];clear ho hg hop hd;rw[←Zh];refine wpAnyH_all r7 (by simp) ?_;intro i hi;obtain rfl:=List.mem_singleton.1 hi
 obtain⟨o7,ho,hg,hop,hd⟩:=Zd q7;have x7_0:((((((((a0.put (some 59) (.pointer (some ⟨tb,0,none⟩))).put (some 60) (.pointer (some ⟨tb,0,none⟩))).put (some 61) (.pointer (some ⟨tb,1,none⟩))).put (some 62) (.map (some kb))).put (some 63) (.pointer (some ⟨b6,1,none⟩))).put (some 64) (av)).put (some 65) (v1))).eval (.tmp 62)=.map (some kb):=(by(repeat(first | rw[Zc _ _ (by(try simp only[Zb]);omega)] | rw[Za _ _ (by decide)])))
 have x7_1:((((((((a0.put (some 59) (.pointer (some ⟨tb,0,none⟩))).put (some 60) (.pointer (some ⟨tb,0,none⟩))).put (some 61) (.pointer (some ⟨tb,1,none⟩))).put (some 62) (.map (some kb))).put (some 63) (.pointer (some ⟨b6,1,none⟩))).put (some 64) (av)).put (some 65) (v1))).eval (.tmp 65)=v1:=(by(repeat(first | rw[Zc _ _ (by(try simp only[Zb]);omega)] | rw[Za _ _ (by decide)])))
 refine Zw ho (Zv hg) (ZC 209 Tryz.func209 (by kernel_rfl) (by kernel_rfl) #[.tmp 62,.tmp 65] _ hop #[.map (some kb),v1] (by simp only[List.map_toArray,List.map_cons,List.map_nil,x7_0,x7_1])) ?_;refine(C2).mono ?_;rintro e u2 ⟨aa,cc,rfl,hS2⟩;have hS7:=keep _ _ hS6 hS2;refine⟨_,rfl,hS7,?_⟩;rw[hd];clear ho hg hop hd;rw[←Zh];refine Zj [0,1,2,3,4,5,6,7] (.int .i64 (nn:Int)) q8 hs (hall ([0,1,2,3,4,5,6,7],8) (by simp)) hQ (fun o w' hop hS=>ZnL _ _ hop w' (by(repeat(first | rw[Zc _ _ (by(try simp only[Zb]);omega)] | rw[Za _ _ (by decide)])))) hS7 ?_
 refine Zj [0,1,2,3,4,5,6,7,8] (.bool ((nn:Int)==0)) q9 hs (hall ([0,1,2,3,4,5,6,7,8],9) (by simp)) hQ (fun o w' hop hS=>Zel _ _ hop w' (by(repeat(first | rw[Zc _ _ (by(try simp only[Zb]);omega)] | rw[Za _ _ (by decide)]))) rfl (by first | rfl | go_simp) (HEQ w')) hS7 ?_;exact wpAnyH_done rend (F _ v1 aa cc hS7) _
def ZdR:List (List Nat × Nat):=[([],0),([0],1),([0,1],2),([0,1,2],3),([0,1,2,3],4),([0,1,2,3,4,5],6),([0,1,2,3,4,5,6],7),([0,1,2,3,4,5,6,7],8),([0,1,2,3,4,5,6,7,8],9),([0,1,2,3,4,5,6,7,8,9,10],11)]
theorem ZqR{ops:Array Oper}{Q:Exit→Act→World→Prop}{S:World→Prop}{a0:Act}{w5:World}{tb kb b6 b7 nn:Nat}{kk:Int}{av:Value}{ty1:Array TypeId}{Pf:Option Addr→Nat→World→Prop}
  (q0:Zf ops 0 none (.move (.tmp 0)) (some 28))
  (q1:Zf ops 1 none (.nilCheck (.tmp 28)) (some 29))
  (q2:Zf ops 2 none (.fieldAddr 133 (.tmp 29) 1) (some 30))
  (q3:Zf ops 3 none (.load 130 (.tmp 30)) (some 31))
  (q4:Zf ops 4 none (.load 105 (.tmp 6)) (some 32))
  (q5:Zf ops 5 none (.call {callee:=.value (.func 211),args:=#[.tmp 31,.tmp 32],argTypes:=ty1}) (some 33))
  (q6:Zf ops 6 none (.move (.tmp 33)) (some 27))
  (q7:Zf ops 7 none (.extract (.tmp 27) 0) (some 34))
  (q8:Zf ops 8 none (.extract (.tmp 27) 1) (some 35))
  (q9:Zf ops 9 none (.fieldAddr 84 (.tmp 7) 0) (some 36))
  (q10:Zf ops 10 none (.store 80 (.tmp 36) (.tmp 34)) none)
  (q11:Zf ops 11 none (.fieldAddr 84 (.tmp 7) 3) (some 37))
  (q12:Zf ops 12 none (.store 26 (.tmp 37) (.tmp 35)) none)
  (hs:Region.noSelect ops=true) (hq:(ZdR.all fun p=>Region.free .any ops (LR 13 p.1) p.2&&(Region.ready .any ops (LR 13 p.1)).contains p.2)=true)
  (r5:Region.ready .any ops (LR 13 [0,1,2,3,4])=[5])
  (r10:Region.ready .any ops (LR 13 [0,1,2,3,4,5,6,7,8,9])=[10])
  (r12:Region.ready .any ops (LR 13 [0,1,2,3,4,5,6,7,8,9,10,11])=[12])
  (rend:Region.ready .any ops (LR 13 [0,1,2,3,4,5,6,7,8,9,10,11,12])=[])
  (hQ:∀(d:Option Tmp) (v:Value) c a w,Q (.panic c) (a.put d v) w→Q (.panic c) a w)
  (hsz:37<a0.tmps.size) (e0:a0.eval (.tmp 0)=.pointer (some ⟨tb,0,none⟩)) (e6:a0.eval (.tmp 6)=.pointer (some ⟨b6,0,none⟩)) (e7:a0.eval (.tmp 7)=.pointer (some ⟨b7,0,none⟩))
  (hS0:S w5.drew)
  (keep:∀u u',S u→S u'→S u') (keepC:∀u j v,S u→S (u.setCell ⟨b7,j,none⟩ v)) (LK:∀u,S u→(loadVar 130 ⟨tb,1,none⟩).run Tryz.prog u=.ok (.map (some kb)) u) (LA:∀u,S u→(loadVar 105 ⟨b6,0,none⟩).run Tryz.prog u=.ok av u)
  (C1:Calls Tryz.prog 211 #[.map (some kb),av] w5.drew fun e u1=>∃aa cc,e=.returned (.tuple #[.int .i8 kk,.slice aa nn cc])∧S u1∧(∃t0 t1 t2 t3,RL u1 b7 84 [t0,t1,t2,t3])∧Pf aa cc ((u1.setCell ⟨b7,0,none⟩ (.int .i8 kk)).setCell ⟨b7,3,none⟩ (.slice aa nn cc)))
  (F:∀(wc:World) (aa:Option Addr) (cc:Nat),Pf aa cc wc→Q .normal (((((((((((a0.put (some 28) (.pointer (some ⟨tb,0,none⟩))).put (some 29) (.pointer (some ⟨tb,0,none⟩))).put (some 30) (.pointer (some ⟨tb,1,none⟩))).put (some 31) (.map (some kb))).put (some 32) (av)).put (some 33) (.tuple #[.int .i8 kk,.slice aa nn cc])).put (some 27) (.tuple #[.int .i8 kk,.slice aa nn cc])).put (some 34) (.int .i8 kk)).put (some 35) (.slice aa nn cc)).put (some 36) (.pointer (some ⟨b7,0,none⟩))).put (some 37) (.pointer (some ⟨b7,3,none⟩))) wc) :
  wpAnyH Tryz.prog .any ops Q S 13 (LR 13 []) a0 w5.drew:=by
 have hall:∀p∈ZdR,Region.free .any ops (LR 13 p.1) p.2=true∧(Region.ready .any ops (LR 13 p.1)).contains p.2=true:=by
  intro p hp;have:=List.all_eq_true.1 hq p hp;simpa using this
 unfold ZdR at hall;refine Zj [] (.pointer (some ⟨tb,0,none⟩)) q0 hs (hall ([],0) (by simp)) hQ (fun o w' hop hS=>Zs _ _ hop w' (by(repeat rw[Za _ _ (by decide)]);exact e0)) hS0 ?_;refine Zj [0] (.pointer (some ⟨tb,0,none⟩)) q1 hs (hall ([0],1) (by simp)) hQ (fun o w' hop hS=>Za5 _ _ hop w' (by(repeat(first | rw[Zc _ _ (by(try simp only[Zb]);omega)] | rw[Za _ _ (by decide)])))) hS0 ?_
 refine Zj [0,1] (.pointer (some ⟨tb,1,none⟩)) q2 hs (hall ([0,1],2) (by simp)) hQ (fun o w' hop hS=>ZcM _ _ hop w' (by(repeat(first | rw[Zc _ _ (by(try simp only[Zb]);omega)] | rw[Za _ _ (by decide)])))) hS0 ?_;refine Zj [0,1,2] (.map (some kb)) q3 hs (hall ([0,1,2],3) (by simp)) hQ (fun o w' hop hS=>ZF _ _ hop w' (by(repeat(first | rw[Zc _ _ (by(try simp only[Zb]);omega)] | rw[Za _ _ (by decide)]))) (LK _ hS)) hS0 ?_
 refine Zj [0,1,2,3] (av) q4 hs (hall ([0,1,2,3],4) (by simp)) hQ (fun o w' hop hS=>ZF _ _ hop w' (by(repeat rw[Za _ _ (by decide)]);exact e6) (LA _ hS)) hS0 ?_;refine wpAnyH_all r5 (by simp) ?_;intro i hi;obtain rfl:=List.mem_singleton.1 hi;obtain⟨o5,ho,hg,hop,hd⟩:=Zd q5;have x5_0:((((((a0.put (some 28) (.pointer (some ⟨tb,0,none⟩))).put (some 29) (.pointer (some ⟨tb,0,none⟩))).put (some 30) (.pointer (some ⟨tb,1,none⟩))).put (some 31) (.map (some kb))).put (some 32) (av))).eval (.tmp 31)=.map (some kb):=(by(repeat(first | rw[Zc _ _ (by(try simp only[Zb]);omega)] | rw[Za _ _ (by decide)])))
 have x5_1:((((((a0.put (some 28) (.pointer (some ⟨tb,0,none⟩))).put (some 29) (.pointer (some ⟨tb,0,none⟩))).put (some 30) (.pointer (some ⟨tb,1,none⟩))).put (some 31) (.map (some kb))).put (some 32) (av))).eval (.tmp 32)=av:=(by(repeat(first | rw[Zc _ _ (by(try simp only[Zb]);omega)] | rw[Za _ _ (by decide)])));refine Zw ho (Zv hg) (ZC 211 Tryz.func211 (by kernel_rfl) (by kernel_rfl) #[.tmp 31,.tmp 32] _ hop #[.map (some kb),av] (by simp only[List.map_toArray,List.map_cons,List.map_nil,x5_0,x5_1])) ?_
 refine(C1).mono ?_;rintro e u1 ⟨aa,cc,rfl,hS1,⟨t0,t1,t2,t3,hRB⟩,hP⟩;have hS5:=keep _ _ hS0 hS1;refine⟨_,rfl,hS5,?_⟩;rw[hd];clear ho hg hop hd;rw[←Zh];refine Zj [0,1,2,3,4,5] (.tuple #[.int .i8 kk,.slice aa nn cc]) q6 hs (hall ([0,1,2,3,4,5],6) (by simp)) hQ (fun o w' hop hS=>Zs _ _ hop w' (by(repeat(first | rw[Zc _ _ (by(try simp only[Zb]);omega)] | rw[Za _ _ (by decide)])))) hS5 ?_
 refine Zj [0,1,2,3,4,5,6] (.int .i8 kk) q7 hs (hall ([0,1,2,3,4,5,6],7) (by simp)) hQ (fun o w' hop hS=>Zmn _ _ hop w' (by(repeat(first | rw[Zc _ _ (by(try simp only[Zb]);omega)] | rw[Za _ _ (by decide)])))) hS5 ?_;refine Zj [0,1,2,3,4,5,6,7] (.slice aa nn cc) q8 hs (hall ([0,1,2,3,4,5,6,7],8) (by simp)) hQ (fun o w' hop hS=>Zmo _ _ hop w' (by(repeat(first | rw[Zc _ _ (by(try simp only[Zb]);omega)] | rw[Za _ _ (by decide)])))) hS5 ?_
 refine Zj [0,1,2,3,4,5,6,7,8] (.pointer (some ⟨b7,0,none⟩)) q9 hs (hall ([0,1,2,3,4,5,6,7,8],9) (by simp)) hQ (fun o w' hop hS=>Zkv _ _ hop w' (by(repeat rw[Za _ _ (by decide)]);exact e7)) hS5 ?_;refine wpAnyH_all r10 (by simp) ?_;intro i hi;obtain rfl:=List.mem_singleton.1 hi;obtain⟨o10,ho,hg,hop,hd⟩:=Zd q10;refine Zar ho (Zv hg) (Zjc _ _ hop _ (by(repeat(first | rw[Zc _ _ (by(try simp only[Zb]);omega)] | rw[Za _ _ (by decide)]))) (by(repeat(first | rw[Zc _ _ (by(try simp only[Zb]);omega)] | rw[Za _ _ (by decide)]))) hRB) ?_
 have hS10:=(keepC _ 0 (.int .i8 kk) hS5);refine⟨hS10,?_⟩;rw[hd,ZbL];clear ho hg hop hd;rw[←Zh];refine Zj [0,1,2,3,4,5,6,7,8,9,10] (.pointer (some ⟨b7,3,none⟩)) q11 hs (hall ([0,1,2,3,4,5,6,7,8,9,10],11) (by simp)) hQ (fun o w' hop hS=>ZbC _ _ hop w' (by(repeat rw[Za _ _ (by decide)]);exact e7)) hS10 ?_;refine wpAnyH_all r12 (by simp) ?_;intro i hi;obtain rfl:=List.mem_singleton.1 hi
 obtain⟨o12,ho,hg,hop,hd⟩:=Zd q12;refine Zar ho (Zv hg) (Zcd _ _ hop _ (by(repeat(first | rw[Zc _ _ (by(try simp only[Zb]);omega)] | rw[Za _ _ (by decide)]))) (by(repeat(first | rw[Zc _ _ (by(try simp only[Zb]);omega)] | rw[Za _ _ (by decide)]))) (hRB.set 0 _)) ?_;have hS12:=(keepC _ 3 (.slice aa nn cc) hS10);refine⟨hS12,?_⟩;rw[hd,ZbL]
 clear ho hg hop hd;rw[←Zh];exact wpAnyH_done rend (F _ aa cc hP) _
end Go.Proofs.YtjdnpgpbeppgjaaGreatDoor
