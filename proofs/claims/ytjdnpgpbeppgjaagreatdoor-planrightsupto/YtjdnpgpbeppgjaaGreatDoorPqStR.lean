import Derived.Test.YtjdnpgpbeppgjaaGreatDoorA29
set_option linter.unusedSimpArgs false
set_option linter.unusedVariables false
set_option maxHeartbeats 3200000
namespace Go.Proofs.YtjdnpgpbeppgjaaGreatDoor
open Go.RowKit Go.Maps Go.Shelf
attribute [local go_sem ↓] Go.wp_at_zero Go.wp_at_succ
attribute [local go_sem] Oper.semAt_some
attribute [-go_sem] loadVar Builtin.append_ Instr.buildSlice
theorem ZmH(ev:Operand→Value)(o:Oper){x:Operand}(hop:o.op=.indexAddr 26 x (.const (.int .i64 0)))(w:World){g c:Nat}(hx:ev x=.slice (some ⟨g,0,none⟩) 1 c)(hc:ev (.const (.int .i64 0))=.int .i64 0:=by rfl):(execOp ev o).run Tryz.prog w=.ok (.value (.pointer (some ⟨g,0,none⟩))) w:=by
 simp only[execOp,hop,hx,hc];go_simp
theorem Zn4(ev:Operand→Value)(o:Oper){x y:Operand}(hop:o.op=.indexAddr 26 x y)(w:World){g off n c k:Nat}(hx:ev x=.slice (some ⟨g,off,none⟩) n c)(hy:ev y=.int .i64 (k:Int))(hk:k<n):(execOp ev o).run Tryz.prog w=.ok (.value (.pointer (some ⟨g,off+k,none⟩))) w:=by
 have hk':(k:Int)<(n:Int):=by omega
 have hk0:(0:Int)≤(k:Int):=by omega
 simp only[execOp,hop,hx,hy];go_simp
theorem Zjr(ev:Operand→Value)(o:Oper){x:Operand}(hop:o.op=.fieldAddr 84 x 2)(w:World){b:Nat}(hx:ev x=.pointer (some ⟨b,0,none⟩)):(execOp ev o).run Tryz.prog w=.ok (.value (.pointer (some ⟨b,2,none⟩))) w:=by
 simp only[execOp,hop,hx];go_simp
theorem ZmI(ev:Operand→Value)(o:Oper){x:Operand}(hop:o.op=.call {callee:=.builtin .len,args:=#[x],argTypes:=#[91]})(w:World){a:Option Addr}{n c:Nat}(hx:ev x=.slice a n c):(execOp ev o).run Tryz.prog w=.ok (.value (.int .i64 (n:Int))) w:=by
 simp only[execOp,hop];simp[resolve,invoke,builtin,hx,Builtin.lenOf,Result.andThen,go_sem]
theorem Zga(ev:Operand→Value)(o:Oper){x:Operand}(hop:o.op=.buildSlice 26 1 #[(0,x)])(w:World){s:ByteArray}(hx:ev x=.string s):(execOp ev o).run Tryz.prog w=.ok (.value (.slice (some ⟨w.heap.size,0,none⟩) 1 1)) (w.alloc (.cells #[.string s] 9)):=by
 simp only[execOp,hop,hx];simp[Instr.buildSlice];go_simp
theorem Zlt{ops:Array Oper}{i:Nat}{o:Oper}{ty:TypeId}(h:ops[i]?.map Oper.type=some ty)(ho:ops[i]?=some o):o.type=ty:=by
 rw[ho]at h;exact Option.some.inj h
theorem Zjs(ev:Operand→Value)(o:Oper){x y:Operand}{t ty:TypeId}(hop:o.op=.call {callee:=.builtin .append,args:=#[x,y],argTypes:=#[t,t]})(hty:o.type=ty)(w:World){a b v:Value}{w':World}(hx:ev x=a)(hy:ev y=b)(hr:(Builtin.append_ #[t,t] ty #[a,b]).run Tryz.prog w=.ok v w'):(execOp ev o).run Tryz.prog w=.ok (.value v) w':=by
 simp only[execOp,hop];simp[resolve,invoke,builtin,hx,hy,hty,hr,Result.andThen]
def ZdX:List (List Nat × Nat):=[([],0),([0],1),([0,1],2),([0,1,2,3,4],5)]
theorem ZqX{ops:Array Oper}{Q:Exit→Act→World→Prop}{S:World→Prop}{a0:Act}{w5:World}{b6 b9:Nat}{k9 i9 m9:Int}{a9:Option Addr}{n9 c9:Nat}{vv kv:Value}{pb:Bool}{ty1:Array TypeId}{t0 t1 t2 t3:Value}
  (q0:Zf ops 0 none (.load 84 (.tmp 9)) (some 34))
  (q1:Zf ops 1 none (.move (.tmp 10)) (some 35))
  (q2:Zf ops 2 none (.move (.tmp 2)) (some 36))
  (q3:Zf ops 3 none (.call {callee:=.value (.func 90),args:=#[.tmp 35,.tmp 36],argTypes:=ty1}) (some 37))
  (q4:Zf ops 4 none (.store 84 (.tmp 6) (.tmp 34)) none)
  (q5:Zf ops 5 none (.assign (.tmp 37)) (some 7))
  (hs:Region.noSelect ops=true) (hq:(ZdX.all fun p=>Region.free .any ops (LR 6 p.1) p.2&&(Region.ready .any ops (LR 6 p.1)).contains p.2)=true)
  (rA:Region.ready .any ops (LR 6 [0,1,2])=[3]) (rB:Region.ready .any ops (LR 6 [0,1,2,3])=[4]) (rD:Region.ready .any ops (LR 6 [0,1,2,3,4,5])=[])
  (hQ:∀(d:Option Tmp) (v:Value) c a w,Q (.panic c) (a.put d v) w→Q (.panic c) a w)
  (hsz:37<a0.tmps.size) (e9:a0.eval (.tmp 9)=.pointer (some ⟨b9,0,none⟩)) (e10:a0.eval (.tmp 10)=vv) (e2:a0.eval (.tmp 2)=kv) (e6:a0.eval (.tmp 6)=.pointer (some ⟨b6,0,none⟩))
  (hS0:S w5.drew) (hS1:S (st4 w5.drew b6 k9 i9 m9 (.slice a9 n9 c9))) (hRB:RL w5.drew b6 84 [t0,t1,t2,t3])
  (LS:∀u,S u→(loadVar 84 ⟨b9,0,none⟩).run Tryz.prog u=.ok (.agg #[.int .i8 k9,.int .i64 i9,.int .u32 m9,.slice a9 n9 c9]) u)
  (HC:∀u,S u→Calls Tryz.prog 90 #[vv,kv] u fun e w'=>e=.returned (.bool pb)∧w'=u)
  (F:Q .normal (((((a0.put (some 34) (.agg #[.int .i8 k9,.int .i64 i9,.int .u32 m9,.slice a9 n9 c9])).put (some 35) (vv)).put (some 36) (kv)).put (some 37) (.bool pb)).put (some 7) (.bool pb)) (st4 w5.drew b6 k9 i9 m9 (.slice a9 n9 c9))) :
  wpAnyH Tryz.prog .any ops Q S 6 (LR 6 []) a0 w5.drew:=by
 have hall:∀p∈ZdX,Region.free .any ops (LR 6 p.1) p.2=true∧(Region.ready .any ops (LR 6 p.1)).contains p.2=true:=by
  intro p hp;have:=List.all_eq_true.1 hq p hp;simpa using this
 unfold ZdX at hall;refine Zj [] (.agg #[.int .i8 k9,.int .i64 i9,.int .u32 m9,.slice a9 n9 c9]) q0 hs (hall ([],0) (by simp)) hQ (fun o w' hop hS=>ZF _ _ hop w' e9 (LS _ hS)) hS0 ?_;refine Zj [0] (vv) q1 hs (hall ([0],1) (by simp)) hQ (fun o w' hop hS=>Zs _ _ hop w' (by(repeat rw[Za _ _ (by decide)]);exact e10)) hS0 ?_;refine Zj [0,1] (kv) q2 hs (hall ([0,1],2) (by simp)) hQ (fun o w' hop hS=>Zs _ _ hop w' (by(repeat rw[Za _ _ (by decide)]);exact e2)) hS0 ?_
 refine wpAnyH_all rA (by simp) ?_;intro i hi;obtain rfl:=List.mem_singleton.1 hi;obtain⟨o3,ho,hg,hop,hd⟩:=Zd q3;have x3_0:(((a0.put (some 34) (.agg #[.int .i8 k9,.int .i64 i9,.int .u32 m9,.slice a9 n9 c9])).put (some 35) (vv)).put (some 36) (kv)).eval (.tmp 35)=vv:=(by(repeat(first | rw[Zc _ _ (by(try simp only[Zb]);omega)] | rw[Za _ _ (by decide)])));have x3_1:(((a0.put (some 34) (.agg #[.int .i8 k9,.int .i64 i9,.int .u32 m9,.slice a9 n9 c9])).put (some 35) (vv)).put (some 36) (kv)).eval (.tmp 36)=kv:=(by(repeat(first | rw[Zc _ _ (by(try simp only[Zb]);omega)] | rw[Za _ _ (by decide)])))
 refine Zw ho (Zv hg) (ZC 90 Tryz.func90 (by kernel_rfl) (by kernel_rfl) #[.tmp 35,.tmp 36] _ hop #[vv,kv] (by simp only[List.map_toArray,List.map_cons,List.map_nil,x3_0,x3_1])) ?_;refine(HC _ hS0).mono ?_;rintro e u1 ⟨rfl,rfl⟩;refine⟨_,rfl,hS0,?_⟩;rw[hd];clear ho hg hop hd;rw[←Zh];refine wpAnyH_all rB (by simp) ?_;intro i hi;obtain rfl:=List.mem_singleton.1 hi;obtain⟨o4,ho,hg,hop,hd⟩:=Zd q4
 refine Zar ho (Zv hg) (Zcc _ _ hop _ (by(repeat(first | rw[Zc _ _ (by(try simp only[Zb]);omega)] | rw[Za _ _ (by decide)] | exact e6))) (by(repeat(first | rw[Zc _ _ (by(try simp only[Zb]);omega)] | rw[Za _ _ (by decide)]))) hRB) ?_;refine⟨hS1,?_⟩;rw[hd,ZbL];clear ho hg hop hd;rw[←Zh];refine Zj [0,1,2,3,4] (.bool pb) q5 hs (hall ([0,1,2,3,4],5) (by simp)) hQ (fun o w' hop hS=>Zam _ _ hop w' (by(repeat(first | rw[Zc _ _ (by(try simp only[Zb]);omega)] | rw[Za _ _ (by decide)])))) hS1 ?_
 exact wpAnyH_done rD F _
def Zdf:List (List Nat × Nat):=[([],0),([0],1),([0,1],2),([0,1,2],3),([0,1,2,3],4),([0,1,2,3,4],5),([0,1,2,3,4,5,6],7)]
theorem ZqB{ops:Array Oper}{Q:Exit→Act→World→Prop}{S:World→Prop}{a0:Act}{w5:World}{b6 b9 g cc:Nat}{k9 i9 m9:Int}{a9:Option Addr}{n9 c9:Nat}{s:ByteArray}{nb:Bool}{t0 t1 t2 t3:Value}
  (q0:Zf ops 0 none (.load 84 (.tmp 9)) (some 51))
  (q1:Zf ops 1 none (.fieldAddr 84 (.tmp 9) 3) (some 52))
  (q2:Zf ops 2 none (.load 26 (.tmp 52)) (some 53))
  (q3:Zf ops 3 none (.indexAddr 26 (.tmp 53) (.const (.int .i64 0))) (some 54))
  (q4:Zf ops 4 none (.load 9 (.tmp 54)) (some 55))
  (q5:Zf ops 5 none (.binOp .neq 9 (.tmp 55) (.const (.string ⟨#[]⟩)) 9) (some 56))
  (q6:Zf ops 6 none (.store 84 (.tmp 6) (.tmp 51)) none)
  (q7:Zf ops 7 none (.assign (.tmp 56)) (some 7))
  (hs:Region.noSelect ops=true) (hq:(Zdf.all fun p=>Region.free .any ops (LR 8 p.1) p.2&&(Region.ready .any ops (LR 8 p.1)).contains p.2)=true)
  (r6:Region.ready .any ops (LR 8 [0,1,2,3,4,5])=[6])
  (rend:Region.ready .any ops (LR 8 [0,1,2,3,4,5,6,7])=[])
  (hQ:∀(d:Option Tmp) (v:Value) c a w,Q (.panic c) (a.put d v) w→Q (.panic c) a w)
  (hsz:56<a0.tmps.size) (e9:a0.eval (.tmp 9)=.pointer (some ⟨b9,0,none⟩)) (e6:a0.eval (.tmp 6)=.pointer (some ⟨b6,0,none⟩))
  (hS0:S w5.drew)
  (hS1:S (st4 w5.drew b6 k9 i9 m9 (.slice a9 n9 c9))) (hRB:RL w5.drew b6 84 [t0,t1,t2,t3]) (LS:∀u,S u→(loadVar 84 ⟨b9,0,none⟩).run Tryz.prog u=.ok (.agg #[.int .i8 k9,.int .i64 i9,.int .u32 m9,.slice a9 n9 c9]) u) (LG:∀u,S u→(loadVar 26 ⟨b9,3,none⟩).run Tryz.prog u=.ok (.slice (some ⟨g,0,none⟩) 1 cc) u) (LX:∀u,S u→(loadVar 9 ⟨g,0,none⟩).run Tryz.prog u=.ok (.string s) u)
  (EN:∀u:World,(binOp .neq 9 (.string s) (.string ⟨#[]⟩)).run Tryz.prog u=.ok (.bool nb) u)
  (F:∀(wc:World),wc=(st4 w5.drew b6 k9 i9 m9 (.slice a9 n9 c9))→Q .normal (((((((a0.put (some 51) (.agg #[.int .i8 k9,.int .i64 i9,.int .u32 m9,.slice a9 n9 c9])).put (some 52) (.pointer (some ⟨b9,3,none⟩))).put (some 53) (.slice (some ⟨g,0,none⟩) 1 cc)).put (some 54) (.pointer (some ⟨g,0,none⟩))).put (some 55) (.string s)).put (some 56) (.bool nb)).put (some 7) (.bool nb)) wc) :
  wpAnyH Tryz.prog .any ops Q S 8 (LR 8 []) a0 w5.drew:=by
 have hall:∀p∈Zdf,Region.free .any ops (LR 8 p.1) p.2=true∧(Region.ready .any ops (LR 8 p.1)).contains p.2=true:=by
  intro p hp;have:=List.all_eq_true.1 hq p hp;simpa using this
 unfold Zdf at hall;refine Zj [] (.agg #[.int .i8 k9,.int .i64 i9,.int .u32 m9,.slice a9 n9 c9]) q0 hs (hall ([],0) (by simp)) hQ (fun o w' hop hS=>ZF _ _ hop w' (by(repeat rw[Za _ _ (by decide)]);exact e9) (LS _ hS)) hS0 ?_;refine Zj [0] (.pointer (some ⟨b9,3,none⟩)) q1 hs (hall ([0],1) (by simp)) hQ (fun o w' hop hS=>ZbC _ _ hop w' (by(repeat rw[Za _ _ (by decide)]);exact e9)) hS0 ?_
 refine Zj [0,1] (.slice (some ⟨g,0,none⟩) 1 cc) q2 hs (hall ([0,1],2) (by simp)) hQ (fun o w' hop hS=>ZF _ _ hop w' (by(repeat(first | rw[Zc _ _ (by(try simp only[Zb]);omega)] | rw[Za _ _ (by decide)]))) (LG _ hS)) hS0 ?_;refine Zj [0,1,2] (.pointer (some ⟨g,0,none⟩)) q3 hs (hall ([0,1,2],3) (by simp)) hQ (fun o w' hop hS=>ZmH _ _ hop w' (by(repeat(first | rw[Zc _ _ (by(try simp only[Zb]);omega)] | rw[Za _ _ (by decide)])))) hS0 ?_
 refine Zj [0,1,2,3] (.string s) q4 hs (hall ([0,1,2,3],4) (by simp)) hQ (fun o w' hop hS=>ZF _ _ hop w' (by(repeat(first | rw[Zc _ _ (by(try simp only[Zb]);omega)] | rw[Za _ _ (by decide)]))) (LX _ hS)) hS0 ?_;refine Zj [0,1,2,3,4] (.bool nb) q5 hs (hall ([0,1,2,3,4],5) (by simp)) hQ (fun o w' hop hS=>Zel _ _ hop w' (by(repeat(first | rw[Zc _ _ (by(try simp only[Zb]);omega)] | rw[Za _ _ (by decide)]))) rfl (by first | rfl | go_simp) (EN w')) hS0 ?_
 refine wpAnyH_all r6 (by simp) ?_;intro i hi;obtain rfl:=List.mem_singleton.1 hi;obtain⟨o6,ho,hg,hop,hd⟩:=Zd q6;refine Zar ho (Zv hg) (Zcc _ _ hop _ (by(repeat rw[Za _ _ (by decide)]);exact e6) (by(repeat(first | rw[Zc _ _ (by(try simp only[Zb]);omega)] | rw[Za _ _ (by decide)]))) hRB) ?_;have hS6:=hS1;refine⟨hS6,?_⟩;rw[hd,ZbL];clear ho hg hop hd
 rw[←Zh];refine Zj [0,1,2,3,4,5,6] (.bool nb) q7 hs (hall ([0,1,2,3,4,5,6],7) (by simp)) hQ (fun o w' hop hS=>Zam _ _ hop w' (by(repeat(first | rw[Zc _ _ (by(try simp only[Zb]);omega)] | rw[Za _ _ (by decide)])))) hS6 ?_;exact wpAnyH_done rend (F _ rfl) _
theorem Zn5{a:Act}{i j:Nat}{x y:Value}(h:i≠j):(a.put (some i) x).put (some j) y=(a.put (some j) y).put (some i) x:=by
 unfold Act.put;simp only
 congr 1
 exact Array.setIfInBounds_comm _ _ h
def Zdg:List (List Nat × Nat):=[([],0),([0],2),([0,2],3),([0,2,3],4),([0,2,3,4],5),([0,2,3,4,5,1,6,7],8),([0,2,3,4,5,6,1,7],8)]
theorem ZqC{ops:Array Oper}{Q:Exit→Act→World→Prop}{S:World→Prop}{a0:Act}{w5:World}{b9 g off n c j gn gc n6 c6:Nat}{ga a6:Option Addr}{s:ByteArray}{w6:World}{t0 t1 t2 t3:Value}
  (q0:Zf ops 0 none (.fieldAddr 84 (.tmp 9) 3) (some 70))
  (q1:Zf ops 1 none (.load 26 (.tmp 70)) (some 71))
  (q2:Zf ops 2 none (.move (.tmp 10)) (some 72))
  (q3:Zf ops 3 none (.move (.tmp 11)) (some 73))
  (q4:Zf ops 4 none (.indexAddr 26 (.tmp 72) (.tmp 73)) (some 74))
  (q5:Zf ops 5 none (.load 9 (.tmp 74)) (some 75))
  (q6:Zf ops 6 none (.buildSlice 26 1 #[(0,.tmp 75)]) (some 76))
  (q7:Zf ops 7 none (.call {callee:=.builtin .append,args:=#[.tmp 71,.tmp 76],argTypes:=#[26,26]}) (some 77))
  (q8:Zf ops 8 none (.fieldAddr 84 (.tmp 9) 3) (some 78))
  (q9:Zf ops 9 none (.store 26 (.tmp 78) (.tmp 77)) none)
  (hs:Region.noSelect ops=true) (hq:(Zdg.all fun p=>Region.free .any ops (LR 10 p.1) p.2&&(Region.ready .any ops (LR 10 p.1)).contains p.2)=true)
  (rA:Region.ready .any ops (LR 10 [0,2,3,4,5])=[1,6]) (r1:Region.ready .any ops (LR 10 [0,2,3,4,5,1])=[6]) (r16:Region.ready .any ops (LR 10 [0,2,3,4,5,1,6])=[7]) (r167:Region.ready .any ops (LR 10 [0,2,3,4,5,1,6,7,8])=[9]) (rE1:Region.ready .any ops (LR 10 [0,2,3,4,5,1,6,7,8,9])=[])
  (r6:Region.ready .any ops (LR 10 [0,2,3,4,5,6])=[1]) (r61:Region.ready .any ops (LR 10 [0,2,3,4,5,6,1])=[7]) (r617:Region.ready .any ops (LR 10 [0,2,3,4,5,6,1,7,8])=[9]) (rE2:Region.ready .any ops (LR 10 [0,2,3,4,5,6,1,7,8,9])=[])
  (hQ:∀(d:Option Tmp) (v:Value) c a w,Q (.panic c) (a.put d v) w→Q (.panic c) a w)
  (hsz:78<a0.tmps.size) (e9:a0.eval (.tmp 9)=.pointer (some ⟨b9,0,none⟩)) (e10:a0.eval (.tmp 10)=.slice (some ⟨g,off,none⟩) n c) (e11:a0.eval (.tmp 11)=.int .i64 (j:Int))
  (hS0:S w5.drew) (t7:ops[7]?.map Oper.type=some 26) (hk:j<n) (LG:(loadVar 26 ⟨b9,3,none⟩).run Tryz.prog w5.drew=.ok (.slice ga gn gc) w5.drew) (LG6:(loadVar 26 ⟨b9,3,none⟩).run Tryz.prog (w5.drew.alloc (.cells #[.string s] 9))=.ok (.slice ga gn gc) (w5.drew.alloc (.cells #[.string s] 9))) (LX:∀u,S u→(loadVar 9 ⟨g,off+j,none⟩).run Tryz.prog u=.ok (.string s) u)
  (hS6:S (w5.drew.alloc (.cells #[.string s] 9))) (hrun:(Builtin.append_ #[26,26] 26 #[.slice ga gn gc,.slice (some ⟨w5.drew.heap.size,0,none⟩) 1 1]).run Tryz.prog (w5.drew.alloc (.cells #[.string s] 9))=.ok (.slice a6 n6 c6) w6) (hS7:S w6) (hRB:RL w6 b9 84 [t0,t1,t2,t3]) (hS9:S (w6.setCell ⟨b9,3,none⟩ (.slice a6 n6 c6)))
  (F:Q .normal (((((((((a0.put (some 70) (.pointer (some ⟨b9,3,none⟩))).put (some 72) (.slice (some ⟨g,off,none⟩) n c)).put (some 73) (.int .i64 (j:Int))).put (some 74) (.pointer (some ⟨g,off+j,none⟩))).put (some 75) (.string s)).put (some 71) (.slice ga gn gc)).put (some 76) (.slice (some ⟨w5.drew.heap.size,0,none⟩) 1 1)).put (some 77) (.slice a6 n6 c6)).put (some 78) (.pointer (some ⟨b9,3,none⟩))) (w6.setCell ⟨b9,3,none⟩ (.slice a6 n6 c6))) :
  wpAnyH Tryz.prog .any ops Q S 10 (LR 10 []) a0 w5.drew:=by
 have hall:∀p∈Zdg,Region.free .any ops (LR 10 p.1) p.2=true∧(Region.ready .any ops (LR 10 p.1)).contains p.2=true:=by
  intro p hp;have:=List.all_eq_true.1 hq p hp;simpa using this
 unfold Zdg at hall;refine Zj [] (.pointer (some ⟨b9,3,none⟩)) q0 hs (hall ([],0) (by simp)) hQ (fun o w' hop hS=>ZbC _ _ hop w' (by(repeat rw[Za _ _ (by decide)]);exact e9)) hS0 ?_;refine Zj [0] (.slice (some ⟨g,off,none⟩) n c) q2 hs (hall ([0],2) (by simp)) hQ (fun o w' hop hS=>Zs _ _ hop w' (by(repeat rw[Za _ _ (by decide)]);exact e10)) hS0 ?_;refine Zj [0,2] (.int .i64 (j:Int)) q3 hs (hall ([0,2],3) (by simp)) hQ (fun o w' hop hS=>Zs _ _ hop w' (by(repeat rw[Za _ _ (by decide)]);exact e11)) hS0 ?_
 refine Zj [0,2,3] (.pointer (some ⟨g,off+j,none⟩)) q4 hs (hall ([0,2,3],4) (by simp)) hQ (fun o w' hop hS=>Zn4 _ _ hop w' (by(repeat(first | rw[Zc _ _ (by(try simp only[Zb]);omega)] | rw[Za _ _ (by decide)]))) (by(repeat(first | rw[Zc _ _ (by(try simp only[Zb]);omega)] | rw[Za _ _ (by decide)]))) hk) hS0 ?_;refine Zj [0,2,3,4] (.string s) q5 hs (hall ([0,2,3,4],5) (by simp)) hQ (fun o w' hop hS=>ZF _ _ hop w' (by(repeat(first | rw[Zc _ _ (by(try simp only[Zb]);omega)] | rw[Za _ _ (by decide)]))) (LX _ hS)) hS0 ?_
 refine wpAnyH_all rA (by simp) ?_;intro i hi;rcases(show i=1∨i=6 by simpa using hi)with rfl | rfl
 ·obtain⟨o1,ho,hg,hop,hd⟩:=Zd q1;refine ZaX ho (Zv hg) (ZF _ _ hop _ (by(repeat(first | rw[Zc _ _ (by(try simp only[Zb]);omega)] | rw[Za _ _ (by decide)]))) LG) ?_;refine⟨hS0,?_⟩;rw[hd];clear ho hg hop hd;rw[←Zh];refine wpAnyH_all r1 (by simp) ?_;intro i hi;obtain rfl:=List.mem_singleton.1 hi;obtain⟨o6,ho,hg,hop,hd⟩:=Zd q6;refine ZaX ho (Zv hg) (Zga _ _ hop _ (by(repeat(first | rw[Zc _ _ (by(try simp only[Zb]);omega)] | rw[Za _ _ (by decide)])))) ?_
  refine⟨hS6,?_⟩;rw[hd];clear ho hg hop hd;rw[←Zh];refine wpAnyH_all r16 (by simp) ?_;intro i hi;obtain rfl:=List.mem_singleton.1 hi;obtain⟨o7,ho,hg,hop,hd⟩:=Zd q7;refine ZaX ho (Zv hg) (Zjs _ _ hop (Zlt t7 ho) _ (by(repeat(first | rw[Zc _ _ (by(try simp only[Zb]);omega)] | rw[Za _ _ (by decide)]))) (by(repeat(first | rw[Zc _ _ (by(try simp only[Zb]);omega)] | rw[Za _ _ (by decide)]))) hrun) ?_
  refine⟨hS7,?_⟩;rw[hd];clear ho hg hop hd;rw[←Zh];refine Zj [0,2,3,4,5,1,6,7] (.pointer (some ⟨b9,3,none⟩)) q8 hs (hall ([0,2,3,4,5,1,6,7],8) (by simp)) hQ (fun o w' hop hS=>ZbC _ _ hop w' (by(repeat(first | rw[Za _ _ (by decide)]));exact e9)) hS7 ?_;refine wpAnyH_all r167 (by simp) ?_;intro i hi;obtain rfl:=List.mem_singleton.1 hi;obtain⟨o9,ho,hg,hop,hd⟩:=Zd q9;refine Zar ho (Zv hg) (Zcd _ _ hop _ (by(repeat(first | rw[Zc _ _ (by(try simp only[Zb]);omega)] | rw[Za _ _ (by decide)]))) (by(repeat(first | rw[Zc _ _ (by(try simp only[Zb]);omega)] | rw[Za _ _ (by decide)]))) hRB) ?_
  refine⟨hS9,?_⟩;rw[hd,ZbL];clear ho hg hop hd;rw[←Zh];exact wpAnyH_done rE1 F _
 ·obtain⟨o6,ho,hg,hop,hd⟩:=Zd q6;refine ZaX ho (Zv hg) (Zga _ _ hop _ (by(repeat(first | rw[Zc _ _ (by(try simp only[Zb]);omega)] | rw[Za _ _ (by decide)])))) ?_;refine⟨hS6,?_⟩;rw[hd];clear ho hg hop hd;rw[←Zh];refine wpAnyH_all r6 (by simp) ?_;intro i hi;obtain rfl:=List.mem_singleton.1 hi;obtain⟨o1,ho,hg,hop,hd⟩:=Zd q1;refine ZaX ho (Zv hg) (ZF _ _ hop _ (by(repeat(first | rw[Zc _ _ (by(try simp only[Zb]);omega)] | rw[Za _ _ (by decide)]))) LG6) ?_
  refine⟨hS6,?_⟩;rw[hd];clear ho hg hop hd;rw[←Zh];rw[Zn5 (by decide:76≠71)];refine wpAnyH_all r61 (by simp) ?_;intro i hi;obtain rfl:=List.mem_singleton.1 hi;obtain⟨o7,ho,hg,hop,hd⟩:=Zd q7;refine ZaX ho (Zv hg) (Zjs _ _ hop (Zlt t7 ho) _ (by(repeat(first | rw[Zc _ _ (by(try simp only[Zb]);omega)] | rw[Za _ _ (by decide)]))) (by(repeat(first | rw[Zc _ _ (by(try simp only[Zb]);omega)] | rw[Za _ _ (by decide)]))) hrun) ?_
  refine⟨hS7,?_⟩;rw[hd];clear ho hg hop hd;rw[←Zh];refine Zj [0,2,3,4,5,6,1,7] (.pointer (some ⟨b9,3,none⟩)) q8 hs (hall ([0,2,3,4,5,6,1,7],8) (by simp)) hQ (fun o w' hop hS=>ZbC _ _ hop w' (by(repeat(first | rw[Za _ _ (by decide)]));exact e9)) hS7 ?_;refine wpAnyH_all r617 (by simp) ?_;intro i hi;obtain rfl:=List.mem_singleton.1 hi;obtain⟨o9,ho,hg,hop,hd⟩:=Zd q9;refine Zar ho (Zv hg) (Zcd _ _ hop _ (by(repeat(first | rw[Zc _ _ (by(try simp only[Zb]);omega)] | rw[Za _ _ (by decide)]))) (by(repeat(first | rw[Zc _ _ (by(try simp only[Zb]);omega)] | rw[Za _ _ (by decide)]))) hRB) ?_
  refine⟨hS9,?_⟩;rw[hd,ZbL];clear ho hg hop hd;rw[←Zh];exact wpAnyH_done rE2 F _
def Zdh:List (List Nat × Nat):=[([],0),([0],1),([0,1],2),([0,1,2],3),([0,1,2,3],4),([0,1,2,3,4],5),([0,1,2,3,4,5,6],7)]
theorem ZpN{ops:Array Oper}{Q:Exit→Act→World→Prop}{S:World→Prop}{a0:Act}{w5:World}{b8 b9 n c:Nat}{ta:Option Addr}{m9 fm:Int}{eb:Bool}{ty1:Array TypeId}
  (q0:Zf ops 0 none (.fieldAddr 84 (.tmp 9) 2) (some 84))
  (q1:Zf ops 1 none (.load 82 (.tmp 84)) (some 85))
  (q2:Zf ops 2 none (.fieldAddr 105 (.tmp 8) 1) (some 86))
  (q3:Zf ops 3 none (.fieldAddr 93 (.tmp 86) 1) (some 87))
  (q4:Zf ops 4 none (.load 91 (.tmp 87)) (some 88))
  (q5:Zf ops 5 none (.call {callee:=.builtin .len,args:=#[.tmp 88],argTypes:=#[91]}) (some 89))
  (q6:Zf ops 6 none (.call {callee:=.value (.func 97),args:=#[.tmp 89],argTypes:=ty1}) (some 90))
  (q7:Zf ops 7 none (.binOp .eql 82 (.tmp 85) (.tmp 90) 82) (some 91))
  (hs:Region.noSelect ops=true) (hq:(Zdh.all fun p=>Region.free .any ops (LR 8 p.1) p.2&&(Region.ready .any ops (LR 8 p.1)).contains p.2)=true)
  (r6:Region.ready .any ops (LR 8 [0,1,2,3,4,5])=[6])
  (rend:Region.ready .any ops (LR 8 [0,1,2,3,4,5,6,7])=[])
  (hQ:∀(d:Option Tmp) (v:Value) c a w,Q (.panic c) (a.put d v) w→Q (.panic c) a w)
  (hsz:91<a0.tmps.size) (e9:a0.eval (.tmp 9)=.pointer (some ⟨b9,0,none⟩)) (e8:a0.eval (.tmp 8)=.pointer (some ⟨b8,0,none⟩))
  (hS0:S w5.drew)
  (LM:∀u,S u→(loadVar 82 ⟨b9,2,none⟩).run Tryz.prog u=.ok (.int .u32 m9) u) (LT:∀u,S u→(loadVar 91 ⟨b8,2,none⟩).run Tryz.prog u=.ok (.slice ta n c) u)
  (H1:∀u,S u→Calls Tryz.prog 97 #[.int .i64 (n:Int)] u fun e w'=>e=.returned (.int .u32 fm)∧w'=u) (EQ:∀u:World,(binOp .eql 82 (.int .u32 m9) (.int .u32 fm)).run Tryz.prog u=.ok (.bool eb) u)
  (F:∀(wc:World),S wc→Q .normal ((((((((a0.put (some 84) (.pointer (some ⟨b9,2,none⟩))).put (some 85) (.int .u32 m9)).put (some 86) (.pointer (some ⟨b8,1,none⟩))).put (some 87) (.pointer (some ⟨b8,2,none⟩))).put (some 88) (.slice ta n c)).put (some 89) (.int .i64 (n:Int))).put (some 90) (.int .u32 fm)).put (some 91) (.bool eb)) wc) :
  wpAnyH Tryz.prog .any ops Q S 8 (LR 8 []) a0 w5.drew:=by
 have hall:∀p∈Zdh,Region.free .any ops (LR 8 p.1) p.2=true∧(Region.ready .any ops (LR 8 p.1)).contains p.2=true:=by
  intro p hp;have:=List.all_eq_true.1 hq p hp;simpa using this
 unfold Zdh at hall;refine Zj [] (.pointer (some ⟨b9,2,none⟩)) q0 hs (hall ([],0) (by simp)) hQ (fun o w' hop hS=>Zjr _ _ hop w' (by(repeat rw[Za _ _ (by decide)]);exact e9)) hS0 ?_;refine Zj [0] (.int .u32 m9) q1 hs (hall ([0],1) (by simp)) hQ (fun o w' hop hS=>ZF _ _ hop w' (by(repeat(first | rw[Zc _ _ (by(try simp only[Zb]);omega)] | rw[Za _ _ (by decide)]))) (LM _ hS)) hS0 ?_
 refine Zj [0,1] (.pointer (some ⟨b8,1,none⟩)) q2 hs (hall ([0,1],2) (by simp)) hQ (fun o w' hop hS=>ZcN _ _ hop w' (by(repeat rw[Za _ _ (by decide)]);exact e8)) hS0 ?_;refine Zj [0,1,2] (.pointer (some ⟨b8,2,none⟩)) q3 hs (hall ([0,1,2],3) (by simp)) hQ (fun o w' hop hS=>Zf2 _ _ hop w' (by(repeat(first | rw[Zc _ _ (by(try simp only[Zb]);omega)] | rw[Za _ _ (by decide)])))) hS0 ?_
 refine Zj [0,1,2,3] (.slice ta n c) q4 hs (hall ([0,1,2,3],4) (by simp)) hQ (fun o w' hop hS=>ZF _ _ hop w' (by(repeat(first | rw[Zc _ _ (by(try simp only[Zb]);omega)] | rw[Za _ _ (by decide)]))) (LT _ hS)) hS0 ?_;refine Zj [0,1,2,3,4] (.int .i64 (n:Int)) q5 hs (hall ([0,1,2,3,4],5) (by simp)) hQ (fun o w' hop hS=>ZmI _ _ hop w' (by(repeat(first | rw[Zc _ _ (by(try simp only[Zb]);omega)] | rw[Za _ _ (by decide)])))) hS0 ?_
 refine wpAnyH_all r6 (by simp) ?_;intro i hi;obtain rfl:=List.mem_singleton.1 hi;obtain⟨o6,ho,hg,hop,hd⟩:=Zd q6;have x6_0:(((((((a0.put (some 84) (.pointer (some ⟨b9,2,none⟩))).put (some 85) (.int .u32 m9)).put (some 86) (.pointer (some ⟨b8,1,none⟩))).put (some 87) (.pointer (some ⟨b8,2,none⟩))).put (some 88) (.slice ta n c)).put (some 89) (.int .i64 (n:Int)))).eval (.tmp 89)=.int .i64 (n:Int):=(by(repeat(first | rw[Zc _ _ (by(try simp only[Zb]);omega)] | rw[Za _ _ (by decide)])))
 refine Zw ho (Zv hg) (ZC 97 Tryz.func97 (by kernel_rfl) (by kernel_rfl) #[.tmp 89] _ hop #[.int .i64 (n:Int)] (by simp only[List.map_toArray,List.map_cons,List.map_nil,x6_0])) ?_;refine(H1 _ hS0).mono ?_;rintro e u1 ⟨rfl,rfl⟩;refine⟨_,rfl,hS0,?_⟩;rw[hd];clear ho hg hop hd;rw[←Zh];refine Zj [0,1,2,3,4,5,6] (.bool eb) q7 hs (hall ([0,1,2,3,4,5,6],7) (by simp)) hQ (fun o w' hop hS=>Zel _ _ hop w' (by(repeat(first | rw[Zc _ _ (by(try simp only[Zb]);omega)] | rw[Za _ _ (by decide)]))) (by(repeat(first | rw[Zc _ _ (by(try simp only[Zb]);omega)] | rw[Za _ _ (by decide)]))) (by first | rfl | go_simp) (EQ w')) hS0 ?_
 exact wpAnyH_done rend (F _ hS0) _
end Go.Proofs.YtjdnpgpbeppgjaaGreatDoor
