import Derived.Test.YtjdnpgpbeppgjaaGreatDoorA28
set_option linter.unusedSimpArgs false
set_option linter.unusedVariables false
set_option maxHeartbeats 6400000
set_option maxRecDepth 100000
namespace Go.Proofs.YtjdnpgpbeppgjaaGreatDoor
section
open Go.RowKit Go.Maps Go.Shelf
theorem Zhk(qs:List Qn):∀(k:Nat) (fs:List ByteArray) (x:ByteArray),x∈fs→x∈itQ qs k fs
 | 0,fs,x,h=>h
 | k+1,fs,x,h=>by
  obtain⟨m,hm⟩:=ZeH qs fs;exact Zhk qs k _ x (by rw[hm];exact List.mem_append.2 (.inl h))
theorem Zlr{d:Nat}{r:R3}{ss fs:List ByteArray}(h:ZbI d ss r fs):∀x∈avL (kbL d ss r),x∈fs:=fun x hx=>by
 obtain⟨k,hk⟩:=h.it;rw[hk];refine Zhk _ k _ x ?_;unfold atN;rw[ZeE];exact .inr hx
theorem ZkA{d:Nat}{r:R3}{ss fs:List ByteArray}(h:ZbI d ss r fs){n:ByteArray}(h1:n∈ss)(h2:n∈vsT [] (Zi d r)):n∈fs:=by
 refine Zlr h n ?_;unfold avL kbL;rw[List.flatMap_cons];refine List.mem_append.2 (.inl ?_);unfold avX Zaq;simp only[if_true];obtain⟨a1,a2,_⟩:=ZbF.1 h2;refine ZbF.2 ⟨a1,a2,⟨n,V0⟩,?_,rfl⟩;unfold Z7;exact List.mem_map.2 ⟨n,List.mem_filter.2 ⟨h2,ZD.2 h1⟩,rfl⟩
theorem ZnU{d:Nat}{r:R3}{ss fs:List ByteArray}(h:ZbI d ss r fs){y:XL}(hy:y∈r.bd)(hk:y.x.k=1){n:ByteArray}(hn:n∈vsT [] y.x.ts):n∈fs:=by
 refine Zlr h n ?_;unfold avL kbL;rw[List.flatMap_cons];refine List.mem_append.2 (.inr (List.mem_flatMap.2 ⟨y,hy,?_⟩));unfold avX;rw[if_pos hk];exact hn
theorem ZnV{d:Nat}{x:Lit4}(hx:ZQ x=true)(hk:x.k=1):vsT [] (Zl d x)=vsT [] x.ts:=by
 unfold ZQ at hx;rw[if_pos (.inl hk)]at hx;simp only[Bool.and_eq_true]at hx;unfold Zl;rw[ZcO,ZcO,Zdb _ _ (Zdz hx.2.2.1),Zdb _ _ (Zdz hx.2.2.2)]
def ahS(d:Nat)(l:List ByteArray)(bd:List XL):List ByteArray:=l++bd.flatMap (fun y=>if y.x.k=1 then vsT [] (Zl d y.x)else [])
theorem ZnW{d:Nat}{l:List ByteArray}{bd:List XL}{k:Nat}(h:k<bd.length):ahS d l (bd.take (k+1))=ahS d l (bd.take k)++(if(atL bd k).x.k=1 then vsT [] (Zl d (atL bd k).x)else []):=by
 unfold ahS;rw[Zh2 h,List.flatMap_append,←List.append_assoc];simp
theorem Zih{d:Nat}{l:List ByteArray}{bd:List XL}{n:ByteArray}:n∈ahS d l bd↔n∈l∨∃y∈bd,y.x.k=1∧n∈vsT [] (Zl d y.x):=by
 unfold ahS;rw[List.mem_append,List.mem_flatMap];constructor
 ·rintro(h | ⟨y,hy,h⟩)
  ·exact .inl h
  ·split at h
   ·next hk=>exact .inr ⟨y,hy,hk,h⟩
   ·cases h
 ·rintro(h | ⟨y,hy,hk,h⟩)
  ·exact .inl h
  ·exact .inr ⟨y,hy,by rw[if_pos hk];exact h⟩
theorem Zdd:∀(ts:List T) (out:List ByteArray),(vsT out ts).length≤out.length+ts.length
 | [],out=>by simp[vsT]
 | t::ts,out=>by
  rw[vsT,List.length_cons]
  split
  ·have:=Zdd ts out;omega
  ·have:=Zdd ts (out++[t.v]);rw[List.length_append,List.length_singleton]at this;omega
theorem Zii{d:Nat}{l:List ByteArray}:∀{bd:List XL},(ahS d l bd).length≤l.length+(bd.flatMap (fun y=>Zl d y.x)).length
 | []=>by simp[ahS]
 | y::bd=>by
  have ih:=@Zii d l bd;unfold ahS at ih⊢;rw[List.length_append]at ih;rw[List.flatMap_cons,List.flatMap_cons,List.length_append,List.length_append,List.length_append];have h1:=Zdd (Zl d y.x) [];rw[List.length_nil]at h1
  split
  ·omega
  ·rw[List.length_nil];omega
theorem Zo9{d:Nat}{r:R3}{ss fs:List ByteArray}(hK:ZbI d ss r fs)(hx:r.bd.all (fun y=>ZQ y.x)=true):ZnR d r fs (ahS d ss r.bd):=by
 intro n hn;rw[Zih]at hn;rcases hn with h | ⟨y,hy,hk,h⟩
 ·by_cases hv:n∈vsT [] (Zi d r)
  ·exact .inl (ZkA hK h hv)
  ·exact .inr hv
 ·rw[List.all_eq_true]at hx;rw[ZnV (hx y hy) hk]at h;exact .inl (ZnU hK hy hk h)
def Zhl(bd:List XL):List ByteArray:=bd.flatMap (fun y=>[ZM y.x.l,ZM y.x.r])
def Zjj(bd:List XL)(l:List ByteArray):Nat:=((Zhl bd).filter (fun n => !inB l n)).length+l.length
theorem Zhm:∀bd:List XL,(Zhl bd).length=2*bd.length
 | []=>rfl
 | y::bd=>by
  have:=Zhm bd;unfold Zhl at this⊢;rw[List.flatMap_cons,List.length_append,this,List.length_cons];simp;omega
theorem ZnX{d:Nat}{x:Lit4}{l:List ByteArray}(h:ZN d x l≠noS):inB l (ZN d x l)=false∧(ZN d x l=ZM x.l∨ZN d x l=ZM x.r):=by
 unfold ZN at h⊢
 by_cases h0:x.k≠3∨x.rel≠1
 ·rw[if_pos h0]at h;exact absurd rfl h
 ·rw[if_neg h0]at h⊢
  split
  ·next hc=>exact⟨hc.2.1,.inl rfl⟩
  ·next hc=>
   rw[if_neg hc]at h
   split
   ·next hc2=>exact⟨hc2.2.1,.inr rfl⟩
   ·next hc2=>
    rw[if_neg hc2]at h;exact absurd rfl h
theorem ZnY{l:List ByteArray}{s n:ByteArray}(h:inB l n=true):inB (l++[s]) n=true:=ZD.2 (List.mem_append.2 (.inl (ZD.1 h)))
theorem Zpa{V l:List ByteArray}{s:ByteArray}(hs:s∈V)(hn:inB l s=false):(V.filter (fun n => !inB (l++[s]) n)).length<(V.filter (fun n => !inB l n)).length:=by
 have e:V.filter (fun n => !inB (l++[s]) n)=(V.filter (fun n => !inB l n)).filter (fun n => !inB (l++[s]) n):=by
  rw[List.filter_filter]
  congr 1
  funext n
  cases h:inB l n
  ·simp
  ·rw[ZnY h];rfl
 rw[e];refine List.length_filter_lt_length_iff_exists.2 ⟨s,List.mem_filter.2 ⟨hs,by rw[hn];rfl⟩,?_⟩;have:inB (l++[s]) s=true:=ZD.2 (List.mem_append.2 (.inr (List.mem_singleton.2 rfl)));rw[this]
 decide
theorem Zmt{d:Nat}{bd:List XL}{l:List ByteArray}{y:XL}(hy:y∈bd):Zjj bd (ZaV d l y)≤Zjj bd l:=by
 unfold ZaV
 split
 ·next hs=>
  obtain⟨h1,h2⟩:=ZnX hs
  have hm:ZN d y.x l∈Zhl bd:=by
   unfold Zhl;refine List.mem_flatMap.2 ⟨y,hy,?_⟩;rcases h2 with h2 | h2<;>rw[h2]<;>simp
  have:=Zpa hm h1;unfold Zjj;rw[List.length_append,List.length_singleton];omega
 ·exact Nat.le_refl _
theorem Zjk(bd:List XL)(l:List ByteArray):l.length≤Zjj bd l:=by
 unfold Zjj;omega
theorem Zmu(bd:List XL)(l:List ByteArray):Zjj bd l≤2*bd.length+l.length:=by
 unfold Zjj;have h1:=List.length_filter_le (fun n => !inB l n) (Zhl bd);rw[Zhm]at h1;omega
structure LmS (d:Nat) (r:R3) (ss:List ByteArray) (C:Nat) (l:List ByteArray):Prop where
 inv:∀fs,ZbI d ss r fs→ZnR d r fs l
 kn:∀n∈ss,n∈l
 pos:∀y∈r.bd,y.x.k=1→∀n∈vsT [] (Zl d y.x),n∈l
 cap:Zjj r.bd l≤C
theorem LmS.step{d:Nat}{r:R3}{ss:List ByteArray}{C:Nat}{l:List ByteArray}(h:LmS (d+1) r ss C l)(hL:∀y∈r.bd,Zdc y.x){y:XL}(hy:y∈r.bd):LmS (d+1) r ss C (ZaV (d+1) l y):=
 ⟨fun fs hf=>ZnS hf hL hy (h.inv fs hf),fun n hn=>Zhh _ _ _ n (h.kn n hn),fun z hz hk n hn=>Zhh _ _ _ n (h.pos z hz hk n hn),Nat.le_trans (Zmt hy) h.cap⟩
theorem Zhn{d:Nat}{bd:List XL}{l:List ByteArray}{k:Nat}(h:k<bd.length):Zeh d (bd.take (k+1)) l=ZaV d (Zeh d (bd.take k) l) (atL bd k):=by
 unfold Zeh;rw[Zh2 h,List.foldl_append];rfl
theorem LmS.rnd{d:Nat}{r:R3}{ss:List ByteArray}{C:Nat}{l:List ByteArray}(h:LmS (d+1) r ss C l)(hL:∀y∈r.bd,Zdc y.x):∀k,k≤r.bd.length→LmS (d+1) r ss C (Zeh (d+1) (r.bd.take k) l)
 | 0,_=>h
 | k+1,hk=>by
  rw[Zhn (by omega)];exact(h.rnd hL k (by omega)).step hL (by rw[ZS (by omega)];exact List.getElem_mem _)
theorem LmS.start{d:Nat}{r:R3}{ss:List ByteArray}(hx:r.bd.all (fun y=>ZQ y.x)=true):LmS d r ss (2*r.bd.length+(ahS d ss r.bd).length) (ahS d ss r.bd):=
 ⟨fun fs hf=>Zo9 hf hx,fun n hn=>Zih.2 (.inl hn),fun y hy hk n hn=>Zih.2 (.inr ⟨y,hy,hk,hn⟩),Zmu _ _⟩
theorem LmS.full{d:Nat}{r:R3}{ss F:List ByteArray}{C:Nat}(h:LmS (d+1) r ss C F)(hst:∀y∈r.bd,ZN (d+1) y.x F=noS){fs:List ByteArray}(hK:ZbI (d+1) ss r fs):Z5 (vsT [] (Zi (d+1) r)) F=true↔fs.length=(vsT [] (Zi (d+1) r)).length:=
 Zmr hK h.kn h.pos hst (h.inv fs hK)
theorem Zho{d:Nat}:∀{bd:List XL} {l:List ByteArray},(∀y∈bd,ZN d y.x l=noS)→Zeh d bd l=l
 | [],l,_=>rfl
 | z::bd,l,h=>by
  have h1:ZaV d l z=l:=by
   unfold ZaV;rw[if_neg (fun hh=>hh (h z (by simp)))]
  show Zeh d bd (ZaV d l z)=l;rw[h1];exact Zho (fun y hy=>h y (by simp[hy]))
def ZaI(d:Nat)(r:R3)(l:List ByteArray)(xs:List St)(b:Bool):Prop:=((ruleB d r=false∨knB l l.length=false)→b=false)∧(ruleB d r=true→knB l l.length=true→∀fs,ZbI d l r fs→b=(decide (fs.length=(vsT [] (Zi d r)).length)&&Zf0 (goR d r.bd l (2^r.bd.length-1) xs)))
end
section
open Go.RowKit Go.Maps Go.Shelf
attribute [local go_sem ↓] Go.wp_at_zero Go.wp_at_succ
attribute [local go_sem] Oper.semAt_some
attribute [-go_sem] loadVar
theorem Zde{u:World}{a:Addr}{v:Value}(h:u.cell? a=some v):(loadVar 90 a).run Tryz.prog u=.ok v u:=by rw[loadVar.eq_1];go_simp
theorem Zaa:noS.toList=[]:=by rw[ByteArray.toList_eq];rfl
theorem ZaW{s:ByteArray}(h:¬ s=noS):s.toList.isEmpty=false:=by
 cases e:s.toList with
 | nil=>exact absurd (toList_inj (by rw[e,Zaa])) h
 | cons a b=>rfl
theorem ZmA(ev:Operand→Value)(o:Oper){x:Operand}(hop:o.op=.fieldAddr 105 x 3)(w:World){b:Nat}(hx:ev x=.pointer (some ⟨b,0,none⟩)):(execOp ev o).run Tryz.prog w=.ok (.value (.pointer (some ⟨b,4,none⟩))) w:=by
 simp only[execOp,hop,hx];go_simp
theorem ZmB(ev:Operand→Value)(o:Oper){x:Operand}(hop:o.op=.fieldAddr 105 x 4)(w:World){b:Nat}(hx:ev x=.pointer (some ⟨b,0,none⟩)):(execOp ev o).run Tryz.prog w=.ok (.value (.pointer (some ⟨b,10,none⟩))) w:=by
 simp only[execOp,hop,hx];go_simp
theorem Zhq(e:E)(a:Option Addr)(c:Nat)(w:World):Calls Tryz.prog 226 #[e.val a c] w fun r w'=>r=.returned (.string (ZM e))∧Below w.heap.size w w':=by
 unfold E.val ZM;generalize e.op=op;generalize e.t=t;generalize e.kids.length=n;obtain⟨tv,⟨ak,an,sx⟩⟩:=t;dsimp only;have HB:=Lib.hid (Zp (w:=w) (.cells #[.int .i8 op,.string tv,.int .i8 ak,.int .i64 an,.string sx,.slice a n c] 103));have HR:=Lib.hid (Zk w #[.int .i8 op,.string tv,.int .i8 ak,.int .i64 an,.string sx,.slice a n c] 103);have y0:=ZfP (RL.at HR.out (j:=0) rfl);have y1:=ZL (RL.at HR.out (j:=1) rfl)
 by_cases ho:op=0
 ·have hob:(op==0)=true:=by rw[ho];rfl
  rw[if_pos ho];clear ho HR;go_enter Tryz.func226,Tryz.ntmps226;go_wp2;go_ret;exact⟨rfl,HB.out⟩
 ·have hob:(op==0)=false:=by simpa using ho
  rw[if_neg ho];clear ho HR;go_enter Tryz.func226,Tryz.ntmps226;go_wp2;go_ret;exact⟨rfl,HB.out⟩
def ZdU:List (List Nat × Nat):=[([],0),([0],1),([0,1],3),([0,1,3],4),([0,1,3,4,2,5],6),([0,1,3,4,2,5,6],7)]
theorem ZqW{ops:Array Oper}{Q:Exit→Act→World→Prop}{S:World→Prop}{a0:Act}{w5:World}{b2:Nat}{lv rv:Value}{sa sb:ByteArray}{ty1:Array TypeId}
  (q0:Zf ops 0 none (.fieldAddr 105 (.tmp 2) 3) (some 15))
  (q1:Zf ops 1 none (.load 103 (.tmp 15)) (some 16))
  (q3:Zf ops 3 none (.fieldAddr 105 (.tmp 2) 4) (some 18))
  (q4:Zf ops 4 none (.load 103 (.tmp 18)) (some 19))
  (q2:Zf ops 2 none (.call {callee:=.value (.func 226),args:=#[.tmp 16],argTypes:=ty1}) (some 17))
  (q5:Zf ops 5 none (.call {callee:=.value (.func 226),args:=#[.tmp 19],argTypes:=ty1}) (some 20))
  (q6:Zf ops 6 none (.assign (.tmp 17)) (some 5))
  (q7:Zf ops 7 none (.assign (.tmp 20)) (some 6))
  (hs:Region.noSelect ops=true) (hq:(ZdU.all fun p=>Region.free .any ops (LR 8 p.1) p.2&&(Region.ready .any ops (LR 8 p.1)).contains p.2)=true)
  (r2:Region.ready .any ops (LR 8 [0,1,3,4])=[2])
  (r5:Region.ready .any ops (LR 8 [0,1,3,4,2])=[5])
  (rend:Region.ready .any ops (LR 8 [0,1,3,4,2,5,6,7])=[])
  (hQ:∀(d:Option Tmp) (v:Value) c a w,Q (.panic c) (a.put d v) w→Q (.panic c) a w)
  (hsz:20<a0.tmps.size) (e2:a0.eval (.tmp 2)=.pointer (some ⟨b2,0,none⟩))
  (hS0:S w5.drew)
  (keep:∀u u',S u→S u'→S u') (LA:∀u,S u→(loadVar 103 ⟨b2,4,none⟩).run Tryz.prog u=.ok lv u) (LB:∀u,S u→(loadVar 103 ⟨b2,10,none⟩).run Tryz.prog u=.ok rv u)
  (H1:∀u,S u→Calls Tryz.prog 226 #[lv] u fun e w'=>e=.returned (.string sa)∧S w') (H2:∀u,S u→Calls Tryz.prog 226 #[rv] u fun e w'=>e=.returned (.string sb)∧S w')
  (F:∀(wc:World),S wc→Q .normal ((((((((a0.put (some 15) (.pointer (some ⟨b2,4,none⟩))).put (some 16) (lv)).put (some 18) (.pointer (some ⟨b2,10,none⟩))).put (some 19) (rv)).put (some 17) (.string sa)).put (some 20) (.string sb)).put (some 5) (.string sa)).put (some 6) (.string sb)) wc) :
  wpAnyH Tryz.prog .any ops Q S 8 (LR 8 []) a0 w5.drew:=by
 have hall:∀p∈ZdU,Region.free .any ops (LR 8 p.1) p.2=true∧(Region.ready .any ops (LR 8 p.1)).contains p.2=true:=by
  intro p hp;have:=List.all_eq_true.1 hq p hp;simpa using this
 unfold ZdU at hall;refine Zj [] (.pointer (some ⟨b2,4,none⟩)) q0 hs (hall ([],0) (by simp)) hQ (fun o w' hop hS=>ZmA _ _ hop w' (by(repeat rw[Za _ _ (by decide)]);exact e2)) hS0 ?_;refine Zj [0] (lv) q1 hs (hall ([0],1) (by simp)) hQ (fun o w' hop hS=>ZF _ _ hop w' (by(repeat(first | rw[Zc _ _ (by(try simp only[Zb]);omega)] | rw[Za _ _ (by decide)]))) (LA _ hS)) hS0 ?_
 refine Zj [0,1] (.pointer (some ⟨b2,10,none⟩)) q3 hs (hall ([0,1],3) (by simp)) hQ (fun o w' hop hS=>ZmB _ _ hop w' (by(repeat rw[Za _ _ (by decide)]);exact e2)) hS0 ?_;refine Zj [0,1,3] (rv) q4 hs (hall ([0,1,3],4) (by simp)) hQ (fun o w' hop hS=>ZF _ _ hop w' (by(repeat(first | rw[Zc _ _ (by(try simp only[Zb]);omega)] | rw[Za _ _ (by decide)]))) (LB _ hS)) hS0 ?_
 refine wpAnyH_all r2 (by simp) ?_;intro i hi;obtain rfl:=List.mem_singleton.1 hi;obtain⟨o2,ho,hg,hop,hd⟩:=Zd q2;have x2_0:(((((a0.put (some 15) (.pointer (some ⟨b2,4,none⟩))).put (some 16) (lv)).put (some 18) (.pointer (some ⟨b2,10,none⟩))).put (some 19) (rv))).eval (.tmp 16)=lv:=(by(repeat(first | rw[Zc _ _ (by(try simp only[Zb]);omega)] | rw[Za _ _ (by decide)])));refine Zw ho (Zv hg) (ZC 226 Tryz.func226 (by kernel_rfl) (by kernel_rfl) #[.tmp 16] _ hop #[lv] (by simp only[List.map_toArray,List.map_cons,List.map_nil,x2_0])) ?_
 refine(H1 _ hS0).mono ?_;rintro e u1 ⟨rfl,k1⟩;have hS2:=keep _ _ hS0 k1;refine⟨_,rfl,hS2,?_⟩;rw[hd];clear ho hg hop hd;rw[←Zh];refine wpAnyH_all r5 (by simp) ?_;intro i hi;obtain rfl:=List.mem_singleton.1 hi;obtain⟨o5,ho,hg,hop,hd⟩:=Zd q5;have x5_0:((((((a0.put (some 15) (.pointer (some ⟨b2,4,none⟩))).put (some 16) (lv)).put (some 18) (.pointer (some ⟨b2,10,none⟩))).put (some 19) (rv)).put (some 17) (.string sa))).eval (.tmp 19)=rv:=(by(repeat(first | rw[Zc _ _ (by(try simp only[Zb]);omega)] | rw[Za _ _ (by decide)])))
 refine Zw ho (Zv hg) (ZC 226 Tryz.func226 (by kernel_rfl) (by kernel_rfl) #[.tmp 19] _ hop #[rv] (by simp only[List.map_toArray,List.map_cons,List.map_nil,x5_0])) ?_;refine(H2 _ hS2).mono ?_;rintro e u2 ⟨rfl,k2⟩;have hS5:=keep _ _ hS2 k2;refine⟨_,rfl,hS5,?_⟩;rw[hd];clear ho hg hop hd;rw[←Zh];refine Zj [0,1,3,4,2,5] (.string sa) q6 hs (hall ([0,1,3,4,2,5],6) (by simp)) hQ (fun o w' hop hS=>Zam _ _ hop w' (by(repeat(first | rw[Zc _ _ (by(try simp only[Zb]);omega)] | rw[Za _ _ (by decide)])))) hS5 ?_
 refine Zj [0,1,3,4,2,5,6] (.string sb) q7 hs (hall ([0,1,3,4,2,5,6],7) (by simp)) hQ (fun o w' hop hS=>Zam _ _ hop w' (by(repeat(first | rw[Zc _ _ (by(try simp only[Zb]);omega)] | rw[Za _ _ (by decide)])))) hS5 ?_;exact wpAnyH_done rend (F _ hS5) _
theorem Zhr{d:Nat}{x:Lit4}{q:LP}{w:World}(hL:LIs w d x q)(hsl:szD d x.l≤1048576)(hsr:szD d x.r≤1048576){v:Value}{l:List ByteArray}(hl:Ls w v l.length (l.flatMap Zm)) :
  Calls Tryz.prog 95 #[x.val q,v] w fun e w'=>e=.returned (.string (ZN d x l))∧Below w.heap.size w w':=by
 have HB0:=Lib.hid (Zp (w:=w) (.cells #[.int .i8 x.k,.string x.pr,.slice q.a x.ts.length q.c,.int .i8 x.rel,.int .i8 x.l.op,.string x.l.t.v,.int .i8 x.l.t.a.k,.int .i64 x.l.t.a.n,.string x.l.t.a.s,.slice q.la x.l.kids.length q.lc,.int .i8 x.r.op,.string x.r.t.v,.int .i8 x.r.t.a.k,.int .i64 x.r.t.a.n,.string x.r.t.a.s,.slice q.ra x.r.kids.length q.rc] 105));have HRL:=Lib.hid (Zk w #[.int .i8 x.k,.string x.pr,.slice q.a x.ts.length q.c,.int .i8 x.rel,.int .i8 x.l.op,.string x.l.t.v,.int .i8 x.l.t.a.k,.int .i64 x.l.t.a.n,.string x.l.t.a.s,.slice q.la x.l.kids.length q.lc,.int .i8 x.r.op,.string x.r.t.v,.int .i8 x.r.t.a.k,.int .i64 x.r.t.a.n,.string x.r.t.a.s,.slice q.ra x.r.kids.length q.rc] 105)
 unfold Lit4.val;obtain⟨W,hW⟩:∃W,W=w.alloc (.cells #[.int .i8 x.k,.string x.pr,.slice q.a x.ts.length q.c,.int .i8 x.rel,.int .i8 x.l.op,.string x.l.t.v,.int .i8 x.l.t.a.k,.int .i64 x.l.t.a.n,.string x.l.t.a.s,.slice q.la x.l.kids.length q.lc,.int .i8 x.r.op,.string x.r.t.v,.int .i8 x.r.t.a.k,.int .i64 x.r.t.a.n,.string x.r.t.a.s,.slice q.ra x.r.kids.length q.rc] 105):=⟨_,rfl⟩;have ly0:(loadVar 90 ⟨w.heap.size,0,none⟩).run Tryz.prog W=.ok (.int .i8 x.k) W:=Zde (hW▸RL.at HRL.out (j:=0) rfl)
 have ly3:(loadVar 94 ⟨w.heap.size,3,none⟩).run Tryz.prog W=.ok (.int .i8 x.rel) W:=ZiT (hW▸RL.at HRL.out (j:=3) rfl)
 by_cases hk:x.k=3
 ·by_cases hr:x.rel=1
  ·have hkb:(x.k != 3)=false:=by rw[hk];rfl
   have hrb:(x.rel != 1)=false:=by rw[hr];rfl
   have HLA:Hid (∀u,Below W.heap.size W u→(loadVar 103 ⟨w.heap.size,4,none⟩).run Tryz.prog u=.ok (x.l.val q.la q.lc) u):=fun u hu=>Zdt (cs:=[.int .i8 x.l.op,.string x.l.t.v,.int .i8 x.l.t.a.k,.int .i64 x.l.t.a.n,.string x.l.t.a.s,.slice q.la x.l.kids.length q.lc]) (fun j v hv=>by
    have hj:j<6:=(List.getElem?_eq_some_iff.1 hv).1;have hr:=RL.below HRL.out (hW▸hu);have hj6:j=0∨j=1∨j=2∨j=3∨j=4∨j=5:=by omega
    rcases hj6 with rfl | rfl | rfl | rfl | rfl | rfl<;>exact RL.at hr hv) rfl
   have HLB:Hid (∀u,Below W.heap.size W u→(loadVar 103 ⟨w.heap.size,10,none⟩).run Tryz.prog u=.ok (x.r.val q.ra q.rc) u):=fun u hu=>Zdt (cs:=[.int .i8 x.r.op,.string x.r.t.v,.int .i8 x.r.t.a.k,.int .i64 x.r.t.a.n,.string x.r.t.a.s,.slice q.ra x.r.kids.length q.rc]) (fun j v hv=>by
    have hj:j<6:=(List.getElem?_eq_some_iff.1 hv).1;have hr:=RL.below HRL.out (hW▸hu);have hj6:j=0∨j=1∨j=2∨j=3∨j=4∨j=5:=by omega
    rcases hj6 with rfl | rfl | rfl | rfl | rfl | rfl<;>exact RL.at hr hv) rfl
   have HBW:Hid (Below w.heap.size w W):=by rw[hW];exact HB0.out
   have HHA:Hid (∀u,Below W.heap.size W u→Calls Tryz.prog 96 #[v,.string (ZM x.l)] u fun e w'=>e=.returned (.bool (inB l (ZM x.l)))∧w'=u):=fun u hu=>Zcs (hl.below (HBW.out.trans (hu.mono HBW.out.size))) _
   have HHB:Hid (∀u,Below W.heap.size W u→Calls Tryz.prog 96 #[v,.string (ZM x.r)] u fun e w'=>e=.returned (.bool (inB l (ZM x.r)))∧w'=u):=fun u hu=>Zcs (hl.below (HBW.out.trans (hu.mono HBW.out.size))) _
   have HVA:Hid (∀u,Below W.heap.size W u→Calls Tryz.prog 227 #[x.r.val q.ra q.rc] u fun r w'=>∃sv,r=.returned sv∧Ls w' sv (vsT [] (Zg d x.r)).length ((vsT [] (Zg d x.r)).flatMap Zm)∧Below u.heap.size u w'):=fun u hu=>ZdI d x.r _ _ u (hL.r.below (HBW.out.trans (hu.mono HBW.out.size))) hsr
   have HVB:Hid (∀u,Below W.heap.size W u→Calls Tryz.prog 227 #[x.l.val q.la q.lc] u fun r w'=>∃sv,r=.returned sv∧Ls w' sv (vsT [] (Zg d x.l)).length ((vsT [] (Zg d x.l)).flatMap Zm)∧Below u.heap.size u w'):=fun u hu=>ZdI d x.l _ _ u (hL.l.below (HBW.out.trans (hu.mono HBW.out.size))) hsl
   have HAA:Hid (∀u sv,Ls u sv (vsT [] (Zg d x.r)).length ((vsT [] (Zg d x.r)).flatMap Zm)→Below W.heap.size W u→Calls Tryz.prog 90 #[sv,v] u fun e w'=>e=.returned (.bool (Z5 (vsT [] (Zg d x.r)) l))∧w'=u):=fun u sv hs hu=>Zct hs (hl.below (HBW.out.trans (hu.mono HBW.out.size)))
   have HAB:Hid (∀u sv,Ls u sv (vsT [] (Zg d x.l)).length ((vsT [] (Zg d x.l)).flatMap Zm)→Below W.heap.size W u→Calls Tryz.prog 90 #[sv,v] u fun e w'=>e=.returned (.bool (Z5 (vsT [] (Zg d x.l)) l))∧w'=u):=fun u sv hs hu=>Zct hs (hl.below (HBW.out.trans (hu.mono HBW.out.size)))
   have H1:Hid (∀u,Below W.heap.size W u→Calls Tryz.prog 226 #[x.l.val q.la q.lc] u fun e w'=>e=.returned (.string (ZM x.l))∧Below W.heap.size W w'):=fun u hu=>(Zhq x.l _ _ u).mono (fun e w' h=>⟨h.1,hu.trans (h.2.mono hu.size)⟩)
   have H2:Hid (∀u,Below W.heap.size W u→Calls Tryz.prog 226 #[x.r.val q.ra q.rc] u fun e w'=>e=.returned (.string (ZM x.r))∧Below W.heap.size W w'):=fun u hu=>(Zhq x.r _ _ u).mono (fun e w' h=>⟨h.1,hu.trans (h.2.mono hu.size)⟩)
   have HS:Hid (ZN d x l=if ZM x.l≠noS∧inB l (ZM x.l)=false∧Z5 (vsT [] (Zg d x.r)) l=true then ZM x.l else if ZM x.r≠noS∧inB l (ZM x.r)=false∧Z5 (vsT [] (Zg d x.l)) l=true then ZM x.r else noS):=by
    show _=_;unfold ZN
    rw[if_neg (fun h=>by
     rcases h with h | h
     ·exact h hk
     ·exact h hr)]
   have HBI:Hid (Below W.heap.size W W.drew):=(Below.refl _ _).drew;clear hk hr hL hsl hsr hl HRL HBW;go_enter Tryz.func95,Tryz.ntmps95;go_upto_region 1 with fail
   rw[←hW]at HB0⊢;generalize w.heap.size=b2 at HLA HLB ly0 ly3⊢;clear hW;go_upto_region 3 with fail
   clear ly0 ly3 hkb hrb;refine wp_region_noPanic ?_;refine wp_region_held (S:=fun v=>Below W.heap.size W v) (by kernel_rfl) ?_;refine ZqW (w5:=W) (S:=fun v=>Below W.heap.size W v) (b2:=b2) (lv:=x.l.val q.la q.lc) (rv:=x.r.val q.ra q.rc) (sa:=ZM x.l) (sb:=ZM x.r) rfl rfl rfl rfl rfl rfl rfl rfl (by kernel_rfl) (by kernel_rfl) (by kernel_rfl) (by kernel_rfl) (by kernel_rfl) (by intros;assumption) (by simp) rfl HBI.out (fun _ _ _ h=>h) HLA.out HLB.out H1.out H2.out ?_
   rintro wc hwc;have HBC:=Lib.hid hwc;refine NoPanic.normal ?_
   rename_i hK
   refine hK _ _ ?_;simp (config:={maxSteps:=8000000}) only[Act.put,List.getElem_toArray,List.getElem_cons_zero,List.getElem_cons_succ,List.setIfInBounds_toArray,List.set_cons_succ,List.set_cons_zero];clear hK hwc H1 H2 HBI;generalize x.l.val q.la q.lc=lv at HLA HVB⊢;generalize x.r.val q.ra q.rc=rv at HLB HVA⊢;generalize ZM x.l=sa at HHA HS⊢;generalize ZM x.r=sb at HHB HS⊢;generalize inB l sa=ba at HHA HS
   generalize inB l sb=bb at HHB HS;generalize Z5 (vsT [] (Zg d x.r)) l=pa at HAA HS;generalize Z5 (vsT [] (Zg d x.l)) l=pb at HAB HS
   by_cases ha0:sa=noS
   ·have fa:sa.toList.isEmpty=true:=by rw[ha0,Zaa];rfl
    have fa2:sa.toList=[]:=by rw[ha0];exact Zaa
    by_cases hb0:sb=noS
    ·have HF:Hid (ZN d x l=noS):=by
      show _=_;rw[HS.out];simp[ha0,hb0]
     have fb:sb.toList.isEmpty=true:=by rw[hb0,Zaa];rfl
     have fb2:sb.toList=[]:=by rw[hb0];exact Zaa
     clear hb0 ha0;go_wp2;go_ret;exact⟨by rw[HF.out];rfl,HB0.out.trans (HBC.out.mono HB0.out.size)⟩
    ·have fb:=ZaW hb0
     have fb2:(sb.toList==[])=false:=by
      cases e:sb.toList with
      | nil=>rw[e]at fb;cases fb
      | cons a b=>rfl
     cases bb
     case true=>
      have HF:Hid (ZN d x l=noS):=by
       show _=_;rw[HS.out];simp[ha0,hb0]
      clear hb0 ha0;go_wp2_with fail;refine(HHB.out _ HBC.out).mono ?_;rintro e ux ⟨rfl,rfl⟩;go_wp2;go_ret;exact⟨by rw[HF.out];rfl,HB0.out.trans (HBC.out.mono HB0.out.size)⟩
     case false=>
      cases pb
      case true=>
       have HF:Hid (ZN d x l=sb):=by
        show _=_;rw[HS.out];simp[ha0,hb0]
       clear hb0 ha0;go_wp2_with fail;refine(HHB.out _ HBC.out).mono ?_;rintro e ux ⟨rfl,rfl⟩;have lq:=HLA.out _ HBC.out;go_wp2_with fail;refine(HVB.out _ HBC.out).mono ?_;rintro e u3 ⟨sv,rfl,hsv,b3⟩;have HBV:Hid (Below W.heap.size W u3):=HBC.out.trans (b3.mono HBC.out.size);have HSV:=Lib.hid hsv;clear lq hsv b3;go_wp2_with fail;refine(HAB.out _ _ HSV.out HBV.out).mono ?_;rintro e ux ⟨rfl,rfl⟩;clear HSV
       go_wp2;go_ret;exact⟨by rw[HF.out];rfl,HB0.out.trans (HBV.out.mono HB0.out.size)⟩
      case false=>
       have HF:Hid (ZN d x l=noS):=by
        show _=_;rw[HS.out];simp[ha0,hb0]
       clear hb0 ha0;go_wp2_with fail;refine(HHB.out _ HBC.out).mono ?_;rintro e ux ⟨rfl,rfl⟩;have lq:=HLA.out _ HBC.out;go_wp2_with fail;refine(HVB.out _ HBC.out).mono ?_;rintro e u3 ⟨sv,rfl,hsv,b3⟩;have HBV:Hid (Below W.heap.size W u3):=HBC.out.trans (b3.mono HBC.out.size);have HSV:=Lib.hid hsv;clear lq hsv b3;go_wp2_with fail;refine(HAB.out _ _ HSV.out HBV.out).mono ?_;rintro e ux ⟨rfl,rfl⟩;clear HSV
       go_wp2;go_ret;exact⟨by rw[HF.out];rfl,HB0.out.trans (HBV.out.mono HB0.out.size)⟩
   ·have fa:=ZaW ha0
    have fa2:(sa.toList==[])=false:=by
     cases e:sa.toList with
     | nil=>rw[e]at fa;cases fa
     | cons a b=>rfl
    cases ba
    case true=>
     go_wp2_with fail;refine(HHA.out _ HBC.out).mono ?_;rintro e ux ⟨rfl,rfl⟩
     by_cases hb0:sb=noS
     ·have HF:Hid (ZN d x l=noS):=by
       show _=_;rw[HS.out];simp[ha0,hb0]
      have fb:sb.toList.isEmpty=true:=by rw[hb0,Zaa];rfl
      have fb2:sb.toList=[]:=by rw[hb0];exact Zaa
      clear hb0 ha0;go_wp2;go_ret;exact⟨by rw[HF.out];rfl,HB0.out.trans (HBC.out.mono HB0.out.size)⟩
     ·have fb:=ZaW hb0
      have fb2:(sb.toList==[])=false:=by
       cases e:sb.toList with
       | nil=>rw[e]at fb;cases fb
       | cons a b=>rfl
      cases bb
      case true=>
       have HF:Hid (ZN d x l=noS):=by
        show _=_;rw[HS.out];simp[ha0,hb0]
       clear hb0 ha0;go_wp2_with fail;refine(HHB.out _ HBC.out).mono ?_;rintro e ux ⟨rfl,rfl⟩;go_wp2;go_ret;exact⟨by rw[HF.out];rfl,HB0.out.trans (HBC.out.mono HB0.out.size)⟩
      case false=>
       cases pb
       case true=>
        have HF:Hid (ZN d x l=sb):=by
         show _=_;rw[HS.out];simp[ha0,hb0]
        clear hb0 ha0;go_wp2_with fail;refine(HHB.out _ HBC.out).mono ?_;rintro e ux ⟨rfl,rfl⟩;have lq:=HLA.out _ HBC.out;go_wp2_with fail;refine(HVB.out _ HBC.out).mono ?_;rintro e u3 ⟨sv,rfl,hsv,b3⟩;have HBV:Hid (Below W.heap.size W u3):=HBC.out.trans (b3.mono HBC.out.size);have HSV:=Lib.hid hsv;clear lq hsv b3;go_wp2_with fail;refine(HAB.out _ _ HSV.out HBV.out).mono ?_;rintro e ux ⟨rfl,rfl⟩;clear HSV
        go_wp2;go_ret;exact⟨by rw[HF.out];rfl,HB0.out.trans (HBV.out.mono HB0.out.size)⟩
       case false=>
        have HF:Hid (ZN d x l=noS):=by
         show _=_;rw[HS.out];simp[ha0,hb0]
        clear hb0 ha0;go_wp2_with fail;refine(HHB.out _ HBC.out).mono ?_;rintro e ux ⟨rfl,rfl⟩;have lq:=HLA.out _ HBC.out;go_wp2_with fail;refine(HVB.out _ HBC.out).mono ?_;rintro e u3 ⟨sv,rfl,hsv,b3⟩;have HBV:Hid (Below W.heap.size W u3):=HBC.out.trans (b3.mono HBC.out.size);have HSV:=Lib.hid hsv;clear lq hsv b3;go_wp2_with fail;refine(HAB.out _ _ HSV.out HBV.out).mono ?_;rintro e ux ⟨rfl,rfl⟩;clear HSV
        go_wp2;go_ret;exact⟨by rw[HF.out];rfl,HB0.out.trans (HBV.out.mono HB0.out.size)⟩
    case false=>
     cases pa
     case true=>
      have HF:Hid (ZN d x l=sa):=by
       show _=_;rw[HS.out];simp[ha0]
      clear ha0;go_wp2_with fail;refine(HHA.out _ HBC.out).mono ?_;rintro e ux ⟨rfl,rfl⟩;have lq:=HLB.out _ HBC.out;go_wp2_with fail;refine(HVA.out _ HBC.out).mono ?_;rintro e u3 ⟨sv,rfl,hsv,b3⟩;have HBU:Hid (Below W.heap.size W u3):=HBC.out.trans (b3.mono HBC.out.size);have HSV:=Lib.hid hsv;clear lq hsv b3;go_wp2_with fail;refine(HAA.out _ _ HSV.out HBU.out).mono ?_;rintro e ux ⟨rfl,rfl⟩;clear HSV
      go_wp2;go_ret;exact⟨by rw[HF.out];rfl,HB0.out.trans (HBU.out.mono HB0.out.size)⟩
     case false=>
      go_wp2_with fail;refine(HHA.out _ HBC.out).mono ?_;rintro e ux ⟨rfl,rfl⟩;have lq:=HLB.out _ HBC.out;go_wp2_with fail;refine(HVA.out _ HBC.out).mono ?_;rintro e u3 ⟨sv,rfl,hsv,b3⟩;have HBU:Hid (Below W.heap.size W u3):=HBC.out.trans (b3.mono HBC.out.size);have HSV:=Lib.hid hsv;clear lq hsv b3;go_wp2_with fail;refine(HAA.out _ _ HSV.out HBU.out).mono ?_;rintro e ux ⟨rfl,rfl⟩;clear HSV
      by_cases hb0:sb=noS
      ·have HF:Hid (ZN d x l=noS):=by
        show _=_;rw[HS.out];simp[ha0,hb0]
       have fb:sb.toList.isEmpty=true:=by rw[hb0,Zaa];rfl
       have fb2:sb.toList=[]:=by rw[hb0];exact Zaa
       clear hb0 ha0;go_wp2;go_ret;exact⟨by rw[HF.out];rfl,HB0.out.trans (HBU.out.mono HB0.out.size)⟩
      ·have fb:=ZaW hb0
       have fb2:(sb.toList==[])=false:=by
        cases e:sb.toList with
        | nil=>rw[e]at fb;cases fb
        | cons a b=>rfl
       cases bb
       case true=>
        have HF:Hid (ZN d x l=noS):=by
         show _=_;rw[HS.out];simp[ha0,hb0]
        clear hb0 ha0;go_wp2_with fail;refine(HHB.out _ HBU.out).mono ?_;rintro e ux ⟨rfl,rfl⟩;go_wp2;go_ret;exact⟨by rw[HF.out];rfl,HB0.out.trans (HBU.out.mono HB0.out.size)⟩
       case false=>
        cases pb
        case true=>
         have HF:Hid (ZN d x l=sb):=by
          show _=_;rw[HS.out];simp[ha0,hb0]
         clear hb0 ha0;go_wp2_with fail;refine(HHB.out _ HBU.out).mono ?_;rintro e ux ⟨rfl,rfl⟩;have lq:=HLA.out _ HBU.out;go_wp2_with fail;refine(HVB.out _ HBU.out).mono ?_;rintro e u3 ⟨sv,rfl,hsv,b3⟩;have HBV:Hid (Below W.heap.size W u3):=HBU.out.trans (b3.mono HBU.out.size);have HSV:=Lib.hid hsv;clear lq hsv b3;go_wp2_with fail;refine(HAB.out _ _ HSV.out HBV.out).mono ?_;rintro e ux ⟨rfl,rfl⟩;clear HSV
         go_wp2;go_ret;exact⟨by rw[HF.out];rfl,HB0.out.trans (HBV.out.mono HB0.out.size)⟩
        case false=>
         have HF:Hid (ZN d x l=noS):=by
          show _=_;rw[HS.out];simp[ha0,hb0]
         clear hb0 ha0;go_wp2_with fail;refine(HHB.out _ HBU.out).mono ?_;rintro e ux ⟨rfl,rfl⟩;have lq:=HLA.out _ HBU.out;go_wp2_with fail;refine(HVB.out _ HBU.out).mono ?_;rintro e u3 ⟨sv,rfl,hsv,b3⟩;have HBV:Hid (Below W.heap.size W u3):=HBU.out.trans (b3.mono HBU.out.size);have HSV:=Lib.hid hsv;clear lq hsv b3;go_wp2_with fail;refine(HAB.out _ _ HSV.out HBV.out).mono ?_;rintro e ux ⟨rfl,rfl⟩;clear HSV
         go_wp2;go_ret;exact⟨by rw[HF.out];rfl,HB0.out.trans (HBV.out.mono HB0.out.size)⟩
  ·have hkb:(x.k != 3)=false:=by rw[hk];rfl
   have hrb:(x.rel != 1)=true:=by simpa using hr
   have HF:Hid (ZN d x l=noS):=by
    show _=_;unfold ZN;rw[if_pos (.inr hr)]
   clear hk hr hL hl;go_enter Tryz.func95,Tryz.ntmps95;go_upto_region 1 with fail
   rw[←hW]at HB0⊢;clear hW;go_wp2;go_ret;exact⟨by rw[HF.out];rfl,HB0.out⟩
 ·have hkb:(x.k != 3)=true:=by simpa using hk
  have HF:Hid (ZN d x l=noS):=by
   show _=_;unfold ZN;rw[if_pos (.inl hk)]
  clear hk hL hl;go_enter Tryz.func95,Tryz.ntmps95;go_upto_region 1 with fail
  rw[←hW]at HB0⊢;clear hW;go_wp2;go_ret;exact⟨by rw[HF.out];rfl,HB0.out⟩
end
section
open Go.RowKit Go.Maps Go.Shelf
attribute [local go_sem ↓] Go.wp_at_zero Go.wp_at_succ
attribute [-go_sem] loadVar Builtin.append_
def ZqS:Value→Nat
 | .slice _ n _=>n
 | _=>0
def agN:Value→Nat
 | .bool true=>1
 | _=>0
theorem Zmp{s:ByteArray}(h:¬ s=noS):(s.toList==[])=false:=by
 have h1:=ZaW h
 cases e:s.toList with
 | nil=>rw[e]at h1;cases h1
 | cons a b=>rfl
theorem Zig{d:Nat}{r:R3}{w:World}{ba:Option Addr}{bc:Nat}(hL:Lb w (.slice ba r.bd.length bc) (d+1) r.bd)(hx:r.bd.all (fun y=>ZQ y.x)=true)(hD:BdR (d+1) r.bd)(hT:(Zi (d+1) r).length≤1048576){v:Value}{l:List ByteArray}(hl:Ls w v l.length (l.flatMap Zm))(hll:l.length≤1048576) :
  Calls Tryz.prog 92 #[.slice ba r.bd.length bc,v] w fun e w'=>∃sv,e=.returned sv∧∃F:List ByteArray,Ls w' sv F.length (F.flatMap Zm)∧(∃C,LmS (d+1) r l C F)∧(∀y∈r.bd,ZN (d+1) y.x F=noS)∧Below w.heap.size w w':=by
 obtain⟨i0,hi0,hz0,hz1,hz2⟩:=info_parts Zcq;have HLF:=Lib.hid (Zjf hx);have HST:=Lib.hid (@LmS.start (d+1) r l hx)
 have HCN:Hid (2*r.bd.length+(ahS (d+1) l r.bd).length≤l.length+1048576+32):=by
  have h1:=@Zii (d+1) l r.bd
  have h2:(r.bd.flatMap (fun y=>Zl (d+1) y.x)).length≤(Zi (d+1) r).length:=by
   unfold Zi;rw[List.length_append];omega
  have h3:=hD.bn;show _≤_;omega
 have HAL:Hid (∀k,k≤r.bd.length→(ahS (d+1) l (r.bd.take k)).length≤l.length+1048576):=fun k hk=>by
  have h1:=@Zii (d+1) l (r.bd.take k)
  have h2:((r.bd.take k).flatMap (fun y=>Zl (d+1) y.x)).length≤(r.bd.flatMap (fun y=>Zl (d+1) y.x)).length:=by
   conv=>rhs;rw[←List.take_append_drop k r.bd]
   rw[List.flatMap_append,List.length_append];omega
  have h3:(r.bd.flatMap (fun y=>Zl (d+1) y.x)).length≤(Zi (d+1) r).length:=by
   unfold Zi;rw[List.length_append];omega
  omega
 have HLL:=Lib.hid hL;obtain⟨la,lc,rfl,hlc1,hlc2,_⟩:=Z3 hl;obtain⟨a2,c2,hac2,hd1,hd2,hat2⟩:=hL.form
 injection hac2 with e4 e5 e6
 subst e4 e6;have HBAT:=Lib.hid hat2;have HBD:=Lib.hid hD;have HL:=Lib.hid hl;have hbn:=hD.bn;unfold maxLen at hd2;clear hx hat2 e5 hL hl hT hD hlc1 hlc2;go_enter Tryz.func92,Tryz.ntmps92;go_wp2_with (at_builtin;refine Zae rfl (.tmp 10) (.tmp 11) 26 9 rfl Tryz.underlying26 hi0 hz0 hz1 hz2 rfl (by decide) (b:=w.heap.size) (v:=.slice (some ⟨w.heap.size,0,none⟩) 0 0) (n:=0) (xs:=[]) (a:=la) (c:=lc) (m:=l.length) (ys:=l.flatMap Zm) (by simp[Act.eval,Act.put]) (World.ownsRow_lit w #[] 0 (Nat.le_refl _) (by decide) rfl) (by simp[Act.eval,Act.put]) (HL.out.below (Zp _)) (Zb0 l) (Zc0 l) (by unfold maxLen;omega) (by omega) (by simp) ?_;intro v5 w5 own5 hg5 hl5;have bel5:Hid (Below w.heap.size w w5):=(Zp _).grown hg5 (by simp) (fun j hj=>by simp[Value.ownBlock]at hj;omega);rw[Nat.zero_add,List.nil_append]at own5;clear hg5 hl5)
 obtain⟨oa,oc,rfl,_⟩:=ZB own5
 have HO5:Hid (w5.ownsRow w.heap.size 9 1 (.slice oa (ahS (d+1) l (r.bd.take 0)).length oc) (ahS (d+1) l (r.bd.take 0)).length ((ahS (d+1) l (r.bd.take 0)).flatMap Zm)):=by
  have e:ahS (d+1) l (r.bd.take 0)=l:=by unfold ahS;simp
  show World.ownsRow _ _ _ _ _ _ _;rw[e];exact own5
 have hl0:ahS (d+1) l (r.bd.take 0)=l:=by unfold ahS;simp
 have hl1:Value.slice oa l.length oc=.slice oa (ahS (d+1) l (r.bd.take 0)).length oc:=by rw[hl0]
 have HL1:=Lib.hid hl1;clear own5 hl0 hl1;go_wp2;go_loopw [5,6] (fun hv i wr=>∃(k:Nat) (ha:Option Addr) (hc:Nat),k≤r.bd.length∧i=.int .i64 k∧hv=.slice ha (ahS (d+1) l (r.bd.take k)).length hc∧Hid (wr.ownsRow w.heap.size 9 1 (.slice ha (ahS (d+1) l (r.bd.take k)).length hc) (ahS (d+1) l (r.bd.take k)).length ((ahS (d+1) l (r.bd.take k)).flatMap Zm))∧Hid (Below w.heap.size w wr)) (fun _ i _=>r.bd.length-(intOf i).toNat)
 case atStart=>exact⟨0,oa,oc,Nat.zero_le _,rfl,HL1.out,HO5,bel5⟩
 case round=>
  clear HO5 bel5 HL1;obtain⟨k,ha,hc,hk,rfl,rfl,HO,HB⟩:=hrel
  by_cases hlt:k<r.bd.length
  ·have hlt':(k:Int)<(r.bd.length:Int):=by omega
   have hk0:(0:Int)≤(k:Int):=by omega
   obtain⟨g2,f2,rfl,hg2,hr2⟩:=HBAT.out (by omega);have hrg:=Zu (hr2 k hlt) HB.out hg2;have lk:=Zde (u:=wr) (a:=⟨g2,f2+k*16,none⟩) (v:=.int .i8 (atL r.bd k).x.k) (hrg 0 _ rfl);have lit:=Zan hrg rfl;have hxi:=(HLL.out.at_is hlt).below HB.out;have HC:=Lib.hid (Zcp (d+1) (atL r.bd k).x (atL r.bd k).p wr hxi (by have:=HBD.out.bc k hlt;omega) (HBD.out.bl k hlt) (HBD.out.br k hlt))
   have HTK:=Lib.hid (@ZnW (d+1) l r.bd k hlt);have hcap:=HAL.out (k+1) (by omega);rw[XL.val_eq]at lit;clear hr2 hrg hxi hg2
   by_cases hk1:(atL r.bd k).x.k=1
   ·have hkb:((atL r.bd k).x.k==1)=true:=by rw[hk1];rfl
    rw[if_pos hk1]at HTK;rw[HTK.out,List.length_append]at hcap;generalize ahS (d+1) l (r.bd.take k)=cur at HO HTK hcap⊢;generalize (atL r.bd k).x.k=kk at lk hkb;generalize (atL r.bd k).x.val (atL r.bd k).p=QV at lit HC;generalize vsT [] (Zl (d+1) (atL r.bd k).x)=vs at HC HTK hcap;clear hk1;go_wp2_with fail;refine HC.out.mono ?_;rintro e w3 ⟨sv,rfl,hls,b3⟩;obtain⟨va,vc,rfl,_⟩:=Z3 hls;have HO3:=Lib.hid (Zn HO.out b3)
    have HB3:Hid (Below w.heap.size w w3):=HB.out.trans (b3.mono HB.out.size);have HLS:=Lib.hid hls;have hzz:w.heap.size≤w3.heap.size:=HB3.out.size;clear HC hls b3 lk lit HO HB;go_wp2_with (at_builtin;refine Zae rfl (.tmp 25) (.tmp 30) 26 9 rfl Tryz.underlying26 hi0 hz0 hz1 hz2 rfl (by decide) (b:=w.heap.size) (v:=.slice ha cur.length hc) (n:=cur.length) (xs:=cur.flatMap Zm) (a:=va) (c:=vc) (m:=vs.length) (ys:=vs.flatMap Zm) (by simp[Act.eval,Act.put]) HO3.out (by simp[Act.eval,Act.put]) HLS.out (Zb0 vs) (Zc0 vs) (by unfold maxLen;omega) (by omega) hzz ?_;intro v6 w6 own6 hg6 hl6)
    obtain⟨xa,xc,rfl,_⟩:=ZB own6;have HF:Hid (w6.ownsRow w.heap.size 9 1 (.slice xa (cur++vs).length xc) (cur++vs).length ((cur++vs).flatMap Zm)∧Below w.heap.size w w6):=⟨by rw[List.length_append,List.flatMap_append];exact own6,HB3.out.grown hg6 hzz (fun j hj=>(HO3.out.lt j hj).1)⟩;clear own6 hg6 hl6 HO3 HB3 HLS;go_wp2;go_roundw
    case rel=>exact⟨k+1,xa,xc,by omega,by go_num,by rw[HTK.out,List.length_append],by rw[HTK.out];exact HF.out.1,HF.out.2⟩
    case measure=>simp[intOf];omega
   ·have hkb:((atL r.bd k).x.k==1)=false:=by simpa using hk1
    rw[if_neg hk1,List.append_nil]at HTK;generalize ahS (d+1) l (r.bd.take k)=cur at HO HTK⊢;generalize (atL r.bd k).x.k=kk at lk hkb;clear hk1 HC lit;go_wp2;go_roundw
    case rel=>exact⟨k+1,ha,hc,by omega,by go_num,by rw[HTK.out],by rw[HTK.out];exact HO.out,HB.out⟩
    case measure=>simp[intOf];omega
  ·obtain rfl:k=r.bd.length:=by omega
   rw[List.take_length]at HO⊢;clear HAL;generalize ahS (d+1) l r.bd=cur0 at HO HST HCN⊢;obtain⟨C,hC⟩:∃C,C=2*r.bd.length+cur0.length:=⟨_,rfl⟩;rw[←hC]at HST HCN;have hcn:=HCN.out;have hc0:cur0.length≤C:=by omega
   clear hC HCN;go_wp2;go_loopw [5,7,8,9] (fun hv ag _ _ wr=>∃(cur:List ByteArray) (ha:Option Addr) (hc:Nat) (g:Bool),hv=.slice ha cur.length hc∧ag=.bool g∧cur.length≤C∧Hid (LmS (d+1) r l C cur)∧Hid (g=false→∀y∈r.bd,ZN (d+1) y.x cur=noS)∧Hid (wr.ownsRow w.heap.size 9 1 (.slice ha cur.length hc) cur.length (cur.flatMap Zm))∧Hid (Below w.heap.size w wr)) (fun hv ag _ _ _=>2*(C-ZqS hv)+agN ag)
   case atStart=>exact⟨cur0,ha,hc,true,rfl,rfl,hc0,HST.out,(fun h=>by cases h),HO.out,HB.out⟩
   case round=>
    clear HST HO HB;obtain⟨cur,ha,hc,g,rfl,rfl,hcl,HM,HG,HO,HB⟩:=hrel
    cases g
    ·go_wp2;go_ret;exact⟨_,rfl,cur,ZY HO.out,⟨C,HM.out⟩,HG.out (by simp),HB.out⟩
    ·clear HG;have HS0:Hid (Zeh (d+1) (r.bd.take 0) cur=cur):=rfl;go_wp2;go_loopw [5,7,8,9] (fun hv ag i _ wr=>∃(k:Nat) (ck:List ByteArray) (ha:Option Addr) (hc:Nat),k≤r.bd.length∧i=.int .i64 k∧hv=.slice ha ck.length hc∧ag=.bool (decide (cur.length<ck.length))∧Hid (Zeh (d+1) (r.bd.take k) cur=ck)∧Hid (wr.ownsRow w.heap.size 9 1 (.slice ha ck.length hc) ck.length (ck.flatMap Zm))∧Hid (Below w.heap.size w wr)) (fun _ _ i _ _=>r.bd.length-(intOf i).toNat)
     case atStart=>exact⟨0,cur,ha,hc,Nat.zero_le _,rfl,rfl,by simp,HS0.out,HO.out,HB.out⟩
     case round=>
      clear HS0 HO HB;obtain⟨k,ck,ha,hc,hk,rfl,rfl,rfl,HK,HO,HB⟩:=hrel
      by_cases hlt:k<r.bd.length
      ·have hlt':(k:Int)<(r.bd.length:Int):=by omega
       have hk0:(0:Int)≤(k:Int):=by omega
       obtain⟨g2,f2,rfl,hg2,hr2⟩:=HBAT.out (by omega);have lit:=Zan (Zu (hr2 k hlt) HB.out hg2) rfl;have hxi:=(HLL.out.at_is hlt).below HB.out;have HC:=Lib.hid (Zhr hxi (HBD.out.bl k hlt) (HBD.out.br k hlt) (ZY HO.out))
       have HTK:Hid (Zeh (d+1) (r.bd.take (k+1)) cur=ZaV (d+1) ck (atL r.bd k)):=by
        show _=_;rw[Zhn hlt,HK.out]
       have HCL:Hid (ck.length≤C):=Nat.le_trans (Zjk r.bd ck) (by have:=(HM.out.rnd HLF.out k hk).cap;rw[HK.out]at this;exact this);have hckl:ck.length≤C:=HCL.out;have hcg:cur.length≤ck.length:=by have:=Zei (d+1) (r.bd.take k) cur;rw[HK.out]at this;exact this
       rw[XL.val_eq]at lit;unfold ZaV at HTK;generalize (atL r.bd k).x.val (atL r.bd k).p=QV at lit HC;generalize ZN (d+1) (atL r.bd k).x ck=s at HC HTK;clear hr2 hxi hg2 HCL;go_wp2_with fail;refine HC.out.mono ?_;rintro e w3 ⟨rfl,b3⟩;have HO3:=Lib.hid (Zn HO.out b3);have HB3:Hid (Below w.heap.size w w3):=HB.out.trans (b3.mono HB.out.size);clear HC b3 lit HO HB HK
       by_cases hs:s=noS
       ·have fs:s.toList.isEmpty=true:=by rw[hs,Zaa];rfl
        have fs2:s.toList=[]:=by rw[hs];exact Zaa
        rw[if_neg (fun h=>h hs)]at HTK;clear hs;go_wp2;go_roundw
        case rel=>exact⟨k+1,ck,ha,hc,by omega,by go_num,rfl,rfl,HTK.out,HO3.out,HB3.out⟩
        case measure=>simp[intOf];omega
       ·have fs:=ZaW hs;have fs2:=Zmp hs;rw[if_pos hs]at HTK;obtain⟨a6,c6,w6,hrun,hown,hb6⟩:=Zh7 s HO3.out HB3.out (Nat.le_refl _) (by omega);have HF:=Lib.hid (And.intro hown hb6);clear hown hb6 HO3 HB3 hs;go_wp2;go_roundw
        case rel=>exact⟨k+1,ck++[s],a6,c6,by omega,by go_num,by rw[List.length_append];rfl,by rw[List.length_append,decide_eq_true (by simp;omega)],HTK.out,HF.out.1,HF.out.2⟩
        case measure=>simp[intOf];omega
      ·obtain rfl:k=r.bd.length:=by omega
       rw[List.take_length]at HK
       have HR:Hid (LmS (d+1) r l C ck):=by
        have:=HM.out.rnd HLF.out r.bd.length (Nat.le_refl _);rw[List.take_length,HK.out]at this;exact this
       have hckl:ck.length≤C:=Nat.le_trans (Zjk r.bd ck) HR.out.cap;have hcg:cur.length≤ck.length:=by have:=Zei (d+1) r.bd cur;rw[HK.out]at this;exact this
       have HSL:Hid (decide (cur.length<ck.length)=false→∀y∈r.bd,ZN (d+1) y.x ck=noS):=fun h=>by
        have h1:¬ cur.length<ck.length:=of_decide_eq_false h;have h2:(Zeh (d+1) r.bd cur).length=cur.length:=by rw[HK.out];omega
        have h3:=Zf6 h2;have h4:Zeh (d+1) r.bd cur=cur:=Zho h3;rw[←HK.out,h4];exact h3
       clear HK HM;go_wp2;go_roundw
       case rel=>exact⟨ck,ha,hc,_,rfl,rfl,hckl,HR.out,HSL.out,HO.out,HB.out⟩
       case measure=>
        show 2*(C-ck.length)+agN (.bool (decide (cur.length<ck.length)))<2*(C-cur.length)+agN (.bool true)
        by_cases h:cur.length<ck.length
        ·rw[decide_eq_true h];show 2*(C-ck.length)+1<2*(C-cur.length)+1;omega
        ·rw[decide_eq_false h];show 2*(C-ck.length)+0<2*(C-cur.length)+1;omega
end
section
open Go.RowKit Go.Maps Go.Shelf
attribute [local go_sem ↓] Go.wp_at_zero Go.wp_at_succ
attribute [-go_sem] loadVar
theorem Zlo{n:Nat}(h:n<4294967296):IntKind.u32.wrap (n:Int)=(n:Int):=by
 simp[IntKind.wrap,IntKind.signed,IntKind.bits];omega
theorem Zhd(n:Nat)(hn:n≤24)(w:World):Calls Tryz.prog 97 #[.int .i64 (n:Int)] w fun e w'=>e=.returned (.int .u32 ((2^n-1:Nat):Int))∧w'=w:=by
 go_enter Tryz.func97,Tryz.ntmps97;go_wp2;go_loopw [3,4] (fun m i wr=>∃k q:Nat,k≤n∧i=.int .i64 (k:Int)∧m=.int .u32 (q:Int)∧Hid (q+1=2^k)∧Hid (wr=w)) (fun _ i _=>n-(intOf i).toNat)
 case atStart=>exact⟨0,0,Nat.zero_le _,rfl,rfl,rfl,rfl⟩
 case round=>
  obtain⟨k,q,hk,rfl,rfl,HQ,HW⟩:=hrel
  by_cases hlt:k<n
  ·have hlt':(k:Int)<(n:Int):=by omega
   have hp:(2:Nat)^k≤8388608:=Nat.le_trans (Nat.pow_le_pow_right (by omega) (show k≤23 by omega)) (by decide);have hq:q+1≤8388608:=by rw[HQ.out];exact hp
   have hw1:IntKind.u32.wrap ((q:Int)*2)=((q*2:Nat):Int):=by rw[←Zlo (show q*2<4294967296 by omega)];congr 1
   have hw2:IntKind.u32.wrap (((q*2:Nat):Int)+1)=((q*2+1:Nat):Int):=by rw[←Zlo (show q*2+1<4294967296 by omega)];congr 1
   have HN:Hid (q*2+1+1=2^(k+1)):=by
    show _=_;rw[Nat.pow_succ,←HQ.out];omega
   clear hp HQ;go_wp2;go_roundw
   case rel=>exact⟨k+1,q*2+1,by omega,by go_num,by first | rfl | (congr 1;omega) | (simp;done) | go_num,HN.out,HW.out⟩
   case measure=>simp[intOf];omega
  ·obtain rfl:k=n:=by omega
   have HE:Hid (q=2^k-1):=by show _=_;have:=HQ.out;omega
   clear HQ;go_wp2;go_ret;exact⟨by rw[←HE.out];rfl,HW.out⟩
theorem ZnO{ss:List ByteArray}{ts:List T}{k:Nat}(h:knT ss (atT ts k)=true):Zaz ss ts (k+1)=Zaz ss ts k+2^k:=by
 have h1:=Zfp ss ts k;have h2:=@Nat.two_pow_add_eq_or_of_lt k (Zaz ss ts k) h1 1;rw[Nat.mul_one]at h2;show(if knT ss (atT ts k)=true then Zaz ss ts k ||| 2^k else Zaz ss ts k)=_;rw[if_pos h,Nat.or_comm,←h2,Nat.add_comm]
theorem Zo7{ss:List ByteArray}{ts:List T}{k:Nat}(h:knT ss (atT ts k)=false):Zaz ss ts (k+1)=Zaz ss ts k:=by
 show(if knT ss (atT ts k)=true then Zaz ss ts k ||| 2^k else Zaz ss ts k)=_;rw[if_neg (by rw[h];decide)]
theorem Zif{w:World}{pr:ByteArray}{a:Option Addr}{c:Nat}{ts:List T}(hl:Lt w (.slice a ts.length c) ts)(hn:ts.length≤24){v:Value}{l:List ByteArray}(hk:Ls w v l.length (l.flatMap Zm)) :
  Calls Tryz.prog 94 #[.agg #[.string pr,.slice a ts.length c],v] w fun e w'=>e=.returned (.int .u32 ((Zaz l ts ts.length:Nat):Int))∧Below w.heap.size w w':=by
 have HB:=Lib.hid (Zp (w:=w) (.cells #[.string pr,.slice a ts.length c] 93));have HR:=Lib.hid (Zk w #[.string pr,.slice a ts.length c] 93);have HK:=Lib.hid hk;obtain⟨a',c',e1,hc1,hc2,hat⟩:=hl.form
 injection e1 with e1 e2 e3
 subst e1 e3;have HAT:=Lib.hid hat;obtain⟨W,hW⟩:∃W,W=w.alloc (.cells #[.string pr,.slice a ts.length c] 93):=⟨_,rfl⟩;clear hl hk hat e2;have ls0:=Zc6 (RL.at HR.out (j:=1) rfl);go_enter Tryz.func94,Tryz.ntmps94;go_wp2;rw[←hW]at HB HR⊢;clear ls0 hW;go_loopw [5,6,7] (fun o q i wr=>∃k:Nat,k≤ts.length∧i=.int .i64 k∧o=.int .u32 ((Zaz l ts k:Nat):Int)∧q=.int .u32 ((2^k:Nat):Int)∧Hid (Below W.heap.size W wr)) (fun _ _ i _=>ts.length-(intOf i).toNat)
 case atStart=>exact⟨0,Nat.zero_le _,rfl,rfl,rfl,Below.refl _ _⟩
 case round=>
  obtain⟨k,hk,rfl,rfl,rfl,HI⟩:=hrel;have ls:=Zc6 (RL.at (RL.below HR.out HI.out) (j:=1) rfl)
  by_cases hlt:k<ts.length
  ·have hlt':(k:Int)<(ts.length:Int):=by omega
   have hk0:(0:Int)≤(k:Int):=by omega
   obtain⟨g,off,rfl,hg,hT⟩:=HAT.out (by omega);have HBI:Hid (Below w.heap.size w wr):=HB.out.trans (HI.out.mono HB.out.size);obtain⟨x0,x1,x2,x3⟩:=(hT k hlt).below HBI.out hg;have l1:=ZL x0;have HH:=Lib.hid (Zcs (HK.out.below HBI.out) (atT ts k).v);have hp:(2:Nat)^k≤8388608:=Nat.le_trans (Nat.pow_le_pow_right (by omega) (show k≤23 by omega)) (by decide);have hcm:=Zfp l ts k;have HY:=Lib.hid (@ZnO l ts k)
   have HN:=Lib.hid (@Zo7 l ts k);have HPS:Hid ((2:Nat)^(k+1)=2^k*2):=Nat.pow_succ 2 k;unfold knT at HY HN;generalize Zaz l ts k=cm at hcm HY HN⊢;generalize (2:Nat)^k=p at hp hcm HY HPS⊢;generalize (atT ts k).v=s at l1 HH HY HN;have hw1:IntKind.u32.wrap ((cm:Int)+(p:Int))=((cm+p:Nat):Int):=by rw[←Zlo (show cm+p<4294967296 by omega)];congr 1
   have hw2:IntKind.u32.wrap ((p:Int)*2)=((p*2:Nat):Int):=by rw[←Zlo (show p*2<4294967296 by omega)];congr 1
   clear hT x0 x1 x2 x3 hp hcm HBI
   by_cases hs:s=noS
   ·have f0:s.toList.isEmpty=true:=by rw[hs,Zaa];rfl
    have f1:s.toList=[]:=by rw[hs];exact Zaa
    have HC:=Lib.hid (HY.out (by rw[decide_eq_true hs];rfl));clear hs HY HN HH;go_wp2;go_roundw
    case rel=>exact⟨k+1,by omega,by go_num,by rw[HC.out]<;>rfl,by rw[HPS.out]<;>rfl,HI.out⟩
    case measure=>simp[intOf];omega
   ·have f0:=ZaW hs
    have f1:(s.toList==[])=false:=by
     cases e:s.toList with
     | nil=>rw[e]at f0;cases f0
     | cons a b=>rfl
    rw[decide_eq_false hs,Bool.false_or]at HY HN;clear hs
    cases hb:inB l s
    ·rw[hb]at HH;have HC:=Lib.hid (HN.out hb);clear HY HN hb;go_wp2_with fail;refine HH.out.mono ?_;rintro e w2 ⟨rfl,rfl⟩;clear HH;go_wp2;go_roundw
     case rel=>exact⟨k+1,by omega,by go_num,by rw[HC.out]<;>rfl,by rw[HPS.out]<;>rfl,HI.out⟩
     case measure=>simp[intOf];omega
    ·rw[hb]at HH;have HC:=Lib.hid (HY.out hb);clear HY HN hb;go_wp2_with fail;refine HH.out.mono ?_;rintro e w2 ⟨rfl,rfl⟩;clear HH;go_wp2;go_roundw
     case rel=>exact⟨k+1,by omega,by go_num,by rw[HC.out]<;>rfl,by rw[HPS.out]<;>rfl,HI.out⟩
     case measure=>simp[intOf];omega
  ·obtain rfl:k=ts.length:=by omega
   go_wp2;go_ret;exact⟨rfl,HB.out.trans (HI.out.mono HB.out.size)⟩
end
end Go.Proofs.YtjdnpgpbeppgjaaGreatDoor
