import Derived.Test.YtjdnpgpbeppgjaaGreatDoorA35
set_option linter.unusedSimpArgs false
set_option linter.unusedVariables false
set_option maxHeartbeats 3200000
set_option maxRecDepth 100000
namespace Go.Proofs.YtjdnpgpbeppgjaaGreatDoor
open Go.RowKit Go.Maps Go.Shelf
attribute [local go_sem ↓] Go.wp_at_zero Go.wp_at_succ
theorem Zlm{w:World}{b:Nat}{t:TypeId}{l:List Value}{n:Nat}(h:RL w b t l)(hn:n≤1000):Ls w (.slice (some ⟨b,0,none⟩) n n) n l:=
 ⟨by unfold maxLen;omega,some ⟨b,0,none⟩,n,rfl,Nat.le_refl _,by unfold maxLen;omega,fun _=>⟨b,0,rfl,h.lt,fun i hi=>by rw[Nat.zero_add];exact RL.at h (List.getElem?_eq_getElem hi)⟩⟩
theorem Zed{w u W:World}{b:Nat}{cs:Array Value}{t:TypeId}(hu:u=w.alloc (.cells cs t))(hb:w.heap.size=b)(h:Below u.heap.size u W):RL W b t cs.toList:=by
 subst hb;have h1:=Zk w cs t;rw[←hu]at h1;exact RL.below h1 h
theorem Zac{u:World}{W:World}(o:Obj)(h:Below (u.alloc o).heap.size (u.alloc o) W):Below u.heap.size u W:=(Zp o).trans (h.mono (Zp o).size)
def oW0(w:World):World:=w.alloc (.cells #[.string ⟨#[112]⟩,.slice (some ⟨w.heap.size+1+1+1+1+1+1+1,0,none⟩) 2 2,.slice (some ⟨w.heap.size+1+1+1+1+1+1+1+1+1,0,none⟩) 2 2] 25)
def oW4(w:World):World:=((((oW0 w).alloc (.cells #[.string ⟨#[88]⟩,.int .i8 0,.int .i64 0,.string ⟨#[]⟩] 100)).alloc (.cells #[.string ⟨#[78]⟩,.int .i8 0,.int .i64 0,.string ⟨#[]⟩] 100)).alloc (.cells #[.string ⟨#[77]⟩,.int .i8 0,.int .i64 0,.string ⟨#[]⟩] 100)).alloc (.cells #[.int .i8 0,.string ⟨#[]⟩,.int .i8 1,.int .i64 1,.string ⟨#[]⟩,.slice none 0 0] 103)
def oW5(w:World):World:=(oW4 w).alloc (.cells #[.int .i8 0,.string ⟨#[77]⟩,.int .i8 0,.int .i64 0,.string ⟨#[]⟩,.slice none 0 0,.int .i8 0,.string ⟨#[]⟩,.int .i8 1,.int .i64 1,.string ⟨#[]⟩,.slice none 0 0] 103)
def oW6(w:World):World:=(oW5 w).alloc (.cells #[.int .i8 3,.string ⟨#[]⟩,.slice none 0 0,.int .i8 1,.int .i8 0,.string ⟨#[78]⟩,.int .i8 0,.int .i64 0,.string ⟨#[]⟩,.slice none 0 0,.int .i8 2,.string ⟨#[]⟩,.int .i8 0,.int .i64 0,.string ⟨#[]⟩,.slice (some ⟨w.heap.size+1+1+1+1+1,0,none⟩) 2 2] 105)
def oW7(w:World):World:=(oW6 w).alloc (.cells #[.int .i8 0,.string ⟨#[88]⟩,.int .i8 0,.int .i64 0,.string ⟨#[]⟩,.int .i8 0,.string ⟨#[78]⟩,.int .i8 0,.int .i64 0,.string ⟨#[]⟩] 119)
def oW8(w:World):World:=(oW7 w).alloc (.cells #[.string ⟨#[88]⟩,.int .i8 0,.int .i64 0,.string ⟨#[]⟩,.string ⟨#[77]⟩,.int .i8 0,.int .i64 0,.string ⟨#[]⟩] 100)
def oW9(w:World):World:=(oW8 w).alloc (.cells #[.int .i8 3,.string ⟨#[]⟩,.slice none 0 0,.int .i8 1,.int .i8 0,.string ⟨#[78]⟩,.int .i8 0,.int .i64 0,.string ⟨#[]⟩,.slice none 0 0,.int .i8 2,.string ⟨#[]⟩,.int .i8 0,.int .i64 0,.string ⟨#[]⟩,.slice (some ⟨w.heap.size+1+1+1+1+1,0,none⟩) 2 2,.int .i8 1,.string ⟨#[101]⟩,.slice (some ⟨w.heap.size+1+1+1+1+1+1+1+1,0,none⟩) 2 2,.int .i8 0,.int .i8 0,.string ⟨#[]⟩,.int .i8 0,.int .i64 0,.string ⟨#[]⟩,.slice none 0 0,.int .i8 0,.string ⟨#[]⟩,.int .i8 0,.int .i64 0,.string ⟨#[]⟩,.slice none 0 0] 105)
theorem oz0(w:World):(oW0 w).heap.size=w.heap.size+1:=by simp[oW0]
theorem oz4(w:World):(oW4 w).heap.size=w.heap.size+1+1+1+1+1:=by simp[oW4,oz0]
theorem oz5(w:World):(oW5 w).heap.size=w.heap.size+1+1+1+1+1+1:=by simp[oW5,oz4]
theorem oz6(w:World):(oW6 w).heap.size=w.heap.size+1+1+1+1+1+1+1:=by simp[oW6,oz5]
theorem oz7(w:World):(oW7 w).heap.size=w.heap.size+1+1+1+1+1+1+1+1:=by simp[oW7,oz6]
theorem oz8(w:World):(oW8 w).heap.size=w.heap.size+1+1+1+1+1+1+1+1+1:=by simp[oW8,oz7]
theorem ob8(w:World):Below (oW8 w).heap.size (oW8 w) (oW9 w):=Zp _
theorem ob7(w:World):Below (oW7 w).heap.size (oW7 w) (oW9 w):=Zac _ (ob8 w)
theorem ob6(w:World):Below (oW6 w).heap.size (oW6 w) (oW9 w):=Zac _ (ob7 w)
theorem ob5(w:World):Below (oW5 w).heap.size (oW5 w) (oW9 w):=Zac _ (ob6 w)
theorem ob4(w:World):Below (oW4 w).heap.size (oW4 w) (oW9 w):=Zac _ (ob5 w)
theorem ob0(w:World):Below (oW0 w).heap.size (oW0 w) (oW9 w):=Zac _ (Zac _ (Zac _ (Zac _ (ob4 w))))
theorem ob(w:World):Below w.heap.size w (oW9 w):=Zac _ (ob0 w)
theorem or0(w:World):RL (oW9 w) w.heap.size 25 [.string ⟨#[112]⟩,.slice (some ⟨w.heap.size+1+1+1+1+1+1+1,0,none⟩) 2 2,.slice (some ⟨w.heap.size+1+1+1+1+1+1+1+1+1,0,none⟩) 2 2]:=Zed (cs:=#[.string ⟨#[112]⟩,.slice (some ⟨w.heap.size+1+1+1+1+1+1+1,0,none⟩) 2 2,.slice (some ⟨w.heap.size+1+1+1+1+1+1+1+1+1,0,none⟩) 2 2]) rfl rfl (ob0 w)
theorem or5(w:World):RL (oW9 w) (w.heap.size+1+1+1+1+1) 103 [.int .i8 0,.string ⟨#[77]⟩,.int .i8 0,.int .i64 0,.string ⟨#[]⟩,.slice none 0 0,.int .i8 0,.string ⟨#[]⟩,.int .i8 1,.int .i64 1,.string ⟨#[]⟩,.slice none 0 0]:=Zed (cs:=#[.int .i8 0,.string ⟨#[77]⟩,.int .i8 0,.int .i64 0,.string ⟨#[]⟩,.slice none 0 0,.int .i8 0,.string ⟨#[]⟩,.int .i8 1,.int .i64 1,.string ⟨#[]⟩,.slice none 0 0]) rfl (oz4 w) (ob5 w)
theorem or7(w:World):RL (oW9 w) (w.heap.size+1+1+1+1+1+1+1) 119 [.int .i8 0,.string ⟨#[88]⟩,.int .i8 0,.int .i64 0,.string ⟨#[]⟩,.int .i8 0,.string ⟨#[78]⟩,.int .i8 0,.int .i64 0,.string ⟨#[]⟩]:=Zed (cs:=#[.int .i8 0,.string ⟨#[88]⟩,.int .i8 0,.int .i64 0,.string ⟨#[]⟩,.int .i8 0,.string ⟨#[78]⟩,.int .i8 0,.int .i64 0,.string ⟨#[]⟩]) rfl (oz6 w) (ob7 w)
theorem or8(w:World):RL (oW9 w) (w.heap.size+1+1+1+1+1+1+1+1) 100 [.string ⟨#[88]⟩,.int .i8 0,.int .i64 0,.string ⟨#[]⟩,.string ⟨#[77]⟩,.int .i8 0,.int .i64 0,.string ⟨#[]⟩]:=Zed (cs:=#[.string ⟨#[88]⟩,.int .i8 0,.int .i64 0,.string ⟨#[]⟩,.string ⟨#[77]⟩,.int .i8 0,.int .i64 0,.string ⟨#[]⟩]) rfl (oz7 w) (ob8 w)
theorem or9(w:World):RL (oW9 w) (w.heap.size+1+1+1+1+1+1+1+1+1) 105 [.int .i8 3,.string ⟨#[]⟩,.slice none 0 0,.int .i8 1,.int .i8 0,.string ⟨#[78]⟩,.int .i8 0,.int .i64 0,.string ⟨#[]⟩,.slice none 0 0,.int .i8 2,.string ⟨#[]⟩,.int .i8 0,.int .i64 0,.string ⟨#[]⟩,.slice (some ⟨w.heap.size+1+1+1+1+1,0,none⟩) 2 2,.int .i8 1,.string ⟨#[101]⟩,.slice (some ⟨w.heap.size+1+1+1+1+1+1+1+1,0,none⟩) 2 2,.int .i8 0,.int .i8 0,.string ⟨#[]⟩,.int .i8 0,.int .i64 0,.string ⟨#[]⟩,.slice none 0 0,.int .i8 0,.string ⟨#[]⟩,.int .i8 0,.int .i64 0,.string ⟨#[]⟩,.slice none 0 0]:=Zed (cs:=#[.int .i8 3,.string ⟨#[]⟩,.slice none 0 0,.int .i8 1,.int .i8 0,.string ⟨#[78]⟩,.int .i8 0,.int .i64 0,.string ⟨#[]⟩,.slice none 0 0,.int .i8 2,.string ⟨#[]⟩,.int .i8 0,.int .i64 0,.string ⟨#[]⟩,.slice (some ⟨w.heap.size+1+1+1+1+1,0,none⟩) 2 2,.int .i8 1,.string ⟨#[101]⟩,.slice (some ⟨w.heap.size+1+1+1+1+1+1+1+1,0,none⟩) 2 2,.int .i8 0,.int .i8 0,.string ⟨#[]⟩,.int .i8 0,.int .i64 0,.string ⟨#[]⟩,.slice none 0 0,.int .i8 0,.string ⟨#[]⟩,.int .i8 0,.int .i64 0,.string ⟨#[]⟩,.slice none 0 0]) rfl (oz8 w) (Below.refl _ _)
theorem v0w:V0.wf:=⟨by decide,by decide,by decide⟩
theorem ZpI:oX.wf:=⟨by decide,v0w⟩
theorem ZpJ:oN.wf:=⟨by decide,v0w⟩
theorem ZpK:oM.wf:=⟨by decide,v0w⟩
theorem Zqx:o1.wf:=⟨by decide,⟨by decide,by decide,by decide⟩⟩
theorem t0w:T0.wf:=⟨by decide,v0w⟩
theorem Zi5(w:World)(t:T)(d:Nat)(h:t.wf):EIs w (d+1) (E.mk 0 t []) none 0:=⟨⟨⟨by show(-128:Int)≤0;decide,by show(0:Int)≤127;decide⟩,by show(0:Nat)≤_;decide⟩,h,Nat.le_refl _,Nat.zero_le _,fun h=>absurd h (by show ¬ (0<0);decide)⟩
theorem ZqN(w:World):RIs (oW9 w) 3 (oR ⟨none,0,none,0,some ⟨w.heap.size+1+1+1+1+1,0,none⟩,2⟩ ⟨some ⟨w.heap.size+1+1+1+1+1+1+1+1,0,none⟩,2,none,0,none,0⟩) ⟨some ⟨w.heap.size+1+1+1+1+1+1+1,0,none⟩,2,some ⟨w.heap.size+1+1+1+1+1+1+1+1+1,0,none⟩,2⟩:=by
 refine⟨by show(1:Nat)≤maxLen;decide,by show(2:Nat)≤_;decide,by show(2:Nat)≤_;decide,⟨Zlm (or7 w) (by show(2:Nat)≤1000;decide),fun a ha=>?_⟩,⟨Zlm (or9 w) (by show(2:Nat)≤1000;decide),fun y hy=>?_⟩⟩
 ·rcases List.mem_cons.1 ha with rfl | ha
  ·exact⟨⟨by show(-128:Int)≤0;decide,by show(0:Int)≤127;decide⟩,ZpI⟩
  ·obtain rfl:=List.mem_singleton.1 ha;exact⟨⟨by show(-128:Int)≤0;decide,by show(0:Int)≤127;decide⟩,ZpJ⟩
 ·rcases List.mem_cons.1 hy with rfl | hy
  ·refine⟨⟨by show(-128:Int)≤3;decide,by show(3:Int)≤127;decide⟩,⟨by show(-128:Int)≤1;decide,by show(1:Int)≤127;decide⟩,by show(0:Nat)≤_;decide,by show(0:Nat)≤_;decide,⟨⟨Nat.zero_le _,none,0,rfl,Nat.le_refl _,Nat.zero_le _,fun h=>absurd h (by show ¬ (0<0);decide)⟩,fun t ht=>by cases ht⟩,Zi5 _ _ _ ZpJ,?_⟩;have h5:=or5 w;refine⟨⟨⟨by show(-128:Int)≤2;decide,by show(2:Int)≤127;decide⟩,by show(2:Nat)≤_;decide⟩,t0w,Nat.le_refl _,by show(2:Nat)≤maxLen;decide,fun _=>⟨w.heap.size+1+1+1+1+1,0,rfl,h5.lt,fun i hi=>?_⟩⟩
   have hi':i<2:=hi;have hc:i=0∨i=1:=by omega
   rcases hc with rfl | rfl
   ·exact⟨none,0,⟨RL.at h5 (j:=0) rfl,RL.at h5 (j:=1) rfl,RL.at h5 (j:=2) rfl,RL.at h5 (j:=3) rfl,RL.at h5 (j:=4) rfl,RL.at h5 (j:=5) rfl⟩,Zi5 _ _ _ ZpK⟩
   ·exact⟨none,0,⟨RL.at h5 (j:=6) rfl,RL.at h5 (j:=7) rfl,RL.at h5 (j:=8) rfl,RL.at h5 (j:=9) rfl,RL.at h5 (j:=10) rfl,RL.at h5 (j:=11) rfl⟩,Zi5 _ _ _ Zqx⟩
  ·obtain rfl:=List.mem_singleton.1 hy;refine⟨⟨by show(-128:Int)≤1;decide,by show(1:Int)≤127;decide⟩,⟨by show(-128:Int)≤0;decide,by show(0:Int)≤127;decide⟩,by show(1:Nat)≤maxLen;decide,by show(2:Nat)≤_;decide,⟨Zlm (or8 w) (by show(2:Nat)≤1000;decide),fun t ht=>?_⟩,Zi5 _ _ _ t0w,Zi5 _ _ _ t0w⟩;rcases List.mem_cons.1 ht with rfl | ht
   ·exact ZpI
   ·obtain rfl:=List.mem_singleton.1 ht;exact ZpK
theorem Zmk(w:World):Calls Tryz.prog 10 #[] w fun e w'=>∃p1 p2 p,e=.returned ((oR p1 p2).val p)∧Below w.heap.size w w'∧RIs w' 3 (oR p1 p2) p:=by
 go_enter Tryz.func10,Tryz.ntmps10;go_wp2;refine bodyPost_ret (ZO Tryz.results10 (v:=.agg #[.string ⟨#[112]⟩,.slice (some ⟨w.heap.size+1+1+1+1+1+1+1,0,none⟩) 2 2,.slice (some ⟨w.heap.size+1+1+1+1+1+1+1+1+1,0,none⟩) 2 2]) rfl (Zbp (RL.range (or0 w)) rfl)) rfl ?_;exact⟨_,_,_,rfl,ob w,ZqN w⟩
end Go.Proofs.YtjdnpgpbeppgjaaGreatDoor
