import Derived.Test.YtjdnpgpbeppgjaaGreatDoorA15
import Derived.BigQuiet
set_option linter.unusedSimpArgs false
set_option linter.unusedVariables false
set_option maxHeartbeats 3200000
set_option maxRecDepth 100000
namespace Go.Proofs.YtjdnpgpbeppgjaaGreatDoor
section
open Go.RowKit Go.Maps Go.ChangeMaps
attribute [local go_sem ↓] Go.wp_at_zero Go.wp_at_succ
attribute [-go_sem] loadVar
theorem Zo3{l l':List ByteArray}(hl:l.length=l'.length)(h:∀i,i<l.length→atS l i=atS l' i):l=l':=by
 apply List.ext_getElem hl;intro i h1 h2;have:=h i h1;unfold atS at this;rw[List.getD,List.getD,List.getElem?_eq_getElem h1,List.getElem?_eq_getElem h2]at this;exact this
theorem Zc5{B:Nat}{w u:World}(h:Below B w u)(q:Nat):Below B w (u.drewN q):=h.trans ⟨rfl,rfl,rfl,Nat.le_refl _,fun _ _=>rfl⟩
theorem Zku{w:World}{v v':Value}{l l':List ByteArray}(h:Ls w v l.length (l.flatMap Zm))(h':Ls w v' l'.length (l'.flatMap Zm)) :
  Calls Tryz.prog 212 #[v,v'] w fun e w'=>e=.returned (.bool (decide (l=l')))∧Below w.heap.size w w':=by
 obtain⟨a,c,rfl,hc1,hc2,hat⟩:=Z3 h;obtain⟨a',c',rfl,hc1',hc2',hat'⟩:=Z3 h';have HA:=Lib.hid hat;have HA':=Lib.hid hat';unfold maxLen at hc2 hc2';clear h h' hat hat'
 by_cases he:l.length=l'.length
 ·have HE:=Lib.hid he;rw[←he];clear he;go_enter Tryz.func212,Tryz.ntmps212;go_wp2;go_loopw [13] (fun i wr=>∃k:Nat,k≤l.length∧i=.int .i64 k∧Hid (∀i,i<k→atS l i=atS l' i)∧Hid (Below w.heap.size w wr)) (fun i _=>l.length-(intOf i).toNat)
  case atStart=>exact⟨0,Nat.zero_le _,rfl,Lib.hid (fun i hi=>by omega),Below.refl _ _⟩
  case round=>
   obtain⟨k,hk,rfl,HS,HB⟩:=hrel;obtain⟨U,rfl⟩:∃U,U=wr:=⟨_,rfl⟩
   by_cases hlt:k<l.length
   ·have hlt':(k:Int)<(l.length:Int):=by omega
    have hge:(0:Int)≤(k:Int):=by omega
    obtain⟨g,off,rfl,hg,hc⟩:=HA.out (by omega);obtain⟨g',off',rfl,hg',hc'⟩:=HA'.out (by rw[←HE.out];omega);have x0:∀q,(loadVar 9 ⟨g,off+k,none⟩).run Tryz.prog (U.drewN q)=.ok (.string (atS l k)) (U.drewN q):=fun q=>ZL (((Zc5 HB.out q).cell (p:=⟨g,off+k,none⟩) hg).trans (hc k hlt))
    have y0:∀q,(loadVar 9 ⟨g',off'+k,none⟩).run Tryz.prog (U.drewN q)=.ok (.string (atS l' k)) (U.drewN q):=fun q=>ZL (((Zc5 HB.out q).cell (p:=⟨g',off'+k,none⟩) hg').trans (hc' k (by rw[←HE.out];exact hlt)))
    have HD:Hid (∀q,Below w.heap.size w (U.drewN q)):=fun q=>Zc5 HB.out q
    have HSX:Hid (atS l k=atS l' k→∀i,i<k+1→atS l i=atS l' i):=fun e i hi=>by
     by_cases hik:i=k
     ·rw[hik,e]
     ·exact HS.out i (by omega)
    have HN:Hid (atS l k≠atS l' k→decide (l=l')=false):=fun h=>decide_eq_false (fun e=>h (by rw[e]))
    generalize atS l k=x at x0 HSX HN;generalize atS l' k=y at y0 HSX HN;clear hc hc' HB HS
    by_cases hz:x=y
    ·have H2:=Lib.hid (HSX.out hz);subst hz;clear HSX HN;go_wp2_with fail;go_quiet (fail);go_wp2;go_roundw
     case rel=>exact⟨k+1,by omega,by go_num,H2,HD.out _⟩
     case measure=>simp[intOf];omega
    ·have HF:=Lib.hid (HN.out hz)
     have hd:(x.toList==y.toList)=false:=by
      rw[beq_eq_false_iff_ne];exact fun e=>hz (toList_inj e)
     clear hz HSX HN;go_wp2_with fail;go_quiet (fail);go_wp2;go_ret;exact⟨by rw[HF.out];rfl,HD.out _⟩
   ·obtain rfl:k=l.length:=by omega
    have HF:Hid (decide (l=l')=true):=decide_eq_true (Zo3 HE.out HS.out);go_wp2;go_ret;exact⟨by rw[HF.out];rfl,HB.out⟩
 ·have hne:((l.length:Int) != (l'.length:Int))=true:=by rw[bne_iff_ne];omega
  have HF:Hid (decide (l=l')=false):=decide_eq_false (fun e=>he (by rw[e]));rw[HF.out];clear he;go_enter Tryz.func212,Tryz.ntmps212;go_wp2;go_ret;exact⟨rfl,Below.refl _ _⟩
end
section
open Go.RowKit Go.Maps Go.ChangeMaps
attribute [local go_sem ↓] Go.wp_at_zero Go.wp_at_succ
structure St where
 k:Int
 i:Int
 m:Int
 g:List ByteArray
def St.val(s:St)(a:Option Addr)(c:Nat):Value:=.agg #[.int .i8 s.k,.int .i64 s.i,.int .u32 s.m,.slice a s.g.length c]
def Za2(s t:St):Bool:=decide (s.k=t.k)&&(decide (s.i=t.i)&&(decide (s.m=t.m)&&decide (s.g=t.g)))
theorem ZnI{w:World}(s t:St)(a a':Option Addr)(c c':Nat)(h:Ls w (.slice a s.g.length c) s.g.length (s.g.flatMap Zm))(h':Ls w (.slice a' t.g.length c') t.g.length (t.g.flatMap Zm)) :
  Calls Tryz.prog 79 #[s.val a c,t.val a' c'] w fun e w'=>e=.returned (.bool (Za2 s t))∧Below w.heap.size w w':=by
 have hb2:Below w.heap.size w ((w.alloc (.cells #[.int .i8 s.k,.int .i64 s.i,.int .u32 s.m,.slice a s.g.length c] 84)).alloc (.cells #[.int .i8 t.k,.int .i64 t.i,.int .u32 t.m,.slice a' t.g.length c'] 84)):=((Below.refl _ _).alloc (Nat.le_refl _) _).alloc (by simp) _;have HEQ:=Lib.hid (Zku (h.below hb2) (h'.below hb2));have HB2:=Lib.hid hb2;clear h h' hb2;obtain⟨k,i,m,g⟩:=s;obtain⟨k2,i2,m2,g2⟩:=t
 unfold St.val;simp only at HEQ HB2⊢
 by_cases hk:k=k2
 ·by_cases hi:i=i2
  ·by_cases hm:m=m2
   ·subst hk hi hm
    have HF:Hid (Za2 ⟨k,i,m,g⟩ ⟨k,i,m,g2⟩=decide (g=g2)):=by
     show _=_;simp[Za2]
    rw[HF.out];clear HF;go_enter Tryz.func79,Tryz.ntmps79;go_wp2_with fail;refine HEQ.out.mono ?_;rintro e w2 ⟨rfl,b2⟩;have HBF:=Lib.hid (HB2.out.trans (b2.mono HB2.out.size));clear b2;obtain⟨z,hz⟩:∃z,decide (g=g2)=z:=⟨_,rfl⟩;rw[hz];have HZ:=Lib.hid hz;clear hz
    cases z
    all_goals
     go_wp2;go_ret;exact⟨by rw[HZ.out];rfl,HBF.out⟩
   ·have hd:(m==m2)=false:=by rw[beq_eq_false_iff_ne];exact hm
    have HF:Hid (Za2 ⟨k,i,m,g⟩ ⟨k2,i2,m2,g2⟩=false):=by
     show _=_;simp[Za2,hm]
    rw[HF.out];subst hk hi;clear HF hm;go_enter Tryz.func79,Tryz.ntmps79;go_wp2;go_ret;exact⟨rfl,HB2.out⟩
  ·have hd:(i==i2)=false:=by rw[beq_eq_false_iff_ne];exact hi
   have HF:Hid (Za2 ⟨k,i,m,g⟩ ⟨k2,i2,m2,g2⟩=false):=by
    show _=_;simp[Za2,hi]
   rw[HF.out];subst hk;clear HF hi;go_enter Tryz.func79,Tryz.ntmps79;go_wp2;go_ret;exact⟨rfl,HB2.out⟩
 ·have hd:(k==k2)=false:=by rw[beq_eq_false_iff_ne];exact hk
  have HF:Hid (Za2 ⟨k,i,m,g⟩ ⟨k2,i2,m2,g2⟩=false):=by
   show _=_;simp[Za2,hk]
  rw[HF.out];clear HF hk;go_enter Tryz.func79,Tryz.ntmps79;go_wp2;go_ret;exact⟨rfl,HB2.out⟩
end
end Go.Proofs.YtjdnpgpbeppgjaaGreatDoor
