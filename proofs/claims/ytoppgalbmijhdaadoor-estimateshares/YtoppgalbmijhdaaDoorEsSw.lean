import Derived.Test.YtoppgalbmijhdaaDoorEsRs
import Derived.Test.YtoppgalbmijhdaaDoorEsLv
import Derived.Test.YtoppgalbmijhdaaDoorEsTg
import Derived.Test.YtoppgalbmijhdaaDoorFaBeyond
namespace Go.Proofs.YtoppgalbmijhdaaDoor
open Go.RowKit Go.Maps Go.ChangeMaps
set_option linter.unusedVariables false
set_option linter.unusedSimpArgs false
attribute [local go_sem ↓] Go.wp_at_zero Go.wp_at_succ

set_option maxHeartbeats 6400000 in
theorem estimateShares_walk (l : List XF) (a : Option Addr) (c : Nat) (s : ByteArray) (x : Int) (w : World) (hG : PWt w) (hll : l.length ≤ 281474976710656) (hL : Lf w (.slice a l.length c) l) (hs : s.size ≤ maxLen) (hx : (Lit.int .i64 x).wf = true) :
    Calls Tryd.prog 3 #[.slice a l.length c, .string s, .int .i64 x] w fun e w' => e = .returned (.bool true) ∧ Below w.heap.size w w' := by
  have HBF := Lib.hid (beyondFacts_any _ l w hll hL)
  have HL := Lib.hid hL
  have HP := Lib.hid hG
  clear hG hL hll hs hx
  go_enter Tryd.func3, Tryd.ntmps3
  go_wp2_with fail
  refine HBF.out.mono ?_
  rintro e w1 ⟨b, rfl, b1, hsm⟩
  cases b
  · have hsm := hsm rfl
    have HSM := Lib.hid hsm
    have HSY : Hid (∀ y ∈ l, y.vs.length ≤ 1048576) := fun y hy => by
      obtain ⟨i, hi, rfl⟩ := List.getElem_of_mem hy
      have := hsm.each i hi
      rw [atF_eq hi] at this
      exact this
    have HB1 := Lib.hid b1
    have HR := Lib.hid (rshare_any _ l s x w1 (HL.out.below b1) hsm.len HSY.out)
    clear hsm b1 HBF
    go_wp2_with fail
    refine HR.out.mono ?_
    rintro e w2 ⟨ks, rfl, ht, b2⟩
    have HB2 := Lib.hid (HB1.out.trans (b2.mono HB1.out.size))
    have HT := Lib.hid ht
    have HIN := Lib.hid (nums_in HL.out ht)
    have HM := Lib.hid (shM_eql HIN.out.1 (Nat.le_trans HIN.out.2 HSM.out.len))
    have HD := Lib.hid (shS_eql HIN.out.1 (Nat.le_trans HIN.out.2 HSM.out.len))
    have HTW := Lib.hid (twinFs_any _ l w2 (tab_below HP.out HB2.out) HSM.out.len HSM.out.each (HL.out.below HB2.out))
    clear ht b2 HR HIN
    go_wp2_with fail
    refine HTW.out.mono ?_
    rintro e w3 ⟨ta, l', rfl, b3, hl1, hl2, htg⟩
    have HB3 := Lib.hid (HB2.out.trans (b3.mono HB2.out.size))
    have HTG := Lib.hid (And.intro hl1 (And.intro hl2 htg))
    have hlf := htg.lf HL.out HSM.out.len HSM.out.each hl1 hl2
    have hkk := like_keys hl1 hl2
    have hsh := share_any _ l' s x w3 hlf (by rw [hl1]; exact HSM.out.len) (fun y hy => small_like HSM.out.each hl1 hl2 hy)
    rw [hl1, hkk] at hsh
    have HSH := Lib.hid hsh
    clear hl1 hl2 htg hlf hkk hsh b3 HTW
    go_wp2_with fail
    refine HSH.out.mono ?_
    rintro e w4 ⟨ks', rfl, ht', b4⟩
    obtain rfl := ht'.eq HT.out
    have HB4 := Lib.hid (HB3.out.trans (b4.mono HB3.out.size))
    have HLE := Lib.hid (leftFs_any l l' ta a (l.length + 1) c w2.heap.size w4 HTG.out.1 HTG.out.2.1 HSM.out (tab_below HP.out HB4.out) (HTG.out.2.2.below b4) (HL.out.below HB4.out))
    have hfm : FloatKind.f64.format.order (shM (ks'.map (numAt x))) (shM (ks'.map (numAt x))) = some .eq := by
      have := HM.out
      rw [beq_iff_eq] at this
      exact this
    have hfs : FloatKind.f64.format.order (shS (ks'.map (numAt x))) (shS (ks'.map (numAt x))) = some .eq := by
      have := HD.out
      rw [beq_iff_eq] at this
      exact this
    generalize shM (ks'.map (numAt x)) = M at hfm ⊢
    generalize shS (ks'.map (numAt x)) = D at hfs ⊢
    rw [List.length_map]
    clear ht' b4 HSH HM HD HT
    go_wp2_with fail
    refine HLE.out.mono ?_
    rintro e w5 ⟨rfl, b5⟩
    have HB5 := Lib.hid (HB4.out.trans (b5.mono HB4.out.size))
    clear b5
    go_wp2_with fail
    refine (lives25_any _).mono ?_
    rintro e w6 ⟨rfl, b6⟩
    go_wp2
    go_ret
    exact ⟨rfl, HB5.out.trans (b6.mono HB5.out.size)⟩
  · clear hsm
    go_wp2
    go_ret
    exact ⟨rfl, b1⟩
end Go.Proofs.YtoppgalbmijhdaaDoor
