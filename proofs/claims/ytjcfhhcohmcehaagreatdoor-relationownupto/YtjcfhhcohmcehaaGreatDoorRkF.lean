import Derived.Test.YtjcfhhcohmcehaaGreatDoorRkK
namespace Go.Proofs.YtjcfhhcohmcehaaGreatDoor.BK
open Go.RowKit Go.Maps
set_option linter.unusedVariables false
set_option linter.unusedSimpArgs false
attribute [local go_sem ↓] Go.wp_at_zero Go.wp_at_succ

theorem rowAt {w : World} {B : Nat} {e : TypeId} {v : Value} {l : List Hd} (h : w.ownsRow B e 3 v l.length (l.flatMap Hd.cells)) (h0 : 0 < l.length) :
    ∃ g c, v = .slice (some ⟨g, 0, none⟩) l.length c ∧ v.ownBlock = some g ∧ B ≤ g ∧ g < w.heap.size ∧ ∀ i, i < l.length → w.rangeAt g (i * 3) (atH l i).cells := by
  have hr := ls_range (f := Hd.cells) (k := 3) (fun _ => rfl) Hd0 (ls_own h)
  rcases h.2 with ⟨_, e0⟩ | ⟨g, cap, cur, rfl, hb, hg, _⟩
  · omega
  · obtain ⟨a, c, e1, _, _, hk⟩ := hr
    cases e1
    obtain ⟨g', off, e2, hg', hc⟩ := hk h0
    cases e2
    exact ⟨g, cap, rfl, rfl, hb, hg', fun i hi => by have := hc i hi; rw [Nat.zero_add] at this; exact this⟩
def ApH (x y : Hd) : Prop := ∀ g, x.blk = some g → y.blk ≠ some g
def RG (l : List Hd) (g : Nat) : Prop := ∃ h ∈ l, h.blk = some g
/-- lists that are held: each a row of its own, no two in one block -/
structure Rg (K : Kd) (w : World) (L bk B : Nat) (l : List Hd) : Prop where
  reg : ∀ h ∈ l, ∃ O, w.ownsRow 0 K.e K.sz h.sv h.n O
  blt : ∀ h ∈ l, ∀ g, h.blk = some g → L ≤ g ∧ g < B ∧ g ≠ bk
  nd : l.Pairwise ApH
  num : ∀ h ∈ l, h.m ≤ 2000000000 ∧ h.n ≤ 2097152
  len : l.length ≤ 1000000000
theorem atH_mem {l : List Hd} {i : Nat} (h : i < l.length) : atH l i ∈ l := by rw [atH_eq h]; exact List.getElem_mem h
theorem mem_atH {l : List Hd} {h : Hd} (hm : h ∈ l) : ∃ i, i < l.length ∧ atH l i = h := by
  obtain ⟨i, hi, rfl⟩ := List.getElem_of_mem hm
  exact ⟨i, hi, atH_eq hi⟩
theorem nd_at {l : List Hd} (h : l.Pairwise ApH) {i j : Nat} (hij : i ≠ j) (hi : i < l.length) (hj : j < l.length) : ApH (atH l i) (atH l j) := by
  have hp := List.pairwise_iff_getElem.1 h
  rw [atH_eq hi, atH_eq hj]
  rcases Nat.lt_or_gt_of_ne hij with h1 | h1
  · exact hp i j hi hj h1
  · exact fun g h2 h3 => hp j i hj hi h1 g h3 h2
set_option maxHeartbeats 6400000 in
set_option maxRecDepth 100000 in
theorem fillI_any {w : World} {L bk B n S : Nat} {vI vR : Value} {hsI hsR : List Hd} (hB : Bk w bk B n vI vR hsI hsR) (hBS : B ≤ S) (hS : S ≤ w.heap.size) (hR : Rg KI w L bk B hsI) :
    Calls Tryz.prog 45 #[.pointer (some ⟨bk, 0, none⟩)] w fun e w' => e = .returned (.tuple #[]) ∧ Tch (RG hsI) w w' ∧ ∀ h ∈ hsI, Fil KI S w' h := by
  have HR := Lib.hid hR
  have HBK : Hid (∀ u, Tch (RG hsI) w u → Bk u bk B n vI vR hsI hsR) := fun u hu => hB.keep (fun g hg hor => hu.block g hg (fun ⟨h, hm, e⟩ => by
    obtain ⟨_, q1, q2⟩ := hR.blt h hm g e
    rcases hor with rfl | q | q
    · exact q2 rfl
    · have := (hB.rI.lt g q).1; omega
    · have := (hB.rR.lt g q).1; omega))
  obtain ⟨av, cv, hvv, _⟩ := own_form hB.rI
  have hll := hR.len
  clear hR
  subst hvv
  go_enter Tryz.func45, Tryz.ntmps45
  go_wp2
  go_loopw [2] (fun iv wr => ∃ i : Nat, i ≤ hsI.length ∧ iv = .int .i64 i ∧ Hid (Tch (RG hsI) w wr) ∧ Hid (∀ j, j < i → Fil KI S wr (atH hsI j)) ∧ Hid (∀ j, i ≤ j → j < hsI.length → ∃ O, wr.ownsRow 0 (KI).e (KI).sz (atH hsI j).sv (atH hsI j).n O)) (fun iv _ => hsI.length - (intOf iv).toNat)
  case atStart => exact ⟨0, Nat.zero_le _, rfl, Tch.refl _ _, fun j hj => absurd hj (by omega), fun j _ hj => HR.out.reg _ (atH_mem hj)⟩
  case round =>
    obtain ⟨i, hi, rfl, HT, HF, HO⟩ := hrel
    have HBR := Lib.hid (HBK.out wr HT.out)
    have m1 := HBR.out.box.at (j := 14) rfl
    by_cases hlt : i < hsI.length
    · have hlt' : (i : Int) < (hsI.length : Int) := by omega
      have hi0 : (0 : Int) ≤ (i : Int) := by omega
      obtain ⟨r, cr, e1, _, hrB, hrs, hrow⟩ := rowAt HBR.out.rI (by omega)
      simp only [Value.slice.injEq] at e1
      obtain ⟨rfl, _, rfl⟩ := e1
      have HH := Lib.hid (hrow i hlt)
      have HBL := Lib.hid (HR.out.blt _ (atH_mem hlt))
      have HNM := Lib.hid (HR.out.num _ (atH_mem hlt))
      obtain ⟨O, hO⟩ := HO.out i (Nat.le_refl _) hlt
      have HOO := Lib.hid hO
      have HND : Hid (∀ j, j ≠ i → j < hsI.length → ApH (atH hsI j) (atH hsI i)) := fun j hj hj2 => nd_at HR.out.nd hj hj2 hlt
      obtain ⟨h, hh⟩ : ∃ h, h = atH hsI i := ⟨_, rfl⟩
      rw [← hh] at HH HBL HNM HOO HND
      have HHH := Lib.hid hh
      have y0 : wr.cell? ⟨r, i * 3, none⟩ = some (.slice h.a h.n h.c) := HH.out 0 _ rfl
      have y1 : wr.cell? ⟨r, i * 3 + 1, none⟩ = some (.slice h.la h.ln h.lc) := HH.out 1 _ rfl
      have y2 : wr.cell? ⟨r, i * 3 + 2, none⟩ = some (.int .i64 h.m) := HH.out 2 _ rfl
      have hn1 := HNM.out.2
      have HWS : Hid (S ≤ wr.heap.size) := Nat.le_trans hS HT.out.size
      have hA : Below wr.heap.size wr (wr.alloc (.cells #[.slice h.a h.n h.c, .slice h.la h.ln h.lc, .int .i64 h.m] 108)) := (Below.refl _ _).alloc (Nat.le_refl _) _
      have HBOX := Lib.hid (rl_new wr #[.slice h.a h.n h.c, .slice h.la h.ln h.lc, .int .i64 h.m] 108)
      have HAL := Lib.hid hA
      have HFL0 : Hid (Fl KI S h _ _ 0) := Fl.start (own_below HOO.out hA)
      clear hh hO hrow hA HOO HH
      obtain ⟨W1, rfl⟩ : ∃ W1, W1 = wr := ⟨_, rfl⟩
      go_wp2
      generalize W1.alloc (.cells #[.slice h.a h.n h.c, .slice h.la h.ln h.lc, .int .i64 h.m] 108) = Wb at HBOX HAL HFL0 ⊢
      clear y0 y1 y2 m1
      go_loopw [4] (fun kv wr => ∃ k : Nat, k ≤ h.n ∧ kv = .int .i64 k ∧ Hid (Fl KI S h Wb wr k)) (fun kv _ => h.n - (intOf kv).toNat)
      case atStart => exact ⟨0, Nat.zero_le _, rfl, HFL0⟩
      case round =>
        obtain ⟨k, hk, rfl, HFL⟩ := hrel
        have HGB : Hid (∀ g, h.blk = some g → g < S) := fun g hg => Nat.lt_of_lt_of_le (HBL.out g hg).2.1 hBS
        have HBI : Hid (RL wr W1.heap.size 108 [.slice h.a h.n h.c, .slice h.la h.ln h.lc, .int .i64 h.m]) := World.rowIs.of_block HBOX.out (HFL.out.tch.block _ (World.rowIs.lt HBOX.out) (fun e => by have := HGB.out _ e; have := HWS.out; omega))
        have x0 := HBI.out.at (j := 0) rfl
        by_cases hkl : k < h.n
        · have hkl' : (k : Int) < (h.n : Int) := by omega
          have hk0 : (0 : Int) ≤ (k : Int) := by omega
          obtain ⟨xs, Or, q1, q2, q3, q4⟩ := HFL.out.row
          obtain ⟨g, hg⟩ : ∃ g, h.a = some ⟨g, 0, none⟩ := by
            rcases q3.2 with ⟨_, e⟩ | ⟨g, cap, cur, e, _⟩
            · omega
            · unfold Hd.sv at e; cases h; cases e; exact ⟨g, rfl⟩
          have HGE : Hid (h.blk = some g) := by show h.blk = some g; unfold Hd.blk; rw [hg]; rfl
          rw [hg] at x0
          have x2 := HBI.out.at (j := 2) rfl
          have HTH : Hid (∀ u, Below wr.heap.size wr u → ∀ j, j < h.n * 1 → (∃ v, u.cell? ⟨g, j, none⟩ = some v) ∧ u.frozen? ⟨g, j, none⟩ = false) := fun u hu j hj => by
            have ho := own_below q3 hu
            unfold Hd.sv at ho
            rw [hg] at ho
            refine ⟨?_, ho.frozenAt j⟩
            have e1 := ho.cellAt j hj
            have e2 : j < (xs.flatMap ((KI).cel h.m) ++ Or).length := by rw [ho.1]; exact hj
            rw [List.getElem?_eq_getElem e2] at e1
            exact ⟨_, e1⟩
          have HX0 : Hid (∀ u, Below wr.heap.size wr u → RL u W1.heap.size 108 [.slice (some ⟨g, 0, none⟩) h.n h.c, .slice h.la h.ln h.lc, .int .i64 h.m]) := fun u hu => by
            have := HBI.out.below hu
            rw [hg] at this
            exact this
          have hnn := HNM.out.1
          clear q1 q2 q3 q4 hg
          go_upto_region 7 with fail
          go_region_law (
            refine step_callB rfl 88 Tryz.func88 (by kernel_rfl) (by kernel_rfl) #[.tmp 32] _ rfl #[.int .i64 h.m] (by simp [Act.eval, Act.put]) (markIn h.m hnn _) ?_
            rintro ee w2 ⟨rfl, b2⟩
            refine ⟨_, rfl, ?_⟩
            have B2 : Hid (Below wr.heap.size wr w2) := by first | exact (Below.refl wr.heap.size wr).drew.trans b2 | exact b2
            have z0 := (HX0.out _ B2.out).at (j := 0) rfl
            have z2 := (HX0.out _ B2.out).at (j := 2) rfl
            obtain ⟨⟨t0, u0⟩, f0⟩ := HTH.out _ B2.out (k) (by have := Nat.mul_le_mul_right 1 (show k + 1 ≤ h.n from hkl); omega)
            have HNX : Hid (Fl KI S h Wb (w2.setCell ⟨g, k, none⟩ (.int .i64 (-1000 - (h.m : Int)))) (k + 1)) := by
              have q := HFL.out.step hkl HGE.out B2.out (x := ()) (fun x hx => ⟨trivial, fun b e => by cases e⟩)
              rw [show k * (KI).sz = k from Nat.mul_one k] at q
              exact q
            clear b2)
          all_goals
            go_wp2
            go_roundw
            case rel => exact ⟨k + 1, by omega, by go_num, HNX⟩
            case measure => simp [intOf]; omega
        · obtain rfl : k = h.n := by omega
          have HD := Lib.hid (HFL.out.done HGB.out)
          have HT2 : Hid (Tch (fun g => h.blk = some g) W1 wr) := (Tch.of_below HAL.out).trans HFL.out.tch
          have HTN : Hid (Tch (RG hsI) w wr) := HT.out.trans (HT2.out.mono (fun g _ e => ⟨h, by rw [HHH.out]; exact atH_mem hlt, e⟩))
          have HFN : Hid (∀ j, j < i + 1 → Fil KI S wr (atH hsI j)) := fun j hj => by
            by_cases e : j = i
            · rw [e, ← HHH.out]; exact HD.out
            · refine (HF.out j (by omega)).keep HT2.out.size (fun g hg hor => HT2.out.block g hg (fun e2 => ?_))
              rcases hor with q | q
              · have := HGB.out g e2; omega
              · exact HND.out j e (by omega) g q e2
          have HON : Hid (∀ j, i + 1 ≤ j → j < hsI.length → ∃ O, wr.ownsRow 0 (KI).e (KI).sz (atH hsI j).sv (atH hsI j).n O) := fun j hj hj2 => by
            obtain ⟨O, ho⟩ := HO.out j (by omega) hj2
            exact ⟨O, own_of_block ho (fun g hg => HT2.out.block g (ho.lt g hg).2 (fun e2 => HND.out j (by omega) hj2 g hg e2))⟩
          clear HFL HBI HBOX HBR HFL0
          go_wp2
          go_roundw
          case rel => exact ⟨i + 1, by omega, by go_num, HTN, HFN, HON⟩
          case measure => simp [intOf]; omega
    · obtain rfl : i = hsI.length := by omega
      have HFA : Hid (∀ h ∈ hsI, Fil KI S wr h) := fun h hm => by
        obtain ⟨j, hj, rfl⟩ := mem_atH hm
        exact HF.out j hj
      go_wp2
      go_end0
      exact ⟨rfl, HT.out, HFA.out⟩
set_option maxHeartbeats 6400000 in
set_option maxRecDepth 100000 in
theorem fillR_any {w : World} {L bk B n S : Nat} {vI vR : Value} {hsI hsR : List Hd} (hB : Bk w bk B n vI vR hsI hsR) (hBS : B ≤ S) (hS : S ≤ w.heap.size) (hR : Rg KR w L bk B hsR) :
    Calls Tryz.prog 46 #[.pointer (some ⟨bk, 0, none⟩)] w fun e w' => e = .returned (.tuple #[]) ∧ Tch (RG hsR) w w' ∧ ∀ h ∈ hsR, Fil KR S w' h := by
  have HR := Lib.hid hR
  have HBK : Hid (∀ u, Tch (RG hsR) w u → Bk u bk B n vI vR hsI hsR) := fun u hu => hB.keep (fun g hg hor => hu.block g hg (fun ⟨h, hm, e⟩ => by
    obtain ⟨_, q1, q2⟩ := hR.blt h hm g e
    rcases hor with rfl | q | q
    · exact q2 rfl
    · have := (hB.rI.lt g q).1; omega
    · have := (hB.rR.lt g q).1; omega))
  obtain ⟨av, cv, hvv, _⟩ := own_form hB.rR
  have hll := hR.len
  clear hR
  subst hvv
  go_enter Tryz.func46, Tryz.ntmps46
  go_wp2
  go_loopw [2] (fun iv wr => ∃ i : Nat, i ≤ hsR.length ∧ iv = .int .i64 i ∧ Hid (Tch (RG hsR) w wr) ∧ Hid (∀ j, j < i → Fil KR S wr (atH hsR j)) ∧ Hid (∀ j, i ≤ j → j < hsR.length → ∃ O, wr.ownsRow 0 (KR).e (KR).sz (atH hsR j).sv (atH hsR j).n O)) (fun iv _ => hsR.length - (intOf iv).toNat)
  case atStart => exact ⟨0, Nat.zero_le _, rfl, Tch.refl _ _, fun j hj => absurd hj (by omega), fun j _ hj => HR.out.reg _ (atH_mem hj)⟩
  case round =>
    obtain ⟨i, hi, rfl, HT, HF, HO⟩ := hrel
    have HBR := Lib.hid (HBK.out wr HT.out)
    have m1 := HBR.out.box.at (j := 15) rfl
    by_cases hlt : i < hsR.length
    · have hlt' : (i : Int) < (hsR.length : Int) := by omega
      have hi0 : (0 : Int) ≤ (i : Int) := by omega
      obtain ⟨r, cr, e1, _, hrB, hrs, hrow⟩ := rowAt HBR.out.rR (by omega)
      simp only [Value.slice.injEq] at e1
      obtain ⟨rfl, _, rfl⟩ := e1
      have HH := Lib.hid (hrow i hlt)
      have HBL := Lib.hid (HR.out.blt _ (atH_mem hlt))
      have HNM := Lib.hid (HR.out.num _ (atH_mem hlt))
      obtain ⟨O, hO⟩ := HO.out i (Nat.le_refl _) hlt
      have HOO := Lib.hid hO
      have HND : Hid (∀ j, j ≠ i → j < hsR.length → ApH (atH hsR j) (atH hsR i)) := fun j hj hj2 => nd_at HR.out.nd hj hj2 hlt
      obtain ⟨h, hh⟩ : ∃ h, h = atH hsR i := ⟨_, rfl⟩
      rw [← hh] at HH HBL HNM HOO HND
      have HHH := Lib.hid hh
      have y0 : wr.cell? ⟨r, i * 3, none⟩ = some (.slice h.a h.n h.c) := HH.out 0 _ rfl
      have y1 : wr.cell? ⟨r, i * 3 + 1, none⟩ = some (.slice h.la h.ln h.lc) := HH.out 1 _ rfl
      have y2 : wr.cell? ⟨r, i * 3 + 2, none⟩ = some (.int .i64 h.m) := HH.out 2 _ rfl
      have hn1 := HNM.out.2
      have HWS : Hid (S ≤ wr.heap.size) := Nat.le_trans hS HT.out.size
      have hA : Below wr.heap.size wr (wr.alloc (.cells #[.slice h.a h.n h.c, .slice h.la h.ln h.lc, .int .i64 h.m] 110)) := (Below.refl _ _).alloc (Nat.le_refl _) _
      have HBOX := Lib.hid (rl_new wr #[.slice h.a h.n h.c, .slice h.la h.ln h.lc, .int .i64 h.m] 110)
      have HAL := Lib.hid hA
      have HFL0 : Hid (Fl KR S h _ _ 0) := Fl.start (own_below HOO.out hA)
      clear hh hO hrow hA HOO HH
      obtain ⟨W1, rfl⟩ : ∃ W1, W1 = wr := ⟨_, rfl⟩
      go_wp2
      generalize W1.alloc (.cells #[.slice h.a h.n h.c, .slice h.la h.ln h.lc, .int .i64 h.m] 110) = Wb at HBOX HAL HFL0 ⊢
      clear y0 y1 y2 m1
      go_loopw [4] (fun kv wr => ∃ k : Nat, k ≤ h.n ∧ kv = .int .i64 k ∧ Hid (Fl KR S h Wb wr k)) (fun kv _ => h.n - (intOf kv).toNat)
      case atStart => exact ⟨0, Nat.zero_le _, rfl, HFL0⟩
      case round =>
        obtain ⟨k, hk, rfl, HFL⟩ := hrel
        have HGB : Hid (∀ g, h.blk = some g → g < S) := fun g hg => Nat.lt_of_lt_of_le (HBL.out g hg).2.1 hBS
        have HBI : Hid (RL wr W1.heap.size 110 [.slice h.a h.n h.c, .slice h.la h.ln h.lc, .int .i64 h.m]) := World.rowIs.of_block HBOX.out (HFL.out.tch.block _ (World.rowIs.lt HBOX.out) (fun e => by have := HGB.out _ e; have := HWS.out; omega))
        have x0 := HBI.out.at (j := 0) rfl
        by_cases hkl : k < h.n
        · have hkl' : (k : Int) < (h.n : Int) := by omega
          have hk0 : (0 : Int) ≤ (k : Int) := by omega
          obtain ⟨xs, Or, q1, q2, q3, q4⟩ := HFL.out.row
          obtain ⟨g, hg⟩ : ∃ g, h.a = some ⟨g, 0, none⟩ := by
            rcases q3.2 with ⟨_, e⟩ | ⟨g, cap, cur, e, _⟩
            · omega
            · unfold Hd.sv at e; cases h; cases e; exact ⟨g, rfl⟩
          have HGE : Hid (h.blk = some g) := by show h.blk = some g; unfold Hd.blk; rw [hg]; rfl
          rw [hg] at x0
          have x2 := HBI.out.at (j := 2) rfl
          have HTH : Hid (∀ u, Below wr.heap.size wr u → ∀ j, j < h.n * 24 → (∃ v, u.cell? ⟨g, j, none⟩ = some v) ∧ u.frozen? ⟨g, j, none⟩ = false) := fun u hu j hj => by
            have ho := own_below q3 hu
            unfold Hd.sv at ho
            rw [hg] at ho
            refine ⟨?_, ho.frozenAt j⟩
            have e1 := ho.cellAt j hj
            have e2 : j < (xs.flatMap ((KR).cel h.m) ++ Or).length := by rw [ho.1]; exact hj
            rw [List.getElem?_eq_getElem e2] at e1
            exact ⟨_, e1⟩
          have HX0 : Hid (∀ u, Below wr.heap.size wr u → RL u W1.heap.size 110 [.slice (some ⟨g, 0, none⟩) h.n h.c, .slice h.la h.ln h.lc, .int .i64 h.m]) := fun u hu => by
            have := HBI.out.below hu
            rw [hg] at this
            exact this
          have hnn := HNM.out.1
          have HSTO : Hid (∀ u, Below wr.heap.size wr u → (storeCells ⟨g, k * 24, none⟩ (List.map cellI (mkR h.m))).run Tryz.prog u = .ok () (u.setCells g (k * 24) (List.map cellI (mkR h.m)))) := fun u hu => by
            have hk24 : ∀ j, j < 24 → k * 24 + j < h.n * 24 := fun j hj => by have := Nat.mul_le_mul_right 24 (show k + 1 ≤ h.n from hkl); omega
            have := run_storeCells_cells (P := Tryz.prog) g (k * 24) (List.map cellI (mkR h.m)) 0 u (fun j hj => by rw [List.length_map, mkR_len] at hj; obtain ⟨⟨v, hv⟩, _⟩ := HTH.out u hu (k * 24 + j) (hk24 j hj); simp [hv]) (fun j hj => by rw [List.length_map, mkR_len] at hj; simpa using (HTH.out u hu (k * 24 + j) (hk24 j hj)).2) (fun v hv => by obtain ⟨y, _, rfl⟩ := List.mem_map.1 hv; rfl)
            simpa using this
          clear q1 q2 q3 q4 hg
          go_upto_region 7 with fail
          go_region_law (
            refine step_callB rfl 89 Tryz.func89 (by kernel_rfl) (by kernel_rfl) #[.tmp 32] _ rfl #[.int .i64 h.m] (by simp [Act.eval, Act.put]) (markRn h.m hnn _) ?_
            rintro ee w2 ⟨rfl, b2⟩
            refine ⟨_, rfl, ?_⟩
            have B2 : Hid (Below wr.heap.size wr w2) := by first | exact (Below.refl wr.heap.size wr).drew.trans b2 | exact b2
            have z0 := (HX0.out _ B2.out).at (j := 0) rfl
            have z2 := (HX0.out _ B2.out).at (j := 2) rfl
            unfold rowV
            have h24 : (mkR h.m).length = 24 := rfl
            have hst : (storeCells ⟨g, k * 24, none⟩ (List.map cellI (mkR h.m))).run Tryz.prog w2 = .ok () (w2.setCells g (k * 24) (List.map cellI (mkR h.m))) := HSTO.out w2 B2.out
            have HNX : Hid (Fl KR S h Wb (w2.setCells g (k * 24) ((mkR h.m).map cellI)) (k + 1)) := by
              have q := HFL.out.step hkl HGE.out B2.out (x := ()) (fun x hx => ⟨trivial, fun b e => by cases e⟩)
              exact q
            clear b2)
          all_goals
            go_wp2
            go_roundw
            case rel => exact ⟨k + 1, by omega, by go_num, HNX⟩
            case measure => simp [intOf]; omega
        · obtain rfl : k = h.n := by omega
          have HD := Lib.hid (HFL.out.done HGB.out)
          have HT2 : Hid (Tch (fun g => h.blk = some g) W1 wr) := (Tch.of_below HAL.out).trans HFL.out.tch
          have HTN : Hid (Tch (RG hsR) w wr) := HT.out.trans (HT2.out.mono (fun g _ e => ⟨h, by rw [HHH.out]; exact atH_mem hlt, e⟩))
          have HFN : Hid (∀ j, j < i + 1 → Fil KR S wr (atH hsR j)) := fun j hj => by
            by_cases e : j = i
            · rw [e, ← HHH.out]; exact HD.out
            · refine (HF.out j (by omega)).keep HT2.out.size (fun g hg hor => HT2.out.block g hg (fun e2 => ?_))
              rcases hor with q | q
              · have := HGB.out g e2; omega
              · exact HND.out j e (by omega) g q e2
          have HON : Hid (∀ j, i + 1 ≤ j → j < hsR.length → ∃ O, wr.ownsRow 0 (KR).e (KR).sz (atH hsR j).sv (atH hsR j).n O) := fun j hj hj2 => by
            obtain ⟨O, ho⟩ := HO.out j (by omega) hj2
            exact ⟨O, own_of_block ho (fun g hg => HT2.out.block g (ho.lt g hg).2 (fun e2 => HND.out j (by omega) hj2 g hg e2))⟩
          clear HFL HBI HBOX HBR HFL0
          go_wp2
          go_roundw
          case rel => exact ⟨i + 1, by omega, by go_num, HTN, HFN, HON⟩
          case measure => simp [intOf]; omega
    · obtain rfl : i = hsR.length := by omega
      have HFA : Hid (∀ h ∈ hsR, Fil KR S wr h) := fun h hm => by
        obtain ⟨j, hj, rfl⟩ := mem_atH hm
        exact HF.out j hj
      go_wp2
      go_end0
      exact ⟨rfl, HT.out, HFA.out⟩
end Go.Proofs.YtjcfhhcohmcehaaGreatDoor.BK
