import Derived.Test.YtmmkpcbelofkmaaGreatDoorG23
import Derived.Deep.RegionHeld3
section
namespace Go.Proofs.YtmmkpcbelofkmaaGreatDoor
open Go.RowKit Go.Maps
set_option linter.unusedVariables false
set_option linter.unusedSimpArgs false
attribute [local go_sem ↓] Go.wp_at_zero Go.wp_at_succ

theorem run_neqA (x : A5) (w : World) : (binOp .neq 129 (.agg #[.int .i8 x.g, .string x.t.v, .int .i8 x.t.a.k, .int .i64 x.t.a.n, .string x.t.a.s]) (.agg #[.int .i8 x.g, .string x.t.v, .int .i8 x.t.a.k, .int .i64 x.t.a.n, .string x.t.a.s])).run Tryz.prog w = .ok (.bool false) w := by go_simp
theorem run_eqA (x : A5) (w : World) : (binOp .eql 129 (.agg #[.int .i8 x.g, .string x.t.v, .int .i8 x.t.a.k, .int .i64 x.t.a.n, .string x.t.a.s]) (.agg #[.int .i8 x.g, .string x.t.v, .int .i8 x.t.a.k, .int .i64 x.t.a.n, .string x.t.a.s])).run Tryz.prog w = .ok (.bool true) w := by go_simp
set_option maxHeartbeats 3200000 in
theorem sameArgs_same (v v' : Value) (l : List A5) (w : World) (h1 : La w v l) (h2 : La w v' l) :
    Calls Tryz.prog 111 #[v, v'] w fun r w' => r = .returned (.bool true) ∧ Below w.heap.size w w' := by
  obtain ⟨a, c, rfl, hc1, hc2, hk⟩ := h1.form
  obtain ⟨a', c', rfl, hc1', hc2', hk'⟩ := h2.form
  have hmax : l.length ≤ maxLen := Nat.le_trans hc1 hc2
  unfold maxLen at hmax
  have HK : Hid _ := hk
  have HK' : Hid _ := hk'
  clear hk hk' h1 h2 hc2 hc2'
  go_enter Tryz.func111, Tryz.ntmps111
  go_wp2
  go_loopw [5] (fun i wr => ∃ k : Nat, k ≤ l.length ∧ i = .int .i64 k ∧ Below w.heap.size w wr) (fun i _ => l.length - (intOf i).toNat)
  case atStart => exact ⟨0, Nat.zero_le _, rfl, Below.refl _ _⟩
  case round =>
    obtain ⟨k, hk, rfl, bel⟩ := hrel
    by_cases hlt : k < l.length
    · have hlt' : (k : Int) < (l.length : Int) := by omega
      obtain ⟨g, off, rfl, hg, hKS⟩ := HK.out (by omega)
      obtain ⟨g', off', rfl, hg', hKS'⟩ := HK'.out (by omega)
      have ry := range_below (hKS k hlt) bel hg
      have rz := range_below (hKS' k hlt) bel hg'
      generalize atA l k = x at ry rz
      have y0 : wr.cell? ⟨g, off + k * 5, none⟩ = some (.int .i8 x.g) := ry 0 _ rfl
      have y1 : wr.cell? ⟨g, off + k * 5 + 1, none⟩ = some (.string x.t.v) := ry 1 _ rfl
      have y2 : wr.cell? ⟨g, off + k * 5 + 2, none⟩ = some (.int .i8 x.t.a.k) := ry 2 _ rfl
      have y3 : wr.cell? ⟨g, off + k * 5 + 3, none⟩ = some (.int .i64 x.t.a.n) := ry 3 _ rfl
      have y4 : wr.cell? ⟨g, off + k * 5 + 4, none⟩ = some (.string x.t.a.s) := ry 4 _ rfl
      have z0 : wr.cell? ⟨g', off' + k * 5, none⟩ = some (.int .i8 x.g) := rz 0 _ rfl
      have z1 : wr.cell? ⟨g', off' + k * 5 + 1, none⟩ = some (.string x.t.v) := rz 1 _ rfl
      have z2 : wr.cell? ⟨g', off' + k * 5 + 2, none⟩ = some (.int .i8 x.t.a.k) := rz 2 _ rfl
      have z3 : wr.cell? ⟨g', off' + k * 5 + 3, none⟩ = some (.int .i64 x.t.a.n) := rz 3 _ rfl
      have z4 : wr.cell? ⟨g', off' + k * 5 + 4, none⟩ = some (.string x.t.a.s) := rz 4 _ rfl
      have hQ := run_neqA x
      clear hKS hKS' ry rz
      go_wp2_with fail
      go_quiet (fail)
      go_wp2
      go_roundw
      case rel => exact ⟨k + 1, by omega, by go_num, below_drewN bel _⟩
      case measure => simp [intOf]; omega
    · obtain rfl : k = l.length := by omega
      go_wp2
      go_ret
      exact ⟨rfl, bel⟩
set_option maxHeartbeats 1600000 in
theorem isMarkA_any (w : World) (hp : PWt w) : Calls Tryz.prog 112 #[.agg #[.int .i8 0, .string markW, .int .i8 0, .int .i64 0, .string ⟨#[]⟩], .int .i64 777777] w fun e w' => e = .returned (.bool true) ∧ Below w.heap.size w w' := by
  have BA := (Below.refl w.heap.size w).alloc (Nat.le_refl _) (.cells #[.int .i8 0, .string markW, .int .i8 0, .int .i64 0, .string ⟨#[]⟩] 129)
  have HX0 : Hid (RL (w.alloc (.cells #[.int .i8 0, .string markW, .int .i8 0, .int .i64 0, .string ⟨#[]⟩] 129)) w.heap.size 129 [.int .i8 0, .string markW, .int .i8 0, .int .i64 0, .string ⟨#[]⟩]) := rl_new w #[.int .i8 0, .string markW, .int .i8 0, .int .i64 0, .string ⟨#[]⟩] 129
  have HS : Hid (∀ u, Below (w.alloc (.cells #[.int .i8 0, .string markW, .int .i8 0, .int .i64 0, .string ⟨#[]⟩] 129)).heap.size (w.alloc (.cells #[.int .i8 0, .string markW, .int .i8 0, .int .i64 0, .string ⟨#[]⟩] 129)) u → Below w.heap.size w u ∧ u.cell? ⟨w.heap.size, 0, none⟩ = some (.int .i8 0) ∧ u.cell? ⟨w.heap.size, 1, none⟩ = some (.string markW) ∧ u.cell? ⟨w.heap.size, 2, none⟩ = some (.int .i8 0) ∧ u.cell? ⟨w.heap.size, 3, none⟩ = some (.int .i64 0) ∧ u.cell? ⟨w.heap.size, 4, none⟩ = some (.string ⟨#[]⟩)) := fun u hu => by
    have hr := RL.below HX0.out hu
    exact ⟨BA.trans (hu.mono BA.size), hr.at (j := 0) rfl, hr.at (j := 1) rfl, hr.at (j := 2) rfl, hr.at (j := 3) rfl, hr.at (j := 4) rfl⟩
  have HP : Hid (∀ u, Below w.heap.size w u → PWt u) := fun u hu => tab_below hp hu
  obtain ⟨MW, hmw⟩ : ∃ MW, markW = MW := ⟨_, rfl⟩
  have HW : Hid (∀ u, PWt u → Calls Tryz.prog 34 #[.int .i64 777777] u fun e w' => e = .returned (.string MW) ∧ Below u.heap.size u w') := fun u hu => by rw [← hmw]; exact word_any u hu
  rw [hmw] at HS ⊢
  clear hp hmw BA HX0
  have hE : ∀ u, (binOp .eql 129 (.agg #[.int .i8 0, .string MW, .int .i8 0, .int .i64 0, .string ⟨#[]⟩]) (.agg #[.int .i8 0, .string MW, .int .i8 0, .int .i64 0, .string ⟨#[]⟩])).run Tryz.prog u = .ok (.bool true) u := fun u => run_eqA ⟨0, ⟨MW, V0⟩⟩ u
  go_enter Tryz.func112, Tryz.ntmps112
  go_wp2_with fail
  generalize hWW : w.alloc (.cells #[.int .i8 0, .string MW, .int .i8 0, .int .i64 0, .string ⟨#[]⟩] 129) = W at HS ⊢
  clear hWW
  have hB0 : Below W.heap.size W W := Below.refl _ _
  go_region_held3 (fun u => (Below W.heap.size W u) ∧ u.cell? ⟨w.heap.size, 0, none⟩ = some (.int .i8 0) ∧ u.cell? ⟨w.heap.size, 1, none⟩ = some (.string MW) ∧ u.cell? ⟨w.heap.size, 2, none⟩ = some (.int .i8 0) ∧ u.cell? ⟨w.heap.size, 3, none⟩ = some (.int .i64 0) ∧ u.cell? ⟨w.heap.size, 4, none⟩ = some (.string ⟨#[]⟩))
    (first
      | assumption
      | exact ⟨hB0.drew, (HS.out _ hB0.drew).2⟩
      | exact ⟨(by assumption), (HS.out _ (by assumption)).2⟩)
    (first
      | (go_at_call 34; refine (HW.out _ (HP.out _ (HS.out _ hB0.drew).1)).mono ?_; rintro ee w2 ⟨rfl, b2⟩; have b2' : Below W.heap.size W w2 := hB0.drew.trans b2)
      | fail)
  go_wp2
  go_ret
  exact ⟨rfl, (HS.out _ b2').1⟩
set_option maxHeartbeats 1600000 in
theorem isMarkL_any (w : World) (hp : PWt w) : Calls Tryz.prog 114 #[.agg #[.int .i8 99, .string markW, .slice none 0 0, .int .i8 0, .int .i8 0, .string ⟨#[]⟩, .int .i8 0, .int .i64 0, .string ⟨#[]⟩, .slice none 0 0, .int .i8 0, .string ⟨#[]⟩, .int .i8 0, .int .i64 0, .string ⟨#[]⟩, .slice none 0 0], .int .i64 777777] w fun e w' => e = .returned (.bool true) ∧ Below w.heap.size w w' := by
  have BA := (Below.refl w.heap.size w).alloc (Nat.le_refl _) (.cells #[.int .i8 99, .string markW, .slice none 0 0, .int .i8 0, .int .i8 0, .string ⟨#[]⟩, .int .i8 0, .int .i64 0, .string ⟨#[]⟩, .slice none 0 0, .int .i8 0, .string ⟨#[]⟩, .int .i8 0, .int .i64 0, .string ⟨#[]⟩, .slice none 0 0] 109)
  have HX0 : Hid (RL (w.alloc (.cells #[.int .i8 99, .string markW, .slice none 0 0, .int .i8 0, .int .i8 0, .string ⟨#[]⟩, .int .i8 0, .int .i64 0, .string ⟨#[]⟩, .slice none 0 0, .int .i8 0, .string ⟨#[]⟩, .int .i8 0, .int .i64 0, .string ⟨#[]⟩, .slice none 0 0] 109)) w.heap.size 109 [.int .i8 99, .string markW, .slice none 0 0, .int .i8 0, .int .i8 0, .string ⟨#[]⟩, .int .i8 0, .int .i64 0, .string ⟨#[]⟩, .slice none 0 0, .int .i8 0, .string ⟨#[]⟩, .int .i8 0, .int .i64 0, .string ⟨#[]⟩, .slice none 0 0]) := rl_new w #[.int .i8 99, .string markW, .slice none 0 0, .int .i8 0, .int .i8 0, .string ⟨#[]⟩, .int .i8 0, .int .i64 0, .string ⟨#[]⟩, .slice none 0 0, .int .i8 0, .string ⟨#[]⟩, .int .i8 0, .int .i64 0, .string ⟨#[]⟩, .slice none 0 0] 109
  have HS : Hid (∀ u, Below (w.alloc (.cells #[.int .i8 99, .string markW, .slice none 0 0, .int .i8 0, .int .i8 0, .string ⟨#[]⟩, .int .i8 0, .int .i64 0, .string ⟨#[]⟩, .slice none 0 0, .int .i8 0, .string ⟨#[]⟩, .int .i8 0, .int .i64 0, .string ⟨#[]⟩, .slice none 0 0] 109)).heap.size (w.alloc (.cells #[.int .i8 99, .string markW, .slice none 0 0, .int .i8 0, .int .i8 0, .string ⟨#[]⟩, .int .i8 0, .int .i64 0, .string ⟨#[]⟩, .slice none 0 0, .int .i8 0, .string ⟨#[]⟩, .int .i8 0, .int .i64 0, .string ⟨#[]⟩, .slice none 0 0] 109)) u → Below w.heap.size w u ∧ u.cell? ⟨w.heap.size, 0, none⟩ = some (.int .i8 99) ∧ u.cell? ⟨w.heap.size, 1, none⟩ = some (.string markW) ∧ u.cell? ⟨w.heap.size, 2, none⟩ = some (.slice none 0 0)) := fun u hu => by
    have hr := RL.below HX0.out hu
    exact ⟨BA.trans (hu.mono BA.size), hr.at (j := 0) rfl, hr.at (j := 1) rfl, hr.at (j := 2) rfl⟩
  have HP : Hid (∀ u, Below w.heap.size w u → PWt u) := fun u hu => tab_below hp hu
  obtain ⟨MW, hmw⟩ : ∃ MW, markW = MW := ⟨_, rfl⟩
  have HW : Hid (∀ u, PWt u → Calls Tryz.prog 34 #[.int .i64 777777] u fun e w' => e = .returned (.string MW) ∧ Below u.heap.size u w') := fun u hu => by rw [← hmw]; exact word_any u hu
  rw [hmw] at HS ⊢
  clear hp hmw BA HX0
  have e0 : (MW.toList == MW.toList) = true := by simp
  go_enter Tryz.func114, Tryz.ntmps114
  go_wp2_with fail
  generalize hWW : w.alloc (.cells #[.int .i8 99, .string MW, .slice none 0 0, .int .i8 0, .int .i8 0, .string ⟨#[]⟩, .int .i8 0, .int .i64 0, .string ⟨#[]⟩, .slice none 0 0, .int .i8 0, .string ⟨#[]⟩, .int .i8 0, .int .i64 0, .string ⟨#[]⟩, .slice none 0 0] 109) = W at HS ⊢
  clear hWW
  have hB0 : Below W.heap.size W W := Below.refl _ _
  go_region_held3 (fun u => (Below W.heap.size W u) ∧ u.cell? ⟨w.heap.size, 0, none⟩ = some (.int .i8 99) ∧ u.cell? ⟨w.heap.size, 1, none⟩ = some (.string MW) ∧ u.cell? ⟨w.heap.size, 2, none⟩ = some (.slice none 0 0))
    (first
      | assumption
      | exact ⟨hB0.drew, (HS.out _ hB0.drew).2⟩
      | exact ⟨(by assumption), (HS.out _ (by assumption)).2⟩)
    (first
      | (go_at_call 34; refine (HW.out _ (HP.out _ (HS.out _ hB0.drew).1)).mono ?_; rintro ee w2 ⟨rfl, b2⟩; have b2' : Below W.heap.size W w2 := hB0.drew.trans b2)
      | fail)
  go_wp2
  go_ret
  exact ⟨rfl, (HS.out _ b2').1⟩
set_option maxHeartbeats 1600000 in
theorem leftArgs_any (l : List A5) (a a0 : Option Addr) (c c0 lo : Nat) (w : World) (hs : l.length ≤ 1048576) (hp : PWt w) (hW : TwA w lo l a c) (hL : La w (.slice a0 l.length c0) l) :
    Calls Tryz.prog 80 #[.slice a l.length c, .slice a0 l.length c0] w fun r w' => r = .returned (.bool true) ∧ Below w.heap.size w w' := by
  have HS : Hid _ := sameArgs_same _ _ l w (hW.la hL hs) hL
  obtain ⟨rfl, g, rfl, _, hg, hmk, _⟩ := hW
  have HMK : Hid (w.rangeAt g (l.length * 5) [.int .i8 0, .string markW, .int .i8 0, .int .i64 0, .string ⟨#[]⟩]) := hmk
  have HP : Hid (PWt w) := hp
  clear hmk hp hL
  go_enter Tryz.func80, Tryz.ntmps80
  go_wp2_with fail
  refine Calls.mono HS.out ?_
  rintro r w1 ⟨rfl, b1⟩
  have hr := range_below HMK.out b1 hg
  have hMK : Hid _ := isMarkA_any w1 (tab_below HP.out b1)
  have hk1 : (l.length : Int) < (l.length : Int) + 1 := by omega
  have z0 : w1.cell? ⟨g, l.length * 5, none⟩ = some (.int .i8 0) := hr 0 _ rfl
  have z1 : w1.cell? ⟨g, l.length * 5 + 1, none⟩ = some (.string markW) := hr 1 _ rfl
  have z2 : w1.cell? ⟨g, l.length * 5 + 2, none⟩ = some (.int .i8 0) := hr 2 _ rfl
  have z3 : w1.cell? ⟨g, l.length * 5 + 3, none⟩ = some (.int .i64 0) := hr 3 _ rfl
  have z4 : w1.cell? ⟨g, l.length * 5 + 4, none⟩ = some (.string ⟨#[]⟩) := hr 4 _ rfl
  obtain ⟨MW, hmw⟩ : ∃ MW, markW = MW := ⟨_, rfl⟩
  rw [hmw] at z1 hMK
  clear hmw HS HMK HP hr
  go_wp2_with (go_at_call 112; refine Calls.mono hMK.out ?_; rintro r w2 ⟨rfl, b2⟩)
  go_ret
  exact ⟨rfl, b1.trans (b2.mono b1.size)⟩
end Go.Proofs.YtmmkpcbelofkmaaGreatDoor
end
section
namespace Go.Proofs.YtmmkpcbelofkmaaGreatDoor
open Go.RowKit Go.Maps
set_option linter.unusedVariables false
set_option linter.unusedSimpArgs false
attribute [local go_sem ↓] Go.wp_at_zero Go.wp_at_succ
attribute [-go_sem] loadVar storeVar

theorem next_ofL {wc u v : World} (h : Below wc.heap.size wc u) (b : Below u.heap.size u v) : Below wc.heap.size wc v := h.trans (b.mono h.size)
set_option maxHeartbeats 3200000 in
theorem leftLiterals_any (d : Nat) (l l' : List XL) (a a0 : Option Addr) (c c0 lo : Nat) (w : World) (hll : l.length ≤ 1048576) (hl' : l'.length = l.length) (hx' : ∀ i, i < l.length → (atL l' i).x = (atL l i).x) (hsm : ∀ y ∈ l, smallL d y.x) (hp : PWt w) (hW : TwB w lo d l' a c) (hL : Lb w (.slice a0 l.length c0) d l) :
    Calls Tryz.prog 81 #[.slice a l.length c, .slice a0 l.length c0] w fun r w' => r = .returned (.bool true) ∧ Below w.heap.size w w' := by
  have HC : Hid (∀ i, i < l.length → ∀ u, Below w.heap.size w u → Calls Tryz.prog 113 #[.agg (atL l' i).cells.toArray, .agg (atL l i).cells.toArray] u fun r w' => r = .returned (.bool true) ∧ Below u.heap.size u w') := fun i hi u hu => by
    have h1 := hW.each i (by omega)
    have h2 := hL.at_is hi
    have h3 : (atL l i).x.ts.length ≤ 1048576 := by rw [atL_eq hi]; exact (hsm _ (List.getElem_mem hi)).1
    have h4 := leftLiteral_any d (atL l i).x (atL l' i).p (atL l i).p lo u h3 (tab_below hp hu) (by rw [← hx' i hi]; exact h1.below hu) (h2.below hu)
    rw [XL.val_eq, XL.val_eq, hx' i hi]
    exact h4
  obtain ⟨a1, c1, e1, hc1, hc2, hk⟩ := hL.form
  cases e1
  have hcap := hW.cap
  obtain ⟨g, rfl, _, hg, hmk, hks⟩ := hW.lies
  rw [hl'] at hcap hmk
  subst hcap
  have HK : Hid _ := hk
  have HKS : Hid (∀ i, i < l.length → w.rangeAt g (i * 16) (atL l' i).cells) := fun i hi => hks i (by omega)
  have HMK : Hid (w.rangeAt g (l.length * 16) [.int .i8 99, .string markW, .slice none 0 0, .int .i8 0, .int .i8 0, .string ⟨#[]⟩, .int .i8 0, .int .i64 0, .string ⟨#[]⟩, .slice none 0 0, .int .i8 0, .string ⟨#[]⟩, .int .i8 0, .int .i64 0, .string ⟨#[]⟩, .slice none 0 0]) := hmk
  have HP : Hid (PWt w) := hp
  clear hmk hp hL hW hk hks hsm hx' hl' hc1 hc2
  go_enter Tryz.func81, Tryz.ntmps81
  go_wp2
  go_loopw [5] (fun i wr => ∃ k : Nat, k ≤ l.length ∧ i = .int .i64 k ∧ Below w.heap.size w wr) (fun i _ => l.length - (intOf i).toNat)
  case atStart => exact ⟨0, Nat.zero_le _, rfl, Below.refl _ _⟩
  case round =>
    obtain ⟨k, hk, rfl, bel⟩ := hrel
    by_cases hlt : k < l.length
    · have hlt' : (k : Int) < (l.length : Int) := by omega
      have hk0 : (0 : Int) ≤ (k : Int) := by omega
      obtain ⟨g', off, rfl, hg', hKS⟩ := HK.out (by omega)
      have HL1 : Hid (∀ u, Below w.heap.size w u → (loadVar 109 ⟨g, k * 16, none⟩).run Tryz.prog u = .ok (.agg (atL l' k).cells.toArray) u) := fun u hu => load_Lit (range_below (HKS.out k hlt) hu hg) rfl
      have HL2 : Hid (∀ u, Below w.heap.size w u → (loadVar 109 ⟨g', off + k * 16, none⟩).run Tryz.prog u = .ok (.agg (atL l k).cells.toArray) u) := fun u hu => load_Lit (range_below (hKS k hlt) hu hg') rfl
      have HI : Hid _ := HC.out k hlt
      generalize Value.agg (atL l' k).cells.toArray = QV at HL1 HI
      generalize Value.agg (atL l k).cells.toArray = RV at HL2 HI
      have hl1 : ∀ u, Below w.heap.size w u → (loadVar 109 ⟨g, k * 16, none⟩).run Tryz.prog u = .ok QV u := HL1.out
      have hl2 : ∀ u, Below w.heap.size w u → (loadVar 109 ⟨g', off + k * 16, none⟩).run Tryz.prog u = .ok RV u := HL2.out
      have hS0 := bel
      clear hKS HL1 HL2
      go_wp2_with fail
      go_region_held3 (fun u => (Below w.heap.size w u))
        (first
          | assumption
          | exact bel.drew)
        (first
          | (go_at_call 113; refine Calls.mono (HI.out _ (by first | assumption | exact bel.drew)) ?_; rintro ee w2 ⟨rfl, b2⟩; have b2' : Below w.heap.size w w2 := next_ofL (by first | assumption | exact bel.drew) b2)
          | fail)
      go_wp2
      go_roundw
      case rel => exact ⟨k + 1, by omega, by go_num, b2'⟩
      case measure => simp [intOf]; omega
    · obtain rfl : k = l.length := by omega
      have hld := load_Lit (range_below HMK.out bel hg) rfl
      have hMK : Hid _ := isMarkL_any wr (tab_below HP.out bel)
      have hk1 : (l.length : Int) < (l.length : Int) + 1 := by omega
      have hld2 : (loadVar 109 ⟨g, l.length * 16, none⟩).run Tryz.prog wr = .ok (.agg #[.int .i8 99, .string markW, .slice none 0 0, .int .i8 0, .int .i8 0, .string ⟨#[]⟩, .int .i8 0, .int .i64 0, .string ⟨#[]⟩, .slice none 0 0, .int .i8 0, .string ⟨#[]⟩, .int .i8 0, .int .i64 0, .string ⟨#[]⟩, .slice none 0 0]) wr := hld
      generalize Value.agg #[.int .i8 99, .string markW, .slice none 0 0, .int .i8 0, .int .i8 0, .string ⟨#[]⟩, .int .i8 0, .int .i64 0, .string ⟨#[]⟩, .slice none 0 0, .int .i8 0, .string ⟨#[]⟩, .int .i8 0, .int .i64 0, .string ⟨#[]⟩, .slice none 0 0] = QV at hld2 hMK
      clear hld HMK
      go_wp2_with fail
      refine Calls.mono hMK.out ?_
      rintro ee w2 ⟨rfl, b2⟩
      go_wp2
      go_ret
      exact ⟨rfl, bel.trans (b2.mono bel.size)⟩
end Go.Proofs.YtmmkpcbelofkmaaGreatDoor
end
