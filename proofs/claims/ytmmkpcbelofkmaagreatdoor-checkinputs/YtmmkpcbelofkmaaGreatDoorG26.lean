import Derived.Test.YtmmkpcbelofkmaaGreatDoorG25
import Derived.Deep.RegionHeld3
section
namespace Go.Proofs.YtmmkpcbelofkmaaGreatDoor
open Go.RowKit Go.Maps
set_option linter.unusedVariables false
set_option linter.unusedSimpArgs false
attribute [local go_sem ↓] Go.wp_at_zero Go.wp_at_succ

set_option maxHeartbeats 1600000 in
theorem isMarkR_any (w : World) (hp : PWt w) : Calls Tryz.prog 53 #[.agg #[.string markW, .slice none 0 0, .slice none 0 0], .int .i64 777777] w fun e w' => e = .returned (.bool true) ∧ Below w.heap.size w w' := by
  have BA := (Below.refl w.heap.size w).alloc (Nat.le_refl _) (.cells #[.string markW, .slice none 0 0, .slice none 0 0] 74)
  have HX0 : Hid (RL (w.alloc (.cells #[.string markW, .slice none 0 0, .slice none 0 0] 74)) w.heap.size 74 [.string markW, .slice none 0 0, .slice none 0 0]) := rl_new w #[.string markW, .slice none 0 0, .slice none 0 0] 74
  have HS : Hid (∀ u, Below (w.alloc (.cells #[.string markW, .slice none 0 0, .slice none 0 0] 74)).heap.size (w.alloc (.cells #[.string markW, .slice none 0 0, .slice none 0 0] 74)) u → Below w.heap.size w u ∧ u.cell? ⟨w.heap.size, 0, none⟩ = some (.string markW) ∧ u.cell? ⟨w.heap.size, 1, none⟩ = some (.slice none 0 0) ∧ u.cell? ⟨w.heap.size, 2, none⟩ = some (.slice none 0 0)) := fun u hu => by
    have hr := RL.below HX0.out hu
    exact ⟨BA.trans (hu.mono BA.size), hr.at (j := 0) rfl, hr.at (j := 1) rfl, hr.at (j := 2) rfl⟩
  have HP : Hid (∀ u, Below w.heap.size w u → PWt u) := fun u hu => tab_below hp hu
  obtain ⟨MW, hmw⟩ : ∃ MW, markW = MW := ⟨_, rfl⟩
  have HW : Hid (∀ u, PWt u → Calls Tryz.prog 34 #[.int .i64 777777] u fun e w' => e = .returned (.string MW) ∧ Below u.heap.size u w') := fun u hu => by rw [← hmw]; exact word_any u hu
  rw [hmw] at HS ⊢
  clear hp hmw BA HX0
  have e0 : (MW.toList == MW.toList) = true := by simp
  go_enter Tryz.func53, Tryz.ntmps53
  go_wp2_with fail
  generalize hWW : w.alloc (.cells #[.string MW, .slice none 0 0, .slice none 0 0] 74) = W at HS ⊢
  clear hWW
  have hB0 : Below W.heap.size W W := Below.refl _ _
  go_region_held3 (fun u => (Below W.heap.size W u) ∧ u.cell? ⟨w.heap.size, 0, none⟩ = some (.string MW) ∧ u.cell? ⟨w.heap.size, 1, none⟩ = some (.slice none 0 0) ∧ u.cell? ⟨w.heap.size, 2, none⟩ = some (.slice none 0 0))
    (first
      | assumption
      | exact ⟨hB0.drew, (HS.out _ hB0.drew).2⟩
      | exact ⟨(by assumption), (HS.out _ (by assumption)).2⟩)
    (first
      | (go_at_call 34; refine (HW.out _ (HP.out _ (HS.out _ hB0.drew).1)).mono ?_; rintro ee w2 ⟨rfl, b2⟩; have b2' : Below W.heap.size W w2 := hB0.drew.trans b2)
      | fail)
  go_wp2
  go_ret
  exact ⟨rfl, (HS.out _ b2').1⟩
end Go.Proofs.YtmmkpcbelofkmaaGreatDoor
end
section
namespace Go.Proofs.YtmmkpcbelofkmaaGreatDoor
open Go.RowKit Go.Maps
set_option linter.unusedVariables false
set_option linter.unusedSimpArgs false
attribute [local go_sem ↓] Go.wp_at_zero Go.wp_at_succ
attribute [-go_sem] loadVar storeVar

theorem TwS.range {w : World} {lo d : Nat} {l : List XR} {a : Option Addr} {c : Nat} (h : TwS w lo d l a c) : ∃ g, a = some ⟨g, 0, none⟩ ∧ g < w.heap.size ∧ w.rangeAt g (l.length * 3) [.string markW, .slice none 0 0, .slice none 0 0] ∧ ∀ i, i < l.length → w.rangeAt g (i * 3) (atR l i).cells := by
  obtain ⟨g, ha, _, hg, hr⟩ := h.lies
  refine ⟨g, ha, hg, ?_, fun i hi => ?_⟩
  · have := rowF_range hr rfl (i := l.length) (by omega) (by rw [if_pos rfl]; rfl)
    rw [if_pos rfl] at this
    exact this
  · have := rowF_range hr rfl (i := i) (by omega) (by rw [if_neg (by omega)]; rfl)
    rw [if_neg (by omega)] at this
    exact this
theorem TwS.below {w w' : World} {lo d : Nat} {l : List XR} {a : Option Addr} {c : Nat} (h : TwS w lo d l a c) (b : Below w.heap.size w w') : TwS w' lo d l a c := by
  obtain ⟨h1, ⟨g, h2, h3, h4, h5⟩, h6, h7⟩ := h
  exact ⟨h1, ⟨g, h2, h3, Nat.lt_of_lt_of_le h4 b.size, World.rowIs.of_block h5 (b.block g h4)⟩, fun i hi => (h6 i hi).below b, fun g' hg i hi => (h7 g' hg i hi).below b⟩
theorem next_ofS {wc u v : World} (h : Below wc.heap.size wc u) (b : Below u.heap.size u v) : Below wc.heap.size wc v := h.trans (b.mono h.size)
set_option maxHeartbeats 3200000 in
theorem leftRules_any (d : Nat) (l l' : List XR) (a a0 : Option Addr) (c c0 lo : Nat) (w : World) (hl' : l'.length = l.length) (hx' : ∀ i, i < l.length → LikeR (atR l i).r (atR l' i).r) (hsm : smallS d l) (hp : PWt w) (hW : TwS w lo d l' a c) (hL : Lr w (.slice a0 l.length c0) d l) :
    Calls Tryz.prog 26 #[.slice a l.length c, .slice a0 l.length c0] w fun r w' => r = .returned (.bool true) ∧ Below w.heap.size w w' := by
  have hll := hsm.len
  have HC : Hid (∀ i, i < l.length → ∀ u, Below w.heap.size w u → Calls Tryz.prog 52 #[.agg (atR l' i).cells.toArray, .agg (atR l i).cells.toArray] u fun r w' => r = .returned (.bool true) ∧ Below u.heap.size u w') := fun i hi u hu => by
    have h1 := hW.each i (by omega)
    rw [XR.val_eq, XR.val_eq]
    exact leftRule_any d (atR l i).r (atR l' i).r (atR l i).p (atR l' i).p lo u (tab_below hp hu) (hx' i hi) (hsm.each i hi) (h1.below hu) ((hL.each i hi).below hu)
  obtain ⟨a1, c1, e1, hc1, hc2, hk⟩ := hL.form
  cases e1
  have hcap := hW.cap
  obtain ⟨g, rfl, hg, hmk, hks⟩ := hW.range
  rw [hl'] at hcap hmk
  subst hcap
  have HK : Hid _ := hk
  have HKS : Hid (∀ i, i < l.length → w.rangeAt g (i * 3) (atR l' i).cells) := fun i hi => hks i (by omega)
  have HMK : Hid (w.rangeAt g (l.length * 3) [.string markW, .slice none 0 0, .slice none 0 0]) := hmk
  have HP : Hid (PWt w) := hp
  clear hmk hp hL hW hk hks hsm hx' hl' hc1 hc2
  go_enter Tryz.func26, Tryz.ntmps26
  go_wp2
  go_loopw [5] (fun i wr => ∃ k : Nat, k ≤ l.length ∧ i = .int .i64 k ∧ Below w.heap.size w wr) (fun i _ => l.length - (intOf i).toNat)
  case atStart => exact ⟨0, Nat.zero_le _, rfl, Below.refl _ _⟩
  case round =>
    obtain ⟨k, hk, rfl, bel⟩ := hrel
    by_cases hlt : k < l.length
    · have hlt' : (k : Int) < (l.length : Int) := by omega
      have hk0 : (0 : Int) ≤ (k : Int) := by omega
      obtain ⟨g', off, rfl, hg', hKS⟩ := HK.out (by omega)
      have HL1 : Hid (∀ u, Below w.heap.size w u → (loadVar 74 ⟨g, k * 3, none⟩).run Tryz.prog u = .ok (.agg (atR l' k).cells.toArray) u) := fun u hu => load_Rul (range_below (HKS.out k hlt) hu hg) rfl
      have HL2 : Hid (∀ u, Below w.heap.size w u → (loadVar 74 ⟨g', off + k * 3, none⟩).run Tryz.prog u = .ok (.agg (atR l k).cells.toArray) u) := fun u hu => load_Rul (range_below (hKS k hlt) hu hg') rfl
      have HI : Hid _ := HC.out k hlt
      generalize Value.agg (atR l' k).cells.toArray = QV at HL1 HI
      generalize Value.agg (atR l k).cells.toArray = RV at HL2 HI
      have hl1 : ∀ u, Below w.heap.size w u → (loadVar 74 ⟨g, k * 3, none⟩).run Tryz.prog u = .ok QV u := HL1.out
      have hl2 : ∀ u, Below w.heap.size w u → (loadVar 74 ⟨g', off + k * 3, none⟩).run Tryz.prog u = .ok RV u := HL2.out
      have hS0 := bel
      clear hKS HL1 HL2
      go_wp2_with fail
      go_region_held3 (fun u => (Below w.heap.size w u))
        (first
          | assumption
          | exact bel.drew)
        (first
          | (go_at_call 52; refine Calls.mono (HI.out _ (by first | assumption | exact bel.drew)) ?_; rintro ee w2 ⟨rfl, b2⟩; have b2' : Below w.heap.size w w2 := next_ofS (by first | assumption | exact bel.drew) b2)
          | fail)
      go_wp2
      go_roundw
      case rel => exact ⟨k + 1, by omega, by go_num, b2'⟩
      case measure => simp [intOf]; omega
    · obtain rfl : k = l.length := by omega
      have hld := load_Rul (range_below HMK.out bel hg) rfl
      have hMK : Hid _ := isMarkR_any wr (tab_below HP.out bel)
      have hk1 : (l.length : Int) < (l.length : Int) + 1 := by omega
      have hld2 : (loadVar 74 ⟨g, l.length * 3, none⟩).run Tryz.prog wr = .ok (.agg #[.string markW, .slice none 0 0, .slice none 0 0]) wr := hld
      generalize Value.agg #[.string markW, .slice none 0 0, .slice none 0 0] = QV at hld2 hMK
      clear hld HMK
      go_wp2_with fail
      refine Calls.mono hMK.out ?_
      rintro ee w2 ⟨rfl, b2⟩
      go_wp2
      go_ret
      exact ⟨rfl, bel.trans (b2.mono bel.size)⟩
end Go.Proofs.YtmmkpcbelofkmaaGreatDoor
end
