import Derived.Test.YtoppgalbmijhdaaGreatDoorFaLeftA
namespace Go.Proofs.YtoppgalbmijhdaaGreatDoor
open Go.RowKit Go.Maps
set_option linter.unusedVariables false
set_option linter.unusedSimpArgs false
attribute [local go_sem ↓] Go.wp_at_zero Go.wp_at_succ
attribute [-go_sem] loadVar storeVar

theorem TwG.range {w : World} {lo : Nat} {l : List XF} {a : Option Addr} {c : Nat} (h : TwG w lo l a c) : ∃ g, a = some ⟨g, 0, none⟩ ∧ g < w.heap.size ∧ w.rangeAt g (l.length * 2) [.string markW, .slice none 0 0] ∧ ∀ i, i < l.length → w.rangeAt g (i * 2) (atF l i).cells := by
  obtain ⟨g, ha, _, hg, hr⟩ := h.lies
  refine ⟨g, ha, hg, ?_, fun i hi => ?_⟩
  · have := rowF_range hr rfl (i := l.length) (by omega) (by rw [if_pos rfl]; rfl)
    rw [if_pos rfl] at this
    exact this
  · have := rowF_range hr rfl (i := i) (by omega) (by rw [if_neg (by omega)]; rfl)
    rw [if_neg (by omega)] at this
    exact this
theorem TwG.below {w w' : World} {lo : Nat} {l : List XF} {a : Option Addr} {c : Nat} (h : TwG w lo l a c) (b : Below w.heap.size w w') : TwG w' lo l a c := by
  obtain ⟨h1, ⟨g, h2, h3, h4, h5⟩, h6, h7⟩ := h
  exact ⟨h1, ⟨g, h2, h3, Nat.lt_of_lt_of_le h4 b.size, World.rowIs.of_block h5 (b.block g h4)⟩, fun i hi => (h6 i hi).below b, fun g' hg i hi => (h7 g' hg i hi).below b⟩
theorem next_ofS {wc u v : World} (h : Below wc.heap.size wc u) (b : Below u.heap.size u v) : Below wc.heap.size wc v := h.trans (b.mono h.size)
set_option maxHeartbeats 3200000 in
theorem leftFs_any (l l' : List XF) (a a0 : Option Addr) (c c0 lo : Nat) (w : World) (hl' : l'.length = l.length) (hx' : ∀ i, i < l.length → LikeF (atF l i) (atF l' i)) (hsm : smallF l) (hp : PWt w) (hW : TwG w lo l' a c) (hL : Lf w (.slice a0 l.length c0) l) :
    Calls Tryz.prog 9 #[.slice a l.length c, .slice a0 l.length c0] w fun r w' => r = .returned (.bool true) ∧ Below w.heap.size w w' := by
  have hll := hsm.len
  have HC : Hid (∀ i, i < l.length → ∀ u, Below w.heap.size w u → Calls Tryz.prog 20 #[.agg (atF l' i).cells.toArray, .agg (atF l i).cells.toArray] u fun r w' => r = .returned (.bool true) ∧ Below u.heap.size u w') := fun i hi u hu => by
    have h1 := hW.each i (by omega)
    rw [XF.val_eq, XF.val_eq]
    exact leftF_any (atF l i) (atF l' i) lo u (hsm.each i hi) (hx' i hi) (h1.below hu) ((hL.each i hi).below hu)
  obtain ⟨a1, c1, e1, hc1, hc2, hk⟩ := hL.form
  cases e1
  have hcap := hW.cap
  obtain ⟨g, rfl, hg, hmk, hks⟩ := hW.range
  rw [hl'] at hcap hmk
  subst hcap
  have HK : Hid _ := hk
  have HKS : Hid (∀ i, i < l.length → w.rangeAt g (i * 2) (atF l' i).cells) := fun i hi => hks i (by omega)
  have HMK : Hid (w.rangeAt g (l.length * 2) [.string markW, .slice none 0 0]) := hmk
  have HP : Hid (PWt w) := hp
  clear hmk hp hL hW hk hks hsm hx' hl' hc1 hc2
  go_enter Tryz.func9, Tryz.ntmps9
  go_wp2
  go_loopw [5] (fun i wr => ∃ k : Nat, k ≤ l.length ∧ i = .int .i64 k ∧ Below w.heap.size w wr) (fun i _ => l.length - (intOf i).toNat)
  case atStart => exact ⟨0, Nat.zero_le _, rfl, Below.refl _ _⟩
  case round =>
    obtain ⟨k, hk, rfl, bel⟩ := hrel
    by_cases hlt : k < l.length
    · have hlt' : (k : Int) < (l.length : Int) := by omega
      have hk0 : (0 : Int) ≤ (k : Int) := by omega
      obtain ⟨g', off, rfl, hg', hKS⟩ := HK.out (by omega)
      have HL1 : Hid (∀ u, Below w.heap.size w u → (loadVar 31 ⟨g, k * 2, none⟩).run Tryz.prog u = .ok (.agg (atF l' k).cells.toArray) u) := fun u hu => load_Fac (range_below (HKS.out k hlt) hu hg) rfl
      have HL2 : Hid (∀ u, Below w.heap.size w u → (loadVar 31 ⟨g', off + k * 2, none⟩).run Tryz.prog u = .ok (.agg (atF l k).cells.toArray) u) := fun u hu => load_Fac (range_below (hKS k hlt) hu hg') rfl
      have HI : Hid _ := HC.out k hlt
      generalize Value.agg (atF l' k).cells.toArray = QV at HL1 HI
      generalize Value.agg (atF l k).cells.toArray = RV at HL2 HI
      have hl1 : ∀ u, Below w.heap.size w u → (loadVar 31 ⟨g, k * 2, none⟩).run Tryz.prog u = .ok QV u := HL1.out
      have hl2 : ∀ u, Below w.heap.size w u → (loadVar 31 ⟨g', off + k * 2, none⟩).run Tryz.prog u = .ok RV u := HL2.out
      have hS0 := bel
      clear hKS HL1 HL2
      go_wp2_with fail
      go_region_held3 (fun u => (Below w.heap.size w u))
        (first
          | assumption
          | exact bel.drew)
        (first
          | (go_at_call 20; refine Calls.mono (HI.out _ (by first | assumption | exact bel.drew)) ?_; rintro ee w2 ⟨rfl, b2⟩; have b2' : Below w.heap.size w w2 := next_ofS (by first | assumption | exact bel.drew) b2)
          | fail)
      go_wp2
      go_roundw
      case rel => exact ⟨k + 1, by omega, by go_num, b2'⟩
      case measure => simp [intOf]; omega
    · obtain rfl : k = l.length := by omega
      have hld := load_Fac (range_below HMK.out bel hg) rfl
      have hMK : Hid _ := isMarkF_any wr (tab_below HP.out bel)
      have hk1 : (l.length : Int) < (l.length : Int) + 1 := by omega
      have hld2 : (loadVar 31 ⟨g, l.length * 2, none⟩).run Tryz.prog wr = .ok (.agg #[.string markW, .slice none 0 0]) wr := hld
      generalize Value.agg #[.string markW, .slice none 0 0] = QV at hld2 hMK
      clear hld HMK
      go_wp2_with fail
      refine Calls.mono hMK.out ?_
      rintro ee w2 ⟨rfl, b2⟩
      go_wp2
      go_ret
      exact ⟨rfl, bel.trans (b2.mono bel.size)⟩
end Go.Proofs.YtoppgalbmijhdaaGreatDoor
