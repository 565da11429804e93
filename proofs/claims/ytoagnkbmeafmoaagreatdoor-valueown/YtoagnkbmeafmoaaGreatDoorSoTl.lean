import Derived.Test.YtoagnkbmeafmoaaGreatDoorSoTw
import Derived.Test.YtoagnkbmeafmoaaGreatDoorFaBeyond
namespace Go.Proofs.YtoagnkbmeafmoaaGreatDoor
open Go.RowKit Go.Maps
set_option linter.unusedVariables false
set_option linter.unusedSimpArgs false
attribute [local go_sem ↓] Go.wp_at_zero Go.wp_at_succ

attribute [-go_sem] loadVar storeVar
set_option maxHeartbeats 3200000 in
theorem sameTs_same (v v' : Value) (l m : List XF) (w : World) (h1 : Lu w v l) (h2 : Lu w v' m) (hkey : l.map XF.key = m.map XF.key) :
    Calls Tryz.prog 13 #[v, v'] w fun r w' => r = .returned (.bool true) ∧ Below w.heap.size w w' := by
  obtain ⟨hlen, hat⟩ := keys_at hkey
  have HC : Hid (∀ i, i < l.length → ∀ u, Below w.heap.size w u → Calls Tryz.prog 36 #[(atF l i).tcell, (atF m i).tcell] u fun r w' => r = .returned (.bool true) ∧ Below u.heap.size u w') := fun i hi u hu => by
    have e : (atF l i).vs = (atF m i).vs := congrArg Prod.snd (hat i hi)
    have g1 := ((h1.at hi).1.below hu).vs
    have g2 := ((h2.at (show i < m.length by omega)).1.below hu).vs
    unfold XF.tcell
    rw [← e] at g2 ⊢
    exact sameV_same _ _ _ u g1 g2
  obtain ⟨a, c, rfl, hc1, hc2, hk⟩ := h1.form
  obtain ⟨a', c', rfl, hc1', hc2', hk'⟩ := h2.form
  have hmax : l.length ≤ maxLen := Nat.le_trans hc1 hc2
  unfold maxLen at hmax
  rw [hlen] at hk' hc1' ⊢
  have HK : Hid _ := hk
  have HK' : Hid _ := hk'
  clear hk hk' h1 h2 hc2 hc2' hkey hat hlen
  go_enter Tryz.func13, Tryz.ntmps13
  go_wp2
  go_loopw [5] (fun i wr => ∃ k : Nat, k ≤ l.length ∧ i = .int .i64 k ∧ Below w.heap.size w wr) (fun i _ => l.length - (intOf i).toNat)
  case atStart => exact ⟨0, Nat.zero_le _, rfl, Below.refl _ _⟩
  case round =>
    obtain ⟨k, hk, rfl, bel⟩ := hrel
    by_cases hlt : k < l.length
    · have hlt' : (k : Int) < (l.length : Int) := by omega
      have hk0 : (0 : Int) ≤ (k : Int) := by omega
      obtain ⟨g, off, rfl, hg, hKS⟩ := HK.out (by omega)
      obtain ⟨g', off', rfl, hg', hKS'⟩ := HK'.out (by omega)
      have HL1 : Hid (∀ u, Below w.heap.size w u → (loadVar 26 ⟨g, off + k, none⟩).run Tryz.prog u = .ok (atF l k).tcell u) := fun u hu => load_Tup (by rw [hu.cell (p := ⟨g, off + k, none⟩) hg]; exact hKS k hlt)
      have HL2 : Hid (∀ u, Below w.heap.size w u → (loadVar 26 ⟨g', off' + k, none⟩).run Tryz.prog u = .ok (atF m k).tcell u) := fun u hu => load_Tup (by rw [hu.cell (p := ⟨g', off' + k, none⟩) hg']; exact hKS' k hlt)
      have HI : Hid _ := HC.out k hlt
      generalize (atF l k).tcell = QV at HL1 HI
      generalize (atF m k).tcell = RV at HL2 HI
      have hl1 : ∀ u, Below w.heap.size w u → (loadVar 26 ⟨g, off + k, none⟩).run Tryz.prog u = .ok QV u := HL1.out
      have hl2 : ∀ u, Below w.heap.size w u → (loadVar 26 ⟨g', off' + k, none⟩).run Tryz.prog u = .ok RV u := HL2.out
      have hS0 := bel
      clear hKS hKS' HL1 HL2
      go_wp2_with fail
      go_region_held3 (fun u => (Below w.heap.size w u))
        (first
          | assumption
          | exact bel.drew)
        (first
          | (go_at_call 36; refine Calls.mono (HI.out _ (by first | assumption | exact bel.drew)) ?_; rintro ee w2 ⟨rfl, b2⟩; have b2' : Below w.heap.size w w2 := next_ofS (by first | assumption | exact bel.drew) b2)
          | fail)
      go_wp2
      go_roundw
      case rel => exact ⟨k + 1, by omega, by go_num, b2'⟩
      case measure => simp [intOf]; omega
    · obtain rfl : k = l.length := by omega
      go_wp2
      go_ret
      exact ⟨rfl, bel⟩
set_option maxHeartbeats 3200000 in
theorem sameFs_same (v v' : Value) (l m : List XF) (w : World) (h1 : Lf w v l) (h2 : Lf w v' m) (hkey : l.map XF.key = m.map XF.key) :
    Calls Tryz.prog 12 #[v, v'] w fun r w' => r = .returned (.bool true) ∧ Below w.heap.size w w' := by
  obtain ⟨hlen, hat⟩ := keys_at hkey
  have HC : Hid (∀ i, i < l.length → ∀ u, Below w.heap.size w u → Calls Tryz.prog 35 #[.agg (atF l i).cells.toArray, .agg (atF m i).cells.toArray] u fun r w' => r = .returned (.bool true) ∧ Below u.heap.size u w') := fun i hi u hu => sameF_same _ _ u ((h1.each i hi).below hu) ((h2.each i (by omega)).below hu) (hat i hi)
  obtain ⟨a, c, rfl, hc1, hc2, hk⟩ := h1.form
  obtain ⟨a', c', rfl, hc1', hc2', hk'⟩ := h2.form
  have hmax : l.length ≤ maxLen := Nat.le_trans hc1 hc2
  unfold maxLen at hmax
  rw [hlen] at hk' hc1' ⊢
  have HK : Hid _ := hk
  have HK' : Hid _ := hk'
  clear hk hk' h1 h2 hc2 hc2' hkey hat hlen
  go_enter Tryz.func12, Tryz.ntmps12
  go_wp2
  go_loopw [5] (fun i wr => ∃ k : Nat, k ≤ l.length ∧ i = .int .i64 k ∧ Below w.heap.size w wr) (fun i _ => l.length - (intOf i).toNat)
  case atStart => exact ⟨0, Nat.zero_le _, rfl, Below.refl _ _⟩
  case round =>
    obtain ⟨k, hk, rfl, bel⟩ := hrel
    by_cases hlt : k < l.length
    · have hlt' : (k : Int) < (l.length : Int) := by omega
      have hk0 : (0 : Int) ≤ (k : Int) := by omega
      obtain ⟨g, off, rfl, hg, hKS⟩ := HK.out (by omega)
      obtain ⟨g', off', rfl, hg', hKS'⟩ := HK'.out (by omega)
      have HL1 : Hid (∀ u, Below w.heap.size w u → (loadVar 28 ⟨g, off + k * 2, none⟩).run Tryz.prog u = .ok (.agg (atF l k).cells.toArray) u) := fun u hu => load_Fac (range_below (hKS k hlt) hu hg) rfl
      have HL2 : Hid (∀ u, Below w.heap.size w u → (loadVar 28 ⟨g', off' + k * 2, none⟩).run Tryz.prog u = .ok (.agg (atF m k).cells.toArray) u) := fun u hu => load_Fac (range_below (hKS' k hlt) hu hg') rfl
      have HI : Hid _ := HC.out k hlt
      generalize Value.agg (atF l k).cells.toArray = QV at HL1 HI
      generalize Value.agg (atF m k).cells.toArray = RV at HL2 HI
      have hl1 : ∀ u, Below w.heap.size w u → (loadVar 28 ⟨g, off + k * 2, none⟩).run Tryz.prog u = .ok QV u := HL1.out
      have hl2 : ∀ u, Below w.heap.size w u → (loadVar 28 ⟨g', off' + k * 2, none⟩).run Tryz.prog u = .ok RV u := HL2.out
      have hS0 := bel
      clear hKS hKS' HL1 HL2
      go_wp2_with fail
      go_region_held3 (fun u => (Below w.heap.size w u))
        (first
          | assumption
          | exact bel.drew)
        (first
          | (go_at_call 35; refine Calls.mono (HI.out _ (by first | assumption | exact bel.drew)) ?_; rintro ee w2 ⟨rfl, b2⟩; have b2' : Below w.heap.size w w2 := next_ofS (by first | assumption | exact bel.drew) b2)
          | fail)
      go_wp2
      go_roundw
      case rel => exact ⟨k + 1, by omega, by go_num, b2'⟩
      case measure => simp [intOf]; omega
    · obtain rfl : k = l.length := by omega
      go_wp2
      go_ret
      exact ⟨rfl, bel⟩
end Go.Proofs.YtoagnkbmeafmoaaGreatDoor
