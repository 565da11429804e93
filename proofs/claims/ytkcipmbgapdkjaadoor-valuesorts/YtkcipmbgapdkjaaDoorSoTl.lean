import Derived.Test.YtkcipmbgapdkjaaDoorSoTw
import Derived.Test.YtkcipmbgapdkjaaDoorFaBeyond
namespace Go.Proofs.YtkcipmbgapdkjaaDoor
open Go.RowKit Go.Maps
set_option linter.unusedVariables false
set_option linter.unusedSimpArgs false
attribute [local go_sem ↓] Go.wp_at_zero Go.wp_at_succ

set_option maxHeartbeats 1600000 in
theorem beyondTuples_any (v : Value) (l : List XF) (w : World) (hll : l.length ≤ 281474976710656) (hL : Lu w v l) :
    Calls Tryd.prog 4 #[v] w fun e w' => ∃ b : Bool, e = .returned (.bool b) ∧ Below w.heap.size w w' ∧ (b = false → smallF l) := by
  have HLn : Hid (∀ i, i < l.length → (atF l i).vs.length ≤ 281474976710656) := fun i hi => (hL.at hi).1.ln
  obtain ⟨a, c, rfl, hc1, hc2, hk⟩ := hL.form
  have HK : Hid _ := hk
  clear hk hL hc2
  go_enter Tryd.func4, Tryd.ntmps4
  go_wp2
  go_loopw [3, 4] (fun n i wr => ∃ (k : Nat) (m : Int), k ≤ l.length ∧ i = .int .i64 k ∧ n = .int .i64 m ∧ 0 ≤ m ∧ m ≤ 1048576 ∧ Below w.heap.size w wr ∧ Hid ((k : Int) + (((l.take k).flatMap XF.vs).length : Int) ≤ m ∧ ∀ i, i < k → (atF l i).vs.length ≤ 1048576)) (fun _ i _ => l.length - (intOf i).toNat)
  case atStart => exact ⟨0, 0, Nat.zero_le _, rfl, rfl, by omega, by omega, Below.refl _ _, by simp, fun i hi => absurd hi (by omega)⟩
  case round =>
    obtain ⟨k, m, hk, rfl, rfl, hm0, hm1, bel, HS⟩ := hrel
    by_cases hlt : k < l.length
    · have hlt' : (k : Int) < (l.length : Int) := by omega
      obtain ⟨g, off, rfl, hg, hKS⟩ := HK.out (by omega)
      have x1 : wr.cell? ⟨g, off + k, none⟩ = some (.slice (atF l k).a (atF l k).vs.length (atF l k).c) := by rw [bel.cell (p := ⟨g, off + k, none⟩) hg]; exact hKS k hlt
      have hn := HLn.out k hlt
      have HTk : Hid _ := takeFl hlt
      obtain ⟨q, hq⟩ : ∃ q, (atF l k).vs.length = q := ⟨_, rfl⟩
      rw [hq] at x1 hn
      have HQ : Hid _ := hq
      generalize (atF l k).a = fa at x1
      generalize (atF l k).c = fc at x1
      have hw1 : IntKind.i64.wrap (m + 1) = m + 1 := wrap_mid (by omega) (by omega)
      have hw2 : IntKind.i64.wrap (m + 1 + (q : Int)) = m + 1 + (q : Int) := wrap_mid (by omega) (by omega)
      clear hKS hq
      by_cases hbig : (1048576 : Int) < m + 1 + (q : Int)
      · go_wp2
        go_ret
        exact ⟨_, rfl, bel, fun h => by cases h⟩
      · have hbig' : ¬ (1048576 : Int) < m + 1 + (q : Int) := hbig
        go_wp2
        go_roundw
        case rel =>
          refine ⟨k + 1, m + 1 + (q : Int), by omega, by go_num, rfl, by omega, by omega, bel, ?_, fun i hi => ?_⟩
          · have h1 := HS.out.1
            have h2 := HQ.out
            rw [HTk.out, List.flatMap_append, List.length_append]
            simp only [List.flatMap_cons, List.flatMap_nil, List.append_nil]
            omega
          · by_cases e : i = k
            · rw [e, HQ.out]; omega
            · exact HS.out.2 i (by omega)
        case measure => simp [intOf]; omega
    · obtain rfl : k = l.length := by omega
      rw [List.take_length] at HS
      go_wp2
      go_ret
      exact ⟨_, rfl, bel, fun _ => ⟨by have := HS.out.1; omega, HS.out.2, by have := HS.out.1; omega⟩⟩
attribute [-go_sem] loadVar storeVar
set_option maxHeartbeats 3200000 in
theorem leftT_any (l l' : List XF) (a a0 : Option Addr) (c c0 lo : Nat) (w : World) (hl' : l'.length = l.length) (hx' : ∀ i, i < l.length → LikeF (atF l i) (atF l' i)) (hsm : smallF l) (hW : TwU w lo l' a c) (hL : Lu w (.slice a0 l.length c0) l) :
    Calls Tryd.prog 12 #[.slice a l.length c, .slice a0 l.length c0] w fun r w' => r = .returned (.bool true) ∧ Below w.heap.size w w' := by
  have hll := hsm.len
  have HC : Hid (∀ i, i < l.length → ∀ u, Below w.heap.size w u → Calls Tryd.prog 26 #[(atF l' i).tcell, (atF l i).tcell] u fun r w' => r = .returned (.bool true) ∧ Below u.heap.size u w') := fun i hi u hu => by
    have h1 : TwV u lo (atF l' i).vs (atF l' i).a (atF l' i).c := TwF.below (hW.each i (by omega)) hu
    have h2 := ((hL.at hi).1.below hu).vs
    unfold XF.tcell
    rw [(hx' i hi).vs] at h1 ⊢
    exact leftV_any _ _ _ _ _ _ u (hsm.each i hi) h1 h2
  obtain ⟨a1, c1, e1, hc1, hc2, hk⟩ := hL.form
  cases e1
  have hcap := hW.cap
  obtain ⟨g, m, rfl, hg, hm, hmr, hmk, hks⟩ := hW.lies
  rw [hl'] at hcap hmk
  subst hcap
  have HK : Hid _ := hk
  have HKS : Hid (∀ i, i < l.length → w.cell? ⟨g, i, none⟩ = some (atF l' i).tcell) := fun i hi => hks i (by omega)
  have HMK : Hid (w.cell? ⟨g, l.length, none⟩ = some (.slice (some ⟨m, 0, none⟩) 1 1)) := hmk
  have HMR : Hid (∀ u, Below w.heap.size w u → u.rangeAt m 0 mkV) := fun u hu => range_below hmr hu hm
  clear hmk hL hW hk hks hsm hx' hl' hc1 hc2 hmr
  go_enter Tryd.func12, Tryd.ntmps12
  go_wp2
  go_loopw [5] (fun i wr => ∃ k : Nat, k ≤ l.length ∧ i = .int .i64 k ∧ Below w.heap.size w wr) (fun i _ => l.length - (intOf i).toNat)
  case atStart => exact ⟨0, Nat.zero_le _, rfl, Below.refl _ _⟩
  case round =>
    obtain ⟨k, hk, rfl, bel⟩ := hrel
    by_cases hlt : k < l.length
    · have hlt' : (k : Int) < (l.length : Int) := by omega
      have hk0 : (0 : Int) ≤ (k : Int) := by omega
      obtain ⟨g', off, rfl, hg', hKS⟩ := HK.out (by omega)
      have HL1 : Hid (∀ u, Below w.heap.size w u → (loadVar 31 ⟨g, k, none⟩).run Tryd.prog u = .ok (atF l' k).tcell u) := fun u hu => load_Tup (by rw [hu.cell (p := ⟨g, k, none⟩) hg]; exact HKS.out k hlt)
      have HL2 : Hid (∀ u, Below w.heap.size w u → (loadVar 31 ⟨g', off + k, none⟩).run Tryd.prog u = .ok (atF l k).tcell u) := fun u hu => load_Tup (by rw [hu.cell (p := ⟨g', off + k, none⟩) hg']; exact hKS k hlt)
      have HI : Hid _ := HC.out k hlt
      generalize (atF l' k).tcell = QV at HL1 HI
      generalize (atF l k).tcell = RV at HL2 HI
      have hl1 : ∀ u, Below w.heap.size w u → (loadVar 31 ⟨g, k, none⟩).run Tryd.prog u = .ok QV u := HL1.out
      have hl2 : ∀ u, Below w.heap.size w u → (loadVar 31 ⟨g', off + k, none⟩).run Tryd.prog u = .ok RV u := HL2.out
      have hS0 := bel
      clear hKS HL1 HL2
      go_wp2_with fail
      go_region_held3 (fun u => (Below w.heap.size w u))
        (first
          | assumption
          | exact bel.drew)
        (first
          | (go_at_call 26; refine Calls.mono (HI.out _ (by first | assumption | exact bel.drew)) ?_; rintro ee w2 ⟨rfl, b2⟩; have b2' : Below w.heap.size w w2 := next_ofS (by first | assumption | exact bel.drew) b2)
          | fail)
      go_wp2
      go_roundw
      case rel => exact ⟨k + 1, by omega, by go_num, b2'⟩
      case measure => simp [intOf]; omega
    · obtain rfl : k = l.length := by omega
      have hld2 : (loadVar 31 ⟨g, l.length, none⟩).run Tryd.prog wr = .ok (.slice (some ⟨m, 0, none⟩) 1 1) wr := load_Tup (by rw [bel.cell (p := ⟨g, l.length, none⟩) hg]; exact HMK.out)
      have hMK : Hid _ := isMarkT_any wr m (HMR.out wr bel)
      have hk1 : (l.length : Int) < (l.length : Int) + 1 := by omega
      generalize Value.slice (some ⟨m, 0, none⟩) 1 1 = QV at hld2 hMK
      clear HMK HMR
      go_wp2_with fail
      refine Calls.mono hMK.out ?_
      rintro ee w2 ⟨rfl, b2⟩
      go_wp2
      go_ret
      exact ⟨rfl, bel.trans (b2.mono bel.size)⟩
set_option maxHeartbeats 3200000 in
theorem sameTs_same (v v' : Value) (l m : List XF) (w : World) (h1 : Lu w v l) (h2 : Lu w v' m) (hkey : l.map XF.key = m.map XF.key) :
    Calls Tryd.prog 10 #[v, v'] w fun r w' => r = .returned (.bool true) ∧ Below w.heap.size w w' := by
  obtain ⟨hlen, hat⟩ := keys_at hkey
  have HC : Hid (∀ i, i < l.length → ∀ u, Below w.heap.size w u → Calls Tryd.prog 22 #[(atF l i).tcell, (atF m i).tcell] u fun r w' => r = .returned (.bool true) ∧ Below u.heap.size u w') := fun i hi u hu => by
    have e : (atF l i).vs = (atF m i).vs := congrArg Prod.snd (hat i hi)
    have g1 := ((h1.at hi).1.below hu).vs
    have g2 := ((h2.at (show i < m.length by omega)).1.below hu).vs
    unfold XF.tcell
    rw [← e] at g2 ⊢
    exact sameV_same _ _ _ u g1 g2
  obtain ⟨a, c, rfl, hc1, hc2, hk⟩ := h1.form
  obtain ⟨a', c', rfl, hc1', hc2', hk'⟩ := h2.form
  have hmax : l.length ≤ maxLen := Nat.le_trans hc1 hc2
  unfold maxLen at hmax
  rw [hlen] at hk' hc1' ⊢
  have HK : Hid _ := hk
  have HK' : Hid _ := hk'
  clear hk hk' h1 h2 hc2 hc2' hkey hat hlen
  go_enter Tryd.func10, Tryd.ntmps10
  go_wp2
  go_loopw [5] (fun i wr => ∃ k : Nat, k ≤ l.length ∧ i = .int .i64 k ∧ Below w.heap.size w wr) (fun i _ => l.length - (intOf i).toNat)
  case atStart => exact ⟨0, Nat.zero_le _, rfl, Below.refl _ _⟩
  case round =>
    obtain ⟨k, hk, rfl, bel⟩ := hrel
    by_cases hlt : k < l.length
    · have hlt' : (k : Int) < (l.length : Int) := by omega
      have hk0 : (0 : Int) ≤ (k : Int) := by omega
      obtain ⟨g, off, rfl, hg, hKS⟩ := HK.out (by omega)
      obtain ⟨g', off', rfl, hg', hKS'⟩ := HK'.out (by omega)
      have HL1 : Hid (∀ u, Below w.heap.size w u → (loadVar 31 ⟨g, off + k, none⟩).run Tryd.prog u = .ok (atF l k).tcell u) := fun u hu => load_Tup (by rw [hu.cell (p := ⟨g, off + k, none⟩) hg]; exact hKS k hlt)
      have HL2 : Hid (∀ u, Below w.heap.size w u → (loadVar 31 ⟨g', off' + k, none⟩).run Tryd.prog u = .ok (atF m k).tcell u) := fun u hu => load_Tup (by rw [hu.cell (p := ⟨g', off' + k, none⟩) hg']; exact hKS' k hlt)
      have HI : Hid _ := HC.out k hlt
      generalize (atF l k).tcell = QV at HL1 HI
      generalize (atF m k).tcell = RV at HL2 HI
      have hl1 : ∀ u, Below w.heap.size w u → (loadVar 31 ⟨g, off + k, none⟩).run Tryd.prog u = .ok QV u := HL1.out
      have hl2 : ∀ u, Below w.heap.size w u → (loadVar 31 ⟨g', off' + k, none⟩).run Tryd.prog u = .ok RV u := HL2.out
      have hS0 := bel
      clear hKS hKS' HL1 HL2
      go_wp2_with fail
      go_region_held3 (fun u => (Below w.heap.size w u))
        (first
          | assumption
          | exact bel.drew)
        (first
          | (go_at_call 22; refine Calls.mono (HI.out _ (by first | assumption | exact bel.drew)) ?_; rintro ee w2 ⟨rfl, b2⟩; have b2' : Below w.heap.size w w2 := next_ofS (by first | assumption | exact bel.drew) b2)
          | fail)
      go_wp2
      go_roundw
      case rel => exact ⟨k + 1, by omega, by go_num, b2'⟩
      case measure => simp [intOf]; omega
    · obtain rfl : k = l.length := by omega
      go_wp2
      go_ret
      exact ⟨rfl, bel⟩
set_option maxHeartbeats 3200000 in
theorem sameFs_same (v v' : Value) (l m : List XF) (w : World) (h1 : Lf w v l) (h2 : Lf w v' m) (hkey : l.map XF.key = m.map XF.key) :
    Calls Tryd.prog 13 #[v, v'] w fun r w' => r = .returned (.bool true) ∧ Below w.heap.size w w' := by
  obtain ⟨hlen, hat⟩ := keys_at hkey
  have HC : Hid (∀ i, i < l.length → ∀ u, Below w.heap.size w u → Calls Tryd.prog 28 #[.agg (atF l i).cells.toArray, .agg (atF m i).cells.toArray] u fun r w' => r = .returned (.bool true) ∧ Below u.heap.size u w') := fun i hi u hu => sameF_same _ _ u ((h1.each i hi).below hu) ((h2.each i (by omega)).below hu) (hat i hi)
  obtain ⟨a, c, rfl, hc1, hc2, hk⟩ := h1.form
  obtain ⟨a', c', rfl, hc1', hc2', hk'⟩ := h2.form
  have hmax : l.length ≤ maxLen := Nat.le_trans hc1 hc2
  unfold maxLen at hmax
  rw [hlen] at hk' hc1' ⊢
  have HK : Hid _ := hk
  have HK' : Hid _ := hk'
  clear hk hk' h1 h2 hc2 hc2' hkey hat hlen
  go_enter Tryd.func13, Tryd.ntmps13
  go_wp2
  go_loopw [5] (fun i wr => ∃ k : Nat, k ≤ l.length ∧ i = .int .i64 k ∧ Below w.heap.size w wr) (fun i _ => l.length - (intOf i).toNat)
  case atStart => exact ⟨0, Nat.zero_le _, rfl, Below.refl _ _⟩
  case round =>
    obtain ⟨k, hk, rfl, bel⟩ := hrel
    by_cases hlt : k < l.length
    · have hlt' : (k : Int) < (l.length : Int) := by omega
      have hk0 : (0 : Int) ≤ (k : Int) := by omega
      obtain ⟨g, off, rfl, hg, hKS⟩ := HK.out (by omega)
      obtain ⟨g', off', rfl, hg', hKS'⟩ := HK'.out (by omega)
      have HL1 : Hid (∀ u, Below w.heap.size w u → (loadVar 33 ⟨g, off + k * 2, none⟩).run Tryd.prog u = .ok (.agg (atF l k).cells.toArray) u) := fun u hu => load_Fac (range_below (hKS k hlt) hu hg) rfl
      have HL2 : Hid (∀ u, Below w.heap.size w u → (loadVar 33 ⟨g', off' + k * 2, none⟩).run Tryd.prog u = .ok (.agg (atF m k).cells.toArray) u) := fun u hu => load_Fac (range_below (hKS' k hlt) hu hg') rfl
      have HI : Hid _ := HC.out k hlt
      generalize Value.agg (atF l k).cells.toArray = QV at HL1 HI
      generalize Value.agg (atF m k).cells.toArray = RV at HL2 HI
      have hl1 : ∀ u, Below w.heap.size w u → (loadVar 33 ⟨g, off + k * 2, none⟩).run Tryd.prog u = .ok QV u := HL1.out
      have hl2 : ∀ u, Below w.heap.size w u → (loadVar 33 ⟨g', off' + k * 2, none⟩).run Tryd.prog u = .ok RV u := HL2.out
      have hS0 := bel
      clear hKS hKS' HL1 HL2
      go_wp2_with fail
      go_region_held3 (fun u => (Below w.heap.size w u))
        (first
          | assumption
          | exact bel.drew)
        (first
          | (go_at_call 28; refine Calls.mono (HI.out _ (by first | assumption | exact bel.drew)) ?_; rintro ee w2 ⟨rfl, b2⟩; have b2' : Below w.heap.size w w2 := next_ofS (by first | assumption | exact bel.drew) b2)
          | fail)
      go_wp2
      go_roundw
      case rel => exact ⟨k + 1, by omega, by go_num, b2'⟩
      case measure => simp [intOf]; omega
    · obtain rfl : k = l.length := by omega
      go_wp2
      go_ret
      exact ⟨rfl, bel⟩
end Go.Proofs.YtkcipmbgapdkjaaDoor
