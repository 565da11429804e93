import Derived.Test.YtoppgalbmijhdaaGreatDoorFaLeft
namespace Go.Proofs.YtoppgalbmijhdaaGreatDoor
open Go.RowKit Go.Maps
set_option linter.unusedVariables false
set_option linter.unusedSimpArgs false
attribute [local go_sem ↓] Go.wp_at_zero Go.wp_at_succ

theorem wrap_mid {d : Int} (h0 : -1000 ≤ d) (h1 : d ≤ 300000000000000) : IntKind.i64.wrap d = d := by simp [IntKind.wrap, IntKind.bits, IntKind.signed]; omega
theorem takeFl {l : List XF} {k : Nat} (h : k < l.length) : l.take (k + 1) = l.take k ++ [atF l k] := by rw [List.take_add_one, List.getElem?_eq_getElem h, atF_eq h]; rfl
set_option maxHeartbeats 1600000 in
theorem beyondFacts_any (v : Value) (l : List XF) (w : World) (hll : l.length ≤ 281474976710656) (hL : Lf w v l) :
    Calls Tryz.prog 4 #[v] w fun e w' => ∃ b : Bool, e = .returned (.bool b) ∧ Below w.heap.size w w' ∧ (b = false → smallF l) := by
  have HLn : Hid (∀ i, i < l.length → (atF l i).vs.length ≤ 281474976710656) := fun i hi => (hL.each i hi).ln
  obtain ⟨a, c, rfl, hc1, hc2, hk⟩ := hL.form
  have HK : Hid _ := hk
  clear hk hL hc2
  go_enter Tryz.func4, Tryz.ntmps4
  go_wp2
  go_loopw [3, 4] (fun n i wr => ∃ (k : Nat) (m : Int), k ≤ l.length ∧ i = .int .i64 k ∧ n = .int .i64 m ∧ 0 ≤ m ∧ m ≤ 1048576 ∧ Below w.heap.size w wr ∧ Hid ((k : Int) + (((l.take k).flatMap XF.vs).length : Int) ≤ m ∧ ∀ i, i < k → (atF l i).vs.length ≤ 1048576)) (fun _ i _ => l.length - (intOf i).toNat)
  case atStart => exact ⟨0, 0, Nat.zero_le _, rfl, rfl, by omega, by omega, Below.refl _ _, by simp, fun i hi => absurd hi (by omega)⟩
  case round =>
    obtain ⟨k, m, hk, rfl, rfl, hm0, hm1, bel, HS⟩ := hrel
    by_cases hlt : k < l.length
    · have hlt' : (k : Int) < (l.length : Int) := by omega
      obtain ⟨g, off, rfl, hg, hKS⟩ := HK.out (by omega)
      have x1 : wr.cell? ⟨g, off + k * 2 + 1, none⟩ = some (.slice (atF l k).a (atF l k).vs.length (atF l k).c) := (range_below (hKS k hlt) bel hg) 1 _ rfl
      have hn := HLn.out k hlt
      have HTk : Hid _ := takeFl hlt
      obtain ⟨q, hq⟩ : ∃ q, (atF l k).vs.length = q := ⟨_, rfl⟩
      rw [hq] at x1 hn
      have HQ : Hid _ := hq
      generalize (atF l k).a = fa at x1
      generalize (atF l k).c = fc at x1
      have hw1 : IntKind.i64.wrap (m + 1) = m + 1 := wrap_mid (by omega) (by omega)
      have hw2 : IntKind.i64.wrap (m + 1 + (q : Int)) = m + 1 + (q : Int) := wrap_mid (by omega) (by omega)
      clear hKS hq
      by_cases hbig : (1048576 : Int) < m + 1 + (q : Int)
      · go_wp2
        go_ret
        exact ⟨_, rfl, bel, fun h => by cases h⟩
      · have hbig' : ¬ (1048576 : Int) < m + 1 + (q : Int) := hbig
        go_wp2
        go_roundw
        case rel =>
          refine ⟨k + 1, m + 1 + (q : Int), by omega, by go_num, rfl, by omega, by omega, bel, ?_, fun i hi => ?_⟩
          · have h1 := HS.out.1
            have h2 := HQ.out
            rw [HTk.out, List.flatMap_append, List.length_append]
            simp only [List.flatMap_cons, List.flatMap_nil, List.append_nil]
            omega
          · by_cases e : i = k
            · rw [e, HQ.out]; omega
            · exact HS.out.2 i (by omega)
        case measure => simp [intOf]; omega
    · obtain rfl : k = l.length := by omega
      rw [List.take_length] at HS
      go_wp2
      go_ret
      exact ⟨_, rfl, bel, fun _ => ⟨by have := HS.out.1; omega, HS.out.2, by have := HS.out.1; omega⟩⟩
end Go.Proofs.YtoppgalbmijhdaaGreatDoor
