import Derived.Test.YtaeneiekjaoakaaGreatDoorPrintR
import Derived.Test.YtaeneiekjaoakaaGreatDoorPrintO
namespace Go.Proofs.YtaeneiekjaoakaaGreatDoor
open Go.RowKit Go.Maps
set_option linter.unusedVariables false
set_option linter.unusedSimpArgs false
attribute [local go_sem ↓] Go.wp_at_zero Go.wp_at_succ

def preT (p : ByteArray) (ts : List T) (k : Nat) : List UInt8 := p.data.toList ++ [40] ++ upT ts k
def strT (t : T) : List Value := [.string (termS t)]
theorem txt_bytes (s : ByteArray) : txt s.data.toList = s := arr_bytes s rfl
theorem txt_term (t : T) : txt (termT t) = termS t := termS_eq t
theorem preT_le (p : ByteArray) {ts : List T} {k : Nat} (h : k ≤ ts.length) (h0 : ts.length ≠ 0) : (preT p ts k).length < (atomT p ts).length := by
  have h1 := upT_le ts k (ts.length - k)
  rw [show k + (ts.length - k) = ts.length by omega] at h1
  unfold preT atomT colT
  rw [if_neg h0]
  simp only [List.length_append, List.length_cons, List.length_nil]
  omega
theorem preT_end (p : ByteArray) {ts : List T} (h0 : ts.length ≠ 0) : preT p ts ts.length ++ [41] = atomT p ts := by
  unfold preT atomT colT
  rw [if_neg h0]
  simp only [List.append_assoc]
theorem preT_zero (p : ByteArray) (ts : List T) : p ++ (⟨#[40]⟩ : ByteArray) = txt (preT p ts 0) := by
  conv => lhs; rw [← txt_bytes p, txt_one, txt_app]
  simp [preT, upT]
set_option maxHeartbeats 1600000 in
theorem r6columns_any (pr : ByteArray) (v : Value) (ts : List T) (w : World) (hlen : (atomT pr ts).length ≤ 1000000000) (hl : Ls w v ts.length (ts.flatMap strT)) :
    Calls Tryz.prog 39 #[.string pr, v] w fun r w' => r = .returned (.string (txt (atomT pr ts))) ∧ w' = w := by
  obtain ⟨hmax, a, c, rfl, hc1, hc2, hk⟩ := hl
  unfold maxLen at hmax
  by_cases h0 : ts.length = 0
  · have e0 : txt (atomT pr ts) = pr := by unfold atomT colT; rw [if_pos h0, List.append_nil, txt_bytes]
    rw [e0]
    have h0' : ((ts.length : Nat) : Int) = 0 := by omega
    clear hk e0
    go_enter Tryz.func39, Tryz.ntmps39
    go_wp2
    go_ret
    exact ⟨rfl, rfl⟩
  · obtain ⟨g, off, rfl, hg, hf⟩ := hk (by omega)
    have hF : Hid (∀ k, k < ts.length → w.cell? ⟨g, off + k, none⟩ = some (.string (termS (atT ts k)))) := fun k hk => by
      have := hf.elem (k := 1) (fun _ => rfl) T0 (j := 0) hk (by decide) (u := .string (termS (atT ts k))) rfl
      simpa using this
    have h0' : ¬ ((ts.length : Nat) : Int) = 0 := by omega
    have HLn : Hid _ := hlen
    have HN0 : Hid (ts.length ≠ 0) := h0
    have hz := preT_zero pr ts
    have hps : pr.size ≤ 1000000000 := by
      have : pr.size ≤ (atomT pr ts).length := by unfold atomT; rw [List.length_append, len_toList]; omega
      omega
    obtain ⟨S0, hS0⟩ : ∃ S0, txt (preT pr ts 0) = S0 := ⟨_, rfl⟩
    rw [hS0] at hz
    have HS0 : Hid _ := hS0
    obtain ⟨SE, hSE⟩ : ∃ SE, txt (atomT pr ts) = SE := ⟨_, rfl⟩
    rw [hSE]
    have HSE : Hid _ := hSE
    clear hf hk hlen h0 hS0 hSE
    go_enter Tryz.func39, Tryz.ntmps39
    go_wp2
    go_loopw [5, 6] (fun s i wr => ∃ k : Nat, k ≤ ts.length ∧ i = .int .i64 k ∧ ∃ S, s = .string S ∧ Hid (txt (preT pr ts k) = S) ∧ Hid (wr = w)) (fun _ i _ => ts.length - (intOf i).toNat)
    case atStart => exact ⟨0, Nat.zero_le _, rfl, S0, rfl, HS0, rfl⟩
    case round =>
      obtain ⟨k, hk, rfl, S, rfl, HS, HW⟩ := hrel
      clear hz HS0 hps
      have hss : S.size ≤ 1000000000 := by
        rw [← HS.out, txt_size]
        have := preT_le pr hk HN0.out
        have := HLn.out
        omega
      by_cases hlt : k < ts.length
      · have hlt' : (k : Int) < (ts.length : Int) := by omega
        have hc : wr.cell? ⟨g, off + k, none⟩ = some (.string (termS (atT ts k))) := by rw [HW.out]; exact hF.out k hlt
        have HU : Hid (preT pr ts (k + 1) = preT pr ts k ++ ((if k = 0 then [] else [44, 32]) ++ termT (atT ts k))) := by show _ = _; unfold preT; rw [upT]; simp only [List.append_assoc]
        have HT : Hid _ := txt_term (atT ts k)
        have HLe : Hid _ := preT_le pr (k := k + 1) hlt HN0.out
        generalize atT ts k = t at hc HU HT
        have hts : (termS t).size ≤ 1000000000 := by
          rw [← HT.out, txt_size]
          have h1 := HLe.out
          have h2 := HLn.out
          have h3 := congrArg List.length HU.out
          rw [List.length_append, List.length_append] at h3
          omega
        by_cases k0 : k = 0
        · have k0' : ¬ (0 : Int) < (k : Int) := by omega
          have hadd : S ++ termS t = txt (preT pr ts (k + 1)) := by rw [HU.out, if_pos k0, List.nil_append, ← HS.out, ← HT.out, txt_app]
          obtain ⟨S2, hS2⟩ : ∃ S2, txt (preT pr ts (k + 1)) = S2 := ⟨_, rfl⟩
          rw [hS2] at hadd
          have HS2 : Hid _ := hS2
          clear hS2 k0 HU HLe
          go_wp2
          go_roundw
          case rel => exact ⟨k + 1, by omega, by go_num, S2, rfl, HS2, HW⟩
          case measure => simp [intOf]; omega
        · have k0' : (0 : Int) < (k : Int) := by omega
          have hadd1 : S ++ (⟨#[44, 32]⟩ : ByteArray) = txt (preT pr ts k ++ [44, 32]) := by rw [← HS.out, show (⟨#[44, 32]⟩ : ByteArray) = txt [44, 32] from rfl, txt_app]
          have hadd : txt (preT pr ts k ++ [44, 32]) ++ termS t = txt (preT pr ts (k + 1)) := by rw [HU.out, if_neg k0, ← HT.out, txt_app]; simp only [List.append_assoc]
          obtain ⟨S2, hS2⟩ : ∃ S2, txt (preT pr ts (k + 1)) = S2 := ⟨_, rfl⟩
          obtain ⟨S1, hS1⟩ : ∃ S1, txt (preT pr ts k ++ [44, 32]) = S1 := ⟨_, rfl⟩
          have hs1 : S1.size ≤ 1000000010 := by
            rw [← hS1, txt_size, List.length_append, ← txt_size, HS.out]
            simp only [List.length_cons, List.length_nil]
            omega
          rw [hS2, hS1] at hadd
          rw [hS1] at hadd1
          have HS2 : Hid _ := hS2
          clear hS2 hS1 k0 HU HLe
          go_wp2
          go_roundw
          case rel => exact ⟨k + 1, by omega, by go_num, S2, rfl, HS2, HW⟩
          case measure => simp [intOf]; omega
      · obtain rfl : k = ts.length := by omega
        have hadd : S ++ (⟨#[41]⟩ : ByteArray) = SE := by rw [← HSE.out, ← preT_end pr HN0.out, ← HS.out, txt_one, txt_app]
        go_wp2
        go_ret
        exact ⟨rfl, HW.out⟩
end Go.Proofs.YtaeneiekjaoakaaGreatDoor
