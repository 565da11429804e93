import Derived.Test.YtpnmepabecbgcaaDoorLexLent
import Derived.Deep.QuietTactic
import Derived.BigQuiet
namespace Go.Proofs.YtpnmepabecbgcaaDoor
open Go.RowKit Go.Maps
set_option linter.unusedVariables false
set_option linter.unusedSimpArgs false
attribute [local go_sem ↓] Go.wp_at_zero Go.wp_at_succ

theorem TL_lit (w : World) (k n a : Int) (s : ByteArray) : TL (w.alloc (.cells #[.int .i8 k, .string s, .int .i64 n, .int .i64 a] 38)) (some ⟨w.heap.size, 0, none⟩) [⟨k, s.data.toList, n, a⟩] := by
  intro i t hi
  have h0 : i = 0 := by
    have := (List.getElem?_eq_some_iff.1 hi).1
    simpa using this
  subst h0
  obtain rfl : (⟨k, s.data.toList, n, a⟩ : Tk) = t := by simpa using hi
  refine ⟨w.heap.size, 0, rfl, ?_, ?_, ?_, ?_⟩ <;> go_simp
set_option maxHeartbeats 1600000 in
theorem beyond_any (ts : List Tk) (w : World) (a : Option Addr) (c : Nat) (hlen : ts.length ≤ maxLen) (hl : TL w a ts) (hts : ∀ t ∈ ts, t.ok) :
    Calls Tryd.prog 4 #[.slice a ts.length c] w fun e w' => (∃ b, e = .returned (.bool b) ∧ (b = false → ts.length ≤ 2147483647)) ∧ w' = w := by
  unfold maxLen at hlen
  have HL : Hid (TL w a ts) := hl
  have HTS : Hid (∀ t ∈ ts, t.ok) := hts
  clear hl hts
  go_enter Tryd.func4, Tryd.ntmps4
  go_wp2
  go_loop [3, 4] (fun n i => ∃ k m : Nat, k ≤ ts.length ∧ k ≤ m ∧ m ≤ 2147483647 ∧ n = .int .i64 m ∧ i = .int .i64 k) (fun _ i => ts.length - (intOf i).toNat)
  case atStart => exact ⟨0, 0, by omega, by omega, by omega, rfl, rfl⟩
  case round =>
    obtain ⟨k, m, hk, hkm, hm, rfl, rfl⟩ := hrel
    by_cases hlt : k < ts.length
    · have hlt' : (k : Int) < (ts.length : Int) := by omega
      obtain ⟨t, ht⟩ : ∃ t, ts[k]? = some t := ⟨_, List.getElem?_eq_getElem hlt⟩
      have hsz := (HTS.out t (List.mem_of_getElem? ht)).text
      unfold maxLen at hsz
      obtain ⟨g, off, rfl, c0, c1, c2, c3⟩ := HL.out k t ht
      have hs2 : (⟨t.s.toArray⟩ : ByteArray).size ≤ 9223372036854775807 := by rw [size_mk]; exact hsz
      generalize (⟨t.s.toArray⟩ : ByteArray) = tsb at *
      clear hsz c0 c2 c3 ht
      by_cases hb : tsb.size + m < 2147483647
      · have hb' : (tsb.size : Int) < 2147483647 - (m : Int) := by omega
        go_wp2
        go_round
        case rel => exact ⟨k + 1, m + 1 + tsb.size, by omega, by omega, by omega, by go_num, by go_num⟩
        case measure => simp [intOf]; omega
      · have hb' : (2147483647 : Int) - (m : Int) ≤ (tsb.size : Int) := by omega
        go_wp2
        go_ret
        exact ⟨.inr rfl, rfl⟩
    · obtain rfl : k = ts.length := by omega
      go_wp2
      go_ret
      exact ⟨.inl ⟨rfl, by omega⟩, rfl⟩
end Go.Proofs.YtpnmepabecbgcaaDoor
