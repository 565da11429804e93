import Derived.Test.YtifbbhgihdmhjaaDoorLexLent
import Derived.Deep.QuietTactic
import Derived.BigQuiet
namespace Go.Proofs.YtifbbhgihdmhjaaDoor
open Go.RowKit Go.Maps
set_option linter.unusedVariables false
set_option linter.unusedSimpArgs false
attribute [local go_sem ↓] Go.wp_at_zero Go.wp_at_succ

set_option maxHeartbeats 1600000 in
theorem beyond_any (ts : List Tk) (w : World) (a : Option Addr) (c : Nat) (hlen : ts.length ≤ maxLen) (hl : TL w a ts) (hts : ∀ t ∈ ts, t.ok) :
    Calls Tryd.prog 4 #[.slice a ts.length c] w fun e w' => (∃ b, e = .returned (.bool b) ∧ (b = false → ts.length ≤ 2147483647)) ∧ w' = w := by
  unfold maxLen at hlen
  have HL : Hid (TL w a ts) := hl
  have HTS : Hid (∀ t ∈ ts, t.ok) := hts
  clear hl hts
  go_enter Tryd.func4, Tryd.ntmps4
  go_wp2
  go_loop [3, 4] (fun n i => ∃ k m : Nat, k ≤ ts.length ∧ k ≤ m ∧ m ≤ 2147483647 ∧ n = .int .i64 m ∧ i = .int .i64 k) (fun _ i => ts.length - (intOf i).toNat)
  case atStart => exact ⟨0, 0, by omega, by omega, by omega, rfl, rfl⟩
  case round =>
    obtain ⟨k, m, hk, hkm, hm, rfl, rfl⟩ := hrel
    by_cases hlt : k < ts.length
    · have hlt' : (k : Int) < (ts.length : Int) := by omega
      obtain ⟨t, ht⟩ : ∃ t, ts[k]? = some t := ⟨_, List.getElem?_eq_getElem hlt⟩
      have hsz := (HTS.out t (List.mem_of_getElem? ht)).text
      unfold maxLen at hsz
      obtain ⟨g, off, rfl, c0, c1, c2, c3⟩ := HL.out k t ht
      have hs2 : (⟨t.s.toArray⟩ : ByteArray).size ≤ 9223372036854775807 := by rw [size_mk]; exact hsz
      generalize (⟨t.s.toArray⟩ : ByteArray) = tsb at *
      clear hsz c0 c2 c3 ht
      by_cases hb : tsb.size + m < 2147483647
      · have hb' : (tsb.size : Int) < 2147483647 - (m : Int) := by omega
        go_wp2
        go_round
        case rel => exact ⟨k + 1, m + 1 + tsb.size, by omega, by omega, by omega, by go_num, by go_num⟩
        case measure => simp [intOf]; omega
      · have hb' : (2147483647 : Int) - (m : Int) ≤ (tsb.size : Int) := by omega
        go_wp2
        go_ret
        exact ⟨.inr rfl, rfl⟩
    · obtain rfl : k = ts.length := by omega
      go_wp2
      go_ret
      exact ⟨.inl ⟨rfl, by omega⟩, rfl⟩
def mark (i : Nat) : Tk := ⟨77, [], i, 0⟩
def marks (k : Nat) : List Tk := (List.range k).map mark
theorem marks_succ (k : Nat) : marks (k + 1) = marks k ++ [mark k] := by simp [marks, List.range_succ]
theorem marks_len (k : Nat) : (marks k).length = k := by simp [marks]
theorem TL_one (w : World) (k n a : Int) (s : ByteArray) : TL (w.alloc (.cells #[.int .i8 k, .string s, .int .i64 n, .int .i64 a] 32)) (some ⟨w.heap.size, 0, none⟩) [⟨k, s.data.toList, n, a⟩] := by
  intro i t hi
  have h0 : i = 0 := by
    have := (List.getElem?_eq_some_iff.1 hi).1
    simpa using this
  subst h0
  obtain rfl : (⟨k, s.data.toList, n, a⟩ : Tk) = t := by simpa using hi
  refine ⟨w.heap.size, 0, rfl, ?_, ?_, ?_, ?_⟩ <;> go_simp
theorem TL.app {w : World} {a : Option Addr} {ts us : List Tk} (h : TL w a (ts ++ us)) : TL w a ts := fun i t hi => h i t (by
  rw [List.getElem?_append_left (List.getElem?_eq_some_iff.1 hi).1]; exact hi)
set_option maxHeartbeats 1600000 in
theorem lent_any (ts : List Tk) (w : World) (a : Option Addr) (c : Nat) (hlen : ts.length ≤ 2147483647) (hl : TL w a ts) :
    Calls Tryd.prog 5 #[.slice a ts.length c] w fun e w' => ∃ g c', e = .returned (.slice (some ⟨g, 0, none⟩) ts.length c') ∧ w'.ownsRow w.heap.size 32 4 (.slice (some ⟨g, 0, none⟩) (ts.length + 9) c') (ts.length + 9) ((ts ++ marks 9).flatMap Tk.cells) ∧ Below w.heap.size w w' := by
  have HL : Hid (TL w a ts) := hl
  have HAL : Hid (∀ (u : World) o, Below u.heap.size u (u.alloc o)) := fun u o => (Below.refl _ _).alloc (Nat.le_refl _) _
  clear hl
  go_enter Tryd.func5, Tryd.ntmps5
  go_wp2_with (at_builtin; refine wpList_appT rfl (.tmp 5) (.tmp 6) rfl (b := w.heap.size) (v := .slice (some ⟨w.heap.size, 0, none⟩) 0 0) (n := 0) (xs := []) (ad := a) (c := c) (ts := ts) (by simp [Act.eval, Act.put]) (World.ownsRow_lit w #[] 0 (Nat.le_refl _) (by decide) rfl) (by simp [Act.eval, Act.put]) (HL.out.below (HAL.out _ _)) (by omega) (by simp) ?_; intro v1 w1 hown1 hg1 hl1)
  have hb1 : Below w.heap.size w w1 := (HAL.out w _).grown hg1 (by simp) (fun j hj => by simp [Value.ownBlock] at hj; omega)
  rw [Nat.zero_add, List.nil_append] at hown1
  clear hg1 hl1 HL
  go_loopw [3, 4] (fun m i wr => ∃ k : Nat, k ≤ 9 ∧ i = .int .i64 k ∧ Below w.heap.size w wr ∧ wr.ownsRow w.heap.size 32 4 m (ts.length + k) ((ts ++ marks k).flatMap Tk.cells)) (fun _ i _ => 9 - (intOf i).toNat)
  case atStart => exact ⟨0, by omega, rfl, hb1, by simpa [marks] using hown1⟩
  case round =>
    clear hown1 hb1
    obtain ⟨k, hk, rfl, bel, hown⟩ := hrel
    by_cases hlt : k < 9
    · have hlt' : (k : Int) < 9 := by omega
      have HOWN : Hid _ := hown
      obtain ⟨ao, co, rfl, hlo, _⟩ := ownsRow_form hown
      go_wp2_with (at_builtin; refine wpList_appT rfl (.tmp 12) (.tmp 15) rfl (b := w.heap.size) (v := .slice ao (ts.length + k) co) (n := ts.length + k) (ad := some ⟨wr.heap.size, 0, none⟩) (c := 1) (ts := [⟨77, (⟨#[]⟩ : ByteArray).data.toList, k, 0⟩]) (by simp [Act.eval, Act.put]) (hown.alloc _) (by simp [Act.eval, Act.put]) (TL_one wr 77 k 0 ⟨#[]⟩) (by simp; omega) (by have := bel.size; simp; omega) ?_; intro v2 w2 hown2 hg2 hl2)
      have hb2 : Below w.heap.size w w2 := (bel.trans ((HAL.out wr _).mono bel.size)).grown hg2 (by have := bel.size; simp; omega) (fun j hj => (hown.lt j hj).1)
      have hown3 : w2.ownsRow w.heap.size 32 4 v2 (ts.length + (k + 1)) ((ts ++ marks (k + 1)).flatMap Tk.cells) := by
        rw [marks_succ, ← List.append_assoc, List.flatMap_append]
        exact hown2
      clear hown2 hown
      go_roundw
      case rel => exact ⟨k + 1, by omega, by go_num, hb2, hown3⟩
      case measure => simp [intOf]; omega
    · obtain rfl : k = 9 := by omega
      have HOWN : Hid (wr.ownsRow w.heap.size 32 4 _ (ts.length + 9) ((ts ++ marks 9).flatMap Tk.cells)) := hown
      rcases hown.2 with ⟨_, h0⟩ | ⟨g, cap, cur, rfl, hbg, hhg, hnc, hcm, _, _⟩
      · omega
      · unfold maxLen at hcm
        clear hown
        go_wp2
        go_ret
        exact ⟨g, cap, rfl, HOWN.out, bel⟩
set_option maxHeartbeats 1600000 in
theorem same_true (ts : List Tk) (w : World) (a b : Option Addr) (c d : Nat) (hlen : ts.length ≤ 2147483647) (h1 : TL w a ts) (h2 : TL w b ts) :
    Calls Tryd.prog 16 #[.slice a ts.length c, .slice b ts.length d] w fun e w' => e = .returned (.bool true) ∧ Below w.heap.size w w' := by
  have H1 : Hid (TL w a ts) := h1
  have H2 : Hid (TL w b ts) := h2
  clear h1 h2
  go_enter Tryd.func16, Tryd.ntmps16
  go_wp2
  go_loopw [5] (fun i wr => ∃ k : Nat, k ≤ ts.length ∧ i = .int .i64 k ∧ Below w.heap.size w wr) (fun i _ => ts.length - (intOf i).toNat)
  case atStart => exact ⟨0, by omega, rfl, Below.refl _ _⟩
  case round =>
    obtain ⟨k, hk, rfl, bel⟩ := hrel
    by_cases hlt : k < ts.length
    · have hlt' : (k : Int) < (ts.length : Int) := by omega
      obtain ⟨t, ht⟩ : ∃ t, ts[k]? = some t := ⟨_, List.getElem?_eq_getElem hlt⟩
      obtain ⟨g, off, rfl, c0, c1, c2, c3⟩ := (H1.out.below bel) k t ht
      obtain ⟨g', off', rfl, d0, d1, d2, d3⟩ := (H2.out.below bel) k t ht
      have hne := fun W => tok_neq t t W
      simp only [decide_true, Bool.not_true] at hne
      generalize (⟨t.s.toArray⟩ : ByteArray) = tsb at *
      clear ht H1 H2
      go_wp2_with fail
      go_quiet (fail)
      go_wp2
      go_roundw
      case rel => exact ⟨k + 1, by omega, by go_num, ⟨bel.os, bel.tape, bel.output, bel.size, bel.block⟩⟩
      case measure => simp [intOf]; omega
    · obtain rfl : k = ts.length := by omega
      go_wp2
      go_ret
      exact ⟨rfl, bel⟩
set_option maxHeartbeats 1600000 in
theorem left_true (ts : List Tk) (w : World) (a : Option Addr) (g c d : Nat) (hlen : ts.length ≤ 2147483647) (hd : ts.length + 9 ≤ d) (hdm : d ≤ maxLen) (h1 : TL w (some ⟨g, 0, none⟩) (ts ++ marks 9)) (h2 : TL w a ts) :
    Calls Tryd.prog 8 #[.slice (some ⟨g, 0, none⟩) ts.length d, .slice a ts.length c] w fun e w' => e = .returned (.bool true) ∧ Below w.heap.size w w' := by
  unfold maxLen at hdm
  have HS : Hid (∀ w', Below w.heap.size w w' → Calls Tryd.prog 16 #[.slice (some ⟨g, 0, none⟩) ts.length d, .slice a ts.length c] w' fun e w2 => e = .returned (.bool true) ∧ Below w'.heap.size w' w2) := fun w' hb => same_true ts w' _ _ _ _ hlen ((TL.app h1).below hb) (h2.below hb)
  have H1 : Hid (TL w (some ⟨g, 0, none⟩) (ts ++ marks 9)) := h1
  clear h1 h2
  go_enter Tryd.func8, Tryd.ntmps8
  go_wp2_with fail
  refine (HS.out _ (Below.refl _ _)).mono ?_
  rintro e w1 ⟨rfl, hb1⟩
  clear HS
  go_wp2
  go_loopw [6] (fun i wr => ∃ k : Nat, k ≤ 9 ∧ i = .int .i64 k ∧ Below w.heap.size w wr) (fun i _ => 9 - (intOf i).toNat)
  case atStart => exact ⟨0, by omega, rfl, hb1⟩
  case round =>
    clear hb1
    obtain ⟨k, hk, rfl, bel⟩ := hrel
    by_cases hlt : k < 9
    · have hlt' : (k : Int) < 9 := by omega
      have ht : (ts ++ marks 9)[ts.length + k]? = some (mark k) := by
        rw [List.getElem?_append_right (by omega), show ts.length + k - ts.length = k by omega]
        simp [marks, hlt]
      obtain ⟨g', off, e, c0, c1, c2, c3⟩ := (H1.out.below bel) _ _ ht
      simp at e
      obtain ⟨rfl, rfl⟩ := e
      have hne : ∀ W, (binOp .neq 32 (.agg #[.int .i8 77, .string ⟨#[]⟩, .int .i64 k, .int .i64 0]) (.agg #[.int .i8 77, .string ⟨#[]⟩, .int .i64 k, .int .i64 0])).run Tryd.prog W = .ok (.bool false) W := fun W => by
        have := tok_neq (mark k) (mark k) W
        simpa [mark] using this
      simp only [mark, Nat.zero_add] at c0 c1 c2 c3
      clear ht H1
      go_wp2
      go_roundw
      case rel => exact ⟨k + 1, by omega, by go_num, bel⟩
      case measure => simp [intOf]; omega
    · obtain rfl : k = 9 := by omega
      go_wp2
      go_ret
      exact ⟨rfl, bel⟩
end Go.Proofs.YtifbbhgihdmhjaaDoor
