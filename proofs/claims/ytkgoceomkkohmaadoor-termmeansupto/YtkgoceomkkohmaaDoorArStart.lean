import Derived.Test.YtkgoceomkkohmaaDoorArGen
import Derived.Lib.OthersKept
import Derived.Lib.Hide
import Derived.Lib.SmallJoins
namespace Go.Proofs.YtkgoceomkkohmaaDoor.AR
open Go.RowKit Go.Maps
set_option linter.unusedVariables false
set_option linter.unusedSimpArgs false
attribute [local go_sem ↓] Go.wp_at_zero Go.wp_at_succ

/-! where characters begin -/
def chW (s : ByteArray) (i : Nat) : Nat := (Utf8.decode s i).2
theorem chW_le (s : ByteArray) {i : Nat} (h : i < s.size) : 1 ≤ chW s i ∧ chW s i ≤ 4 ∧ i + chW s i ≤ s.size := by
  unfold chW Utf8.decode
  simp only
  split
  · exact ⟨by simp, by simp, by simp; omega⟩
  · split
    · rename_i hc
      simp only [Bool.and_eq_true, decide_eq_true_eq] at hc
      split
      · exact ⟨by simp, by simp, by simp; omega⟩
      · exact ⟨by simp, by simp, by simp; omega⟩
    · split
      · rename_i hc
        simp only [Bool.and_eq_true, decide_eq_true_eq] at hc
        split
        · exact ⟨by simp, by simp, by simp; omega⟩
        · exact ⟨by simp, by simp, by simp; omega⟩
      · split
        · rename_i hc
          simp only [Bool.and_eq_true, decide_eq_true_eq] at hc
          split
          · exact ⟨by simp, by simp, by simp; omega⟩
          · exact ⟨by simp, by simp, by simp; omega⟩
        · exact ⟨by simp, by simp, by simp; omega⟩
def startsF (s : ByteArray) : Nat → Nat → List Nat
  | 0, _ => []
  | f + 1, i => if i < s.size then i :: startsF s f (i + chW s i) else []
def startsAt (s : ByteArray) (i : Nat) : List Nat := startsF s (s.size - i) i
def starts (s : ByteArray) : List Nat := startsAt s 0
theorem startsF_more (s : ByteArray) : ∀ (f g i : Nat), s.size - i ≤ f → s.size - i ≤ g → startsF s f i = startsF s g i
  | 0, 0, i, _, _ => rfl
  | 0, g + 1, i, hf, _ => by rw [startsF, startsF, if_neg (by omega)]
  | f + 1, 0, i, _, hg => by rw [startsF, startsF, if_neg (by omega)]
  | f + 1, g + 1, i, hf, hg => by
    rw [startsF, startsF]
    by_cases h : i < s.size
    · rw [if_pos h, if_pos h]
      have := (chW_le s h).1
      rw [startsF_more s f g (i + chW s i) (by omega) (by omega)]
    · rw [if_neg h, if_neg h]
theorem starts_cons (s : ByteArray) {i : Nat} (h : i < s.size) : startsAt s i = i :: startsAt s (i + chW s i) := by
  unfold startsAt
  obtain ⟨f, hf⟩ : ∃ f, s.size - i = f + 1 := ⟨s.size - i - 1, by omega⟩
  have := (chW_le s h).1
  rw [hf, startsF, if_pos h, startsF_more s f (s.size - (i + chW s i)) _ (by omega) (by omega)]
theorem starts_end (s : ByteArray) {i : Nat} (h : ¬ i < s.size) : startsAt s i = [] := by
  unfold startsAt
  rw [show s.size - i = 0 by omega, startsF]
def intC (i : Nat) : Value := .int .i64 (i : Int)
theorem infoI : (Tryd.prog.info? 3).map (fun i => (i.zero, i.size, i.bytes)) = some (some (.int .i64 0), 1, 8) := by kernel_rfl
set_option maxHeartbeats 1600000 in
set_option maxRecDepth 100000 in
theorem characterStarts_any (s : ByteArray) (hs : s.size ≤ 1000000) (w : World) : Calls Tryd.prog 41 #[.string s] w fun e w' => ∃ sv, e = .returned sv ∧ w'.ownsRow w.heap.size 3 1 sv (starts s).length ((starts s).map intC) ∧ Below w.heap.size w w' := by
  obtain ⟨i0, hi0, hz0, hz1, hz2⟩ := info_parts infoI
  have hk0 : (w.alloc (.stringIter s 0)).heap[w.heap.size]? = some (.stringIter s 0) := heap_alloc_new w _
  have HB0 := Lib.hid ((Below.refl w.heap.size w).alloc (Nat.le_refl _) (.stringIter s 0))
  have HK0 := Lib.hid hk0
  clear hk0
  go_enter Tryd.func41, Tryd.ntmps41
  go_wp2
  go_loopw [3] (fun ov wr => ∃ (pos : Nat) (out : List Nat), pos ≤ s.size ∧ wr.heap[w.heap.size]? = some (.stringIter s pos) ∧ wr.ownsRow (w.heap.size + 1) 3 1 ov out.length (out.map intC) ∧ Below w.heap.size w wr ∧ w.heap.size + 1 ≤ wr.heap.size ∧ out.length ≤ pos ∧ Hid (out ++ startsAt s pos = starts s)) (fun _ wr => s.size - wr.iterPos w.heap.size)
  case atStart => exact ⟨0, [], Nat.zero_le _, HK0.out, World.ownsRow_nil _ _ _ _, HB0.out, by simp [World.iter], Nat.le_refl _, rfl⟩
  case round =>
    obtain ⟨pos, out, hps, hk, hown, bel, hsz, hol, HS⟩ := hrel
    clear HB0 HK0
    obtain ⟨ao, co, rfl, _⟩ := own_form hown
    by_cases hp : pos < s.size
    · have hw := chW_le s hp
      have hnext : ∀ ty, (Instr.next (.pointer (some ⟨w.heap.size, 0, none⟩)) true ty).run Tryd.prog wr = .ok (.tuple #[.bool true, .int .i64 pos, .int .i32 (Utf8.decode s pos).1]) (wr.iterAt w.heap.size s (pos + chW s pos)) := fun ty => Lib.run_next_any_at wr w.heap.size s pos ty hk hp
      have hk1 := Lib.iterAt_heap wr w.heap.size s pos (pos + chW s pos) hk
      have b1 : Below w.heap.size w (wr.iterAt w.heap.size s (pos + chW s pos)) := Lib.below_iterAt bel (by omega) s _
      have hmu : wr.iterPos w.heap.size = pos := by simp [World.iterPos, hk]
      have hz1' : (wr.iterAt w.heap.size s (pos + chW s pos)).heap.size = wr.heap.size := by simp [World.iterAt]
      have hown1 : (wr.iterAt w.heap.size s (pos + chW s pos)).ownsRow (w.heap.size + 1) 3 1 (.slice ao out.length co) out.length (out.map intC) := own_of_block hown (fun g hg => by
        have := (hown.lt g hg).1
        simp [World.iterAt]
        rw [Array.getElem?_setIfInBounds_ne (by omega)])
      have HN : Hid ((out ++ [pos]) ++ startsAt s (pos + chW s pos) = starts s) := by show _ = _; rw [← HS.out, starts_cons s hp]; simp
      generalize (Utf8.decode s pos).1 = ru at hnext
      generalize chW s pos = cw at hnext hk1 b1 hz1' hown1 hw HN
      generalize wr.iterAt w.heap.size s (pos + cw) = W1 at hnext hk1 b1 hz1' hown1
      have HMU := Lib.hid hmu
      have HK1 := Lib.hid hk1
      have hsz1 : w.heap.size + 1 ≤ W1.heap.size := by omega
      have HFIN : Hid (∀ {w2 : World}, (W1.alloc (.cells #[.int .i64 (pos : Int)] 3)).grownBy w2 (Value.slice ao out.length co).ownBlock → w2.heap[w.heap.size]? = some (.stringIter s (pos + cw)) ∧ Below w.heap.size w w2 ∧ w.heap.size + 1 ≤ w2.heap.size) := fun {w2} hg => by
        have hz2 : w.heap.size < W1.heap.size := by omega
        refine ⟨?_, (b1.alloc b1.size _).grown hg (by simp; omega) (fun j hj => by have := (hown1.lt j hj).1; omega), by have := hg.size; simp at this; omega⟩
        rw [hg.block w.heap.size (by simp; omega) (fun e => by have := (hown1.lt _ e.symm).1; omega), Below.heap_alloc W1 _ _ hz2]
        exact HK1.out
      clear hk hown bel HS hmu hk1 hz1' hsz
      have HW1 := Lib.hid hw
      go_wp2_with (at_builtin; refine wpList_append_own_at _ rfl _ _ 83 rfl (w.heap.size + 1) 3 i0 _ 1 8 Tryd.underlying83 hi0 hz0 hz1 hz2 rfl (by decide) _ _ _ rfl (own_below hown1 ((Below.refl _ _).alloc (Nat.le_refl _) _)) ⟨_, 0, none⟩ 1 1 [.int .i64 (pos : Int)] rfl rfl (lit_news _ #[.int .i64 (pos : Int)] _) (by simp [Value.oneCell']) (by unfold maxLen; omega) (by omega) (by simp; omega) ?_; intro v' w2 hown' hgrow hnil hloc; obtain ⟨hk2, bel2, hsz2⟩ := HFIN.out hgrow; clear hgrow hnil hloc)
      go_roundw
      case rel => exact ⟨pos + cw, out ++ [pos], by omega, hk2, by rw [List.length_append, List.map_append]; exact hown', bel2, hsz2, by rw [List.length_append]; simp; omega, HN⟩
      case measure =>
        have hmu2 : w2.iterPos w.heap.size = pos + cw := by simp [World.iterPos, hk2]
        rw [HMU.out, hmu2]
        omega
    · obtain rfl : pos = s.size := by omega
      have hnext : ∀ ty, (Instr.next (.pointer (some ⟨w.heap.size, 0, none⟩)) true ty).run Tryd.prog wr = .ok (.tuple #[.bool false]) wr := fun ty => Lib.run_next_end_at wr w.heap.size s s.size ty hk (by omega)
      have HE : Hid (out = starts s) := by show _ = _; rw [← HS.out, starts_end s (by omega), List.append_nil]
      go_wp2
      go_ret
      refine ⟨_, rfl, ?_, bel⟩
      rw [← HE.out]
      exact Go.Joins.ownsRow_le hown (by omega)
end Go.Proofs.YtkgoceomkkohmaaDoor.AR
