import Derived.Test.YtjjjnpmppblchaaGreatDoorPrintL
namespace Go.Proofs.YtjjjnpmppblchaaGreatDoor
open Go.RowKit Go.Maps
set_option linter.unusedVariables false
set_option linter.unusedSimpArgs false
attribute [local go_sem ↓] Go.wp_at_zero Go.wp_at_succ

def termS (t : T) : ByteArray := if t.v = noS then showS t.a else t.v
theorem arr_bytes (s : ByteArray) {l : List UInt8} (h : s.data.toList = l) : (⟨l.toArray⟩ : ByteArray) = s := by
  subst h
  cases s
  simp
theorem termS_eq (t : T) : (⟨(termT t).toArray⟩ : ByteArray) = termS t := by
  refine arr_bytes _ ?_
  unfold termS termT
  split
  · exact showS_bytes _
  · rfl
set_option maxHeartbeats 1600000 in
theorem r6term_any (t : T) (w : World) (ht : t.wf) (hok : termB t = true) : Calls Tryz.prog 56 #[t.val] w fun e w' => e = .returned (.string (termS t)) ∧ Below w.heap.size w w' := by
  obtain ⟨tv, v⟩ := t
  have hv := ht.val
  have BA := (Below.refl w.heap.size w).alloc (Nat.le_refl _) (.cells #[.string tv, .int .i8 v.k, .int .i64 v.n, .string v.s] 52)
  unfold T.val
  unfold termB at hok
  unfold termS
  dsimp only at *
  by_cases e0 : tv = noS
  · rw [if_pos e0] at hok ⊢
    have hc : chk v.k v.n v.s = 0 := by simpa [okV, chkV] using hok
    have hV : showV v.k v.n v.s = .tuple #[.string (showS v), .int .i64 0] := by unfold showV showS; rw [if_pos hc]
    subst e0
    clear hok hc
    unfold noS at *
    go_enter Tryz.func56, Tryz.ntmps56
    go_wp2_with fail
    refine (rshow_any v.k v.n v.s _ hv.text hv.num0.1 hv.num0.2).mono ?_
    rintro e w1 ⟨rfl, b1⟩
    rw [hV]
    go_wp2
    go_ret
    exact ⟨rfl, BA.trans (b1.mono BA.size)⟩
  · rw [if_neg e0]
    have he := some_iff tv e0
    clear hok e0
    go_enter Tryz.func56, Tryz.ntmps56
    go_wp2
    go_ret
    exact ⟨rfl, BA⟩
end Go.Proofs.YtjjjnpmppblchaaGreatDoor
