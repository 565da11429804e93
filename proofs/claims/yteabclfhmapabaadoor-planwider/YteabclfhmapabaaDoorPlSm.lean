import Derived.Test.YteabclfhmapabaaDoorA20
namespace Go.Proofs.YteabclfhmapabaaDoor
open Go.RowKit Go.Maps Go.ChangeMaps
set_option linter.unusedVariables false
set_option linter.unusedSimpArgs false
attribute [local go_sem ↓] Go.wp_at_zero Go.wp_at_succ

/-- a step -/
structure St where
  k : Int
  i : Int
  m : Int
  g : List ByteArray
def St.val (s : St) (a : Option Addr) (c : Nat) : Value := .agg #[.int .i8 s.k, .int .i64 s.i, .int .u32 s.m, .slice a s.g.length c]
def sameSt (s t : St) : Bool := decide (s.k = t.k) && (decide (s.i = t.i) && (decide (s.m = t.m) && decide (s.g = t.g)))
set_option maxHeartbeats 3200000 in
set_option maxRecDepth 100000 in
theorem same_any {w : World} (s t : St) (a a' : Option Addr) (c c' : Nat) (h : Ls w (.slice a s.g.length c) s.g.length (s.g.flatMap strB)) (h' : Ls w (.slice a' t.g.length c') t.g.length (t.g.flatMap strB)) :
    Calls Tryd.prog 19 #[s.val a c, t.val a' c'] w fun e w' => e = .returned (.bool (sameSt s t)) ∧ Below w.heap.size w w' := by
  have hb2 : Below w.heap.size w ((w.alloc (.cells #[.int .i8 s.k, .int .i64 s.i, .int .u32 s.m, .slice a s.g.length c] 40)).alloc (.cells #[.int .i8 t.k, .int .i64 t.i, .int .u32 t.m, .slice a' t.g.length c'] 40)) := ((Below.refl _ _).alloc (Nat.le_refl _) _).alloc (by simp) _
  have HEQ := Lib.hid (equalS_any (h.below hb2) (h'.below hb2))
  have HB2 := Lib.hid hb2
  clear h h' hb2
  obtain ⟨k, i, m, g⟩ := s
  obtain ⟨k2, i2, m2, g2⟩ := t
  unfold St.val
  simp only at HEQ HB2 ⊢
  by_cases hk : k = k2
  · by_cases hi : i = i2
    · by_cases hm : m = m2
      · subst hk hi hm
        have HF : Hid (sameSt ⟨k, i, m, g⟩ ⟨k, i, m, g2⟩ = decide (g = g2)) := by
          show _ = _
          simp [sameSt]
        rw [HF.out]
        clear HF
        go_enter Tryd.func19, Tryd.ntmps19
        go_wp2_with fail
        refine HEQ.out.mono ?_
        rintro e w2 ⟨rfl, b2⟩
        have HBF := Lib.hid (HB2.out.trans (b2.mono HB2.out.size))
        clear b2
        obtain ⟨z, hz⟩ : ∃ z, decide (g = g2) = z := ⟨_, rfl⟩
        rw [hz]
        have HZ := Lib.hid hz
        clear hz
        cases z
        all_goals
          go_wp2
          go_ret
          exact ⟨by rw [HZ.out]; rfl, HBF.out⟩
      · have hd : (m == m2) = false := by rw [beq_eq_false_iff_ne]; exact hm
        have HF : Hid (sameSt ⟨k, i, m, g⟩ ⟨k2, i2, m2, g2⟩ = false) := by
          show _ = _
          simp [sameSt, hm]
        rw [HF.out]
        subst hk hi
        clear HF hm
        go_enter Tryd.func19, Tryd.ntmps19
        go_wp2
        go_ret
        exact ⟨rfl, HB2.out⟩
    · have hd : (i == i2) = false := by rw [beq_eq_false_iff_ne]; exact hi
      have HF : Hid (sameSt ⟨k, i, m, g⟩ ⟨k2, i2, m2, g2⟩ = false) := by
        show _ = _
        simp [sameSt, hi]
      rw [HF.out]
      subst hk
      clear HF hi
      go_enter Tryd.func19, Tryd.ntmps19
      go_wp2
      go_ret
      exact ⟨rfl, HB2.out⟩
  · have hd : (k == k2) = false := by rw [beq_eq_false_iff_ne]; exact hk
    have HF : Hid (sameSt ⟨k, i, m, g⟩ ⟨k2, i2, m2, g2⟩ = false) := by
      show _ = _
      simp [sameSt, hk]
    rw [HF.out]
    clear HF hk
    go_enter Tryd.func19, Tryd.ntmps19
    go_wp2
    go_ret
    exact ⟨rfl, HB2.out⟩
end Go.Proofs.YteabclfhmapabaaDoor
