import Derived.Test.YtpnmepabecbgcaaDoorLexLives
import Derived.Deep.QuietTactic
import Derived.BigQuiet
namespace Go.Proofs.YtpnmepabecbgcaaDoor
open Go.RowKit Go.Maps
set_option linter.unusedVariables false
set_option linter.unusedSimpArgs false
attribute [local go_sem ↓] Go.wp_at_zero Go.wp_at_succ

def Tk.bare (t : Tk) : Tk := { t with a := 0 }
theorem toList_ne {s t : ByteArray} (h : s ≠ t) : (s.toList == t.toList) = false := by
  rw [beq_eq_false_iff_ne, ByteArray.toList_eq, ByteArray.toList_eq]
  intro e
  apply h
  cases s with | mk a => cases t with | mk b =>
  simp at e
  exact congrArg ByteArray.mk e
theorem mk_ne {l m : List UInt8} (h : l ≠ m) : (⟨l.toArray⟩ : ByteArray) ≠ ⟨m.toArray⟩ := fun e => h (by simpa using e)
theorem tok_eql (t u : Tk) (w : World) : (binOp .eql 38 (.agg #[.int .i8 t.k, .string ⟨t.s.toArray⟩, .int .i64 t.n, .int .i64 t.a]) (.agg #[.int .i8 u.k, .string ⟨u.s.toArray⟩, .int .i64 u.n, .int .i64 u.a])).run Tryd.prog w = .ok (.bool (decide (t = u))) w := by
  cases t with | mk k1 s1 n1 a1 =>
  cases u with | mk k2 s2 n2 a2 =>
  simp only [Tk.mk.injEq]
  by_cases hk : k1 = k2
  · by_cases hs : s1 = s2
    · by_cases hn : n1 = n2
      · by_cases ha : a1 = a2
        · subst hk hs hn ha
          rw [decide_eq_true ⟨rfl, rfl, rfl, rfl⟩]
          go_simp
        · rw [decide_eq_false (fun h => ha h.2.2.2)]
          subst hk hs hn
          go_simp
      · rw [decide_eq_false (fun h => hn h.2.2.1)]
        subst hk hs
        go_simp
    · have hs' := toList_ne (mk_ne hs)
      rw [decide_eq_false (fun h => hs h.2.1)]
      subst hk
      generalize (⟨s1.toArray⟩ : ByteArray) = x1 at *
      generalize (⟨s2.toArray⟩ : ByteArray) = x2 at *
      go_simp
  · rw [decide_eq_false (fun h => hk h.1)]
    generalize (⟨s1.toArray⟩ : ByteArray) = x1 at *
    generalize (⟨s2.toArray⟩ : ByteArray) = x2 at *
    go_simp
theorem tok_neq (t u : Tk) (w : World) : (binOp .neq 38 (.agg #[.int .i8 t.k, .string ⟨t.s.toArray⟩, .int .i64 t.n, .int .i64 t.a]) (.agg #[.int .i8 u.k, .string ⟨u.s.toArray⟩, .int .i64 u.n, .int .i64 u.a])).run Tryd.prog w = .ok (.bool (!decide (t = u))) w := by
  cases t with | mk k1 s1 n1 a1 =>
  cases u with | mk k2 s2 n2 a2 =>
  simp only [Tk.mk.injEq]
  by_cases hk : k1 = k2
  · by_cases hs : s1 = s2
    · by_cases hn : n1 = n2
      · by_cases ha : a1 = a2
        · subst hk hs hn ha
          rw [decide_eq_true ⟨rfl, rfl, rfl, rfl⟩]
          go_simp
        · rw [decide_eq_false (fun h => ha h.2.2.2)]
          subst hk hs hn
          go_simp
      · rw [decide_eq_false (fun h => hn h.2.2.1)]
        subst hk hs
        go_simp
    · have hs' := toList_ne (mk_ne hs)
      rw [decide_eq_false (fun h => hs h.2.1)]
      subst hk
      generalize (⟨s1.toArray⟩ : ByteArray) = x1 at *
      generalize (⟨s2.toArray⟩ : ByteArray) = x2 at *
      go_simp
  · rw [decide_eq_false (fun h => hk h.1)]
    generalize (⟨s1.toArray⟩ : ByteArray) = x1 at *
    generalize (⟨s2.toArray⟩ : ByteArray) = x2 at *
    go_simp
theorem bare_iff (t u : Tk) : ({ t with a := u.a } = u) ↔ t.bare = u.bare := by
  cases t; cases u; simp [Tk.bare]

set_option maxHeartbeats 6400000 in
set_option maxRecDepth 100000 in
theorem alike_any (ts us : List Tk) (w : World) (a b : Option Addr) (c d : Nat) (hts : ts.length ≤ maxLen) (hus : us.length ≤ maxLen) (h1 : TL w a ts) (h2 : TL w b us) :
    Calls Tryd.prog 7 #[.slice a ts.length c, .slice b us.length d] w fun e w' => e = .returned (.bool (decide (ts.map Tk.bare = us.map Tk.bare))) ∧ Below w.heap.size w w' := by
  unfold maxLen at hts hus
  by_cases hl : ts.length = us.length
  · have hl' : (ts.length : Int) = (us.length : Int) := by omega
    obtain ⟨v, HV⟩ : ∃ v, Hid (decide (ts.map Tk.bare = us.map Tk.bare) = v) := ⟨_, rfl⟩
    rw [HV.out]
    have H1 : Hid _ := h1
    have H2 : Hid _ := h2
    clear h1 h2
    go_enter Tryd.func7, Tryd.ntmps7
    go_wp2_with fail
    go_loopw [5] (fun i wr => ∃ k : Nat, k ≤ ts.length ∧ i = .int .i64 k ∧ Below w.heap.size w wr ∧ Hid ((ts.take k).map Tk.bare = (us.take k).map Tk.bare)) (fun i _ => ts.length - (intOf i).toNat)
    case atStart => exact ⟨0, Nat.zero_le _, rfl, Below.refl _ _, by show _ = _; simp⟩
    case round =>
      obtain ⟨k, hk, rfl, bel, HK⟩ := hrel
      by_cases hlt : k < ts.length
      · have hlt' : (k : Int) < (ts.length : Int) := by omega
        have hlt2 : (k : Int) < (us.length : Int) := by omega
        have htr := TL.below H1.out bel
        have hur := TL.below H2.out bel
        obtain ⟨t, ht⟩ : ∃ t, ts[k]? = some t := ⟨_, List.getElem?_eq_getElem hlt⟩
        obtain ⟨u, hu⟩ : ∃ u, us[k]? = some u := ⟨_, List.getElem?_eq_getElem (by omega)⟩
        obtain ⟨g, off, rfl, c0, c1, c2, c3⟩ := htr k t ht
        obtain ⟨g', off', rfl, d0, d1, d2, d3⟩ := hur k u hu
        have e1 : ts.take (k + 1) = ts.take k ++ [t] := by rw [List.take_add_one, ht]; rfl
        have e2 : us.take (k + 1) = us.take k ++ [u] := by rw [List.take_add_one, hu]; rfl
        have hne := fun w => tok_neq { t with a := u.a } u w
        simp only at hne
        have hgl : g < wr.heap.size := World.block_lt_of_cell? _ _ c0
        have hgl' : g' < wr.heap.size := World.block_lt_of_cell? _ _ d0
        by_cases hb : t.bare = u.bare
        · have HN : Hid ((ts.take (k + 1)).map Tk.bare = (us.take (k + 1)).map Tk.bare) := by
            show _ = _; rw [e1, e2, List.map_append, List.map_append, HK.out]; simp [hb]
          have hd : decide ({ t with a := u.a } = u) = true := by rw [decide_eq_true_eq]; exact (bare_iff t u).mpr hb
          rw [hd] at hne
          clear HK htr hur e1 e2 hd ht hu
          generalize (⟨t.s.toArray⟩ : ByteArray) = x1 at *
          generalize (⟨u.s.toArray⟩ : ByteArray) = x2 at *
          go_wp2_with fail
          go_quiet (fail)
          go_wp2
          go_roundw
          case rel => exact ⟨k + 1, by omega, by go_num, (bel.alloc bel.size _).trans ⟨rfl, rfl, rfl, Nat.le_refl _, fun _ _ => rfl⟩, HN.out⟩
          case measure => simp [intOf]; omega
        · have HN : Hid (v = false) := by
            show _ = _
            rw [← HV.out, decide_eq_false_iff_not]
            intro e
            have := congrArg (·[k]?) e
            simp [ht, hu] at this
            exact hb this
          have hd : decide ({ t with a := u.a } = u) = false := by rw [decide_eq_false_iff_not]; exact fun h => hb ((bare_iff t u).mp h)
          rw [hd] at hne
          clear HK htr hur e1 e2 hd ht hu
          generalize (⟨t.s.toArray⟩ : ByteArray) = x1 at *
          generalize (⟨u.s.toArray⟩ : ByteArray) = x2 at *
          go_wp2_with fail
          go_quiet (fail)
          go_wp2
          go_ret
          exact ⟨ret_bool HN.out.symm, (bel.alloc bel.size _).trans ⟨rfl, rfl, rfl, Nat.le_refl _, fun _ _ => rfl⟩⟩
      · have hlt' : ¬ (k : Int) < (ts.length : Int) := by omega
        have HN : Hid (v = true) := by
          show _ = _
          rw [← HV.out, decide_eq_true_eq]
          have := HK.out
          rw [List.take_of_length_le (by omega), List.take_of_length_le (by omega)] at this
          exact this
        clear HK
        go_wp2_with fail
        go_ret
        exact ⟨ret_bool HN.out.symm, bel⟩
  · have hl' : ¬ (ts.length : Int) = (us.length : Int) := by omega
    rw [decide_eq_false (fun e => hl (by simpa using congrArg List.length e))]
    go_enter Tryd.func7, Tryd.ntmps7
    go_wp2_with fail
    go_ret
    exact ⟨rfl, Below.refl _ _⟩
end Go.Proofs.YtpnmepabecbgcaaDoor
