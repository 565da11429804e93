import Derived.Test.YtlnioaokpmeioaaGreatDoorG35
import Derived.Test.YtlnioaokpmeioaaGreatDoorG33
import Derived.Test.YtlnioaokpmeioaaGreatDoorG7
import Derived.Test.YtlnioaokpmeioaaGreatDoorG36
import Derived.Test.YtlnioaokpmeioaaGreatDoorG25
import Derived.Test.YtlnioaokpmeioaaGreatDoorG28
import Derived.Test.YtlnioaokpmeioaaGreatDoorG37
import Derived.Test.YtlnioaokpmeioaaGreatDoorG43
section
namespace Go.Proofs.YtlnioaokpmeioaaGreatDoor
open Go.RowKit Go.Maps
set_option linter.unusedVariables false
set_option linter.unusedSimpArgs false
attribute [local go_sem ↓] Go.wp_at_zero Go.wp_at_succ

/-- longer than a user's name may be -/
def lgN (s : ByteArray) : Bool := decide (24 < s.size)
def lgP (p : Pd) : Bool := lgN p.n || decide (8 < p.a)
def rsN (s : ByteArray) : Bool := Lib.hasPrefix s.data.toList [113, 95]
def rsP (p : Pd) : Bool := rsN p.n
/-- what is wrong with predicates and variables of a user -/
def inpE (l : List Pd) (vs : List ByteArray) : Int := if (l.any lgP || vs.any lgN) = true then 70 else if l.any rsP = true then 71 else 0
theorem anyP_take {B : Pd → Bool} {l : List Pd} {k : Nat} (h : k < l.length) : (l.take (k + 1)).any B = ((l.take k).any B || B (atPd l k)) := by
  rw [takePd h, List.any_append]
  simp
theorem anyS_take {B : ByteArray → Bool} {l : List ByteArray} {k : Nat} (h : k < l.length) : (l.take (k + 1)).any B = ((l.take k).any B || B (atS l k)) := by
  have e : l.take (k + 1) = l.take k ++ [l[k]] := by rw [List.take_add_one, List.getElem?_eq_getElem h]; rfl
  rw [e, List.any_append, atS_eq h]
  simp
theorem anyP_yes {B : Pd → Bool} {l : List Pd} {k : Nat} (h : k < l.length) (hb : B (atPd l k) = true) : l.any B = true := List.any_eq_true.2 ⟨_, by rw [atPd_eq h]; exact List.getElem_mem h, hb⟩
theorem anyS_yes {B : ByteArray → Bool} {l : List ByteArray} {k : Nat} (h : k < l.length) (hb : B (atS l k) = true) : l.any B = true := List.any_eq_true.2 ⟨_, by rw [atS_eq h]; exact List.getElem_mem h, hb⟩
theorem isLong_any (s : ByteArray) (w : World) : Calls Tryz.prog 77 #[.string s] w fun e w' => e = .returned (.bool (lgN s)) ∧ w' = w := by
  have HD : Hid (lgN s = decide (24 < s.size)) := rfl
  rw [HD.out]
  by_cases h : 24 < s.size
  · have h1 : ((24 : Int) < (s.size : Int)) := by omega
    have HE : Hid (decide (24 < s.size) = true) := decide_eq_true h
    rw [HE.out]
    clear h
    go_enter Tryz.func77, Tryz.ntmps77
    go_wp2
    go_ret
    exact ⟨rfl, rfl⟩
  · have h1 : ¬ ((24 : Int) < (s.size : Int)) := by omega
    have HE : Hid (decide (24 < s.size) = false) := decide_eq_false h
    rw [HE.out]
    clear h
    go_enter Tryz.func77, Tryz.ntmps77
    go_wp2
    go_ret
    exact ⟨rfl, rfl⟩
theorem isLarge_any (p : Pd) (w : World) : Calls Tryz.prog 75 #[.agg p.cells.toArray] w fun e w' => e = .returned (.bool (lgP p)) ∧ Below w.heap.size w w' := by
  have HB := Lib.hid (belowA (w := w) (.cells #[.string p.n, .int .i64 (p.a : Int)] 49))
  have r := rl_new w #[.string p.n, .int .i64 (p.a : Int)] 49
  have c0 := r.at (j := 0) rfl
  have c1 := r.at (j := 1) rfl
  have HC := Lib.hid (isLong_any p.n (w.alloc (.cells #[.string p.n, .int .i64 (p.a : Int)] 49)))
  have HD : Hid (lgP p = (lgN p.n || decide (8 < p.a))) := rfl
  obtain ⟨bb, hbb⟩ : ∃ bb, lgP p = bb := ⟨_, rfl⟩
  rw [hbb] at HD ⊢
  unfold Pd.cells
  clear r hbb
  cases hl : lgN p.n
  · rw [hl] at HC HD
    clear hl
    by_cases h : 8 < p.a
    · have h1 : ((8 : Int) < (p.a : Int)) := by omega
      have HE : Hid (bb = true) := by show _ = _; rw [HD.out, decide_eq_true h]; rfl
      clear h
      go_enter Tryz.func75, Tryz.ntmps75
      go_wp2_with fail
      refine HC.out.mono ?_
      rintro e w1 ⟨rfl, rfl⟩
      clear HC
      go_wp2
      go_ret
      exact ⟨by first | (rw [HE.out]; rfl) | rw [HE.out], HB.out⟩
    · have HN : Hid (¬ ((8 : Int) < (p.a : Int))) := by show ¬ _; omega
      have HE : Hid (bb = false) := by show _ = _; rw [HD.out, decide_eq_false h]; rfl
      clear h
      go_enter Tryz.func75, Tryz.ntmps75
      go_wp2_with fail
      refine HC.out.mono ?_
      rintro e w1 ⟨rfl, rfl⟩
      clear HC
      go_wp2
      go_ret
      exact ⟨by rw [HE.out]; show Ending.returned (.bool (decide ((8 : Int) < (p.a : Int)))) = _; rw [decide_eq_false (by have := HN.out; omega)], HB.out⟩
  · rw [hl] at HC HD
    clear hl
    have HE : Hid (bb = true) := HD.out
    go_enter Tryz.func75, Tryz.ntmps75
    go_wp2_with fail
    refine HC.out.mono ?_
    rintro e w1 ⟨rfl, rfl⟩
    clear HC
    go_wp2
    go_ret
    exact ⟨by first | (rw [HE.out]; rfl) | rw [HE.out], HB.out⟩
theorem isReserved_any (p : Pd) (w : World) : Calls Tryz.prog 78 #[.agg p.cells.toArray] w fun e w' => e = .returned (.bool (rsP p)) ∧ Below w.heap.size w w' := by
  have HB := Lib.hid (belowA (w := w) (.cells #[.string p.n, .int .i64 (p.a : Int)] 49))
  have r := rl_new w #[.string p.n, .int .i64 (p.a : Int)] 49
  have c0 := r.at (j := 0) rfl
  have HC : Hid (Calls Tryz.prog 101 #[.string p.n, .string ⟨#[113, 95]⟩] (w.alloc (.cells #[.string p.n, .int .i64 (p.a : Int)] 49)) fun e w' => e = .returned (.bool (rsP p)) ∧ w' = _) := Tryz.strings_HasPrefix p.n ⟨#[113, 95]⟩ _
  generalize rsP p = bb at HC ⊢
  unfold Pd.cells
  clear r
  go_enter Tryz.func78, Tryz.ntmps78
  go_wp2_with fail
  refine HC.out.mono ?_
  rintro e w1 ⟨rfl, rfl⟩
  clear HC
  go_wp2
  go_ret
  exact ⟨rfl, HB.out⟩
theorem idxG_any (v : Value) (l : List Pd) (w : World) (hL : Ls w v l.length (l.flatMap Pd.cells)) : Calls Tryz.prog 99 #[v, .func (.func 75) #[] #[]] w fun e w' => ∃ n : Int, e = .returned (.int .i64 n) ∧ decide (0 ≤ n) = l.any lgP ∧ Below w.heap.size w w' := by
  obtain ⟨a, c, rfl, hc1, hc2, hat⟩ := pd_form hL
  have hmax : l.length ≤ maxLen := Nat.le_trans hc1 hc2
  unfold maxLen at hmax
  have HAT := Lib.hid hat
  obtain ⟨R, HR⟩ : ∃ R, Hid (l.any lgP = R) := ⟨_, rfl⟩
  rw [HR.out]
  clear hat hL
  go_enter Tryz.func99, Tryz.ntmps99
  go_wp2
  go_loopw [8] (fun i wr => ∃ k : Nat, k ≤ l.length ∧ i = .int .i64 k ∧ Hid ((l.take k).any lgP = false) ∧ Hid (Below w.heap.size w wr)) (fun i _ => l.length - (intOf i).toNat)
  case atStart => exact ⟨0, Nat.zero_le _, rfl, rfl, Below.refl _ _⟩
  case round =>
    obtain ⟨k, hk, rfl, HA, HB⟩ := hrel
    by_cases hlt : k < l.length
    · have hlt' : (k : Int) < (l.length : Int) := by omega
      have hk0 : (0 : Int) ≤ (k : Int) := by omega
      obtain ⟨g, off, rfl, hg, hT⟩ := HAT.out (by omega)
      obtain ⟨y0, y1⟩ := pd_cell hg hT HB.out hlt
      have HC := Lib.hid (isLarge_any (atPd l k) wr)
      have HNX : Hid ((l.take (k + 1)).any lgP = lgP (atPd l k)) := by
        show _ = _
        rw [anyP_take hlt, HA.out, Bool.false_or]
      have HY : Hid (lgP (atPd l k) = true → l.any lgP = true) := anyP_yes hlt
      generalize atPd l k = p at y0 y1 HC HNX HY
      unfold Pd.cells at HC
      clear hT
      cases hq : lgP p
      · rw [hq] at HC HNX
        clear hq HY
        go_wp2_with fail
        refine HC.out.mono ?_
        rintro e w' ⟨rfl, b1⟩
        have HB1 : Hid (Below w.heap.size w w') := HB.out.trans (b1.mono HB.out.size)
        clear b1 HC HB y0 y1
        go_wp2
        go_roundw
        case rel => exact ⟨k + 1, by omega, by go_num, HNX, HB1⟩
        case measure => simp [intOf]; omega
      · have HF : Hid (R = true) := by show R = _; rw [← HR.out]; exact HY.out hq
        rw [hq] at HC
        clear hq HY
        go_wp2_with fail
        refine HC.out.mono ?_
        rintro e w' ⟨rfl, b1⟩
        have HB1 : Hid (Below w.heap.size w w') := HB.out.trans (b1.mono HB.out.size)
        clear b1 HC HB y0 y1
        go_wp2
        go_ret
        exact ⟨k, rfl, by rw [HF.out]; exact decide_eq_true (by omega), HB1.out⟩
    · obtain rfl : k = l.length := by omega
      rw [List.take_length] at HA
      have HF : Hid (R = false) := by show R = _; rw [← HR.out]; exact HA.out
      clear HA
      go_wp2
      go_ret
      exact ⟨-1, rfl, by rw [HF.out]; rfl, HB.out⟩
theorem cntG_any (v : Value) (l : List Pd) (w : World) (hL : Ls w v l.length (l.flatMap Pd.cells)) : Calls Tryz.prog 74 #[v, .func (.func 75) #[] #[]] w fun e w' => e = .returned (.bool (l.any lgP)) ∧ Below w.heap.size w w' := by
  have HI := Lib.hid (idxG_any v l w hL)
  generalize l.any lgP = b at HI ⊢
  clear hL
  go_enter Tryz.func74, Tryz.ntmps74
  go_wp2_with fail
  refine HI.out.mono ?_
  rintro e w' ⟨n, rfl, hn, b1⟩
  have HN := Lib.hid hn
  clear hn HI
  go_wp2
  go_ret
  exact ⟨by rw [← HN.out]; rfl, b1⟩
theorem idxR_any (v : Value) (l : List Pd) (w : World) (hL : Ls w v l.length (l.flatMap Pd.cells)) : Calls Tryz.prog 99 #[v, .func (.func 78) #[] #[]] w fun e w' => ∃ n : Int, e = .returned (.int .i64 n) ∧ decide (0 ≤ n) = l.any rsP ∧ Below w.heap.size w w' := by
  obtain ⟨a, c, rfl, hc1, hc2, hat⟩ := pd_form hL
  have hmax : l.length ≤ maxLen := Nat.le_trans hc1 hc2
  unfold maxLen at hmax
  have HAT := Lib.hid hat
  obtain ⟨R, HR⟩ : ∃ R, Hid (l.any rsP = R) := ⟨_, rfl⟩
  rw [HR.out]
  clear hat hL
  go_enter Tryz.func99, Tryz.ntmps99
  go_wp2
  go_loopw [8] (fun i wr => ∃ k : Nat, k ≤ l.length ∧ i = .int .i64 k ∧ Hid ((l.take k).any rsP = false) ∧ Hid (Below w.heap.size w wr)) (fun i _ => l.length - (intOf i).toNat)
  case atStart => exact ⟨0, Nat.zero_le _, rfl, rfl, Below.refl _ _⟩
  case round =>
    obtain ⟨k, hk, rfl, HA, HB⟩ := hrel
    by_cases hlt : k < l.length
    · have hlt' : (k : Int) < (l.length : Int) := by omega
      have hk0 : (0 : Int) ≤ (k : Int) := by omega
      obtain ⟨g, off, rfl, hg, hT⟩ := HAT.out (by omega)
      obtain ⟨y0, y1⟩ := pd_cell hg hT HB.out hlt
      have HC := Lib.hid (isReserved_any (atPd l k) wr)
      have HNX : Hid ((l.take (k + 1)).any rsP = rsP (atPd l k)) := by
        show _ = _
        rw [anyP_take hlt, HA.out, Bool.false_or]
      have HY : Hid (rsP (atPd l k) = true → l.any rsP = true) := anyP_yes hlt
      generalize atPd l k = p at y0 y1 HC HNX HY
      unfold Pd.cells at HC
      clear hT
      cases hq : rsP p
      · rw [hq] at HC HNX
        clear hq HY
        go_wp2_with fail
        refine HC.out.mono ?_
        rintro e w' ⟨rfl, b1⟩
        have HB1 : Hid (Below w.heap.size w w') := HB.out.trans (b1.mono HB.out.size)
        clear b1 HC HB y0 y1
        go_wp2
        go_roundw
        case rel => exact ⟨k + 1, by omega, by go_num, HNX, HB1⟩
        case measure => simp [intOf]; omega
      · have HF : Hid (R = true) := by show R = _; rw [← HR.out]; exact HY.out hq
        rw [hq] at HC
        clear hq HY
        go_wp2_with fail
        refine HC.out.mono ?_
        rintro e w' ⟨rfl, b1⟩
        have HB1 : Hid (Below w.heap.size w w') := HB.out.trans (b1.mono HB.out.size)
        clear b1 HC HB y0 y1
        go_wp2
        go_ret
        exact ⟨k, rfl, by rw [HF.out]; exact decide_eq_true (by omega), HB1.out⟩
    · obtain rfl : k = l.length := by omega
      rw [List.take_length] at HA
      have HF : Hid (R = false) := by show R = _; rw [← HR.out]; exact HA.out
      clear HA
      go_wp2
      go_ret
      exact ⟨-1, rfl, by rw [HF.out]; rfl, HB.out⟩
theorem cntR_any (v : Value) (l : List Pd) (w : World) (hL : Ls w v l.length (l.flatMap Pd.cells)) : Calls Tryz.prog 74 #[v, .func (.func 78) #[] #[]] w fun e w' => e = .returned (.bool (l.any rsP)) ∧ Below w.heap.size w w' := by
  have HI := Lib.hid (idxR_any v l w hL)
  generalize l.any rsP = b at HI ⊢
  clear hL
  go_enter Tryz.func74, Tryz.ntmps74
  go_wp2_with fail
  refine HI.out.mono ?_
  rintro e w' ⟨n, rfl, hn, b1⟩
  have HN := Lib.hid hn
  clear hn HI
  go_wp2
  go_ret
  exact ⟨by rw [← HN.out]; rfl, b1⟩
theorem idxS_any (v : Value) (l : List ByteArray) (w : World) (hL : Ls w v l.length (l.flatMap strB)) : Calls Tryz.prog 100 #[v, .func (.func 77) #[] #[]] w fun e w' => ∃ n : Int, e = .returned (.int .i64 n) ∧ decide (0 ≤ n) = l.any lgN ∧ w' = w := by
  obtain ⟨a, c, rfl, hc1, hc2, hat⟩ := ls_str hL
  have hmax : l.length ≤ maxLen := Nat.le_trans hc1 hc2
  unfold maxLen at hmax
  have HAT := Lib.hid hat
  obtain ⟨R, HR⟩ : ∃ R, Hid (l.any lgN = R) := ⟨_, rfl⟩
  rw [HR.out]
  clear hat hL
  go_enter Tryz.func100, Tryz.ntmps100
  go_wp2
  go_loopw [8] (fun i wr => wr = w ∧ ∃ k : Nat, k ≤ l.length ∧ i = .int .i64 k ∧ Hid ((l.take k).any lgN = false)) (fun i _ => l.length - (intOf i).toNat)
  case atStart => exact ⟨rfl, 0, Nat.zero_le _, rfl, rfl⟩
  case round =>
    obtain ⟨rfl, k, hk, rfl, HA⟩ := hrel
    by_cases hlt : k < l.length
    · have hlt' : (k : Int) < (l.length : Int) := by omega
      have hk0 : (0 : Int) ≤ (k : Int) := by omega
      obtain ⟨g, off, rfl, hg, hT⟩ := HAT.out (by omega)
      have x0 := hT k hlt
      have HC := Lib.hid (isLong_any (atS l k) wr)
      have HNX : Hid ((l.take (k + 1)).any lgN = lgN (atS l k)) := by
        show _ = _
        rw [anyS_take hlt, HA.out, Bool.false_or]
      have HY : Hid (lgN (atS l k) = true → l.any lgN = true) := anyS_yes hlt
      generalize atS l k = p at x0 HC HNX HY
      clear hT
      cases hq : lgN p
      · rw [hq] at HC HNX
        clear hq HY
        go_wp2_with fail
        refine HC.out.mono ?_
        rintro e w' ⟨rfl, rfl⟩
        clear HC
        go_wp2
        go_roundw
        case rel => exact ⟨by first | rfl | trivial, k + 1, by omega, by go_num, HNX⟩
        case measure => simp [intOf]; omega
      · have HF : Hid (R = true) := by show R = _; rw [← HR.out]; exact HY.out hq
        rw [hq] at HC
        clear hq HY
        go_wp2_with fail
        refine HC.out.mono ?_
        rintro e w' ⟨rfl, rfl⟩
        clear HC
        go_wp2
        go_ret
        exact ⟨k, rfl, by rw [HF.out]; exact decide_eq_true (by omega), rfl⟩
    · obtain rfl : k = l.length := by omega
      rw [List.take_length] at HA
      have HF : Hid (R = false) := by show R = _; rw [← HR.out]; exact HA.out
      clear HA
      go_wp2
      go_ret
      exact ⟨-1, rfl, by rw [HF.out]; rfl, rfl⟩
theorem cntS_any (v : Value) (l : List ByteArray) (w : World) (hL : Ls w v l.length (l.flatMap strB)) : Calls Tryz.prog 76 #[v, .func (.func 77) #[] #[]] w fun e w' => e = .returned (.bool (l.any lgN)) ∧ w' = w := by
  have HI := Lib.hid (idxS_any v l w hL)
  generalize l.any lgN = b at HI ⊢
  clear hL
  go_enter Tryz.func76, Tryz.ntmps76
  go_wp2_with fail
  refine HI.out.mono ?_
  rintro e w' ⟨n, rfl, hn, rfl⟩
  have HN := Lib.hid hn
  clear hn HI
  go_wp2
  go_ret
  exact ⟨by rw [← HN.out]; rfl, rfl⟩
theorem inputPreds_any (v v' : Value) (l : List Pd) (vs : List ByteArray) (w : World) (h1 : Ls w v l.length (l.flatMap Pd.cells)) (h2 : Ls w v' vs.length (vs.flatMap strB)) :
    Calls Tryz.prog 60 #[v, v'] w fun e w' => e = .returned (.int .i64 (inpE l vs)) ∧ Below w.heap.size w w' := by
  have HC1 := Lib.hid (cntG_any v l w h1)
  have HC2 : Hid (∀ u, Below w.heap.size w u → _) := fun u hu => cntS_any v' vs u (h2.below hu)
  have HC3 : Hid (∀ u, Below w.heap.size w u → _) := fun u hu => cntR_any v l u (h1.below hu)
  have HD : Hid (inpE l vs = if (l.any lgP || vs.any lgN) = true then 70 else if l.any rsP = true then 71 else 0) := rfl
  generalize inpE l vs = er at HD ⊢
  generalize l.any lgP = b1 at HC1 HD
  generalize vs.any lgN = b2 at HC2 HD
  generalize l.any rsP = b3 at HC3 HD
  clear h1 h2
  go_enter Tryz.func60, Tryz.ntmps60
  cases b1
  · go_wp2_with fail
    refine HC1.out.mono ?_
    rintro e w1 ⟨rfl, k1⟩
    have HK1 := Lib.hid k1
    have HD2 := Lib.hid (HC2.out w1 k1)
    clear k1 HC1 HC2
    cases b2
    · go_wp2_with fail
      refine HD2.out.mono ?_
      rintro e w2 ⟨rfl, rfl⟩
      have HD3 := Lib.hid (HC3.out _ HK1.out)
      clear HD2 HC3
      cases b3
      · go_wp2_with fail
        refine HD3.out.mono ?_
        rintro e w3 ⟨rfl, k3⟩
        have HK3 : Hid (Below w.heap.size w w3) := HK1.out.trans (k3.mono HK1.out.size)
        clear k3 HD3
        go_wp2
        go_ret
        exact ⟨by rw [HD.out]; rfl, HK3.out⟩
      · go_wp2_with fail
        refine HD3.out.mono ?_
        rintro e w3 ⟨rfl, k3⟩
        have HK3 : Hid (Below w.heap.size w w3) := HK1.out.trans (k3.mono HK1.out.size)
        clear k3 HD3
        go_wp2
        go_ret
        exact ⟨by rw [HD.out]; rfl, HK3.out⟩
    · go_wp2_with fail
      refine HD2.out.mono ?_
      rintro e w2 ⟨rfl, rfl⟩
      clear HD2 HC3
      go_wp2
      go_ret
      exact ⟨by rw [HD.out]; rfl, HK1.out⟩
  · go_wp2_with fail
    refine HC1.out.mono ?_
    rintro e w1 ⟨rfl, k1⟩
    have HK1 := Lib.hid k1
    clear k1 HC1 HC2 HC3
    go_wp2
    go_ret
    exact ⟨by rw [HD.out]; rfl, HK1.out⟩
end Go.Proofs.YtlnioaokpmeioaaGreatDoor
end
section
namespace Go.Proofs.YtlnioaokpmeioaaGreatDoor
open Go.RowKit Go.Maps
set_option linter.unusedVariables false
set_option linter.unusedSimpArgs false
attribute [local go_sem ↓] Go.wp_at_zero Go.wp_at_succ

theorem checkAtom_any (pred : ByteArray) (v : Value) (l : List T) (w : World) (hp : pred.size ≤ maxLen) (hl : Lt w v l) : Calls Tryz.prog 10 #[.agg #[.string pred, v]] w fun e w' => e = .returned (.int .i64 (errB (atomB pred l))) ∧ Below w.heap.size w w' := by
  obtain ⟨a, c, rfl, hc1, hc2, -⟩ := hl.form
  have b0 := (Below.refl w.heap.size w).alloc (Nat.le_refl _) (.cells #[.string pred, .slice a l.length c] 26)
  go_enter Tryz.func10, Tryz.ntmps10
  go_wp2_with fail
  refine (isAtom_any pred _ l _ hp (hl.below b0)).mono ?_
  rintro e w1 ⟨rfl, b1⟩
  go_wp2_with fail
  refine (verdict_any _ _).mono ?_
  rintro e w2 ⟨rfl, rfl⟩
  go_wp2
  go_ret
  exact ⟨rfl, b0.trans (b1.mono b0.size)⟩
theorem bd_terms (d : Nat) : ∀ l : List XL, l.length ≤ (l.flatMap (fun y => termsL (d + 1) y.x)).length
  | [] => Nat.le_refl _
  | y :: l => by
    have := bd_terms d l
    rw [List.flatMap_cons, List.length_append, List.length_cons]
    have h2 : 1 ≤ (termsL (d + 1) y.x).length := by
      unfold termsL
      rw [termsD_succ]
      simp only [List.length_append, List.length_cons]
      omega
    omega
theorem ps_len (d : Nat) : ∀ (rs : List XR) (fs : List XF), (psS rs fs).length ≤ rs.length + (rs.flatMap (fun y => termsR (d + 1) y.r)).length + fs.length
  | [], fs => by unfold psS; simp
  | y :: rs, fs => by
    have h1 := ps_len d rs fs
    unfold psS at h1 ⊢
    rw [List.length_append] at h1 ⊢
    rw [List.flatMap_cons, List.flatMap_cons, List.length_append, List.length_append, List.length_cons]
    have h2 := stR_len y.r
    have h3 := bd_terms d y.r.bd
    have h4 : (y.r.bd.flatMap (fun z => termsL (d + 1) z.x)).length ≤ (termsR (d + 1) y.r).length := by unfold termsR; rw [List.length_append]; omega
    omega
set_option maxHeartbeats 800000 in
theorem beyondJob_any (d : Nat) (v u : Value) (l : List XR) (m : List XF) (w : World) (hll : l.length ≤ 281474976710656) (hlm : m.length ≤ 281474976710656) (hL : Lr w v d l) (hM : Lf w u m) :
    Calls Tryz.prog 5 #[v, u] w fun e w' => ∃ b : Bool, e = .returned (.bool b) ∧ Below w.heap.size w w' ∧ (b = false → smallS d l ∧ smallF m) := by
  have HR : Hid _ := beyondRules_any d v l w hll hL
  have HF : Hid (∀ w', Below w.heap.size w w' → Calls Tryz.prog 14 #[u] w' fun e w2 => ∃ b : Bool, e = .returned (.bool b) ∧ Below w'.heap.size w' w2 ∧ (b = false → smallF m)) := fun w' hb => beyondFacts_any u m w' hlm (hM.below hb)
  obtain ⟨a, c, rfl, hc1, hc2, -⟩ := hL.form
  obtain ⟨a2, c2, rfl, hd1, hd2, -⟩ := hM.form
  clear hL hM
  go_enter Tryz.func5, Tryz.ntmps5
  go_wp2_with fail
  refine Calls.mono HR.out ?_
  rintro e w1 ⟨b, rfl, b1, hs⟩
  have HS : Hid _ := hs
  have HB1 : Hid _ := b1
  clear hs b1
  cases b
  · go_wp2_with fail
    refine Calls.mono (HF.out _ HB1.out) ?_
    rintro e w2 ⟨b2, rfl, b2', hs2⟩
    have HS2 : Hid _ := hs2
    clear hs2
    go_wp2
    go_ret
    exact ⟨b2, rfl, HB1.out.trans (b2'.mono HB1.out.size), fun h => ⟨HS.out (by first | rfl | trivial), HS2.out h⟩⟩
  · go_wp2
    go_ret
    exact ⟨true, rfl, HB1.out, fun h => by cases h⟩
attribute [-go_sem] loadVar storeVar Builtin.append_
theorem load_pg {u : World} {b : Nat} {v : Value} (h : RL u b 41 [v]) : (loadVar 41 ⟨b, 0, none⟩).run Tryz.prog u = .ok (.agg #[v]) u :=
  run_loadVar_mid _ _ 0 41 [v] _ (RL.range h) Tryz.underlying41 rfl (by kernel_rfl)
theorem store_pg (u : World) (a : Option Addr) (n c : Nat) : (storeVar 41 ⟨u.heap.size, 0, none⟩ (.agg #[.slice a n c])).run Tryz.prog (u.alloc (.cells #[.slice none 0 0] 41)) = .ok () (u.alloc (.cells #[.slice a n c] 41)) :=
  run_storeVar_new u 41 #[.slice none 0 0] #[.slice a n c] (by kernel_rfl) rfl (by simp [Value.oneCell'])
theorem load_vals {u : World} {a : Addr} {b : Option Addr} {n c : Nat} (h : u.cell? a = some (.slice b n c)) : (loadVar 76 a).run Tryz.prog u = .ok (.slice b n c) u := by rw [loadVar.eq_1]; go_simp
/-- what Meet of one fact's predicate comes to -/
def MoP (w W0 : World) (kn : List Pd) (p : Pd) (nv : Value) (ok : Bool) (u : World) : Prop :=
  Below w.heap.size w u ∧ Below W0.heap.size W0 u ∧ ((ok = true ∧ ∃ r, meetL kn [p] = some r ∧ Ls u nv r.length (r.flatMap Pd.cells)) ∨ (ok = false ∧ meetL kn [p] = none ∧ nv = .slice none 0 0))
theorem ls_nilP (u : World) : Ls u (.slice none 0 0) ([] : List Pd).length (([] : List Pd).flatMap Pd.cells) := ⟨by show 0 ≤ _; omega, none, 0, rfl, Nat.le_refl _, by decide, fun h => absurd (show (0 : Nat) < 0 from h) (by omega)⟩
theorem meetL_len : ∀ (l k r : List Pd), meetL k l = some r → r.length ≤ k.length + l.length
  | [], k, r, h => by
    rw [meetL] at h
    cases h
    simp
  | p :: l, k, r, h => by
    rw [meetL] at h
    cases hq : seekP k p.n with
    | none =>
      rw [hq] at h
      have := meetL_len l _ r h
      have h2 := (insP_perm k p).length_eq
      rw [List.length_append, List.length_singleton] at h2
      rw [List.length_cons]
      omega
    | some q =>
      rw [hq] at h
      simp only at h
      split at h
      · have := meetL_len l _ r h
        rw [List.length_cons]
        omega
      · cases h
theorem ls_nilS (u : World) : Ls u (.slice none 0 0) ([] : List ByteArray).length (([] : List ByteArray).flatMap strB) := ⟨by show 0 ≤ _; omega, none, 0, rfl, Nat.le_refl _, by decide, fun h => absurd (show (0 : Nat) < 0 from h) (by omega)⟩
theorem atomB_lenI {p : ByteArray} {l : List T} (h : atomB p l = true) : l.length ≤ 24 := by
  unfold atomB at h
  simp only [Bool.and_eq_true, decide_eq_true_eq] at h
  exact h.1.2
theorem load_atomV {u : World} {b : Nat} {s : ByteArray} {v : Value} (h : RL u b 26 [.string s, v]) : (loadVar 26 ⟨b, 0, none⟩).run Tryz.prog u = .ok (.agg #[.string s, v]) u :=
  run_loadVar_mid _ _ 0 26 [.string s, v] _ (RL.range h) Tryz.underlying26 rfl (by kernel_rfl)
theorem load_predV {u : World} {b : Nat} {s : ByteArray} {v : Value} (h : RL u b 49 [.string s, v]) : (loadVar 49 ⟨b, 0, none⟩).run Tryz.prog u = .ok (.agg #[.string s, v]) u :=
  run_loadVar_mid _ _ 0 49 [.string s, v] _ (RL.range h) Tryz.underlying49 rfl (by kernel_rfl)
end Go.Proofs.YtlnioaokpmeioaaGreatDoor
end
section
namespace Go.Proofs.YtlnioaokpmeioaaGreatDoor
open Go.RowKit Go.Maps
set_option linter.unusedVariables false
set_option linter.unusedSimpArgs false

theorem geRf (x y : Operand) (A B : Array Value) (u : World) : (eqGuard .eql 38 x y (.agg A) (.agg B)).run Tryz.prog u = .ok () u := by
  unfold eqGuard
  go_simp
theorem run_eqRf (p1 p2 p3 : Int) (u : World) : (binOp .eql 38 (.agg #[.int .i8 p1, .int .i64 p2, .int .i64 p3]) (.agg #[.int .i8 p1, .int .i64 p2, .int .i64 p3])).run Tryz.prog u = .ok (.bool true) u := by
  go_simp
def ciquery_takes : List (List Nat × Nat) := [([], 0), ([0], 1), ([0, 1], 3), ([0, 1, 3, 2, 4, 5], 6)]
set_option maxHeartbeats 3200000 in
theorem ciquery {ops : Array Oper} {Q : Exit → Act → World → Prop} {S : World → Prop} {a0 : Act} {w5 : World} {b : Nat} {av pv mv : Value} {er : Int} {ty1 ty2 ty3 : Array TypeId} {P : World → Prop}
    (q0 : isOpG ops 0 none (.move (.tmp 0)) (some 11))
    (q1 : isOpG ops 1 none (.load 26 (.tmp 3)) (some 12))
    (q3 : isOpG ops 3 none (.load 26 (.tmp 3)) (some 14))
    (q2 : isOpG ops 2 none (.call { callee := .value (.func 44), args := #[.tmp 12], argTypes := ty1 }) (some 13))
    (q4 : isOpG ops 4 none (.call { callee := .value (.func 45), args := #[.tmp 14], argTypes := ty2 }) (some 15))
    (q5 : isOpG ops 5 none (.call { callee := .value (.func 43), args := #[.tmp 11, .tmp 13, .tmp 15], argTypes := ty3 }) (some 16))
    (q6 : isOpG ops 6 none (.assign (.tmp 16)) (some 4))
    (hs : Region.noSelect ops = true) (hq : (ciquery_takes.all fun p => Region.free .any ops (LR 7 p.1) p.2 && (Region.ready .any ops (LR 7 p.1)).contains p.2) = true)
    (r2 : Region.ready .any ops (LR 7 [0, 1, 3]) = [2])
    (r4 : Region.ready .any ops (LR 7 [0, 1, 3, 2]) = [4])
    (r5 : Region.ready .any ops (LR 7 [0, 1, 3, 2, 4]) = [5])
    (rend : Region.ready .any ops (LR 7 [0, 1, 3, 2, 4, 5, 6]) = [])
    (hQ : ∀ (d : Option Tmp) (v : Value) c a w, Q (.panic c) (a.put d v) w → Q (.panic c) a w)
    (hsz : 16 < a0.tmps.size) (e0 : a0.eval (.tmp 0) = mv) (e3 : a0.eval (.tmp 3) = .pointer (some ⟨b, 0, none⟩))
    (hS0 : S w5.drew)
    (keep : ∀ u u', S u → S u' → S u') (LAT : ∀ u, S u → (loadVar 26 ⟨b, 0, none⟩).run Tryz.prog u = .ok av u)
    (C1 : Calls Tryz.prog 44 #[av] w5.drew fun e u1 => e = .returned pv ∧ S u1 ∧ Calls Tryz.prog 45 #[av] u1 fun e u2 => ∃ sv2, e = .returned sv2 ∧ S u2 ∧ Calls Tryz.prog 43 #[mv, pv, sv2] u2 fun e u3 => e = .returned (.int .i64 er) ∧ S u3 ∧ P u3)
    (F : ∀ (wc : World) (sv2 : Value), P wc → Q .normal (((((((a0.put (some 11) (mv)).put (some 12) (av)).put (some 14) (av)).put (some 13) (pv)).put (some 15) (sv2)).put (some 16) (.int .i64 er)).put (some 4) (.int .i64 er)) wc) :
    wpAnyH Tryz.prog .any ops Q S 7 (LR 7 []) a0 w5.drew := by
  have hall : ∀ p ∈ ciquery_takes, Region.free .any ops (LR 7 p.1) p.2 = true ∧ (Region.ready .any ops (LR 7 p.1)).contains p.2 = true := by
    intro p hp
    have := List.all_eq_true.1 hq p hp
    simpa using this
  unfold ciquery_takes at hall
  obtain ⟨o0, ho, hg, hop, hd⟩ := isOpG_out q0
  have hfr := hall ([], 0) (by simp)
  refine wpAnyH_take (listed := LR 7 []) (v := mv) ho hs hfr.1 hfr.2 (hQ _ _) (Or.inl ⟨(wantedN hg), fun w' hS => run_move _ _ hop w' (by (repeat rw [eval_far _ _ (by decide)]); exact e0)⟩) hS0 ?_
  rw [hd, ← LR_snoc]
  clear ho hg hop hd hfr
  obtain ⟨o1, ho, hg, hop, hd⟩ := isOpG_out q1
  have hfr := hall ([0], 1) (by simp)
  refine wpAnyH_take (listed := LR 7 [0]) (v := av) ho hs hfr.1 hfr.2 (hQ _ _) (Or.inl ⟨(wantedN hg), fun w' hS => run_loadS _ _ hop w' (by (repeat rw [eval_far _ _ (by decide)]); exact e3) (LAT _ hS)⟩) hS0 ?_
  rw [hd, ← LR_snoc]
  clear ho hg hop hd hfr
  obtain ⟨o3, ho, hg, hop, hd⟩ := isOpG_out q3
  have hfr := hall ([0, 1], 3) (by simp)
  refine wpAnyH_take (listed := LR 7 [0, 1]) (v := av) ho hs hfr.1 hfr.2 (hQ _ _) (Or.inl ⟨(wantedN hg), fun w' hS => run_loadS _ _ hop w' (by (repeat rw [eval_far _ _ (by decide)]); exact e3) (LAT _ hS)⟩) hS0 ?_
  rw [hd, ← LR_snoc]
  clear ho hg hop hd hfr
  refine wpAnyH_all r2 (by simp) ?_
  intro i hi
  obtain rfl := List.mem_singleton.1 hi
  obtain ⟨o2, ho, hg, hop, hd⟩ := isOpG_out q2
  have x2_0 : ((((a0.put (some 11) (mv)).put (some 12) (av)).put (some 14) (av))).eval (.tmp 12) = av := (by (repeat (first | rw [eval_same _ _ (by (try simp only [put_size]); omega)] | rw [eval_far _ _ (by decide)])))
  refine wpOp_callG ho (wantedN hg) (run_callV 44 Tryz.func44 (by kernel_rfl) (by kernel_rfl) #[.tmp 12] _ hop #[av] (by simp only [List.map_toArray, List.map_cons, List.map_nil, x2_0])) ?_
  refine (C1).mono ?_
  rintro e u1 ⟨rfl, hS1, C2⟩
  have hS2 := keep _ _ hS0 hS1
  refine ⟨_, rfl, hS2, ?_⟩
  rw [hd]
  clear ho hg hop hd
  rw [← LR_snoc]
  refine wpAnyH_all r4 (by simp) ?_
  intro i hi
  obtain rfl := List.mem_singleton.1 hi
  obtain ⟨o4, ho, hg, hop, hd⟩ := isOpG_out q4
  have x4_0 : (((((a0.put (some 11) (mv)).put (some 12) (av)).put (some 14) (av)).put (some 13) (pv))).eval (.tmp 14) = av := (by (repeat (first | rw [eval_same _ _ (by (try simp only [put_size]); omega)] | rw [eval_far _ _ (by decide)])))
  refine wpOp_callG ho (wantedN hg) (run_callV 45 Tryz.func45 (by kernel_rfl) (by kernel_rfl) #[.tmp 14] _ hop #[av] (by simp only [List.map_toArray, List.map_cons, List.map_nil, x4_0])) ?_
  refine (C2).mono ?_
  rintro e u2 ⟨sv2, rfl, hS2, C3⟩
  have hS4 := keep _ _ hS2 hS2
  refine ⟨_, rfl, hS4, ?_⟩
  rw [hd]
  clear ho hg hop hd
  rw [← LR_snoc]
  refine wpAnyH_all r5 (by simp) ?_
  intro i hi
  obtain rfl := List.mem_singleton.1 hi
  obtain ⟨o5, ho, hg, hop, hd⟩ := isOpG_out q5
  have x5_0 : ((((((a0.put (some 11) (mv)).put (some 12) (av)).put (some 14) (av)).put (some 13) (pv)).put (some 15) (sv2))).eval (.tmp 11) = mv := (by (repeat (first | rw [eval_same _ _ (by (try simp only [put_size]); omega)] | rw [eval_far _ _ (by decide)])))
  have x5_1 : ((((((a0.put (some 11) (mv)).put (some 12) (av)).put (some 14) (av)).put (some 13) (pv)).put (some 15) (sv2))).eval (.tmp 13) = pv := (by (repeat (first | rw [eval_same _ _ (by (try simp only [put_size]); omega)] | rw [eval_far _ _ (by decide)])))
  have x5_2 : ((((((a0.put (some 11) (mv)).put (some 12) (av)).put (some 14) (av)).put (some 13) (pv)).put (some 15) (sv2))).eval (.tmp 15) = sv2 := (by (repeat (first | rw [eval_same _ _ (by (try simp only [put_size]); omega)] | rw [eval_far _ _ (by decide)])))
  refine wpOp_callG ho (wantedN hg) (run_callV 43 Tryz.func43 (by kernel_rfl) (by kernel_rfl) #[.tmp 11, .tmp 13, .tmp 15] _ hop #[mv, pv, sv2] (by simp only [List.map_toArray, List.map_cons, List.map_nil, x5_0, x5_1, x5_2])) ?_
  refine (C3).mono ?_
  rintro e u3 ⟨rfl, hS3, hP⟩
  have hS5 := keep _ _ hS4 hS3
  refine ⟨_, rfl, hS5, ?_⟩
  rw [hd]
  clear ho hg hop hd
  rw [← LR_snoc]
  obtain ⟨o6, ho, hg, hop, hd⟩ := isOpG_out q6
  have hfr := hall ([0, 1, 3, 2, 4, 5], 6) (by simp)
  refine wpAnyH_take (listed := LR 7 [0, 1, 3, 2, 4, 5]) (v := .int .i64 er) ho hs hfr.1 hfr.2 (hQ _ _) (Or.inl ⟨(wantedN hg), fun w' hS => run_assignV _ _ hop w' (by (repeat (first | rw [eval_same _ _ (by (try simp only [put_size]); omega)] | rw [eval_far _ _ (by decide)])))⟩) hS5 ?_
  rw [hd, ← LR_snoc]
  clear ho hg hop hd hfr
  exact wpAnyH_done rend (F _ sv2 hP) _
def cirule_takes : List (List Nat × Nat) := [([], 0), ([0], 2), ([0, 2, 1, 3, 4], 5)]
set_option maxHeartbeats 3200000 in
theorem cirule {ops : Array Oper} {Q : Exit → Act → World → Prop} {S : World → Prop} {a0 : Act} {w5 : World} {b : Nat} {rv : Value} {er : Int} {ty1 ty2 ty3 : Array TypeId}
    (q0 : isOpG ops 0 none (.load 72 (.tmp 1)) (some 14))
    (q2 : isOpG ops 2 none (.load 72 (.tmp 1)) (some 16))
    (q1 : isOpG ops 1 none (.call { callee := .value (.func 24), args := #[.tmp 14], argTypes := ty1 }) (some 15))
    (q3 : isOpG ops 3 none (.call { callee := .value (.func 38), args := #[.tmp 16], argTypes := ty2 }) (some 17))
    (q4 : isOpG ops 4 none (.call { callee := .value (.func 60), args := #[.tmp 15, .tmp 17], argTypes := ty3 }) (some 18))
    (q5 : isOpG ops 5 none (.assign (.tmp 18)) (some 4))
    (hs : Region.noSelect ops = true) (hq : (cirule_takes.all fun p => Region.free .any ops (LR 6 p.1) p.2 && (Region.ready .any ops (LR 6 p.1)).contains p.2) = true)
    (r1 : Region.ready .any ops (LR 6 [0, 2]) = [1])
    (r3 : Region.ready .any ops (LR 6 [0, 2, 1]) = [3])
    (r4 : Region.ready .any ops (LR 6 [0, 2, 1, 3]) = [4])
    (rend : Region.ready .any ops (LR 6 [0, 2, 1, 3, 4, 5]) = [])
    (hQ : ∀ (d : Option Tmp) (v : Value) c a w, Q (.panic c) (a.put d v) w → Q (.panic c) a w)
    (hsz : 18 < a0.tmps.size) (e1 : a0.eval (.tmp 1) = .pointer (some ⟨b, 0, none⟩))
    (hS0 : S w5.drew)
    (keep : ∀ u u', S u → S u' → S u') (LRU : ∀ u, S u → (loadVar 72 ⟨b, 0, none⟩).run Tryz.prog u = .ok rv u)
    (C1 : Calls Tryz.prog 24 #[rv] w5.drew fun e u1 => ∃ sv1, e = .returned sv1 ∧ S u1 ∧ Calls Tryz.prog 38 #[rv] u1 fun e u2 => ∃ sv2, e = .returned sv2 ∧ S u2 ∧ Calls Tryz.prog 60 #[sv1, sv2] u2 fun e u3 => e = .returned (.int .i64 er) ∧ S u3)
    (F : ∀ (wc : World) (sv1 sv2 : Value), S wc → Q .normal ((((((a0.put (some 14) (rv)).put (some 16) (rv)).put (some 15) (sv1)).put (some 17) (sv2)).put (some 18) (.int .i64 er)).put (some 4) (.int .i64 er)) wc) :
    wpAnyH Tryz.prog .any ops Q S 6 (LR 6 []) a0 w5.drew := by
  have hall : ∀ p ∈ cirule_takes, Region.free .any ops (LR 6 p.1) p.2 = true ∧ (Region.ready .any ops (LR 6 p.1)).contains p.2 = true := by
    intro p hp
    have := List.all_eq_true.1 hq p hp
    simpa using this
  unfold cirule_takes at hall
  obtain ⟨o0, ho, hg, hop, hd⟩ := isOpG_out q0
  have hfr := hall ([], 0) (by simp)
  refine wpAnyH_take (listed := LR 6 []) (v := rv) ho hs hfr.1 hfr.2 (hQ _ _) (Or.inl ⟨(wantedN hg), fun w' hS => run_loadS _ _ hop w' (by (repeat rw [eval_far _ _ (by decide)]); exact e1) (LRU _ hS)⟩) hS0 ?_
  rw [hd, ← LR_snoc]
  clear ho hg hop hd hfr
  obtain ⟨o2, ho, hg, hop, hd⟩ := isOpG_out q2
  have hfr := hall ([0], 2) (by simp)
  refine wpAnyH_take (listed := LR 6 [0]) (v := rv) ho hs hfr.1 hfr.2 (hQ _ _) (Or.inl ⟨(wantedN hg), fun w' hS => run_loadS _ _ hop w' (by (repeat rw [eval_far _ _ (by decide)]); exact e1) (LRU _ hS)⟩) hS0 ?_
  rw [hd, ← LR_snoc]
  clear ho hg hop hd hfr
  refine wpAnyH_all r1 (by simp) ?_
  intro i hi
  obtain rfl := List.mem_singleton.1 hi
  obtain ⟨o1, ho, hg, hop, hd⟩ := isOpG_out q1
  have x1_0 : (((a0.put (some 14) (rv)).put (some 16) (rv))).eval (.tmp 14) = rv := (by (repeat (first | rw [eval_same _ _ (by (try simp only [put_size]); omega)] | rw [eval_far _ _ (by decide)])))
  refine wpOp_callG ho (wantedN hg) (run_callV 24 Tryz.func24 (by kernel_rfl) (by kernel_rfl) #[.tmp 14] _ hop #[rv] (by simp only [List.map_toArray, List.map_cons, List.map_nil, x1_0])) ?_
  refine (C1).mono ?_
  rintro e u1 ⟨sv1, rfl, hS1, C2⟩
  have hS1 := keep _ _ hS0 hS1
  refine ⟨_, rfl, hS1, ?_⟩
  rw [hd]
  clear ho hg hop hd
  rw [← LR_snoc]
  refine wpAnyH_all r3 (by simp) ?_
  intro i hi
  obtain rfl := List.mem_singleton.1 hi
  obtain ⟨o3, ho, hg, hop, hd⟩ := isOpG_out q3
  have x3_0 : ((((a0.put (some 14) (rv)).put (some 16) (rv)).put (some 15) (sv1))).eval (.tmp 16) = rv := (by (repeat (first | rw [eval_same _ _ (by (try simp only [put_size]); omega)] | rw [eval_far _ _ (by decide)])))
  refine wpOp_callG ho (wantedN hg) (run_callV 38 Tryz.func38 (by kernel_rfl) (by kernel_rfl) #[.tmp 16] _ hop #[rv] (by simp only [List.map_toArray, List.map_cons, List.map_nil, x3_0])) ?_
  refine (C2).mono ?_
  rintro e u2 ⟨sv2, rfl, hS2, C3⟩
  have hS3 := keep _ _ hS1 hS2
  refine ⟨_, rfl, hS3, ?_⟩
  rw [hd]
  clear ho hg hop hd
  rw [← LR_snoc]
  refine wpAnyH_all r4 (by simp) ?_
  intro i hi
  obtain rfl := List.mem_singleton.1 hi
  obtain ⟨o4, ho, hg, hop, hd⟩ := isOpG_out q4
  have x4_0 : (((((a0.put (some 14) (rv)).put (some 16) (rv)).put (some 15) (sv1)).put (some 17) (sv2))).eval (.tmp 15) = sv1 := (by (repeat (first | rw [eval_same _ _ (by (try simp only [put_size]); omega)] | rw [eval_far _ _ (by decide)])))
  have x4_1 : (((((a0.put (some 14) (rv)).put (some 16) (rv)).put (some 15) (sv1)).put (some 17) (sv2))).eval (.tmp 17) = sv2 := (by (repeat (first | rw [eval_same _ _ (by (try simp only [put_size]); omega)] | rw [eval_far _ _ (by decide)])))
  refine wpOp_callG ho (wantedN hg) (run_callV 60 Tryz.func60 (by kernel_rfl) (by kernel_rfl) #[.tmp 15, .tmp 17] _ hop #[sv1, sv2] (by simp only [List.map_toArray, List.map_cons, List.map_nil, x4_0, x4_1])) ?_
  refine (C3).mono ?_
  rintro e u3 ⟨rfl, hS3⟩
  have hS4 := keep _ _ hS3 hS3
  refine ⟨_, rfl, hS4, ?_⟩
  rw [hd]
  clear ho hg hop hd
  rw [← LR_snoc]
  obtain ⟨o5, ho, hg, hop, hd⟩ := isOpG_out q5
  have hfr := hall ([0, 2, 1, 3, 4], 5) (by simp)
  refine wpAnyH_take (listed := LR 6 [0, 2, 1, 3, 4]) (v := .int .i64 er) ho hs hfr.1 hfr.2 (hQ _ _) (Or.inl ⟨(wantedN hg), fun w' hS => run_assignV _ _ hop w' (by (repeat (first | rw [eval_same _ _ (by (try simp only [put_size]); omega)] | rw [eval_far _ _ (by decide)])))⟩) hS4 ?_
  rw [hd, ← LR_snoc]
  clear ho hg hop hd hfr
  exact wpAnyH_done rend (F _ sv1 sv2 hS4) _
end Go.Proofs.YtlnioaokpmeioaaGreatDoor
end
