import Derived.Test.YtmmkpcbelofkmaaGreatDoorG35
import Derived.Test.YtmmkpcbelofkmaaGreatDoorG33
import Derived.Test.YtmmkpcbelofkmaaGreatDoorG7
import Derived.Test.YtmmkpcbelofkmaaGreatDoorG28
import Derived.Test.YtmmkpcbelofkmaaGreatDoorG30
import Derived.Test.YtmmkpcbelofkmaaGreatDoorG36
import Derived.Test.YtmmkpcbelofkmaaGreatDoorG43
section
namespace Go.Proofs.YtmmkpcbelofkmaaGreatDoor
open Go.RowKit Go.Maps
set_option linter.unusedVariables false
set_option linter.unusedSimpArgs false
attribute [local go_sem ↓] Go.wp_at_zero Go.wp_at_succ

/-- longer than a user's name may be -/
def lgN (s : ByteArray) : Bool := decide (24 < s.size)
def lgP (p : Pd) : Bool := lgN p.n || decide (8 < p.a)
def rsN (s : ByteArray) : Bool := Lib.hasPrefix s.data.toList [113, 95]
def rsP (p : Pd) : Bool := rsN p.n
/-- what is wrong with predicates and variables of a user -/
def inpE (l : List Pd) (vs : List ByteArray) : Int := if (l.any lgP || vs.any lgN) = true then 70 else if l.any rsP = true then 71 else 0
theorem anyP_take {B : Pd → Bool} {l : List Pd} {k : Nat} (h : k < l.length) : (l.take (k + 1)).any B = ((l.take k).any B || B (atPd l k)) := by
  rw [takePd h, List.any_append]
  simp
theorem anyS_take {B : ByteArray → Bool} {l : List ByteArray} {k : Nat} (h : k < l.length) : (l.take (k + 1)).any B = ((l.take k).any B || B (atS l k)) := by
  have e : l.take (k + 1) = l.take k ++ [l[k]] := by rw [List.take_add_one, List.getElem?_eq_getElem h]; rfl
  rw [e, List.any_append, atS_eq h]
  simp
theorem anyP_yes {B : Pd → Bool} {l : List Pd} {k : Nat} (h : k < l.length) (hb : B (atPd l k) = true) : l.any B = true := List.any_eq_true.2 ⟨_, by rw [atPd_eq h]; exact List.getElem_mem h, hb⟩
theorem anyS_yes {B : ByteArray → Bool} {l : List ByteArray} {k : Nat} (h : k < l.length) (hb : B (atS l k) = true) : l.any B = true := List.any_eq_true.2 ⟨_, by rw [atS_eq h]; exact List.getElem_mem h, hb⟩
theorem isLong_any (s : ByteArray) (w : World) : Calls Tryz.prog 93 #[.string s] w fun e w' => e = .returned (.bool (lgN s)) ∧ w' = w := by
  have HD : Hid (lgN s = decide (24 < s.size)) := rfl
  rw [HD.out]
  by_cases h : 24 < s.size
  · have h1 : ((24 : Int) < (s.size : Int)) := by omega
    have HE : Hid (decide (24 < s.size) = true) := decide_eq_true h
    rw [HE.out]
    clear h
    go_enter Tryz.func93, Tryz.ntmps93
    go_wp2
    go_ret
    exact ⟨rfl, rfl⟩
  · have h1 : ¬ ((24 : Int) < (s.size : Int)) := by omega
    have HE : Hid (decide (24 < s.size) = false) := decide_eq_false h
    rw [HE.out]
    clear h
    go_enter Tryz.func93, Tryz.ntmps93
    go_wp2
    go_ret
    exact ⟨rfl, rfl⟩
theorem isLarge_any (p : Pd) (w : World) : Calls Tryz.prog 91 #[.agg p.cells.toArray] w fun e w' => e = .returned (.bool (lgP p)) ∧ Below w.heap.size w w' := by
  have HB := Lib.hid (belowA (w := w) (.cells #[.string p.n, .int .i64 (p.a : Int)] 65))
  have r := rl_new w #[.string p.n, .int .i64 (p.a : Int)] 65
  have c0 := r.at (j := 0) rfl
  have c1 := r.at (j := 1) rfl
  have HC := Lib.hid (isLong_any p.n (w.alloc (.cells #[.string p.n, .int .i64 (p.a : Int)] 65)))
  have HD : Hid (lgP p = (lgN p.n || decide (8 < p.a))) := rfl
  obtain ⟨bb, hbb⟩ : ∃ bb, lgP p = bb := ⟨_, rfl⟩
  rw [hbb] at HD ⊢
  unfold Pd.cells
  clear r hbb
  cases hl : lgN p.n
  · rw [hl] at HC HD
    clear hl
    by_cases h : 8 < p.a
    · have h1 : ((8 : Int) < (p.a : Int)) := by omega
      have HE : Hid (bb = true) := by show _ = _; rw [HD.out, decide_eq_true h]; rfl
      clear h
      go_enter Tryz.func91, Tryz.ntmps91
      go_wp2_with fail
      refine HC.out.mono ?_
      rintro e w1 ⟨rfl, rfl⟩
      clear HC
      go_wp2
      go_ret
      exact ⟨by first | (rw [HE.out]; rfl) | rw [HE.out], HB.out⟩
    · have HN : Hid (¬ ((8 : Int) < (p.a : Int))) := by show ¬ _; omega
      have HE : Hid (bb = false) := by show _ = _; rw [HD.out, decide_eq_false h]; rfl
      clear h
      go_enter Tryz.func91, Tryz.ntmps91
      go_wp2_with fail
      refine HC.out.mono ?_
      rintro e w1 ⟨rfl, rfl⟩
      clear HC
      go_wp2
      go_ret
      exact ⟨by rw [HE.out]; show Ending.returned (.bool (decide ((8 : Int) < (p.a : Int)))) = _; rw [decide_eq_false (by have := HN.out; omega)], HB.out⟩
  · rw [hl] at HC HD
    clear hl
    have HE : Hid (bb = true) := HD.out
    go_enter Tryz.func91, Tryz.ntmps91
    go_wp2_with fail
    refine HC.out.mono ?_
    rintro e w1 ⟨rfl, rfl⟩
    clear HC
    go_wp2
    go_ret
    exact ⟨by first | (rw [HE.out]; rfl) | rw [HE.out], HB.out⟩
theorem isReserved_any (p : Pd) (w : World) : Calls Tryz.prog 94 #[.agg p.cells.toArray] w fun e w' => e = .returned (.bool (rsP p)) ∧ Below w.heap.size w w' := by
  have HB := Lib.hid (belowA (w := w) (.cells #[.string p.n, .int .i64 (p.a : Int)] 65))
  have r := rl_new w #[.string p.n, .int .i64 (p.a : Int)] 65
  have c0 := r.at (j := 0) rfl
  have HC : Hid (Calls Tryz.prog 121 #[.string p.n, .string ⟨#[113, 95]⟩] (w.alloc (.cells #[.string p.n, .int .i64 (p.a : Int)] 65)) fun e w' => e = .returned (.bool (rsP p)) ∧ w' = _) := Tryz.strings_HasPrefix p.n ⟨#[113, 95]⟩ _
  generalize rsP p = bb at HC ⊢
  unfold Pd.cells
  clear r
  go_enter Tryz.func94, Tryz.ntmps94
  go_wp2_with fail
  refine HC.out.mono ?_
  rintro e w1 ⟨rfl, rfl⟩
  clear HC
  go_wp2
  go_ret
  exact ⟨rfl, HB.out⟩
theorem idxG_any (v : Value) (l : List Pd) (w : World) (hL : Ls w v l.length (l.flatMap Pd.cells)) : Calls Tryz.prog 119 #[v, .func (.func 91) #[] #[]] w fun e w' => ∃ n : Int, e = .returned (.int .i64 n) ∧ decide (0 ≤ n) = l.any lgP ∧ Below w.heap.size w w' := by
  obtain ⟨a, c, rfl, hc1, hc2, hat⟩ := pd_form hL
  have hmax : l.length ≤ maxLen := Nat.le_trans hc1 hc2
  unfold maxLen at hmax
  have HAT := Lib.hid hat
  obtain ⟨R, HR⟩ : ∃ R, Hid (l.any lgP = R) := ⟨_, rfl⟩
  rw [HR.out]
  clear hat hL
  go_enter Tryz.func119, Tryz.ntmps119
  go_wp2
  go_loopw [8] (fun i wr => ∃ k : Nat, k ≤ l.length ∧ i = .int .i64 k ∧ Hid ((l.take k).any lgP = false) ∧ Hid (Below w.heap.size w wr)) (fun i _ => l.length - (intOf i).toNat)
  case atStart => exact ⟨0, Nat.zero_le _, rfl, rfl, Below.refl _ _⟩
  case round =>
    obtain ⟨k, hk, rfl, HA, HB⟩ := hrel
    by_cases hlt : k < l.length
    · have hlt' : (k : Int) < (l.length : Int) := by omega
      have hk0 : (0 : Int) ≤ (k : Int) := by omega
      obtain ⟨g, off, rfl, hg, hT⟩ := HAT.out (by omega)
      obtain ⟨y0, y1⟩ := pd_cell hg hT HB.out hlt
      have HC := Lib.hid (isLarge_any (atPd l k) wr)
      have HNX : Hid ((l.take (k + 1)).any lgP = lgP (atPd l k)) := by
        show _ = _
        rw [anyP_take hlt, HA.out, Bool.false_or]
      have HY : Hid (lgP (atPd l k) = true → l.any lgP = true) := anyP_yes hlt
      generalize atPd l k = p at y0 y1 HC HNX HY
      unfold Pd.cells at HC
      clear hT
      cases hq : lgP p
      · rw [hq] at HC HNX
        clear hq HY
        go_wp2_with fail
        refine HC.out.mono ?_
        rintro e w' ⟨rfl, b1⟩
        have HB1 : Hid (Below w.heap.size w w') := HB.out.trans (b1.mono HB.out.size)
        clear b1 HC HB y0 y1
        go_wp2
        go_roundw
        case rel => exact ⟨k + 1, by omega, by go_num, HNX, HB1⟩
        case measure => simp [intOf]; omega
      · have HF : Hid (R = true) := by show R = _; rw [← HR.out]; exact HY.out hq
        rw [hq] at HC
        clear hq HY
        go_wp2_with fail
        refine HC.out.mono ?_
        rintro e w' ⟨rfl, b1⟩
        have HB1 : Hid (Below w.heap.size w w') := HB.out.trans (b1.mono HB.out.size)
        clear b1 HC HB y0 y1
        go_wp2
        go_ret
        exact ⟨k, rfl, by rw [HF.out]; exact decide_eq_true (by omega), HB1.out⟩
    · obtain rfl : k = l.length := by omega
      rw [List.take_length] at HA
      have HF : Hid (R = false) := by show R = _; rw [← HR.out]; exact HA.out
      clear HA
      go_wp2
      go_ret
      exact ⟨-1, rfl, by rw [HF.out]; rfl, HB.out⟩
theorem cntG_any (v : Value) (l : List Pd) (w : World) (hL : Ls w v l.length (l.flatMap Pd.cells)) : Calls Tryz.prog 90 #[v, .func (.func 91) #[] #[]] w fun e w' => e = .returned (.bool (l.any lgP)) ∧ Below w.heap.size w w' := by
  have HI := Lib.hid (idxG_any v l w hL)
  generalize l.any lgP = b at HI ⊢
  clear hL
  go_enter Tryz.func90, Tryz.ntmps90
  go_wp2_with fail
  refine HI.out.mono ?_
  rintro e w' ⟨n, rfl, hn, b1⟩
  have HN := Lib.hid hn
  clear hn HI
  go_wp2
  go_ret
  exact ⟨by rw [← HN.out]; rfl, b1⟩
theorem idxR_any (v : Value) (l : List Pd) (w : World) (hL : Ls w v l.length (l.flatMap Pd.cells)) : Calls Tryz.prog 119 #[v, .func (.func 94) #[] #[]] w fun e w' => ∃ n : Int, e = .returned (.int .i64 n) ∧ decide (0 ≤ n) = l.any rsP ∧ Below w.heap.size w w' := by
  obtain ⟨a, c, rfl, hc1, hc2, hat⟩ := pd_form hL
  have hmax : l.length ≤ maxLen := Nat.le_trans hc1 hc2
  unfold maxLen at hmax
  have HAT := Lib.hid hat
  obtain ⟨R, HR⟩ : ∃ R, Hid (l.any rsP = R) := ⟨_, rfl⟩
  rw [HR.out]
  clear hat hL
  go_enter Tryz.func119, Tryz.ntmps119
  go_wp2
  go_loopw [8] (fun i wr => ∃ k : Nat, k ≤ l.length ∧ i = .int .i64 k ∧ Hid ((l.take k).any rsP = false) ∧ Hid (Below w.heap.size w wr)) (fun i _ => l.length - (intOf i).toNat)
  case atStart => exact ⟨0, Nat.zero_le _, rfl, rfl, Below.refl _ _⟩
  case round =>
    obtain ⟨k, hk, rfl, HA, HB⟩ := hrel
    by_cases hlt : k < l.length
    · have hlt' : (k : Int) < (l.length : Int) := by omega
      have hk0 : (0 : Int) ≤ (k : Int) := by omega
      obtain ⟨g, off, rfl, hg, hT⟩ := HAT.out (by omega)
      obtain ⟨y0, y1⟩ := pd_cell hg hT HB.out hlt
      have HC := Lib.hid (isReserved_any (atPd l k) wr)
      have HNX : Hid ((l.take (k + 1)).any rsP = rsP (atPd l k)) := by
        show _ = _
        rw [anyP_take hlt, HA.out, Bool.false_or]
      have HY : Hid (rsP (atPd l k) = true → l.any rsP = true) := anyP_yes hlt
      generalize atPd l k = p at y0 y1 HC HNX HY
      unfold Pd.cells at HC
      clear hT
      cases hq : rsP p
      · rw [hq] at HC HNX
        clear hq HY
        go_wp2_with fail
        refine HC.out.mono ?_
        rintro e w' ⟨rfl, b1⟩
        have HB1 : Hid (Below w.heap.size w w') := HB.out.trans (b1.mono HB.out.size)
        clear b1 HC HB y0 y1
        go_wp2
        go_roundw
        case rel => exact ⟨k + 1, by omega, by go_num, HNX, HB1⟩
        case measure => simp [intOf]; omega
      · have HF : Hid (R = true) := by show R = _; rw [← HR.out]; exact HY.out hq
        rw [hq] at HC
        clear hq HY
        go_wp2_with fail
        refine HC.out.mono ?_
        rintro e w' ⟨rfl, b1⟩
        have HB1 : Hid (Below w.heap.size w w') := HB.out.trans (b1.mono HB.out.size)
        clear b1 HC HB y0 y1
        go_wp2
        go_ret
        exact ⟨k, rfl, by rw [HF.out]; exact decide_eq_true (by omega), HB1.out⟩
    · obtain rfl : k = l.length := by omega
      rw [List.take_length] at HA
      have HF : Hid (R = false) := by show R = _; rw [← HR.out]; exact HA.out
      clear HA
      go_wp2
      go_ret
      exact ⟨-1, rfl, by rw [HF.out]; rfl, HB.out⟩
theorem cntR_any (v : Value) (l : List Pd) (w : World) (hL : Ls w v l.length (l.flatMap Pd.cells)) : Calls Tryz.prog 90 #[v, .func (.func 94) #[] #[]] w fun e w' => e = .returned (.bool (l.any rsP)) ∧ Below w.heap.size w w' := by
  have HI := Lib.hid (idxR_any v l w hL)
  generalize l.any rsP = b at HI ⊢
  clear hL
  go_enter Tryz.func90, Tryz.ntmps90
  go_wp2_with fail
  refine HI.out.mono ?_
  rintro e w' ⟨n, rfl, hn, b1⟩
  have HN := Lib.hid hn
  clear hn HI
  go_wp2
  go_ret
  exact ⟨by rw [← HN.out]; rfl, b1⟩
theorem idxS_any (v : Value) (l : List ByteArray) (w : World) (hL : Ls w v l.length (l.flatMap strB)) : Calls Tryz.prog 120 #[v, .func (.func 93) #[] #[]] w fun e w' => ∃ n : Int, e = .returned (.int .i64 n) ∧ decide (0 ≤ n) = l.any lgN ∧ w' = w := by
  obtain ⟨a, c, rfl, hc1, hc2, hat⟩ := ls_str hL
  have hmax : l.length ≤ maxLen := Nat.le_trans hc1 hc2
  unfold maxLen at hmax
  have HAT := Lib.hid hat
  obtain ⟨R, HR⟩ : ∃ R, Hid (l.any lgN = R) := ⟨_, rfl⟩
  rw [HR.out]
  clear hat hL
  go_enter Tryz.func120, Tryz.ntmps120
  go_wp2
  go_loopw [8] (fun i wr => wr = w ∧ ∃ k : Nat, k ≤ l.length ∧ i = .int .i64 k ∧ Hid ((l.take k).any lgN = false)) (fun i _ => l.length - (intOf i).toNat)
  case atStart => exact ⟨rfl, 0, Nat.zero_le _, rfl, rfl⟩
  case round =>
    obtain ⟨rfl, k, hk, rfl, HA⟩ := hrel
    by_cases hlt : k < l.length
    · have hlt' : (k : Int) < (l.length : Int) := by omega
      have hk0 : (0 : Int) ≤ (k : Int) := by omega
      obtain ⟨g, off, rfl, hg, hT⟩ := HAT.out (by omega)
      have x0 := hT k hlt
      have HC := Lib.hid (isLong_any (atS l k) wr)
      have HNX : Hid ((l.take (k + 1)).any lgN = lgN (atS l k)) := by
        show _ = _
        rw [anyS_take hlt, HA.out, Bool.false_or]
      have HY : Hid (lgN (atS l k) = true → l.any lgN = true) := anyS_yes hlt
      generalize atS l k = p at x0 HC HNX HY
      clear hT
      cases hq : lgN p
      · rw [hq] at HC HNX
        clear hq HY
        go_wp2_with fail
        refine HC.out.mono ?_
        rintro e w' ⟨rfl, rfl⟩
        clear HC
        go_wp2
        go_roundw
        case rel => exact ⟨by first | rfl | trivial, k + 1, by omega, by go_num, HNX⟩
        case measure => simp [intOf]; omega
      · have HF : Hid (R = true) := by show R = _; rw [← HR.out]; exact HY.out hq
        rw [hq] at HC
        clear hq HY
        go_wp2_with fail
        refine HC.out.mono ?_
        rintro e w' ⟨rfl, rfl⟩
        clear HC
        go_wp2
        go_ret
        exact ⟨k, rfl, by rw [HF.out]; exact decide_eq_true (by omega), rfl⟩
    · obtain rfl : k = l.length := by omega
      rw [List.take_length] at HA
      have HF : Hid (R = false) := by show R = _; rw [← HR.out]; exact HA.out
      clear HA
      go_wp2
      go_ret
      exact ⟨-1, rfl, by rw [HF.out]; rfl, rfl⟩
theorem cntS_any (v : Value) (l : List ByteArray) (w : World) (hL : Ls w v l.length (l.flatMap strB)) : Calls Tryz.prog 92 #[v, .func (.func 93) #[] #[]] w fun e w' => e = .returned (.bool (l.any lgN)) ∧ w' = w := by
  have HI := Lib.hid (idxS_any v l w hL)
  generalize l.any lgN = b at HI ⊢
  clear hL
  go_enter Tryz.func92, Tryz.ntmps92
  go_wp2_with fail
  refine HI.out.mono ?_
  rintro e w' ⟨n, rfl, hn, rfl⟩
  have HN := Lib.hid hn
  clear hn HI
  go_wp2
  go_ret
  exact ⟨by rw [← HN.out]; rfl, rfl⟩
theorem inputPreds_any (v v' : Value) (l : List Pd) (vs : List ByteArray) (w : World) (h1 : Ls w v l.length (l.flatMap Pd.cells)) (h2 : Ls w v' vs.length (vs.flatMap strB)) :
    Calls Tryz.prog 63 #[v, v'] w fun e w' => e = .returned (.int .i64 (inpE l vs)) ∧ Below w.heap.size w w' := by
  have HC1 := Lib.hid (cntG_any v l w h1)
  have HC2 : Hid (∀ u, Below w.heap.size w u → _) := fun u hu => cntS_any v' vs u (h2.below hu)
  have HC3 : Hid (∀ u, Below w.heap.size w u → _) := fun u hu => cntR_any v l u (h1.below hu)
  have HD : Hid (inpE l vs = if (l.any lgP || vs.any lgN) = true then 70 else if l.any rsP = true then 71 else 0) := rfl
  generalize inpE l vs = er at HD ⊢
  generalize l.any lgP = b1 at HC1 HD
  generalize vs.any lgN = b2 at HC2 HD
  generalize l.any rsP = b3 at HC3 HD
  clear h1 h2
  go_enter Tryz.func63, Tryz.ntmps63
  cases b1
  · go_wp2_with fail
    refine HC1.out.mono ?_
    rintro e w1 ⟨rfl, k1⟩
    have HK1 := Lib.hid k1
    have HD2 := Lib.hid (HC2.out w1 k1)
    clear k1 HC1 HC2
    cases b2
    · go_wp2_with fail
      refine HD2.out.mono ?_
      rintro e w2 ⟨rfl, rfl⟩
      have HD3 := Lib.hid (HC3.out _ HK1.out)
      clear HD2 HC3
      cases b3
      · go_wp2_with fail
        refine HD3.out.mono ?_
        rintro e w3 ⟨rfl, k3⟩
        have HK3 : Hid (Below w.heap.size w w3) := HK1.out.trans (k3.mono HK1.out.size)
        clear k3 HD3
        go_wp2
        go_ret
        exact ⟨by rw [HD.out]; rfl, HK3.out⟩
      · go_wp2_with fail
        refine HD3.out.mono ?_
        rintro e w3 ⟨rfl, k3⟩
        have HK3 : Hid (Below w.heap.size w w3) := HK1.out.trans (k3.mono HK1.out.size)
        clear k3 HD3
        go_wp2
        go_ret
        exact ⟨by rw [HD.out]; rfl, HK3.out⟩
    · go_wp2_with fail
      refine HD2.out.mono ?_
      rintro e w2 ⟨rfl, rfl⟩
      clear HD2 HC3
      go_wp2
      go_ret
      exact ⟨by rw [HD.out]; rfl, HK1.out⟩
  · go_wp2_with fail
    refine HC1.out.mono ?_
    rintro e w1 ⟨rfl, k1⟩
    have HK1 := Lib.hid k1
    clear k1 HC1 HC2 HC3
    go_wp2
    go_ret
    exact ⟨by rw [HD.out]; rfl, HK1.out⟩
end Go.Proofs.YtmmkpcbelofkmaaGreatDoor
end
section
namespace Go.Proofs.YtmmkpcbelofkmaaGreatDoor
open Go.RowKit Go.Maps
set_option linter.unusedVariables false
set_option linter.unusedSimpArgs false
attribute [local go_sem ↓] Go.wp_at_zero Go.wp_at_succ

def factB (y : XF) : Bool := nameB y.pr && (decide (y.vs.length ≤ 24) && y.vs.all okV)
def errF (b : Bool) : Int := if b then 0 else 10
theorem allV_not {l : List V} {k : Nat} (h : k < l.length) (hn : okV (atV l k) = false) : l.all okV = false := by
  rw [← Bool.not_eq_true]
  intro ha
  rw [List.all_eq_true] at ha
  rw [atV_eq h] at hn
  rw [ha _ (List.getElem_mem h)] at hn
  cases hn
theorem allV_take {l : List V} {k : Nat} (h : k < l.length) : (l.take (k + 1)).all okV = ((l.take k).all okV && okV (atV l k)) := by
  have e : l.take (k + 1) = l.take k ++ [l[k]] := by rw [List.take_add_one, List.getElem?_eq_getElem h]; rfl
  rw [e, List.all_append, atV_eq h]
  simp
theorem chk_ten (k n : Int) (s : ByteArray) : chk k n s = 0 ∨ chk k n s = 10 := by
  unfold chk
  split <;> simp
set_option maxHeartbeats 1600000 in
theorem checkFact_any (y : XF) (w : World) (hG : LX.Gl w) (hF : FIs w y) :
    Calls Tryz.prog 67 #[y.val] w fun e w' => e = .returned (.int .i64 (errF (factB y))) ∧ Below w.heap.size w w' := by
  have HA : Hid (factB y = (nameB y.pr && (decide (y.vs.length ≤ 24) && y.vs.all okV))) := rfl
  obtain ⟨fb, hfb⟩ : ∃ fb, factB y = fb := ⟨_, rfl⟩
  rw [hfb] at HA ⊢
  obtain ⟨pr, vs, a, c⟩ := y
  have hpb := hF.pb
  have hll := hF.ln
  have hwf := hF.vs.wf
  obtain ⟨a1, c1, e1, hc1, hc2, hat⟩ := hF.vs.form
  dsimp only at HA hpb hll hwf e1 hc1 hc2 hat
  cases e1
  unfold XF.val
  dsimp only
  have BA := (Below.refl w.heap.size w).alloc (Nat.le_refl _) (.cells #[.string pr, .slice a vs.length c] 48)
  have c1 : (w.alloc (.cells #[.string pr, .slice a vs.length c] 48)).cell? ⟨w.heap.size, 1, none⟩ = some (.slice a vs.length c) := by go_simp
  have HAT : Hid _ := hat
  have HWF : Hid _ := hwf
  have HG0 : Hid (LX.Gl (w.alloc (.cells #[.string pr, .slice a vs.length c] 48))) := hG.below BA
  clear hF hat hwf hfb hc1 hc2
  go_enter Tryz.func67, Tryz.ntmps67
  go_wp2_with fail
  refine (LX.lexName_any pr _ HG0.out hpb).mono ?_
  rintro e w1 ⟨rfl, b1⟩
  have b1' : Below w.heap.size w w1 := BA.trans (b1.mono BA.size)
  have x1 : w1.cell? ⟨w.heap.size, 1, none⟩ = some (.slice a vs.length c) := by rw [b1.cell (p := ⟨w.heap.size, 1, none⟩) (by simp)]; exact c1
  have hs1 : w.heap.size < w1.heap.size := World.block_lt_of_cell? _ _ x1
  clear b1 c1 BA
  cases hn : nameB pr
  · have HF : Hid (fb = false) := by show fb = false; rw [HA.out, hn]; rfl
    go_wp2
    go_ret
    exact ⟨(by rw [HF.out]; rfl), b1'⟩
  · by_cases h24 : vs.length ≤ 24
    · have h24' : (vs.length : Int) ≤ 24 := by omega
      have HB : Hid (fb = vs.all okV) := by show fb = _; rw [HA.out, hn, decide_eq_true h24]; simp
      have HX1 : Hid _ := x1
      go_wp2
      go_loopw [19] (fun i wr => ∃ k : Nat, k ≤ vs.length ∧ i = .int .i64 k ∧ Below (w.heap.size + 1) w1 wr ∧ Hid ((vs.take k).all okV = true)) (fun i _ => vs.length - (intOf i).toNat)
      case atStart => exact ⟨0, Nat.zero_le _, rfl, Below.refl _ _, by simp [Hid]⟩
      case round =>
        obtain ⟨k, hk, rfl, belq, HS⟩ := hrel
        clear x1
        have d1 : wr.cell? ⟨w.heap.size, 1, none⟩ = some (.slice a vs.length c) := by rw [belq.cell (p := ⟨w.heap.size, 1, none⟩) (by simp)]; exact HX1.out
        have bel : Below w.heap.size w wr := b1'.trans (belq.mono (by omega))
        have hsz := belq.size
        by_cases hlt : k < vs.length
        · have hlt' : (k : Int) < (vs.length : Int) := by omega
          obtain ⟨g, off, rfl, hg, hT⟩ := HAT.out (by omega)
          obtain ⟨x0, x1, x2⟩ := (hT k hlt).below bel hg
          have htw : (atV vs k).wf := by rw [atV_eq hlt]; exact HWF.out _ (List.getElem_mem hlt)
          have HN : Hid (okV (atV vs k) = false → fb = false) := fun h => by rw [HB.out]; exact allV_not hlt h
          have HY : Hid (okV (atV vs k) = true → (vs.take (k + 1)).all okV = true) := fun h => by rw [allV_take hlt, HS.out, h]; rfl
          have HCV : Hid (okV (atV vs k) = (chk (atV vs k).k (atV vs k).n (atV vs k).s == 0)) := rfl
          generalize atV vs k = t at x0 x1 x2 htw HN HY HCV
          have hc2 := chk_ten t.k t.n t.s
          have HC : Hid (∀ u, Calls Tryz.prog 98 #[.agg #[.int .i8 t.k, .int .i64 t.n, .string t.s]] u fun e w' => e = .returned (.int .i64 (chk t.k t.n t.s)) ∧ Below u.heap.size u w') := fun u => vcheck_any t.k t.n t.s u htw.text
          generalize chk t.k t.n t.s = ck at hc2 HC HCV
          clear hT
          go_wp2_with fail
          refine Calls.mono (HC.out _) ?_
          rintro e w2 ⟨rfl, b2⟩
          have hsz2 : w.heap.size + 1 ≤ wr.heap.size := by omega
          have b2' : Below (w.heap.size + 1) w1 w2 := (belq.alloc hsz2 (.cells #[.int .i8 t.k, .int .i64 t.n, .string t.s] 81)).trans (b2.mono (by simp; omega))
          have b3' : Below w.heap.size w w2 := b1'.trans (b2'.mono (by omega))
          clear b2 d1
          rcases hc2 with rfl | rfl
          · have HO : Hid _ := HY.out HCV.out
            go_wp2
            go_roundw
            case rel => exact ⟨k + 1, by omega, by go_num, b2', HO⟩
            case measure => simp [intOf]; omega
          · have HF : Hid (fb = false) := HN.out HCV.out
            go_wp2
            go_ret
            exact ⟨(by rw [HF.out]; rfl), b3'⟩
        · obtain rfl : k = vs.length := by omega
          have HF : Hid (fb = true) := by show fb = true; rw [HB.out, ← HS.out, List.take_length]
          go_wp2
          go_ret
          exact ⟨(by rw [HF.out]; rfl), bel⟩
    · have h24' : (24 : Int) < (vs.length : Int) := by omega
      have HF : Hid (fb = false) := by show fb = false; rw [HA.out, decide_eq_false h24]; simp
      go_wp2
      go_ret
      exact ⟨(by rw [HF.out]; rfl), b1'⟩
set_option maxHeartbeats 1600000 in
theorem isFact_any (y : XF) (w : World) (hF : FIs w y) :
    Calls Tryz.prog 46 #[y.val] w fun e w' => e = .returned (.bool (factB y)) ∧ Below w.heap.size w w' := by
  have HA : Hid (factB y = (nameB y.pr && (decide (y.vs.length ≤ 24) && y.vs.all okV))) := rfl
  obtain ⟨fb, hfb⟩ : ∃ fb, factB y = fb := ⟨_, rfl⟩
  rw [hfb] at HA ⊢
  obtain ⟨pr, vs, a, c⟩ := y
  have hpb := hF.pb
  have hll := hF.ln
  have hwf := hF.vs.wf
  obtain ⟨a1, c1, e1, hc1, hc2, hat⟩ := hF.vs.form
  dsimp only at HA hpb hll hwf e1 hc1 hc2 hat
  cases e1
  unfold XF.val
  dsimp only
  have BA := (Below.refl w.heap.size w).alloc (Nat.le_refl _) (.cells #[.string pr, .slice a vs.length c] 48)
  have c1 : (w.alloc (.cells #[.string pr, .slice a vs.length c] 48)).cell? ⟨w.heap.size, 1, none⟩ = some (.slice a vs.length c) := by go_simp
  have HAT : Hid _ := hat
  have HWF : Hid _ := hwf
  clear hF hat hwf hfb hc1 hc2
  go_enter Tryz.func46, Tryz.ntmps46
  go_wp2_with fail
  refine (rName_any pr _ hpb).mono ?_
  rintro e w1 ⟨rfl, hw1⟩
  have b1 : Below (w.alloc (.cells #[.string pr, .slice a vs.length c] 48)).heap.size (w.alloc (.cells #[.string pr, .slice a vs.length c] 48)) w1 := by rw [hw1]; exact Below.refl _ _
  clear hw1
  have b1' : Below w.heap.size w w1 := BA.trans (b1.mono BA.size)
  have x1 : w1.cell? ⟨w.heap.size, 1, none⟩ = some (.slice a vs.length c) := by rw [b1.cell (p := ⟨w.heap.size, 1, none⟩) (by simp)]; exact c1
  have hs1 : w.heap.size < w1.heap.size := World.block_lt_of_cell? _ _ x1
  clear b1 c1 BA
  cases hn : nameB pr
  · have HF : Hid (fb = false) := by show fb = false; rw [HA.out, hn]; rfl
    go_wp2
    go_ret
    exact ⟨(by rw [HF.out]; rfl), b1'⟩
  · by_cases h24 : vs.length ≤ 24
    · have h24' : (vs.length : Int) ≤ 24 := by omega
      have HB : Hid (fb = vs.all okV) := by show fb = _; rw [HA.out, hn, decide_eq_true h24]; simp
      have HX1 : Hid _ := x1
      go_wp2
      go_loopw [3] (fun i wr => ∃ k : Nat, k ≤ vs.length ∧ i = .int .i64 k ∧ Below (w.heap.size + 1) w1 wr ∧ Hid ((vs.take k).all okV = true)) (fun i _ => vs.length - (intOf i).toNat)
      case atStart => exact ⟨0, Nat.zero_le _, rfl, Below.refl _ _, by simp [Hid]⟩
      case round =>
        obtain ⟨k, hk, rfl, belq, HS⟩ := hrel
        clear x1
        have d1 : wr.cell? ⟨w.heap.size, 1, none⟩ = some (.slice a vs.length c) := by rw [belq.cell (p := ⟨w.heap.size, 1, none⟩) (by simp)]; exact HX1.out
        have bel : Below w.heap.size w wr := b1'.trans (belq.mono (by omega))
        have hsz := belq.size
        by_cases hlt : k < vs.length
        · have hlt' : (k : Int) < (vs.length : Int) := by omega
          obtain ⟨g, off, rfl, hg, hT⟩ := HAT.out (by omega)
          obtain ⟨x0, x1, x2⟩ := (hT k hlt).below bel hg
          have htw : (atV vs k).wf := by rw [atV_eq hlt]; exact HWF.out _ (List.getElem_mem hlt)
          have HN : Hid (okV (atV vs k) = false → fb = false) := fun h => by rw [HB.out]; exact allV_not hlt h
          have HY : Hid (okV (atV vs k) = true → (vs.take (k + 1)).all okV = true) := fun h => by rw [allV_take hlt, HS.out, h]; rfl
          have HCV : Hid (okV (atV vs k) = (chk (atV vs k).k (atV vs k).n (atV vs k).s == 0)) := rfl
          generalize atV vs k = t at x0 x1 x2 htw HN HY HCV
          have hc2 := chk_ten t.k t.n t.s
          have HC : Hid (∀ u, Calls Tryz.prog 76 #[.agg #[.int .i8 t.k, .int .i64 t.n, .string t.s]] u fun e w' => e = .returned (.int .i64 (chk t.k t.n t.s)) ∧ Below u.heap.size u w') := fun u => rcheck_any t.k t.n t.s u htw.text
          generalize chk t.k t.n t.s = ck at hc2 HC HCV
          clear hT
          go_wp2_with fail
          refine Calls.mono (HC.out _) ?_
          rintro e w2 ⟨rfl, b2⟩
          have hsz2 : w.heap.size + 1 ≤ wr.heap.size := by omega
          have b2' : Below (w.heap.size + 1) w1 w2 := belq.trans (b2.mono hsz2)
          have b3' : Below w.heap.size w w2 := b1'.trans (b2'.mono (by omega))
          clear b2 d1
          rcases hc2 with rfl | rfl
          · have HO : Hid _ := HY.out HCV.out
            go_wp2
            go_roundw
            case rel => exact ⟨k + 1, by omega, by go_num, b2', HO⟩
            case measure => simp [intOf]; omega
          · have HF : Hid (fb = false) := HN.out HCV.out
            go_wp2
            go_ret
            exact ⟨(by rw [HF.out]; rfl), b3'⟩
        · obtain rfl : k = vs.length := by omega
          have HF : Hid (fb = true) := by show fb = true; rw [HB.out, ← HS.out, List.take_length]
          go_wp2
          go_ret
          exact ⟨(by rw [HF.out]; rfl), bel⟩
    · have h24' : (24 : Int) < (vs.length : Int) := by omega
      have HF : Hid (fb = false) := by show fb = false; rw [HA.out, decide_eq_false h24]; simp
      go_wp2
      go_ret
      exact ⟨(by rw [HF.out]; rfl), b1'⟩
end Go.Proofs.YtmmkpcbelofkmaaGreatDoor
end
section
namespace Go.Proofs.YtmmkpcbelofkmaaGreatDoor
open Go.RowKit Go.Maps
set_option linter.unusedVariables false
set_option linter.unusedSimpArgs false
attribute [local go_sem ↓] Go.wp_at_zero Go.wp_at_succ

theorem checkAtom_any (pred : ByteArray) (v : Value) (l : List T) (w : World) (hp : pred.size ≤ maxLen) (hl : Lt w v l) : Calls Tryz.prog 40 #[.agg #[.string pred, v]] w fun e w' => e = .returned (.int .i64 (errB (atomB pred l))) ∧ Below w.heap.size w w' := by
  obtain ⟨a, c, rfl, hc1, hc2, -⟩ := hl.form
  have b0 := (Below.refl w.heap.size w).alloc (Nat.le_refl _) (.cells #[.string pred, .slice a l.length c] 28)
  go_enter Tryz.func40, Tryz.ntmps40
  go_wp2_with fail
  refine (isAtom_any pred _ l _ hp (hl.below b0)).mono ?_
  rintro e w1 ⟨rfl, b1⟩
  go_wp2_with fail
  refine (verdict_any _ _).mono ?_
  rintro e w2 ⟨rfl, rfl⟩
  go_wp2
  go_ret
  exact ⟨rfl, b0.trans (b1.mono b0.size)⟩
theorem r4checkAtom_any (pred : ByteArray) (v : Value) (l : List T) (w : World) (hp : pred.size ≤ maxLen) (hl : Lt w v l) : Calls Tryz.prog 49 #[.agg #[.string pred, v]] w fun e w' => e = .returned (.int .i64 (errB (atomB pred l))) ∧ Below w.heap.size w w' := by
  obtain ⟨a, c, rfl, hc1, hc2, -⟩ := hl.form
  have b0 := (Below.refl w.heap.size w).alloc (Nat.le_refl _) (.cells #[.string pred, .slice a l.length c] 28)
  go_enter Tryz.func49, Tryz.ntmps49
  go_wp2_with fail
  refine (ratom_any pred _ l _ hp (hl.below b0)).mono ?_
  rintro e w1 ⟨rfl, b1⟩
  go_wp2_with fail
  refine (said_any _ _).mono ?_
  rintro e w2 ⟨rfl, rfl⟩
  go_wp2
  go_ret
  exact ⟨rfl, b0.trans (b1.mono b0.size)⟩
theorem stR_map (r : R3) : stR r = ⟨r.pr, r.hd.length⟩ :: (r.bd.map XL.x).flatMap (fun x => if x.k = 1 ∨ x.k = 2 then [⟨x.pr, x.ts.length⟩] else []) := by
  unfold stR
  rw [List.flatMap_map]
  rfl
theorem LikeR.st {r s : R3} (h : LikeR r s) : stR s = stR r := by
  rw [stR_map, stR_map, h.map, h.pr, h.hd]
theorem map_likeR {β : Type} {l l' : List XR} (f : R3 → β) (hl : l'.length = l.length) (hx : ∀ i, i < l.length → f (atR l' i).r = f (atR l i).r) : l'.map (fun y => f y.r) = l.map (fun y => f y.r) := by
  refine List.ext_getElem (by simp [hl]) fun i h1 h2 => ?_
  simp only [List.length_map] at h1 h2
  have := hx i h2
  rw [atR_eq h1, atR_eq h2] at this
  simpa using this
theorem map_likeF {β : Type} {l l' : List XF} (f : XF → β) (hl : l'.length = l.length) (hx : ∀ i, i < l.length → f (atF l' i) = f (atF l i)) : l'.map f = l.map f := by
  refine List.ext_getElem (by simp [hl]) fun i h1 h2 => ?_
  simp only [List.length_map] at h1 h2
  have := hx i h2
  rw [atF_eq h1, atF_eq h2] at this
  simpa using this
theorem ps_map (rs : List XR) (fs : List XF) : psS rs fs = (rs.map (fun y => stR y.r)).flatMap id ++ fs.map pdF := by
  unfold psS
  rw [List.flatMap_map]
  rfl
theorem ps_same {l l' : List XR} {m m' : List XF} (hl : l'.length = l.length) (hx : ∀ i, i < l.length → LikeR (atR l i).r (atR l' i).r) (hm : m'.length = m.length) (hy : ∀ i, i < m.length → LikeF (atF m i) (atF m' i)) : psS l' m' = psS l m := by
  rw [ps_map, ps_map, map_likeR stR hl (fun i hi => (hx i hi).st), map_likeF pdF hm (fun i hi => by unfold pdF; rw [(hy i hi).pr, (hy i hi).vs])]
theorem bd_terms (d : Nat) : ∀ l : List XL, l.length ≤ (l.flatMap (fun y => termsL (d + 1) y.x)).length
  | [] => Nat.le_refl _
  | y :: l => by
    have := bd_terms d l
    rw [List.flatMap_cons, List.length_append, List.length_cons]
    have h2 : 1 ≤ (termsL (d + 1) y.x).length := by
      unfold termsL
      rw [termsD_succ]
      simp only [List.length_append, List.length_cons]
      omega
    omega
theorem ps_len (d : Nat) : ∀ (rs : List XR) (fs : List XF), (psS rs fs).length ≤ rs.length + (rs.flatMap (fun y => termsR (d + 1) y.r)).length + fs.length
  | [], fs => by unfold psS; simp
  | y :: rs, fs => by
    have h1 := ps_len d rs fs
    unfold psS at h1 ⊢
    rw [List.length_append] at h1 ⊢
    rw [List.flatMap_cons, List.flatMap_cons, List.length_append, List.length_append, List.length_cons]
    have h2 := stR_len y.r
    have h3 := bd_terms d y.r.bd
    have h4 : (y.r.bd.flatMap (fun z => termsL (d + 1) z.x)).length ≤ (termsR (d + 1) y.r).length := by unfold termsR; rw [List.length_append]; omega
    omega
theorem TwS.lrJ {w w0 : World} {lo d : Nat} {l l' : List XR} {a : Option Addr} {c : Nat} {v : Value} (h : TwS w lo d l' a c) (hl : l'.length = l.length) (hx : ∀ i, i < l.length → LikeR (atR l i).r (atR l' i).r) (h0 : Lr w0 v d l) (hs : smallS d l) : Lr w (.slice a l'.length c) d l' := by
  have hcap := h.cap
  obtain ⟨g, ha, hg, _, hk⟩ := h.range
  have hll := hs.len
  refine ⟨?_, fun i hi => ?_⟩
  · rw [ha, hcap]
    exact ls_of_range (f := XR.cells) (k := 3) (by omega) (fun _ => rfl) XR0 (by omega) (by unfold maxLen; omega) hg hk
  · have hi' : i < l.length := by omega
    exact (h.each i hi).is (hx i hi') (h0.each i hi') (hs.each i hi')
theorem TwG.lfJ {u w0 : World} {lo : Nat} {l l' : List XF} {a : Option Addr} {c : Nat} {v : Value} (h : TwG u lo l' a c) (h0 : Lf w0 v l) (hs : smallF l) (hl' : l'.length = l.length) (hx' : ∀ i, i < l.length → LikeF (atF l i) (atF l' i)) : Lf u (.slice a l'.length c) l' := by
  have hc := h.cap
  obtain ⟨g, rfl, hg, _, hks⟩ := h.range
  subst hc
  exact ⟨ls_of_range (f := XF.cells) (k := 2) (by omega) (fun _ => rfl) XF0 (by omega) (by have := hs.len; unfold maxLen; omega) hg hks, fun i hi => TwF.is (h.each i hi) (hx' i (by omega)) (h0.each i (by omega)) (hs.each i (by omega))⟩
set_option maxHeartbeats 800000 in
theorem beyondJob_any (d : Nat) (v u : Value) (l : List XR) (m : List XF) (w : World) (hll : l.length ≤ 281474976710656) (hlm : m.length ≤ 281474976710656) (hL : Lr w v d l) (hM : Lf w u m) :
    Calls Tryz.prog 4 #[v, u] w fun e w' => ∃ b : Bool, e = .returned (.bool b) ∧ Below w.heap.size w w' ∧ (b = false → smallS d l ∧ smallF m) := by
  have HR : Hid _ := beyondRules_any d v l w hll hL
  have HF : Hid (∀ w', Below w.heap.size w w' → Calls Tryz.prog 14 #[u] w' fun e w2 => ∃ b : Bool, e = .returned (.bool b) ∧ Below w'.heap.size w' w2 ∧ (b = false → smallF m)) := fun w' hb => beyondFacts_any u m w' hlm (hM.below hb)
  obtain ⟨a, c, rfl, hc1, hc2, -⟩ := hL.form
  obtain ⟨a2, c2, rfl, hd1, hd2, -⟩ := hM.form
  clear hL hM
  go_enter Tryz.func4, Tryz.ntmps4
  go_wp2_with fail
  refine Calls.mono HR.out ?_
  rintro e w1 ⟨b, rfl, b1, hs⟩
  have HS : Hid _ := hs
  have HB1 : Hid _ := b1
  clear hs b1
  cases b
  · go_wp2_with fail
    refine Calls.mono (HF.out _ HB1.out) ?_
    rintro e w2 ⟨b2, rfl, b2', hs2⟩
    have HS2 : Hid _ := hs2
    clear hs2
    go_wp2
    go_ret
    exact ⟨b2, rfl, HB1.out.trans (b2'.mono HB1.out.size), fun h => ⟨HS.out (by first | rfl | trivial), HS2.out h⟩⟩
  · go_wp2
    go_ret
    exact ⟨true, rfl, HB1.out, fun h => by cases h⟩
attribute [-go_sem] loadVar storeVar Builtin.append_
theorem run_makeCols (u : World) : (Instr.makeMap 53 none).run Tryz.prog u = .ok (.map (some u.heap.size)) (u.alloc (.map #[] 0)) := by kernel_rfl
theorem load_rules {u : World} {a : Addr} {b : Option Addr} {n c : Nat} (h : u.cell? a = some (.slice b n c)) : (loadVar 22 a).run Tryz.prog u = .ok (.slice b n c) u := by rw [loadVar.eq_1]; go_simp
theorem load_pg {u : World} {b : Nat} {v : Value} (h : RL u b 24 [v]) : (loadVar 24 ⟨b, 0, none⟩).run Tryz.prog u = .ok (.agg #[v]) u :=
  run_loadVar_mid _ _ 0 24 [v] _ (RL.range h) Tryz.underlying24 rfl (by kernel_rfl)
theorem store_pg (u : World) (a : Option Addr) (n c : Nat) : (storeVar 24 ⟨u.heap.size, 0, none⟩ (.agg #[.slice a n c])).run Tryz.prog (u.alloc (.cells #[.slice none 0 0] 24)) = .ok () (u.alloc (.cells #[.slice a n c] 24)) :=
  run_storeVar_new u 24 #[.slice none 0 0] #[.slice a n c] (by kernel_rfl) rfl (by simp [Value.oneCell'])
theorem load_vals {u : World} {a : Addr} {b : Option Addr} {n c : Nat} (h : u.cell? a = some (.slice b n c)) : (loadVar 46 a).run Tryz.prog u = .ok (.slice b n c) u := by rw [loadVar.eq_1]; go_simp
/-- what Meet of one fact's predicate comes to -/
def MoP (w W0 : World) (kn : List Pd) (p : Pd) (nv : Value) (ok : Bool) (u : World) : Prop :=
  Below w.heap.size w u ∧ Below W0.heap.size W0 u ∧ ((ok = true ∧ ∃ r, meetL kn [p] = some r ∧ Ls u nv r.length (r.flatMap Pd.cells)) ∨ (ok = false ∧ meetL kn [p] = none ∧ nv = .slice none 0 0))
theorem ls_nilP (u : World) : Ls u (.slice none 0 0) ([] : List Pd).length (([] : List Pd).flatMap Pd.cells) := ⟨by show 0 ≤ _; omega, none, 0, rfl, Nat.le_refl _, by decide, fun h => absurd (show (0 : Nat) < 0 from h) (by omega)⟩
theorem meetL_len : ∀ (l k r : List Pd), meetL k l = some r → r.length ≤ k.length + l.length
  | [], k, r, h => by
    rw [meetL] at h
    cases h
    simp
  | p :: l, k, r, h => by
    rw [meetL] at h
    cases hq : seekP k p.n with
    | none =>
      rw [hq] at h
      have := meetL_len l _ r h
      have h2 := (insP_perm k p).length_eq
      rw [List.length_append, List.length_singleton] at h2
      rw [List.length_cons]
      omega
    | some q =>
      rw [hq] at h
      simp only at h
      split at h
      · have := meetL_len l _ r h
        rw [List.length_cons]
        omega
      · cases h
theorem ls_nilS (u : World) : Ls u (.slice none 0 0) ([] : List ByteArray).length (([] : List ByteArray).flatMap strB) := ⟨by show 0 ≤ _; omega, none, 0, rfl, Nat.le_refl _, by decide, fun h => absurd (show (0 : Nat) < 0 from h) (by omega)⟩
theorem atomB_lenI {p : ByteArray} {l : List T} (h : atomB p l = true) : l.length ≤ 24 := by
  unfold atomB at h
  simp only [Bool.and_eq_true, decide_eq_true_eq] at h
  exact h.1.2
theorem load_atomV {u : World} {b : Nat} {s : ByteArray} {v : Value} (h : RL u b 28 [.string s, v]) : (loadVar 28 ⟨b, 0, none⟩).run Tryz.prog u = .ok (.agg #[.string s, v]) u :=
  run_loadVar_mid _ _ 0 28 [.string s, v] _ (RL.range h) Tryz.underlying28 rfl (by kernel_rfl)
theorem load_predV {u : World} {b : Nat} {s : ByteArray} {v : Value} (h : RL u b 65 [.string s, v]) : (loadVar 65 ⟨b, 0, none⟩).run Tryz.prog u = .ok (.agg #[.string s, v]) u :=
  run_loadVar_mid _ _ 0 65 [.string s, v] _ (RL.range h) Tryz.underlying65 rfl (by kernel_rfl)
end Go.Proofs.YtmmkpcbelofkmaaGreatDoor
end
section
namespace Go.Proofs.YtmmkpcbelofkmaaGreatDoor
open Go.RowKit Go.Maps
set_option linter.unusedVariables false
set_option linter.unusedSimpArgs false

theorem geRf (x y : Operand) (A B : Array Value) (u : World) : (eqGuard .eql 37 x y (.agg A) (.agg B)).run Tryz.prog u = .ok () u := by
  unfold eqGuard
  go_simp
theorem run_eqRf (p1 p2 p3 : Int) (u : World) : (binOp .eql 37 (.agg #[.int .i8 p1, .int .i64 p2, .int .i64 p3]) (.agg #[.int .i8 p1, .int .i64 p2, .int .i64 p3])).run Tryz.prog u = .ok (.bool true) u := by
  go_simp
def ciquery_takes : List (List Nat × Nat) := [([], 0), ([0], 1), ([0, 1], 3), ([0, 1, 3, 2, 4, 5], 6)]
set_option maxHeartbeats 3200000 in
theorem ciquery {ops : Array Oper} {Q : Exit → Act → World → Prop} {S : World → Prop} {a0 : Act} {w5 : World} {b : Nat} {av pv mv : Value} {er : Int} {ty1 ty2 ty3 : Array TypeId} {P : World → Prop}
    (q0 : isOpG ops 0 none (.move (.tmp 0)) (some 11))
    (q1 : isOpG ops 1 none (.load 28 (.tmp 3)) (some 12))
    (q3 : isOpG ops 3 none (.load 28 (.tmp 3)) (some 14))
    (q2 : isOpG ops 2 none (.call { callee := .value (.func 42), args := #[.tmp 12], argTypes := ty1 }) (some 13))
    (q4 : isOpG ops 4 none (.call { callee := .value (.func 43), args := #[.tmp 14], argTypes := ty2 }) (some 15))
    (q5 : isOpG ops 5 none (.call { callee := .value (.func 41), args := #[.tmp 11, .tmp 13, .tmp 15], argTypes := ty3 }) (some 16))
    (q6 : isOpG ops 6 none (.assign (.tmp 16)) (some 4))
    (hs : Region.noSelect ops = true) (hq : (ciquery_takes.all fun p => Region.free .any ops (LR 7 p.1) p.2 && (Region.ready .any ops (LR 7 p.1)).contains p.2) = true)
    (r2 : Region.ready .any ops (LR 7 [0, 1, 3]) = [2])
    (r4 : Region.ready .any ops (LR 7 [0, 1, 3, 2]) = [4])
    (r5 : Region.ready .any ops (LR 7 [0, 1, 3, 2, 4]) = [5])
    (rend : Region.ready .any ops (LR 7 [0, 1, 3, 2, 4, 5, 6]) = [])
    (hQ : ∀ (d : Option Tmp) (v : Value) c a w, Q (.panic c) (a.put d v) w → Q (.panic c) a w)
    (hsz : 16 < a0.tmps.size) (e0 : a0.eval (.tmp 0) = mv) (e3 : a0.eval (.tmp 3) = .pointer (some ⟨b, 0, none⟩))
    (hS0 : S w5.drew)
    (keep : ∀ u u', S u → S u' → S u') (LAT : ∀ u, S u → (loadVar 28 ⟨b, 0, none⟩).run Tryz.prog u = .ok av u)
    (C1 : Calls Tryz.prog 42 #[av] w5.drew fun e u1 => e = .returned pv ∧ S u1 ∧ Calls Tryz.prog 43 #[av] u1 fun e u2 => ∃ sv2, e = .returned sv2 ∧ S u2 ∧ Calls Tryz.prog 41 #[mv, pv, sv2] u2 fun e u3 => e = .returned (.int .i64 er) ∧ S u3 ∧ P u3)
    (F : ∀ (wc : World) (sv2 : Value), P wc → Q .normal (((((((a0.put (some 11) (mv)).put (some 12) (av)).put (some 14) (av)).put (some 13) (pv)).put (some 15) (sv2)).put (some 16) (.int .i64 er)).put (some 4) (.int .i64 er)) wc) :
    wpAnyH Tryz.prog .any ops Q S 7 (LR 7 []) a0 w5.drew := by
  have hall : ∀ p ∈ ciquery_takes, Region.free .any ops (LR 7 p.1) p.2 = true ∧ (Region.ready .any ops (LR 7 p.1)).contains p.2 = true := by
    intro p hp
    have := List.all_eq_true.1 hq p hp
    simpa using this
  unfold ciquery_takes at hall
  obtain ⟨o0, ho, hg, hop, hd⟩ := isOpG_out q0
  have hfr := hall ([], 0) (by simp)
  refine wpAnyH_take (listed := LR 7 []) (v := mv) ho hs hfr.1 hfr.2 (hQ _ _) (Or.inl ⟨(wantedN hg), fun w' hS => run_move _ _ hop w' (by (repeat rw [eval_far _ _ (by decide)]); exact e0)⟩) hS0 ?_
  rw [hd, ← LR_snoc]
  clear ho hg hop hd hfr
  obtain ⟨o1, ho, hg, hop, hd⟩ := isOpG_out q1
  have hfr := hall ([0], 1) (by simp)
  refine wpAnyH_take (listed := LR 7 [0]) (v := av) ho hs hfr.1 hfr.2 (hQ _ _) (Or.inl ⟨(wantedN hg), fun w' hS => run_loadS _ _ hop w' (by (repeat rw [eval_far _ _ (by decide)]); exact e3) (LAT _ hS)⟩) hS0 ?_
  rw [hd, ← LR_snoc]
  clear ho hg hop hd hfr
  obtain ⟨o3, ho, hg, hop, hd⟩ := isOpG_out q3
  have hfr := hall ([0, 1], 3) (by simp)
  refine wpAnyH_take (listed := LR 7 [0, 1]) (v := av) ho hs hfr.1 hfr.2 (hQ _ _) (Or.inl ⟨(wantedN hg), fun w' hS => run_loadS _ _ hop w' (by (repeat rw [eval_far _ _ (by decide)]); exact e3) (LAT _ hS)⟩) hS0 ?_
  rw [hd, ← LR_snoc]
  clear ho hg hop hd hfr
  refine wpAnyH_all r2 (by simp) ?_
  intro i hi
  obtain rfl := List.mem_singleton.1 hi
  obtain ⟨o2, ho, hg, hop, hd⟩ := isOpG_out q2
  have x2_0 : ((((a0.put (some 11) (mv)).put (some 12) (av)).put (some 14) (av))).eval (.tmp 12) = av := (by (repeat (first | rw [eval_same _ _ (by (try simp only [put_size]); omega)] | rw [eval_far _ _ (by decide)])))
  refine wpOp_callG ho (wantedN hg) (run_callV 42 Tryz.func42 (by kernel_rfl) (by kernel_rfl) #[.tmp 12] _ hop #[av] (by simp only [List.map_toArray, List.map_cons, List.map_nil, x2_0])) ?_
  refine (C1).mono ?_
  rintro e u1 ⟨rfl, hS1, C2⟩
  have hS2 := keep _ _ hS0 hS1
  refine ⟨_, rfl, hS2, ?_⟩
  rw [hd]
  clear ho hg hop hd
  rw [← LR_snoc]
  refine wpAnyH_all r4 (by simp) ?_
  intro i hi
  obtain rfl := List.mem_singleton.1 hi
  obtain ⟨o4, ho, hg, hop, hd⟩ := isOpG_out q4
  have x4_0 : (((((a0.put (some 11) (mv)).put (some 12) (av)).put (some 14) (av)).put (some 13) (pv))).eval (.tmp 14) = av := (by (repeat (first | rw [eval_same _ _ (by (try simp only [put_size]); omega)] | rw [eval_far _ _ (by decide)])))
  refine wpOp_callG ho (wantedN hg) (run_callV 43 Tryz.func43 (by kernel_rfl) (by kernel_rfl) #[.tmp 14] _ hop #[av] (by simp only [List.map_toArray, List.map_cons, List.map_nil, x4_0])) ?_
  refine (C2).mono ?_
  rintro e u2 ⟨sv2, rfl, hS2, C3⟩
  have hS4 := keep _ _ hS2 hS2
  refine ⟨_, rfl, hS4, ?_⟩
  rw [hd]
  clear ho hg hop hd
  rw [← LR_snoc]
  refine wpAnyH_all r5 (by simp) ?_
  intro i hi
  obtain rfl := List.mem_singleton.1 hi
  obtain ⟨o5, ho, hg, hop, hd⟩ := isOpG_out q5
  have x5_0 : ((((((a0.put (some 11) (mv)).put (some 12) (av)).put (some 14) (av)).put (some 13) (pv)).put (some 15) (sv2))).eval (.tmp 11) = mv := (by (repeat (first | rw [eval_same _ _ (by (try simp only [put_size]); omega)] | rw [eval_far _ _ (by decide)])))
  have x5_1 : ((((((a0.put (some 11) (mv)).put (some 12) (av)).put (some 14) (av)).put (some 13) (pv)).put (some 15) (sv2))).eval (.tmp 13) = pv := (by (repeat (first | rw [eval_same _ _ (by (try simp only [put_size]); omega)] | rw [eval_far _ _ (by decide)])))
  have x5_2 : ((((((a0.put (some 11) (mv)).put (some 12) (av)).put (some 14) (av)).put (some 13) (pv)).put (some 15) (sv2))).eval (.tmp 15) = sv2 := (by (repeat (first | rw [eval_same _ _ (by (try simp only [put_size]); omega)] | rw [eval_far _ _ (by decide)])))
  refine wpOp_callG ho (wantedN hg) (run_callV 41 Tryz.func41 (by kernel_rfl) (by kernel_rfl) #[.tmp 11, .tmp 13, .tmp 15] _ hop #[mv, pv, sv2] (by simp only [List.map_toArray, List.map_cons, List.map_nil, x5_0, x5_1, x5_2])) ?_
  refine (C3).mono ?_
  rintro e u3 ⟨rfl, hS3, hP⟩
  have hS5 := keep _ _ hS4 hS3
  refine ⟨_, rfl, hS5, ?_⟩
  rw [hd]
  clear ho hg hop hd
  rw [← LR_snoc]
  obtain ⟨o6, ho, hg, hop, hd⟩ := isOpG_out q6
  have hfr := hall ([0, 1, 3, 2, 4, 5], 6) (by simp)
  refine wpAnyH_take (listed := LR 7 [0, 1, 3, 2, 4, 5]) (v := .int .i64 er) ho hs hfr.1 hfr.2 (hQ _ _) (Or.inl ⟨(wantedN hg), fun w' hS => run_assignV _ _ hop w' (by (repeat (first | rw [eval_same _ _ (by (try simp only [put_size]); omega)] | rw [eval_far _ _ (by decide)])))⟩) hS5 ?_
  rw [hd, ← LR_snoc]
  clear ho hg hop hd hfr
  exact wpAnyH_done rend (F _ sv2 hP) _
def cirule_takes : List (List Nat × Nat) := [([], 0), ([0], 2), ([0, 2, 1, 3, 4], 5)]
set_option maxHeartbeats 3200000 in
theorem cirule {ops : Array Oper} {Q : Exit → Act → World → Prop} {S : World → Prop} {a0 : Act} {w5 : World} {b : Nat} {rv : Value} {er : Int} {ty1 ty2 ty3 : Array TypeId}
    (q0 : isOpG ops 0 none (.load 74 (.tmp 1)) (some 14))
    (q2 : isOpG ops 2 none (.load 74 (.tmp 1)) (some 16))
    (q1 : isOpG ops 1 none (.call { callee := .value (.func 38), args := #[.tmp 14], argTypes := ty1 }) (some 15))
    (q3 : isOpG ops 3 none (.call { callee := .value (.func 64), args := #[.tmp 16], argTypes := ty2 }) (some 17))
    (q4 : isOpG ops 4 none (.call { callee := .value (.func 63), args := #[.tmp 15, .tmp 17], argTypes := ty3 }) (some 18))
    (q5 : isOpG ops 5 none (.assign (.tmp 18)) (some 4))
    (hs : Region.noSelect ops = true) (hq : (cirule_takes.all fun p => Region.free .any ops (LR 6 p.1) p.2 && (Region.ready .any ops (LR 6 p.1)).contains p.2) = true)
    (r1 : Region.ready .any ops (LR 6 [0, 2]) = [1])
    (r3 : Region.ready .any ops (LR 6 [0, 2, 1]) = [3])
    (r4 : Region.ready .any ops (LR 6 [0, 2, 1, 3]) = [4])
    (rend : Region.ready .any ops (LR 6 [0, 2, 1, 3, 4, 5]) = [])
    (hQ : ∀ (d : Option Tmp) (v : Value) c a w, Q (.panic c) (a.put d v) w → Q (.panic c) a w)
    (hsz : 18 < a0.tmps.size) (e1 : a0.eval (.tmp 1) = .pointer (some ⟨b, 0, none⟩))
    (hS0 : S w5.drew)
    (keep : ∀ u u', S u → S u' → S u') (LRU : ∀ u, S u → (loadVar 74 ⟨b, 0, none⟩).run Tryz.prog u = .ok rv u)
    (C1 : Calls Tryz.prog 38 #[rv] w5.drew fun e u1 => ∃ sv1, e = .returned sv1 ∧ S u1 ∧ Calls Tryz.prog 64 #[rv] u1 fun e u2 => ∃ sv2, e = .returned sv2 ∧ S u2 ∧ Calls Tryz.prog 63 #[sv1, sv2] u2 fun e u3 => e = .returned (.int .i64 er) ∧ S u3)
    (F : ∀ (wc : World) (sv1 sv2 : Value), S wc → Q .normal ((((((a0.put (some 14) (rv)).put (some 16) (rv)).put (some 15) (sv1)).put (some 17) (sv2)).put (some 18) (.int .i64 er)).put (some 4) (.int .i64 er)) wc) :
    wpAnyH Tryz.prog .any ops Q S 6 (LR 6 []) a0 w5.drew := by
  have hall : ∀ p ∈ cirule_takes, Region.free .any ops (LR 6 p.1) p.2 = true ∧ (Region.ready .any ops (LR 6 p.1)).contains p.2 = true := by
    intro p hp
    have := List.all_eq_true.1 hq p hp
    simpa using this
  unfold cirule_takes at hall
  obtain ⟨o0, ho, hg, hop, hd⟩ := isOpG_out q0
  have hfr := hall ([], 0) (by simp)
  refine wpAnyH_take (listed := LR 6 []) (v := rv) ho hs hfr.1 hfr.2 (hQ _ _) (Or.inl ⟨(wantedN hg), fun w' hS => run_loadS _ _ hop w' (by (repeat rw [eval_far _ _ (by decide)]); exact e1) (LRU _ hS)⟩) hS0 ?_
  rw [hd, ← LR_snoc]
  clear ho hg hop hd hfr
  obtain ⟨o2, ho, hg, hop, hd⟩ := isOpG_out q2
  have hfr := hall ([0], 2) (by simp)
  refine wpAnyH_take (listed := LR 6 [0]) (v := rv) ho hs hfr.1 hfr.2 (hQ _ _) (Or.inl ⟨(wantedN hg), fun w' hS => run_loadS _ _ hop w' (by (repeat rw [eval_far _ _ (by decide)]); exact e1) (LRU _ hS)⟩) hS0 ?_
  rw [hd, ← LR_snoc]
  clear ho hg hop hd hfr
  refine wpAnyH_all r1 (by simp) ?_
  intro i hi
  obtain rfl := List.mem_singleton.1 hi
  obtain ⟨o1, ho, hg, hop, hd⟩ := isOpG_out q1
  have x1_0 : (((a0.put (some 14) (rv)).put (some 16) (rv))).eval (.tmp 14) = rv := (by (repeat (first | rw [eval_same _ _ (by (try simp only [put_size]); omega)] | rw [eval_far _ _ (by decide)])))
  refine wpOp_callG ho (wantedN hg) (run_callV 38 Tryz.func38 (by kernel_rfl) (by kernel_rfl) #[.tmp 14] _ hop #[rv] (by simp only [List.map_toArray, List.map_cons, List.map_nil, x1_0])) ?_
  refine (C1).mono ?_
  rintro e u1 ⟨sv1, rfl, hS1, C2⟩
  have hS1 := keep _ _ hS0 hS1
  refine ⟨_, rfl, hS1, ?_⟩
  rw [hd]
  clear ho hg hop hd
  rw [← LR_snoc]
  refine wpAnyH_all r3 (by simp) ?_
  intro i hi
  obtain rfl := List.mem_singleton.1 hi
  obtain ⟨o3, ho, hg, hop, hd⟩ := isOpG_out q3
  have x3_0 : ((((a0.put (some 14) (rv)).put (some 16) (rv)).put (some 15) (sv1))).eval (.tmp 16) = rv := (by (repeat (first | rw [eval_same _ _ (by (try simp only [put_size]); omega)] | rw [eval_far _ _ (by decide)])))
  refine wpOp_callG ho (wantedN hg) (run_callV 64 Tryz.func64 (by kernel_rfl) (by kernel_rfl) #[.tmp 16] _ hop #[rv] (by simp only [List.map_toArray, List.map_cons, List.map_nil, x3_0])) ?_
  refine (C2).mono ?_
  rintro e u2 ⟨sv2, rfl, hS2, C3⟩
  have hS3 := keep _ _ hS1 hS2
  refine ⟨_, rfl, hS3, ?_⟩
  rw [hd]
  clear ho hg hop hd
  rw [← LR_snoc]
  refine wpAnyH_all r4 (by simp) ?_
  intro i hi
  obtain rfl := List.mem_singleton.1 hi
  obtain ⟨o4, ho, hg, hop, hd⟩ := isOpG_out q4
  have x4_0 : (((((a0.put (some 14) (rv)).put (some 16) (rv)).put (some 15) (sv1)).put (some 17) (sv2))).eval (.tmp 15) = sv1 := (by (repeat (first | rw [eval_same _ _ (by (try simp only [put_size]); omega)] | rw [eval_far _ _ (by decide)])))
  have x4_1 : (((((a0.put (some 14) (rv)).put (some 16) (rv)).put (some 15) (sv1)).put (some 17) (sv2))).eval (.tmp 17) = sv2 := (by (repeat (first | rw [eval_same _ _ (by (try simp only [put_size]); omega)] | rw [eval_far _ _ (by decide)])))
  refine wpOp_callG ho (wantedN hg) (run_callV 63 Tryz.func63 (by kernel_rfl) (by kernel_rfl) #[.tmp 15, .tmp 17] _ hop #[sv1, sv2] (by simp only [List.map_toArray, List.map_cons, List.map_nil, x4_0, x4_1])) ?_
  refine (C3).mono ?_
  rintro e u3 ⟨rfl, hS3⟩
  have hS4 := keep _ _ hS3 hS3
  refine ⟨_, rfl, hS4, ?_⟩
  rw [hd]
  clear ho hg hop hd
  rw [← LR_snoc]
  obtain ⟨o5, ho, hg, hop, hd⟩ := isOpG_out q5
  have hfr := hall ([0, 2, 1, 3, 4], 5) (by simp)
  refine wpAnyH_take (listed := LR 6 [0, 2, 1, 3, 4]) (v := .int .i64 er) ho hs hfr.1 hfr.2 (hQ _ _) (Or.inl ⟨(wantedN hg), fun w' hS => run_assignV _ _ hop w' (by (repeat (first | rw [eval_same _ _ (by (try simp only [put_size]); omega)] | rw [eval_far _ _ (by decide)])))⟩) hS4 ?_
  rw [hd, ← LR_snoc]
  clear ho hg hop hd hfr
  exact wpAnyH_done rend (F _ sv1 sv2 hS4) _
def rfinput_takes : List (List Nat × Nat) := [([], 0), ([0], 1), ([0, 1], 2), ([0, 1, 2], 3), ([0, 1, 2, 3], 4), ([0, 1, 2, 3, 4], 5), ([0, 1, 2, 3, 4, 5], 6), ([0, 1, 2, 3, 4, 5, 6], 7), ([0, 1, 2, 3, 4, 5, 6, 7], 8), ([0, 1, 2, 3, 4, 5, 6, 7, 8], 9), ([0, 1, 2, 3, 4, 5, 6, 7, 8, 9], 10), ([0, 1, 2, 3, 4, 5, 6, 7, 8, 9, 10], 11), ([0, 1, 2, 3, 4, 5, 6, 7, 8, 9, 10, 11], 12), ([0, 1, 2, 3, 4, 5, 6, 7, 8, 9, 10, 11, 12, 13, 14], 15), ([0, 1, 2, 3, 4, 5, 6, 7, 8, 9, 10, 11, 12, 13, 14, 15], 16), ([0, 1, 2, 3, 4, 5, 6, 7, 8, 9, 10, 11, 12, 13, 14, 15, 16], 17), ([0, 1, 2, 3, 4, 5, 6, 7, 8, 9, 10, 11, 12, 13, 14, 15, 16, 17], 18), ([0, 1, 2, 3, 4, 5, 6, 7, 8, 9, 10, 11, 12, 13, 14, 15, 16, 17, 18], 19)]
set_option maxHeartbeats 3200000 in
theorem rfinput {ops : Array Oper} {Q : Exit → Act → World → Prop} {S : World → Prop} {a0 : Act} {w5 : World} {g off nn cc k tn tc : Nat} {ta : Option Addr} {pr : ByteArray} {kv : Value} {ty1 : Array TypeId} {P : Value → Bool → World → Prop}
    (q0 : isOpG ops 0 none (.move (.tmp 7)) (some 46))
    (q1 : isOpG ops 1 none (.move (.tmp 1)) (some 47))
    (q2 : isOpG ops 2 none (.move (.tmp 9)) (some 48))
    (q3 : isOpG ops 3 none (.indexAddr 25 (.tmp 47) (.tmp 48)) (some 49))
    (q4 : isOpG ops 4 none (.fieldAddr 48 (.tmp 49) 0) (some 50))
    (q5 : isOpG ops 5 none (.load 9 (.tmp 50)) (some 51))
    (q6 : isOpG ops 6 none (.move (.tmp 1)) (some 52))
    (q7 : isOpG ops 7 none (.move (.tmp 9)) (some 53))
    (q8 : isOpG ops 8 none (.indexAddr 25 (.tmp 52) (.tmp 53)) (some 54))
    (q9 : isOpG ops 9 none (.fieldAddr 48 (.tmp 54) 1) (some 55))
    (q10 : isOpG ops 10 none (.load 46 (.tmp 55)) (some 56))
    (q11 : isOpG ops 11 none (.call { callee := .builtin .len, args := #[.tmp 56], argTypes := #[46] }) (some 57))
    (q12 : isOpG ops 12 none (.build 65 #[(0, .tmp 51), (1, .tmp 57)]) (some 58))
    (q13 : isOpG ops 13 none (.buildSlice 58 1 #[(0, .tmp 58)]) (some 59))
    (q14 : isOpG ops 14 none (.call { callee := .value (.func 24), args := #[.tmp 46, .tmp 59], argTypes := ty1 }) (some 60))
    (q15 : isOpG ops 15 none (.move (.tmp 60)) (some 45))
    (q16 : isOpG ops 16 none (.extract (.tmp 45) 0) (some 61))
    (q17 : isOpG ops 17 none (.extract (.tmp 45) 1) (some 62))
    (q18 : isOpG ops 18 none (.assign (.tmp 61)) (some 11))
    (q19 : isOpG ops 19 none (.assign (.tmp 62)) (some 12))
    (hs : Region.noSelect ops = true) (hq : (rfinput_takes.all fun p => Region.free .any ops (LR 20 p.1) p.2 && (Region.ready .any ops (LR 20 p.1)).contains p.2) = true)
    (r13 : Region.ready .any ops (LR 20 [0, 1, 2, 3, 4, 5, 6, 7, 8, 9, 10, 11, 12]) = [13])
    (r14 : Region.ready .any ops (LR 20 [0, 1, 2, 3, 4, 5, 6, 7, 8, 9, 10, 11, 12, 13]) = [14])
    (rend : Region.ready .any ops (LR 20 [0, 1, 2, 3, 4, 5, 6, 7, 8, 9, 10, 11, 12, 13, 14, 15, 16, 17, 18, 19]) = [])
    (hQ : ∀ (d : Option Tmp) (v : Value) c a w, Q (.panic c) (a.put d v) w → Q (.panic c) a w)
    (hsz : 62 < a0.tmps.size) (e1 : a0.eval (.tmp 1) = .slice (some ⟨g, off, none⟩) nn cc) (e7 : a0.eval (.tmp 7) = kv) (e9 : a0.eval (.tmp 9) = .int .i64 (k : Int))
    (hS0 : S w5.drew)
    (keep : ∀ u u', S u → S u' → S u') (hk : k < nn) (LPR : ∀ u, S u → (loadVar 9 ⟨g, off + k * 2, none⟩).run Tryz.prog u = .ok (.string pr) u) (LTS : ∀ u, S u → (loadVar 46 ⟨g, off + k * 2 + 1, none⟩).run Tryz.prog u = .ok (.slice ta tn tc) u)
    (HSB : S (w5.drew.alloc (.cells #[.string pr, .int .i64 (tn : Int)] 65))) (C1 : Calls Tryz.prog 24 #[kv, .slice (some ⟨w5.heap.size, 0, none⟩) 1 1] (w5.drew.alloc (.cells #[.string pr, .int .i64 (tn : Int)] 65)) fun e u1 => ∃ nv ok, e = .returned (.tuple #[nv, .bool ok]) ∧ S u1 ∧ P nv ok u1)
    (F : ∀ (wc : World) (nv : Value) (ok : Bool), P nv ok wc → Q .normal ((((((((((((((((((((a0.put (some 46) (kv)).put (some 47) (.slice (some ⟨g, off, none⟩) nn cc)).put (some 48) (.int .i64 (k : Int))).put (some 49) (.pointer (some ⟨g, off + k * 2, none⟩))).put (some 50) (.pointer (some ⟨g, off + k * 2, none⟩))).put (some 51) (.string pr)).put (some 52) (.slice (some ⟨g, off, none⟩) nn cc)).put (some 53) (.int .i64 (k : Int))).put (some 54) (.pointer (some ⟨g, off + k * 2, none⟩))).put (some 55) (.pointer (some ⟨g, off + k * 2 + 1, none⟩))).put (some 56) (.slice ta tn tc)).put (some 57) (.int .i64 (tn : Int))).put (some 58) (.agg #[.string pr, .int .i64 (tn : Int)])).put (some 59) (.slice (some ⟨w5.heap.size, 0, none⟩) 1 1)).put (some 60) (.tuple #[nv, .bool ok])).put (some 45) (.tuple #[nv, .bool ok])).put (some 61) (nv)).put (some 62) (.bool ok)).put (some 11) (nv)).put (some 12) (.bool ok)) wc) :
    wpAnyH Tryz.prog .any ops Q S 20 (LR 20 []) a0 w5.drew := by
  have hall : ∀ p ∈ rfinput_takes, Region.free .any ops (LR 20 p.1) p.2 = true ∧ (Region.ready .any ops (LR 20 p.1)).contains p.2 = true := by
    intro p hp
    have := List.all_eq_true.1 hq p hp
    simpa using this
  unfold rfinput_takes at hall
  obtain ⟨o0, ho, hg, hop, hd⟩ := isOpG_out q0
  have hfr := hall ([], 0) (by simp)
  refine wpAnyH_take (listed := LR 20 []) (v := kv) ho hs hfr.1 hfr.2 (hQ _ _) (Or.inl ⟨(wantedN hg), fun w' hS => run_move _ _ hop w' (by (repeat rw [eval_far _ _ (by decide)]); exact e7)⟩) hS0 ?_
  rw [hd, ← LR_snoc]
  clear ho hg hop hd hfr
  obtain ⟨o1, ho, hg, hop, hd⟩ := isOpG_out q1
  have hfr := hall ([0], 1) (by simp)
  refine wpAnyH_take (listed := LR 20 [0]) (v := .slice (some ⟨g, off, none⟩) nn cc) ho hs hfr.1 hfr.2 (hQ _ _) (Or.inl ⟨(wantedN hg), fun w' hS => run_move _ _ hop w' (by (repeat rw [eval_far _ _ (by decide)]); exact e1)⟩) hS0 ?_
  rw [hd, ← LR_snoc]
  clear ho hg hop hd hfr
  obtain ⟨o2, ho, hg, hop, hd⟩ := isOpG_out q2
  have hfr := hall ([0, 1], 2) (by simp)
  refine wpAnyH_take (listed := LR 20 [0, 1]) (v := .int .i64 (k : Int)) ho hs hfr.1 hfr.2 (hQ _ _) (Or.inl ⟨(wantedN hg), fun w' hS => run_move _ _ hop w' (by (repeat rw [eval_far _ _ (by decide)]); exact e9)⟩) hS0 ?_
  rw [hd, ← LR_snoc]
  clear ho hg hop hd hfr
  obtain ⟨o3, ho, hg, hop, hd⟩ := isOpG_out q3
  have hfr := hall ([0, 1, 2], 3) (by simp)
  refine wpAnyH_take (listed := LR 20 [0, 1, 2]) (v := .pointer (some ⟨g, off + k * 2, none⟩)) ho hs hfr.1 hfr.2 (hQ _ _) (Or.inl ⟨(wantedN hg), fun w' hS => run_idxF _ _ hop w' (by (repeat (first | rw [eval_same _ _ (by (try simp only [put_size]); omega)] | rw [eval_far _ _ (by decide)]))) (by (repeat (first | rw [eval_same _ _ (by (try simp only [put_size]); omega)] | rw [eval_far _ _ (by decide)]))) hk⟩) hS0 ?_
  rw [hd, ← LR_snoc]
  clear ho hg hop hd hfr
  obtain ⟨o4, ho, hg, hop, hd⟩ := isOpG_out q4
  have hfr := hall ([0, 1, 2, 3], 4) (by simp)
  refine wpAnyH_take (listed := LR 20 [0, 1, 2, 3]) (v := .pointer (some ⟨g, off + k * 2, none⟩)) ho hs hfr.1 hfr.2 (hQ _ _) (Or.inl ⟨(wantedN hg), fun w' hS => run_fldF0 _ _ hop w' (by (repeat (first | rw [eval_same _ _ (by (try simp only [put_size]); omega)] | rw [eval_far _ _ (by decide)])))⟩) hS0 ?_
  rw [hd, ← LR_snoc]
  clear ho hg hop hd hfr
  obtain ⟨o5, ho, hg, hop, hd⟩ := isOpG_out q5
  have hfr := hall ([0, 1, 2, 3, 4], 5) (by simp)
  refine wpAnyH_take (listed := LR 20 [0, 1, 2, 3, 4]) (v := .string pr) ho hs hfr.1 hfr.2 (hQ _ _) (Or.inl ⟨(wantedN hg), fun w' hS => run_loadS _ _ hop w' (by (repeat (first | rw [eval_same _ _ (by (try simp only [put_size]); omega)] | rw [eval_far _ _ (by decide)]))) (LPR _ hS)⟩) hS0 ?_
  rw [hd, ← LR_snoc]
  clear ho hg hop hd hfr
  obtain ⟨o6, ho, hg, hop, hd⟩ := isOpG_out q6
  have hfr := hall ([0, 1, 2, 3, 4, 5], 6) (by simp)
  refine wpAnyH_take (listed := LR 20 [0, 1, 2, 3, 4, 5]) (v := .slice (some ⟨g, off, none⟩) nn cc) ho hs hfr.1 hfr.2 (hQ _ _) (Or.inl ⟨(wantedN hg), fun w' hS => run_move _ _ hop w' (by (repeat rw [eval_far _ _ (by decide)]); exact e1)⟩) hS0 ?_
  rw [hd, ← LR_snoc]
  clear ho hg hop hd hfr
  obtain ⟨o7, ho, hg, hop, hd⟩ := isOpG_out q7
  have hfr := hall ([0, 1, 2, 3, 4, 5, 6], 7) (by simp)
  refine wpAnyH_take (listed := LR 20 [0, 1, 2, 3, 4, 5, 6]) (v := .int .i64 (k : Int)) ho hs hfr.1 hfr.2 (hQ _ _) (Or.inl ⟨(wantedN hg), fun w' hS => run_move _ _ hop w' (by (repeat rw [eval_far _ _ (by decide)]); exact e9)⟩) hS0 ?_
  rw [hd, ← LR_snoc]
  clear ho hg hop hd hfr
  obtain ⟨o8, ho, hg, hop, hd⟩ := isOpG_out q8
  have hfr := hall ([0, 1, 2, 3, 4, 5, 6, 7], 8) (by simp)
  refine wpAnyH_take (listed := LR 20 [0, 1, 2, 3, 4, 5, 6, 7]) (v := .pointer (some ⟨g, off + k * 2, none⟩)) ho hs hfr.1 hfr.2 (hQ _ _) (Or.inl ⟨(wantedN hg), fun w' hS => run_idxF _ _ hop w' (by (repeat (first | rw [eval_same _ _ (by (try simp only [put_size]); omega)] | rw [eval_far _ _ (by decide)]))) (by (repeat (first | rw [eval_same _ _ (by (try simp only [put_size]); omega)] | rw [eval_far _ _ (by decide)]))) hk⟩) hS0 ?_
  rw [hd, ← LR_snoc]
  clear ho hg hop hd hfr
  obtain ⟨o9, ho, hg, hop, hd⟩ := isOpG_out q9
  have hfr := hall ([0, 1, 2, 3, 4, 5, 6, 7, 8], 9) (by simp)
  refine wpAnyH_take (listed := LR 20 [0, 1, 2, 3, 4, 5, 6, 7, 8]) (v := .pointer (some ⟨g, off + k * 2 + 1, none⟩)) ho hs hfr.1 hfr.2 (hQ _ _) (Or.inl ⟨(wantedN hg), fun w' hS => run_fldF1 _ _ hop w' (by (repeat (first | rw [eval_same _ _ (by (try simp only [put_size]); omega)] | rw [eval_far _ _ (by decide)])))⟩) hS0 ?_
  rw [hd, ← LR_snoc]
  clear ho hg hop hd hfr
  obtain ⟨o10, ho, hg, hop, hd⟩ := isOpG_out q10
  have hfr := hall ([0, 1, 2, 3, 4, 5, 6, 7, 8, 9], 10) (by simp)
  refine wpAnyH_take (listed := LR 20 [0, 1, 2, 3, 4, 5, 6, 7, 8, 9]) (v := .slice ta tn tc) ho hs hfr.1 hfr.2 (hQ _ _) (Or.inl ⟨(wantedN hg), fun w' hS => run_loadS _ _ hop w' (by (repeat (first | rw [eval_same _ _ (by (try simp only [put_size]); omega)] | rw [eval_far _ _ (by decide)]))) (LTS _ hS)⟩) hS0 ?_
  rw [hd, ← LR_snoc]
  clear ho hg hop hd hfr
  obtain ⟨o11, ho, hg, hop, hd⟩ := isOpG_out q11
  have hfr := hall ([0, 1, 2, 3, 4, 5, 6, 7, 8, 9, 10], 11) (by simp)
  refine wpAnyH_take (listed := LR 20 [0, 1, 2, 3, 4, 5, 6, 7, 8, 9, 10]) (v := .int .i64 (tn : Int)) ho hs hfr.1 hfr.2 (hQ _ _) (Or.inl ⟨(wantedN hg), fun w' hS => run_lenW _ _ hop w' (by (repeat (first | rw [eval_same _ _ (by (try simp only [put_size]); omega)] | rw [eval_far _ _ (by decide)])))⟩) hS0 ?_
  rw [hd, ← LR_snoc]
  clear ho hg hop hd hfr
  obtain ⟨o12, ho, hg, hop, hd⟩ := isOpG_out q12
  have hfr := hall ([0, 1, 2, 3, 4, 5, 6, 7, 8, 9, 10, 11], 12) (by simp)
  refine wpAnyH_take (listed := LR 20 [0, 1, 2, 3, 4, 5, 6, 7, 8, 9, 10, 11]) (v := .agg #[.string pr, .int .i64 (tn : Int)]) ho hs hfr.1 hfr.2 (hQ _ _) (Or.inl ⟨(wantedN hg), fun w' hS => run_buildPd _ _ hop w' (by (repeat (first | rw [eval_same _ _ (by (try simp only [put_size]); omega)] | rw [eval_far _ _ (by decide)]))) (by (repeat (first | rw [eval_same _ _ (by (try simp only [put_size]); omega)] | rw [eval_far _ _ (by decide)])))⟩) hS0 ?_
  rw [hd, ← LR_snoc]
  clear ho hg hop hd hfr
  refine wpAnyH_all r13 (by simp) ?_
  intro i hi
  obtain rfl := List.mem_singleton.1 hi
  obtain ⟨o13, ho, hg, hop, hd⟩ := isOpG_out q13
  refine wpOp_valG ho (wantedN hg) (run_bsPd (b := w5.heap.size) _ _ hop _ (by (repeat (first | rw [eval_same _ _ (by (try simp only [put_size]); omega)] | rw [eval_far _ _ (by decide)]))) rfl) ?_
  have hS13 := HSB
  refine ⟨hS13, ?_⟩
  rw [hd]
  clear ho hg hop hd
  rw [← LR_snoc]
  refine wpAnyH_all r14 (by simp) ?_
  intro i hi
  obtain rfl := List.mem_singleton.1 hi
  obtain ⟨o14, ho, hg, hop, hd⟩ := isOpG_out q14
  have x14_0 : (((((((((((((((a0.put (some 46) (kv)).put (some 47) (.slice (some ⟨g, off, none⟩) nn cc)).put (some 48) (.int .i64 (k : Int))).put (some 49) (.pointer (some ⟨g, off + k * 2, none⟩))).put (some 50) (.pointer (some ⟨g, off + k * 2, none⟩))).put (some 51) (.string pr)).put (some 52) (.slice (some ⟨g, off, none⟩) nn cc)).put (some 53) (.int .i64 (k : Int))).put (some 54) (.pointer (some ⟨g, off + k * 2, none⟩))).put (some 55) (.pointer (some ⟨g, off + k * 2 + 1, none⟩))).put (some 56) (.slice ta tn tc)).put (some 57) (.int .i64 (tn : Int))).put (some 58) (.agg #[.string pr, .int .i64 (tn : Int)])).put (some 59) (.slice (some ⟨w5.heap.size, 0, none⟩) 1 1))).eval (.tmp 46) = kv := (by (repeat (first | rw [eval_same _ _ (by (try simp only [put_size]); omega)] | rw [eval_far _ _ (by decide)])))
  have x14_1 : (((((((((((((((a0.put (some 46) (kv)).put (some 47) (.slice (some ⟨g, off, none⟩) nn cc)).put (some 48) (.int .i64 (k : Int))).put (some 49) (.pointer (some ⟨g, off + k * 2, none⟩))).put (some 50) (.pointer (some ⟨g, off + k * 2, none⟩))).put (some 51) (.string pr)).put (some 52) (.slice (some ⟨g, off, none⟩) nn cc)).put (some 53) (.int .i64 (k : Int))).put (some 54) (.pointer (some ⟨g, off + k * 2, none⟩))).put (some 55) (.pointer (some ⟨g, off + k * 2 + 1, none⟩))).put (some 56) (.slice ta tn tc)).put (some 57) (.int .i64 (tn : Int))).put (some 58) (.agg #[.string pr, .int .i64 (tn : Int)])).put (some 59) (.slice (some ⟨w5.heap.size, 0, none⟩) 1 1))).eval (.tmp 59) = .slice (some ⟨w5.heap.size, 0, none⟩) 1 1 := (by (repeat (first | rw [eval_same _ _ (by (try simp only [put_size]); omega)] | rw [eval_far _ _ (by decide)])))
  refine wpOp_callG ho (wantedN hg) (run_callV 24 Tryz.func24 (by kernel_rfl) (by kernel_rfl) #[.tmp 46, .tmp 59] _ hop #[kv, .slice (some ⟨w5.heap.size, 0, none⟩) 1 1] (by simp only [List.map_toArray, List.map_cons, List.map_nil, x14_0, x14_1])) ?_
  refine (C1).mono ?_
  rintro e u1 ⟨nv, ok, rfl, hS1, hP⟩
  have hS14 := keep _ _ hS13 hS1
  refine ⟨_, rfl, hS14, ?_⟩
  rw [hd]
  clear ho hg hop hd
  rw [← LR_snoc]
  obtain ⟨o15, ho, hg, hop, hd⟩ := isOpG_out q15
  have hfr := hall ([0, 1, 2, 3, 4, 5, 6, 7, 8, 9, 10, 11, 12, 13, 14], 15) (by simp)
  refine wpAnyH_take (listed := LR 20 [0, 1, 2, 3, 4, 5, 6, 7, 8, 9, 10, 11, 12, 13, 14]) (v := .tuple #[nv, .bool ok]) ho hs hfr.1 hfr.2 (hQ _ _) (Or.inl ⟨(wantedN hg), fun w' hS => run_move _ _ hop w' (by (repeat (first | rw [eval_same _ _ (by (try simp only [put_size]); omega)] | rw [eval_far _ _ (by decide)])))⟩) hS14 ?_
  rw [hd, ← LR_snoc]
  clear ho hg hop hd hfr
  obtain ⟨o16, ho, hg, hop, hd⟩ := isOpG_out q16
  have hfr := hall ([0, 1, 2, 3, 4, 5, 6, 7, 8, 9, 10, 11, 12, 13, 14, 15], 16) (by simp)
  refine wpAnyH_take (listed := LR 20 [0, 1, 2, 3, 4, 5, 6, 7, 8, 9, 10, 11, 12, 13, 14, 15]) (v := nv) ho hs hfr.1 hfr.2 (hQ _ _) (Or.inl ⟨(wantedN hg), fun w' hS => run_ext0 _ _ hop w' (by (repeat (first | rw [eval_same _ _ (by (try simp only [put_size]); omega)] | rw [eval_far _ _ (by decide)])))⟩) hS14 ?_
  rw [hd, ← LR_snoc]
  clear ho hg hop hd hfr
  obtain ⟨o17, ho, hg, hop, hd⟩ := isOpG_out q17
  have hfr := hall ([0, 1, 2, 3, 4, 5, 6, 7, 8, 9, 10, 11, 12, 13, 14, 15, 16], 17) (by simp)
  refine wpAnyH_take (listed := LR 20 [0, 1, 2, 3, 4, 5, 6, 7, 8, 9, 10, 11, 12, 13, 14, 15, 16]) (v := .bool ok) ho hs hfr.1 hfr.2 (hQ _ _) (Or.inl ⟨(wantedN hg), fun w' hS => run_ext1 _ _ hop w' (by (repeat (first | rw [eval_same _ _ (by (try simp only [put_size]); omega)] | rw [eval_far _ _ (by decide)])))⟩) hS14 ?_
  rw [hd, ← LR_snoc]
  clear ho hg hop hd hfr
  obtain ⟨o18, ho, hg, hop, hd⟩ := isOpG_out q18
  have hfr := hall ([0, 1, 2, 3, 4, 5, 6, 7, 8, 9, 10, 11, 12, 13, 14, 15, 16, 17], 18) (by simp)
  refine wpAnyH_take (listed := LR 20 [0, 1, 2, 3, 4, 5, 6, 7, 8, 9, 10, 11, 12, 13, 14, 15, 16, 17]) (v := nv) ho hs hfr.1 hfr.2 (hQ _ _) (Or.inl ⟨(wantedN hg), fun w' hS => run_assignV _ _ hop w' (by (repeat (first | rw [eval_same _ _ (by (try simp only [put_size]); omega)] | rw [eval_far _ _ (by decide)])))⟩) hS14 ?_
  rw [hd, ← LR_snoc]
  clear ho hg hop hd hfr
  obtain ⟨o19, ho, hg, hop, hd⟩ := isOpG_out q19
  have hfr := hall ([0, 1, 2, 3, 4, 5, 6, 7, 8, 9, 10, 11, 12, 13, 14, 15, 16, 17, 18], 19) (by simp)
  refine wpAnyH_take (listed := LR 20 [0, 1, 2, 3, 4, 5, 6, 7, 8, 9, 10, 11, 12, 13, 14, 15, 16, 17, 18]) (v := .bool ok) ho hs hfr.1 hfr.2 (hQ _ _) (Or.inl ⟨(wantedN hg), fun w' hS => run_assignV _ _ hop w' (by (repeat (first | rw [eval_same _ _ (by (try simp only [put_size]); omega)] | rw [eval_far _ _ (by decide)])))⟩) hS14 ?_
  rw [hd, ← LR_snoc]
  clear ho hg hop hd hfr
  exact wpAnyH_done rend (F _ nv ok hP) _
def cilaw_takes : List (List Nat × Nat) := [([], 0), ([0], 1), ([0, 1], 2), ([0, 1, 2], 4), ([0, 1, 2, 4], 5), ([0, 1, 2, 4, 5], 6), ([0, 1, 2, 4, 5, 6, 3, 7], 8), ([0, 1, 2, 4, 5, 6, 3, 7, 8], 9), ([0, 1, 2, 4, 5, 6, 3, 7, 8, 9], 10), ([0, 1, 2, 4, 5, 6, 3, 7, 8, 9, 10], 11), ([0, 1, 2, 4, 5, 6, 3, 7, 8, 9, 10, 11, 12], 13), ([0, 1, 2, 4, 5, 6, 3, 7, 8, 9, 10, 11, 12, 13], 14), ([0, 1, 2, 4, 5, 6, 3, 7, 8, 9, 10, 11, 12, 13, 14], 15), ([0, 1, 2, 4, 5, 6, 3, 7, 8, 9, 10, 11, 12, 13, 14, 15], 16), ([0, 1, 2, 4, 5, 6, 3, 7, 8, 9, 10, 11, 12, 13, 14, 15, 16, 17], 18), ([0, 1, 2, 4, 5, 6, 3, 7, 8, 9, 10, 11, 12, 13, 14, 15, 16, 17, 18], 19), ([0, 1, 2, 4, 5, 6, 3, 7, 8, 9, 10, 11, 12, 13, 14, 15, 16, 17, 18, 19], 20), ([0, 1, 2, 4, 5, 6, 3, 7, 8, 9, 10, 11, 12, 13, 14, 15, 16, 17, 18, 19, 20], 21), ([0, 1, 2, 4, 5, 6, 3, 7, 8, 9, 10, 11, 12, 13, 14, 15, 16, 17, 18, 19, 20, 21, 22], 23), ([0, 1, 2, 4, 5, 6, 3, 7, 8, 9, 10, 11, 12, 13, 14, 15, 16, 17, 18, 19, 20, 21, 22, 23], 24)]
set_option maxHeartbeats 3200000 in
theorem cilaw {ops : Array Oper} {Q : Exit → Act → World → Prop} {S : World → Prop} {a0 : Act} {w5 : World} {b3 b5 b7 b9 : Nat} {tv tf ta rv rf ra : Value} {p1 p2 p3 : Int} {ty1 ty2 ty3 ty4 ty5 : Array TypeId}
    (q0 : isOpG ops 0 none (.load 24 (.tmp 7)) (some 20))
    (q1 : isOpG ops 1 none (.move (.tmp 8)) (some 21))
    (q2 : isOpG ops 2 none (.load 28 (.tmp 9)) (some 22))
    (q4 : isOpG ops 4 none (.load 24 (.tmp 3)) (some 24))
    (q5 : isOpG ops 5 none (.move (.tmp 1)) (some 25))
    (q6 : isOpG ops 6 none (.load 28 (.tmp 5)) (some 26))
    (q3 : isOpG ops 3 none (.call { callee := .value (.func 8), args := #[.tmp 20, .tmp 21, .tmp 22], argTypes := ty1 }) (some 23))
    (q7 : isOpG ops 7 none (.call { callee := .value (.func 9), args := #[.tmp 24, .tmp 25, .tmp 26], argTypes := ty2 }) (some 27))
    (q8 : isOpG ops 8 none (.binOp .eql 37 (.tmp 23) (.tmp 27) 37) (some 28))
    (q9 : isOpG ops 9 none (.move (.tmp 28)) (some 29))
    (q10 : isOpG ops 10 (some (9, true)) (.load 24 (.tmp 7)) (some 30))
    (q11 : isOpG ops 11 (some (9, true)) (.load 24 (.tmp 3)) (some 31))
    (q12 : isOpG ops 12 (some (9, true)) (.call { callee := .value (.func 10), args := #[.tmp 30, .tmp 31], argTypes := ty3 }) (some 32))
    (q13 : isOpG ops 13 none (.pick (.tmp 29) (.tmp 32) (.const (.bool false))) (some 33))
    (q14 : isOpG ops 14 none (.move (.tmp 33)) (some 34))
    (q15 : isOpG ops 15 (some (14, true)) (.move (.tmp 8)) (some 35))
    (q16 : isOpG ops 16 (some (14, true)) (.move (.tmp 1)) (some 36))
    (q17 : isOpG ops 17 (some (14, true)) (.call { callee := .value (.func 11), args := #[.tmp 35, .tmp 36], argTypes := ty4 }) (some 37))
    (q18 : isOpG ops 18 none (.pick (.tmp 34) (.tmp 37) (.const (.bool false))) (some 38))
    (q19 : isOpG ops 19 none (.move (.tmp 38)) (some 39))
    (q20 : isOpG ops 20 (some (19, true)) (.load 28 (.tmp 9)) (some 40))
    (q21 : isOpG ops 21 (some (19, true)) (.load 28 (.tmp 5)) (some 41))
    (q22 : isOpG ops 22 (some (19, true)) (.call { callee := .value (.func 12), args := #[.tmp 40, .tmp 41], argTypes := ty5 }) (some 42))
    (q23 : isOpG ops 23 none (.pick (.tmp 39) (.tmp 42) (.const (.bool false))) (some 43))
    (q24 : isOpG ops 24 none (.assign (.tmp 43)) (some 6))
    (hs : Region.noSelect ops = true) (hq : (cilaw_takes.all fun p => Region.free .any ops (LR 25 p.1) p.2 && (Region.ready .any ops (LR 25 p.1)).contains p.2) = true)
    (r3 : Region.ready .any ops (LR 25 [0, 1, 2, 4, 5, 6]) = [3])
    (r7 : Region.ready .any ops (LR 25 [0, 1, 2, 4, 5, 6, 3]) = [7])
    (r12 : Region.ready .any ops (LR 25 [0, 1, 2, 4, 5, 6, 3, 7, 8, 9, 10, 11]) = [12])
    (r17 : Region.ready .any ops (LR 25 [0, 1, 2, 4, 5, 6, 3, 7, 8, 9, 10, 11, 12, 13, 14, 15, 16]) = [17])
    (r22 : Region.ready .any ops (LR 25 [0, 1, 2, 4, 5, 6, 3, 7, 8, 9, 10, 11, 12, 13, 14, 15, 16, 17, 18, 19, 20, 21]) = [22])
    (rend : Region.ready .any ops (LR 25 [0, 1, 2, 4, 5, 6, 3, 7, 8, 9, 10, 11, 12, 13, 14, 15, 16, 17, 18, 19, 20, 21, 22, 23, 24]) = [])
    (hQ : ∀ (d : Option Tmp) (v : Value) c a w, Q (.panic c) (a.put d v) w → Q (.panic c) a w)
    (hsz : 43 < a0.tmps.size) (e1 : a0.eval (.tmp 1) = rf) (e3 : a0.eval (.tmp 3) = .pointer (some ⟨b3, 0, none⟩)) (e5 : a0.eval (.tmp 5) = .pointer (some ⟨b5, 0, none⟩)) (e7 : a0.eval (.tmp 7) = .pointer (some ⟨b7, 0, none⟩)) (e8 : a0.eval (.tmp 8) = tf) (e9 : a0.eval (.tmp 9) = .pointer (some ⟨b9, 0, none⟩))
    (hS0 : S w5.drew)
    (keep : ∀ u u', S u → S u' → S u') (LPT : ∀ u, S u → (loadVar 24 ⟨b7, 0, none⟩).run Tryz.prog u = .ok tv u) (LPR : ∀ u, S u → (loadVar 24 ⟨b3, 0, none⟩).run Tryz.prog u = .ok rv u) (LAT : ∀ u, S u → (loadVar 28 ⟨b9, 0, none⟩).run Tryz.prog u = .ok ta u) (LAR : ∀ u, S u → (loadVar 28 ⟨b5, 0, none⟩).run Tryz.prog u = .ok ra u)
    (EQ1 : ∀ u, (binOp .eql 37 (.agg #[.int .i8 p1, .int .i64 p2, .int .i64 p3]) (.agg #[.int .i8 p1, .int .i64 p2, .int .i64 p3])).run Tryz.prog u = .ok (.bool true) u)
    (C1 : Calls Tryz.prog 8 #[tv, tf, ta] w5.drew fun e u1 => e = .returned (.agg #[.int .i8 p1, .int .i64 p2, .int .i64 p3]) ∧ S u1 ∧ Calls Tryz.prog 9 #[rv, rf, ra] u1 fun e u2 => e = .returned (.agg #[.int .i8 p1, .int .i64 p2, .int .i64 p3]) ∧ S u2 ∧ Calls Tryz.prog 10 #[tv, rv] u2 fun e u3 => e = .returned (.bool true) ∧ S u3 ∧ Calls Tryz.prog 11 #[tf, rf] u3 fun e u4 => e = .returned (.bool true) ∧ S u4 ∧ Calls Tryz.prog 12 #[ta, ra] u4 fun e u5 => e = .returned (.bool true) ∧ S u5)
    (F : ∀ (wc : World), S wc → Q .normal (((((((((((((((((((((((((a0.put (some 20) (tv)).put (some 21) (tf)).put (some 22) (ta)).put (some 24) (rv)).put (some 25) (rf)).put (some 26) (ra)).put (some 23) (.agg #[.int .i8 p1, .int .i64 p2, .int .i64 p3])).put (some 27) (.agg #[.int .i8 p1, .int .i64 p2, .int .i64 p3])).put (some 28) (.bool true)).put (some 29) (.bool true)).put (some 30) (tv)).put (some 31) (rv)).put (some 32) (.bool true)).put (some 33) (.bool true)).put (some 34) (.bool true)).put (some 35) (tf)).put (some 36) (rf)).put (some 37) (.bool true)).put (some 38) (.bool true)).put (some 39) (.bool true)).put (some 40) (ta)).put (some 41) (ra)).put (some 42) (.bool true)).put (some 43) (.bool true)).put (some 6) (.bool true)) wc) :
    wpAnyH Tryz.prog .any ops Q S 25 (LR 25 []) a0 w5.drew := by
  have hall : ∀ p ∈ cilaw_takes, Region.free .any ops (LR 25 p.1) p.2 = true ∧ (Region.ready .any ops (LR 25 p.1)).contains p.2 = true := by
    intro p hp
    have := List.all_eq_true.1 hq p hp
    simpa using this
  unfold cilaw_takes at hall
  obtain ⟨og9, hog9, _, _, dog9⟩ := isOpG_out q9
  obtain ⟨og14, hog14, _, _, dog14⟩ := isOpG_out q14
  obtain ⟨og19, hog19, _, _, dog19⟩ := isOpG_out q19
  obtain ⟨o0, ho, hg, hop, hd⟩ := isOpG_out q0
  have hfr := hall ([], 0) (by simp)
  refine wpAnyH_take (listed := LR 25 []) (v := tv) ho hs hfr.1 hfr.2 (hQ _ _) (Or.inl ⟨(wantedN hg), fun w' hS => run_loadS _ _ hop w' (by (repeat rw [eval_far _ _ (by decide)]); exact e7) (LPT _ hS)⟩) hS0 ?_
  rw [hd, ← LR_snoc]
  clear ho hg hop hd hfr
  obtain ⟨o1, ho, hg, hop, hd⟩ := isOpG_out q1
  have hfr := hall ([0], 1) (by simp)
  refine wpAnyH_take (listed := LR 25 [0]) (v := tf) ho hs hfr.1 hfr.2 (hQ _ _) (Or.inl ⟨(wantedN hg), fun w' hS => run_move _ _ hop w' (by (repeat rw [eval_far _ _ (by decide)]); exact e8)⟩) hS0 ?_
  rw [hd, ← LR_snoc]
  clear ho hg hop hd hfr
  obtain ⟨o2, ho, hg, hop, hd⟩ := isOpG_out q2
  have hfr := hall ([0, 1], 2) (by simp)
  refine wpAnyH_take (listed := LR 25 [0, 1]) (v := ta) ho hs hfr.1 hfr.2 (hQ _ _) (Or.inl ⟨(wantedN hg), fun w' hS => run_loadS _ _ hop w' (by (repeat rw [eval_far _ _ (by decide)]); exact e9) (LAT _ hS)⟩) hS0 ?_
  rw [hd, ← LR_snoc]
  clear ho hg hop hd hfr
  obtain ⟨o4, ho, hg, hop, hd⟩ := isOpG_out q4
  have hfr := hall ([0, 1, 2], 4) (by simp)
  refine wpAnyH_take (listed := LR 25 [0, 1, 2]) (v := rv) ho hs hfr.1 hfr.2 (hQ _ _) (Or.inl ⟨(wantedN hg), fun w' hS => run_loadS _ _ hop w' (by (repeat rw [eval_far _ _ (by decide)]); exact e3) (LPR _ hS)⟩) hS0 ?_
  rw [hd, ← LR_snoc]
  clear ho hg hop hd hfr
  obtain ⟨o5, ho, hg, hop, hd⟩ := isOpG_out q5
  have hfr := hall ([0, 1, 2, 4], 5) (by simp)
  refine wpAnyH_take (listed := LR 25 [0, 1, 2, 4]) (v := rf) ho hs hfr.1 hfr.2 (hQ _ _) (Or.inl ⟨(wantedN hg), fun w' hS => run_move _ _ hop w' (by (repeat rw [eval_far _ _ (by decide)]); exact e1)⟩) hS0 ?_
  rw [hd, ← LR_snoc]
  clear ho hg hop hd hfr
  obtain ⟨o6, ho, hg, hop, hd⟩ := isOpG_out q6
  have hfr := hall ([0, 1, 2, 4, 5], 6) (by simp)
  refine wpAnyH_take (listed := LR 25 [0, 1, 2, 4, 5]) (v := ra) ho hs hfr.1 hfr.2 (hQ _ _) (Or.inl ⟨(wantedN hg), fun w' hS => run_loadS _ _ hop w' (by (repeat rw [eval_far _ _ (by decide)]); exact e5) (LAR _ hS)⟩) hS0 ?_
  rw [hd, ← LR_snoc]
  clear ho hg hop hd hfr
  refine wpAnyH_all r3 (by simp) ?_
  intro i hi
  obtain rfl := List.mem_singleton.1 hi
  obtain ⟨o3, ho, hg, hop, hd⟩ := isOpG_out q3
  have x3_0 : (((((((a0.put (some 20) (tv)).put (some 21) (tf)).put (some 22) (ta)).put (some 24) (rv)).put (some 25) (rf)).put (some 26) (ra))).eval (.tmp 20) = tv := (by (repeat (first | rw [eval_same _ _ (by (try simp only [put_size]); omega)] | rw [eval_far _ _ (by decide)])))
  have x3_1 : (((((((a0.put (some 20) (tv)).put (some 21) (tf)).put (some 22) (ta)).put (some 24) (rv)).put (some 25) (rf)).put (some 26) (ra))).eval (.tmp 21) = tf := (by (repeat (first | rw [eval_same _ _ (by (try simp only [put_size]); omega)] | rw [eval_far _ _ (by decide)])))
  have x3_2 : (((((((a0.put (some 20) (tv)).put (some 21) (tf)).put (some 22) (ta)).put (some 24) (rv)).put (some 25) (rf)).put (some 26) (ra))).eval (.tmp 22) = ta := (by (repeat (first | rw [eval_same _ _ (by (try simp only [put_size]); omega)] | rw [eval_far _ _ (by decide)])))
  refine wpOp_callG ho (wantedN hg) (run_callV 8 Tryz.func8 (by kernel_rfl) (by kernel_rfl) #[.tmp 20, .tmp 21, .tmp 22] _ hop #[tv, tf, ta] (by simp only [List.map_toArray, List.map_cons, List.map_nil, x3_0, x3_1, x3_2])) ?_
  refine (C1).mono ?_
  rintro e u1 ⟨rfl, hS1, C2⟩
  have hS3 := keep _ _ hS0 hS1
  refine ⟨_, rfl, hS3, ?_⟩
  rw [hd]
  clear ho hg hop hd
  rw [← LR_snoc]
  refine wpAnyH_all r7 (by simp) ?_
  intro i hi
  obtain rfl := List.mem_singleton.1 hi
  obtain ⟨o7, ho, hg, hop, hd⟩ := isOpG_out q7
  have x7_0 : ((((((((a0.put (some 20) (tv)).put (some 21) (tf)).put (some 22) (ta)).put (some 24) (rv)).put (some 25) (rf)).put (some 26) (ra)).put (some 23) (.agg #[.int .i8 p1, .int .i64 p2, .int .i64 p3]))).eval (.tmp 24) = rv := (by (repeat (first | rw [eval_same _ _ (by (try simp only [put_size]); omega)] | rw [eval_far _ _ (by decide)])))
  have x7_1 : ((((((((a0.put (some 20) (tv)).put (some 21) (tf)).put (some 22) (ta)).put (some 24) (rv)).put (some 25) (rf)).put (some 26) (ra)).put (some 23) (.agg #[.int .i8 p1, .int .i64 p2, .int .i64 p3]))).eval (.tmp 25) = rf := (by (repeat (first | rw [eval_same _ _ (by (try simp only [put_size]); omega)] | rw [eval_far _ _ (by decide)])))
  have x7_2 : ((((((((a0.put (some 20) (tv)).put (some 21) (tf)).put (some 22) (ta)).put (some 24) (rv)).put (some 25) (rf)).put (some 26) (ra)).put (some 23) (.agg #[.int .i8 p1, .int .i64 p2, .int .i64 p3]))).eval (.tmp 26) = ra := (by (repeat (first | rw [eval_same _ _ (by (try simp only [put_size]); omega)] | rw [eval_far _ _ (by decide)])))
  refine wpOp_callG ho (wantedN hg) (run_callV 9 Tryz.func9 (by kernel_rfl) (by kernel_rfl) #[.tmp 24, .tmp 25, .tmp 26] _ hop #[rv, rf, ra] (by simp only [List.map_toArray, List.map_cons, List.map_nil, x7_0, x7_1, x7_2])) ?_
  refine (C2).mono ?_
  rintro e u2 ⟨rfl, hS2, C3⟩
  have hS7 := keep _ _ hS3 hS2
  refine ⟨_, rfl, hS7, ?_⟩
  rw [hd]
  clear ho hg hop hd
  rw [← LR_snoc]
  obtain ⟨o8, ho, hg, hop, hd⟩ := isOpG_out q8
  have hfr := hall ([0, 1, 2, 4, 5, 6, 3, 7], 8) (by simp)
  refine wpAnyH_take (listed := LR 25 [0, 1, 2, 4, 5, 6, 3, 7]) (v := .bool true) ho hs hfr.1 hfr.2 (hQ _ _) (Or.inl ⟨(wantedN hg), fun w' hS => run_binV _ _ hop w' (by (repeat (first | rw [eval_same _ _ (by (try simp only [put_size]); omega)] | rw [eval_far _ _ (by decide)]))) (by (repeat (first | rw [eval_same _ _ (by (try simp only [put_size]); omega)] | rw [eval_far _ _ (by decide)]))) (geRf _ _ _ _ w') (EQ1 w')⟩) hS7 ?_
  rw [hd, ← LR_snoc]
  clear ho hg hop hd hfr
  obtain ⟨o9, ho, hg, hop, hd⟩ := isOpG_out q9
  have hfr := hall ([0, 1, 2, 4, 5, 6, 3, 7, 8], 9) (by simp)
  refine wpAnyH_take (listed := LR 25 [0, 1, 2, 4, 5, 6, 3, 7, 8]) (v := .bool true) ho hs hfr.1 hfr.2 (hQ _ _) (Or.inl ⟨(wantedN hg), fun w' hS => run_move _ _ hop w' (by (repeat (first | rw [eval_same _ _ (by (try simp only [put_size]); omega)] | rw [eval_far _ _ (by decide)])))⟩) hS7 ?_
  rw [hd, ← LR_snoc]
  clear ho hg hop hd hfr
  obtain ⟨o10, ho, hg, hop, hd⟩ := isOpG_out q10
  have hfr := hall ([0, 1, 2, 4, 5, 6, 3, 7, 8, 9], 10) (by simp)
  refine wpAnyH_take (listed := LR 25 [0, 1, 2, 4, 5, 6, 3, 7, 8, 9]) (v := tv) ho hs hfr.1 hfr.2 (hQ _ _) (Or.inl ⟨((wantedB hog9 dog9 hg (by (repeat (first | rw [tmps_same _ _ (by (try simp only [put_size]); omega)] | rw [tmps_far _ _ (by decide)])))).trans (by decide)), fun w' hS => run_loadS _ _ hop w' (by (repeat rw [eval_far _ _ (by decide)]); exact e7) (LPT _ hS)⟩) hS7 ?_
  rw [hd, ← LR_snoc]
  clear ho hg hop hd hfr
  obtain ⟨o11, ho, hg, hop, hd⟩ := isOpG_out q11
  have hfr := hall ([0, 1, 2, 4, 5, 6, 3, 7, 8, 9, 10], 11) (by simp)
  refine wpAnyH_take (listed := LR 25 [0, 1, 2, 4, 5, 6, 3, 7, 8, 9, 10]) (v := rv) ho hs hfr.1 hfr.2 (hQ _ _) (Or.inl ⟨((wantedB hog9 dog9 hg (by (repeat (first | rw [tmps_same _ _ (by (try simp only [put_size]); omega)] | rw [tmps_far _ _ (by decide)])))).trans (by decide)), fun w' hS => run_loadS _ _ hop w' (by (repeat rw [eval_far _ _ (by decide)]); exact e3) (LPR _ hS)⟩) hS7 ?_
  rw [hd, ← LR_snoc]
  clear ho hg hop hd hfr
  refine wpAnyH_all r12 (by simp) ?_
  intro i hi
  obtain rfl := List.mem_singleton.1 hi
  obtain ⟨o12, ho, hg, hop, hd⟩ := isOpG_out q12
  have x12_0 : (((((((((((((a0.put (some 20) (tv)).put (some 21) (tf)).put (some 22) (ta)).put (some 24) (rv)).put (some 25) (rf)).put (some 26) (ra)).put (some 23) (.agg #[.int .i8 p1, .int .i64 p2, .int .i64 p3])).put (some 27) (.agg #[.int .i8 p1, .int .i64 p2, .int .i64 p3])).put (some 28) (.bool true)).put (some 29) (.bool true)).put (some 30) (tv)).put (some 31) (rv))).eval (.tmp 30) = tv := (by (repeat (first | rw [eval_same _ _ (by (try simp only [put_size]); omega)] | rw [eval_far _ _ (by decide)])))
  have x12_1 : (((((((((((((a0.put (some 20) (tv)).put (some 21) (tf)).put (some 22) (ta)).put (some 24) (rv)).put (some 25) (rf)).put (some 26) (ra)).put (some 23) (.agg #[.int .i8 p1, .int .i64 p2, .int .i64 p3])).put (some 27) (.agg #[.int .i8 p1, .int .i64 p2, .int .i64 p3])).put (some 28) (.bool true)).put (some 29) (.bool true)).put (some 30) (tv)).put (some 31) (rv))).eval (.tmp 31) = rv := (by (repeat (first | rw [eval_same _ _ (by (try simp only [put_size]); omega)] | rw [eval_far _ _ (by decide)])))
  refine wpOp_callG ho ((wantedB hog9 dog9 hg (by (repeat (first | rw [tmps_same _ _ (by (try simp only [put_size]); omega)] | rw [tmps_far _ _ (by decide)])))).trans (by decide)) (run_callV 10 Tryz.func10 (by kernel_rfl) (by kernel_rfl) #[.tmp 30, .tmp 31] _ hop #[tv, rv] (by simp only [List.map_toArray, List.map_cons, List.map_nil, x12_0, x12_1])) ?_
  refine (C3).mono ?_
  rintro e u3 ⟨rfl, hS3, C4⟩
  have hS12 := keep _ _ hS7 hS3
  refine ⟨_, rfl, hS12, ?_⟩
  rw [hd]
  clear ho hg hop hd
  rw [← LR_snoc]
  obtain ⟨o13, ho, hg, hop, hd⟩ := isOpG_out q13
  have hfr := hall ([0, 1, 2, 4, 5, 6, 3, 7, 8, 9, 10, 11, 12], 13) (by simp)
  refine wpAnyH_take (listed := LR 25 [0, 1, 2, 4, 5, 6, 3, 7, 8, 9, 10, 11, 12]) (v := .bool true) ho hs hfr.1 hfr.2 (hQ _ _) (Or.inl ⟨(wantedN hg), fun w' hS => run_pickT _ _ hop w' (by (repeat (first | rw [eval_same _ _ (by (try simp only [put_size]); omega)] | rw [eval_far _ _ (by decide)]))) (by (repeat (first | rw [eval_same _ _ (by (try simp only [put_size]); omega)] | rw [eval_far _ _ (by decide)])))⟩) hS12 ?_
  rw [hd, ← LR_snoc]
  clear ho hg hop hd hfr
  obtain ⟨o14, ho, hg, hop, hd⟩ := isOpG_out q14
  have hfr := hall ([0, 1, 2, 4, 5, 6, 3, 7, 8, 9, 10, 11, 12, 13], 14) (by simp)
  refine wpAnyH_take (listed := LR 25 [0, 1, 2, 4, 5, 6, 3, 7, 8, 9, 10, 11, 12, 13]) (v := .bool true) ho hs hfr.1 hfr.2 (hQ _ _) (Or.inl ⟨(wantedN hg), fun w' hS => run_move _ _ hop w' (by (repeat (first | rw [eval_same _ _ (by (try simp only [put_size]); omega)] | rw [eval_far _ _ (by decide)])))⟩) hS12 ?_
  rw [hd, ← LR_snoc]
  clear ho hg hop hd hfr
  obtain ⟨o15, ho, hg, hop, hd⟩ := isOpG_out q15
  have hfr := hall ([0, 1, 2, 4, 5, 6, 3, 7, 8, 9, 10, 11, 12, 13, 14], 15) (by simp)
  refine wpAnyH_take (listed := LR 25 [0, 1, 2, 4, 5, 6, 3, 7, 8, 9, 10, 11, 12, 13, 14]) (v := tf) ho hs hfr.1 hfr.2 (hQ _ _) (Or.inl ⟨((wantedB hog14 dog14 hg (by (repeat (first | rw [tmps_same _ _ (by (try simp only [put_size]); omega)] | rw [tmps_far _ _ (by decide)])))).trans (by decide)), fun w' hS => run_move _ _ hop w' (by (repeat rw [eval_far _ _ (by decide)]); exact e8)⟩) hS12 ?_
  rw [hd, ← LR_snoc]
  clear ho hg hop hd hfr
  obtain ⟨o16, ho, hg, hop, hd⟩ := isOpG_out q16
  have hfr := hall ([0, 1, 2, 4, 5, 6, 3, 7, 8, 9, 10, 11, 12, 13, 14, 15], 16) (by simp)
  refine wpAnyH_take (listed := LR 25 [0, 1, 2, 4, 5, 6, 3, 7, 8, 9, 10, 11, 12, 13, 14, 15]) (v := rf) ho hs hfr.1 hfr.2 (hQ _ _) (Or.inl ⟨((wantedB hog14 dog14 hg (by (repeat (first | rw [tmps_same _ _ (by (try simp only [put_size]); omega)] | rw [tmps_far _ _ (by decide)])))).trans (by decide)), fun w' hS => run_move _ _ hop w' (by (repeat rw [eval_far _ _ (by decide)]); exact e1)⟩) hS12 ?_
  rw [hd, ← LR_snoc]
  clear ho hg hop hd hfr
  refine wpAnyH_all r17 (by simp) ?_
  intro i hi
  obtain rfl := List.mem_singleton.1 hi
  obtain ⟨o17, ho, hg, hop, hd⟩ := isOpG_out q17
  have x17_0 : ((((((((((((((((((a0.put (some 20) (tv)).put (some 21) (tf)).put (some 22) (ta)).put (some 24) (rv)).put (some 25) (rf)).put (some 26) (ra)).put (some 23) (.agg #[.int .i8 p1, .int .i64 p2, .int .i64 p3])).put (some 27) (.agg #[.int .i8 p1, .int .i64 p2, .int .i64 p3])).put (some 28) (.bool true)).put (some 29) (.bool true)).put (some 30) (tv)).put (some 31) (rv)).put (some 32) (.bool true)).put (some 33) (.bool true)).put (some 34) (.bool true)).put (some 35) (tf)).put (some 36) (rf))).eval (.tmp 35) = tf := (by (repeat (first | rw [eval_same _ _ (by (try simp only [put_size]); omega)] | rw [eval_far _ _ (by decide)])))
  have x17_1 : ((((((((((((((((((a0.put (some 20) (tv)).put (some 21) (tf)).put (some 22) (ta)).put (some 24) (rv)).put (some 25) (rf)).put (some 26) (ra)).put (some 23) (.agg #[.int .i8 p1, .int .i64 p2, .int .i64 p3])).put (some 27) (.agg #[.int .i8 p1, .int .i64 p2, .int .i64 p3])).put (some 28) (.bool true)).put (some 29) (.bool true)).put (some 30) (tv)).put (some 31) (rv)).put (some 32) (.bool true)).put (some 33) (.bool true)).put (some 34) (.bool true)).put (some 35) (tf)).put (some 36) (rf))).eval (.tmp 36) = rf := (by (repeat (first | rw [eval_same _ _ (by (try simp only [put_size]); omega)] | rw [eval_far _ _ (by decide)])))
  refine wpOp_callG ho ((wantedB hog14 dog14 hg (by (repeat (first | rw [tmps_same _ _ (by (try simp only [put_size]); omega)] | rw [tmps_far _ _ (by decide)])))).trans (by decide)) (run_callV 11 Tryz.func11 (by kernel_rfl) (by kernel_rfl) #[.tmp 35, .tmp 36] _ hop #[tf, rf] (by simp only [List.map_toArray, List.map_cons, List.map_nil, x17_0, x17_1])) ?_
  refine (C4).mono ?_
  rintro e u4 ⟨rfl, hS4, C5⟩
  have hS17 := keep _ _ hS12 hS4
  refine ⟨_, rfl, hS17, ?_⟩
  rw [hd]
  clear ho hg hop hd
  rw [← LR_snoc]
  obtain ⟨o18, ho, hg, hop, hd⟩ := isOpG_out q18
  have hfr := hall ([0, 1, 2, 4, 5, 6, 3, 7, 8, 9, 10, 11, 12, 13, 14, 15, 16, 17], 18) (by simp)
  refine wpAnyH_take (listed := LR 25 [0, 1, 2, 4, 5, 6, 3, 7, 8, 9, 10, 11, 12, 13, 14, 15, 16, 17]) (v := .bool true) ho hs hfr.1 hfr.2 (hQ _ _) (Or.inl ⟨(wantedN hg), fun w' hS => run_pickT _ _ hop w' (by (repeat (first | rw [eval_same _ _ (by (try simp only [put_size]); omega)] | rw [eval_far _ _ (by decide)]))) (by (repeat (first | rw [eval_same _ _ (by (try simp only [put_size]); omega)] | rw [eval_far _ _ (by decide)])))⟩) hS17 ?_
  rw [hd, ← LR_snoc]
  clear ho hg hop hd hfr
  obtain ⟨o19, ho, hg, hop, hd⟩ := isOpG_out q19
  have hfr := hall ([0, 1, 2, 4, 5, 6, 3, 7, 8, 9, 10, 11, 12, 13, 14, 15, 16, 17, 18], 19) (by simp)
  refine wpAnyH_take (listed := LR 25 [0, 1, 2, 4, 5, 6, 3, 7, 8, 9, 10, 11, 12, 13, 14, 15, 16, 17, 18]) (v := .bool true) ho hs hfr.1 hfr.2 (hQ _ _) (Or.inl ⟨(wantedN hg), fun w' hS => run_move _ _ hop w' (by (repeat (first | rw [eval_same _ _ (by (try simp only [put_size]); omega)] | rw [eval_far _ _ (by decide)])))⟩) hS17 ?_
  rw [hd, ← LR_snoc]
  clear ho hg hop hd hfr
  obtain ⟨o20, ho, hg, hop, hd⟩ := isOpG_out q20
  have hfr := hall ([0, 1, 2, 4, 5, 6, 3, 7, 8, 9, 10, 11, 12, 13, 14, 15, 16, 17, 18, 19], 20) (by simp)
  refine wpAnyH_take (listed := LR 25 [0, 1, 2, 4, 5, 6, 3, 7, 8, 9, 10, 11, 12, 13, 14, 15, 16, 17, 18, 19]) (v := ta) ho hs hfr.1 hfr.2 (hQ _ _) (Or.inl ⟨((wantedB hog19 dog19 hg (by (repeat (first | rw [tmps_same _ _ (by (try simp only [put_size]); omega)] | rw [tmps_far _ _ (by decide)])))).trans (by decide)), fun w' hS => run_loadS _ _ hop w' (by (repeat rw [eval_far _ _ (by decide)]); exact e9) (LAT _ hS)⟩) hS17 ?_
  rw [hd, ← LR_snoc]
  clear ho hg hop hd hfr
  obtain ⟨o21, ho, hg, hop, hd⟩ := isOpG_out q21
  have hfr := hall ([0, 1, 2, 4, 5, 6, 3, 7, 8, 9, 10, 11, 12, 13, 14, 15, 16, 17, 18, 19, 20], 21) (by simp)
  refine wpAnyH_take (listed := LR 25 [0, 1, 2, 4, 5, 6, 3, 7, 8, 9, 10, 11, 12, 13, 14, 15, 16, 17, 18, 19, 20]) (v := ra) ho hs hfr.1 hfr.2 (hQ _ _) (Or.inl ⟨((wantedB hog19 dog19 hg (by (repeat (first | rw [tmps_same _ _ (by (try simp only [put_size]); omega)] | rw [tmps_far _ _ (by decide)])))).trans (by decide)), fun w' hS => run_loadS _ _ hop w' (by (repeat rw [eval_far _ _ (by decide)]); exact e5) (LAR _ hS)⟩) hS17 ?_
  rw [hd, ← LR_snoc]
  clear ho hg hop hd hfr
  refine wpAnyH_all r22 (by simp) ?_
  intro i hi
  obtain rfl := List.mem_singleton.1 hi
  obtain ⟨o22, ho, hg, hop, hd⟩ := isOpG_out q22
  have x22_0 : (((((((((((((((((((((((a0.put (some 20) (tv)).put (some 21) (tf)).put (some 22) (ta)).put (some 24) (rv)).put (some 25) (rf)).put (some 26) (ra)).put (some 23) (.agg #[.int .i8 p1, .int .i64 p2, .int .i64 p3])).put (some 27) (.agg #[.int .i8 p1, .int .i64 p2, .int .i64 p3])).put (some 28) (.bool true)).put (some 29) (.bool true)).put (some 30) (tv)).put (some 31) (rv)).put (some 32) (.bool true)).put (some 33) (.bool true)).put (some 34) (.bool true)).put (some 35) (tf)).put (some 36) (rf)).put (some 37) (.bool true)).put (some 38) (.bool true)).put (some 39) (.bool true)).put (some 40) (ta)).put (some 41) (ra))).eval (.tmp 40) = ta := (by (repeat (first | rw [eval_same _ _ (by (try simp only [put_size]); omega)] | rw [eval_far _ _ (by decide)])))
  have x22_1 : (((((((((((((((((((((((a0.put (some 20) (tv)).put (some 21) (tf)).put (some 22) (ta)).put (some 24) (rv)).put (some 25) (rf)).put (some 26) (ra)).put (some 23) (.agg #[.int .i8 p1, .int .i64 p2, .int .i64 p3])).put (some 27) (.agg #[.int .i8 p1, .int .i64 p2, .int .i64 p3])).put (some 28) (.bool true)).put (some 29) (.bool true)).put (some 30) (tv)).put (some 31) (rv)).put (some 32) (.bool true)).put (some 33) (.bool true)).put (some 34) (.bool true)).put (some 35) (tf)).put (some 36) (rf)).put (some 37) (.bool true)).put (some 38) (.bool true)).put (some 39) (.bool true)).put (some 40) (ta)).put (some 41) (ra))).eval (.tmp 41) = ra := (by (repeat (first | rw [eval_same _ _ (by (try simp only [put_size]); omega)] | rw [eval_far _ _ (by decide)])))
  refine wpOp_callG ho ((wantedB hog19 dog19 hg (by (repeat (first | rw [tmps_same _ _ (by (try simp only [put_size]); omega)] | rw [tmps_far _ _ (by decide)])))).trans (by decide)) (run_callV 12 Tryz.func12 (by kernel_rfl) (by kernel_rfl) #[.tmp 40, .tmp 41] _ hop #[ta, ra] (by simp only [List.map_toArray, List.map_cons, List.map_nil, x22_0, x22_1])) ?_
  refine (C5).mono ?_
  rintro e u5 ⟨rfl, hS5⟩
  have hS22 := keep _ _ hS17 hS5
  refine ⟨_, rfl, hS22, ?_⟩
  rw [hd]
  clear ho hg hop hd
  rw [← LR_snoc]
  obtain ⟨o23, ho, hg, hop, hd⟩ := isOpG_out q23
  have hfr := hall ([0, 1, 2, 4, 5, 6, 3, 7, 8, 9, 10, 11, 12, 13, 14, 15, 16, 17, 18, 19, 20, 21, 22], 23) (by simp)
  refine wpAnyH_take (listed := LR 25 [0, 1, 2, 4, 5, 6, 3, 7, 8, 9, 10, 11, 12, 13, 14, 15, 16, 17, 18, 19, 20, 21, 22]) (v := .bool true) ho hs hfr.1 hfr.2 (hQ _ _) (Or.inl ⟨(wantedN hg), fun w' hS => run_pickT _ _ hop w' (by (repeat (first | rw [eval_same _ _ (by (try simp only [put_size]); omega)] | rw [eval_far _ _ (by decide)]))) (by (repeat (first | rw [eval_same _ _ (by (try simp only [put_size]); omega)] | rw [eval_far _ _ (by decide)])))⟩) hS22 ?_
  rw [hd, ← LR_snoc]
  clear ho hg hop hd hfr
  obtain ⟨o24, ho, hg, hop, hd⟩ := isOpG_out q24
  have hfr := hall ([0, 1, 2, 4, 5, 6, 3, 7, 8, 9, 10, 11, 12, 13, 14, 15, 16, 17, 18, 19, 20, 21, 22, 23], 24) (by simp)
  refine wpAnyH_take (listed := LR 25 [0, 1, 2, 4, 5, 6, 3, 7, 8, 9, 10, 11, 12, 13, 14, 15, 16, 17, 18, 19, 20, 21, 22, 23]) (v := .bool true) ho hs hfr.1 hfr.2 (hQ _ _) (Or.inl ⟨(wantedN hg), fun w' hS => run_assignV _ _ hop w' (by (repeat (first | rw [eval_same _ _ (by (try simp only [put_size]); omega)] | rw [eval_far _ _ (by decide)])))⟩) hS22 ?_
  rw [hd, ← LR_snoc]
  clear ho hg hop hd hfr
  exact wpAnyH_done rend (F _ hS22) _
end Go.Proofs.YtmmkpcbelofkmaaGreatDoor
end
