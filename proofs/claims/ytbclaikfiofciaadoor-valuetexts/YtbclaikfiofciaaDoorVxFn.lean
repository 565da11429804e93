import Derived.Test.YtbclaikfiofciaaDoorVxMath
import Derived.Test.YtbclaikfiofciaaDoorAlive
import Derived.Test.YtbclaikfiofciaaDoorArArithW
import Derived.Test.YtbclaikfiofciaaDoorArLaw
namespace Go.Proofs.YtbclaikfiofciaaDoor
open Go.RowKit Go.Maps
set_option linter.unusedVariables false
set_option linter.unusedSimpArgs false
attribute [local go_sem ↓] Go.wp_at_zero Go.wp_at_succ

set_option maxHeartbeats 1600000 in
set_option maxRecDepth 100000 in
theorem points_any (s : ByteArray) (hs : s.size ≤ 1000000) (w : World) : Calls Tryd.prog 12 #[.string s] w fun e w' => e = .returned (.bool (pointsB s)) ∧ w' = w := by
  go_enter Tryd.func12, Tryd.ntmps12
  go_wp2
  go_loopw [3, 4, 5] (fun iv _ _ wr => ∃ pos : Nat, pos ≤ s.size ∧ iv = .int .i64 (pos : Int) ∧ wr = w ∧ Hid (pointsB s = (startsAt s pos).all (chOk s))) (fun iv _ _ _ => s.size - (intOf iv).toNat)
  case atStart => exact ⟨0, Nat.zero_le _, rfl, rfl, rfl⟩
  case round =>
    obtain ⟨pos, hps, rfl, hwr, HP⟩ := hrel
    subst hwr
    by_cases hp : pos < s.size
    · have hp' : (pos : Int) < (s.size : Int) := by omega
      have hw := chW_le s hp
      have HCH := Lib.hid (char_any s pos hp hs wr)
      have HN : Hid (pointsB s = (chOk s pos && (startsAt s (pos + chW s pos)).all (chOk s))) := by show _ = _; rw [HP.out, starts_cons s hp]; rfl
      generalize chW s pos = cw at HCH hw HN
      generalize chOk s pos = ok at HCH HN
      clear HP
      cases ok with
      | true =>
        go_wp2_with fail
        refine HCH.out.mono ?_
        rintro e w1 ⟨rfl, rfl⟩
        go_wp2
        go_roundw
        case rel => exact ⟨pos + cw, by omega, by simp, by first | rfl | trivial, by have := HN.out; rw [Bool.true_and] at this; exact this⟩
        case measure => simp [intOf]; omega
      | false =>
        go_wp2_with fail
        refine HCH.out.mono ?_
        rintro e w1 ⟨rfl, rfl⟩
        go_wp2
        go_ret
        exact ⟨ret_bool (by have := HN.out; simpa using this.symm), rfl⟩
    · obtain rfl : pos = s.size := by omega
      have HE : Hid (pointsB s = true) := by show _ = _; rw [HP.out, starts_end s (by omega)]; rfl
      go_wp2
      go_ret
      exact ⟨ret_bool HE.out.symm, rfl⟩
/-- a list of one text, and of two, laid just now -/
theorem one_lst (w : World) (s : ByteArray) (hs : s.size ≤ maxLen) : Lst (w.alloc (.cells #[.int .i8 2, .int .i64 0, .string s] 27)) (.slice (some ⟨w.heap.size, 0, none⟩) 1 1) 1 (fun _ => 2) (fun _ => 0) (fun _ => s) := by
  have h := lit_news w #[.int .i8 2, .int .i64 0, .string s] 27
  have e : ∀ j, (⟨w.heap.size, 0, none⟩ : Addr).add j = ⟨w.heap.size, j, none⟩ := fun j => by rw [WideShapes.add_plain]; simp
  refine ⟨by decide, .inr ⟨_, 0, 1, rfl, Nat.le_refl _, by decide, ⟨fun _ => by simp, fun i hi => ?_, fun i hi => ?_, fun i hi => ?_, fun _ _ => hs⟩⟩⟩
  · obtain rfl : i = 0 := by omega
    have := h 0 _ rfl
    rw [e] at this
    exact this
  · obtain rfl : i = 0 := by omega
    have := h 1 _ rfl
    rw [e] at this
    exact this
  · obtain rfl : i = 0 := by omega
    have := h 2 _ rfl
    rw [e] at this
    exact this
theorem two_lst (w : World) (s t : ByteArray) (hs : s.size ≤ maxLen) (ht : t.size ≤ maxLen) : Lst (w.alloc (.cells #[.int .i8 2, .int .i64 0, .string s, .int .i8 2, .int .i64 0, .string t] 27)) (.slice (some ⟨w.heap.size, 0, none⟩) 2 2) 2 (fun _ => 2) (fun _ => 0) (fun i => if i = 0 then s else t) := by
  have h := lit_news w #[.int .i8 2, .int .i64 0, .string s, .int .i8 2, .int .i64 0, .string t] 27
  have e : ∀ j, (⟨w.heap.size, 0, none⟩ : Addr).add j = ⟨w.heap.size, j, none⟩ := fun j => by rw [WideShapes.add_plain]; simp
  refine ⟨by decide, .inr ⟨_, 0, 2, rfl, Nat.le_refl _, by decide, ⟨fun _ => by simp, fun i hi => ?_, fun i hi => ?_, fun i hi => ?_, fun i _ => by split <;> assumption⟩⟩⟩
  · obtain rfl | rfl : i = 0 ∨ i = 1 := by omega
    · have := h 0 _ rfl
      rw [e] at this
      exact this
    · have := h 3 _ rfl
      rw [e] at this
      exact this
  · obtain rfl | rfl : i = 0 ∨ i = 1 := by omega
    · have := h 1 _ rfl
      rw [e] at this
      exact this
    · have := h 4 _ rfl
      rw [e] at this
      exact this
  · obtain rfl | rfl : i = 0 ∨ i = 1 := by omega
    · have := h 2 _ rfl
      rw [e] at this
      exact this
    · have := h 5 _ rfl
      rw [e] at this
      exact this
theorem chk_txt {s : ByteArray} (h : s.size ≤ 200) : chk 2 0 s = 0 := (chk_ok (.inr ⟨rfl, rfl, by omega⟩)).symm
theorem chk_big {s : ByteArray} (h : ¬ s.size ≤ 200) : chk 2 0 s ≠ 0 := by
  rw [← chk_no (by
    rintro (⟨h1, _⟩ | ⟨_, _, h1⟩)
    · omega
    · omega)]
  decide
theorem are_one {s : ByteArray} (h : s.size ≤ 200) : areB 1 2 (fun _ => 2) (fun _ => 0) (fun _ => s) 1 = true := by
  simp [areB, allOf, chk_txt h]
theorem are_two {s t : ByteArray} (h : s.size ≤ 200) (k : t.size ≤ 200) : areB 2 2 (fun _ => 2) (fun _ => 0) (fun i => if i = 0 then s else t) 2 = true := by
  simp [areB, allOf, chk_txt h, chk_txt k]
theorem arith_one (op : Int) (ho : 8 ≤ op ∧ op ≤ 10) {s : ByteArray} (h : s.size ≤ 200) : arithR op 1 (fun _ => 2) (fun _ => 0) (fun _ => s) = textsR op s := by
  have hk : tkOf op = 3 := tk_of.2.2.1.2 ho
  unfold arithR
  rw [if_neg (by omega), if_neg (by omega), if_pos ⟨hk, are_one h⟩]
theorem arith_two {s t : ByteArray} (h : s.size ≤ 200) (k : t.size ≤ 200) : arithR 7 2 (fun _ => 2) (fun _ => 0) (fun i => if i = 0 then s else t) = joinR s t := by
  have hk : tkOf 7 = 4 := by decide
  unfold arithR
  rw [if_neg (by omega), if_neg (by omega), if_neg (by omega), if_pos ⟨hk, are_two h k⟩]
  rfl
theorem arith_long {s t : ByteArray} (h : ¬ (s.size ≤ 200 ∧ t.size ≤ 200)) : arithR 7 2 (fun _ => 2) (fun _ => 0) (fun i => if i = 0 then s else t) = noRes := by
  have hA : areB 2 2 (fun _ => 2) (fun _ => 0) (fun i => if i = 0 then s else t) 2 = false := by
    by_cases hs : s.size ≤ 200
    · have ht : ¬ t.size ≤ 200 := fun e => h ⟨hs, e⟩
      simp [areB, allOf, chk_big ht]
    · simp [areB, allOf, chk_big hs]
  have hk : tkOf 7 = 4 := by decide
  exact arithR_no 7 2 _ _ _ (by omega) (by omega) (by omega) (fun e => by rw [hA] at e; cases e.2)
theorem run_eql_num (n : Int) (w : World) : (binOp .eql 27 (.agg #[.int .i8 1, .int .i64 n, .string ⟨#[]⟩]) (.agg #[.int .i8 1, .int .i64 n, .string ⟨#[]⟩])).run Tryd.prog w = .ok (.bool true) w := by go_simp
theorem vx_keep {w v v' : World} {b : Nat} {nn : Int} (hz : w.heap.size ≤ b) (hb : Below v.heap.size v v')
    (h : b < v.heap.size ∧ Below w.heap.size w v ∧ v.cell? ⟨b, 0, none⟩ = some (.int .i8 1) ∧ v.cell? ⟨b, 1, none⟩ = some (.int .i64 nn) ∧ v.cell? ⟨b, 2, none⟩ = some (.string ⟨#[]⟩)) :
    b < v'.heap.size ∧ Below w.heap.size w v' ∧ v'.cell? ⟨b, 0, none⟩ = some (.int .i8 1) ∧ v'.cell? ⟨b, 1, none⟩ = some (.int .i64 nn) ∧ v'.cell? ⟨b, 2, none⟩ = some (.string ⟨#[]⟩) := by
  obtain ⟨hl, bel, a0, a1, a2⟩ := h
  have hs := hb.size
  refine ⟨by omega, bel.trans (hb.mono (by omega)), ?_, ?_, ?_⟩
  · rw [hb.cell (by show b < _; omega)]; exact a0
  · rw [hb.cell (by show b < _; omega)]; exact a1
  · rw [hb.cell (by show b < _; omega)]; exact a2
set_option maxHeartbeats 1600000 in
set_option maxRecDepth 100000 in
theorem one_any (op : Int) (ho : op = 8 ∨ op = 9) (s : ByteArray) (hs : s.size ≤ 200) (w : World) (ht : Tab w) : Calls Tryd.prog 11 #[.int .i8 op, .string s] w fun e w' => e = .returned (.tuple #[.int .i64 (textsR op s).n, .bool true]) ∧ Below w.heap.size w w' := by
  have hR : textsR op s = numRes (textsR op s).n := by
    unfold textsR
    rcases ho with rfl | rfl
    · rfl
    · rfl
  have HW := Lib.hid (word1_any s w)
  have HA : ∀ u, Tab u → Hid (Calls Tryd.prog 7 #[.int .i8 op, .slice (some ⟨u.heap.size, 0, none⟩) 1 1] (u.alloc (.cells #[.int .i8 2, .int .i64 0, .string s] 27)) fun e w' => e = .returned (.tuple #[.agg #[.int .i8 1, .int .i64 (textsR op s).n, .string ⟨#[]⟩], .bool true]) ∧ Below (u.alloc (.cells #[.int .i8 2, .int .i64 0, .string s] 27)).heap.size (u.alloc (.cells #[.int .i8 2, .int .i64 0, .string s] 27)) w') := fun u hu => by
    have h := arith_any op (by omega) _ 1 (fun _ => 2) (fun _ => 0) (fun _ => s) _ (hu.below ((Below.refl _ _).alloc (Nat.le_refl _) _)) (one_lst u s (by unfold maxLen; omega))
    rw [arith_one op (by omega) hs, hR] at h
    exact h
  generalize (textsR op s).n = nn at HA ⊢
  clear hR
  go_enter Tryd.func11, Tryd.ntmps11
  go_wp2_with fail
  refine HW.out.mono ?_
  rintro e w1 ⟨rfl, b1⟩
  have HA1 := HA w1 (ht.below b1)
  clear HA HW
  go_wp2_with fail
  refine HA1.out.mono ?_
  rintro e w2 ⟨rfl, b2⟩
  clear HA1
  have b12 : Below w.heap.size w w2 := (b1.alloc b1.size _).trans (b2.mono (by have := b1.size; simp; omega))
  go_upto_region 2 with fail
  have hX := Box3.new w2 (numRes nn)
  have b13 : Below w.heap.size w (w2.alloc (.cells #[.int .i8 1, .int .i64 nn, .string ⟨#[]⟩] 27)) := b12.alloc b12.size _
  change Box3 (w2.alloc (.cells #[.int .i8 1, .int .i64 nn, .string ⟨#[]⟩] 27)) _ _ at hX
  generalize w2.alloc (.cells #[.int .i8 1, .int .i64 nn, .string ⟨#[]⟩] 27) = W2 at hX b13 ⊢
  obtain ⟨d0, d1, d2⟩ := hX.cells
  change W2.cell? _ = some (.int .i8 1) at d0
  change W2.cell? _ = some (.int .i64 nn) at d1
  change W2.cell? _ = some (.string ⟨#[]⟩) at d2
  have hlt := hX.lt
  have heq := run_eql_num nn
  have hz2 : w.heap.size ≤ w2.heap.size := b12.size
  clear hX ht b1 b2 b12
  go_region_held3 (fun w' => w2.heap.size < w'.heap.size ∧ Below w.heap.size w w' ∧ w'.cell? ⟨w2.heap.size, 0, none⟩ = some (.int .i8 1) ∧ w'.cell? ⟨w2.heap.size, 1, none⟩ = some (.int .i64 nn) ∧ w'.cell? ⟨w2.heap.size, 2, none⟩ = some (.string ⟨#[]⟩))
    (first
      | exact vx_keep hz2 (by assumption) (by assumption)
      | exact ⟨hlt, b13, d0, d1, d2⟩
      | exact ⟨hlt, b13.drew, d0, d1, d2⟩)
    (first
      | (go_at_call 25; refine (num_any _ _).mono ?_; rintro e w' ⟨rfl, hbx⟩))
  go_wp2
  go_ret2
  exact ⟨rfl, by rename_i h; exact h.2.1⟩
end Go.Proofs.YtbclaikfiofciaaDoor
