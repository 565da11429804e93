import Derived.Test.YtgfnijhhhgjabaaGreatDoorG11
import Derived.Test.YtgfnijhhhgjabaaGreatDoorG12
section
namespace Go.Proofs.YtgfnijhhhgjabaaGreatDoor
open Go.RowKit Go.Maps
set_option linter.unusedVariables false
set_option linter.unusedSimpArgs false
attribute [local go_sem ↓] Go.wp_at_zero Go.wp_at_succ

theorem index_any (s : ByteArray) (v : Value) (l : List ByteArray) (w : World) (hl : Ls w v l.length (l.flatMap strB)) : Calls Tryz.prog 72 #[v, .string s] w fun e w' => ∃ n : Int, e = .returned (.int .i64 n) ∧ decide (0 ≤ n) = inB l s ∧ w' = w := by
  obtain ⟨a, c, rfl, hc1, hc2, hat⟩ := ls_str hl
  have hmax : l.length ≤ maxLen := Nat.le_trans hc1 hc2
  unfold maxLen at hmax
  have HAT : Hid _ := hat
  obtain ⟨r, HR⟩ : ∃ r, Hid (inB l s = r) := ⟨_, rfl⟩
  rw [HR.out]
  clear hat hl
  go_enter Tryz.func72, Tryz.ntmps72
  go_wp2
  go_loopw [8] (fun i wr => wr = w ∧ ∃ k : Nat, k ≤ l.length ∧ i = .int .i64 k ∧ Hid (∀ j, j < k → atS l j ≠ s)) (fun i _ => l.length - (intOf i).toNat)
  case atStart => exact ⟨rfl, 0, Nat.zero_le _, rfl, fun j hj => absurd hj (by omega)⟩
  case round =>
    obtain ⟨rfl, k, hk, rfl, HB⟩ := hrel
    by_cases hlt : k < l.length
    · have hlt' : (k : Int) < (l.length : Int) := by omega
      have hk0 : (0 : Int) ≤ (k : Int) := by omega
      obtain ⟨g, off, rfl, hg, hT⟩ := HAT.out (by omega)
      have x0 := hT k hlt
      obtain ⟨y, HY⟩ : ∃ y, Hid (atS l k = y) := ⟨_, rfl⟩
      rw [HY.out] at x0
      clear hT
      by_cases e : y = s
      · have hB : (s.toList == y.toList) = true := by rw [e]; simp
        have HV : Hid (r = true) := by
          show r = true
          rw [← HR.out]
          exact inB_iff.2 (mem_of_atS hlt (HY.out.trans e))
        clear e
        go_wp2
        go_ret
        exact ⟨k, rfl, by rw [HV.out]; exact decide_eq_true (by omega), rfl⟩
      · have hB : (s.toList == y.toList) = false := by
          rw [beq_eq_false_iff_ne]
          exact fun h => e (toList_inj h).symm
        have HE : Hid (y ≠ s) := e
        clear e
        go_wp2
        go_roundw
        case rel =>
          refine ⟨trivial, k + 1, by omega, by go_num, fun j hj => ?_⟩
          by_cases h : j < k
          · exact HB.out j h
          · obtain rfl : j = k := by omega
            rw [HY.out]
            exact HE.out
        case measure => simp [intOf]; omega
    · obtain rfl : k = l.length := by omega
      have HV : Hid (r = false) := by
        show r = false
        rw [← HR.out, ← Bool.not_eq_true]
        intro h
        obtain ⟨i, hi, e⟩ := List.getElem_of_mem (inB_iff.1 h)
        exact HB.out i hi (by rw [atS_eq hi]; exact e)
      go_wp2
      go_ret
      exact ⟨-1, rfl, by rw [HV.out]; rfl, rfl⟩
theorem contains_any (s : ByteArray) (v : Value) (l : List ByteArray) (w : World) (hl : Ls w v l.length (l.flatMap strB)) : Calls Tryz.prog 44 #[v, .string s] w fun e w' => e = .returned (.bool (inB l s)) ∧ w' = w := by
  have HI := Lib.hid (index_any s v l w hl)
  generalize inB l s = b at HI ⊢
  clear hl
  go_enter Tryz.func44, Tryz.ntmps44
  go_wp2_with fail
  refine HI.out.mono ?_
  rintro e w' ⟨n, rfl, hn, rfl⟩
  have HN := Lib.hid hn
  clear hn HI
  go_wp2
  go_ret
  exact ⟨by rw [← HN.out]; rfl, rfl⟩
theorem areAmong_any (v v' : Value) (l m : List ByteArray) (w : World) (h1 : Ls w v l.length (l.flatMap strB)) (h2 : Ls w v' m.length (m.flatMap strB)) :
    Calls Tryz.prog 18 #[v, v'] w fun e w' => e = .returned (.bool (l.all (inB m))) ∧ w' = w := by
  have HIN : Hid (∀ s, Calls Tryz.prog 44 #[v', .string s] w fun e w' => e = .returned (.bool (inB m s)) ∧ w' = w) := fun s => contains_any s v' m w h2
  obtain ⟨a, c, rfl, hc1, hc2, hat⟩ := ls_str h1
  have hmax : l.length ≤ maxLen := Nat.le_trans hc1 hc2
  unfold maxLen at hmax
  have HAT := Lib.hid hat
  obtain ⟨R, hR⟩ : ∃ R, l.all (inB m) = R := ⟨_, rfl⟩
  rw [hR]
  have HR := Lib.hid hR
  clear hat h1 h2 hR hc2
  go_enter Tryz.func18, Tryz.ntmps18
  go_wp2
  go_loopw [9] (fun i wr => wr = w ∧ ∃ k : Nat, k ≤ l.length ∧ i = .int .i64 k ∧ Hid ((l.take k).all (inB m) = true)) (fun i _ => l.length - (intOf i).toNat)
  case atStart => exact ⟨rfl, 0, Nat.zero_le _, rfl, rfl⟩
  case round =>
    obtain ⟨rfl, k, hk, rfl, HA⟩ := hrel
    by_cases hlt : k < l.length
    · have hlt' : (k : Int) < (l.length : Int) := by omega
      have hk0 : (0 : Int) ≤ (k : Int) := by omega
      obtain ⟨g, off, rfl, hg, hT⟩ := HAT.out (by omega)
      have x0 := hT k hlt
      have HC := Lib.hid (HIN.out (atS l k))
      cases hq : inB m (atS l k)
      · have HF : Hid (R = false) := by show R = _; rw [← HR.out]; exact allS_not hlt hq
        rw [hq] at HC
        generalize atS l k = nm at x0 HC
        clear hT hq
        go_wp2_with fail
        refine HC.out.mono ?_
        rintro e w' ⟨rfl, rfl⟩
        clear HC
        go_wp2
        go_ret
        exact ⟨by rw [HF.out]; rfl, rfl⟩
      · have HN : Hid ((l.take (k + 1)).all (inB m) = true) := by
          show _ = _
          rw [allS_take hlt, HA.out, hq]
          rfl
        rw [hq] at HC
        generalize atS l k = nm at x0 HC
        clear hT hq
        go_wp2_with fail
        refine HC.out.mono ?_
        rintro e w' ⟨rfl, rfl⟩
        clear HC
        go_wp2
        go_roundw
        case rel => exact ⟨by first | rfl | trivial, k + 1, by omega, by go_num, HN⟩
        case measure => simp [intOf]; omega
    · obtain rfl : k = l.length := by omega
      rw [List.take_length] at HA
      have HF : Hid (R = true) := by show R = _; rw [← HR.out]; exact HA.out
      clear HA
      go_wp2
      go_ret
      exact ⟨by rw [HF.out]; rfl, rfl⟩
end Go.Proofs.YtgfnijhhhgjabaaGreatDoor
end
section
namespace Go.Proofs.YtgfnijhhhgjabaaGreatDoor
open Go.RowKit Go.Maps
set_option linter.unusedVariables false
set_option linter.unusedSimpArgs false

theorem run_fldR1 (ev : Operand → Value) (o : Oper) {x : Operand} (hop : o.op = .fieldAddr 25 x 1) (w : World) {be : Nat} (hx : ev x = .pointer (some ⟨be, 0, none⟩)) : (execOp ev o).run Tryz.prog w = .ok (.value (.pointer (some ⟨be, 1, none⟩))) w := by
  simp only [execOp, hop, hx]
  go_simp
theorem run_fldR2 (ev : Operand → Value) (o : Oper) {x : Operand} (hop : o.op = .fieldAddr 25 x 2) (w : World) {be : Nat} (hx : ev x = .pointer (some ⟨be, 0, none⟩)) : (execOp ev o).run Tryz.prog w = .ok (.value (.pointer (some ⟨be, 2, none⟩))) w := by
  simp only [execOp, hop, hx]
  go_simp
theorem run_buildR (ev : Operand → Value) (o : Oper) {x : Operand} (hop : o.op = .build 25 #[(1, x)]) (w : World) {ha : Option Addr} {hn hc : Nat} (hx : ev x = .slice ha hn hc) : (execOp ev o).run Tryz.prog w = .ok (.value (.agg #[.string ⟨#[]⟩, .slice ha hn hc, .slice none 0 0])) w := by
  simp only [execOp, hop]
  simp only [List.map_toArray, List.map_cons, List.map_nil, Array.map, hx]
  go_simp
def ckrule_takes : List (List Nat × Nat) := [([], 0), ([0], 2), ([0, 2], 3), ([0, 2, 3, 1, 4, 5], 6)]
set_option maxHeartbeats 3200000 in
theorem ckrule {ops : Array Oper} {Q : Exit → Act → World → Prop} {S : World → Prop} {a0 : Act} {w5 : World} {b : Nat} {rv bv : Value} {bb : Bool} {ty1 ty2 ty3 : Array TypeId}
    (q0 : isOpG ops 0 none (.load 25 (.tmp 1)) (some 9))
    (q2 : isOpG ops 2 none (.fieldAddr 25 (.tmp 1) 2) (some 11))
    (q3 : isOpG ops 3 none (.load 23 (.tmp 11)) (some 12))
    (q1 : isOpG ops 1 none (.call { callee := .value (.func 19), args := #[.tmp 9], argTypes := ty1 }) (some 10))
    (q4 : isOpG ops 4 none (.call { callee := .value (.func 13), args := #[.tmp 12], argTypes := ty2 }) (some 13))
    (q5 : isOpG ops 5 none (.call { callee := .value (.func 18), args := #[.tmp 10, .tmp 13], argTypes := ty3 }) (some 14))
    (q6 : isOpG ops 6 none (.unOp .not 4 (.tmp 14)) (some 15))
    (hs : Region.noSelect ops = true) (hq : (ckrule_takes.all fun p => Region.free .any ops (LR 7 p.1) p.2 && (Region.ready .any ops (LR 7 p.1)).contains p.2) = true)
    (r1 : Region.ready .any ops (LR 7 [0, 2, 3]) = [1])
    (r4 : Region.ready .any ops (LR 7 [0, 2, 3, 1]) = [4])
    (r5 : Region.ready .any ops (LR 7 [0, 2, 3, 1, 4]) = [5])
    (rend : Region.ready .any ops (LR 7 [0, 2, 3, 1, 4, 5, 6]) = [])
    (hQ : ∀ (d : Option Tmp) (v : Value) c a w, Q (.panic c) (a.put d v) w → Q (.panic c) a w)
    (hsz : 15 < a0.tmps.size) (e1 : a0.eval (.tmp 1) = .pointer (some ⟨b, 0, none⟩))
    (hS0 : S w5.drew)
    (keep : ∀ u u', S u → S u' → S u') (LRU : ∀ u, S u → (loadVar 25 ⟨b, 0, none⟩).run Tryz.prog u = .ok rv u) (LBO : ∀ u, S u → (loadVar 23 ⟨b, 2, none⟩).run Tryz.prog u = .ok bv u)
    (C1 : Calls Tryz.prog 19 #[rv] w5.drew fun e u1 => ∃ sv1, e = .returned sv1 ∧ S u1 ∧ Calls Tryz.prog 13 #[bv] u1 fun e u2 => ∃ sv2, e = .returned sv2 ∧ S u2 ∧ Calls Tryz.prog 18 #[sv1, sv2] u2 fun e u3 => e = .returned (.bool bb) ∧ S u3)
    (F : ∀ (wc : World) (sv1 sv2 : Value), S wc → Q .normal (((((((a0.put (some 9) (rv)).put (some 11) (.pointer (some ⟨b, 2, none⟩))).put (some 12) (bv)).put (some 10) (sv1)).put (some 13) (sv2)).put (some 14) (.bool bb)).put (some 15) (.bool (!bb))) wc) :
    wpAnyH Tryz.prog .any ops Q S 7 (LR 7 []) a0 w5.drew := by
  have hall : ∀ p ∈ ckrule_takes, Region.free .any ops (LR 7 p.1) p.2 = true ∧ (Region.ready .any ops (LR 7 p.1)).contains p.2 = true := by
    intro p hp
    have := List.all_eq_true.1 hq p hp
    simpa using this
  unfold ckrule_takes at hall
  obtain ⟨o0, ho, hg, hop, hd⟩ := isOpG_out q0
  have hfr := hall ([], 0) (by simp)
  refine wpAnyH_take (listed := LR 7 []) (v := rv) ho hs hfr.1 hfr.2 (hQ _ _) (Or.inl ⟨(wantedN hg), fun w' hS => run_loadS _ _ hop w' (by (repeat rw [eval_far _ _ (by decide)]); exact e1) (LRU _ hS)⟩) hS0 ?_
  rw [hd, ← LR_snoc]
  clear ho hg hop hd hfr
  obtain ⟨o2, ho, hg, hop, hd⟩ := isOpG_out q2
  have hfr := hall ([0], 2) (by simp)
  refine wpAnyH_take (listed := LR 7 [0]) (v := .pointer (some ⟨b, 2, none⟩)) ho hs hfr.1 hfr.2 (hQ _ _) (Or.inl ⟨(wantedN hg), fun w' hS => run_fldR2 _ _ hop w' (by (repeat rw [eval_far _ _ (by decide)]); exact e1)⟩) hS0 ?_
  rw [hd, ← LR_snoc]
  clear ho hg hop hd hfr
  obtain ⟨o3, ho, hg, hop, hd⟩ := isOpG_out q3
  have hfr := hall ([0, 2], 3) (by simp)
  refine wpAnyH_take (listed := LR 7 [0, 2]) (v := bv) ho hs hfr.1 hfr.2 (hQ _ _) (Or.inl ⟨(wantedN hg), fun w' hS => run_loadS _ _ hop w' (by (repeat (first | rw [eval_same _ _ (by (try simp only [put_size]); omega)] | rw [eval_far _ _ (by decide)]))) (LBO _ hS)⟩) hS0 ?_
  rw [hd, ← LR_snoc]
  clear ho hg hop hd hfr
  refine wpAnyH_all r1 (by simp) ?_
  intro i hi
  obtain rfl := List.mem_singleton.1 hi
  obtain ⟨o1, ho, hg, hop, hd⟩ := isOpG_out q1
  have x1_0 : ((((a0.put (some 9) (rv)).put (some 11) (.pointer (some ⟨b, 2, none⟩))).put (some 12) (bv))).eval (.tmp 9) = rv := (by (repeat (first | rw [eval_same _ _ (by (try simp only [put_size]); omega)] | rw [eval_far _ _ (by decide)])))
  refine wpOp_callG ho (wantedN hg) (run_callV 19 Tryz.func19 (by kernel_rfl) (by kernel_rfl) #[.tmp 9] _ hop #[rv] (by simp only [List.map_toArray, List.map_cons, List.map_nil, x1_0])) ?_
  refine (C1).mono ?_
  rintro e u1 ⟨sv1, rfl, hS1, C2⟩
  have hS1 := keep _ _ hS0 hS1
  refine ⟨_, rfl, hS1, ?_⟩
  rw [hd]
  clear ho hg hop hd
  rw [← LR_snoc]
  refine wpAnyH_all r4 (by simp) ?_
  intro i hi
  obtain rfl := List.mem_singleton.1 hi
  obtain ⟨o4, ho, hg, hop, hd⟩ := isOpG_out q4
  have x4_0 : (((((a0.put (some 9) (rv)).put (some 11) (.pointer (some ⟨b, 2, none⟩))).put (some 12) (bv)).put (some 10) (sv1))).eval (.tmp 12) = bv := (by (repeat (first | rw [eval_same _ _ (by (try simp only [put_size]); omega)] | rw [eval_far _ _ (by decide)])))
  refine wpOp_callG ho (wantedN hg) (run_callV 13 Tryz.func13 (by kernel_rfl) (by kernel_rfl) #[.tmp 12] _ hop #[bv] (by simp only [List.map_toArray, List.map_cons, List.map_nil, x4_0])) ?_
  refine (C2).mono ?_
  rintro e u2 ⟨sv2, rfl, hS2, C3⟩
  have hS4 := keep _ _ hS1 hS2
  refine ⟨_, rfl, hS4, ?_⟩
  rw [hd]
  clear ho hg hop hd
  rw [← LR_snoc]
  refine wpAnyH_all r5 (by simp) ?_
  intro i hi
  obtain rfl := List.mem_singleton.1 hi
  obtain ⟨o5, ho, hg, hop, hd⟩ := isOpG_out q5
  have x5_0 : ((((((a0.put (some 9) (rv)).put (some 11) (.pointer (some ⟨b, 2, none⟩))).put (some 12) (bv)).put (some 10) (sv1)).put (some 13) (sv2))).eval (.tmp 10) = sv1 := (by (repeat (first | rw [eval_same _ _ (by (try simp only [put_size]); omega)] | rw [eval_far _ _ (by decide)])))
  have x5_1 : ((((((a0.put (some 9) (rv)).put (some 11) (.pointer (some ⟨b, 2, none⟩))).put (some 12) (bv)).put (some 10) (sv1)).put (some 13) (sv2))).eval (.tmp 13) = sv2 := (by (repeat (first | rw [eval_same _ _ (by (try simp only [put_size]); omega)] | rw [eval_far _ _ (by decide)])))
  refine wpOp_callG ho (wantedN hg) (run_callV 18 Tryz.func18 (by kernel_rfl) (by kernel_rfl) #[.tmp 10, .tmp 13] _ hop #[sv1, sv2] (by simp only [List.map_toArray, List.map_cons, List.map_nil, x5_0, x5_1])) ?_
  refine (C3).mono ?_
  rintro e u3 ⟨rfl, hS3⟩
  have hS5 := keep _ _ hS4 hS3
  refine ⟨_, rfl, hS5, ?_⟩
  rw [hd]
  clear ho hg hop hd
  rw [← LR_snoc]
  obtain ⟨o6, ho, hg, hop, hd⟩ := isOpG_out q6
  have hfr := hall ([0, 2, 3, 1, 4, 5], 6) (by simp)
  refine wpAnyH_take (listed := LR 7 [0, 2, 3, 1, 4, 5]) (v := .bool (!bb)) ho hs hfr.1 hfr.2 (hQ _ _) (Or.inl ⟨(wantedN hg), fun w' hS => run_notV (b := bb) _ _ hop w' (by (repeat (first | rw [eval_same _ _ (by (try simp only [put_size]); omega)] | rw [eval_far _ _ (by decide)])))⟩) hS5 ?_
  rw [hd, ← LR_snoc]
  clear ho hg hop hd hfr
  exact wpAnyH_done rend (F _ sv1 sv2 hS5) _
end Go.Proofs.YtgfnijhhhgjabaaGreatDoor
end
