import Derived.Test.YteabclfhmapabaaGreatDoorA8
import Derived.Test.YteabclfhmapabaaGreatDoorA10
import Derived.Test.YteabclfhmapabaaGreatDoorLmSvR
import Derived.Test.YteabclfhmapabaaGreatDoorA24
import Derived.Test.YteabclfhmapabaaGreatDoorA7
section
namespace Go.Proofs.YteabclfhmapabaaGreatDoor
open Go.RowKit Go.Maps
set_option linter.unusedVariables false
set_option linter.unusedSimpArgs false
attribute [local go_sem ↓] Go.wp_at_zero Go.wp_at_succ

theorem index_any (s : ByteArray) (v : Value) (l : List ByteArray) (w : World) (hl : Ls w v l.length (l.flatMap strB)) : Calls Tryz.prog 70 #[v, .string s] w fun e w' => ∃ n : Int, e = .returned (.int .i64 n) ∧ decide (0 ≤ n) = inB l s ∧ w' = w := by
  obtain ⟨a, c, rfl, hc1, hc2, hat⟩ := ls_str hl
  have hmax : l.length ≤ maxLen := Nat.le_trans hc1 hc2
  unfold maxLen at hmax
  have HAT : Hid _ := hat
  obtain ⟨r, HR⟩ : ∃ r, Hid (inB l s = r) := ⟨_, rfl⟩
  rw [HR.out]
  clear hat hl
  go_enter Tryz.func70, Tryz.ntmps70
  go_wp2
  go_loopw [8] (fun i wr => wr = w ∧ ∃ k : Nat, k ≤ l.length ∧ i = .int .i64 k ∧ Hid (∀ j, j < k → atS l j ≠ s)) (fun i _ => l.length - (intOf i).toNat)
  case atStart => exact ⟨rfl, 0, Nat.zero_le _, rfl, fun j hj => absurd hj (by omega)⟩
  case round =>
    obtain ⟨rfl, k, hk, rfl, HB⟩ := hrel
    by_cases hlt : k < l.length
    · have hlt' : (k : Int) < (l.length : Int) := by omega
      have hk0 : (0 : Int) ≤ (k : Int) := by omega
      obtain ⟨g, off, rfl, hg, hT⟩ := HAT.out (by omega)
      have x0 := hT k hlt
      obtain ⟨y, HY⟩ : ∃ y, Hid (atS l k = y) := ⟨_, rfl⟩
      rw [HY.out] at x0
      clear hT
      by_cases e : y = s
      · have hB : (s.toList == y.toList) = true := by rw [e]; simp
        have HV : Hid (r = true) := by
          show r = true
          rw [← HR.out]
          exact inB_iff.2 (mem_of_atS hlt (HY.out.trans e))
        clear e
        go_wp2
        go_ret
        exact ⟨k, rfl, by rw [HV.out]; exact decide_eq_true (by omega), rfl⟩
      · have hB : (s.toList == y.toList) = false := by
          rw [beq_eq_false_iff_ne]
          exact fun h => e (toList_inj h).symm
        have HE : Hid (y ≠ s) := e
        clear e
        go_wp2
        go_roundw
        case rel =>
          refine ⟨trivial, k + 1, by omega, by go_num, fun j hj => ?_⟩
          by_cases h : j < k
          · exact HB.out j h
          · obtain rfl : j = k := by omega
            rw [HY.out]
            exact HE.out
        case measure => simp [intOf]; omega
    · obtain rfl : k = l.length := by omega
      have HV : Hid (r = false) := by
        show r = false
        rw [← HR.out, ← Bool.not_eq_true]
        intro h
        obtain ⟨i, hi, e⟩ := List.getElem_of_mem (inB_iff.1 h)
        exact HB.out i hi (by rw [atS_eq hi]; exact e)
      go_wp2
      go_ret
      exact ⟨-1, rfl, by rw [HV.out]; rfl, rfl⟩
theorem contains_any (s : ByteArray) (v : Value) (l : List ByteArray) (w : World) (hl : Ls w v l.length (l.flatMap strB)) : Calls Tryz.prog 40 #[v, .string s] w fun e w' => e = .returned (.bool (inB l s)) ∧ w' = w := by
  have HI := Lib.hid (index_any s v l w hl)
  generalize inB l s = b at HI ⊢
  clear hl
  go_enter Tryz.func40, Tryz.ntmps40
  go_wp2_with fail
  refine HI.out.mono ?_
  rintro e w' ⟨n, rfl, hn, rfl⟩
  have HN := Lib.hid hn
  clear hn HI
  go_wp2
  go_ret
  exact ⟨by rw [← HN.out]; rfl, rfl⟩
theorem areAmong_any (v v' : Value) (l m : List ByteArray) (w : World) (h1 : Ls w v l.length (l.flatMap strB)) (h2 : Ls w v' m.length (m.flatMap strB)) :
    Calls Tryz.prog 17 #[v, v'] w fun e w' => e = .returned (.bool (l.all (inB m))) ∧ w' = w := by
  have HIN : Hid (∀ s, Calls Tryz.prog 40 #[v', .string s] w fun e w' => e = .returned (.bool (inB m s)) ∧ w' = w) := fun s => contains_any s v' m w h2
  obtain ⟨a, c, rfl, hc1, hc2, hat⟩ := ls_str h1
  have hmax : l.length ≤ maxLen := Nat.le_trans hc1 hc2
  unfold maxLen at hmax
  have HAT := Lib.hid hat
  obtain ⟨R, hR⟩ : ∃ R, l.all (inB m) = R := ⟨_, rfl⟩
  rw [hR]
  have HR := Lib.hid hR
  clear hat h1 h2 hR hc2
  go_enter Tryz.func17, Tryz.ntmps17
  go_wp2
  go_loopw [9] (fun i wr => wr = w ∧ ∃ k : Nat, k ≤ l.length ∧ i = .int .i64 k ∧ Hid ((l.take k).all (inB m) = true)) (fun i _ => l.length - (intOf i).toNat)
  case atStart => exact ⟨rfl, 0, Nat.zero_le _, rfl, rfl⟩
  case round =>
    obtain ⟨rfl, k, hk, rfl, HA⟩ := hrel
    by_cases hlt : k < l.length
    · have hlt' : (k : Int) < (l.length : Int) := by omega
      have hk0 : (0 : Int) ≤ (k : Int) := by omega
      obtain ⟨g, off, rfl, hg, hT⟩ := HAT.out (by omega)
      have x0 := hT k hlt
      have HC := Lib.hid (HIN.out (atS l k))
      cases hq : inB m (atS l k)
      · have HF : Hid (R = false) := by show R = _; rw [← HR.out]; exact allS_not hlt hq
        rw [hq] at HC
        generalize atS l k = nm at x0 HC
        clear hT hq
        go_wp2_with fail
        refine HC.out.mono ?_
        rintro e w' ⟨rfl, rfl⟩
        clear HC
        go_wp2
        go_ret
        exact ⟨by rw [HF.out]; rfl, rfl⟩
      · have HN : Hid ((l.take (k + 1)).all (inB m) = true) := by
          show _ = _
          rw [allS_take hlt, HA.out, hq]
          rfl
        rw [hq] at HC
        generalize atS l k = nm at x0 HC
        clear hT hq
        go_wp2_with fail
        refine HC.out.mono ?_
        rintro e w' ⟨rfl, rfl⟩
        clear HC
        go_wp2
        go_roundw
        case rel => exact ⟨by first | rfl | trivial, k + 1, by omega, by go_num, HN⟩
        case measure => simp [intOf]; omega
    · obtain rfl : k = l.length := by omega
      rw [List.take_length] at HA
      have HF : Hid (R = true) := by show R = _; rw [← HR.out]; exact HA.out
      clear HA
      go_wp2
      go_ret
      exact ⟨by rw [HF.out]; rfl, rfl⟩
end Go.Proofs.YteabclfhmapabaaGreatDoor
end
section
namespace Go.Proofs.YteabclfhmapabaaGreatDoor
open Go.RowKit Go.Maps
set_option linter.unusedVariables false
set_option linter.unusedSimpArgs false

theorem run_fldR2 (ev : Operand → Value) (o : Oper) {x : Operand} (hop : o.op = .fieldAddr 25 x 2) (w : World) {be : Nat} (hx : ev x = .pointer (some ⟨be, 0, none⟩)) : (execOp ev o).run Tryz.prog w = .ok (.value (.pointer (some ⟨be, 2, none⟩))) w := by
  simp only [execOp, hop, hx]
  go_simp
def ckrule_takes : List (List Nat × Nat) := [([], 0), ([0], 2), ([0, 2], 3), ([0, 2, 3, 1, 4, 5], 6)]
set_option maxHeartbeats 3200000 in
theorem ckrule {ops : Array Oper} {Q : Exit → Act → World → Prop} {S : World → Prop} {a0 : Act} {w5 : World} {b : Nat} {rv bv : Value} {bb : Bool} {ty1 ty2 ty3 : Array TypeId}
    (q0 : isOpG ops 0 none (.load 25 (.tmp 1)) (some 9))
    (q2 : isOpG ops 2 none (.fieldAddr 25 (.tmp 1) 2) (some 11))
    (q3 : isOpG ops 3 none (.load 23 (.tmp 11)) (some 12))
    (q1 : isOpG ops 1 none (.call { callee := .value (.func 18), args := #[.tmp 9], argTypes := ty1 }) (some 10))
    (q4 : isOpG ops 4 none (.call { callee := .value (.func 19), args := #[.tmp 12], argTypes := ty2 }) (some 13))
    (q5 : isOpG ops 5 none (.call { callee := .value (.func 17), args := #[.tmp 10, .tmp 13], argTypes := ty3 }) (some 14))
    (q6 : isOpG ops 6 none (.unOp .not 4 (.tmp 14)) (some 15))
    (hs : Region.noSelect ops = true) (hq : (ckrule_takes.all fun p => Region.free .any ops (LR 7 p.1) p.2 && (Region.ready .any ops (LR 7 p.1)).contains p.2) = true)
    (r1 : Region.ready .any ops (LR 7 [0, 2, 3]) = [1])
    (r4 : Region.ready .any ops (LR 7 [0, 2, 3, 1]) = [4])
    (r5 : Region.ready .any ops (LR 7 [0, 2, 3, 1, 4]) = [5])
    (rend : Region.ready .any ops (LR 7 [0, 2, 3, 1, 4, 5, 6]) = [])
    (hQ : ∀ (d : Option Tmp) (v : Value) c a w, Q (.panic c) (a.put d v) w → Q (.panic c) a w)
    (hsz : 15 < a0.tmps.size) (e1 : a0.eval (.tmp 1) = .pointer (some ⟨b, 0, none⟩))
    (hS0 : S w5.drew)
    (keep : ∀ u u', S u → S u' → S u') (LRU : ∀ u, S u → (loadVar 25 ⟨b, 0, none⟩).run Tryz.prog u = .ok rv u) (LBO : ∀ u, S u → (loadVar 23 ⟨b, 2, none⟩).run Tryz.prog u = .ok bv u)
    (C1 : Calls Tryz.prog 18 #[rv] w5.drew fun e u1 => ∃ sv1, e = .returned sv1 ∧ S u1 ∧ Calls Tryz.prog 19 #[bv] u1 fun e u2 => ∃ sv2, e = .returned sv2 ∧ S u2 ∧ Calls Tryz.prog 17 #[sv1, sv2] u2 fun e u3 => e = .returned (.bool bb) ∧ S u3)
    (F : ∀ (wc : World) (sv1 sv2 : Value), S wc → Q .normal (((((((a0.put (some 9) (rv)).put (some 11) (.pointer (some ⟨b, 2, none⟩))).put (some 12) (bv)).put (some 10) (sv1)).put (some 13) (sv2)).put (some 14) (.bool bb)).put (some 15) (.bool (!bb))) wc) :
    wpAnyH Tryz.prog .any ops Q S 7 (LR 7 []) a0 w5.drew := by
  have hall : ∀ p ∈ ckrule_takes, Region.free .any ops (LR 7 p.1) p.2 = true ∧ (Region.ready .any ops (LR 7 p.1)).contains p.2 = true := by
    intro p hp
    have := List.all_eq_true.1 hq p hp
    simpa using this
  unfold ckrule_takes at hall
  obtain ⟨o0, ho, hg, hop, hd⟩ := isOpG_out q0
  have hfr := hall ([], 0) (by simp)
  refine wpAnyH_take (listed := LR 7 []) (v := rv) ho hs hfr.1 hfr.2 (hQ _ _) (Or.inl ⟨(wantedN hg), fun w' hS => run_loadS _ _ hop w' (by (repeat rw [eval_far _ _ (by decide)]); exact e1) (LRU _ hS)⟩) hS0 ?_
  rw [hd, ← LR_snoc]
  clear ho hg hop hd hfr
  obtain ⟨o2, ho, hg, hop, hd⟩ := isOpG_out q2
  have hfr := hall ([0], 2) (by simp)
  refine wpAnyH_take (listed := LR 7 [0]) (v := .pointer (some ⟨b, 2, none⟩)) ho hs hfr.1 hfr.2 (hQ _ _) (Or.inl ⟨(wantedN hg), fun w' hS => run_fldR2 _ _ hop w' (by (repeat rw [eval_far _ _ (by decide)]); exact e1)⟩) hS0 ?_
  rw [hd, ← LR_snoc]
  clear ho hg hop hd hfr
  obtain ⟨o3, ho, hg, hop, hd⟩ := isOpG_out q3
  have hfr := hall ([0, 2], 3) (by simp)
  refine wpAnyH_take (listed := LR 7 [0, 2]) (v := bv) ho hs hfr.1 hfr.2 (hQ _ _) (Or.inl ⟨(wantedN hg), fun w' hS => run_loadS _ _ hop w' (by (repeat (first | rw [eval_same _ _ (by (try simp only [put_size]); omega)] | rw [eval_far _ _ (by decide)]))) (LBO _ hS)⟩) hS0 ?_
  rw [hd, ← LR_snoc]
  clear ho hg hop hd hfr
  refine wpAnyH_all r1 (by simp) ?_
  intro i hi
  obtain rfl := List.mem_singleton.1 hi
  obtain ⟨o1, ho, hg, hop, hd⟩ := isOpG_out q1
  have x1_0 : ((((a0.put (some 9) (rv)).put (some 11) (.pointer (some ⟨b, 2, none⟩))).put (some 12) (bv))).eval (.tmp 9) = rv := (by (repeat (first | rw [eval_same _ _ (by (try simp only [put_size]); omega)] | rw [eval_far _ _ (by decide)])))
  refine wpOp_callG ho (wantedN hg) (run_callV 18 Tryz.func18 (by kernel_rfl) (by kernel_rfl) #[.tmp 9] _ hop #[rv] (by simp only [List.map_toArray, List.map_cons, List.map_nil, x1_0])) ?_
  refine (C1).mono ?_
  rintro e u1 ⟨sv1, rfl, hS1, C2⟩
  have hS1 := keep _ _ hS0 hS1
  refine ⟨_, rfl, hS1, ?_⟩
  rw [hd]
  clear ho hg hop hd
  rw [← LR_snoc]
  refine wpAnyH_all r4 (by simp) ?_
  intro i hi
  obtain rfl := List.mem_singleton.1 hi
  obtain ⟨o4, ho, hg, hop, hd⟩ := isOpG_out q4
  have x4_0 : (((((a0.put (some 9) (rv)).put (some 11) (.pointer (some ⟨b, 2, none⟩))).put (some 12) (bv)).put (some 10) (sv1))).eval (.tmp 12) = bv := (by (repeat (first | rw [eval_same _ _ (by (try simp only [put_size]); omega)] | rw [eval_far _ _ (by decide)])))
  refine wpOp_callG ho (wantedN hg) (run_callV 19 Tryz.func19 (by kernel_rfl) (by kernel_rfl) #[.tmp 12] _ hop #[bv] (by simp only [List.map_toArray, List.map_cons, List.map_nil, x4_0])) ?_
  refine (C2).mono ?_
  rintro e u2 ⟨sv2, rfl, hS2, C3⟩
  have hS4 := keep _ _ hS1 hS2
  refine ⟨_, rfl, hS4, ?_⟩
  rw [hd]
  clear ho hg hop hd
  rw [← LR_snoc]
  refine wpAnyH_all r5 (by simp) ?_
  intro i hi
  obtain rfl := List.mem_singleton.1 hi
  obtain ⟨o5, ho, hg, hop, hd⟩ := isOpG_out q5
  have x5_0 : ((((((a0.put (some 9) (rv)).put (some 11) (.pointer (some ⟨b, 2, none⟩))).put (some 12) (bv)).put (some 10) (sv1)).put (some 13) (sv2))).eval (.tmp 10) = sv1 := (by (repeat (first | rw [eval_same _ _ (by (try simp only [put_size]); omega)] | rw [eval_far _ _ (by decide)])))
  have x5_1 : ((((((a0.put (some 9) (rv)).put (some 11) (.pointer (some ⟨b, 2, none⟩))).put (some 12) (bv)).put (some 10) (sv1)).put (some 13) (sv2))).eval (.tmp 13) = sv2 := (by (repeat (first | rw [eval_same _ _ (by (try simp only [put_size]); omega)] | rw [eval_far _ _ (by decide)])))
  refine wpOp_callG ho (wantedN hg) (run_callV 17 Tryz.func17 (by kernel_rfl) (by kernel_rfl) #[.tmp 10, .tmp 13] _ hop #[sv1, sv2] (by simp only [List.map_toArray, List.map_cons, List.map_nil, x5_0, x5_1])) ?_
  refine (C3).mono ?_
  rintro e u3 ⟨rfl, hS3⟩
  have hS5 := keep _ _ hS4 hS3
  refine ⟨_, rfl, hS5, ?_⟩
  rw [hd]
  clear ho hg hop hd
  rw [← LR_snoc]
  obtain ⟨o6, ho, hg, hop, hd⟩ := isOpG_out q6
  have hfr := hall ([0, 2, 3, 1, 4, 5], 6) (by simp)
  refine wpAnyH_take (listed := LR 7 [0, 2, 3, 1, 4, 5]) (v := .bool (!bb)) ho hs hfr.1 hfr.2 (hQ _ _) (Or.inl ⟨(wantedN hg), fun w' hS => run_notV (b := bb) _ _ hop w' (by (repeat (first | rw [eval_same _ _ (by (try simp only [put_size]); omega)] | rw [eval_far _ _ (by decide)])))⟩) hS5 ?_
  rw [hd, ← LR_snoc]
  clear ho hg hop hd hfr
  exact wpAnyH_done rend (F _ sv1 sv2 hS5) _
end Go.Proofs.YteabclfhmapabaaGreatDoor
end
section
namespace Go.Proofs.YteabclfhmapabaaGreatDoor
open Go.RowKit Go.Maps
set_option linter.unusedVariables false
set_option linter.unusedSimpArgs false
attribute [local go_sem ↓] Go.wp_at_zero Go.wp_at_succ
attribute [-go_sem] loadVar storeVar

/-- what a body limits: where the rounds stand still -/
structure Lim (qs : List Qn) (f0 fs : List ByteArray) : Prop where
  it : ∃ k, fs = itQ qs k f0
  st : rndQ qs fs = fs
theorem Lim.one {qs : List Qn} {f0 fs fs' : List ByteArray} (h : Lim qs f0 fs) (h' : Lim qs f0 fs') : fs = fs' := by
  obtain ⟨⟨k, e⟩, hs⟩ := h
  obtain ⟨⟨k', e'⟩, hs'⟩ := h'
  rw [e] at hs ⊢
  rw [e'] at hs' ⊢
  exact itQ_one hs hs'
theorem lim_go (qs : List Qn) (f0 : List ByteArray) (hok : ∀ q ∈ qs, OkQ q) : ∀ (n : Nat) (ws : List Qn) (fs : List ByteArray) (k : Nat), ws.length ≤ n → fs = itQ qs k f0 → Wt fs qs ws → ∃ fs', Lim qs f0 fs'
  | n, ws, fs, k, hn, hk, hw => by
    obtain ⟨h1, h2⟩ := Wt.round qs ws fs hok hw
    obtain ⟨h3, h4⟩ := progR_len ws fs
    by_cases he : (progR ws fs).2.length = ws.length
    · exact ⟨fs, ⟨k, hk⟩, by rw [h1, h4 he]⟩
    · match n with
      | 0 => exact absurd (show (progR ws fs).2.length = ws.length by omega) he
      | n + 1 => exact lim_go qs f0 hok n (progR ws fs).2 (progR ws fs).1 (k + 1) (by omega) (by rw [itQ_succ, ← hk, h1]) h2
theorem lim_ex (qs : List Qn) (f0 : List ByteArray) (hok : ∀ q ∈ qs, OkQ q) : ∃ fs, Lim qs f0 fs := lim_go qs f0 hok qs.length qs f0 0 (Nat.le_refl _) rfl (Wt.all _ _)
/-- the bounds of a body -/
structure SmB (d : Nat) (l : List XL) : Prop where
  ts : ∀ i, i < l.length → (atL l i).x.ts.length ≤ 1048576
  av : (avL l).length ≤ 1048576
  ln : l.length ≤ 1048576
  sz : ∀ i, i < l.length → szD d (atL l i).x.l ≤ 1048576 ∧ szD d (atL l i).x.r ≤ 1048576
  lo : (loneL (eqL d l)).length ≤ 4194304
theorem smallR.body {d : Nat} {r : R3} (h : smallR d r) : SmB d r.bd := by
  refine ⟨fun i hi => by rw [atL_eq hi]; exact (h.each _ (List.getElem_mem hi)).1, ?_, h.bd, fun i hi => ?_, ?_⟩
  · have h1 := h.terms
    have h2 := avL_lenC d r.bd
    unfold termsR at h1
    rw [List.length_append] at h1
    omega
  · rw [atL_eq hi]
    have := h.each _ (List.getElem_mem hi)
    exact ⟨this.2.1.2, this.2.2.2⟩
  · have h1 := loneL_len (eqL d r.bd)
    have h2 := eqL_len d r.bd
    have h3 := h.bd
    omega
/-- the error of a rule that is to be used -/
def ruE (d : Nat) (r : R3) (fs : List ByteArray) : Int := if ruleB d r = true then (if (vsT [] (termsR d r)).all (inB fs) = true then 0 else 73) else 40
theorem rule_loads {u : World} {b : Nat} {r : R3} {p : RP} (h : RL u b 25 (r.cells p)) :
    (loadVar 25 ⟨b, 0, none⟩).run Tryz.prog u = .ok (r.val p) u ∧ (loadVar 23 ⟨b, 2, none⟩).run Tryz.prog u = .ok (.slice p.ba r.bd.length p.bc) u ∧ (loadVar 22 ⟨b, 1, none⟩).run Tryz.prog u = .ok (.slice p.a r.hd.length p.c) u := by
  refine ⟨run_loadVar_mid _ _ 0 25 (r.cells p) _ (RL.range h) Tryz.underlying25 rfl (by kernel_rfl), ?_, ?_⟩
  · have := RL.at h (j := 2) rfl
    rw [loadVar.eq_1]
    go_simp
  · have := RL.at h (j := 1) rfl
    rw [loadVar.eq_1]
    go_simp
set_option maxHeartbeats 3200000 in
theorem ckRule_any (d : Nat) (r : R3) (p : RP) (w : World) (hT : KT w) (hR : RIs w (d + 1) r p) (hs : smallR (d + 1) r) (fs : List ByteArray) (hf : Lim (eqL (d + 1) r.bd) (atN r.bd) fs) :
    Calls Tryz.prog 6 #[r.val p] w fun e w' => e = .returned (.int .i64 (ruE (d + 1) r fs)) ∧ Below w.heap.size w w' := by
  have hB := belowA (w := w) (.cells (r.cells p).toArray 25)
  have HR0 := Lib.hid (rl_new w (r.cells p).toArray 25)
  have HB := Lib.hid hB
  have HR : Hid (∀ u, Below w.heap.size w u → RIs u (d + 1) r p) := fun u hu => hR.below hu
  have HC := Lib.hid (checkRule_any (d + 1) r p _ (hT.below hB) (hR.below hB) hs)
  have hld := (rule_loads HR0.out).1
  have HS := Lib.hid hs
  have HF := Lib.hid hf
  obtain ⟨er, her⟩ : ∃ er, ruE (d + 1) r fs = er := ⟨_, rfl⟩
  rw [her]
  have HE := Lib.hid her
  have hbox : (R3.val r p) = .agg #[.string r.pr, .slice p.a r.hd.length p.c, .slice p.ba r.bd.length p.bc] := rfl
  have hcl : (r.cells p).toArray = #[.string r.pr, .slice p.a r.hd.length p.c, .slice p.ba r.bd.length p.bc] := rfl
  rw [hbox] at hld HC ⊢
  rw [hcl] at hld HC HB HR0
  clear hB hR hs hf her hT hbox hcl
  go_enter Tryz.func6, Tryz.ntmps6
  go_wp2_with fail
  refine HC.out.mono ?_
  rintro e w1 ⟨rfl, b1⟩
  have B1 : Hid (Below w.heap.size w w1) := HB.out.trans (b1.mono HB.out.size)
  have HR1 : Hid (RL w1 w.heap.size 25 (r.cells p)) := RL.below HR0.out b1
  clear b1 HB HR0 HC hld
  cases hrb : ruleB (d + 1) r
  · have HER : Hid (er = 40) := by show _ = _; rw [← HE.out]; unfold ruE; rw [hrb]; rfl
    have e0 : errB false = 40 := rfl
    rw [e0]
    clear hrb e0
    go_wp2
    go_ret
    exact ⟨by first | (rw [HER.out]; rfl) | rw [HER.out], B1.out⟩
  · have e0 : errB true = 0 := rfl
    rw [e0]
    have HER : Hid (er = if (vsT [] (termsR (d + 1) r)).all (inB fs) = true then 0 else 73) := by show _ = _; rw [← HE.out]; unfold ruE; rw [hrb]; rfl
    clear hrb e0
    have hD : Below w1.heap.size w1 w1.drew := (Below.refl _ _).drew
    have HC1 : Hid (Calls Tryz.prog 18 #[r.val p] w1.drew fun e u1 => ∃ sv1, e = .returned sv1 ∧ Below w1.heap.size w1 u1 ∧ Calls Tryz.prog 19 #[.slice p.ba r.bd.length p.bc] u1 fun e u2 => ∃ sv2, e = .returned sv2 ∧ Below w1.heap.size w1 u2 ∧ Calls Tryz.prog 17 #[sv1, sv2] u2 fun e u3 => e = .returned (.bool ((vsT [] (termsR (d + 1) r)).all (inB fs))) ∧ Below w1.heap.size w1 u3) := by
      have k0 : Below w.heap.size w w1.drew := B1.out.trans (hD.mono B1.out.size)
      refine (vruleVars_any (d + 1) r p w1.drew (HR.out _ k0) (by have := HS.out.terms; omega)).mono ?_
      rintro e u1 ⟨sv1, rfl, l1, c1⟩
      have k1 : Below w1.heap.size w1 u1 := hD.trans (c1.mono hD.size)
      have k1w : Below w.heap.size w u1 := B1.out.trans (k1.mono B1.out.size)
      refine ⟨sv1, rfl, k1, ?_⟩
      have hb := HS.out.body
      refine (limited_any d _ r.bd u1 (HR.out u1 k1w).bd hb.ts hb.av hb.ln hb.sz).mono ?_
      rintro e u2 ⟨sv2, fs2, rfl, own2, c2, it2, st2⟩
      obtain rfl : fs = fs2 := HF.out.one ⟨it2, st2⟩
      have k2 : Below w1.heap.size w1 u2 := k1.trans (c2.mono k1.size)
      refine ⟨sv2, rfl, k2, ?_⟩
      refine (areAmong_any sv1 sv2 _ fs u2 (l1.below c2) (ls_own own2)).mono ?_
      rintro e u3 ⟨rfl, rfl⟩
      exact ⟨rfl, k2⟩
    have HLD : Hid (∀ u, Below w1.heap.size w1 u → _) := fun u hu => rule_loads (RL.below HR1.out hu)
    have HDD := Lib.hid hD
    generalize (vsT [] (termsR (d + 1) r)).all (inB fs) = bb at HER HC1
    generalize R3.val r p = rv at HLD HC1
    clear hD HR HR1 HS HF HE
    go_upto_region 4 with fail
    refine wp_region_noPanic ?_
    refine wp_region_held (S := fun u => Below w1.heap.size w1 u) (by kernel_rfl) ?_
    refine ckrule (w5 := w1) (S := fun u => Below w1.heap.size w1 u) (b := w.heap.size) (rv := rv) (bv := .slice p.ba r.bd.length p.bc) (bb := bb) rfl rfl rfl rfl rfl rfl rfl (by kernel_rfl) (by kernel_rfl) (by kernel_rfl) (by kernel_rfl) (by kernel_rfl) (by kernel_rfl) (fun _ _ _ _ _ h => h) (by simp) rfl HDD.out (fun _ _ _ h => h) (fun u hu => (HLD.out u hu).1) (fun u hu => (HLD.out u hu).2.1) HC1.out ?_
    intro wc sv1 sv2 hwc
    have B2 : Hid (Below w.heap.size w wc) := B1.out.trans (hwc.mono B1.out.size)
    clear hwc HC1 HLD HDD B1
    refine NoPanic.normal ?_
    rename_i hK
    refine hK _ _ ?_
    simp (config := { maxSteps := 8000000 }) only [Act.put, List.getElem_toArray, List.getElem_cons_zero, List.getElem_cons_succ, List.setIfInBounds_toArray, List.set_cons_succ, List.set_cons_zero]
    cases bb
    · go_wp2
      go_ret
      exact ⟨by rw [HER.out]; rfl, B2.out⟩
    · go_wp2
      go_ret
      exact ⟨by rw [HER.out]; rfl, B2.out⟩
end Go.Proofs.YteabclfhmapabaaGreatDoor
end
section
namespace Go.Proofs.YteabclfhmapabaaGreatDoor
open Go.RowKit Go.Maps
set_option linter.unusedVariables false
set_option linter.unusedSimpArgs false

/-- an equation gives this variable, these being found -/
def hitQ (fs : List ByteArray) (v : ByteArray) (q : Qn) : Bool := (decide (q.1.lone = some v) && q.2.vars.all (inB fs)) || (decide (q.2.lone = some v) && q.1.vars.all (inB fs))
def eqdB (qs : List Qn) (v : ByteArray) (fs : List ByteArray) : Bool := qs.any (hitQ fs v)
theorem gave_hit {fs : List ByteArray} {q : Qn} {v : ByteArray} (h : gaveO fs q = some v) : hitQ fs v q = true := by
  unfold gaveO at h
  unfold hitQ
  cases h1 : givesO q.1.lone q.2.vars fs with
  | some x =>
    rw [h1] at h
    injection h with h
    subst h
    obtain ⟨e1, _, e3⟩ := givesO_some h1
    rw [decide_eq_true e1, List.all_eq_true.2 (fun y hy => inB_iff.2 (e3 y hy))]
    rfl
  | none =>
    rw [h1] at h
    obtain ⟨e1, _, e3⟩ := givesO_some h
    rw [decide_eq_true e1, List.all_eq_true.2 (fun y hy => inB_iff.2 (e3 y hy)), Bool.or_eq_true]
    exact .inr rfl
theorem hit_gave {fs : List ByteArray} {q : Qn} {v : ByteArray} (hv : ¬ v ∈ fs) (h : hitQ fs v q = true) : gaveO fs q ≠ none := by
  unfold hitQ at h
  have hb : inB fs v = false := by rw [← Bool.not_eq_true]; exact fun e => hv (inB_iff.1 e)
  rw [Bool.or_eq_true, Bool.and_eq_true, Bool.and_eq_true, decide_eq_true_eq, decide_eq_true_eq] at h
  unfold gaveO
  rcases h with ⟨h1, h2⟩ | ⟨h1, h2⟩
  · have : givesO q.1.lone q.2.vars fs = some v := by unfold givesO; rw [h1]; simp only; rw [hb, h2]; rfl
    rw [this]
    simp
  · have : givesO q.2.lone q.1.vars fs = some v := by unfold givesO; rw [h1]; simp only; rw [hb, h2]; rfl
    cases givesO q.1.lone q.2.vars fs with
    | some x => simp
    | none => simp only; rw [this]; simp
theorem still_none : ∀ (qs : List Qn) (fs : List ByteArray), rndQ qs fs = fs → ∀ q ∈ qs, gaveO fs q = none
  | [], fs, _, q, hq => by cases hq
  | p :: qs, fs, h, q, hq => by
    have h' : rndQ qs (stepQ fs p) = fs := h
    have hp : gaveO fs p = none := by
      cases hg : gaveO fs p with
      | none => rfl
      | some v =>
        obtain ⟨m, hm⟩ := rndQ_grow qs (stepQ fs p)
        have e : stepQ fs p = fs ++ [v] := by unfold stepQ; rw [hg]
        rw [h', e] at hm
        have := congrArg List.length hm
        simp only [List.length_append, List.length_cons, List.length_nil] at this
        omega
    have e : stepQ fs p = fs := by unfold stepQ; rw [hp]
    rw [e] at h'
    rcases List.mem_cons.1 hq with rfl | hq
    · exact hp
    · exact still_none qs fs h' q hq
/-- no equation gives one more -/
theorem Lim.no {qs : List Qn} {f0 fs : List ByteArray} (h : Lim qs f0 fs) {v : ByteArray} (hv : ¬ v ∈ fs) : eqdB qs v fs = false := by
  unfold eqdB
  rw [← Bool.not_eq_true]
  intro ha
  obtain ⟨q, hq, hh⟩ := List.any_eq_true.1 ha
  exact hit_gave hv hh (still_none qs fs h.st q hq)
theorem itQ_grow (qs : List Qn) : ∀ (k : Nat) (fs : List ByteArray), ∃ more, itQ qs k fs = fs ++ more
  | 0, fs => ⟨[], by simp [itQ]⟩
  | k + 1, fs => by
    obtain ⟨m, hm⟩ := rndQ_grow qs fs
    obtain ⟨m2, hm2⟩ := itQ_grow qs k (rndQ qs fs)
    exact ⟨m ++ m2, by rw [itQ, hm2, hm, List.append_assoc]⟩
theorem itQ_nodup (qs : List Qn) : ∀ (k : Nat) (fs : List ByteArray), fs.Nodup → (itQ qs k fs).Nodup
  | 0, fs, h => h
  | k + 1, fs, h => itQ_nodup qs k _ (rndQ_nodup qs fs h)
theorem Lim.grow {qs : List Qn} {f0 fs : List ByteArray} (h : Lim qs f0 fs) : ∃ more, fs = f0 ++ more := by
  obtain ⟨⟨k, e⟩, _⟩ := h
  rw [e]
  exact itQ_grow qs k f0
theorem Lim.nodup {qs : List Qn} {f0 fs : List ByteArray} (h : Lim qs f0 fs) (hn : f0.Nodup) : fs.Nodup := by
  obtain ⟨⟨k, e⟩, _⟩ := h
  rw [e]
  exact itQ_nodup qs k f0 hn
theorem Lim.sub {qs : List Qn} {f0 fs : List ByteArray} (h : Lim qs f0 fs) : ∀ x ∈ f0, x ∈ fs := fun x hx => by
  obtain ⟨m, e⟩ := h.grow
  rw [e]
  exact List.mem_append.2 (.inl hx)
/-- each has its reason ahead -/
def Rea (qs : List Qn) (n : Nat) (fs : List ByteArray) : Prop := ∀ i, n ≤ i → i < fs.length → eqdB qs (atS fs i) (fs.take i) = true
theorem Rea.step {qs : List Qn} {n : Nat} {fs : List ByteArray} {q : Qn} (hq : q ∈ qs) (h : Rea qs n fs) : Rea qs n (stepQ fs q) := by
  unfold stepQ
  cases hg : gaveO fs q with
  | none => exact h
  | some v =>
    intro i hi hl
    simp only [List.length_append, List.length_cons, List.length_nil] at hl
    by_cases hlt : i < fs.length
    · have e1 : atS (fs ++ [v]) i = atS fs i := by rw [atS_eq hlt, atS_eq (by simp; omega), List.getElem_append_left hlt]
      have e2 : (fs ++ [v]).take i = fs.take i := by rw [List.take_append_of_le_length (by omega)]
      rw [e1, e2]
      exact h i hi hlt
    · obtain rfl : i = fs.length := by omega
      have e1 : atS (fs ++ [v]) fs.length = v := by rw [atS_eq (by simp)]; simp
      have e2 : (fs ++ [v]).take fs.length = fs := by simp
      rw [e1, e2]
      exact List.any_eq_true.2 ⟨q, hq, gave_hit hg⟩
theorem Rea.round {qs : List Qn} {n : Nat} : ∀ (ps : List Qn) (fs : List ByteArray), (∀ q ∈ ps, q ∈ qs) → Rea qs n fs → Rea qs n (rndQ ps fs)
  | [], fs, _, h => h
  | p :: ps, fs, hs, h => Rea.round ps (stepQ fs p) (fun q hq => hs q (List.mem_cons_of_mem _ hq)) (h.step (hs p List.mem_cons_self))
theorem Rea.it {qs : List Qn} {n : Nat} : ∀ (k : Nat) (fs : List ByteArray), Rea qs n fs → Rea qs n (itQ qs k fs)
  | 0, fs, h => h
  | k + 1, fs, h => Rea.it k _ (Rea.round qs fs (fun _ hq => hq) h)
theorem Lim.rea {qs : List Qn} {f0 fs : List ByteArray} (h : Lim qs f0 fs) : Rea qs f0.length fs := by
  obtain ⟨⟨k, e⟩, _⟩ := h
  rw [e]
  exact Rea.it k f0 (fun i h1 h2 => by omega)
theorem Lim.first {qs : List Qn} {f0 fs : List ByteArray} (h : Lim qs f0 fs) {i : Nat} (hi : i < fs.length) : atS fs i ∈ f0 ∨ eqdB qs (atS fs i) (fs.take i) = true := by
  by_cases hl : i < f0.length
  · left
    obtain ⟨m, e⟩ := h.grow
    rw [atS_eq hi]
    have : fs[i] = f0[i] := by simp only [e]; rw [List.getElem_append_left hl]
    rw [this]
    exact List.getElem_mem hl
  · exact .inr (h.rea i (by omega) hi)
theorem Lim.ahead {qs : List Qn} {f0 fs : List ByteArray} (h : Lim qs f0 fs) (hn : f0.Nodup) {i : Nat} (hi : i < fs.length) : inB (fs.take i) (atS fs i) = false := by
  rw [← Bool.not_eq_true]
  intro hb
  have hm := inB_iff.1 hb
  have hnd := h.nodup hn
  obtain ⟨j, hj, e⟩ := List.getElem_of_mem hm
  rw [List.length_take] at hj
  rw [List.getElem_take, atS_eq hi] at e
  exact List.pairwise_iff_getElem.1 hnd j i (by omega) hi (by omega) e
theorem hit_mono {fs fs' : List ByteArray} {v : ByteArray} {q : Qn} (hs : ∀ x ∈ fs, x ∈ fs') (h : hitQ fs v q = true) : hitQ fs' v q = true := by
  unfold hitQ at h ⊢
  have ha : ∀ l : List ByteArray, l.all (inB fs) = true → l.all (inB fs') = true := fun l hl => List.all_eq_true.2 (fun x hx => inB_iff.2 (hs x (inB_iff.1 (List.all_eq_true.1 hl x hx))))
  rw [Bool.or_eq_true, Bool.and_eq_true, Bool.and_eq_true] at h ⊢
  rcases h with ⟨h1, h2⟩ | ⟨h1, h2⟩
  · exact .inl ⟨h1, ha _ h2⟩
  · exact .inr ⟨h1, ha _ h2⟩
/-- more atoms and more equations limit no less -/
theorem Lim.mono {qs qs' : List Qn} {f0 f0' fs fs' : List ByteArray} (h : Lim qs f0 fs) (h' : Lim qs' f0' fs') (hq : ∀ q ∈ qs, q ∈ qs') (hf : ∀ x ∈ f0, x ∈ f0') : ∀ x ∈ fs, x ∈ fs' := by
  have key : ∀ i, i ≤ fs.length → ∀ x ∈ fs.take i, x ∈ fs' := by
    intro i
    induction i with
    | zero => intro _ x hx; simp at hx
    | succ i ih =>
      intro hi x hx
      have hlt : i < fs.length := by omega
      rw [takeS hlt] at hx
      rcases List.mem_append.1 hx with hx | hx
      · exact ih (by omega) x hx
      · rw [List.mem_singleton.1 hx]
        rcases h.first hlt with k | k
        · exact h'.sub _ (hf _ k)
        · cases hno' : inB fs' (atS fs i) with
          | true => exact inB_iff.1 hno'
          | false =>
          have hno : ¬ atS fs i ∈ fs' := fun e => by rw [inB_iff.2 e] at hno'; cases hno'
          obtain ⟨q, hqm, hh⟩ := List.any_eq_true.1 k
          have h2 := h'.no hno
          have : eqdB qs' (atS fs i) fs' = true := List.any_eq_true.2 ⟨q, hq q hqm, hit_mono (ih (by omega)) hh⟩
          rw [h2] at this
          cases this
  intro x hx
  exact key fs.length (Nat.le_refl _) x (by rw [List.take_length]; exact hx)
theorem foldN_mem : ∀ (l out : List ByteArray) (x : ByteArray), x ∈ l.foldl addN out ↔ x ∈ out ∨ x ∈ l
  | [], out, x => by simp
  | n :: l, out, x => by
    rw [List.foldl_cons, foldN_mem l]
    unfold addN
    split
    · rename_i hc
      constructor
      · rintro (h | h)
        · exact .inl h
        · exact .inr (List.mem_cons_of_mem _ h)
      · rintro (h | h)
        · exact .inl h
        · rcases List.mem_cons.1 h with rfl | h
          · exact .inl (inB_iff.1 hc)
          · exact .inr h
    · rw [List.mem_append, List.mem_singleton, List.mem_cons]
      constructor
      · rintro ((h | h) | h)
        · exact .inl h
        · exact .inr (.inl h)
        · exact .inr (.inr h)
      · rintro (h | h | h)
        · exact .inl (.inl h)
        · exact .inl (.inr h)
        · exact .inr h
end Go.Proofs.YteabclfhmapabaaGreatDoor
end
