import Derived.Test.YteabclfhmapabaaDoorA42
namespace Go.Proofs.YteabclfhmapabaaDoor
open Go.RowKit Go.Maps Go.Shelf
set_option linter.unusedVariables false
set_option linter.unusedSimpArgs false
attribute [local go_sem ↓] Go.wp_at_zero Go.wp_at_succ
attribute [local go_sem] Oper.semAt_some
attribute [-go_sem] loadVar Builtin.append_ Instr.buildSlice

theorem run_fldRu2 (ev : Operand → Value) (o : Oper) {x : Operand} (hop : o.op = .fieldAddr 25 x 2) (w : World) {b : Nat} (hx : ev x = .pointer (some ⟨b, 0, none⟩)) : (execOp ev o).run Tryd.prog w = .ok (.value (.pointer (some ⟨b, 2, none⟩))) w := by
  simp only [execOp, hop, hx]
  go_simp
theorem run_idxLt (ev : Operand → Value) (o : Oper) {x y : Operand} (hop : o.op = .indexAddr 23 x y) (w : World) {g off n c k : Nat} (hx : ev x = .slice (some ⟨g, off, none⟩) n c) (hy : ev y = .int .i64 (k : Int)) (hk : k < n) : (execOp ev o).run Tryd.prog w = .ok (.value (.pointer (some ⟨g, off + k * 16, none⟩))) w := by
  have hk' : (k : Int) < (n : Int) := by omega
  have hk0 : (0 : Int) ≤ (k : Int) := by omega
  simp only [execOp, hop, hx, hy]
  go_simp
theorem run_fldLt0 (ev : Operand → Value) (o : Oper) {x : Operand} (hop : o.op = .fieldAddr 56 x 0) (w : World) {g f : Nat} (hx : ev x = .pointer (some ⟨g, f, none⟩)) : (execOp ev o).run Tryd.prog w = .ok (.value (.pointer (some ⟨g, f, none⟩))) w := by
  simp only [execOp, hop, hx]
  go_simp
theorem run_lenLt (ev : Operand → Value) (o : Oper) {x : Operand} (hop : o.op = .call { callee := .builtin .len, args := #[x], argTypes := #[23] }) (w : World) {a : Option Addr} {n c : Nat} (hx : ev x = .slice a n c) : (execOp ev o).run Tryd.prog w = .ok (.value (.int .i64 (n : Int))) w := by
  simp only [execOp, hop]
  simp [resolve, invoke, builtin, hx, Builtin.lenOf, Result.andThen, go_sem]
theorem lssK_run (k : Nat) (u : World) : (binOp .lss 3 (.int .i64 (k : Int)) (.int .i64 0)).run Tryd.prog u = .ok (.bool false) u := by
  have h : ¬ (k : Int) < 0 := by omega
  go_simp
theorem geqK_run {k n : Nat} (h : k < n) (u : World) : (binOp .geq 3 (.int .i64 (k : Int)) (.int .i64 (n : Int))).run Tryd.prog u = .ok (.bool false) u := by
  have h1 : ¬ (n : Int) ≤ (k : Int) := by omega
  go_simp
theorem eqlKd_run (kd : Int) (u : World) : (binOp .eql 41 (.int .i8 kd) (.int .i8 1)).run Tryd.prog u = .ok (.bool (kd == 1)) u := by go_simp
theorem mvL_mem {xs : List SX} {fr tq : Nat} (hf : fr < xs.length) : ∀ n, n ≤ xs.length → ∀ y ∈ mvL xs fr tq n, y ∈ xs
  | 0, _, y, hy => by cases hy
  | n + 1, hn, y, hy => by
    unfold mvL at hy
    rcases List.mem_append.1 hy with h | h
    · exact mvL_mem hf n (by omega) y h
    · rcases List.mem_append.1 h with h | h
      · split at h
        · obtain rfl := List.mem_singleton.1 h
          rw [atZ_eq hf]
          exact List.getElem_mem hf
        · cases h
      · split at h
        · cases h
        · obtain rfl := List.mem_singleton.1 h
          rw [atZ_eq (by omega)]
          exact List.getElem_mem _
/-- moved so, Right says no -/
theorem right_mv {d : Nat} {r : R3} {l : List ByteArray} {first : Int} {u : World} {y : R3} {q : RP} {xs ys : List SX} {sa a : Option Addr} {sc c : Nat} (hY : MkY d r l first u y q xs sa sc) (hK : KT u) (hs : smallR (d + 1) r) (hT : (termsR (d + 1) r).length ≤ 1048576) {v : Value} (hl : Ls u v l.length (l.flatMap strB)) (hsz : ∀ i, i < l.length → (atS l i).size ≤ maxLen) (hZ : Lz u (.slice a ys.length c) ys) (hg : goR (d + 1) r.bd l (2 ^ r.bd.length - 1) (ys.map SX.s) = none) :
    Calls Tryd.prog 8 #[.agg #[.string y.pr, .slice q.a y.hd.length q.c, .slice q.ba y.bd.length q.bc, .slice a ys.length c], v] u fun e w' => e = .returned (.bool false) ∧ Below u.heap.size u w' := by
  refine (right_any d y q ys u hK hY.ri (hY.lk.small hs) (by rw [hY.lk.terms]; exact hT) hZ hl hsz).mono ?_
  rintro e w' ⟨hb, h⟩
  refine ⟨?_, hb⟩
  rcases h with ⟨rfl, _⟩ | ⟨_, _, f2, _, _, rfl⟩
  · rfl
  · rw [hY.lk.bl, hY.lk.goR, hg]
    rfl
set_option maxHeartbeats 6400000 in
set_option maxRecDepth 100000 in
theorem moved_any {w : World} {pr : ByteArray} {ra : Option Addr} {rn rc : Nat} {ba : Option Addr} {bn bc : Nat} {xs : List SX} {sa : Option Addr} {sc : Nat} (hX : Lz w (.slice sa xs.length sc) xs) (hx : xs.length ≤ 16) {fr tq : Nat} (hf : fr < xs.length) (hne : tq ≠ fr) :
    Calls Tryd.prog 9 #[.agg #[.string pr, .slice ra rn rc, .slice ba bn bc, .slice sa xs.length sc], .int .i64 (fr : Int), .int .i64 (tq : Int)] w fun e w' => Below w.heap.size w w' ∧ ∃ (a : Option Addr) (c : Nat), e = .returned (.agg #[.string pr, .slice ra rn rc, .slice ba bn bc, .slice a (mvL xs fr tq xs.length).length c]) ∧ Lz w' (.slice a (mvL xs fr tq xs.length).length c) (mvL xs fr tq xs.length) := by
  have hA1 := belowA (w := w) (.cells #[.string pr, .slice ra rn rc, .slice ba bn bc, .slice sa xs.length sc] 30)
  have hA2 : Below w.heap.size w ((w.alloc (.cells #[.string pr, .slice ra rn rc, .slice ba bn bc, .slice sa xs.length sc] 30)).alloc (.cells #[.string ⟨#[]⟩, .slice none 0 0, .slice none 0 0, .slice none 0 0] 30)) := hA1.trans ((belowA _).mono hA1.size)
  have HRL : Hid (RL ((w.alloc (.cells #[.string pr, .slice ra rn rc, .slice ba bn bc, .slice sa xs.length sc] 30)).alloc (.cells #[.string ⟨#[]⟩, .slice none 0 0, .slice none 0 0, .slice none 0 0] 30)) w.heap.size 30 [.string pr, .slice ra rn rc, .slice ba bn bc, .slice sa xs.length sc]) := RL.below (rl_new w #[.string pr, .slice ra rn rc, .slice ba bn bc, .slice sa xs.length sc] 30) (belowA _)
  have HPL : Hid (RL ((w.alloc (.cells #[.string pr, .slice ra rn rc, .slice ba bn bc, .slice sa xs.length sc] 30)).alloc (.cells #[.string ⟨#[]⟩, .slice none 0 0, .slice none 0 0, .slice none 0 0] 30)) (w.heap.size + 1) 30 [.string ⟨#[]⟩, .slice none 0 0, .slice none 0 0, .slice none 0 0]) := by
    have h1 := rl_new (w.alloc (.cells #[.string pr, .slice ra rn rc, .slice ba bn bc, .slice sa xs.length sc] 30)) #[.string ⟨#[]⟩, .slice none 0 0, .slice none 0 0, .slice none 0 0] 30
    rw [World.size_alloc] at h1
    exact h1
  have HZ : Hid (((w.alloc (.cells #[.string pr, .slice ra rn rc, .slice ba bn bc, .slice sa xs.length sc] 30)).alloc (.cells #[.string ⟨#[]⟩, .slice none 0 0, .slice none 0 0, .slice none 0 0] 30)).heap.size = w.heap.size + 2) := by show _ = _; simp
  have HB0 := Lib.hid hA2
  have HX := Lib.hid hX
  have HX2 := Lib.hid (hX.below hA2)
  obtain ⟨sa', sc', hac, hc1, hc2, hat⟩ := HX2.out.form
  injection hac with e1 e2 e3
  subst e1 e3
  have HAT := Lib.hid hat
  have HNE := Lib.hid hne
  unfold maxLen at hc2
  clear hX hA1 hA2 hat e2 HX2 hne
  go_enter Tryd.func9, Tryd.ntmps9
  go_upto_region 1 with fail
  generalize (w.alloc (.cells #[.string pr, .slice ra rn rc, .slice ba bn bc, .slice sa xs.length sc] 30)).alloc (.cells #[.string ⟨#[]⟩, .slice none 0 0, .slice none 0 0, .slice none 0 0] 30) = W at HRL HPL HB0 HZ HAT ⊢
  have hsl := fun (k i m : Int) (a : Option Addr) (n c : Nat) (u : World) => sliceStep k i m a n c u
  go_wp2
  go_loopw [7, 8] (fun lv i wr => ∃ (n : Nat) (ga : Option Addr) (gc : Nat), n ≤ xs.length ∧ i = .int .i64 n ∧ lv = .slice ga (mvL xs fr tq n).length gc ∧ Hid (wr.ownsRow W.heap.size 40 4 (.slice ga (mvL xs fr tq n).length gc) (mvL xs fr tq n).length ((mvL xs fr tq n).flatMap SX.cells)) ∧ Hid (Below W.heap.size W wr)) (fun _ i _ => xs.length - (intOf i).toNat)
  case atStart => exact ⟨0, none, 0, Nat.zero_le _, rfl, rfl, World.ownsRow_nil _ _ _ _, Below.refl _ _⟩
  case round =>
    obtain ⟨n, ga, gc, hn, rfl, rfl, HO, HB⟩ := hrel
    have ls := load_stsP (RL.at (RL.below HRL.out HB.out) (j := 3) rfl)
    by_cases hlt : n < xs.length
    · have hlt' : (n : Int) < (xs.length : Int) := by omega
      have hn0 : (0 : Int) ≤ (n : Int) := by omega
      have hf' : (fr : Int) < (xs.length : Int) := by omega
      have hf0 : (0 : Int) ≤ (fr : Int) := by omega
      obtain ⟨g, off, rfl, hg, hr⟩ := HAT.out (by omega)
      have hL32 : (mvL xs fr tq n).length ≤ 32 := by have := mvL_len xs fr tq n; omega
      obtain ⟨L, hL⟩ : ∃ L, L = mvL xs fr tq n := ⟨_, rfl⟩
      have HM : Hid (mvL xs fr tq (n + 1) = L ++ ((if n = tq then [atZ xs fr] else []) ++ (if n = fr then [] else [atZ xs n]))) := by rw [hL]; rfl
      rw [← hL] at HO hL32 ⊢
      clear hL
      have HLF : Hid (∀ u, Below W.heap.size W u → (loadVar 40 ⟨g, off + fr * 4, none⟩).run Tryd.prog u = .ok (.agg #[.int .i8 (atZ xs fr).s.k, .int .i64 (atZ xs fr).s.i, .int .u32 (atZ xs fr).s.m, .slice (atZ xs fr).a (atZ xs fr).s.g.length (atZ xs fr).c]) u) := fun u hu => load_stR (range_below (hr fr hf) hu hg) rfl
      have HLN : Hid (∀ u, Below W.heap.size W u → (loadVar 40 ⟨g, off + n * 4, none⟩).run Tryd.prog u = .ok (.agg #[.int .i8 (atZ xs n).s.k, .int .i64 (atZ xs n).s.i, .int .u32 (atZ xs n).s.m, .slice (atZ xs n).a (atZ xs n).s.g.length (atZ xs n).c]) u) := fun u hu => load_stR (range_below (hr n hlt) hu hg) rfl
      have HLS : Hid (∀ u, Below W.heap.size W u → (loadVar 28 ⟨w.heap.size, 3, none⟩).run Tryd.prog u = .ok (.slice (some ⟨g, off, none⟩) xs.length sc) u) := fun u hu => load_stsP (RL.at (RL.below HRL.out hu) (j := 3) rfl)
      generalize atZ xs fr = yf at HM HLF
      generalize atZ xs n = yn at HM HLN
      have hzw : W.heap.size ≤ wr.heap.size := HB.out.size
      clear hr hg ls
      by_cases h1 : n = tq
      · have h2 : ¬ n = fr := by have := HNE.out; omega
        have d1 : ((n : Int) == (tq : Int)) = true := by rw [beq_iff_eq]; omega
        have d2 : ((n : Int) != (fr : Int)) = true := by rw [bne_iff_ne]; omega
        rw [if_pos h1, if_neg h2] at HM
        have ls := HLS.out _ HB.out
        have lf := HLF.out _ HB.out
        obtain ⟨a6, c6, u2, hap, how, hgr⟩ := step_push yf HO.out hzw (by omega)
        obtain ⟨L1, hL1⟩ : ∃ L1, L1 = L ++ [yf] := ⟨_, rfl⟩
        rw [show L.length + 1 = L1.length by rw [hL1]; simp] at hap
        rw [← hL1] at how
        have hl1 : L1.length ≤ 33 := by rw [hL1]; simp; omega
        have hB2 : Below W.heap.size W u2 := (HB.out.trans ((belowA _).mono hzw)).grown hgr (by simp; omega) (fun i hi => (HO.out.lt i hi).1)
        have ls2 := HLS.out _ hB2
        have ln2 := HLN.out _ hB2
        obtain ⟨a7, c7, u3, hap2, how2, hgr2⟩ := step_push yn how hB2.size (by omega)
        have HB3 : Hid (Below W.heap.size W u3) := (hB2.trans ((belowA _).mono hB2.size)).grown hgr2 (by have := hB2.size; simp; omega) (fun i hi => (how.lt i hi).1)
        have HM2 : Hid (mvL xs fr tq (n + 1) = L1 ++ [yn]) := by
          show mvL xs fr tq (n + 1) = L1 ++ [yn]
          rw [HM.out, hL1]
          simp
        have HO3 := Lib.hid how2
        clear h1 h2 HM hgr how how2 hgr2 hL1 hB2 HO HB hzw HLS HLF HLN
        go_wp2
        go_roundw
        case rel => exact ⟨n + 1, a7, c7, by omega, by go_num, by rw [HM2.out]; simp, by show World.ownsRow _ _ _ _ _ _ _; rw [HM2.out]; exact HO3.out, HB3⟩
        case measure => simp [intOf]; omega
      · have d1 : ((n : Int) == (tq : Int)) = false := by rw [beq_eq_false_iff_ne]; omega
        rw [if_neg h1] at HM
        by_cases h2 : n = fr
        · have d2 : ((n : Int) != (fr : Int)) = false := by rw [bne_eq_false_iff_eq]; omega
          rw [if_pos h2] at HM
          have HM2 : Hid (mvL xs fr tq (n + 1) = L) := by
            show mvL xs fr tq (n + 1) = L
            rw [HM.out]
            simp
          have ls := HLS.out _ HB.out
          clear h1 h2 HM hzw HLS HLF HLN
          go_wp2
          go_roundw
          case rel => exact ⟨n + 1, ga, gc, by omega, by go_num, by rw [HM2.out], by show World.ownsRow _ _ _ _ _ _ _; rw [HM2.out]; exact HO.out, HB⟩
          case measure => simp [intOf]; omega
        · have d2 : ((n : Int) != (fr : Int)) = true := by rw [bne_iff_ne]; omega
          rw [if_neg h2] at HM
          have ls := HLS.out _ HB.out
          have ln := HLN.out _ HB.out
          obtain ⟨a6, c6, u2, hap, how, hgr⟩ := step_push yn HO.out hzw (by omega)
          have HB3 : Hid (Below W.heap.size W u2) := (HB.out.trans ((belowA _).mono hzw)).grown hgr (by simp; omega) (fun i hi => (HO.out.lt i hi).1)
          have HM2 : Hid (mvL xs fr tq (n + 1) = L ++ [yn]) := by
            show mvL xs fr tq (n + 1) = L ++ [yn]
            rw [HM.out]
            simp
          have HO3 := Lib.hid how
          clear h1 h2 HM hgr how HO HB hzw HLS HLF HLN
          go_wp2
          go_roundw
          case rel => exact ⟨n + 1, a6, c6, by omega, by go_num, by rw [HM2.out]; simp, by show World.ownsRow _ _ _ _ _ _ _; rw [HM2.out]; exact HO3.out, HB3⟩
          case measure => simp [intOf]; omega
    · obtain rfl : n = xs.length := by omega
      have lru := load_ruPl (RL.below HRL.out HB.out)
      have HP := Lib.hid (RL.below HPL.out HB.out)
      have v0 := HP.out.at (j := 0) rfl
      have v1 := HP.out.at (j := 1) rfl
      have v2 := HP.out.at (j := 2) rfl
      have v3 := HP.out.at (j := 3) rfl
      have f0 := World.rowIs.frozen HP.out 0
      have f1 := World.rowIs.frozen HP.out 1
      have f2 := World.rowIs.frozen HP.out 2
      have f3 := World.rowIs.frozen HP.out 3
      have HBW : Hid (Below w.heap.size w wr) := HB0.out.trans (HB.out.mono HB0.out.size)
      obtain ⟨M, hM⟩ : ∃ M, M = mvL xs fr tq xs.length := ⟨_, rfl⟩
      have HMM : Hid (∀ y ∈ M, y ∈ xs) := by rw [hM]; exact mvL_mem hf _ (Nat.le_refl _)
      rw [← hM] at HO ⊢
      have HMQ := Lib.hid hM
      clear hM
      go_wp2
      have hfin := pl4_rl HP.out pr ra rn rc ba bn bc ga M.length gc
      have hbf := pl4_below HBW.out (g := w.heap.size + 1) (by omega) pr ra rn rc ba bn bc ga M.length gc
      refine bodyPost_ret (rl_results Tryd.results9 (v := .agg #[.string pr, .slice ra rn rc, .slice ba bn bc, .slice ga M.length gc]) rfl (load_PlP hfin rfl)) rfl ?_
      rw [← HMQ.out]
      exact ⟨hbf, ga, gc, rfl, ls_own (own_pl4 HO.out (g := w.heap.size + 1) (by have := HZ.out; omega) _ _ _ _ _ _ _ _ _ _), fun y hy => (HX.out.each y (HMM.out y hy)).below hbf⟩
def pev10_takes : List (List Nat × Nat) := [([], 0), ([0], 1), ([0, 1], 2), ([0, 1, 2], 3), ([0, 1, 2, 3], 4), ([0, 1, 2, 3, 4], 5), ([0, 1, 2, 3, 4, 5], 6), ([0, 1, 2, 3, 4, 5, 6], 7), ([0, 1, 2, 3, 4, 5, 6, 7], 8), ([0, 1, 2, 3, 4, 5, 6, 7, 8], 9), ([0, 1, 2, 3, 4, 5, 6, 7, 8, 9], 10), ([0, 1, 2, 3, 4, 5, 6, 7, 8, 9, 10], 11), ([0, 1, 2, 3, 4, 5, 6, 7, 8, 9, 10, 11], 12), ([0, 1, 2, 3, 4, 5, 6, 7, 8, 9, 10, 11, 12], 13), ([0, 1, 2, 3, 4, 5, 6, 7, 8, 9, 10, 11, 12, 13], 14), ([0, 1, 2, 3, 4, 5, 6, 7, 8, 9, 10, 11, 12, 13, 14], 15), ([0, 1, 2, 3, 4, 5, 6, 7, 8, 9, 10, 11, 12, 13, 14, 15], 16), ([0, 1, 2, 3, 4, 5, 6, 7, 8, 9, 10, 11, 12, 13, 14, 15, 16], 17), ([0, 1, 2, 3, 4, 5, 6, 7, 8, 9, 10, 11, 12, 13, 14, 15, 16, 17], 18)]
set_option maxHeartbeats 3200000 in
theorem pev10 {ops : Array Oper} {Q : Exit → Act → World → Prop} {S : World → Prop} {a0 : Act} {w5 : World} {b3 b7 g2 f2 n c2 j k g3 f3 nb c3 : Nat}
    (q0 : isOpG ops 0 none (.fieldAddr 30 (.tmp 7) 1) (some 39))
    (q1 : isOpG ops 1 none (.load 28 (.tmp 39)) (some 40))
    (q2 : isOpG ops 2 none (.move (.tmp 10)) (some 41))
    (q3 : isOpG ops 3 none (.indexAddr 28 (.tmp 40) (.tmp 41)) (some 42))
    (q4 : isOpG ops 4 none (.fieldAddr 40 (.tmp 42) 1) (some 43))
    (q5 : isOpG ops 5 none (.load 3 (.tmp 43)) (some 44))
    (q6 : isOpG ops 6 none (.binOp .lss 3 (.tmp 44) (.const (.int .i64 0)) 3) (some 45))
    (q7 : isOpG ops 7 none (.move (.tmp 45)) (some 46))
    (q8 : isOpG ops 8 (some (7, false)) (.fieldAddr 30 (.tmp 7) 1) (some 47))
    (q9 : isOpG ops 9 (some (7, false)) (.load 28 (.tmp 47)) (some 48))
    (q10 : isOpG ops 10 (some (7, false)) (.move (.tmp 10)) (some 49))
    (q11 : isOpG ops 11 (some (7, false)) (.indexAddr 28 (.tmp 48) (.tmp 49)) (some 50))
    (q12 : isOpG ops 12 (some (7, false)) (.fieldAddr 40 (.tmp 50) 1) (some 51))
    (q13 : isOpG ops 13 (some (7, false)) (.load 3 (.tmp 51)) (some 52))
    (q14 : isOpG ops 14 (some (7, false)) (.fieldAddr 25 (.tmp 3) 2) (some 53))
    (q15 : isOpG ops 15 (some (7, false)) (.load 23 (.tmp 53)) (some 54))
    (q16 : isOpG ops 16 (some (7, false)) (.call { callee := .builtin .len, args := #[.tmp 54], argTypes := #[23] }) (some 55))
    (q17 : isOpG ops 17 (some (7, false)) (.binOp .geq 3 (.tmp 52) (.tmp 55) 3) (some 56))
    (q18 : isOpG ops 18 none (.pick (.tmp 46) (.const (.bool true)) (.tmp 56)) (some 57))
    (hs : Region.noSelect ops = true) (hq : (pev10_takes.all fun p => Region.free .any ops (LR 19 p.1) p.2 && (Region.ready .any ops (LR 19 p.1)).contains p.2) = true)
    (rend : Region.ready .any ops (LR 19 [0, 1, 2, 3, 4, 5, 6, 7, 8, 9, 10, 11, 12, 13, 14, 15, 16, 17, 18]) = [])
    (hQ : ∀ (d : Option Tmp) (v : Value) c a w, Q (.panic c) (a.put d v) w → Q (.panic c) a w)
    (hsz : 57 < a0.tmps.size) (e3 : a0.eval (.tmp 3) = .pointer (some ⟨b3, 0, none⟩)) (e7 : a0.eval (.tmp 7) = .pointer (some ⟨b7, 0, none⟩)) (e10 : a0.eval (.tmp 10) = .int .i64 (j : Int))
    (hS0 : S w5.drew)
    (hj : j < n) (LB : ∀ u, S u → (loadVar 28 ⟨b7, 3, none⟩).run Tryd.prog u = .ok (.slice (some ⟨g2, f2, none⟩) n c2) u) (LC : ∀ u, S u → (loadVar 3 ⟨g2, f2 + j * 4 + 1, none⟩).run Tryd.prog u = .ok (.int .i64 (k : Int)) u) (LD : ∀ u, S u → (loadVar 23 ⟨b3, 2, none⟩).run Tryd.prog u = .ok (.slice (some ⟨g3, f3, none⟩) nb c3) u) (E1 : ∀ u : World, (binOp .lss 3 (.int .i64 (k : Int)) (.int .i64 0)).run Tryd.prog u = .ok (.bool false) u) (E2 : ∀ u : World, (binOp .geq 3 (.int .i64 (k : Int)) (.int .i64 (nb : Int))).run Tryd.prog u = .ok (.bool false) u)
    (F : ∀ (wc : World), S wc → Q .normal (((((((((((((((((((a0.put (some 39) (.pointer (some ⟨b7, 3, none⟩))).put (some 40) (.slice (some ⟨g2, f2, none⟩) n c2)).put (some 41) (.int .i64 (j : Int))).put (some 42) (.pointer (some ⟨g2, f2 + j * 4, none⟩))).put (some 43) (.pointer (some ⟨g2, f2 + j * 4 + 1, none⟩))).put (some 44) (.int .i64 (k : Int))).put (some 45) (.bool false)).put (some 46) (.bool false)).put (some 47) (.pointer (some ⟨b7, 3, none⟩))).put (some 48) (.slice (some ⟨g2, f2, none⟩) n c2)).put (some 49) (.int .i64 (j : Int))).put (some 50) (.pointer (some ⟨g2, f2 + j * 4, none⟩))).put (some 51) (.pointer (some ⟨g2, f2 + j * 4 + 1, none⟩))).put (some 52) (.int .i64 (k : Int))).put (some 53) (.pointer (some ⟨b3, 2, none⟩))).put (some 54) (.slice (some ⟨g3, f3, none⟩) nb c3)).put (some 55) (.int .i64 (nb : Int))).put (some 56) (.bool false)).put (some 57) (.bool false)) wc) :
    wpAnyH Tryd.prog .any ops Q S 19 (LR 19 []) a0 w5.drew := by
  have hall : ∀ p ∈ pev10_takes, Region.free .any ops (LR 19 p.1) p.2 = true ∧ (Region.ready .any ops (LR 19 p.1)).contains p.2 = true := by
    intro p hp
    have := List.all_eq_true.1 hq p hp
    simpa using this
  unfold pev10_takes at hall
  obtain ⟨og7, hog7, _, _, dog7⟩ := isOpG_out q7
  obtain ⟨o0, ho, hg, hop, hd⟩ := isOpG_out q0
  have hfr := hall ([], 0) (by simp)
  refine wpAnyH_take (listed := LR 19 []) (v := .pointer (some ⟨b7, 3, none⟩)) ho hs hfr.1 hfr.2 (hQ _ _) (Or.inl ⟨(wantedN hg), fun w' hS => run_fldPn1 _ _ hop w' (by (repeat rw [eval_far _ _ (by decide)]); exact e7)⟩) hS0 ?_
  rw [hd, ← LR_snoc]
  clear ho hg hop hd hfr
  obtain ⟨o1, ho, hg, hop, hd⟩ := isOpG_out q1
  have hfr := hall ([0], 1) (by simp)
  refine wpAnyH_take (listed := LR 19 [0]) (v := .slice (some ⟨g2, f2, none⟩) n c2) ho hs hfr.1 hfr.2 (hQ _ _) (Or.inl ⟨(wantedN hg), fun w' hS => run_loadG _ _ hop w' (by (repeat (first | rw [eval_same _ _ (by (try simp only [put_size]); omega)] | rw [eval_far _ _ (by decide)]))) (LB _ hS)⟩) hS0 ?_
  rw [hd, ← LR_snoc]
  clear ho hg hop hd hfr
  obtain ⟨o2, ho, hg, hop, hd⟩ := isOpG_out q2
  have hfr := hall ([0, 1], 2) (by simp)
  refine wpAnyH_take (listed := LR 19 [0, 1]) (v := .int .i64 (j : Int)) ho hs hfr.1 hfr.2 (hQ _ _) (Or.inl ⟨(wantedN hg), fun w' hS => run_move _ _ hop w' (by (repeat rw [eval_far _ _ (by decide)]); exact e10)⟩) hS0 ?_
  rw [hd, ← LR_snoc]
  clear ho hg hop hd hfr
  obtain ⟨o3, ho, hg, hop, hd⟩ := isOpG_out q3
  have hfr := hall ([0, 1, 2], 3) (by simp)
  refine wpAnyH_take (listed := LR 19 [0, 1, 2]) (v := .pointer (some ⟨g2, f2 + j * 4, none⟩)) ho hs hfr.1 hfr.2 (hQ _ _) (Or.inl ⟨(wantedN hg), fun w' hS => run_idxZ _ _ hop w' (by (repeat (first | rw [eval_same _ _ (by (try simp only [put_size]); omega)] | rw [eval_far _ _ (by decide)]))) (by (repeat (first | rw [eval_same _ _ (by (try simp only [put_size]); omega)] | rw [eval_far _ _ (by decide)]))) hj⟩) hS0 ?_
  rw [hd, ← LR_snoc]
  clear ho hg hop hd hfr
  obtain ⟨o4, ho, hg, hop, hd⟩ := isOpG_out q4
  have hfr := hall ([0, 1, 2, 3], 4) (by simp)
  refine wpAnyH_take (listed := LR 19 [0, 1, 2, 3]) (v := .pointer (some ⟨g2, f2 + j * 4 + 1, none⟩)) ho hs hfr.1 hfr.2 (hQ _ _) (Or.inl ⟨(wantedN hg), fun w' hS => run_fldZ1 _ _ hop w' (by (repeat (first | rw [eval_same _ _ (by (try simp only [put_size]); omega)] | rw [eval_far _ _ (by decide)])))⟩) hS0 ?_
  rw [hd, ← LR_snoc]
  clear ho hg hop hd hfr
  obtain ⟨o5, ho, hg, hop, hd⟩ := isOpG_out q5
  have hfr := hall ([0, 1, 2, 3, 4], 5) (by simp)
  refine wpAnyH_take (listed := LR 19 [0, 1, 2, 3, 4]) (v := .int .i64 (k : Int)) ho hs hfr.1 hfr.2 (hQ _ _) (Or.inl ⟨(wantedN hg), fun w' hS => run_loadG _ _ hop w' (by (repeat (first | rw [eval_same _ _ (by (try simp only [put_size]); omega)] | rw [eval_far _ _ (by decide)]))) (LC _ hS)⟩) hS0 ?_
  rw [hd, ← LR_snoc]
  clear ho hg hop hd hfr
  obtain ⟨o6, ho, hg, hop, hd⟩ := isOpG_out q6
  have hfr := hall ([0, 1, 2, 3, 4, 5], 6) (by simp)
  refine wpAnyH_take (listed := LR 19 [0, 1, 2, 3, 4, 5]) (v := .bool false) ho hs hfr.1 hfr.2 (hQ _ _) (Or.inl ⟨(wantedN hg), fun w' hS => run_binV _ _ hop w' (by (repeat (first | rw [eval_same _ _ (by (try simp only [put_size]); omega)] | rw [eval_far _ _ (by decide)]))) rfl (by first | rfl | go_simp) (E1 w')⟩) hS0 ?_
  rw [hd, ← LR_snoc]
  clear ho hg hop hd hfr
  obtain ⟨o7, ho, hg, hop, hd⟩ := isOpG_out q7
  have hfr := hall ([0, 1, 2, 3, 4, 5, 6], 7) (by simp)
  refine wpAnyH_take (listed := LR 19 [0, 1, 2, 3, 4, 5, 6]) (v := .bool false) ho hs hfr.1 hfr.2 (hQ _ _) (Or.inl ⟨(wantedN hg), fun w' hS => run_move _ _ hop w' (by (repeat (first | rw [eval_same _ _ (by (try simp only [put_size]); omega)] | rw [eval_far _ _ (by decide)])))⟩) hS0 ?_
  rw [hd, ← LR_snoc]
  clear ho hg hop hd hfr
  obtain ⟨o8, ho, hg, hop, hd⟩ := isOpG_out q8
  have hfr := hall ([0, 1, 2, 3, 4, 5, 6, 7], 8) (by simp)
  refine wpAnyH_take (listed := LR 19 [0, 1, 2, 3, 4, 5, 6, 7]) (v := .pointer (some ⟨b7, 3, none⟩)) ho hs hfr.1 hfr.2 (hQ _ _) (Or.inl ⟨((wantedB hog7 dog7 hg (by (repeat (first | rw [tmps_same _ _ (by (try simp only [put_size]); omega)] | rw [tmps_far _ _ (by decide)])))).trans (by decide)), fun w' hS => run_fldPn1 _ _ hop w' (by (repeat rw [eval_far _ _ (by decide)]); exact e7)⟩) hS0 ?_
  rw [hd, ← LR_snoc]
  clear ho hg hop hd hfr
  obtain ⟨o9, ho, hg, hop, hd⟩ := isOpG_out q9
  have hfr := hall ([0, 1, 2, 3, 4, 5, 6, 7, 8], 9) (by simp)
  refine wpAnyH_take (listed := LR 19 [0, 1, 2, 3, 4, 5, 6, 7, 8]) (v := .slice (some ⟨g2, f2, none⟩) n c2) ho hs hfr.1 hfr.2 (hQ _ _) (Or.inl ⟨((wantedB hog7 dog7 hg (by (repeat (first | rw [tmps_same _ _ (by (try simp only [put_size]); omega)] | rw [tmps_far _ _ (by decide)])))).trans (by decide)), fun w' hS => run_loadG _ _ hop w' (by (repeat (first | rw [eval_same _ _ (by (try simp only [put_size]); omega)] | rw [eval_far _ _ (by decide)]))) (LB _ hS)⟩) hS0 ?_
  rw [hd, ← LR_snoc]
  clear ho hg hop hd hfr
  obtain ⟨o10, ho, hg, hop, hd⟩ := isOpG_out q10
  have hfr := hall ([0, 1, 2, 3, 4, 5, 6, 7, 8, 9], 10) (by simp)
  refine wpAnyH_take (listed := LR 19 [0, 1, 2, 3, 4, 5, 6, 7, 8, 9]) (v := .int .i64 (j : Int)) ho hs hfr.1 hfr.2 (hQ _ _) (Or.inl ⟨((wantedB hog7 dog7 hg (by (repeat (first | rw [tmps_same _ _ (by (try simp only [put_size]); omega)] | rw [tmps_far _ _ (by decide)])))).trans (by decide)), fun w' hS => run_move _ _ hop w' (by (repeat rw [eval_far _ _ (by decide)]); exact e10)⟩) hS0 ?_
  rw [hd, ← LR_snoc]
  clear ho hg hop hd hfr
  obtain ⟨o11, ho, hg, hop, hd⟩ := isOpG_out q11
  have hfr := hall ([0, 1, 2, 3, 4, 5, 6, 7, 8, 9, 10], 11) (by simp)
  refine wpAnyH_take (listed := LR 19 [0, 1, 2, 3, 4, 5, 6, 7, 8, 9, 10]) (v := .pointer (some ⟨g2, f2 + j * 4, none⟩)) ho hs hfr.1 hfr.2 (hQ _ _) (Or.inl ⟨((wantedB hog7 dog7 hg (by (repeat (first | rw [tmps_same _ _ (by (try simp only [put_size]); omega)] | rw [tmps_far _ _ (by decide)])))).trans (by decide)), fun w' hS => run_idxZ _ _ hop w' (by (repeat (first | rw [eval_same _ _ (by (try simp only [put_size]); omega)] | rw [eval_far _ _ (by decide)]))) (by (repeat (first | rw [eval_same _ _ (by (try simp only [put_size]); omega)] | rw [eval_far _ _ (by decide)]))) hj⟩) hS0 ?_
  rw [hd, ← LR_snoc]
  clear ho hg hop hd hfr
  obtain ⟨o12, ho, hg, hop, hd⟩ := isOpG_out q12
  have hfr := hall ([0, 1, 2, 3, 4, 5, 6, 7, 8, 9, 10, 11], 12) (by simp)
  refine wpAnyH_take (listed := LR 19 [0, 1, 2, 3, 4, 5, 6, 7, 8, 9, 10, 11]) (v := .pointer (some ⟨g2, f2 + j * 4 + 1, none⟩)) ho hs hfr.1 hfr.2 (hQ _ _) (Or.inl ⟨((wantedB hog7 dog7 hg (by (repeat (first | rw [tmps_same _ _ (by (try simp only [put_size]); omega)] | rw [tmps_far _ _ (by decide)])))).trans (by decide)), fun w' hS => run_fldZ1 _ _ hop w' (by (repeat (first | rw [eval_same _ _ (by (try simp only [put_size]); omega)] | rw [eval_far _ _ (by decide)])))⟩) hS0 ?_
  rw [hd, ← LR_snoc]
  clear ho hg hop hd hfr
  obtain ⟨o13, ho, hg, hop, hd⟩ := isOpG_out q13
  have hfr := hall ([0, 1, 2, 3, 4, 5, 6, 7, 8, 9, 10, 11, 12], 13) (by simp)
  refine wpAnyH_take (listed := LR 19 [0, 1, 2, 3, 4, 5, 6, 7, 8, 9, 10, 11, 12]) (v := .int .i64 (k : Int)) ho hs hfr.1 hfr.2 (hQ _ _) (Or.inl ⟨((wantedB hog7 dog7 hg (by (repeat (first | rw [tmps_same _ _ (by (try simp only [put_size]); omega)] | rw [tmps_far _ _ (by decide)])))).trans (by decide)), fun w' hS => run_loadG _ _ hop w' (by (repeat (first | rw [eval_same _ _ (by (try simp only [put_size]); omega)] | rw [eval_far _ _ (by decide)]))) (LC _ hS)⟩) hS0 ?_
  rw [hd, ← LR_snoc]
  clear ho hg hop hd hfr
  obtain ⟨o14, ho, hg, hop, hd⟩ := isOpG_out q14
  have hfr := hall ([0, 1, 2, 3, 4, 5, 6, 7, 8, 9, 10, 11, 12, 13], 14) (by simp)
  refine wpAnyH_take (listed := LR 19 [0, 1, 2, 3, 4, 5, 6, 7, 8, 9, 10, 11, 12, 13]) (v := .pointer (some ⟨b3, 2, none⟩)) ho hs hfr.1 hfr.2 (hQ _ _) (Or.inl ⟨((wantedB hog7 dog7 hg (by (repeat (first | rw [tmps_same _ _ (by (try simp only [put_size]); omega)] | rw [tmps_far _ _ (by decide)])))).trans (by decide)), fun w' hS => run_fldRu2 _ _ hop w' (by (repeat rw [eval_far _ _ (by decide)]); exact e3)⟩) hS0 ?_
  rw [hd, ← LR_snoc]
  clear ho hg hop hd hfr
  obtain ⟨o15, ho, hg, hop, hd⟩ := isOpG_out q15
  have hfr := hall ([0, 1, 2, 3, 4, 5, 6, 7, 8, 9, 10, 11, 12, 13, 14], 15) (by simp)
  refine wpAnyH_take (listed := LR 19 [0, 1, 2, 3, 4, 5, 6, 7, 8, 9, 10, 11, 12, 13, 14]) (v := .slice (some ⟨g3, f3, none⟩) nb c3) ho hs hfr.1 hfr.2 (hQ _ _) (Or.inl ⟨((wantedB hog7 dog7 hg (by (repeat (first | rw [tmps_same _ _ (by (try simp only [put_size]); omega)] | rw [tmps_far _ _ (by decide)])))).trans (by decide)), fun w' hS => run_loadG _ _ hop w' (by (repeat (first | rw [eval_same _ _ (by (try simp only [put_size]); omega)] | rw [eval_far _ _ (by decide)]))) (LD _ hS)⟩) hS0 ?_
  rw [hd, ← LR_snoc]
  clear ho hg hop hd hfr
  obtain ⟨o16, ho, hg, hop, hd⟩ := isOpG_out q16
  have hfr := hall ([0, 1, 2, 3, 4, 5, 6, 7, 8, 9, 10, 11, 12, 13, 14, 15], 16) (by simp)
  refine wpAnyH_take (listed := LR 19 [0, 1, 2, 3, 4, 5, 6, 7, 8, 9, 10, 11, 12, 13, 14, 15]) (v := .int .i64 (nb : Int)) ho hs hfr.1 hfr.2 (hQ _ _) (Or.inl ⟨((wantedB hog7 dog7 hg (by (repeat (first | rw [tmps_same _ _ (by (try simp only [put_size]); omega)] | rw [tmps_far _ _ (by decide)])))).trans (by decide)), fun w' hS => run_lenLt _ _ hop w' (by (repeat (first | rw [eval_same _ _ (by (try simp only [put_size]); omega)] | rw [eval_far _ _ (by decide)])))⟩) hS0 ?_
  rw [hd, ← LR_snoc]
  clear ho hg hop hd hfr
  obtain ⟨o17, ho, hg, hop, hd⟩ := isOpG_out q17
  have hfr := hall ([0, 1, 2, 3, 4, 5, 6, 7, 8, 9, 10, 11, 12, 13, 14, 15, 16], 17) (by simp)
  refine wpAnyH_take (listed := LR 19 [0, 1, 2, 3, 4, 5, 6, 7, 8, 9, 10, 11, 12, 13, 14, 15, 16]) (v := .bool false) ho hs hfr.1 hfr.2 (hQ _ _) (Or.inl ⟨((wantedB hog7 dog7 hg (by (repeat (first | rw [tmps_same _ _ (by (try simp only [put_size]); omega)] | rw [tmps_far _ _ (by decide)])))).trans (by decide)), fun w' hS => run_binV _ _ hop w' (by (repeat (first | rw [eval_same _ _ (by (try simp only [put_size]); omega)] | rw [eval_far _ _ (by decide)]))) (by (repeat (first | rw [eval_same _ _ (by (try simp only [put_size]); omega)] | rw [eval_far _ _ (by decide)]))) (by first | rfl | go_simp) (E2 w')⟩) hS0 ?_
  rw [hd, ← LR_snoc]
  clear ho hg hop hd hfr
  obtain ⟨o18, ho, hg, hop, hd⟩ := isOpG_out q18
  have hfr := hall ([0, 1, 2, 3, 4, 5, 6, 7, 8, 9, 10, 11, 12, 13, 14, 15, 16, 17], 18) (by simp)
  refine wpAnyH_take (listed := LR 19 [0, 1, 2, 3, 4, 5, 6, 7, 8, 9, 10, 11, 12, 13, 14, 15, 16, 17]) (v := .bool false) ho hs hfr.1 hfr.2 (hQ _ _) (Or.inl ⟨(wantedN hg), fun w' hS => run_pickF _ _ hop w' (by (repeat (first | rw [eval_same _ _ (by (try simp only [put_size]); omega)] | rw [eval_far _ _ (by decide)]))) (by (repeat (first | rw [eval_same _ _ (by (try simp only [put_size]); omega)] | rw [eval_far _ _ (by decide)])))⟩) hS0 ?_
  rw [hd, ← LR_snoc]
  clear ho hg hop hd hfr
  exact wpAnyH_done rend (F _ hS0) _
def pev12_takes : List (List Nat × Nat) := [([], 0), ([0], 1), ([0, 1], 2), ([0, 1, 2], 3), ([0, 1, 2, 3], 4), ([0, 1, 2, 3, 4], 5), ([0, 1, 2, 3, 4, 5], 6), ([0, 1, 2, 3, 4, 5, 6], 7), ([0, 1, 2, 3, 4, 5, 6, 7], 8), ([0, 1, 2, 3, 4, 5, 6, 7, 8], 9), ([0, 1, 2, 3, 4, 5, 6, 7, 8, 9], 10), ([0, 1, 2, 3, 4, 5, 6, 7, 8, 9, 10], 11), ([0, 1, 2, 3, 4, 5, 6, 7, 8, 9, 10, 11], 12)]
set_option maxHeartbeats 3200000 in
theorem pev12 {ops : Array Oper} {Q : Exit → Act → World → Prop} {S : World → Prop} {a0 : Act} {w5 : World} {b3 b7 g2 f2 n c2 j k g3 f3 nb c3 : Nat} {kd : Int} {pb : Bool}
    (q0 : isOpG ops 0 none (.fieldAddr 25 (.tmp 3) 2) (some 58))
    (q1 : isOpG ops 1 none (.load 23 (.tmp 58)) (some 59))
    (q2 : isOpG ops 2 none (.fieldAddr 30 (.tmp 7) 1) (some 60))
    (q3 : isOpG ops 3 none (.load 28 (.tmp 60)) (some 61))
    (q4 : isOpG ops 4 none (.move (.tmp 10)) (some 62))
    (q5 : isOpG ops 5 none (.indexAddr 28 (.tmp 61) (.tmp 62)) (some 63))
    (q6 : isOpG ops 6 none (.fieldAddr 40 (.tmp 63) 1) (some 64))
    (q7 : isOpG ops 7 none (.load 3 (.tmp 64)) (some 65))
    (q8 : isOpG ops 8 none (.indexAddr 23 (.tmp 59) (.tmp 65)) (some 66))
    (q9 : isOpG ops 9 none (.fieldAddr 56 (.tmp 66) 0) (some 67))
    (q10 : isOpG ops 10 none (.load 41 (.tmp 67)) (some 68))
    (q11 : isOpG ops 11 none (.binOp .eql 41 (.tmp 68) (.const (.int .i8 1)) 41) (some 69))
    (q12 : isOpG ops 12 none (.assign (.tmp 69)) (some 11))
    (hs : Region.noSelect ops = true) (hq : (pev12_takes.all fun p => Region.free .any ops (LR 13 p.1) p.2 && (Region.ready .any ops (LR 13 p.1)).contains p.2) = true)
    (rend : Region.ready .any ops (LR 13 [0, 1, 2, 3, 4, 5, 6, 7, 8, 9, 10, 11, 12]) = [])
    (hQ : ∀ (d : Option Tmp) (v : Value) c a w, Q (.panic c) (a.put d v) w → Q (.panic c) a w)
    (hsz : 69 < a0.tmps.size) (e3 : a0.eval (.tmp 3) = .pointer (some ⟨b3, 0, none⟩)) (e7 : a0.eval (.tmp 7) = .pointer (some ⟨b7, 0, none⟩)) (e10 : a0.eval (.tmp 10) = .int .i64 (j : Int))
    (hS0 : S w5.drew)
    (hj : j < n) (hk : k < nb) (LB : ∀ u, S u → (loadVar 28 ⟨b7, 3, none⟩).run Tryd.prog u = .ok (.slice (some ⟨g2, f2, none⟩) n c2) u) (LC : ∀ u, S u → (loadVar 3 ⟨g2, f2 + j * 4 + 1, none⟩).run Tryd.prog u = .ok (.int .i64 (k : Int)) u) (LD : ∀ u, S u → (loadVar 23 ⟨b3, 2, none⟩).run Tryd.prog u = .ok (.slice (some ⟨g3, f3, none⟩) nb c3) u) (LK : ∀ u, S u → (loadVar 41 ⟨g3, f3 + k * 16, none⟩).run Tryd.prog u = .ok (.int .i8 kd) u) (EK : ∀ u : World, (binOp .eql 41 (.int .i8 kd) (.int .i8 1)).run Tryd.prog u = .ok (.bool pb) u)
    (F : ∀ (wc : World), S wc → Q .normal (((((((((((((a0.put (some 58) (.pointer (some ⟨b3, 2, none⟩))).put (some 59) (.slice (some ⟨g3, f3, none⟩) nb c3)).put (some 60) (.pointer (some ⟨b7, 3, none⟩))).put (some 61) (.slice (some ⟨g2, f2, none⟩) n c2)).put (some 62) (.int .i64 (j : Int))).put (some 63) (.pointer (some ⟨g2, f2 + j * 4, none⟩))).put (some 64) (.pointer (some ⟨g2, f2 + j * 4 + 1, none⟩))).put (some 65) (.int .i64 (k : Int))).put (some 66) (.pointer (some ⟨g3, f3 + k * 16, none⟩))).put (some 67) (.pointer (some ⟨g3, f3 + k * 16, none⟩))).put (some 68) (.int .i8 kd)).put (some 69) (.bool pb)).put (some 11) (.bool pb)) wc) :
    wpAnyH Tryd.prog .any ops Q S 13 (LR 13 []) a0 w5.drew := by
  have hall : ∀ p ∈ pev12_takes, Region.free .any ops (LR 13 p.1) p.2 = true ∧ (Region.ready .any ops (LR 13 p.1)).contains p.2 = true := by
    intro p hp
    have := List.all_eq_true.1 hq p hp
    simpa using this
  unfold pev12_takes at hall
  obtain ⟨o0, ho, hg, hop, hd⟩ := isOpG_out q0
  have hfr := hall ([], 0) (by simp)
  refine wpAnyH_take (listed := LR 13 []) (v := .pointer (some ⟨b3, 2, none⟩)) ho hs hfr.1 hfr.2 (hQ _ _) (Or.inl ⟨(wantedN hg), fun w' hS => run_fldRu2 _ _ hop w' (by (repeat rw [eval_far _ _ (by decide)]); exact e3)⟩) hS0 ?_
  rw [hd, ← LR_snoc]
  clear ho hg hop hd hfr
  obtain ⟨o1, ho, hg, hop, hd⟩ := isOpG_out q1
  have hfr := hall ([0], 1) (by simp)
  refine wpAnyH_take (listed := LR 13 [0]) (v := .slice (some ⟨g3, f3, none⟩) nb c3) ho hs hfr.1 hfr.2 (hQ _ _) (Or.inl ⟨(wantedN hg), fun w' hS => run_loadG _ _ hop w' (by (repeat (first | rw [eval_same _ _ (by (try simp only [put_size]); omega)] | rw [eval_far _ _ (by decide)]))) (LD _ hS)⟩) hS0 ?_
  rw [hd, ← LR_snoc]
  clear ho hg hop hd hfr
  obtain ⟨o2, ho, hg, hop, hd⟩ := isOpG_out q2
  have hfr := hall ([0, 1], 2) (by simp)
  refine wpAnyH_take (listed := LR 13 [0, 1]) (v := .pointer (some ⟨b7, 3, none⟩)) ho hs hfr.1 hfr.2 (hQ _ _) (Or.inl ⟨(wantedN hg), fun w' hS => run_fldPn1 _ _ hop w' (by (repeat rw [eval_far _ _ (by decide)]); exact e7)⟩) hS0 ?_
  rw [hd, ← LR_snoc]
  clear ho hg hop hd hfr
  obtain ⟨o3, ho, hg, hop, hd⟩ := isOpG_out q3
  have hfr := hall ([0, 1, 2], 3) (by simp)
  refine wpAnyH_take (listed := LR 13 [0, 1, 2]) (v := .slice (some ⟨g2, f2, none⟩) n c2) ho hs hfr.1 hfr.2 (hQ _ _) (Or.inl ⟨(wantedN hg), fun w' hS => run_loadG _ _ hop w' (by (repeat (first | rw [eval_same _ _ (by (try simp only [put_size]); omega)] | rw [eval_far _ _ (by decide)]))) (LB _ hS)⟩) hS0 ?_
  rw [hd, ← LR_snoc]
  clear ho hg hop hd hfr
  obtain ⟨o4, ho, hg, hop, hd⟩ := isOpG_out q4
  have hfr := hall ([0, 1, 2, 3], 4) (by simp)
  refine wpAnyH_take (listed := LR 13 [0, 1, 2, 3]) (v := .int .i64 (j : Int)) ho hs hfr.1 hfr.2 (hQ _ _) (Or.inl ⟨(wantedN hg), fun w' hS => run_move _ _ hop w' (by (repeat rw [eval_far _ _ (by decide)]); exact e10)⟩) hS0 ?_
  rw [hd, ← LR_snoc]
  clear ho hg hop hd hfr
  obtain ⟨o5, ho, hg, hop, hd⟩ := isOpG_out q5
  have hfr := hall ([0, 1, 2, 3, 4], 5) (by simp)
  refine wpAnyH_take (listed := LR 13 [0, 1, 2, 3, 4]) (v := .pointer (some ⟨g2, f2 + j * 4, none⟩)) ho hs hfr.1 hfr.2 (hQ _ _) (Or.inl ⟨(wantedN hg), fun w' hS => run_idxZ _ _ hop w' (by (repeat (first | rw [eval_same _ _ (by (try simp only [put_size]); omega)] | rw [eval_far _ _ (by decide)]))) (by (repeat (first | rw [eval_same _ _ (by (try simp only [put_size]); omega)] | rw [eval_far _ _ (by decide)]))) hj⟩) hS0 ?_
  rw [hd, ← LR_snoc]
  clear ho hg hop hd hfr
  obtain ⟨o6, ho, hg, hop, hd⟩ := isOpG_out q6
  have hfr := hall ([0, 1, 2, 3, 4, 5], 6) (by simp)
  refine wpAnyH_take (listed := LR 13 [0, 1, 2, 3, 4, 5]) (v := .pointer (some ⟨g2, f2 + j * 4 + 1, none⟩)) ho hs hfr.1 hfr.2 (hQ _ _) (Or.inl ⟨(wantedN hg), fun w' hS => run_fldZ1 _ _ hop w' (by (repeat (first | rw [eval_same _ _ (by (try simp only [put_size]); omega)] | rw [eval_far _ _ (by decide)])))⟩) hS0 ?_
  rw [hd, ← LR_snoc]
  clear ho hg hop hd hfr
  obtain ⟨o7, ho, hg, hop, hd⟩ := isOpG_out q7
  have hfr := hall ([0, 1, 2, 3, 4, 5, 6], 7) (by simp)
  refine wpAnyH_take (listed := LR 13 [0, 1, 2, 3, 4, 5, 6]) (v := .int .i64 (k : Int)) ho hs hfr.1 hfr.2 (hQ _ _) (Or.inl ⟨(wantedN hg), fun w' hS => run_loadG _ _ hop w' (by (repeat (first | rw [eval_same _ _ (by (try simp only [put_size]); omega)] | rw [eval_far _ _ (by decide)]))) (LC _ hS)⟩) hS0 ?_
  rw [hd, ← LR_snoc]
  clear ho hg hop hd hfr
  obtain ⟨o8, ho, hg, hop, hd⟩ := isOpG_out q8
  have hfr := hall ([0, 1, 2, 3, 4, 5, 6, 7], 8) (by simp)
  refine wpAnyH_take (listed := LR 13 [0, 1, 2, 3, 4, 5, 6, 7]) (v := .pointer (some ⟨g3, f3 + k * 16, none⟩)) ho hs hfr.1 hfr.2 (hQ _ _) (Or.inl ⟨(wantedN hg), fun w' hS => run_idxLt _ _ hop w' (by (repeat (first | rw [eval_same _ _ (by (try simp only [put_size]); omega)] | rw [eval_far _ _ (by decide)]))) (by (repeat (first | rw [eval_same _ _ (by (try simp only [put_size]); omega)] | rw [eval_far _ _ (by decide)]))) hk⟩) hS0 ?_
  rw [hd, ← LR_snoc]
  clear ho hg hop hd hfr
  obtain ⟨o9, ho, hg, hop, hd⟩ := isOpG_out q9
  have hfr := hall ([0, 1, 2, 3, 4, 5, 6, 7, 8], 9) (by simp)
  refine wpAnyH_take (listed := LR 13 [0, 1, 2, 3, 4, 5, 6, 7, 8]) (v := .pointer (some ⟨g3, f3 + k * 16, none⟩)) ho hs hfr.1 hfr.2 (hQ _ _) (Or.inl ⟨(wantedN hg), fun w' hS => run_fldLt0 _ _ hop w' (by (repeat (first | rw [eval_same _ _ (by (try simp only [put_size]); omega)] | rw [eval_far _ _ (by decide)])))⟩) hS0 ?_
  rw [hd, ← LR_snoc]
  clear ho hg hop hd hfr
  obtain ⟨o10, ho, hg, hop, hd⟩ := isOpG_out q10
  have hfr := hall ([0, 1, 2, 3, 4, 5, 6, 7, 8, 9], 10) (by simp)
  refine wpAnyH_take (listed := LR 13 [0, 1, 2, 3, 4, 5, 6, 7, 8, 9]) (v := .int .i8 kd) ho hs hfr.1 hfr.2 (hQ _ _) (Or.inl ⟨(wantedN hg), fun w' hS => run_loadG _ _ hop w' (by (repeat (first | rw [eval_same _ _ (by (try simp only [put_size]); omega)] | rw [eval_far _ _ (by decide)]))) (LK _ hS)⟩) hS0 ?_
  rw [hd, ← LR_snoc]
  clear ho hg hop hd hfr
  obtain ⟨o11, ho, hg, hop, hd⟩ := isOpG_out q11
  have hfr := hall ([0, 1, 2, 3, 4, 5, 6, 7, 8, 9, 10], 11) (by simp)
  refine wpAnyH_take (listed := LR 13 [0, 1, 2, 3, 4, 5, 6, 7, 8, 9, 10]) (v := .bool pb) ho hs hfr.1 hfr.2 (hQ _ _) (Or.inl ⟨(wantedN hg), fun w' hS => run_binV _ _ hop w' (by (repeat (first | rw [eval_same _ _ (by (try simp only [put_size]); omega)] | rw [eval_far _ _ (by decide)]))) rfl (by first | rfl | go_simp) (EK w')⟩) hS0 ?_
  rw [hd, ← LR_snoc]
  clear ho hg hop hd hfr
  obtain ⟨o12, ho, hg, hop, hd⟩ := isOpG_out q12
  have hfr := hall ([0, 1, 2, 3, 4, 5, 6, 7, 8, 9, 10, 11], 12) (by simp)
  refine wpAnyH_take (listed := LR 13 [0, 1, 2, 3, 4, 5, 6, 7, 8, 9, 10, 11]) (v := .bool pb) ho hs hfr.1 hfr.2 (hQ _ _) (Or.inl ⟨(wantedN hg), fun w' hS => run_assignV _ _ hop w' (by (repeat (first | rw [eval_same _ _ (by (try simp only [put_size]); omega)] | rw [eval_far _ _ (by decide)])))⟩) hS0 ?_
  rw [hd, ← LR_snoc]
  clear ho hg hop hd hfr
  exact wpAnyH_done rend (F _ hS0) _
end Go.Proofs.YteabclfhmapabaaDoor
