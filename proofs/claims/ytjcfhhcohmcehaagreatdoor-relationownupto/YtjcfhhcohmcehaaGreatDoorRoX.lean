import Derived.Test.YtjcfhhcohmcehaaGreatDoorRkX
import Derived.Test.YtjcfhhcohmcehaaGreatDoorRelSel3
import Derived.Test.YtjcfhhcohmcehaaGreatDoorRelSorted
import Derived.Test.YtjcfhhcohmcehaaGreatDoorRelCloneR
import Derived.Test.YtjcfhhcohmcehaaGreatDoorRelTurned
import Derived.Deep.QuietTactic
import Derived.BigQuiet
import Derived.Test.YtjcfhhcohmcehaaGreatDoorRgGen
namespace Go.Proofs.YtjcfhhcohmcehaaGreatDoor
open Go.RowKit Go.Maps
set_option linter.unusedVariables false
set_option linter.unusedSimpArgs false
attribute [local go_sem ↓] Go.wp_at_zero Go.wp_at_succ

theorem run_neqRowK {x y : List Int} (hx : RowOk x) (hy : RowOk y) (w : World) : (binOp .neq 27 (rowV x) (rowV y)).run Tryz.prog w = .ok (.bool (decide (x ≠ y))) w := by
  have h := run_eqRow hx hy w
  unfold rowV at h ⊢
  simp [binOp, run_underlying Tryz.underlying27, Result.andThen] at h ⊢
  revert h
  generalize (Op.equal _ _ _).run Tryz.prog w = R
  intro h
  cases R with
  | ok b u => simp at h ⊢; obtain ⟨rfl, rfl⟩ := h; simp
  | _ => simp at h
set_option maxRecDepth 100000 in
theorem geR (x y : Operand) (A B : Array Value) (u : World) : (eqGuard .neq 27 x y (.agg A) (.agg B)).run Tryz.prog u = .ok () u := by
  have h : Tryz.prog.eqGuardType Tryz.prog.depth 27 = false := by kernel_rfl
  unfold eqGuard
  simp [h, (show Sem.run Tryz.prog program u = .ok Tryz.prog u from rfl), Result.andThen]
set_option maxHeartbeats 3200000 in
theorem sameInts_same (v v' : Value) (l : List Nat) (w : World) (hm : l.length ≤ 1000000000) (h1 : BK.Ls w v l.length (l.map intN)) (h2 : BK.Ls w v' l.length (l.map intN)) :
    Calls Tryz.prog 9 #[v, v'] w fun r w' => r = .returned (.bool true) ∧ Below w.heap.size w w' := by
  obtain ⟨_, a, c, rfl, _, _, hk⟩ := h1
  obtain ⟨_, a', c', rfl, _, _, hk'⟩ := h2
  have HK := Lib.hid hk
  have HK' := Lib.hid hk'
  clear hk hk'
  go_enter Tryz.func9, Tryz.ntmps9
  go_wp2
  go_loopw [5] (fun i wr => ∃ k : Nat, k ≤ l.length ∧ i = .int .i64 k ∧ Below w.heap.size w wr) (fun i _ => l.length - (intOf i).toNat)
  case atStart => exact ⟨0, Nat.zero_le _, rfl, Below.refl _ _⟩
  case round =>
    obtain ⟨k, hk, rfl, bel⟩ := hrel
    by_cases hlt : k < l.length
    · have hlt' : (k : Int) < (l.length : Int) := by omega
      have hk0 : (0 : Int) ≤ (k : Int) := by omega
      obtain ⟨g, off, rfl, hg, hf⟩ := HK.out (by omega)
      obtain ⟨g', off', rfl, hg', hf'⟩ := HK'.out (by omega)
      have y0 : wr.cell? ⟨g, off + k, none⟩ = some (.int .i64 (l[k] : Int)) := by
        rw [bel.cell (p := ⟨g, off + k, none⟩) hg, hf k (by rw [List.length_map]; exact hlt), List.getElem_map]; rfl
      have z0 : wr.cell? ⟨g', off' + k, none⟩ = some (.int .i64 (l[k] : Int)) := by
        rw [bel.cell (p := ⟨g', off' + k, none⟩) hg', hf' k (by rw [List.length_map]; exact hlt), List.getElem_map]; rfl
      generalize (l[k] : Int) = q at y0 z0
      clear hf hf'
      go_wp2_with fail
      go_quiet (fail)
      go_wp2
      go_roundw
      case rel => exact ⟨k + 1, by omega, by go_num, BK.below_drewV bel _⟩
      case measure => simp [intOf]; omega
    · obtain rfl : k = l.length := by omega
      go_wp2
      go_ret
      exact ⟨rfl, bel⟩
attribute [-go_sem] loadVar
theorem flat_rows_at {w : World} {g off : Nat} {rs : List (List Int)} (hr : ∀ r ∈ rs, RowOk r) (hf : BK.Flat w g off (flatR rs)) {k : Nat} (hk : k < rs.length) : w.rangeAt g (off + k * 24) ((rs[k]).map cellI) := fun j v hv => by
  have hj : j < 24 := by
    have := (List.getElem?_eq_some_iff.1 hv).1
    rw [List.length_map, (hr _ (List.getElem_mem hk)).len] at this
    exact this
  have h1 := flat_row rs (fun r h => (hr r h).len) k j rs[k] (List.getElem?_eq_getElem hk) hj
  rw [hv] at h1
  obtain ⟨h2, h3⟩ := List.getElem?_eq_some_iff.1 h1
  have := hf _ h2
  rw [h3, ← Nat.add_assoc] at this
  exact this
set_option maxHeartbeats 3200000 in
theorem sameRows_same (v v' : Value) (rs : List (List Int)) (w : World) (hm : rs.length ≤ 1000000000) (hr : ∀ r ∈ rs, RowOk r) (h1 : BK.Ls w v rs.length (flatR rs)) (h2 : BK.Ls w v' rs.length (flatR rs)) :
    Calls Tryz.prog 10 #[v, v'] w fun r w' => r = .returned (.bool true) ∧ Below w.heap.size w w' := by
  obtain ⟨_, a, c, rfl, _, _, hk⟩ := h1
  obtain ⟨_, a', c', rfl, _, _, hk'⟩ := h2
  have HK := Lib.hid hk
  have HK' := Lib.hid hk'
  have HRO := Lib.hid hr
  clear hk hk' hr
  go_enter Tryz.func10, Tryz.ntmps10
  go_wp2
  go_loopw [5] (fun i wr => ∃ k : Nat, k ≤ rs.length ∧ i = .int .i64 k ∧ Below w.heap.size w wr) (fun i _ => rs.length - (intOf i).toNat)
  case atStart => exact ⟨0, Nat.zero_le _, rfl, Below.refl _ _⟩
  case round =>
    obtain ⟨k, hk, rfl, bel⟩ := hrel
    by_cases hlt : k < rs.length
    · have hlt' : (k : Int) < (rs.length : Int) := by omega
      have hk0 : (0 : Int) ≤ (k : Int) := by omega
      obtain ⟨g, off, rfl, hg, hf⟩ := HK.out (by omega)
      obtain ⟨g', off', rfl, hg', hf'⟩ := HK'.out (by omega)
      have hro := HRO.out _ (List.getElem_mem hlt)
      have l1 := fun n => run_loadTurn hro.len (BK.range_below (flat_rows_at HRO.out hf hlt) (BK.below_drewV bel n) hg)
      have l2 := fun n => run_loadTurn hro.len (BK.range_below (flat_rows_at HRO.out hf' hlt) (BK.below_drewV bel n) hg')
      have hq : ∀ u : World, (binOp .neq 27 (rowV rs[k]) (rowV rs[k])).run Tryz.prog u = .ok (.bool false) u := fun u => by
        have := run_neqRowK hro hro u
        simpa using this
      unfold rowV at l1 l2 hq
      have hge := fun x y u => geR x y (List.map cellI rs[k]).toArray (List.map cellI rs[k]).toArray u
      generalize rs[k] = rk at l1 l2 hq hge
      clear hf hf' hro
      go_wp2_with fail
      go_quiet (fail)
      go_wp2
      go_roundw
      case rel => exact ⟨k + 1, by omega, by go_num, BK.below_drewV bel _⟩
      case measure => simp [intOf]; omega
    · obtain rfl : k = rs.length := by omega
      go_wp2
      go_ret
      exact ⟨rfl, bel⟩
open Go.RowKit Go.Maps
set_option linter.unusedVariables false
set_option linter.unusedSimpArgs false

theorem run_loadO (ev : Operand → Value) (o : Oper) {ty : TypeId} {x : Operand} (hop : o.op = .load ty x) (w : World) {a : Addr} {v : Value} (hx : ev x = .pointer (some a)) (hl : (loadVar ty a).run Tryz.prog w = .ok v w) : (execOp ev o).run Tryz.prog w = .ok (.value v) w := by
  simp only [execOp, hop, hx]
  simp [Instr.loadAt, Instr.sureAddr, hl, Result.andThen]
theorem run_idxO (ev : Operand → Value) (o : Oper) {x y : Operand} (hop : o.op = .indexAddr 30 x y) (w : World) {g off n c k : Nat} (hx : ev x = .slice (some ⟨g, off, none⟩) n c) (hy : ev y = .int .i64 k) (hk : k < n) : (execOp ev o).run Tryz.prog w = .ok (.value (.pointer (some ⟨g, off + k * 24, none⟩))) w := by
  have h1 : (k : Int) < (n : Int) := by omega
  have h0 : (0 : Int) ≤ (k : Int) := by omega
  simp only [execOp, hop, hx, hy]
  go_simp
theorem ne_err (u : World) : (binOp .neq 74 (.int .i64 0) (.int .i64 0)).run Tryz.prog u = .ok (.bool false) u := by go_simp
def oreg6_takes : List (List Nat × Nat) := [([], 0), ([0], 1), ([0, 1], 2), ([0, 1, 2], 4), ([0, 1, 2, 4], 5), ([0, 1, 2, 4, 5], 6), ([0, 1, 2, 4, 5, 6], 8), ([0, 1, 2, 4, 5, 6, 8], 9), ([0, 1, 2, 4, 5, 6, 8, 9], 11), ([0, 1, 2, 4, 5, 6, 8, 9, 11], 12), ([0, 1, 2, 4, 5, 6, 8, 9, 11, 12], 13), ([0, 1, 2, 4, 5, 6, 8, 9, 11, 12, 13, 3, 7, 10, 14], 15), ([0, 1, 2, 4, 5, 6, 8, 9, 11, 12, 13, 3, 7, 10, 14, 15], 16), ([0, 1, 2, 4, 5, 6, 8, 9, 11, 12, 13, 3, 7, 10, 14, 15, 16], 17), ([0, 1, 2, 4, 5, 6, 8, 9, 11, 12, 13, 3, 7, 10, 14, 15, 16, 17], 18)]
set_option maxHeartbeats 3200000 in
theorem oreg6 {ops : Array Oper} {Q : Exit → Act → World → Prop} {S : World → Prop} {a0 : Act} {w5 : World} {t bx n1 n0 : Nat} {mk : Int} {X : Value} {ty1 ty2 ty3 ty4 : Array TypeId} (P1 P0 : World → World → Option Addr → Nat → Prop)
    (q0 : isOpG ops 0 none (.move (.tmp 7)) (some 33))
    (q1 : isOpG ops 1 none (.move (.tmp 1)) (some 34))
    (q2 : isOpG ops 2 none (.load 27 (.tmp 5)) (some 35))
    (q4 : isOpG ops 4 none (.move (.tmp 7)) (some 37))
    (q5 : isOpG ops 5 none (.move (.tmp 1)) (some 38))
    (q6 : isOpG ops 6 none (.load 27 (.tmp 5)) (some 39))
    (q8 : isOpG ops 8 none (.move (.tmp 7)) (some 41))
    (q9 : isOpG ops 9 none (.load 27 (.tmp 5)) (some 42))
    (q11 : isOpG ops 11 none (.move (.tmp 7)) (some 44))
    (q12 : isOpG ops 12 none (.move (.tmp 1)) (some 45))
    (q13 : isOpG ops 13 none (.load 27 (.tmp 5)) (some 46))
    (q3 : isOpG ops 3 none (.call { callee := .value (.func 6), args := #[.tmp 33, .tmp 34, .tmp 35], argTypes := ty1 }) (some 36))
    (q7 : isOpG ops 7 none (.call { callee := .value (.func 6), args := #[.tmp 37, .tmp 38, .tmp 39], argTypes := ty2 }) (some 40))
    (q10 : isOpG ops 10 none (.call { callee := .value (.func 6), args := #[.tmp 41, .const (.int .u32 0), .tmp 42], argTypes := ty3 }) (some 43))
    (q14 : isOpG ops 14 none (.call { callee := .value (.func 6), args := #[.tmp 44, .tmp 45, .tmp 46], argTypes := ty4 }) (some 47))
    (q15 : isOpG ops 15 none (.assign (.tmp 36)) (some 10))
    (q16 : isOpG ops 16 none (.assign (.tmp 40)) (some 11))
    (q17 : isOpG ops 17 none (.assign (.tmp 43)) (some 12))
    (q18 : isOpG ops 18 none (.assign (.tmp 47)) (some 13))
    (hs : Region.noSelect ops = true) (hq : (oreg6_takes.all fun p => Region.free .any ops (LR 19 p.1) p.2 && (Region.ready .any ops (LR 19 p.1)).contains p.2) = true)
    (r3 : Region.ready .any ops (LR 19 [0, 1, 2, 4, 5, 6, 8, 9, 11, 12, 13]) = [3])
    (r7 : Region.ready .any ops (LR 19 [0, 1, 2, 4, 5, 6, 8, 9, 11, 12, 13, 3]) = [7])
    (r10 : Region.ready .any ops (LR 19 [0, 1, 2, 4, 5, 6, 8, 9, 11, 12, 13, 3, 7]) = [10])
    (r14 : Region.ready .any ops (LR 19 [0, 1, 2, 4, 5, 6, 8, 9, 11, 12, 13, 3, 7, 10]) = [14])
    (rend : Region.ready .any ops (LR 19 [0, 1, 2, 4, 5, 6, 8, 9, 11, 12, 13, 3, 7, 10, 14, 15, 16, 17, 18]) = [])
    (hQ : ∀ (d : Option Tmp) (v : Value) c a w, Q (.panic c) (a.put d v) w → Q (.panic c) a w)
    (hsz : 47 < a0.tmps.size) (e7 : a0.eval (.tmp 7) = .pointer (some ⟨t, 0, none⟩)) (e1 : a0.eval (.tmp 1) = .int .u32 mk) (e5 : a0.eval (.tmp 5) = .pointer (some ⟨bx, 0, none⟩))
    (hS0 : S w5.drew)
    (keep : ∀ u u', S u → Below u.heap.size u u' → S u') (LX : ∀ u, S u → (loadVar 27 ⟨bx, 0, none⟩).run Tryz.prog u = .ok X u)
    (K1 : ∀ u, S u → Calls Tryz.prog 6 #[.pointer (some ⟨t, 0, none⟩), .int .u32 mk, X] u fun e w' => ∃ a c, e = .returned (.slice a n1 c) ∧ P1 u w' a c ∧ Below u.heap.size u w')
    (K0 : ∀ u, S u → Calls Tryz.prog 6 #[.pointer (some ⟨t, 0, none⟩), .int .u32 0, X] u fun e w' => ∃ a c, e = .returned (.slice a n0 c) ∧ P0 u w' a c ∧ Below u.heap.size u w')
    (F : ∀ (u1 u2 u3 wc : World) (a1 a2 a3 a4 : Option Addr) (c1 c2 c3 c4 : Nat), Below w5.heap.size w5 u1 → P1 w5.drew u1 a1 c1 → Below u1.heap.size u1 u2 → P1 u1 u2 a2 c2 → Below u2.heap.size u2 u3 → P0 u2 u3 a3 c3 → Below u3.heap.size u3 wc → P1 u3 wc a4 c4 → Q .normal (((((((((((((((((((a0.put (some 33) (.pointer (some ⟨t, 0, none⟩))).put (some 34) (.int .u32 mk)).put (some 35) (X)).put (some 37) (.pointer (some ⟨t, 0, none⟩))).put (some 38) (.int .u32 mk)).put (some 39) (X)).put (some 41) (.pointer (some ⟨t, 0, none⟩))).put (some 42) (X)).put (some 44) (.pointer (some ⟨t, 0, none⟩))).put (some 45) (.int .u32 mk)).put (some 46) (X)).put (some 36) (.slice a1 n1 c1)).put (some 40) (.slice a2 n1 c2)).put (some 43) (.slice a3 n0 c3)).put (some 47) (.slice a4 n1 c4)).put (some 10) (.slice a1 n1 c1)).put (some 11) (.slice a2 n1 c2)).put (some 12) (.slice a3 n0 c3)).put (some 13) (.slice a4 n1 c4)) wc) :
    wpAnyH Tryz.prog .any ops Q S 19 (LR 19 []) a0 w5.drew := by
  have hall : ∀ p ∈ oreg6_takes, Region.free .any ops (LR 19 p.1) p.2 = true ∧ (Region.ready .any ops (LR 19 p.1)).contains p.2 = true := by
    intro p hp
    have := List.all_eq_true.1 hq p hp
    simpa using this
  unfold oreg6_takes at hall
  obtain ⟨o0, ho, hg, hop, hd⟩ := isOpG_out q0
  have hfr := hall ([], 0) (by simp)
  refine wpAnyH_take (listed := LR 19 []) (v := .pointer (some ⟨t, 0, none⟩)) ho hs hfr.1 hfr.2 (hQ _ _) (Or.inl ⟨(wantedN hg), fun w' hS => run_move _ _ hop w' (by (repeat rw [eval_far _ _ (by decide)]); exact e7)⟩) hS0 ?_
  rw [hd, ← LR_snoc]
  clear ho hg hop hd hfr
  obtain ⟨o1, ho, hg, hop, hd⟩ := isOpG_out q1
  have hfr := hall ([0], 1) (by simp)
  refine wpAnyH_take (listed := LR 19 [0]) (v := .int .u32 mk) ho hs hfr.1 hfr.2 (hQ _ _) (Or.inl ⟨(wantedN hg), fun w' hS => run_move _ _ hop w' (by (repeat rw [eval_far _ _ (by decide)]); exact e1)⟩) hS0 ?_
  rw [hd, ← LR_snoc]
  clear ho hg hop hd hfr
  obtain ⟨o2, ho, hg, hop, hd⟩ := isOpG_out q2
  have hfr := hall ([0, 1], 2) (by simp)
  refine wpAnyH_take (listed := LR 19 [0, 1]) (v := X) ho hs hfr.1 hfr.2 (hQ _ _) (Or.inl ⟨(wantedN hg), fun w' hS => run_loadO _ _ hop w' (by (repeat rw [eval_far _ _ (by decide)]); exact e5) (LX _ hS)⟩) hS0 ?_
  rw [hd, ← LR_snoc]
  clear ho hg hop hd hfr
  obtain ⟨o4, ho, hg, hop, hd⟩ := isOpG_out q4
  have hfr := hall ([0, 1, 2], 4) (by simp)
  refine wpAnyH_take (listed := LR 19 [0, 1, 2]) (v := .pointer (some ⟨t, 0, none⟩)) ho hs hfr.1 hfr.2 (hQ _ _) (Or.inl ⟨(wantedN hg), fun w' hS => run_move _ _ hop w' (by (repeat rw [eval_far _ _ (by decide)]); exact e7)⟩) hS0 ?_
  rw [hd, ← LR_snoc]
  clear ho hg hop hd hfr
  obtain ⟨o5, ho, hg, hop, hd⟩ := isOpG_out q5
  have hfr := hall ([0, 1, 2, 4], 5) (by simp)
  refine wpAnyH_take (listed := LR 19 [0, 1, 2, 4]) (v := .int .u32 mk) ho hs hfr.1 hfr.2 (hQ _ _) (Or.inl ⟨(wantedN hg), fun w' hS => run_move _ _ hop w' (by (repeat rw [eval_far _ _ (by decide)]); exact e1)⟩) hS0 ?_
  rw [hd, ← LR_snoc]
  clear ho hg hop hd hfr
  obtain ⟨o6, ho, hg, hop, hd⟩ := isOpG_out q6
  have hfr := hall ([0, 1, 2, 4, 5], 6) (by simp)
  refine wpAnyH_take (listed := LR 19 [0, 1, 2, 4, 5]) (v := X) ho hs hfr.1 hfr.2 (hQ _ _) (Or.inl ⟨(wantedN hg), fun w' hS => run_loadO _ _ hop w' (by (repeat rw [eval_far _ _ (by decide)]); exact e5) (LX _ hS)⟩) hS0 ?_
  rw [hd, ← LR_snoc]
  clear ho hg hop hd hfr
  obtain ⟨o8, ho, hg, hop, hd⟩ := isOpG_out q8
  have hfr := hall ([0, 1, 2, 4, 5, 6], 8) (by simp)
  refine wpAnyH_take (listed := LR 19 [0, 1, 2, 4, 5, 6]) (v := .pointer (some ⟨t, 0, none⟩)) ho hs hfr.1 hfr.2 (hQ _ _) (Or.inl ⟨(wantedN hg), fun w' hS => run_move _ _ hop w' (by (repeat rw [eval_far _ _ (by decide)]); exact e7)⟩) hS0 ?_
  rw [hd, ← LR_snoc]
  clear ho hg hop hd hfr
  obtain ⟨o9, ho, hg, hop, hd⟩ := isOpG_out q9
  have hfr := hall ([0, 1, 2, 4, 5, 6, 8], 9) (by simp)
  refine wpAnyH_take (listed := LR 19 [0, 1, 2, 4, 5, 6, 8]) (v := X) ho hs hfr.1 hfr.2 (hQ _ _) (Or.inl ⟨(wantedN hg), fun w' hS => run_loadO _ _ hop w' (by (repeat rw [eval_far _ _ (by decide)]); exact e5) (LX _ hS)⟩) hS0 ?_
  rw [hd, ← LR_snoc]
  clear ho hg hop hd hfr
  obtain ⟨o11, ho, hg, hop, hd⟩ := isOpG_out q11
  have hfr := hall ([0, 1, 2, 4, 5, 6, 8, 9], 11) (by simp)
  refine wpAnyH_take (listed := LR 19 [0, 1, 2, 4, 5, 6, 8, 9]) (v := .pointer (some ⟨t, 0, none⟩)) ho hs hfr.1 hfr.2 (hQ _ _) (Or.inl ⟨(wantedN hg), fun w' hS => run_move _ _ hop w' (by (repeat rw [eval_far _ _ (by decide)]); exact e7)⟩) hS0 ?_
  rw [hd, ← LR_snoc]
  clear ho hg hop hd hfr
  obtain ⟨o12, ho, hg, hop, hd⟩ := isOpG_out q12
  have hfr := hall ([0, 1, 2, 4, 5, 6, 8, 9, 11], 12) (by simp)
  refine wpAnyH_take (listed := LR 19 [0, 1, 2, 4, 5, 6, 8, 9, 11]) (v := .int .u32 mk) ho hs hfr.1 hfr.2 (hQ _ _) (Or.inl ⟨(wantedN hg), fun w' hS => run_move _ _ hop w' (by (repeat rw [eval_far _ _ (by decide)]); exact e1)⟩) hS0 ?_
  rw [hd, ← LR_snoc]
  clear ho hg hop hd hfr
  obtain ⟨o13, ho, hg, hop, hd⟩ := isOpG_out q13
  have hfr := hall ([0, 1, 2, 4, 5, 6, 8, 9, 11, 12], 13) (by simp)
  refine wpAnyH_take (listed := LR 19 [0, 1, 2, 4, 5, 6, 8, 9, 11, 12]) (v := X) ho hs hfr.1 hfr.2 (hQ _ _) (Or.inl ⟨(wantedN hg), fun w' hS => run_loadO _ _ hop w' (by (repeat rw [eval_far _ _ (by decide)]); exact e5) (LX _ hS)⟩) hS0 ?_
  rw [hd, ← LR_snoc]
  clear ho hg hop hd hfr
  refine wpAnyH_all r3 (by simp) ?_
  intro i hi
  obtain rfl := List.mem_singleton.1 hi
  obtain ⟨o3, ho, hg, hop, hd⟩ := isOpG_out q3
  have x3_0 : ((((((((((((a0.put (some 33) (.pointer (some ⟨t, 0, none⟩))).put (some 34) (.int .u32 mk)).put (some 35) (X)).put (some 37) (.pointer (some ⟨t, 0, none⟩))).put (some 38) (.int .u32 mk)).put (some 39) (X)).put (some 41) (.pointer (some ⟨t, 0, none⟩))).put (some 42) (X)).put (some 44) (.pointer (some ⟨t, 0, none⟩))).put (some 45) (.int .u32 mk)).put (some 46) (X))).eval (.tmp 33) = .pointer (some ⟨t, 0, none⟩) := (by (repeat (first | rw [eval_same _ _ (by (try simp only [put_size]); omega)] | rw [eval_far _ _ (by decide)])))
  have x3_1 : ((((((((((((a0.put (some 33) (.pointer (some ⟨t, 0, none⟩))).put (some 34) (.int .u32 mk)).put (some 35) (X)).put (some 37) (.pointer (some ⟨t, 0, none⟩))).put (some 38) (.int .u32 mk)).put (some 39) (X)).put (some 41) (.pointer (some ⟨t, 0, none⟩))).put (some 42) (X)).put (some 44) (.pointer (some ⟨t, 0, none⟩))).put (some 45) (.int .u32 mk)).put (some 46) (X))).eval (.tmp 34) = .int .u32 mk := (by (repeat (first | rw [eval_same _ _ (by (try simp only [put_size]); omega)] | rw [eval_far _ _ (by decide)])))
  have x3_2 : ((((((((((((a0.put (some 33) (.pointer (some ⟨t, 0, none⟩))).put (some 34) (.int .u32 mk)).put (some 35) (X)).put (some 37) (.pointer (some ⟨t, 0, none⟩))).put (some 38) (.int .u32 mk)).put (some 39) (X)).put (some 41) (.pointer (some ⟨t, 0, none⟩))).put (some 42) (X)).put (some 44) (.pointer (some ⟨t, 0, none⟩))).put (some 45) (.int .u32 mk)).put (some 46) (X))).eval (.tmp 35) = X := (by (repeat (first | rw [eval_same _ _ (by (try simp only [put_size]); omega)] | rw [eval_far _ _ (by decide)])))
  refine wpOp_callG ho (wantedN hg) (run_callV 6 Tryz.func6 (by kernel_rfl) (by kernel_rfl) #[.tmp 33, .tmp 34, .tmp 35] _ hop #[.pointer (some ⟨t, 0, none⟩), .int .u32 mk, X] (by simp only [List.map_toArray, List.map_cons, List.map_nil, x3_0, x3_1, x3_2])) ?_
  refine (K1 _ hS0).mono ?_
  rintro e u1 ⟨a1, c1, rfl, p1, b1⟩
  have hS3 := keep _ _ hS0 b1
  refine ⟨_, rfl, hS3, ?_⟩
  rw [hd]
  clear ho hg hop hd
  rw [← LR_snoc]
  refine wpAnyH_all r7 (by simp) ?_
  intro i hi
  obtain rfl := List.mem_singleton.1 hi
  obtain ⟨o7, ho, hg, hop, hd⟩ := isOpG_out q7
  have x7_0 : (((((((((((((a0.put (some 33) (.pointer (some ⟨t, 0, none⟩))).put (some 34) (.int .u32 mk)).put (some 35) (X)).put (some 37) (.pointer (some ⟨t, 0, none⟩))).put (some 38) (.int .u32 mk)).put (some 39) (X)).put (some 41) (.pointer (some ⟨t, 0, none⟩))).put (some 42) (X)).put (some 44) (.pointer (some ⟨t, 0, none⟩))).put (some 45) (.int .u32 mk)).put (some 46) (X)).put (some 36) (.slice a1 n1 c1))).eval (.tmp 37) = .pointer (some ⟨t, 0, none⟩) := (by (repeat (first | rw [eval_same _ _ (by (try simp only [put_size]); omega)] | rw [eval_far _ _ (by decide)])))
  have x7_1 : (((((((((((((a0.put (some 33) (.pointer (some ⟨t, 0, none⟩))).put (some 34) (.int .u32 mk)).put (some 35) (X)).put (some 37) (.pointer (some ⟨t, 0, none⟩))).put (some 38) (.int .u32 mk)).put (some 39) (X)).put (some 41) (.pointer (some ⟨t, 0, none⟩))).put (some 42) (X)).put (some 44) (.pointer (some ⟨t, 0, none⟩))).put (some 45) (.int .u32 mk)).put (some 46) (X)).put (some 36) (.slice a1 n1 c1))).eval (.tmp 38) = .int .u32 mk := (by (repeat (first | rw [eval_same _ _ (by (try simp only [put_size]); omega)] | rw [eval_far _ _ (by decide)])))
  have x7_2 : (((((((((((((a0.put (some 33) (.pointer (some ⟨t, 0, none⟩))).put (some 34) (.int .u32 mk)).put (some 35) (X)).put (some 37) (.pointer (some ⟨t, 0, none⟩))).put (some 38) (.int .u32 mk)).put (some 39) (X)).put (some 41) (.pointer (some ⟨t, 0, none⟩))).put (some 42) (X)).put (some 44) (.pointer (some ⟨t, 0, none⟩))).put (some 45) (.int .u32 mk)).put (some 46) (X)).put (some 36) (.slice a1 n1 c1))).eval (.tmp 39) = X := (by (repeat (first | rw [eval_same _ _ (by (try simp only [put_size]); omega)] | rw [eval_far _ _ (by decide)])))
  refine wpOp_callG ho (wantedN hg) (run_callV 6 Tryz.func6 (by kernel_rfl) (by kernel_rfl) #[.tmp 37, .tmp 38, .tmp 39] _ hop #[.pointer (some ⟨t, 0, none⟩), .int .u32 mk, X] (by simp only [List.map_toArray, List.map_cons, List.map_nil, x7_0, x7_1, x7_2])) ?_
  refine (K1 _ hS3).mono ?_
  rintro e u2 ⟨a2, c2, rfl, p2, b2⟩
  have hS7 := keep _ _ hS3 b2
  refine ⟨_, rfl, hS7, ?_⟩
  rw [hd]
  clear ho hg hop hd
  rw [← LR_snoc]
  refine wpAnyH_all r10 (by simp) ?_
  intro i hi
  obtain rfl := List.mem_singleton.1 hi
  obtain ⟨o10, ho, hg, hop, hd⟩ := isOpG_out q10
  have x10_0 : ((((((((((((((a0.put (some 33) (.pointer (some ⟨t, 0, none⟩))).put (some 34) (.int .u32 mk)).put (some 35) (X)).put (some 37) (.pointer (some ⟨t, 0, none⟩))).put (some 38) (.int .u32 mk)).put (some 39) (X)).put (some 41) (.pointer (some ⟨t, 0, none⟩))).put (some 42) (X)).put (some 44) (.pointer (some ⟨t, 0, none⟩))).put (some 45) (.int .u32 mk)).put (some 46) (X)).put (some 36) (.slice a1 n1 c1)).put (some 40) (.slice a2 n1 c2))).eval (.tmp 41) = .pointer (some ⟨t, 0, none⟩) := (by (repeat (first | rw [eval_same _ _ (by (try simp only [put_size]); omega)] | rw [eval_far _ _ (by decide)])))
  have x10_1 : ((((((((((((((a0.put (some 33) (.pointer (some ⟨t, 0, none⟩))).put (some 34) (.int .u32 mk)).put (some 35) (X)).put (some 37) (.pointer (some ⟨t, 0, none⟩))).put (some 38) (.int .u32 mk)).put (some 39) (X)).put (some 41) (.pointer (some ⟨t, 0, none⟩))).put (some 42) (X)).put (some 44) (.pointer (some ⟨t, 0, none⟩))).put (some 45) (.int .u32 mk)).put (some 46) (X)).put (some 36) (.slice a1 n1 c1)).put (some 40) (.slice a2 n1 c2))).eval (.const (.int .u32 0)) = .int .u32 0 := rfl
  have x10_2 : ((((((((((((((a0.put (some 33) (.pointer (some ⟨t, 0, none⟩))).put (some 34) (.int .u32 mk)).put (some 35) (X)).put (some 37) (.pointer (some ⟨t, 0, none⟩))).put (some 38) (.int .u32 mk)).put (some 39) (X)).put (some 41) (.pointer (some ⟨t, 0, none⟩))).put (some 42) (X)).put (some 44) (.pointer (some ⟨t, 0, none⟩))).put (some 45) (.int .u32 mk)).put (some 46) (X)).put (some 36) (.slice a1 n1 c1)).put (some 40) (.slice a2 n1 c2))).eval (.tmp 42) = X := (by (repeat (first | rw [eval_same _ _ (by (try simp only [put_size]); omega)] | rw [eval_far _ _ (by decide)])))
  refine wpOp_callG ho (wantedN hg) (run_callV 6 Tryz.func6 (by kernel_rfl) (by kernel_rfl) #[.tmp 41, .const (.int .u32 0), .tmp 42] _ hop #[.pointer (some ⟨t, 0, none⟩), .int .u32 0, X] (by simp only [List.map_toArray, List.map_cons, List.map_nil, x10_0, x10_1, x10_2])) ?_
  refine (K0 _ hS7).mono ?_
  rintro e u3 ⟨a3, c3, rfl, p3, b3⟩
  have hS10 := keep _ _ hS7 b3
  refine ⟨_, rfl, hS10, ?_⟩
  rw [hd]
  clear ho hg hop hd
  rw [← LR_snoc]
  refine wpAnyH_all r14 (by simp) ?_
  intro i hi
  obtain rfl := List.mem_singleton.1 hi
  obtain ⟨o14, ho, hg, hop, hd⟩ := isOpG_out q14
  have x14_0 : (((((((((((((((a0.put (some 33) (.pointer (some ⟨t, 0, none⟩))).put (some 34) (.int .u32 mk)).put (some 35) (X)).put (some 37) (.pointer (some ⟨t, 0, none⟩))).put (some 38) (.int .u32 mk)).put (some 39) (X)).put (some 41) (.pointer (some ⟨t, 0, none⟩))).put (some 42) (X)).put (some 44) (.pointer (some ⟨t, 0, none⟩))).put (some 45) (.int .u32 mk)).put (some 46) (X)).put (some 36) (.slice a1 n1 c1)).put (some 40) (.slice a2 n1 c2)).put (some 43) (.slice a3 n0 c3))).eval (.tmp 44) = .pointer (some ⟨t, 0, none⟩) := (by (repeat (first | rw [eval_same _ _ (by (try simp only [put_size]); omega)] | rw [eval_far _ _ (by decide)])))
  have x14_1 : (((((((((((((((a0.put (some 33) (.pointer (some ⟨t, 0, none⟩))).put (some 34) (.int .u32 mk)).put (some 35) (X)).put (some 37) (.pointer (some ⟨t, 0, none⟩))).put (some 38) (.int .u32 mk)).put (some 39) (X)).put (some 41) (.pointer (some ⟨t, 0, none⟩))).put (some 42) (X)).put (some 44) (.pointer (some ⟨t, 0, none⟩))).put (some 45) (.int .u32 mk)).put (some 46) (X)).put (some 36) (.slice a1 n1 c1)).put (some 40) (.slice a2 n1 c2)).put (some 43) (.slice a3 n0 c3))).eval (.tmp 45) = .int .u32 mk := (by (repeat (first | rw [eval_same _ _ (by (try simp only [put_size]); omega)] | rw [eval_far _ _ (by decide)])))
  have x14_2 : (((((((((((((((a0.put (some 33) (.pointer (some ⟨t, 0, none⟩))).put (some 34) (.int .u32 mk)).put (some 35) (X)).put (some 37) (.pointer (some ⟨t, 0, none⟩))).put (some 38) (.int .u32 mk)).put (some 39) (X)).put (some 41) (.pointer (some ⟨t, 0, none⟩))).put (some 42) (X)).put (some 44) (.pointer (some ⟨t, 0, none⟩))).put (some 45) (.int .u32 mk)).put (some 46) (X)).put (some 36) (.slice a1 n1 c1)).put (some 40) (.slice a2 n1 c2)).put (some 43) (.slice a3 n0 c3))).eval (.tmp 46) = X := (by (repeat (first | rw [eval_same _ _ (by (try simp only [put_size]); omega)] | rw [eval_far _ _ (by decide)])))
  refine wpOp_callG ho (wantedN hg) (run_callV 6 Tryz.func6 (by kernel_rfl) (by kernel_rfl) #[.tmp 44, .tmp 45, .tmp 46] _ hop #[.pointer (some ⟨t, 0, none⟩), .int .u32 mk, X] (by simp only [List.map_toArray, List.map_cons, List.map_nil, x14_0, x14_1, x14_2])) ?_
  refine (K1 _ hS10).mono ?_
  rintro e u4 ⟨a4, c4, rfl, p4, b4⟩
  have hS14 := keep _ _ hS10 b4
  refine ⟨_, rfl, hS14, ?_⟩
  rw [hd]
  clear ho hg hop hd
  rw [← LR_snoc]
  obtain ⟨o15, ho, hg, hop, hd⟩ := isOpG_out q15
  have hfr := hall ([0, 1, 2, 4, 5, 6, 8, 9, 11, 12, 13, 3, 7, 10, 14], 15) (by simp)
  refine wpAnyH_take (listed := LR 19 [0, 1, 2, 4, 5, 6, 8, 9, 11, 12, 13, 3, 7, 10, 14]) (v := .slice a1 n1 c1) ho hs hfr.1 hfr.2 (hQ _ _) (Or.inl ⟨(wantedN hg), fun w' hS => run_assignV _ _ hop w' (by (repeat (first | rw [eval_same _ _ (by (try simp only [put_size]); omega)] | rw [eval_far _ _ (by decide)])))⟩) hS14 ?_
  rw [hd, ← LR_snoc]
  clear ho hg hop hd hfr
  obtain ⟨o16, ho, hg, hop, hd⟩ := isOpG_out q16
  have hfr := hall ([0, 1, 2, 4, 5, 6, 8, 9, 11, 12, 13, 3, 7, 10, 14, 15], 16) (by simp)
  refine wpAnyH_take (listed := LR 19 [0, 1, 2, 4, 5, 6, 8, 9, 11, 12, 13, 3, 7, 10, 14, 15]) (v := .slice a2 n1 c2) ho hs hfr.1 hfr.2 (hQ _ _) (Or.inl ⟨(wantedN hg), fun w' hS => run_assignV _ _ hop w' (by (repeat (first | rw [eval_same _ _ (by (try simp only [put_size]); omega)] | rw [eval_far _ _ (by decide)])))⟩) hS14 ?_
  rw [hd, ← LR_snoc]
  clear ho hg hop hd hfr
  obtain ⟨o17, ho, hg, hop, hd⟩ := isOpG_out q17
  have hfr := hall ([0, 1, 2, 4, 5, 6, 8, 9, 11, 12, 13, 3, 7, 10, 14, 15, 16], 17) (by simp)
  refine wpAnyH_take (listed := LR 19 [0, 1, 2, 4, 5, 6, 8, 9, 11, 12, 13, 3, 7, 10, 14, 15, 16]) (v := .slice a3 n0 c3) ho hs hfr.1 hfr.2 (hQ _ _) (Or.inl ⟨(wantedN hg), fun w' hS => run_assignV _ _ hop w' (by (repeat (first | rw [eval_same _ _ (by (try simp only [put_size]); omega)] | rw [eval_far _ _ (by decide)])))⟩) hS14 ?_
  rw [hd, ← LR_snoc]
  clear ho hg hop hd hfr
  obtain ⟨o18, ho, hg, hop, hd⟩ := isOpG_out q18
  have hfr := hall ([0, 1, 2, 4, 5, 6, 8, 9, 11, 12, 13, 3, 7, 10, 14, 15, 16, 17], 18) (by simp)
  refine wpAnyH_take (listed := LR 19 [0, 1, 2, 4, 5, 6, 8, 9, 11, 12, 13, 3, 7, 10, 14, 15, 16, 17]) (v := .slice a4 n1 c4) ho hs hfr.1 hfr.2 (hQ _ _) (Or.inl ⟨(wantedN hg), fun w' hS => run_assignV _ _ hop w' (by (repeat (first | rw [eval_same _ _ (by (try simp only [put_size]); omega)] | rw [eval_far _ _ (by decide)])))⟩) hS14 ?_
  rw [hd, ← LR_snoc]
  clear ho hg hop hd hfr
  exact wpAnyH_done rend (F u1 u2 u3 u4 a1 a2 a3 a4 c1 c2 c3 c4 ((Below.refl w5.heap.size w5).drew.trans b1) p1 b2 p2 b3 p3 b4 p4) _
def oreg27_takes : List (List Nat × Nat) := [([], 0), ([0], 1), ([0, 1], 2), ([0, 1, 2], 3), ([0, 1, 2, 3], 4), ([0, 1, 2, 3, 4], 5), ([0, 1, 2, 3, 4, 5], 6), ([0, 1, 2, 3, 4, 5, 6], 7), ([0, 1, 2, 3, 4, 5, 6, 7], 8), ([0, 1, 2, 3, 4, 5, 6, 7, 8], 9), ([0, 1, 2, 3, 4, 5, 6, 7, 8, 9], 10), ([0, 1, 2, 3, 4, 5, 6, 7, 8, 9, 10], 11), ([0, 1, 2, 3, 4, 5, 6, 7, 8, 9, 10, 11], 12), ([0, 1, 2, 3, 4, 5, 6, 7, 8, 9, 10, 11, 12, 13], 14), ([0, 1, 2, 3, 4, 5, 6, 7, 8, 9, 10, 11, 12, 13, 14], 15)]
set_option maxHeartbeats 3200000 in
theorem oreg27 {ops : Array Oper} {Q : Exit → Act → World → Prop} {S : World → Prop} {a0 : Act} {w5 : World} {t bx g off n cc i : Nat} {X : Value} {ty1 : Array TypeId}
    (q0 : isOpG ops 0 none (.move (.tmp 22)) (some 123))
    (q1 : isOpG ops 1 none (.binOp .neq 74 (.tmp 123) (.const (.int .i64 0)) 74) (some 124))
    (q2 : isOpG ops 2 none (.move (.tmp 124)) (some 125))
    (q3 : isOpG ops 3 (some (2, false)) (.load 27 (.tmp 21)) (some 126))
    (q4 : isOpG ops 4 (some (2, false)) (.move (.tmp 8)) (some 127))
    (q5 : isOpG ops 5 (some (2, false)) (.move (.tmp 20)) (some 128))
    (q6 : isOpG ops 6 (some (2, false)) (.indexAddr 30 (.tmp 127) (.tmp 128)) (some 129))
    (q7 : isOpG ops 7 (some (2, false)) (.load 27 (.tmp 129)) (some 130))
    (q8 : isOpG ops 8 (some (2, false)) (.binOp .neq 27 (.tmp 126) (.tmp 130) 27) (some 131))
    (q9 : isOpG ops 9 none (.pick (.tmp 125) (.const (.bool true)) (.tmp 131)) (some 132))
    (q10 : isOpG ops 10 none (.move (.tmp 132)) (some 133))
    (q11 : isOpG ops 11 (some (10, false)) (.move (.tmp 7)) (some 134))
    (q12 : isOpG ops 12 (some (10, false)) (.load 27 (.tmp 21)) (some 135))
    (q13 : isOpG ops 13 (some (10, false)) (.call { callee := .value (.func 15), args := #[.tmp 134, .tmp 135], argTypes := ty1 }) (some 136))
    (q14 : isOpG ops 14 (some (10, false)) (.unOp .not 4 (.tmp 136)) (some 137))
    (q15 : isOpG ops 15 none (.pick (.tmp 133) (.const (.bool true)) (.tmp 137)) (some 138))
    (hs : Region.noSelect ops = true) (hq : (oreg27_takes.all fun p => Region.free .any ops (LR 16 p.1) p.2 && (Region.ready .any ops (LR 16 p.1)).contains p.2) = true)
    (r13 : Region.ready .any ops (LR 16 [0, 1, 2, 3, 4, 5, 6, 7, 8, 9, 10, 11, 12]) = [13])
    (rend : Region.ready .any ops (LR 16 [0, 1, 2, 3, 4, 5, 6, 7, 8, 9, 10, 11, 12, 13, 14, 15]) = [])
    (hQ : ∀ (d : Option Tmp) (v : Value) c a w, Q (.panic c) (a.put d v) w → Q (.panic c) a w)
    (hsz : 138 < a0.tmps.size) (e22 : a0.eval (.tmp 22) = .int .i64 0) (e21 : a0.eval (.tmp 21) = .pointer (some ⟨bx, 0, none⟩)) (e8 : a0.eval (.tmp 8) = .slice (some ⟨g, off, none⟩) n cc) (e20 : a0.eval (.tmp 20) = .int .i64 i) (e7 : a0.eval (.tmp 7) = .pointer (some ⟨t, 0, none⟩))
    (hS0 : S w5.drew)
    (keep : ∀ u u', S u → Below u.heap.size u u' → S u') (hin : i < n) (LX : ∀ u, S u → (loadVar 27 ⟨bx, 0, none⟩).run Tryz.prog u = .ok X u) (LY : ∀ u, S u → (loadVar 27 ⟨g, off + i * 24, none⟩).run Tryz.prog u = .ok X u)
    (hge : ∀ (x y : Operand) u, (eqGuard .neq 27 x y X X).run Tryz.prog u = .ok () u) (hne : ∀ u, (binOp .neq 27 X X).run Tryz.prog u = .ok (.bool false) u)
    (KH : ∀ u, S u → Calls Tryz.prog 15 #[.pointer (some ⟨t, 0, none⟩), X] u fun e w' => e = .returned (.bool true) ∧ Below u.heap.size u w')
    (F : ∀ (wc : World), S wc → Q .normal ((((((((((((((((a0.put (some 123) (.int .i64 0)).put (some 124) (.bool false)).put (some 125) (.bool false)).put (some 126) (X)).put (some 127) (.slice (some ⟨g, off, none⟩) n cc)).put (some 128) (.int .i64 i)).put (some 129) (.pointer (some ⟨g, off + i * 24, none⟩))).put (some 130) (X)).put (some 131) (.bool false)).put (some 132) (.bool false)).put (some 133) (.bool false)).put (some 134) (.pointer (some ⟨t, 0, none⟩))).put (some 135) (X)).put (some 136) (.bool true)).put (some 137) (.bool false)).put (some 138) (.bool false)) wc) :
    wpAnyH Tryz.prog .any ops Q S 16 (LR 16 []) a0 w5.drew := by
  have hall : ∀ p ∈ oreg27_takes, Region.free .any ops (LR 16 p.1) p.2 = true ∧ (Region.ready .any ops (LR 16 p.1)).contains p.2 = true := by
    intro p hp
    have := List.all_eq_true.1 hq p hp
    simpa using this
  unfold oreg27_takes at hall
  obtain ⟨og2, hog2, _, _, dog2⟩ := isOpG_out q2
  obtain ⟨og10, hog10, _, _, dog10⟩ := isOpG_out q10
  obtain ⟨o0, ho, hg, hop, hd⟩ := isOpG_out q0
  have hfr := hall ([], 0) (by simp)
  refine wpAnyH_take (listed := LR 16 []) (v := .int .i64 0) ho hs hfr.1 hfr.2 (hQ _ _) (Or.inl ⟨(wantedN hg), fun w' hS => run_move _ _ hop w' (by (repeat rw [eval_far _ _ (by decide)]); exact e22)⟩) hS0 ?_
  rw [hd, ← LR_snoc]
  clear ho hg hop hd hfr
  obtain ⟨o1, ho, hg, hop, hd⟩ := isOpG_out q1
  have hfr := hall ([0], 1) (by simp)
  refine wpAnyH_take (listed := LR 16 [0]) (v := .bool false) ho hs hfr.1 hfr.2 (hQ _ _) (Or.inl ⟨(wantedN hg), fun w' hS => run_binV _ _ hop w' (by (repeat (first | rw [eval_same _ _ (by (try simp only [put_size]); omega)] | rw [eval_far _ _ (by decide)]))) rfl (by first | rfl | go_simp) (ne_err w')⟩) hS0 ?_
  rw [hd, ← LR_snoc]
  clear ho hg hop hd hfr
  obtain ⟨o2, ho, hg, hop, hd⟩ := isOpG_out q2
  have hfr := hall ([0, 1], 2) (by simp)
  refine wpAnyH_take (listed := LR 16 [0, 1]) (v := .bool false) ho hs hfr.1 hfr.2 (hQ _ _) (Or.inl ⟨(wantedN hg), fun w' hS => run_move _ _ hop w' (by (repeat (first | rw [eval_same _ _ (by (try simp only [put_size]); omega)] | rw [eval_far _ _ (by decide)])))⟩) hS0 ?_
  rw [hd, ← LR_snoc]
  clear ho hg hop hd hfr
  obtain ⟨o3, ho, hg, hop, hd⟩ := isOpG_out q3
  have hfr := hall ([0, 1, 2], 3) (by simp)
  refine wpAnyH_take (listed := LR 16 [0, 1, 2]) (v := X) ho hs hfr.1 hfr.2 (hQ _ _) (Or.inl ⟨((wantedB hog2 dog2 hg (by (repeat (first | rw [tmps_same _ _ (by (try simp only [put_size]); omega)] | rw [tmps_far _ _ (by decide)])))).trans (by decide)), fun w' hS => run_loadO _ _ hop w' (by (repeat rw [eval_far _ _ (by decide)]); exact e21) (LX _ hS)⟩) hS0 ?_
  rw [hd, ← LR_snoc]
  clear ho hg hop hd hfr
  obtain ⟨o4, ho, hg, hop, hd⟩ := isOpG_out q4
  have hfr := hall ([0, 1, 2, 3], 4) (by simp)
  refine wpAnyH_take (listed := LR 16 [0, 1, 2, 3]) (v := .slice (some ⟨g, off, none⟩) n cc) ho hs hfr.1 hfr.2 (hQ _ _) (Or.inl ⟨((wantedB hog2 dog2 hg (by (repeat (first | rw [tmps_same _ _ (by (try simp only [put_size]); omega)] | rw [tmps_far _ _ (by decide)])))).trans (by decide)), fun w' hS => run_move _ _ hop w' (by (repeat rw [eval_far _ _ (by decide)]); exact e8)⟩) hS0 ?_
  rw [hd, ← LR_snoc]
  clear ho hg hop hd hfr
  obtain ⟨o5, ho, hg, hop, hd⟩ := isOpG_out q5
  have hfr := hall ([0, 1, 2, 3, 4], 5) (by simp)
  refine wpAnyH_take (listed := LR 16 [0, 1, 2, 3, 4]) (v := .int .i64 i) ho hs hfr.1 hfr.2 (hQ _ _) (Or.inl ⟨((wantedB hog2 dog2 hg (by (repeat (first | rw [tmps_same _ _ (by (try simp only [put_size]); omega)] | rw [tmps_far _ _ (by decide)])))).trans (by decide)), fun w' hS => run_move _ _ hop w' (by (repeat rw [eval_far _ _ (by decide)]); exact e20)⟩) hS0 ?_
  rw [hd, ← LR_snoc]
  clear ho hg hop hd hfr
  obtain ⟨o6, ho, hg, hop, hd⟩ := isOpG_out q6
  have hfr := hall ([0, 1, 2, 3, 4, 5], 6) (by simp)
  refine wpAnyH_take (listed := LR 16 [0, 1, 2, 3, 4, 5]) (v := .pointer (some ⟨g, off + i * 24, none⟩)) ho hs hfr.1 hfr.2 (hQ _ _) (Or.inl ⟨((wantedB hog2 dog2 hg (by (repeat (first | rw [tmps_same _ _ (by (try simp only [put_size]); omega)] | rw [tmps_far _ _ (by decide)])))).trans (by decide)), fun w' hS => run_idxO _ _ hop w' (by (repeat (first | rw [eval_same _ _ (by (try simp only [put_size]); omega)] | rw [eval_far _ _ (by decide)]))) (by (repeat (first | rw [eval_same _ _ (by (try simp only [put_size]); omega)] | rw [eval_far _ _ (by decide)]))) hin⟩) hS0 ?_
  rw [hd, ← LR_snoc]
  clear ho hg hop hd hfr
  obtain ⟨o7, ho, hg, hop, hd⟩ := isOpG_out q7
  have hfr := hall ([0, 1, 2, 3, 4, 5, 6], 7) (by simp)
  refine wpAnyH_take (listed := LR 16 [0, 1, 2, 3, 4, 5, 6]) (v := X) ho hs hfr.1 hfr.2 (hQ _ _) (Or.inl ⟨((wantedB hog2 dog2 hg (by (repeat (first | rw [tmps_same _ _ (by (try simp only [put_size]); omega)] | rw [tmps_far _ _ (by decide)])))).trans (by decide)), fun w' hS => run_loadO _ _ hop w' (by (repeat (first | rw [eval_same _ _ (by (try simp only [put_size]); omega)] | rw [eval_far _ _ (by decide)]))) (LY _ hS)⟩) hS0 ?_
  rw [hd, ← LR_snoc]
  clear ho hg hop hd hfr
  obtain ⟨o8, ho, hg, hop, hd⟩ := isOpG_out q8
  have hfr := hall ([0, 1, 2, 3, 4, 5, 6, 7], 8) (by simp)
  refine wpAnyH_take (listed := LR 16 [0, 1, 2, 3, 4, 5, 6, 7]) (v := .bool false) ho hs hfr.1 hfr.2 (hQ _ _) (Or.inl ⟨((wantedB hog2 dog2 hg (by (repeat (first | rw [tmps_same _ _ (by (try simp only [put_size]); omega)] | rw [tmps_far _ _ (by decide)])))).trans (by decide)), fun w' hS => run_binV _ _ hop w' (by (repeat (first | rw [eval_same _ _ (by (try simp only [put_size]); omega)] | rw [eval_far _ _ (by decide)]))) (by (repeat (first | rw [eval_same _ _ (by (try simp only [put_size]); omega)] | rw [eval_far _ _ (by decide)]))) (hge _ _ w') (hne w')⟩) hS0 ?_
  rw [hd, ← LR_snoc]
  clear ho hg hop hd hfr
  obtain ⟨o9, ho, hg, hop, hd⟩ := isOpG_out q9
  have hfr := hall ([0, 1, 2, 3, 4, 5, 6, 7, 8], 9) (by simp)
  refine wpAnyH_take (listed := LR 16 [0, 1, 2, 3, 4, 5, 6, 7, 8]) (v := .bool false) ho hs hfr.1 hfr.2 (hQ _ _) (Or.inl ⟨(wantedN hg), fun w' hS => run_pickF _ _ hop w' (by (repeat (first | rw [eval_same _ _ (by (try simp only [put_size]); omega)] | rw [eval_far _ _ (by decide)]))) (by (repeat (first | rw [eval_same _ _ (by (try simp only [put_size]); omega)] | rw [eval_far _ _ (by decide)])))⟩) hS0 ?_
  rw [hd, ← LR_snoc]
  clear ho hg hop hd hfr
  obtain ⟨o10, ho, hg, hop, hd⟩ := isOpG_out q10
  have hfr := hall ([0, 1, 2, 3, 4, 5, 6, 7, 8, 9], 10) (by simp)
  refine wpAnyH_take (listed := LR 16 [0, 1, 2, 3, 4, 5, 6, 7, 8, 9]) (v := .bool false) ho hs hfr.1 hfr.2 (hQ _ _) (Or.inl ⟨(wantedN hg), fun w' hS => run_move _ _ hop w' (by (repeat (first | rw [eval_same _ _ (by (try simp only [put_size]); omega)] | rw [eval_far _ _ (by decide)])))⟩) hS0 ?_
  rw [hd, ← LR_snoc]
  clear ho hg hop hd hfr
  obtain ⟨o11, ho, hg, hop, hd⟩ := isOpG_out q11
  have hfr := hall ([0, 1, 2, 3, 4, 5, 6, 7, 8, 9, 10], 11) (by simp)
  refine wpAnyH_take (listed := LR 16 [0, 1, 2, 3, 4, 5, 6, 7, 8, 9, 10]) (v := .pointer (some ⟨t, 0, none⟩)) ho hs hfr.1 hfr.2 (hQ _ _) (Or.inl ⟨((wantedB hog10 dog10 hg (by (repeat (first | rw [tmps_same _ _ (by (try simp only [put_size]); omega)] | rw [tmps_far _ _ (by decide)])))).trans (by decide)), fun w' hS => run_move _ _ hop w' (by (repeat rw [eval_far _ _ (by decide)]); exact e7)⟩) hS0 ?_
  rw [hd, ← LR_snoc]
  clear ho hg hop hd hfr
  obtain ⟨o12, ho, hg, hop, hd⟩ := isOpG_out q12
  have hfr := hall ([0, 1, 2, 3, 4, 5, 6, 7, 8, 9, 10, 11], 12) (by simp)
  refine wpAnyH_take (listed := LR 16 [0, 1, 2, 3, 4, 5, 6, 7, 8, 9, 10, 11]) (v := X) ho hs hfr.1 hfr.2 (hQ _ _) (Or.inl ⟨((wantedB hog10 dog10 hg (by (repeat (first | rw [tmps_same _ _ (by (try simp only [put_size]); omega)] | rw [tmps_far _ _ (by decide)])))).trans (by decide)), fun w' hS => run_loadO _ _ hop w' (by (repeat rw [eval_far _ _ (by decide)]); exact e21) (LX _ hS)⟩) hS0 ?_
  rw [hd, ← LR_snoc]
  clear ho hg hop hd hfr
  refine wpAnyH_all r13 (by simp) ?_
  intro i hi
  obtain rfl := List.mem_singleton.1 hi
  obtain ⟨o13, ho, hg, hop, hd⟩ := isOpG_out q13
  have x13_0 : ((((((((((((((a0.put (some 123) (.int .i64 0)).put (some 124) (.bool false)).put (some 125) (.bool false)).put (some 126) (X)).put (some 127) (.slice (some ⟨g, off, none⟩) n cc)).put (some 128) (.int .i64 i)).put (some 129) (.pointer (some ⟨g, off + i * 24, none⟩))).put (some 130) (X)).put (some 131) (.bool false)).put (some 132) (.bool false)).put (some 133) (.bool false)).put (some 134) (.pointer (some ⟨t, 0, none⟩))).put (some 135) (X))).eval (.tmp 134) = .pointer (some ⟨t, 0, none⟩) := (by (repeat (first | rw [eval_same _ _ (by (try simp only [put_size]); omega)] | rw [eval_far _ _ (by decide)])))
  have x13_1 : ((((((((((((((a0.put (some 123) (.int .i64 0)).put (some 124) (.bool false)).put (some 125) (.bool false)).put (some 126) (X)).put (some 127) (.slice (some ⟨g, off, none⟩) n cc)).put (some 128) (.int .i64 i)).put (some 129) (.pointer (some ⟨g, off + i * 24, none⟩))).put (some 130) (X)).put (some 131) (.bool false)).put (some 132) (.bool false)).put (some 133) (.bool false)).put (some 134) (.pointer (some ⟨t, 0, none⟩))).put (some 135) (X))).eval (.tmp 135) = X := (by (repeat (first | rw [eval_same _ _ (by (try simp only [put_size]); omega)] | rw [eval_far _ _ (by decide)])))
  refine wpOp_callG ho ((wantedB hog10 dog10 hg (by (repeat (first | rw [tmps_same _ _ (by (try simp only [put_size]); omega)] | rw [tmps_far _ _ (by decide)])))).trans (by decide)) (run_callV 15 Tryz.func15 (by kernel_rfl) (by kernel_rfl) #[.tmp 134, .tmp 135] _ hop #[.pointer (some ⟨t, 0, none⟩), X] (by simp only [List.map_toArray, List.map_cons, List.map_nil, x13_0, x13_1])) ?_
  refine (KH _ hS0).mono ?_
  rintro e u1 ⟨rfl, b1⟩
  have hS13 := keep _ _ hS0 b1
  refine ⟨_, rfl, hS13, ?_⟩
  rw [hd]
  clear ho hg hop hd
  rw [← LR_snoc]
  obtain ⟨o14, ho, hg, hop, hd⟩ := isOpG_out q14
  have hfr := hall ([0, 1, 2, 3, 4, 5, 6, 7, 8, 9, 10, 11, 12, 13], 14) (by simp)
  refine wpAnyH_take (listed := LR 16 [0, 1, 2, 3, 4, 5, 6, 7, 8, 9, 10, 11, 12, 13]) (v := .bool false) ho hs hfr.1 hfr.2 (hQ _ _) (Or.inl ⟨((wantedB hog10 dog10 hg (by (repeat (first | rw [tmps_same _ _ (by (try simp only [put_size]); omega)] | rw [tmps_far _ _ (by decide)])))).trans (by decide)), fun w' hS => run_notV (b := true) _ _ hop w' (by (repeat (first | rw [eval_same _ _ (by (try simp only [put_size]); omega)] | rw [eval_far _ _ (by decide)])))⟩) hS13 ?_
  rw [hd, ← LR_snoc]
  clear ho hg hop hd hfr
  obtain ⟨o15, ho, hg, hop, hd⟩ := isOpG_out q15
  have hfr := hall ([0, 1, 2, 3, 4, 5, 6, 7, 8, 9, 10, 11, 12, 13, 14], 15) (by simp)
  refine wpAnyH_take (listed := LR 16 [0, 1, 2, 3, 4, 5, 6, 7, 8, 9, 10, 11, 12, 13, 14]) (v := .bool false) ho hs hfr.1 hfr.2 (hQ _ _) (Or.inl ⟨(wantedN hg), fun w' hS => run_pickF _ _ hop w' (by (repeat (first | rw [eval_same _ _ (by (try simp only [put_size]); omega)] | rw [eval_far _ _ (by decide)]))) (by (repeat (first | rw [eval_same _ _ (by (try simp only [put_size]); omega)] | rw [eval_far _ _ (by decide)])))⟩) hS13 ?_
  rw [hd, ← LR_snoc]
  clear ho hg hop hd hfr
  exact wpAnyH_done rend (F _ hS13) _
end Go.Proofs.YtjcfhhcohmcehaaGreatDoor
