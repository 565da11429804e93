import Derived.Test.YtekjoccbbamehaaIxRenA
namespace Go.Proofs.Ytekjoccbbamehaa
open Go.RowKit Go.Maps Go.Shelf
set_option linter.unusedVariables false
set_option linter.unusedSimpArgs false
attribute [local go_sem ↓] Go.wp_at_zero Go.wp_at_succ
attribute [local go_sem] Oper.semAt_some
attribute [-go_sem] loadVar storeVar

theorem run_fldK (ev : Operand → Value) (o : Oper) {x : Operand} (hop : o.op = .fieldAddr 77 x 0) (w : World) {b : Nat} (hx : ev x = .pointer (some ⟨b, 0, none⟩)) : (execOp ev o).run Try.prog w = .ok (.value (.pointer (some ⟨b, 0, none⟩))) w := by
  simp only [execOp, hop, hx]
  go_simp
theorem belowA {w : World} (o : Obj) : Below w.heap.size w (w.alloc o) := (Below.refl _ w).alloc (Nat.le_refl _) o
theorem load_pixX {u : World} {a : Addr} {v : Value} (h : u.cell? a = some v) : (loadVar 66 a).run Try.prog u = .ok v u := by rw [loadVar.eq_1]; go_simp
theorem load_prelX {u : World} {a : Addr} {v : Value} (h : u.cell? a = some v) : (loadVar 26 a).run Try.prog u = .ok v u := by rw [loadVar.eq_1]; go_simp
def ixren_takes : List (List Nat × Nat) := [([], 0), ([0], 1), ([0, 1], 2), ([0, 1, 2], 3), ([0, 1, 2, 3], 4), ([0, 1, 2, 3, 4], 5), ([0, 1, 2, 3, 4, 5], 6), ([0, 1, 2, 3, 4, 5, 6], 7)]
set_option maxHeartbeats 3200000 in
theorem ixren {ops : Array Oper} {Q : Exit → Act → World → Prop} {S : World → Prop} {a0 : Act} {w5 : World} {x kb xb tt : Nat} {n ln : Int} {ty1 ty2 : Array TypeId} {Pf : Nat → Nat → Nat → World → Prop}
    (q0 : isOpG ops 0 none (.fieldAddr 77 (.tmp 2) 0) (some 22))
    (q1 : isOpG ops 1 none (.load 26 (.tmp 22)) (some 23))
    (q2 : isOpG ops 2 none (.load 66 (.tmp 3)) (some 24))
    (q3 : isOpG ops 3 none (.nilCheck (.tmp 24)) (some 25))
    (q4 : isOpG ops 4 none (.fieldAddr 74 (.tmp 25) 2) (some 26))
    (q5 : isOpG ops 5 none (.load 3 (.tmp 26)) (some 27))
    (q6 : isOpG ops 6 none (.fieldAddr 77 (.tmp 2) 0) (some 28))
    (q7 : isOpG ops 7 none (.load 26 (.tmp 28)) (some 29))
    (q8 : isOpG ops 8 none (.call { callee := .value (.func 8), args := #[.tmp 29], argTypes := ty1 }) (some 30))
    (q9 : isOpG ops 9 none (.call { callee := .value (.func 46), args := #[.tmp 23, .tmp 27, .tmp 30], argTypes := ty2 }) (some 31))
    (hs : Region.noSelect ops = true) (hq : (ixren_takes.all fun p => Region.free .any ops (LR 10 p.1) p.2 && (Region.ready .any ops (LR 10 p.1)).contains p.2) = true)
    (r8 : Region.ready .any ops (LR 10 [0, 1, 2, 3, 4, 5, 6, 7]) = [8])
    (r9 : Region.ready .any ops (LR 10 [0, 1, 2, 3, 4, 5, 6, 7, 8]) = [9])
    (rend : Region.ready .any ops (LR 10 [0, 1, 2, 3, 4, 5, 6, 7, 8, 9]) = [])
    (hQ : ∀ (d : Option Tmp) (v : Value) c a w, Q (.panic c) (a.put d v) w → Q (.panic c) a w)
    (hsz : 31 < a0.tmps.size) (e2 : a0.eval (.tmp 2) = .pointer (some ⟨kb, 0, none⟩)) (e3 : a0.eval (.tmp 3) = .pointer (some ⟨xb, 0, none⟩))
    (hS0 : S w5.drew)
    (keep : ∀ u u', S u → S u' → S u') (LT : ∀ u, S u → (loadVar 26 ⟨kb, 0, none⟩).run Try.prog u = .ok (.pointer (some ⟨tt, 0, none⟩)) u) (LP : ∀ u, S u → (loadVar 66 ⟨xb, 0, none⟩).run Try.prog u = .ok (.pointer (some ⟨x, 0, none⟩)) u) (LN : ∀ u, S u → (loadVar 3 ⟨x, 2, none⟩).run Try.prog u = .ok (.int .i64 n) u)
    (C1 : Calls Try.prog 8 #[.pointer (some ⟨tt, 0, none⟩)] w5.drew fun e u1 => e = .returned (.int .i64 ln) ∧ S u1 ∧ Calls Try.prog 46 #[.pointer (some ⟨tt, 0, none⟩), .int .i64 n, .int .i64 ln] u1 fun e u2 => ∃ b0 b1 b2, e = .returned (.func (.func 60) #[] #[.pointer (some ⟨b0, 0, none⟩), .pointer (some ⟨b1, 0, none⟩), .pointer (some ⟨b2, 0, none⟩)]) ∧ S u2 ∧ Pf b0 b1 b2 u2)
    (F : ∀ (wc : World) (b0 b1 b2 : Nat), Pf b0 b1 b2 wc → Q .normal ((((((((((a0.put (some 22) (.pointer (some ⟨kb, 0, none⟩))).put (some 23) (.pointer (some ⟨tt, 0, none⟩))).put (some 24) (.pointer (some ⟨x, 0, none⟩))).put (some 25) (.pointer (some ⟨x, 0, none⟩))).put (some 26) (.pointer (some ⟨x, 2, none⟩))).put (some 27) (.int .i64 n)).put (some 28) (.pointer (some ⟨kb, 0, none⟩))).put (some 29) (.pointer (some ⟨tt, 0, none⟩))).put (some 30) (.int .i64 ln)).put (some 31) (.func (.func 60) #[] #[.pointer (some ⟨b0, 0, none⟩), .pointer (some ⟨b1, 0, none⟩), .pointer (some ⟨b2, 0, none⟩)])) wc) :
    wpAnyH Try.prog .any ops Q S 10 (LR 10 []) a0 w5.drew := by
  have hall : ∀ p ∈ ixren_takes, Region.free .any ops (LR 10 p.1) p.2 = true ∧ (Region.ready .any ops (LR 10 p.1)).contains p.2 = true := by
    intro p hp
    have := List.all_eq_true.1 hq p hp
    simpa using this
  unfold ixren_takes at hall
  obtain ⟨o0, ho, hg, hop, hd⟩ := isOpG_out q0
  have hfr := hall ([], 0) (by simp)
  refine wpAnyH_take (listed := LR 10 []) (v := .pointer (some ⟨kb, 0, none⟩)) ho hs hfr.1 hfr.2 (hQ _ _) (Or.inl ⟨(wantedN hg), fun w' hS => run_fldK _ _ hop w' (by (repeat rw [eval_far _ _ (by decide)]); exact e2)⟩) hS0 ?_
  rw [hd, ← LR_snoc]
  clear ho hg hop hd hfr
  obtain ⟨o1, ho, hg, hop, hd⟩ := isOpG_out q1
  have hfr := hall ([0], 1) (by simp)
  refine wpAnyH_take (listed := LR 10 [0]) (v := .pointer (some ⟨tt, 0, none⟩)) ho hs hfr.1 hfr.2 (hQ _ _) (Or.inl ⟨(wantedN hg), fun w' hS => run_loadX _ _ hop w' (by (repeat (first | rw [eval_same _ _ (by (try simp only [put_size]); omega)] | rw [eval_far _ _ (by decide)]))) (LT _ hS)⟩) hS0 ?_
  rw [hd, ← LR_snoc]
  clear ho hg hop hd hfr
  obtain ⟨o2, ho, hg, hop, hd⟩ := isOpG_out q2
  have hfr := hall ([0, 1], 2) (by simp)
  refine wpAnyH_take (listed := LR 10 [0, 1]) (v := .pointer (some ⟨x, 0, none⟩)) ho hs hfr.1 hfr.2 (hQ _ _) (Or.inl ⟨(wantedN hg), fun w' hS => run_loadX _ _ hop w' (by (repeat rw [eval_far _ _ (by decide)]); exact e3) (LP _ hS)⟩) hS0 ?_
  rw [hd, ← LR_snoc]
  clear ho hg hop hd hfr
  obtain ⟨o3, ho, hg, hop, hd⟩ := isOpG_out q3
  have hfr := hall ([0, 1, 2], 3) (by simp)
  refine wpAnyH_take (listed := LR 10 [0, 1, 2]) (v := .pointer (some ⟨x, 0, none⟩)) ho hs hfr.1 hfr.2 (hQ _ _) (Or.inl ⟨(wantedN hg), fun w' hS => run_nilX _ _ hop w' (by (repeat (first | rw [eval_same _ _ (by (try simp only [put_size]); omega)] | rw [eval_far _ _ (by decide)])))⟩) hS0 ?_
  rw [hd, ← LR_snoc]
  clear ho hg hop hd hfr
  obtain ⟨o4, ho, hg, hop, hd⟩ := isOpG_out q4
  have hfr := hall ([0, 1, 2, 3], 4) (by simp)
  refine wpAnyH_take (listed := LR 10 [0, 1, 2, 3]) (v := .pointer (some ⟨x, 2, none⟩)) ho hs hfr.1 hfr.2 (hQ _ _) (Or.inl ⟨(wantedN hg), fun w' hS => run_fldX2 _ _ hop w' (by (repeat (first | rw [eval_same _ _ (by (try simp only [put_size]); omega)] | rw [eval_far _ _ (by decide)])))⟩) hS0 ?_
  rw [hd, ← LR_snoc]
  clear ho hg hop hd hfr
  obtain ⟨o5, ho, hg, hop, hd⟩ := isOpG_out q5
  have hfr := hall ([0, 1, 2, 3, 4], 5) (by simp)
  refine wpAnyH_take (listed := LR 10 [0, 1, 2, 3, 4]) (v := .int .i64 n) ho hs hfr.1 hfr.2 (hQ _ _) (Or.inl ⟨(wantedN hg), fun w' hS => run_loadX _ _ hop w' (by (repeat (first | rw [eval_same _ _ (by (try simp only [put_size]); omega)] | rw [eval_far _ _ (by decide)]))) (LN _ hS)⟩) hS0 ?_
  rw [hd, ← LR_snoc]
  clear ho hg hop hd hfr
  obtain ⟨o6, ho, hg, hop, hd⟩ := isOpG_out q6
  have hfr := hall ([0, 1, 2, 3, 4, 5], 6) (by simp)
  refine wpAnyH_take (listed := LR 10 [0, 1, 2, 3, 4, 5]) (v := .pointer (some ⟨kb, 0, none⟩)) ho hs hfr.1 hfr.2 (hQ _ _) (Or.inl ⟨(wantedN hg), fun w' hS => run_fldK _ _ hop w' (by (repeat rw [eval_far _ _ (by decide)]); exact e2)⟩) hS0 ?_
  rw [hd, ← LR_snoc]
  clear ho hg hop hd hfr
  obtain ⟨o7, ho, hg, hop, hd⟩ := isOpG_out q7
  have hfr := hall ([0, 1, 2, 3, 4, 5, 6], 7) (by simp)
  refine wpAnyH_take (listed := LR 10 [0, 1, 2, 3, 4, 5, 6]) (v := .pointer (some ⟨tt, 0, none⟩)) ho hs hfr.1 hfr.2 (hQ _ _) (Or.inl ⟨(wantedN hg), fun w' hS => run_loadX _ _ hop w' (by (repeat (first | rw [eval_same _ _ (by (try simp only [put_size]); omega)] | rw [eval_far _ _ (by decide)]))) (LT _ hS)⟩) hS0 ?_
  rw [hd, ← LR_snoc]
  clear ho hg hop hd hfr
  refine wpAnyH_all r8 (by simp) ?_
  intro i hi
  obtain rfl := List.mem_singleton.1 hi
  obtain ⟨o8, ho, hg, hop, hd⟩ := isOpG_out q8
  have x8_0 : (((((((((a0.put (some 22) (.pointer (some ⟨kb, 0, none⟩))).put (some 23) (.pointer (some ⟨tt, 0, none⟩))).put (some 24) (.pointer (some ⟨x, 0, none⟩))).put (some 25) (.pointer (some ⟨x, 0, none⟩))).put (some 26) (.pointer (some ⟨x, 2, none⟩))).put (some 27) (.int .i64 n)).put (some 28) (.pointer (some ⟨kb, 0, none⟩))).put (some 29) (.pointer (some ⟨tt, 0, none⟩)))).eval (.tmp 29) = .pointer (some ⟨tt, 0, none⟩) := (by (repeat (first | rw [eval_same _ _ (by (try simp only [put_size]); omega)] | rw [eval_far _ _ (by decide)])))
  refine wpOp_callG ho (wantedN hg) (run_callV 8 Try.func8 (by kernel_rfl) (by kernel_rfl) #[.tmp 29] _ hop #[.pointer (some ⟨tt, 0, none⟩)] (by simp only [List.map_toArray, List.map_cons, List.map_nil, x8_0])) ?_
  refine (C1).mono ?_
  rintro e u1 ⟨rfl, hS1, C2⟩
  have hS8 := keep _ _ hS0 hS1
  refine ⟨_, rfl, hS8, ?_⟩
  rw [hd]
  clear ho hg hop hd
  rw [← LR_snoc]
  refine wpAnyH_all r9 (by simp) ?_
  intro i hi
  obtain rfl := List.mem_singleton.1 hi
  obtain ⟨o9, ho, hg, hop, hd⟩ := isOpG_out q9
  have x9_0 : ((((((((((a0.put (some 22) (.pointer (some ⟨kb, 0, none⟩))).put (some 23) (.pointer (some ⟨tt, 0, none⟩))).put (some 24) (.pointer (some ⟨x, 0, none⟩))).put (some 25) (.pointer (some ⟨x, 0, none⟩))).put (some 26) (.pointer (some ⟨x, 2, none⟩))).put (some 27) (.int .i64 n)).put (some 28) (.pointer (some ⟨kb, 0, none⟩))).put (some 29) (.pointer (some ⟨tt, 0, none⟩))).put (some 30) (.int .i64 ln))).eval (.tmp 23) = .pointer (some ⟨tt, 0, none⟩) := (by (repeat (first | rw [eval_same _ _ (by (try simp only [put_size]); omega)] | rw [eval_far _ _ (by decide)])))
  have x9_1 : ((((((((((a0.put (some 22) (.pointer (some ⟨kb, 0, none⟩))).put (some 23) (.pointer (some ⟨tt, 0, none⟩))).put (some 24) (.pointer (some ⟨x, 0, none⟩))).put (some 25) (.pointer (some ⟨x, 0, none⟩))).put (some 26) (.pointer (some ⟨x, 2, none⟩))).put (some 27) (.int .i64 n)).put (some 28) (.pointer (some ⟨kb, 0, none⟩))).put (some 29) (.pointer (some ⟨tt, 0, none⟩))).put (some 30) (.int .i64 ln))).eval (.tmp 27) = .int .i64 n := (by (repeat (first | rw [eval_same _ _ (by (try simp only [put_size]); omega)] | rw [eval_far _ _ (by decide)])))
  have x9_2 : ((((((((((a0.put (some 22) (.pointer (some ⟨kb, 0, none⟩))).put (some 23) (.pointer (some ⟨tt, 0, none⟩))).put (some 24) (.pointer (some ⟨x, 0, none⟩))).put (some 25) (.pointer (some ⟨x, 0, none⟩))).put (some 26) (.pointer (some ⟨x, 2, none⟩))).put (some 27) (.int .i64 n)).put (some 28) (.pointer (some ⟨kb, 0, none⟩))).put (some 29) (.pointer (some ⟨tt, 0, none⟩))).put (some 30) (.int .i64 ln))).eval (.tmp 30) = .int .i64 ln := (by (repeat (first | rw [eval_same _ _ (by (try simp only [put_size]); omega)] | rw [eval_far _ _ (by decide)])))
  refine wpOp_callG ho (wantedN hg) (run_callV 46 Try.func46 (by kernel_rfl) (by kernel_rfl) #[.tmp 23, .tmp 27, .tmp 30] _ hop #[.pointer (some ⟨tt, 0, none⟩), .int .i64 n, .int .i64 ln] (by simp only [List.map_toArray, List.map_cons, List.map_nil, x9_0, x9_1, x9_2])) ?_
  refine (C2).mono ?_
  rintro e u2 ⟨b0, b1, b2, rfl, hS2, hP⟩
  have hS9 := keep _ _ hS8 hS2
  refine ⟨_, rfl, hS9, ?_⟩
  rw [hd]
  clear ho hg hop hd
  rw [← LR_snoc]
  exact wpAnyH_done rend (F _ b0 b1 b2 hP) _
set_option maxHeartbeats 3200000 in
set_option maxRecDepth 100000 in
theorem renew_ix {w : World} {B x b : Nat} {m : Int} {G : Grp} {vs : List Value} {n : Nat} {gone0 : Int} (h : Ix w B x b m G vs n gone0) (hB : B ≤ w.heap.size) {B' tt mm : Nat} {sv : Value} {rows : List (List Int)} {ar gone : Int} (hr : Rel w B' tt mm sv rows ar gone) (hG : gone0 = gone → G = grpN m rows n ∧ n ≤ rows.length) (hap : ∀ k, FX x b vs k → k ≠ tt ∧ k ≠ mm ∧ sv.ownBlock ≠ some k) (hlen : rows.length ≤ 100000000) :
    Calls Try.prog 35 #[.agg #[.pointer (some ⟨tt, 0, none⟩)], .pointer (some ⟨x, 0, none⟩)] w fun e w' => (∃ u, e = .returned u) ∧ ∃ vs', Ix w' B x b m (grpN m rows rows.length) vs' rows.length gone ∧ Tx (FX x b vs) w w' ∧ ∀ v ∈ vs', ∀ g, v.ownBlock = some g → (∃ u ∈ vs, u.ownBlock = some g) ∨ w.heap.size ≤ g := by
  have hb2 := (((Below.refl w.heap.size w).alloc (Nat.le_refl _) (.cells #[.pointer (some ⟨tt, 0, none⟩)] 77)).alloc (by simp) (.cells #[.pointer (some ⟨x, 0, none⟩)] 66))
  have HB2 := Lib.hid hb2
  have HN2 := Lib.hid (hr.keep hb2)
  have HI2 := Lib.hid (h.keep hb2)
  have K2 := Lib.hid (bxB (Boxed.new w 77 (.pointer (some ⟨tt, 0, none⟩))) (belowA (.cells #[.pointer (some ⟨x, 0, none⟩)] 66)))
  have X2 : Hid (Boxed ((w.alloc (.cells #[.pointer (some ⟨tt, 0, none⟩)] 77)).alloc (.cells #[.pointer (some ⟨x, 0, none⟩)] 66)) (w.heap.size + 1) 66 (.pointer (some ⟨x, 0, none⟩))) := bxN (by simp) _ _
  have HH := Lib.hid h
  have HA := Lib.hid hap
  clear h hr hap hb2
  refine (callsIn_wide (n := 8)).1 ?_
  refine callsIn_of_wp_marks Try.func35 rfl trivial ?_ rfl
  simp only [Try.ntmps35, List.size_toArray, List.length_cons, List.length_nil, Nat.reduceAdd, Nat.reduceSub, Array.replicate_succ, Array.replicate_zero, List.push_toArray, List.append_toArray, List.nil_append, List.cons_append]
  have l1 := load_prelX K2.out.cell
  gi_wp2_with fail
  generalize ((w.alloc (.cells #[.pointer (some ⟨tt, 0, none⟩)] 77)).alloc (.cells #[.pointer (some ⟨x, 0, none⟩)] 66)) = W at HB2 HN2 HI2 K2 X2 l1 ⊢
  refine ⟨trivial, (callsIn_wide.2 (gone_yes HN2.out)).mono ?_⟩
  rintro e w2 ⟨rfl, rfl⟩
  have l2 := load_pixX X2.out.cell
  have l3 := load_intX (RL.at HI2.out.rl (j := 3) rfl)
  by_cases hg : gone0 = gone
  · obtain ⟨rfl, hn⟩ := hG hg
    subst hg
    clear hG
    gi_wp2_with fail
    clear l1 l2 l3
    have TV : Tx (FX x b vs) w w2 := Tx.of_below HB2.out
    have hsv : ∀ u ∈ vs, u ∈ vs := fun _ h => h
    have hnV := hn
    have HIV := HI2
    have HRV := HN2
    have KV := K2
    have XV := X2
    clear HI2 HN2 K2 X2 HB2 hn
    generalize w2 = V at TV HIV HRV KV XV ⊢
    have HV := Lib.hid (And.intro hsv (And.intro hnV TV))
    have y0 : Below V.heap.size V V.drew := (Below.refl _ _).drew
    have HC : Hid (Calls Try.prog 8 #[.pointer (some ⟨tt, 0, none⟩)] V.drew fun e u1 => e = .returned (.int .i64 (rows.length : Int)) ∧ Below V.heap.size V u1 ∧ Calls Try.prog 46 #[.pointer (some ⟨tt, 0, none⟩), .int .i64 ((n : Nat) : Int), .int .i64 (rows.length : Int)] u1 fun e u2 => ∃ b0 b1 b2, e = .returned (.func (.func 60) #[] #[.pointer (some ⟨b0, 0, none⟩), .pointer (some ⟨b1, 0, none⟩), .pointer (some ⟨b2, 0, none⟩)]) ∧ Below V.heap.size V u2 ∧ (u2.cell? ⟨b0, 0, none⟩ = some (.pointer (some ⟨tt, 0, none⟩)) ∧ u2.cell? ⟨b1, 0, none⟩ = some (.int .i64 ((n : Nat) : Int)) ∧ u2.cell? ⟨b2, 0, none⟩ = some (.int .i64 (rows.length : Int)) ∧ (b0 < u2.heap.size ∧ b1 < u2.heap.size ∧ b2 < u2.heap.size) ∧ V.heap.size ≤ b2 ∧ Below V.heap.size V u2)) := by
      refine (len_yes (HRV.out.keep y0)).mono ?_
      rintro e u ⟨rfl, rfl⟩
      refine ⟨rfl, y0, (range_yes tt _ _ _).mono ?_⟩
      rintro e u2 ⟨b0, b1, b2, rfl, k0, k1, k2, hbs, hb2, b8⟩
      have b9 : Below V.heap.size V u2 := y0.trans b8
      exact ⟨b0, b1, b2, rfl, b9, k0, k1, k2, hbs, hb2, b9⟩
    refine wpIn_wide.2 ?_
    refine wp_region_noPanic ?_
    refine wp_region_held (S := fun u => Below V.heap.size V u) (by kernel_rfl) ?_
    refine ixren (w5 := V) (S := fun u => Below V.heap.size V u) (x := x) (kb := w.heap.size) (xb := w.heap.size + 1) (tt := tt) (n := ((n : Nat) : Int)) (ln := (rows.length : Int)) (Pf := fun b0 b1 b2 u2 => u2.cell? ⟨b0, 0, none⟩ = some (.pointer (some ⟨tt, 0, none⟩)) ∧ u2.cell? ⟨b1, 0, none⟩ = some (.int .i64 ((n : Nat) : Int)) ∧ u2.cell? ⟨b2, 0, none⟩ = some (.int .i64 (rows.length : Int)) ∧ (b0 < u2.heap.size ∧ b1 < u2.heap.size ∧ b2 < u2.heap.size) ∧ V.heap.size ≤ b2 ∧ Below V.heap.size V u2) rfl rfl rfl rfl rfl rfl rfl rfl rfl rfl (by kernel_rfl) (by kernel_rfl) (by kernel_rfl) (by kernel_rfl) (by kernel_rfl) (fun _ _ _ _ _ h => h) (by simp) rfl rfl y0 (fun _ _ _ h => h) (fun u hu => load_prelX (bxB KV.out hu).cell) (fun u hu => load_pixX (bxB XV.out hu).cell) (fun u hu => load_intX (RL.at (HIV.out.keep hu).rl (j := 2) rfl)) HC.out ?_
    rintro wc b0 b1 b2 ⟨k0, k1, k2, hbs, hb2, b8⟩
    refine NoPanic.normal ?_
    rename_i hK
    refine hK _ _ ?_
    clear hK HC y0
    simp (config := { maxSteps := 8000000 }) only [Act.put, List.getElem_toArray, List.getElem_cons_zero, List.getElem_cons_succ, List.setIfInBounds_toArray, List.set_cons_succ, List.set_cons_zero]
    obtain ⟨g, hg8, hgt, hseq⟩ := range_seqX 7 HRV.out b8 (by omega) n hnV k0 k1 k2 hbs
    have HSQ := Lib.hid hseq
    have hVc := b8.size
    have hwV := TV.size
    have hflt : ∀ k, FX x b vs k → k < w.heap.size ∧ k ≠ tt ∧ sv.ownBlock ≠ some k := fun k hk => by
      have hk' : FX x b vs k := by
        rcases hk with e | e | ⟨v, hv, e⟩
        · exact .inl e
        · exact .inr (.inl e)
        · exact .inr (.inr ⟨v, hsv v hv, e⟩)
      exact ⟨(HH.out.flt hk').2, (HA.out k hk').1, (HA.out k hk').2.2⟩
    have hx : x < wc.heap.size ∧ b < wc.heap.size := ⟨by have := (hflt x (.inl rfl)).1; omega, by have := (hflt b (.inr (.inl rfl))).1; omega⟩
    have hgn : ¬ FX x b vs g := fun e => by
      rcases hgt with rfl | e2
      · exact (hflt _ e).2.1 rfl
      · exact (hflt _ e).2.2 e2
    have hbn : ¬ FX x b vs b2 := fun e => by
      have := (hflt _ e).1
      omega
    have hgU : g < wc.heap.size := by omega
    have hbU : b2 < wc.heap.size := hbs.2.2
    have HX8 := Lib.hid (bxB XV.out b8)
    have HBX : Hid (∀ j W, Rn wc B x b m rows gone0 vs j W → Boxed W (w.heap.size + 1) 66 (.pointer (some ⟨x, 0, none⟩))) := fun j W h =>
      (h.tx.block _ (HX8.out.lt) (fun e => by have := (hflt _ e).1; omega)).trans HX8.out
    have HS8 : Hid (Rn wc B x b m rows gone0 vs n wc) := ⟨⟨_, HIV.out.keep b8, fun v hv g hg => .inl ⟨v, hv, hg⟩⟩, Tx.refl _ _⟩
    have HOK := Lib.hid HRV.out.ok
    have HB8 := Lib.hid b8
    clear hseq HIV KV XV k0 k1 k2 HRV hgt HX8 TV hsv
    gi_wp2_with fail
    have hmo : Try.prog.follows .mixedOrders = true := by kernel_rfl
    refine wpIn_rangeTells rfl (by omega) (gf := 60) (lb := #[.pointer (some ⟨b0, 0, none⟩), .pointer (some ⟨b1, 0, none⟩), .pointer (some ⟨b2, 0, none⟩)]) rfl trivial (enters_of Try.func60 (by kernel_rfl) rfl) HSQ.out (fun h k => h.trans k)
      (fun W l o o' hl _ _ _ => ⟨World.putObj_heap_other (by omega), World.putObj_heap_other (by omega)⟩) (Below.refl _ _) (fun _ => rfl)
      (fun k W => Rn wc B x b m rows gone0 vs (n + k) W) (fun _ _ _ => False)
      (fun k X Y row hs hg hr => hs.kept hx hg hr)
      (fun _ _ _ _ _ hs _ _ => hs) HS8.out
      (fun k a' W => ∃ yb, a' = { tmps := #[.agg #[.pointer (some ⟨tt, 0, none⟩)], .pointer (some ⟨x, 0, none⟩), .pointer (some ⟨w.heap.size, 0, none⟩), .pointer (some ⟨w.heap.size + 1, 0, none⟩), .int .i64 gone0, undef, .pointer (some ⟨yb, 0, none⟩), .pointer (some ⟨w.heap.size, 0, none⟩), .pointer (some ⟨tt, 0, none⟩), .int .i64 gone0, .int .i64 gone0, .pointer (some ⟨x, 0, none⟩), .pointer (some ⟨x, 0, none⟩), .pointer (some ⟨x, 3, none⟩), .int .i64 gone0, .bool false, undef, undef, undef, undef, undef, undef, .pointer (some ⟨w.heap.size, 0, none⟩), .pointer (some ⟨tt, 0, none⟩), .pointer (some ⟨x, 0, none⟩), .pointer (some ⟨x, 0, none⟩), .pointer (some ⟨x, 2, none⟩), .int .i64 ((n : Nat) : Int), .pointer (some ⟨w.heap.size, 0, none⟩), .pointer (some ⟨tt, 0, none⟩), .int .i64 (rows.length : Int), .func (.func 60) #[] #[.pointer (some ⟨b0, 0, none⟩), .pointer (some ⟨b1, 0, none⟩), .pointer (some ⟨b2, 0, none⟩)], .int .i64 ((n + k : Nat) : Int), .agg (List.map cellI (rows.getD (n + k) [])).toArray, undef, undef], defers := [] } ∧ RowAt W yb (rows.getD (n + k) []))
      (fun k a' _ X Y row hs hg hr => by
        obtain ⟨yb, e, hy⟩ := hs
        refine ⟨yb, e, (hg.block yb (RowAt.lt hy) (fun e' => ?_)).trans hy⟩
        obtain ⟨_, o, ho, hcl⟩ := hr _ e'.symm
        have hy' : X.heap[yb]? = some (.cells (rowC (rows.getD (n + k) [])) 34 (0, 0)) := hy
        rw [hy'] at ho
        cases ho
        simp [Obj.isCells] at hcl) ?assign ?body ?done ?stop
    case assign =>
      intro l k W K hk hi hK
      have hro : RowOk (rows.getD (n + k) []) := by
        have hk2 : n + k < rows.length := by omega
        exact HOK.out _ (by rw [List.getD, List.getElem?_eq_getElem hk2]; exact List.getElem_mem hk2)
      have h24y := hro.len
      have hst := store_rowX W _ h24y
      have hA := belowA (w := W) (.cells (rowC (rows.getD (n + k) [])) 34)
      have hsz := hi.tx.size
      have hK' := hK _ _ (KeepsFrom.below hA) ⟨hA.block g (by omega), hA.block b2 (by omega)⟩ (hi.keep hA) ⟨W.heap.size, rfl, rowAt_new W _⟩
      clear hK hi HSQ HS8 hA hro HBX HV HH HA HOK HB8
      unfold rowsAt rowV
      generalize rows.getD (n + k) [] = y at h24y hst hK' ⊢
      gi_wp2
      exact hK'
    case body =>
      rintro l k a' W hk hsl ⟨yb, rfl, hy⟩
      have hro : RowOk (rows.getD (n + k) []) := by
        have hk2 : n + k < rows.length := by omega
        exact HOK.out _ (by rw [List.getD, List.getElem?_eq_getElem hk2]; exact List.getElem_mem hk2)
      have l4 := load_pixX (HBX.out _ _ hsl).cell
      have HT := Lib.hid (take_rn hsl hx (by omega) hy hro (by omega))
      clear hsl hy HSQ HS8 hro HBX HV HH HA HOK HB8
      generalize rows.getD (n + k) [] = y
      gi_wp2_with fail
      refine ⟨trivial, (CallsIn.inRound l (callsIn_wide.2 HT.out)).mono ?_⟩
      rintro ee w3 ⟨⟨u, rfl⟩, hrn, hkf, hbl⟩
      have HR3 := Lib.hid hrn
      clear hrn HT
      gi_wp2
      exact ⟨hkf, ⟨hbl g hgU hgn, hbl b2 hbU hbn⟩, HR3.out⟩
    case done =>
      rintro D W hD hsl hKD
      have hnn : n + (rows.length - n) = rows.length := by omega
      have HR : Hid (Rn wc B x b m rows gone0 vs rows.length (W.putObj D (.deferred none))) := by
        have h9 := hsl.put (o' := .deferred none) hx hD hKD rfl rfl
        rw [hnn] at h9
        exact h9
      have HKD := Lib.hid hKD
      have HF : Hid (∃ vs', Ix (W.putObj D (.deferred none)) B x b m (grpN m rows rows.length) vs' rows.length gone0 ∧ Tx (FX x b vs) w (W.putObj D (.deferred none)) ∧ ∀ v ∈ vs', ∀ g, v.ownBlock = some g → (∃ u ∈ vs, u.ownBlock = some g) ∨ w.heap.size ≤ g) := by
        obtain ⟨vs', hi, hw⟩ := HR.out.ix
        obtain ⟨hs, _, hTV⟩ := HV.out
        refine ⟨vs', hi, (hTV.trans (ex' := FX x b vs) (Tx.of_below HB8.out) (fun _ _ e => e)).trans HR.out.tx (fun k _ e => ?_), fun v hv g hg => ?_⟩
        · rcases e with e | e | ⟨v, hv, e⟩
          · exact .inl e
          · exact .inr (.inl e)
          · exact .inr (.inr ⟨v, hs v hv, e⟩)
        · rcases hw v hv g hg with ⟨u, hu, e⟩ | e
          · exact .inl ⟨u, hs u hu, e⟩
          · exact .inr (by omega)
      clear hsl hKD hD HSQ HS8 HB8 HBX HV HH HA HOK HR
      gi_wp2
      exact ⟨by simp, .inl ⟨_, _, rfl, run_takeDeferred HKD.out, _, results_none rfl _ _ _, ⟨_, rfl⟩, HF.out⟩⟩
    case stop =>
      rintro D c k W _ _ h _
      exact h.elim
  · have hg' : ¬ gone = gone0 := fun e => hg e.symm
    clear hG
    gi_wp2_with fail
    refine ⟨trivial, (callsIn_wide.2 (empty_ix HI2.out)).mono ?_⟩
    rintro e w3 ⟨⟨vE, rfl⟩, hi3, t3⟩
    have hfx : ∀ k, FX x b [] k → k < w.heap.size ∧ k ≠ tt ∧ k ≠ mm ∧ sv.ownBlock ≠ some k := fun k hk => by
      have hk' : FX x b vs k := by
        rcases hk with e | e | ⟨v, hv, _⟩
        · exact .inl e
        · exact .inr (.inl e)
        · cases hv
      exact ⟨(HH.out.flt hk').2, (HA.out k hk').1, (HA.out k hk').2.1, (HA.out k hk').2.2⟩
    have hw2 := HB2.out.size
    have X3 : Boxed w3 (w.heap.size + 1) 66 (.pointer (some ⟨x, 0, none⟩)) := (t3.block _ X2.out.lt (fun e => by have := (hfx _ e).1; omega)).trans X2.out
    have l4 := load_pixX X3.cell
    have hss := store_intX hi3.rl (k := 3) rfl gone
    clear l1 l2 l3
    obtain ⟨V, hV⟩ : ∃ V, V = w3.setCell ⟨x, 3, none⟩ (.int .i64 gone) := ⟨_, rfl⟩
    rw [← hV] at hss
    have hoth : ∀ g, g ≠ x → V.heap[g]? = w3.heap[g]? := fun g hg => by rw [hV]; exact heap_setCell_other _ _ _ _ hg
    have t4 : Tx (FX x b []) w2 V := ⟨(by rw [hV]; exact t3.os), (by rw [hV]; exact t3.tape), (by rw [hV]; exact t3.output), by rw [hV]; simp only [World.size_setCell]; exact t3.size, fun g hg hne => (hoth g (fun e => hne (.inl e))).trans (t3.block g hg hne)⟩
    obtain ⟨n1, hn1⟩ : ∃ n1 : Nat, n1 = 0 := ⟨0, rfl⟩
    have HIV : Hid (Ix V B x b m (grpN m rows n1) [] n1 gone) := hn1 ▸ ⟨by rw [hV]; exact hi3.rl.set 3 _, hi3.map.of_block (hoth b (fun e => hi3.lo.2.2 e.symm)), rfl, by simp [grpN], fun i k l v h1 _ => (by simp [grpN] at h1), hi3.lo, fun v hv => (by cases hv), fun i j u v g h1 _ _ _ => (by simp at h1)⟩
    have hblk : ∀ k, k < w2.heap.size → ¬ FX x b [] k → V.heap[k]? = w2.heap[k]? := t4.block
    have HRV : Hid (Rel V B' tt mm sv rows ar gone) := ⟨World.rowIs.of_block HN2.out.rl (hblk tt (World.rowIs.lt HN2.out.rl) (fun e => (hfx _ e).2.1 rfl)), own_of_block HN2.out.own (fun g hg => hblk g (HN2.out.own.lt g hg).2 (fun e => (hfx _ e).2.2.2 hg)), HN2.out.map.of_block (hblk mm HN2.out.map.lt (fun e => (hfx _ e).2.2.1 rfl)), HN2.out.nd, HN2.out.ok, HN2.out.lo, HN2.out.ne⟩
    have KV : Hid (Boxed V w.heap.size 77 (.pointer (some ⟨tt, 0, none⟩))) := (hblk _ K2.out.lt (fun e => by have := (hfx _ e).1; omega)).trans K2.out
    have XV : Hid (Boxed V (w.heap.size + 1) 66 (.pointer (some ⟨x, 0, none⟩))) := (hblk _ X2.out.lt (fun e => by have := (hfx _ e).1; omega)).trans X2.out
    have TV : Tx (FX x b vs) w V := (Tx.of_below (ex := FX x b vs) HB2.out).trans t4 (fun k _ e => by
      rcases e with e | e | ⟨v, hv, _⟩
      · exact .inl e
      · exact .inr (.inl e)
      · cases hv)
    have hsv : ∀ u ∈ ([] : List Value), u ∈ vs := fun _ h => (by cases h)
    have hnV : n1 ≤ rows.length := hn1 ▸ Nat.zero_le _
    clear hn1 hV hoth hblk t4 t3 hi3 X3 hfx HI2 HN2 K2 X2 HB2 hw2
    gi_wp2_with fail
    clear hss l4
    have HV := Lib.hid (And.intro hsv (And.intro hnV TV))
    have y0 : Below V.heap.size V V.drew := (Below.refl _ _).drew
    have HC : Hid (Calls Try.prog 8 #[.pointer (some ⟨tt, 0, none⟩)] V.drew fun e u1 => e = .returned (.int .i64 (rows.length : Int)) ∧ Below V.heap.size V u1 ∧ Calls Try.prog 46 #[.pointer (some ⟨tt, 0, none⟩), .int .i64 ((n1 : Nat) : Int), .int .i64 (rows.length : Int)] u1 fun e u2 => ∃ b0 b1 b2, e = .returned (.func (.func 60) #[] #[.pointer (some ⟨b0, 0, none⟩), .pointer (some ⟨b1, 0, none⟩), .pointer (some ⟨b2, 0, none⟩)]) ∧ Below V.heap.size V u2 ∧ (u2.cell? ⟨b0, 0, none⟩ = some (.pointer (some ⟨tt, 0, none⟩)) ∧ u2.cell? ⟨b1, 0, none⟩ = some (.int .i64 ((n1 : Nat) : Int)) ∧ u2.cell? ⟨b2, 0, none⟩ = some (.int .i64 (rows.length : Int)) ∧ (b0 < u2.heap.size ∧ b1 < u2.heap.size ∧ b2 < u2.heap.size) ∧ V.heap.size ≤ b2 ∧ Below V.heap.size V u2)) := by
      refine (len_yes (HRV.out.keep y0)).mono ?_
      rintro e u ⟨rfl, rfl⟩
      refine ⟨rfl, y0, (range_yes tt _ _ _).mono ?_⟩
      rintro e u2 ⟨b0, b1, b2, rfl, k0, k1, k2, hbs, hb2, b8⟩
      have b9 : Below V.heap.size V u2 := y0.trans b8
      exact ⟨b0, b1, b2, rfl, b9, k0, k1, k2, hbs, hb2, b9⟩
    refine wpIn_wide.2 ?_
    refine wp_region_noPanic ?_
    refine wp_region_held (S := fun u => Below V.heap.size V u) (by kernel_rfl) ?_
    refine ixren (w5 := V) (S := fun u => Below V.heap.size V u) (x := x) (kb := w.heap.size) (xb := w.heap.size + 1) (tt := tt) (n := ((n1 : Nat) : Int)) (ln := (rows.length : Int)) (Pf := fun b0 b1 b2 u2 => u2.cell? ⟨b0, 0, none⟩ = some (.pointer (some ⟨tt, 0, none⟩)) ∧ u2.cell? ⟨b1, 0, none⟩ = some (.int .i64 ((n1 : Nat) : Int)) ∧ u2.cell? ⟨b2, 0, none⟩ = some (.int .i64 (rows.length : Int)) ∧ (b0 < u2.heap.size ∧ b1 < u2.heap.size ∧ b2 < u2.heap.size) ∧ V.heap.size ≤ b2 ∧ Below V.heap.size V u2) rfl rfl rfl rfl rfl rfl rfl rfl rfl rfl (by kernel_rfl) (by kernel_rfl) (by kernel_rfl) (by kernel_rfl) (by kernel_rfl) (fun _ _ _ _ _ h => h) (by simp) rfl rfl y0 (fun _ _ _ h => h) (fun u hu => load_prelX (bxB KV.out hu).cell) (fun u hu => load_pixX (bxB XV.out hu).cell) (fun u hu => load_intX (RL.at (HIV.out.keep hu).rl (j := 2) rfl)) HC.out ?_
    rintro wc b0 b1 b2 ⟨k0, k1, k2, hbs, hb2, b8⟩
    refine NoPanic.normal ?_
    rename_i hK
    refine hK _ _ ?_
    clear hK HC y0
    simp (config := { maxSteps := 8000000 }) only [Act.put, List.getElem_toArray, List.getElem_cons_zero, List.getElem_cons_succ, List.setIfInBounds_toArray, List.set_cons_succ, List.set_cons_zero]
    obtain ⟨g, hg8, hgt, hseq⟩ := range_seqX 7 HRV.out b8 (by omega) n1 hnV k0 k1 k2 hbs
    have HSQ := Lib.hid hseq
    have hVc := b8.size
    have hwV := TV.size
    have hflt : ∀ k, FX x b [] k → k < w.heap.size ∧ k ≠ tt ∧ sv.ownBlock ≠ some k := fun k hk => by
      have hk' : FX x b vs k := by
        rcases hk with e | e | ⟨v, hv, e⟩
        · exact .inl e
        · exact .inr (.inl e)
        · exact .inr (.inr ⟨v, hsv v hv, e⟩)
      exact ⟨(HH.out.flt hk').2, (HA.out k hk').1, (HA.out k hk').2.2⟩
    have hx : x < wc.heap.size ∧ b < wc.heap.size := ⟨by have := (hflt x (.inl rfl)).1; omega, by have := (hflt b (.inr (.inl rfl))).1; omega⟩
    have hgn : ¬ FX x b [] g := fun e => by
      rcases hgt with rfl | e2
      · exact (hflt _ e).2.1 rfl
      · exact (hflt _ e).2.2 e2
    have hbn : ¬ FX x b [] b2 := fun e => by
      have := (hflt _ e).1
      omega
    have hgU : g < wc.heap.size := by omega
    have hbU : b2 < wc.heap.size := hbs.2.2
    have HX8 := Lib.hid (bxB XV.out b8)
    have HBX : Hid (∀ j W, Rn wc B x b m rows gone [] j W → Boxed W (w.heap.size + 1) 66 (.pointer (some ⟨x, 0, none⟩))) := fun j W h =>
      (h.tx.block _ (HX8.out.lt) (fun e => by have := (hflt _ e).1; omega)).trans HX8.out
    have HS8 : Hid (Rn wc B x b m rows gone [] n1 wc) := ⟨⟨_, HIV.out.keep b8, fun v hv g hg => .inl ⟨v, hv, hg⟩⟩, Tx.refl _ _⟩
    have HOK := Lib.hid HRV.out.ok
    have HB8 := Lib.hid b8
    clear hseq HIV KV XV k0 k1 k2 HRV hgt HX8 TV hsv
    gi_wp2_with fail
    have hmo : Try.prog.follows .mixedOrders = true := by kernel_rfl
    refine wpIn_rangeTells rfl (by omega) (gf := 60) (lb := #[.pointer (some ⟨b0, 0, none⟩), .pointer (some ⟨b1, 0, none⟩), .pointer (some ⟨b2, 0, none⟩)]) rfl trivial (enters_of Try.func60 (by kernel_rfl) rfl) HSQ.out (fun h k => h.trans k)
      (fun W l o o' hl _ _ _ => ⟨World.putObj_heap_other (by omega), World.putObj_heap_other (by omega)⟩) (Below.refl _ _) (fun _ => rfl)
      (fun k W => Rn wc B x b m rows gone [] (n1 + k) W) (fun _ _ _ => False)
      (fun k X Y row hs hg hr => hs.kept hx hg hr)
      (fun _ _ _ _ _ hs _ _ => hs) HS8.out
      (fun k a' W => ∃ yb, a' = { tmps := #[.agg #[.pointer (some ⟨tt, 0, none⟩)], .pointer (some ⟨x, 0, none⟩), .pointer (some ⟨w.heap.size, 0, none⟩), .pointer (some ⟨w.heap.size + 1, 0, none⟩), .int .i64 gone, undef, .pointer (some ⟨yb, 0, none⟩), .pointer (some ⟨w.heap.size, 0, none⟩), .pointer (some ⟨tt, 0, none⟩), .int .i64 gone, .int .i64 gone, .pointer (some ⟨x, 0, none⟩), .pointer (some ⟨x, 0, none⟩), .pointer (some ⟨x, 3, none⟩), .int .i64 gone0, .bool true, .pointer (some ⟨x, 0, none⟩), vE, .pointer (some ⟨x, 0, none⟩), .int .i64 gone, .pointer (some ⟨x, 0, none⟩), .pointer (some ⟨x, 3, none⟩), .pointer (some ⟨w.heap.size, 0, none⟩), .pointer (some ⟨tt, 0, none⟩), .pointer (some ⟨x, 0, none⟩), .pointer (some ⟨x, 0, none⟩), .pointer (some ⟨x, 2, none⟩), .int .i64 ((n1 : Nat) : Int), .pointer (some ⟨w.heap.size, 0, none⟩), .pointer (some ⟨tt, 0, none⟩), .int .i64 (rows.length : Int), .func (.func 60) #[] #[.pointer (some ⟨b0, 0, none⟩), .pointer (some ⟨b1, 0, none⟩), .pointer (some ⟨b2, 0, none⟩)], .int .i64 ((n1 + k : Nat) : Int), .agg (List.map cellI (rows.getD (n1 + k) [])).toArray, undef, undef], defers := [] } ∧ RowAt W yb (rows.getD (n1 + k) []))
      (fun k a' _ X Y row hs hg hr => by
        obtain ⟨yb, e, hy⟩ := hs
        refine ⟨yb, e, (hg.block yb (RowAt.lt hy) (fun e' => ?_)).trans hy⟩
        obtain ⟨_, o, ho, hcl⟩ := hr _ e'.symm
        have hy' : X.heap[yb]? = some (.cells (rowC (rows.getD (n1 + k) [])) 34 (0, 0)) := hy
        rw [hy'] at ho
        cases ho
        simp [Obj.isCells] at hcl) ?assign ?body ?done ?stop
    case assign =>
      intro l k W K hk hi hK
      have hro : RowOk (rows.getD (n1 + k) []) := by
        have hk2 : n1 + k < rows.length := by omega
        exact HOK.out _ (by rw [List.getD, List.getElem?_eq_getElem hk2]; exact List.getElem_mem hk2)
      have h24y := hro.len
      have hst := store_rowX W _ h24y
      have hA := belowA (w := W) (.cells (rowC (rows.getD (n1 + k) [])) 34)
      have hsz := hi.tx.size
      have hK' := hK _ _ (KeepsFrom.below hA) ⟨hA.block g (by omega), hA.block b2 (by omega)⟩ (hi.keep hA) ⟨W.heap.size, rfl, rowAt_new W _⟩
      clear hK hi HSQ HS8 hA hro HBX HV HH HA HOK HB8
      unfold rowsAt rowV
      generalize rows.getD (n1 + k) [] = y at h24y hst hK' ⊢
      gi_wp2
      exact hK'
    case body =>
      rintro l k a' W hk hsl ⟨yb, rfl, hy⟩
      have hro : RowOk (rows.getD (n1 + k) []) := by
        have hk2 : n1 + k < rows.length := by omega
        exact HOK.out _ (by rw [List.getD, List.getElem?_eq_getElem hk2]; exact List.getElem_mem hk2)
      have l4 := load_pixX (HBX.out _ _ hsl).cell
      have HT := Lib.hid (take_rn hsl hx (by omega) hy hro (by omega))
      clear hsl hy HSQ HS8 hro HBX HV HH HA HOK HB8
      generalize rows.getD (n1 + k) [] = y
      gi_wp2_with fail
      refine ⟨trivial, (CallsIn.inRound l (callsIn_wide.2 HT.out)).mono ?_⟩
      rintro ee w3 ⟨⟨u, rfl⟩, hrn, hkf, hbl⟩
      have HR3 := Lib.hid hrn
      clear hrn HT
      gi_wp2
      exact ⟨hkf, ⟨hbl g hgU hgn, hbl b2 hbU hbn⟩, HR3.out⟩
    case done =>
      rintro D W hD hsl hKD
      have hnn : n1 + (rows.length - n1) = rows.length := by omega
      have HR : Hid (Rn wc B x b m rows gone [] rows.length (W.putObj D (.deferred none))) := by
        have h9 := hsl.put (o' := .deferred none) hx hD hKD rfl rfl
        rw [hnn] at h9
        exact h9
      have HKD := Lib.hid hKD
      have HF : Hid (∃ vs', Ix (W.putObj D (.deferred none)) B x b m (grpN m rows rows.length) vs' rows.length gone ∧ Tx (FX x b vs) w (W.putObj D (.deferred none)) ∧ ∀ v ∈ vs', ∀ g, v.ownBlock = some g → (∃ u ∈ vs, u.ownBlock = some g) ∨ w.heap.size ≤ g) := by
        obtain ⟨vs', hi, hw⟩ := HR.out.ix
        obtain ⟨hs, _, hTV⟩ := HV.out
        refine ⟨vs', hi, (hTV.trans (ex' := FX x b vs) (Tx.of_below HB8.out) (fun _ _ e => e)).trans HR.out.tx (fun k _ e => ?_), fun v hv g hg => ?_⟩
        · rcases e with e | e | ⟨v, hv, e⟩
          · exact .inl e
          · exact .inr (.inl e)
          · exact .inr (.inr ⟨v, hs v hv, e⟩)
        · rcases hw v hv g hg with ⟨u, hu, e⟩ | e
          · exact .inl ⟨u, hs u hu, e⟩
          · exact .inr (by omega)
      clear hsl hKD hD HSQ HS8 HB8 HBX HV HH HA HOK HR
      gi_wp2
      exact ⟨by simp, .inl ⟨_, _, rfl, run_takeDeferred HKD.out, _, results_none rfl _ _ _, ⟨_, rfl⟩, HF.out⟩⟩
    case stop =>
      rintro D c k W _ _ h _
      exact h.elim
end Go.Proofs.Ytekjoccbbamehaa
