import Derived.Test.YtlnhnpfgmiffpaaRelNo
import Derived.Test.YtlnhnpfgmiffpaaRpGen
namespace Go.Proofs.Ytlnhnpfgmiffpaa
open Go.RowKit Go.Maps
set_option linter.unusedVariables false
set_option linter.unusedSimpArgs false

def regHas_takes : List (List Nat × Nat) := [([], 0), ([0, 1], 2), ([0, 1, 2], 3), ([0, 1, 2, 3], 4), ([0, 1, 2, 3, 4], 5), ([0, 1, 2, 3, 4, 5], 6), ([0, 1, 2, 3, 4, 5, 6], 7), ([0, 1, 2, 3, 4, 5, 6, 7], 8), ([0, 1, 2, 3, 4, 5, 6, 7, 8], 9)]
set_option maxHeartbeats 3200000 in
theorem regHas {ops : Array Oper} {Q : Exit → Act → World → Prop} {S : World → Prop} {a0 : Act} {w5 : World} {pv : Value} {tyA : TypeId} {fh : Nat} {ty1 ty2 : Array TypeId}
    (q0 : isOpG ops 0 none (.move (.tmp 0)) (some 5))
    (q1 : isOpG ops 1 none (.call { callee := .value (.func 14), args := #[.tmp 5], argTypes := ty1 }) (some 6))
    (q2 : isOpG ops 2 none (.move (.tmp 6)) (some 7))
    (q3 : isOpG ops 3 (some (2, true)) (.move (.tmp 0)) (some 8))
    (q4 : isOpG ops 4 (some (2, true)) (.nilCheck (.tmp 8)) (some 9))
    (q5 : isOpG ops 5 (some (2, true)) (.fieldAddr tyA (.tmp 9) 0) (some 10))
    (q6 : isOpG ops 6 (some (2, true)) (.load 40 (.tmp 3)) (some 11))
    (q7 : isOpG ops 7 (some (2, true)) (.call { callee := .value (.func fh), args := #[.tmp 10, .tmp 11], argTypes := ty2 }) (some 12))
    (q8 : isOpG ops 8 none (.pick (.tmp 7) (.tmp 12) (.const (.bool false))) (some 13))
    (q9 : isOpG ops 9 none (.assign (.tmp 13)) (some 4))
    (hs : Region.noSelect ops = true) (hq : (regHas_takes.all fun p => Region.free .any ops (LR 10 p.1) p.2 && (Region.ready .any ops (LR 10 p.1)).contains p.2) = true)
    (r1 : Region.ready .any ops (LR 10 [0]) = [1])
    (rend : Region.ready .any ops (LR 10 [0, 1, 2, 3, 4, 5, 6, 7, 8, 9]) = [])
    (hQ : ∀ (d : Option Tmp) (v : Value) c a w, Q (.panic c) (a.put d v) w → Q (.panic c) a w)
    (hsz : 13 < a0.tmps.size) (e0 : a0.eval (.tmp 0) = pv)
    (hS0 : S w5.drew)
    (K1 : ∀ u, S u → Calls Try.prog 14 #[pv] u fun e w' => e = .returned (.bool false) ∧ w' = u)
    (F : ∀ (wc : World), S wc → Q .normal ((((((((((a0.put (some 5) (pv)).put (some 6) (.bool false)).put (some 7) (.bool false)).put (some 8) (undef)).put (some 9) (undef)).put (some 10) (undef)).put (some 11) (undef)).put (some 12) (undef)).put (some 13) (.bool false)).put (some 4) (.bool false)) wc) :
    wpAnyH Try.prog .any ops Q S 10 (LR 10 []) a0 w5.drew := by
  have hall : ∀ p ∈ regHas_takes, Region.free .any ops (LR 10 p.1) p.2 = true ∧ (Region.ready .any ops (LR 10 p.1)).contains p.2 = true := by
    intro p hp
    have := List.all_eq_true.1 hq p hp
    simpa using this
  unfold regHas_takes at hall
  obtain ⟨og2, hog2, _, _, dog2⟩ := isOpG_out q2
  obtain ⟨o0, ho, hg, hop, hd⟩ := isOpG_out q0
  have hfr := hall ([], 0) (by simp)
  refine wpAnyH_take (listed := LR 10 []) (v := pv) ho hs hfr.1 hfr.2 (hQ _ _) (Or.inl ⟨(wantedN hg), fun w' hS => run_move _ _ hop w' (by (repeat rw [eval_far _ _ (by decide)]); exact e0)⟩) hS0 ?_
  rw [hd, ← LR_snoc]
  clear ho hg hop hd hfr
  refine wpAnyH_all r1 (by simp) ?_
  intro i hi
  obtain rfl := List.mem_singleton.1 hi
  obtain ⟨o1, ho, hg, hop, hd⟩ := isOpG_out q1
  have x1_0 : ((a0.put (some 5) (pv))).eval (.tmp 5) = pv := (by (repeat (first | rw [eval_same _ _ (by (try simp only [put_size]); omega)] | rw [eval_far _ _ (by decide)])))
  refine wpOp_callG ho (wantedN hg) (run_callV 14 Try.func14 (by kernel_rfl) (by kernel_rfl) #[.tmp 5] _ hop #[pv] (by simp only [List.map_toArray, List.map_cons, List.map_nil, x1_0])) ?_
  refine (K1 _ hS0).mono ?_
  rintro e u1 ⟨rfl, rfl⟩
  refine ⟨_, rfl, hS0, ?_⟩
  rw [hd]
  clear ho hg hop hd
  rw [← LR_snoc]
  obtain ⟨o2, ho, hg, hop, hd⟩ := isOpG_out q2
  have hfr := hall ([0, 1], 2) (by simp)
  refine wpAnyH_take (listed := LR 10 [0, 1]) (v := .bool false) ho hs hfr.1 hfr.2 (hQ _ _) (Or.inl ⟨(wantedN hg), fun w' hS => run_move _ _ hop w' (by (repeat (first | rw [eval_same _ _ (by (try simp only [put_size]); omega)] | rw [eval_far _ _ (by decide)])))⟩) hS0 ?_
  rw [hd, ← LR_snoc]
  clear ho hg hop hd hfr
  obtain ⟨o3, ho, hg, hop, hd⟩ := isOpG_out q3
  have hfr := hall ([0, 1, 2], 3) (by simp)
  refine wpAnyH_take (listed := LR 10 [0, 1, 2]) (v := undef) ho hs hfr.1 hfr.2 (hQ _ _) (Or.inr ⟨((wantedB hog2 dog2 hg (by (repeat (first | rw [tmps_same _ _ (by (try simp only [put_size]); omega)] | rw [tmps_far _ _ (by decide)])))).trans (by decide)), rfl⟩) hS0 ?_
  rw [hd, ← LR_snoc]
  clear ho hg hop hd hfr
  obtain ⟨o4, ho, hg, hop, hd⟩ := isOpG_out q4
  have hfr := hall ([0, 1, 2, 3], 4) (by simp)
  refine wpAnyH_take (listed := LR 10 [0, 1, 2, 3]) (v := undef) ho hs hfr.1 hfr.2 (hQ _ _) (Or.inr ⟨((wantedB hog2 dog2 hg (by (repeat (first | rw [tmps_same _ _ (by (try simp only [put_size]); omega)] | rw [tmps_far _ _ (by decide)])))).trans (by decide)), rfl⟩) hS0 ?_
  rw [hd, ← LR_snoc]
  clear ho hg hop hd hfr
  obtain ⟨o5, ho, hg, hop, hd⟩ := isOpG_out q5
  have hfr := hall ([0, 1, 2, 3, 4], 5) (by simp)
  refine wpAnyH_take (listed := LR 10 [0, 1, 2, 3, 4]) (v := undef) ho hs hfr.1 hfr.2 (hQ _ _) (Or.inr ⟨((wantedB hog2 dog2 hg (by (repeat (first | rw [tmps_same _ _ (by (try simp only [put_size]); omega)] | rw [tmps_far _ _ (by decide)])))).trans (by decide)), rfl⟩) hS0 ?_
  rw [hd, ← LR_snoc]
  clear ho hg hop hd hfr
  obtain ⟨o6, ho, hg, hop, hd⟩ := isOpG_out q6
  have hfr := hall ([0, 1, 2, 3, 4, 5], 6) (by simp)
  refine wpAnyH_take (listed := LR 10 [0, 1, 2, 3, 4, 5]) (v := undef) ho hs hfr.1 hfr.2 (hQ _ _) (Or.inr ⟨((wantedB hog2 dog2 hg (by (repeat (first | rw [tmps_same _ _ (by (try simp only [put_size]); omega)] | rw [tmps_far _ _ (by decide)])))).trans (by decide)), rfl⟩) hS0 ?_
  rw [hd, ← LR_snoc]
  clear ho hg hop hd hfr
  obtain ⟨o7, ho, hg, hop, hd⟩ := isOpG_out q7
  have hfr := hall ([0, 1, 2, 3, 4, 5, 6], 7) (by simp)
  refine wpAnyH_take (listed := LR 10 [0, 1, 2, 3, 4, 5, 6]) (v := undef) ho hs hfr.1 hfr.2 (hQ _ _) (Or.inr ⟨((wantedB hog2 dog2 hg (by (repeat (first | rw [tmps_same _ _ (by (try simp only [put_size]); omega)] | rw [tmps_far _ _ (by decide)])))).trans (by decide)), rfl⟩) hS0 ?_
  rw [hd, ← LR_snoc]
  clear ho hg hop hd hfr
  obtain ⟨o8, ho, hg, hop, hd⟩ := isOpG_out q8
  have hfr := hall ([0, 1, 2, 3, 4, 5, 6, 7], 8) (by simp)
  refine wpAnyH_take (listed := LR 10 [0, 1, 2, 3, 4, 5, 6, 7]) (v := .bool false) ho hs hfr.1 hfr.2 (hQ _ _) (Or.inl ⟨(wantedN hg), fun w' hS => run_pickF _ _ hop w' (by (repeat (first | rw [eval_same _ _ (by (try simp only [put_size]); omega)] | rw [eval_far _ _ (by decide)]))) rfl⟩) hS0 ?_
  rw [hd, ← LR_snoc]
  clear ho hg hop hd hfr
  obtain ⟨o9, ho, hg, hop, hd⟩ := isOpG_out q9
  have hfr := hall ([0, 1, 2, 3, 4, 5, 6, 7, 8], 9) (by simp)
  refine wpAnyH_take (listed := LR 10 [0, 1, 2, 3, 4, 5, 6, 7, 8]) (v := .bool false) ho hs hfr.1 hfr.2 (hQ _ _) (Or.inl ⟨(wantedN hg), fun w' hS => run_assignV _ _ hop w' (by (repeat (first | rw [eval_same _ _ (by (try simp only [put_size]); omega)] | rw [eval_far _ _ (by decide)])))⟩) hS0 ?_
  rw [hd, ← LR_snoc]
  clear ho hg hop hd hfr
  exact wpAnyH_done rend (F _ hS0) _
def regRem_takes : List (List Nat × Nat) := [([], 0), ([0, 1], 2), ([0, 1, 2], 3), ([0, 1, 2, 3], 4), ([0, 1, 2, 3, 4], 5), ([0, 1, 2, 3, 4, 5], 6), ([0, 1, 2, 3, 4, 5, 6], 7), ([0, 1, 2, 3, 4, 5, 6, 7], 8), ([0, 1, 2, 3, 4, 5, 6, 7, 8], 9), ([0, 1, 2, 3, 4, 5, 6, 7, 8, 9], 10)]
set_option maxHeartbeats 3200000 in
theorem regRem {ops : Array Oper} {Q : Exit → Act → World → Prop} {S : World → Prop} {a0 : Act} {w5 : World} {pv : Value} {tyA : TypeId} {fh : Nat} {ty1 ty2 : Array TypeId}
    (q0 : isOpG ops 0 none (.move (.tmp 0)) (some 5))
    (q1 : isOpG ops 1 none (.call { callee := .value (.func 14), args := #[.tmp 5], argTypes := ty1 }) (some 6))
    (q2 : isOpG ops 2 none (.unOp .not 4 (.tmp 6)) (some 7))
    (q3 : isOpG ops 3 none (.move (.tmp 7)) (some 8))
    (q4 : isOpG ops 4 (some (3, false)) (.move (.tmp 0)) (some 9))
    (q5 : isOpG ops 5 (some (3, false)) (.nilCheck (.tmp 9)) (some 10))
    (q6 : isOpG ops 6 (some (3, false)) (.fieldAddr tyA (.tmp 10) 0) (some 11))
    (q7 : isOpG ops 7 (some (3, false)) (.load 40 (.tmp 3)) (some 12))
    (q8 : isOpG ops 8 (some (3, false)) (.call { callee := .value (.func fh), args := #[.tmp 11, .tmp 12], argTypes := ty2 }) (some 13))
    (q9 : isOpG ops 9 (some (3, false)) (.unOp .not 4 (.tmp 13)) (some 14))
    (q10 : isOpG ops 10 none (.pick (.tmp 8) (.const (.bool true)) (.tmp 14)) (some 15))
    (hs : Region.noSelect ops = true) (hq : (regRem_takes.all fun p => Region.free .any ops (LR 11 p.1) p.2 && (Region.ready .any ops (LR 11 p.1)).contains p.2) = true)
    (r1 : Region.ready .any ops (LR 11 [0]) = [1])
    (rend : Region.ready .any ops (LR 11 [0, 1, 2, 3, 4, 5, 6, 7, 8, 9, 10]) = [])
    (hQ : ∀ (d : Option Tmp) (v : Value) c a w, Q (.panic c) (a.put d v) w → Q (.panic c) a w)
    (hsz : 15 < a0.tmps.size) (e0 : a0.eval (.tmp 0) = pv)
    (hS0 : S w5.drew)
    (K1 : ∀ u, S u → Calls Try.prog 14 #[pv] u fun e w' => e = .returned (.bool false) ∧ w' = u)
    (F : ∀ (wc : World), S wc → Q .normal (((((((((((a0.put (some 5) (pv)).put (some 6) (.bool false)).put (some 7) (.bool true)).put (some 8) (.bool true)).put (some 9) (undef)).put (some 10) (undef)).put (some 11) (undef)).put (some 12) (undef)).put (some 13) (undef)).put (some 14) (undef)).put (some 15) (.bool true)) wc) :
    wpAnyH Try.prog .any ops Q S 11 (LR 11 []) a0 w5.drew := by
  have hall : ∀ p ∈ regRem_takes, Region.free .any ops (LR 11 p.1) p.2 = true ∧ (Region.ready .any ops (LR 11 p.1)).contains p.2 = true := by
    intro p hp
    have := List.all_eq_true.1 hq p hp
    simpa using this
  unfold regRem_takes at hall
  obtain ⟨og3, hog3, _, _, dog3⟩ := isOpG_out q3
  obtain ⟨o0, ho, hg, hop, hd⟩ := isOpG_out q0
  have hfr := hall ([], 0) (by simp)
  refine wpAnyH_take (listed := LR 11 []) (v := pv) ho hs hfr.1 hfr.2 (hQ _ _) (Or.inl ⟨(wantedN hg), fun w' hS => run_move _ _ hop w' (by (repeat rw [eval_far _ _ (by decide)]); exact e0)⟩) hS0 ?_
  rw [hd, ← LR_snoc]
  clear ho hg hop hd hfr
  refine wpAnyH_all r1 (by simp) ?_
  intro i hi
  obtain rfl := List.mem_singleton.1 hi
  obtain ⟨o1, ho, hg, hop, hd⟩ := isOpG_out q1
  have x1_0 : ((a0.put (some 5) (pv))).eval (.tmp 5) = pv := (by (repeat (first | rw [eval_same _ _ (by (try simp only [put_size]); omega)] | rw [eval_far _ _ (by decide)])))
  refine wpOp_callG ho (wantedN hg) (run_callV 14 Try.func14 (by kernel_rfl) (by kernel_rfl) #[.tmp 5] _ hop #[pv] (by simp only [List.map_toArray, List.map_cons, List.map_nil, x1_0])) ?_
  refine (K1 _ hS0).mono ?_
  rintro e u1 ⟨rfl, rfl⟩
  refine ⟨_, rfl, hS0, ?_⟩
  rw [hd]
  clear ho hg hop hd
  rw [← LR_snoc]
  obtain ⟨o2, ho, hg, hop, hd⟩ := isOpG_out q2
  have hfr := hall ([0, 1], 2) (by simp)
  refine wpAnyH_take (listed := LR 11 [0, 1]) (v := .bool true) ho hs hfr.1 hfr.2 (hQ _ _) (Or.inl ⟨(wantedN hg), fun w' hS => run_notV (b := false) _ _ hop w' (by (repeat (first | rw [eval_same _ _ (by (try simp only [put_size]); omega)] | rw [eval_far _ _ (by decide)])))⟩) hS0 ?_
  rw [hd, ← LR_snoc]
  clear ho hg hop hd hfr
  obtain ⟨o3, ho, hg, hop, hd⟩ := isOpG_out q3
  have hfr := hall ([0, 1, 2], 3) (by simp)
  refine wpAnyH_take (listed := LR 11 [0, 1, 2]) (v := .bool true) ho hs hfr.1 hfr.2 (hQ _ _) (Or.inl ⟨(wantedN hg), fun w' hS => run_move _ _ hop w' (by (repeat (first | rw [eval_same _ _ (by (try simp only [put_size]); omega)] | rw [eval_far _ _ (by decide)])))⟩) hS0 ?_
  rw [hd, ← LR_snoc]
  clear ho hg hop hd hfr
  obtain ⟨o4, ho, hg, hop, hd⟩ := isOpG_out q4
  have hfr := hall ([0, 1, 2, 3], 4) (by simp)
  refine wpAnyH_take (listed := LR 11 [0, 1, 2, 3]) (v := undef) ho hs hfr.1 hfr.2 (hQ _ _) (Or.inr ⟨((wantedB hog3 dog3 hg (by (repeat (first | rw [tmps_same _ _ (by (try simp only [put_size]); omega)] | rw [tmps_far _ _ (by decide)])))).trans (by decide)), rfl⟩) hS0 ?_
  rw [hd, ← LR_snoc]
  clear ho hg hop hd hfr
  obtain ⟨o5, ho, hg, hop, hd⟩ := isOpG_out q5
  have hfr := hall ([0, 1, 2, 3, 4], 5) (by simp)
  refine wpAnyH_take (listed := LR 11 [0, 1, 2, 3, 4]) (v := undef) ho hs hfr.1 hfr.2 (hQ _ _) (Or.inr ⟨((wantedB hog3 dog3 hg (by (repeat (first | rw [tmps_same _ _ (by (try simp only [put_size]); omega)] | rw [tmps_far _ _ (by decide)])))).trans (by decide)), rfl⟩) hS0 ?_
  rw [hd, ← LR_snoc]
  clear ho hg hop hd hfr
  obtain ⟨o6, ho, hg, hop, hd⟩ := isOpG_out q6
  have hfr := hall ([0, 1, 2, 3, 4, 5], 6) (by simp)
  refine wpAnyH_take (listed := LR 11 [0, 1, 2, 3, 4, 5]) (v := undef) ho hs hfr.1 hfr.2 (hQ _ _) (Or.inr ⟨((wantedB hog3 dog3 hg (by (repeat (first | rw [tmps_same _ _ (by (try simp only [put_size]); omega)] | rw [tmps_far _ _ (by decide)])))).trans (by decide)), rfl⟩) hS0 ?_
  rw [hd, ← LR_snoc]
  clear ho hg hop hd hfr
  obtain ⟨o7, ho, hg, hop, hd⟩ := isOpG_out q7
  have hfr := hall ([0, 1, 2, 3, 4, 5, 6], 7) (by simp)
  refine wpAnyH_take (listed := LR 11 [0, 1, 2, 3, 4, 5, 6]) (v := undef) ho hs hfr.1 hfr.2 (hQ _ _) (Or.inr ⟨((wantedB hog3 dog3 hg (by (repeat (first | rw [tmps_same _ _ (by (try simp only [put_size]); omega)] | rw [tmps_far _ _ (by decide)])))).trans (by decide)), rfl⟩) hS0 ?_
  rw [hd, ← LR_snoc]
  clear ho hg hop hd hfr
  obtain ⟨o8, ho, hg, hop, hd⟩ := isOpG_out q8
  have hfr := hall ([0, 1, 2, 3, 4, 5, 6, 7], 8) (by simp)
  refine wpAnyH_take (listed := LR 11 [0, 1, 2, 3, 4, 5, 6, 7]) (v := undef) ho hs hfr.1 hfr.2 (hQ _ _) (Or.inr ⟨((wantedB hog3 dog3 hg (by (repeat (first | rw [tmps_same _ _ (by (try simp only [put_size]); omega)] | rw [tmps_far _ _ (by decide)])))).trans (by decide)), rfl⟩) hS0 ?_
  rw [hd, ← LR_snoc]
  clear ho hg hop hd hfr
  obtain ⟨o9, ho, hg, hop, hd⟩ := isOpG_out q9
  have hfr := hall ([0, 1, 2, 3, 4, 5, 6, 7, 8], 9) (by simp)
  refine wpAnyH_take (listed := LR 11 [0, 1, 2, 3, 4, 5, 6, 7, 8]) (v := undef) ho hs hfr.1 hfr.2 (hQ _ _) (Or.inr ⟨((wantedB hog3 dog3 hg (by (repeat (first | rw [tmps_same _ _ (by (try simp only [put_size]); omega)] | rw [tmps_far _ _ (by decide)])))).trans (by decide)), rfl⟩) hS0 ?_
  rw [hd, ← LR_snoc]
  clear ho hg hop hd hfr
  obtain ⟨o10, ho, hg, hop, hd⟩ := isOpG_out q10
  have hfr := hall ([0, 1, 2, 3, 4, 5, 6, 7, 8, 9], 10) (by simp)
  refine wpAnyH_take (listed := LR 11 [0, 1, 2, 3, 4, 5, 6, 7, 8, 9]) (v := .bool true) ho hs hfr.1 hfr.2 (hQ _ _) (Or.inl ⟨(wantedN hg), fun w' hS => run_pickT _ _ hop w' (by (repeat (first | rw [eval_same _ _ (by (try simp only [put_size]); omega)] | rw [eval_far _ _ (by decide)]))) rfl⟩) hS0 ?_
  rw [hd, ← LR_snoc]
  clear ho hg hop hd hfr
  exact wpAnyH_done rend (F _ hS0) _
end Go.Proofs.Ytlnhnpfgmiffpaa
