import Derived.Test.YtekjoccbbamehaaIxTake
namespace Go.Proofs.Ytekjoccbbamehaa
open Go.RowKit Go.Maps
set_option linter.unusedVariables false
set_option linter.unusedSimpArgs false
attribute [local go_sem ↓] Go.wp_at_zero Go.wp_at_succ
attribute [-go_sem] loadVar storeVar

theorem run_fldX0 (ev : Operand → Value) (o : Oper) {x : Operand} (hop : o.op = .fieldAddr 74 x 0) (w : World) {b : Nat} (hx : ev x = .pointer (some ⟨b, 0, none⟩)) : (execOp ev o).run Try.prog w = .ok (.value (.pointer (some ⟨b, 0, none⟩))) w := by
  simp only [execOp, hop, hx]
  go_simp
theorem run_lookX (ev : Operand → Value) (o : Oper) {x y : Operand} {ty : TypeId} {ok : Bool} (hop : o.op = .lookup ty x y ok) (w : World) {a b v : Value} (hx : ev x = a) (hy : ev y = b) (hr : (Instr.lookup ty a b ok).run Try.prog w = .ok v w) : (execOp ev o).run Try.prog w = .ok (.value v) w := by
  simp only [execOp, hop, hx, hy]
  simp [hr, Result.andThen]
theorem ofK_yes : ∀ {g : Grp} {i : Nat} {k : List Int} {l : List Nat}, (g.map Prod.fst).Nodup → g[i]? = some (k, l) → ofK g k = l
  | [], i, k, l, _, h => by simp at h
  | p :: g, 0, k, l, nd, h => by
    have e : p = (k, l) := by simpa using h
    subst e
    simp [ofK]
  | p :: g, i + 1, k, l, nd, h => by
    rw [List.map_cons, List.nodup_cons] at nd
    have h' : g[i]? = some (k, l) := by simpa using h
    have hne : ¬ p.1 = k := fun e => nd.1 (List.mem_map.2 ⟨(k, l), List.mem_of_getElem? h', e.symm⟩)
    rw [ofK, if_neg hne]
    exact ofK_yes nd.2 h'
theorem ofK_no : ∀ {g : Grp} {k : List Int}, k ∉ g.map Prod.fst → ofK g k = []
  | [], k, _ => rfl
  | p :: g, k, h => by
    rw [List.map_cons, List.mem_cons] at h
    rw [ofK, if_neg (fun e => h (.inl e.symm))]
    exact ofK_no (fun e => h (.inr e))
/-- what a look-up in an index gives -/
theorem Ix.look {w : World} {B x b : Nat} {m : Int} {G : Grp} {vs : List Value} {n : Nat} {gone : Int} (h : Ix w B x b m G vs n gone) {k : List Int} (hk : RowOk k) :
    ∃ v, (∀ u, Below w.heap.size w u → (Instr.lookup 72 (.map (some b)) (rowV k) false).run Try.prog u = .ok v u) ∧ w.ownsRow B 3 1 v (ofK G k).length (numC (ofK G k)) ∧ (v = .slice none 0 0 ∨ v ∈ vs) := by
  have hlz : (G.map Prod.fst).length = vs.length := by rw [List.length_map, h.len]
  by_cases hm : k ∈ G.map Prod.fst
  · obtain ⟨i, hi⟩ := List.getElem?_of_mem hm
    rw [List.getElem?_map] at hi
    obtain ⟨⟨k', l⟩, hg, rfl⟩ := Option.map_eq_some_iff.1 hi
    have hil : i < vs.length := by rw [h.len]; exact (List.getElem?_eq_some_iff.1 hg).1
    have hv : vs[i]? = some vs[i] := List.getElem?_eq_getElem hil
    generalize vs[i] = v at hv
    have hki : (G.map Prod.fst)[i]? = some k' := by rw [List.getElem?_map, hg]; rfl
    refine ⟨v, fun u hu => (h.map.below hu).look_yes (by rw [zip_fst _ _ hlz]; exact h.nd) (zip_at hki hv), ?_, .inr (List.mem_of_getElem? hv)⟩
    rw [ofK_yes h.nd hg]
    exact h.own i k' l v hg hv
  · refine ⟨.slice none 0 0, fun u hu => (h.map.below hu).look_no hk (by rw [zip_fst _ _ hlz]; exact hm), ?_, .inl rfl⟩
    rw [ofK_no hm]
    exact World.ownsRow_nil _ _ _ _
def ixof_takes : List (List Nat × Nat) := [([], 0), ([0], 1), ([0, 1], 2), ([0, 1, 2], 3), ([0, 1, 2, 3], 4), ([0, 1, 2, 3, 4], 5), ([0, 1, 2, 3, 4, 5], 6), ([0, 1, 2, 3, 4, 5, 6], 7), ([0, 1, 2, 3, 4, 5, 6, 7], 8), ([0, 1, 2, 3, 4, 5, 6, 7, 8, 9], 10), ([0, 1, 2, 3, 4, 5, 6, 7, 8, 9, 10], 11)]
set_option maxHeartbeats 3200000 in
theorem ixof {ops : Array Oper} {Q : Exit → Act → World → Prop} {S : World → Prop} {a0 : Act} {w5 : World} {x b rb : Nat} {m : Int} {ka : Array Value} {v : Value} {ty1 : Array TypeId}
    (q0 : isOpG ops 0 none (.move (.tmp 0)) (some 5))
    (q1 : isOpG ops 1 none (.nilCheck (.tmp 5)) (some 6))
    (q2 : isOpG ops 2 none (.fieldAddr 74 (.tmp 6) 1) (some 7))
    (q3 : isOpG ops 3 none (.load 72 (.tmp 7)) (some 8))
    (q4 : isOpG ops 4 none (.move (.tmp 0)) (some 9))
    (q5 : isOpG ops 5 none (.nilCheck (.tmp 9)) (some 10))
    (q6 : isOpG ops 6 none (.fieldAddr 74 (.tmp 10) 0) (some 11))
    (q7 : isOpG ops 7 none (.load 24 (.tmp 11)) (some 12))
    (q8 : isOpG ops 8 none (.move (.tmp 1)) (some 13))
    (q9 : isOpG ops 9 none (.call { callee := .value (.func 36), args := #[.tmp 12, .tmp 13], argTypes := ty1 }) (some 14))
    (q10 : isOpG ops 10 none (.lookup 72 (.tmp 8) (.tmp 14) false) (some 15))
    (q11 : isOpG ops 11 none (.assign (.tmp 15)) (some 4))
    (hs : Region.noSelect ops = true) (hq : (ixof_takes.all fun p => Region.free .any ops (LR 12 p.1) p.2 && (Region.ready .any ops (LR 12 p.1)).contains p.2) = true)
    (r9 : Region.ready .any ops (LR 12 [0, 1, 2, 3, 4, 5, 6, 7, 8]) = [9])
    (rend : Region.ready .any ops (LR 12 [0, 1, 2, 3, 4, 5, 6, 7, 8, 9, 10, 11]) = [])
    (hQ : ∀ (d : Option Tmp) (v : Value) c a w, Q (.panic c) (a.put d v) w → Q (.panic c) a w)
    (hsz : 15 < a0.tmps.size) (e0 : a0.eval (.tmp 0) = .pointer (some ⟨x, 0, none⟩)) (e1 : a0.eval (.tmp 1) = .pointer (some ⟨rb, 0, none⟩))
    (hS0 : S w5.drew)
    (keep : ∀ u u', S u → S u' → S u') (LM : ∀ u, S u → (loadVar 72 ⟨x, 1, none⟩).run Try.prog u = .ok (.map (some b)) u) (LK : ∀ u, S u → (loadVar 24 ⟨x, 0, none⟩).run Try.prog u = .ok (.int .u32 m) u) (LL : ∀ u, S u → (Instr.lookup 72 (.map (some b)) (.agg ka) false).run Try.prog u = .ok v u)
    (C1 : Calls Try.prog 36 #[.int .u32 m, .pointer (some ⟨rb, 0, none⟩)] w5.drew fun e u1 => e = .returned (.agg ka) ∧ S u1)
    (F : ∀ (wc : World), S wc → Q .normal ((((((((((((a0.put (some 5) (.pointer (some ⟨x, 0, none⟩))).put (some 6) (.pointer (some ⟨x, 0, none⟩))).put (some 7) (.pointer (some ⟨x, 1, none⟩))).put (some 8) (.map (some b))).put (some 9) (.pointer (some ⟨x, 0, none⟩))).put (some 10) (.pointer (some ⟨x, 0, none⟩))).put (some 11) (.pointer (some ⟨x, 0, none⟩))).put (some 12) (.int .u32 m)).put (some 13) (.pointer (some ⟨rb, 0, none⟩))).put (some 14) (.agg ka)).put (some 15) (v)).put (some 4) (v)) wc) :
    wpAnyH Try.prog .any ops Q S 12 (LR 12 []) a0 w5.drew := by
  have hall : ∀ p ∈ ixof_takes, Region.free .any ops (LR 12 p.1) p.2 = true ∧ (Region.ready .any ops (LR 12 p.1)).contains p.2 = true := by
    intro p hp
    have := List.all_eq_true.1 hq p hp
    simpa using this
  unfold ixof_takes at hall
  obtain ⟨o0, ho, hg, hop, hd⟩ := isOpG_out q0
  have hfr := hall ([], 0) (by simp)
  refine wpAnyH_take (listed := LR 12 []) (v := .pointer (some ⟨x, 0, none⟩)) ho hs hfr.1 hfr.2 (hQ _ _) (Or.inl ⟨(wantedN hg), fun w' hS => run_move _ _ hop w' (by (repeat rw [eval_far _ _ (by decide)]); exact e0)⟩) hS0 ?_
  rw [hd, ← LR_snoc]
  clear ho hg hop hd hfr
  obtain ⟨o1, ho, hg, hop, hd⟩ := isOpG_out q1
  have hfr := hall ([0], 1) (by simp)
  refine wpAnyH_take (listed := LR 12 [0]) (v := .pointer (some ⟨x, 0, none⟩)) ho hs hfr.1 hfr.2 (hQ _ _) (Or.inl ⟨(wantedN hg), fun w' hS => run_nilX _ _ hop w' (by (repeat (first | rw [eval_same _ _ (by (try simp only [put_size]); omega)] | rw [eval_far _ _ (by decide)])))⟩) hS0 ?_
  rw [hd, ← LR_snoc]
  clear ho hg hop hd hfr
  obtain ⟨o2, ho, hg, hop, hd⟩ := isOpG_out q2
  have hfr := hall ([0, 1], 2) (by simp)
  refine wpAnyH_take (listed := LR 12 [0, 1]) (v := .pointer (some ⟨x, 1, none⟩)) ho hs hfr.1 hfr.2 (hQ _ _) (Or.inl ⟨(wantedN hg), fun w' hS => run_fldX1 _ _ hop w' (by (repeat (first | rw [eval_same _ _ (by (try simp only [put_size]); omega)] | rw [eval_far _ _ (by decide)])))⟩) hS0 ?_
  rw [hd, ← LR_snoc]
  clear ho hg hop hd hfr
  obtain ⟨o3, ho, hg, hop, hd⟩ := isOpG_out q3
  have hfr := hall ([0, 1, 2], 3) (by simp)
  refine wpAnyH_take (listed := LR 12 [0, 1, 2]) (v := .map (some b)) ho hs hfr.1 hfr.2 (hQ _ _) (Or.inl ⟨(wantedN hg), fun w' hS => run_loadX _ _ hop w' (by (repeat (first | rw [eval_same _ _ (by (try simp only [put_size]); omega)] | rw [eval_far _ _ (by decide)]))) (LM _ hS)⟩) hS0 ?_
  rw [hd, ← LR_snoc]
  clear ho hg hop hd hfr
  obtain ⟨o4, ho, hg, hop, hd⟩ := isOpG_out q4
  have hfr := hall ([0, 1, 2, 3], 4) (by simp)
  refine wpAnyH_take (listed := LR 12 [0, 1, 2, 3]) (v := .pointer (some ⟨x, 0, none⟩)) ho hs hfr.1 hfr.2 (hQ _ _) (Or.inl ⟨(wantedN hg), fun w' hS => run_move _ _ hop w' (by (repeat rw [eval_far _ _ (by decide)]); exact e0)⟩) hS0 ?_
  rw [hd, ← LR_snoc]
  clear ho hg hop hd hfr
  obtain ⟨o5, ho, hg, hop, hd⟩ := isOpG_out q5
  have hfr := hall ([0, 1, 2, 3, 4], 5) (by simp)
  refine wpAnyH_take (listed := LR 12 [0, 1, 2, 3, 4]) (v := .pointer (some ⟨x, 0, none⟩)) ho hs hfr.1 hfr.2 (hQ _ _) (Or.inl ⟨(wantedN hg), fun w' hS => run_nilX _ _ hop w' (by (repeat (first | rw [eval_same _ _ (by (try simp only [put_size]); omega)] | rw [eval_far _ _ (by decide)])))⟩) hS0 ?_
  rw [hd, ← LR_snoc]
  clear ho hg hop hd hfr
  obtain ⟨o6, ho, hg, hop, hd⟩ := isOpG_out q6
  have hfr := hall ([0, 1, 2, 3, 4, 5], 6) (by simp)
  refine wpAnyH_take (listed := LR 12 [0, 1, 2, 3, 4, 5]) (v := .pointer (some ⟨x, 0, none⟩)) ho hs hfr.1 hfr.2 (hQ _ _) (Or.inl ⟨(wantedN hg), fun w' hS => run_fldX0 _ _ hop w' (by (repeat (first | rw [eval_same _ _ (by (try simp only [put_size]); omega)] | rw [eval_far _ _ (by decide)])))⟩) hS0 ?_
  rw [hd, ← LR_snoc]
  clear ho hg hop hd hfr
  obtain ⟨o7, ho, hg, hop, hd⟩ := isOpG_out q7
  have hfr := hall ([0, 1, 2, 3, 4, 5, 6], 7) (by simp)
  refine wpAnyH_take (listed := LR 12 [0, 1, 2, 3, 4, 5, 6]) (v := .int .u32 m) ho hs hfr.1 hfr.2 (hQ _ _) (Or.inl ⟨(wantedN hg), fun w' hS => run_loadX _ _ hop w' (by (repeat (first | rw [eval_same _ _ (by (try simp only [put_size]); omega)] | rw [eval_far _ _ (by decide)]))) (LK _ hS)⟩) hS0 ?_
  rw [hd, ← LR_snoc]
  clear ho hg hop hd hfr
  obtain ⟨o8, ho, hg, hop, hd⟩ := isOpG_out q8
  have hfr := hall ([0, 1, 2, 3, 4, 5, 6, 7], 8) (by simp)
  refine wpAnyH_take (listed := LR 12 [0, 1, 2, 3, 4, 5, 6, 7]) (v := .pointer (some ⟨rb, 0, none⟩)) ho hs hfr.1 hfr.2 (hQ _ _) (Or.inl ⟨(wantedN hg), fun w' hS => run_move _ _ hop w' (by (repeat rw [eval_far _ _ (by decide)]); exact e1)⟩) hS0 ?_
  rw [hd, ← LR_snoc]
  clear ho hg hop hd hfr
  refine wpAnyH_all r9 (by simp) ?_
  intro i hi
  obtain rfl := List.mem_singleton.1 hi
  obtain ⟨o9, ho, hg, hop, hd⟩ := isOpG_out q9
  have x9_0 : ((((((((((a0.put (some 5) (.pointer (some ⟨x, 0, none⟩))).put (some 6) (.pointer (some ⟨x, 0, none⟩))).put (some 7) (.pointer (some ⟨x, 1, none⟩))).put (some 8) (.map (some b))).put (some 9) (.pointer (some ⟨x, 0, none⟩))).put (some 10) (.pointer (some ⟨x, 0, none⟩))).put (some 11) (.pointer (some ⟨x, 0, none⟩))).put (some 12) (.int .u32 m)).put (some 13) (.pointer (some ⟨rb, 0, none⟩)))).eval (.tmp 12) = .int .u32 m := (by (repeat (first | rw [eval_same _ _ (by (try simp only [put_size]); omega)] | rw [eval_far _ _ (by decide)])))
  have x9_1 : ((((((((((a0.put (some 5) (.pointer (some ⟨x, 0, none⟩))).put (some 6) (.pointer (some ⟨x, 0, none⟩))).put (some 7) (.pointer (some ⟨x, 1, none⟩))).put (some 8) (.map (some b))).put (some 9) (.pointer (some ⟨x, 0, none⟩))).put (some 10) (.pointer (some ⟨x, 0, none⟩))).put (some 11) (.pointer (some ⟨x, 0, none⟩))).put (some 12) (.int .u32 m)).put (some 13) (.pointer (some ⟨rb, 0, none⟩)))).eval (.tmp 13) = .pointer (some ⟨rb, 0, none⟩) := (by (repeat (first | rw [eval_same _ _ (by (try simp only [put_size]); omega)] | rw [eval_far _ _ (by decide)])))
  refine wpOp_callG ho (wantedN hg) (run_callV 36 Try.func36 (by kernel_rfl) (by kernel_rfl) #[.tmp 12, .tmp 13] _ hop #[.int .u32 m, .pointer (some ⟨rb, 0, none⟩)] (by simp only [List.map_toArray, List.map_cons, List.map_nil, x9_0, x9_1])) ?_
  refine (C1).mono ?_
  rintro e u1 ⟨rfl, hS1⟩
  have hS9 := keep _ _ hS0 hS1
  refine ⟨_, rfl, hS9, ?_⟩
  rw [hd]
  clear ho hg hop hd
  rw [← LR_snoc]
  obtain ⟨o10, ho, hg, hop, hd⟩ := isOpG_out q10
  have hfr := hall ([0, 1, 2, 3, 4, 5, 6, 7, 8, 9], 10) (by simp)
  refine wpAnyH_take (listed := LR 12 [0, 1, 2, 3, 4, 5, 6, 7, 8, 9]) (v := v) ho hs hfr.1 hfr.2 (hQ _ _) (Or.inl ⟨(wantedN hg), fun w' hS => run_lookX _ _ hop w' (by (repeat (first | rw [eval_same _ _ (by (try simp only [put_size]); omega)] | rw [eval_far _ _ (by decide)]))) (by (repeat (first | rw [eval_same _ _ (by (try simp only [put_size]); omega)] | rw [eval_far _ _ (by decide)]))) (LL _ hS)⟩) hS9 ?_
  rw [hd, ← LR_snoc]
  clear ho hg hop hd hfr
  obtain ⟨o11, ho, hg, hop, hd⟩ := isOpG_out q11
  have hfr := hall ([0, 1, 2, 3, 4, 5, 6, 7, 8, 9, 10], 11) (by simp)
  refine wpAnyH_take (listed := LR 12 [0, 1, 2, 3, 4, 5, 6, 7, 8, 9, 10]) (v := v) ho hs hfr.1 hfr.2 (hQ _ _) (Or.inl ⟨(wantedN hg), fun w' hS => run_assignV _ _ hop w' (by (repeat (first | rw [eval_same _ _ (by (try simp only [put_size]); omega)] | rw [eval_far _ _ (by decide)])))⟩) hS9 ?_
  rw [hd, ← LR_snoc]
  clear ho hg hop hd hfr
  exact wpAnyH_done rend (F _ hS9) _
set_option maxHeartbeats 1600000 in
set_option maxRecDepth 100000 in
theorem of_ix {w : World} {B x b : Nat} {m : Int} {G : Grp} {vs : List Value} {n : Nat} {gone : Int} (h : Ix w B x b m G vs n gone) {rb : Nat} {r : List Int} (hr : RowAt w rb r) (hok : RowOk r) :
    Calls Try.prog 27 #[.pointer (some ⟨x, 0, none⟩), .pointer (some ⟨rb, 0, none⟩)] w fun e w' => ∃ v, e = .returned v ∧ w'.ownsRow B 3 1 v (ofK G (underL m r)).length (numC (ofK G (underL m r))) ∧ (v = .slice none 0 0 ∨ v ∈ vs) ∧ Below w.heap.size w w' := by
  have y0 : Below w.heap.size w w.drew := (Below.refl _ _).drew
  have HC : Hid (Calls Try.prog 36 #[.int .u32 m, .pointer (some ⟨rb, 0, none⟩)] w.drew fun e u1 => e = .returned (.agg (List.map cellI (underL m r)).toArray) ∧ Below w.heap.size w u1) := (key_any m r hok.len rb w.drew (hr.below y0)).mono (by
    rintro e u ⟨rfl, hb⟩
    exact ⟨rfl, y0.trans hb⟩)
  obtain ⟨v, hlk, hown, hv⟩ := h.look (underL_ok (m := m) hok)
  have HLK := Lib.hid hlk
  have HOV := Lib.hid hown
  have HV := Lib.hid hv
  have HR := Lib.hid h.rl
  unfold rowV at HLK
  clear h hr hok hlk hown hv
  go_enter Try.func27, Try.ntmps27
  go_upto_region 1 with fail
  refine wp_region_noPanic ?_
  refine wp_region_held (S := fun u => Below w.heap.size w u) (by kernel_rfl) ?_
  refine ixof (w5 := w) (S := fun u => Below w.heap.size w u) (x := x) (b := b) (rb := rb) (m := m) (ka := (List.map cellI (underL m r)).toArray) (v := v) rfl rfl rfl rfl rfl rfl rfl rfl rfl rfl rfl rfl (by kernel_rfl) (by kernel_rfl) (by kernel_rfl) (by kernel_rfl) (fun _ _ _ _ _ h => h) (by simp) rfl rfl y0 (fun _ _ _ h => h) (fun u hu => load_mapX (RL.at (RL.below HR.out hu) (j := 1) rfl)) (fun u hu => load_maskX (RL.at (RL.below HR.out hu) (j := 0) rfl)) HLK.out HC.out ?_
  intro wc hwc
  have HF := Lib.hid hwc
  refine NoPanic.normal ?_
  rename_i hK
  refine hK _ _ ?_
  clear HC HLK hK hwc y0
  simp (config := { maxSteps := 8000000 }) only [Act.put, List.getElem_toArray, List.getElem_cons_zero, List.getElem_cons_succ, List.setIfInBounds_toArray, List.set_cons_succ, List.set_cons_zero]
  go_wp2
  go_ret
  exact ⟨v, rfl, own_below HOV.out HF.out, HV.out, HF.out⟩
end Go.Proofs.Ytekjoccbbamehaa
