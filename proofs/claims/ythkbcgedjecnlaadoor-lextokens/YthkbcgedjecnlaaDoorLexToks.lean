import Derived.Test.YthkbcgedjecnlaaDoorLexFirst
import Derived.WalkMore
import Derived.Scope
namespace Go.Proofs.YthkbcgedjecnlaaDoor
open Go.RowKit Go.Maps
set_option linter.unusedVariables false
set_option linter.unusedSimpArgs false
attribute [local go_sem ↓] Go.wp_at_zero Go.wp_at_succ

def Tk.cells (t : Tk) : List Value := [.int .i8 t.k, .string ⟨t.s.toArray⟩, .int .i64 t.n, .int .i64 t.a]
def Res.app (pre : List Tk) : Res → Res
  | .bad e a => .bad e a
  | .ok ts => .ok (pre ++ ts)
def Res.ts : Res → List Tk
  | .bad _ _ => []
  | .ok ts => ts
def Res.flt : Res → Value
  | .bad e a => .agg #[.int .i64 e, .int .i64 a]
  | .ok _ => .agg #[.int .i64 0, .int .i64 0]
theorem Res.app_nil (r : Res) : r.app [] = r := by cases r <;> rfl
theorem Res.app_cons (pre : List Tk) (t : Tk) (r : Res) : (r.cons t).app pre = r.app (pre ++ [t]) := by cases r <;> simp [Res.app, Res.cons]
theorem cells_snoc (pre : List Tk) (t : Tk) : (pre ++ [t]).flatMap Tk.cells = pre.flatMap Tk.cells ++ t.cells := by simp
theorem cells_len (pre : List Tk) : (pre.flatMap Tk.cells).length = pre.length * 4 := by
  induction pre with
  | nil => rfl
  | cons t r ih => simp [Tk.cells, ih]; omega
theorem numT_bad {l : List UInt8} {e : Int} (h : numT l = .bad e) : e = 32 := by
  unfold numT at h
  repeat' split at h
  all_goals simp at h
  all_goals exact h.symm
theorem firstT_bad {l : List UInt8} {e : Int} (h : firstT l = .bad e) : e = 30 ∨ e = 31 ∨ e = 32 ∨ e = 33 := by
  unfold firstT at h
  split at h
  · simp at h; omega
  · split at h
    · unfold wordT at h
      repeat' split at h
      all_goals simp at h
      all_goals omega
    · split at h
      · unfold blankT at h
        repeat' split at h
        all_goals simp at h
        all_goals omega
      · split at h
        · have := numT_bad h; omega
        · split at h
          · unfold quotT at h
            repeat' split at h
            all_goals simp at h
            all_goals omega
          · unfold signT at h
            repeat' split at h
            all_goals simp at h
            all_goals omega

/-- the cells of a fault in block b, that may be written -/
def Own2 (w : World) (b : Nat) : Prop := (∃ y0 y1, w.cell? ⟨b, 0, none⟩ = some y0 ∧ w.cell? ⟨b, 1, none⟩ = some y1) ∧
  w.frozen? ⟨b, 0, none⟩ = false ∧ w.frozen? ⟨b, 1, none⟩ = false ∧ b < w.heap.size
theorem own2 {w w1 : World} {a b : Value} {T : TypeId} (hb : Below (w.alloc (.cells #[a, b] T)).heap.size (w.alloc (.cells #[a, b] T)) w1) : Own2 w1 w.heap.size :=
  ⟨⟨_, _, kept_cell hb 0 _ rfl, kept_cell hb 1 _ rfl⟩, kept_frozen hb 0, kept_frozen hb 1, kept_lt hb⟩
theorem Own2.below {w w1 : World} {b : Nat} (h : Own2 w b) (hb : Below w.heap.size w w1) : Own2 w1 b := by
  obtain ⟨⟨y0, y1, c0, c1⟩, f0, f1, hl⟩ := h
  refine ⟨⟨y0, y1, ?_, ?_⟩, ?_, ?_, Nat.lt_of_lt_of_le hl hb.size⟩
  all_goals first | rw [hb.cell (by exact hl)]; assumption | rw [hb.frozen (by exact hl)]; assumption
theorem toks_results {fn : Func} (hr : fn.results = #[.tmp 2, .cell 3 25]) {W : World} {tmps : Array Value} {b : Nat} {x0 x1 sv : Value} (h2 : tmps.getD 2 undef = sv) (h3 : tmps.getD 3 undef = .pointer (some ⟨b, 0, none⟩))
    (c0 : W.cell? ⟨b, 0, none⟩ = some x0) (c1 : W.cell? ⟨b, 1, none⟩ = some x1) : (results fn tmps).run Tryd.prog W = .ok (.tuple #[sv, .agg #[x0, x1]]) W := by
  have hl : (loadVar 25 ⟨b, 0, none⟩).run Tryd.prog W = .ok (.agg #[x0, x1]) W := by
    refine run_loadVar_mid W b 0 25 [x0, x1] _ (fun j v hj => ?_) Tryd.underlying25 rfl (by kernel_rfl)
    match j, hj with
    | 0, hj => simp at hj; subst hj; exact c0
    | 1, hj => simp at hj; subst hj; exact c1
  have e0 : results fn tmps = (do
      let x ← asAddr (tmps.getD 3 undef)
      let x ← loadVar 25 x
      pure (.tuple #[tmps.getD 2 undef, x])) := by
    simp [results, hr]
  rw [e0, h2, h3]
  simp [asAddr, hl, Result.andThen]

/-- what Tokens answers: a list of its own, and the fault -/
def ToksPost (w : World) (R : Res) (e : Ending) (w' : World) : Prop := ∃ sv, e = .returned (.tuple #[sv, R.flt]) ∧ w'.ownsRow w.heap.size 37 4 sv R.ts.length (R.ts.flatMap Tk.cells) ∧ Below w.heap.size w w'
theorem toks_done {fn : Func} (hr : fn.results = #[.tmp 2, .cell 3 25]) {w w1 : World} {tmps : Array Value} {b : Nat} {x0 x1 sv : Value} {R : Res}
    (ho : Own2 w1 b) (hB : w.heap.size ≤ b) (hb : Below w.heap.size w w1) (hv : R.flt = .agg #[x0, x1]) (hown : w1.ownsRow w.heap.size 37 4 sv R.ts.length (R.ts.flatMap Tk.cells)) (hne : sv.ownBlock ≠ some b)
    (h2 : tmps.getD 2 undef = sv) (h3 : tmps.getD 3 undef = .pointer (some ⟨b, 0, none⟩)) :
    bodyPost Tryd.prog fn (ToksPost w R) .ret { tmps := tmps, defers := [] } ((w1.setCell ⟨b, 0, none⟩ x0).setCell ⟨b, 1, none⟩ x1) := by
  obtain ⟨⟨y0, y1, c0, c1⟩, f0, f1, hl⟩ := ho
  refine bodyPost_ret (toks_results hr (x0 := x0) (x1 := x1) h2 h3 ?_ ?_) rfl ⟨sv, by rw [hv], ?_, ?_⟩
  · go_simp
  · go_simp
  · refine ownsRow_of_block hown fun g hg => ?_
    have hgb : g ≠ b := fun e => hne (by rw [hg, e])
    rw [Below.heap_setCell _ _ _ _ hgb, Below.heap_setCell _ _ _ _ hgb]
  · exact ((hb.setCell (p := ⟨b, 0, none⟩) hB _).setCell (p := ⟨b, 1, none⟩) hB _)
theorem own_base {w : World} {base base' : Nat} {e : TypeId} {k : Nat} {sv : Value} {n : Nat} {xs : List Value} (h : w.ownsRow base e k sv n xs) (hb : base' ≤ base) : w.ownsRow base' e k sv n xs := by
  obtain ⟨hl, h1 | ⟨g, cap, cur, rfl, h0, r⟩⟩ := h
  · exact ⟨hl, .inl h1⟩
  · exact ⟨hl, .inr ⟨g, cap, cur, rfl, Nat.le_trans hb h0, r⟩⟩
theorem infoTok : (Tryd.prog.info? 37).map (fun i => (i.zero, i.size, i.bytes)) = some (some (.agg #[.int .i8 0, .string ⟨#[]⟩, .int .i64 0, .int .i64 0]), 4, 40) := by kernel_rfl
theorem one_tok (w : World) (k : Int) (s : ByteArray) (n a : Int) : ∀ (j : Nat) (u : Value), ([.int .i8 k, .string s, .int .i64 n, .int .i64 a] : List Value)[j]? = some u → (w.alloc (.cells #[.int .i8 k, .string s, .int .i64 n, .int .i64 a] 37)).cell? ((⟨w.heap.size, 0, none⟩ : Addr).add j) = some u := by
  intro j u h
  have hj : j < 4 := (List.getElem?_eq_some_iff.1 h).1
  have e : (⟨w.heap.size, 0, none⟩ : Addr).add j = ⟨w.heap.size, j, none⟩ := by rw [WideShapes.add_plain]; simp
  rw [e]
  unfold World.cell?
  simp only [heap_new]
  simpa using h

theorem one_tok1 (w : World) (o : Obj) (k : Int) (s : ByteArray) (n a : Int) : ∀ (j : Nat) (u : Value), ([.int .i8 k, .string s, .int .i64 n, .int .i64 a] : List Value)[j]? = some u → ((w.alloc o).alloc (.cells #[.int .i8 k, .string s, .int .i64 n, .int .i64 a] 37)).cell? ((⟨w.heap.size + 1, 0, none⟩ : Addr).add j) = some u := by
  have h := one_tok (w.alloc o) k s n a
  rw [show (w.alloc o).heap.size = w.heap.size + 1 by simp] at h
  exact h
theorem com_at {s : ByteArray} {p : Nat} (h : p < s.size) (h35 : (s[p]'h).toNat = 35) : toks (s.data.toList.drop p) p = toks (s.data.toList.drop (p + comLen (s.data.toList.drop p))) (p + comLen (s.data.toList.drop p)) := by
  have hc : comLen (s.data.toList.drop p) = comLen (s.data.toList.drop (p + 1)) + 1 := by
    rw [drop_at s h]; simp [comLen, h35]
  rw [hc]
  conv => lhs; rw [drop_at s h, toks_com _ _ h35, List.drop_drop]
  congr 1
  · congr 1; omega
  · omega
theorem com_step {s : ByteArray} {p : Nat} (h : p < s.size) (h10 : (s[p]'h).toNat ≠ 10) : comLen (s.data.toList.drop p) = comLen (s.data.toList.drop (p + 1)) + 1 := by
  rw [drop_at s h]; simp [comLen, h10]
theorem com_stop {s : ByteArray} {p : Nat} (h : p < s.size) (h10 : (s[p]'h).toNat = 10) : comLen (s.data.toList.drop p) = 0 := by
  rw [drop_at s h]; simp [comLen, h10]
theorem com_end {s : ByteArray} {p : Nat} (h : ¬ p < s.size) : comLen (s.data.toList.drop p) = 0 := by
  rw [drop_end s h]; rfl
theorem toks_done_new {fn : Func} (hr : fn.results = #[.tmp 2, .cell 3 25]) {w : World} {tmps : Array Value} {x0 x1 : Value} {R : Res}
    (hv : R.flt = .agg #[x0, x1]) (ht : R.ts = []) (h2 : tmps.getD 2 undef = .slice none 0 0) (h3 : tmps.getD 3 undef = .pointer (some ⟨w.heap.size, 0, none⟩)) :
    bodyPost Tryd.prog fn (ToksPost w R) .ret { tmps := tmps, defers := [] } (w.alloc (.cells #[x0, x1] 25)) := by
  have hb := Below.refl (w.alloc (.cells #[x0, x1] 25)).heap.size (w.alloc (.cells #[x0, x1] 25))
  refine bodyPost_ret (toks_results hr (x0 := x0) (x1 := x1) h2 h3 (kept_cell hb 0 _ rfl) (kept_cell hb 1 _ rfl)) rfl ⟨_, by rw [hv], ?_, (Below.refl _ _).alloc (Nat.le_refl _) _⟩
  rw [ht]
  exact World.ownsRow_nil _ _ _ _

set_option maxHeartbeats 6400000 in
set_option maxRecDepth 100000 in
theorem Tokens_any (s : ByteArray) (w : World) (hg : Gl w) (hs : s.size ≤ maxLen) : Calls Tryd.prog 5 #[.string s] w (ToksPost w (tokens s.data.toList)) := by
  unfold maxLen at hs
  obtain ⟨R, HR⟩ : ∃ R, Hid (tokens s.data.toList = R) := ⟨_, rfl⟩
  rw [HR.out]
  obtain ⟨i0, hi0, hz0, hz1, hz2⟩ := info_parts infoTok
  have hO := own2 (Below.refl _ (w.alloc (.cells #[.int .i64 0, .int .i64 0] 25)))
  have hB := (Below.refl w.heap.size w).alloc (Nat.le_refl _) (.cells #[.int .i64 0, .int .i64 0] 25)
  have hG := hg.alloc (.cells #[.int .i64 0, .int .i64 0] 25)
  clear hg
  by_cases h1 : 65536 < s.size
  · have h1' : (65536 : Int) < (s.size : Int) := by omega
    obtain rfl : R = .bad 30 65536 := by rw [← HR.out]; unfold tokens; rw [len_toList, if_pos h1]
    clear hG
    go_enter Tryd.func5, Tryd.ntmps5
    go_wp2
    go_step3
    go_wp2
    rw [Exit.noGoto_ret]
    refine toks_done_new Tryd.results5 ?_ ?_ ?_ ?_ <;> rfl
  · have h1' : ¬ (65536 : Int) < (s.size : Int) := by omega
    have HT : Hid (R = (toks (s.data.toList.drop 0) 0).app []) := by show _ = _; rw [← HR.out, Res.app_nil]; unfold tokens; rw [len_toList, if_neg h1]; rfl
    clear HR
    go_enter Tryd.func5, Tryd.ntmps5
    go_wp2
    go_step3
    go_wp2
    go_step3
    go_wp2
    generalize w.alloc (.cells #[.int .i64 0, .int .i64 0] 25) = W at hO hB hG ⊢
    have HO : Hid _ := hO
    have HB : Hid _ := hB
    have HG : Hid _ := hG
    clear hO hB hG
    have hl0 : s.size ≤ 65536 := by omega
    clear h1' h1 hs
    go_loopw [4, 5] (fun o i wr => ∃ p : Nat, p ≤ s.size ∧ i = .int .i64 p ∧ Below W.heap.size W wr ∧ ∃ pre : List Tk, wr.ownsRow W.heap.size 37 4 o pre.length (pre.flatMap Tk.cells) ∧ pre.length ≤ p ∧ Hid (R = (toks (s.data.toList.drop p) p).app pre)) (fun _ i _ => s.size - (intOf i).toNat)
    case atStart => exact ⟨0, Nat.zero_le _, rfl, Below.refl _ _, [], World.ownsRow_nil _ _ _ _, Nat.le_refl _, HT.out⟩
    case round =>
      obtain ⟨p, hp, rfl, bel, pre, hown, hpre, HF⟩ := hrel
      clear HT
      by_cases hlt : p < s.size
      · have hlt' : (p : Int) < (s.size : Int) := by omega
        have HD : Hid _ := drop_at s hlt
        cases hbl : blankU (s[p]'hlt) with
        | true =>
          have HN : Hid (R = (toks (s.data.toList.drop (p + 1)) (p + 1)).app pre) := by show _ = _; rw [HF.out, HD.out, toks_blank _ _ hbl]
          clear HF
          have hb' : ((s[p]'hlt).toNat : Int) = 9 ∨ ((s[p]'hlt).toNat : Int) = 10 ∨ ((s[p]'hlt).toNat : Int) = 13 ∨ ((s[p]'hlt).toNat : Int) = 32 := by
            unfold blankU at hbl
            rw [decide_eq_true_eq] at hbl
            omega
          clear hbl HD
          rcases hb' with hb' | hb' | hb' | hb'
          all_goals
            go_wp2_with fail
            go_roundw
            case rel => exact ⟨p + 1, by omega, by go_num, bel, pre, hown, by omega, HN.out⟩
            case measure => simp [intOf]; omega
        | false =>
          have hb' : ¬ ((s[p]'hlt).toNat : Int) = 9 ∧ ¬ ((s[p]'hlt).toNat : Int) = 10 ∧ ¬ ((s[p]'hlt).toNat : Int) = 13 ∧ ¬ ((s[p]'hlt).toNat : Int) = 32 := by
            have hbl' := hbl
            unfold blankU at hbl'
            rw [decide_eq_false_iff_not] at hbl'
            omega
          obtain ⟨n9, n10, n13, n32⟩ := hb'
          by_cases h35 : (s[p]'hlt).toNat = 35
          · have h35' : ((s[p]'hlt).toNat : Int) = 35 := by omega
            obtain ⟨E, HE⟩ : ∃ E, Hid (p + comLen (s.data.toList.drop p) = E) := ⟨_, rfl⟩
            have HN : Hid (R = (toks (s.data.toList.drop E) E).app pre) := by show _ = _; rw [HF.out, com_at hlt h35, HE.out]
            have h10 : (s[p]'hlt).toNat ≠ 10 := by omega
            clear HF HD hbl
            go_wp2_with fail
            go_loop [5] (fun i => ∃ q : Nat, p ≤ q ∧ q ≤ s.size ∧ i = .int .i64 q ∧ Hid (q + comLen (s.data.toList.drop q) = E)) (fun i => s.size - (intOf i).toNat)
            case atStart => exact ⟨p, Nat.le_refl _, hp, rfl, HE.out⟩
            case round =>
              obtain ⟨q, hpq, hq, rfl, HQ⟩ := hrel
              by_cases hql : q < s.size
              · have hql' : (q : Int) < (s.size : Int) := by omega
                by_cases q10 : (s[q]'hql).toNat = 10
                · have q10' : ((s[q]'hql).toNat : Int) = 10 := by omega
                  have hqE : q = E := by have := HQ.out; rw [com_stop hql q10] at this; omega
                  have hqp : p ≠ q := fun e => by subst e; exact h10 q10
                  subst hqE
                  clear HQ HE h35 h35' n9 n10 n13 n32 h10
                  go_wp2_with fail
                  go_roundw
                  case rel => exact ⟨q, hq, rfl, bel, pre, hown, by omega, HN.out⟩
                  case measure => simp [intOf]; omega
                · have q10' : ¬ ((s[q]'hql).toNat : Int) = 10 := by omega
                  have HQ2 : Hid ((q + 1) + comLen (s.data.toList.drop (q + 1)) = E) := by show _ = _; have := HQ.out; rw [com_step hql q10] at this; omega
                  clear HQ HE h35 h35' n9 n10 n13 n32 h10
                  go_wp2_with fail
                  go_round
                  case rel => exact ⟨q + 1, by omega, by omega, by go_num, HQ2.out⟩
                  case measure => simp [intOf]; omega
              · have hql' : ¬ (q : Int) < (s.size : Int) := by omega
                have hqE : q = E := by have := HQ.out; rw [com_end hql] at this; omega
                subst hqE
                clear HQ HE h35 h35' n9 n10 n13 n32 h10
                go_wp2_with fail
                go_roundw
                case rel => exact ⟨q, hq, rfl, bel, pre, hown, by omega, HN.out⟩
                case measure => simp [intOf]; omega
          · have h35' : ¬ ((s[p]'hlt).toNat : Int) = 35 := by omega
            obtain ⟨hxl, hxs⟩ := ext_end s hp
            obtain ⟨x, hx⟩ : ∃ x, s.extract p s.size = x := ⟨_, rfl⟩
            rw [hx] at hxl hxs
            have hx0 : 0 < x.size := by omega
            have hx1 : x.size ≤ 65536 := by omega
            have HGr : Hid _ := HG.out.below bel
            cases hfi : firstT (s.data.toList.drop p) with
            | bad e =>
              have he := firstT_bad hfi
              have he0 : ¬ e = 0 := by omega
              have HR1 : Hid (R = .bad e p) := by show _ = _; rw [HF.out, HD.out, toks_bad _ hbl h35 (by rw [← HD.out]; exact hfi)]; rfl
              have HP : Hid (fstV (firstT x.data.toList) = .tuple #[noTk, .int .i64 0, .int .i64 e]) := by show _ = _; rw [hxl, hfi]; rfl
              clear HF HD hbl hfi hxl hxs hown he
              go_wp2_with (first
                | (go_at_call 11; refine (first_any x _ HGr.out hx1 hx0).mono ?_; rw [HP.out]; unfold noTk; rintro e w1 ⟨rfl, hb1⟩; have bel1 := bel.trans (hb1.mono bel.size); have bel2 := bel1.alloc bel1.size (.cells #[.int .i8 0, .string ⟨#[]⟩, .int .i64 0, .int .i64 0] 37); have HO1 : Hid _ := Own2.below HO.out bel2; have hbf := HB.out.trans (bel2.mono HB.out.size); clear hb1 bel bel1 bel2; obtain ⟨⟨z0, z1, c0, c1⟩, f0, f1, hl⟩ := HO1.out)
                | fail)
              rw [Exit.noGoto_ret]
              have hR := HR1.out
              subst hR
              refine toks_done Tryd.results5 HO1.out (Nat.le_refl _) hbf rfl (World.ownsRow_nil _ _ _ _) (by simp [Value.ownBlock]) ?_ ?_ <;> rfl
            | tok t n =>
              have hn := firstT_pos hfi
              rw [List.length_drop, len_toList] at hn
              have HN : Hid (R = (toks (s.data.toList.drop (p + n)) (p + n)).app (pre ++ [{ t with a := p }])) := by
                show _ = _
                rw [HF.out, HD.out, toks_tok _ hbl h35 (by rw [← HD.out]; exact hfi), Res.app_cons, ← HD.out, List.drop_drop]
              have HP : Hid (fstV (firstT x.data.toList) = .tuple #[.agg #[.int .i8 t.k, .string ⟨t.s.toArray⟩, .int .i64 t.n, .int .i64 t.a], .int .i64 n, .int .i64 0]) := by show _ = _; rw [hxl, hfi]; rfl
              have HC : Hid (∀ u : Value, (pre ++ [{ t with a := (p : Int) }]).flatMap Tk.cells = pre.flatMap Tk.cells ++ [.int .i8 t.k, .string ⟨t.s.toArray⟩, .int .i64 t.n, .int .i64 p]) := by intro _; rw [cells_snoc]; rfl
              clear HF HD hbl hfi hxl hxs
              generalize (⟨t.s.toArray⟩ : ByteArray) = ts at *
              go_wp2_with (first
                | (go_at_call 11; refine (first_any x _ HGr.out hx1 hx0).mono ?_; rw [HP.out]; rintro e w1 ⟨rfl, hb1⟩; have bel1 := bel.trans (hb1.mono bel.size); have hown1 := own_below hown hb1; clear hb1 bel hown)
                | (at_builtin; refine wpList_append_own_at _ rfl _ _ 22 rfl W.heap.size 37 i0 _ 4 40 Tryd.underlying22 hi0 hz0 hz1 hz2 rfl (by decide) _ _ _ rfl (own_below hown1 (((Below.refl _ _).alloc (Nat.le_refl _) _).alloc (by simp) _)) ⟨w1.heap.size + 1, 0, none⟩ 1 1 [.int .i8 t.k, .string ts, .int .i64 t.n, .int .i64 p] rfl rfl (one_tok1 w1 _ _ _ _ _) (by simp [Value.oneCell']) (by unfold maxLen; omega) (by omega) (by have := bel1.size; simp; omega) ?_; intro v' w2 hown' hgrow hnil hloc)
                | fail)
              go_roundw
              case rel => exact ⟨p + n, by omega, by go_num, ((bel1.alloc bel1.size _).alloc (by have := bel1.size; simp; omega) _).grown hgrow (by have := bel1.size; simp; omega) (fun j hj => (hown1.lt j hj).1), _, by rw [HC.out (.bool true), List.length_append]; exact hown', by simp; omega, HN.out⟩
              case measure => simp [intOf]; omega
      · have hps : p = s.size := by omega
        subst hps
        have hR : R = .ok (pre ++ [endT s.size]) := by rw [HF.out, drop_end s hlt]; rfl
        have HR1 : Hid _ := hR
        have HC : Hid ((pre ++ [endT s.size]).flatMap Tk.cells = pre.flatMap Tk.cells ++ [.int .i8 8, .string ⟨#[]⟩, .int .i64 0, .int .i64 s.size]) := by show _ = _; rw [cells_snoc]; rfl
        clear HF hR
        go_wp2_with (first
          | (at_builtin; refine wpList_append_own_at _ rfl _ _ 22 rfl W.heap.size 37 i0 _ 4 40 Tryd.underlying22 hi0 hz0 hz1 hz2 rfl (by decide) _ _ _ rfl (own_below hown ((Below.refl _ _).alloc (Nat.le_refl _) _)) ⟨wr.heap.size, 0, none⟩ 1 1 [.int .i8 8, .string ⟨#[]⟩, .int .i64 0, .int .i64 s.size] rfl rfl (one_tok wr _ _ _ _) (by simp [Value.oneCell']) (by unfold maxLen; omega) (by omega) (by have := bel.size; simp; omega) ?_; intro v' w2 hown' hgrow hnil hloc; have bel2 := (bel.alloc bel.size (.cells #[.int .i8 8, .string ⟨#[]⟩, .int .i64 0, .int .i64 s.size] 37)).grown hgrow (by have := bel.size; simp; omega) (fun j hj => (hown.lt j hj).1); have HO1 : Hid _ := Own2.below HO.out bel2; have hbf := HB.out.trans (bel2.mono HB.out.size); obtain ⟨⟨z0, z1, c0, c1⟩, f0, f1, hl⟩ := HO1.out)
          | fail)
        rw [Exit.noGoto_ret]
        have hR := HR1.out
        subst hR
        have hne : v'.ownBlock ≠ some w.heap.size := fun e => by
          have h1 := (hown'.lt _ e).1
          have h2 := HO.out.2.2.2
          omega
        refine toks_done Tryd.results5 HO1.out (Nat.le_refl _) hbf rfl ?_ hne ?_ ?_
        · show w2.ownsRow w.heap.size _ 4 v' (pre ++ [endT s.size]).length ((pre ++ [endT s.size]).flatMap Tk.cells)
          rw [HC.out, List.length_append]
          exact own_base hown' HB.out.size
        · rfl
        · rfl
end Go.Proofs.YthkbcgedjecnlaaDoor
