import Derived.Test.YtinncofhidiciaaSymLives
import Derived.OwnWalk
namespace Go.Proofs.Ytinncofhidiciaa
open Go.RowKit Go.Maps Go.ChangeMaps
set_option linter.unusedVariables false
set_option linter.unusedSimpArgs false
attribute [local go_sem ↓] Go.wp_at_zero Go.wp_at_succ

theorem toList_ne {a b : ByteArray} (h : ¬ a = b) : ¬ a.toList = b.toList := fun e => h (by
  rw [ByteArray.toList_eq, ByteArray.toList_eq] at e
  exact ByteArray.ext (Array.toList_inj.mp e))

theorem run_eql (a b : V) (w : World) : (binOp .eql 39 (.agg #[.int .i8 a.k, .int .i64 a.n, .string a.s]) (.agg #[.int .i8 b.k, .int .i64 b.n, .string b.s])).run Try.prog w = .ok (.bool (decide (a = b))) w := by
  cases a with | mk k1 n1 s1 =>
  cases b with | mk k2 n2 s2 =>
  simp only [V.mk.injEq]
  by_cases hk : k1 = k2
  · by_cases hn : n1 = n2
    · by_cases hs : s1 = s2
      · subst hk hn hs
        rw [decide_eq_true ⟨rfl, rfl, rfl⟩]
        go_simp
      · have hs' := toList_ne hs
        rw [decide_eq_false (fun h => hs h.2.2)]
        go_simp
    · rw [decide_eq_false (fun h => hn h.2.1)]
      go_simp
  · rw [decide_eq_false (fun h => hk h.1)]
    go_simp

theorem run_neq (a b : V) (w : World) : (binOp .neq 39 (.agg #[.int .i8 a.k, .int .i64 a.n, .string a.s]) (.agg #[.int .i8 b.k, .int .i64 b.n, .string b.s])).run Try.prog w = .ok (.bool (!decide (a = b))) w := by
  cases a with | mk k1 n1 s1 =>
  cases b with | mk k2 n2 s2 =>
  simp only [V.mk.injEq]
  by_cases hk : k1 = k2
  · by_cases hn : n1 = n2
    · by_cases hs : s1 = s2
      · subst hk hn hs
        rw [decide_eq_true ⟨rfl, rfl, rfl⟩]
        go_simp
      · have hs' := toList_ne hs
        rw [decide_eq_false (fun h => hs h.2.2)]
        go_simp
    · rw [decide_eq_false (fun h => hn h.2.1)]
      go_simp
  · rw [decide_eq_false (fun h => hk h.1)]
    go_simp

/-- a list of values that lies somewhere -/
def Lv (w : World) (v : Value) (us : List V) : Prop :=
  (∀ u ∈ us, u.wf) ∧ us.length ≤ maxLen ∧ ∃ a c, v = .slice a us.length c ∧ ∀ i, i < us.length → ∃ g off, a = some ⟨g, off, none⟩ ∧ g < w.heap.size ∧
    w.cell? ⟨g, off + i * 3, none⟩ = some (.int .i8 (atV us i).k) ∧ w.cell? ⟨g, off + i * 3 + 1, none⟩ = some (.int .i64 (atV us i).n) ∧ w.cell? ⟨g, off + i * 3 + 2, none⟩ = some (.string (atV us i).s)

theorem Lv.blocks {w w' : World} {v : Value} {us : List V} (h : Lv w v us) (hb : ∀ g off, (∃ n c, v = .slice (some ⟨g, off, none⟩) n c) → w'.heap[g]? = w.heap[g]?) (hs : w.heap.size ≤ w'.heap.size) : Lv w' v us := by
  obtain ⟨hw, hl, a, c, rfl, hc⟩ := h
  refine ⟨hw, hl, a, c, rfl, fun i hi => ?_⟩
  obtain ⟨g, off, rfl, hg, h0, h1, h2⟩ := hc i hi
  have e := hb g off ⟨_, _, rfl⟩
  exact ⟨g, off, rfl, Nat.lt_of_lt_of_le hg hs, (World.cell?_of_block (a := ⟨g, _, none⟩) e).trans h0, (World.cell?_of_block (a := ⟨g, _, none⟩) e).trans h1, (World.cell?_of_block (a := ⟨g, _, none⟩) e).trans h2⟩

theorem Lv.below {w w' : World} {v : Value} {us : List V} (h : Lv w v us) (hb : Below w.heap.size w w') : Lv w' v us := by
  obtain ⟨hw, hl, a, c, rfl, hc⟩ := h
  refine ⟨hw, hl, a, c, rfl, fun i hi => ?_⟩
  obtain ⟨g, off, rfl, hg, h0, h1, h2⟩ := hc i hi
  have e := hb.block g hg
  exact ⟨g, off, rfl, Nat.lt_of_lt_of_le hg hb.size, (World.cell?_of_block (a := ⟨g, _, none⟩) e).trans h0, (World.cell?_of_block (a := ⟨g, _, none⟩) e).trans h1, (World.cell?_of_block (a := ⟨g, _, none⟩) e).trans h2⟩

theorem Lv.at {w : World} {a : Option Addr} {n c : Nat} {us : List V} (h : Lv w (.slice a n c) us) {i : Nat} (hi : i < us.length) : ∃ g off, a = some ⟨g, off, none⟩ ∧ g < w.heap.size ∧
    w.cell? ⟨g, off + i * 3, none⟩ = some (.int .i8 (atV us i).k) ∧ w.cell? ⟨g, off + i * 3 + 1, none⟩ = some (.int .i64 (atV us i).n) ∧ w.cell? ⟨g, off + i * 3 + 2, none⟩ = some (.string (atV us i).s) := by
  obtain ⟨_, _, a', c', e, hc⟩ := h
  cases e
  exact hc i hi

theorem lv_of_row {w : World} {base : Nat} {sv : Value} {vs : List V} (h : w.ownsRow base 39 3 sv vs.length (vs.flatMap V.cells)) (hw : ∀ v ∈ vs, v.wf) : Lv w sv vs := by
  obtain ⟨a, c, rfl, hl, _⟩ := ownsRow_form h
  refine ⟨hw, hl, a, c, rfl, fun i hi => ?_⟩
  obtain ⟨g, c', e, h0, h1, h2⟩ := row_at h hi
  cases e
  exact ⟨g, 0, rfl, (h.lt g rfl).2, by simpa using h0, by simpa using h1, by simpa using h2⟩

theorem atV_eq {us : List V} {i : Nat} (h : i < us.length) : atV us i = us[i] := by
  simp [atV, List.getD_eq_getElem?_getD, List.getElem?_eq_getElem h]
theorem atV_mem {us : List V} {i : Nat} (h : i < us.length) : atV us i ∈ us := by
  rw [atV_eq h]
  exact List.getElem_mem h

/-- the values that may be, each once, so many at most -/
def goodStep (most : Nat) (out : List V) (u : V) : List V := if out.length < most then (if chk u.k u.n u.s = 0 ∧ u ∉ out then out ++ [u] else out) else out
def goodL (most : Nat) (us : List V) : List V := us.foldl (goodStep most) []

theorem foldl_stop {most : Nat} {out : List V} (h : ¬ out.length < most) : ∀ us : List V, us.foldl (goodStep most) out = out
  | [] => rfl
  | u :: us => by rw [List.foldl_cons, show goodStep most out u = out from if_neg h, foldl_stop h us]

theorem goodL_take {most : Nat} {us : List V} {k : Nat} (h : k < us.length) : goodL most (us.take (k + 1)) = goodStep most (goodL most (us.take k)) (atV us k) := by
  unfold goodL
  rw [atV_eq h, List.take_add_one, List.getElem?_eq_getElem h]
  simp only [Option.toList_some, List.foldl_append, List.foldl_cons, List.foldl_nil]

theorem goodL_stop {most : Nat} {us : List V} {k : Nat} (h : ¬ (goodL most (us.take k)).length < most) : goodL most us = goodL most (us.take k) := by
  conv => lhs; rw [← List.take_append_drop k us]
  unfold goodL
  rw [List.foldl_append]
  exact foldl_stop h _

theorem goodL_length (most : Nat) (us : List V) : (goodL most us).length ≤ us.length := by
  have : ∀ (us out : List V), (us.foldl (goodStep most) out).length ≤ out.length + us.length := by
    intro us
    induction us with
    | nil => intro out; simp
    | cons u us ih =>
      intro out
      have h1 := ih (goodStep most out u)
      have h2 : (goodStep most out u).length ≤ out.length + 1 := by
        unfold goodStep
        split
        · split <;> simp
        · omega
      simp only [List.foldl_cons, List.length_cons]
      omega
  simpa [goodL] using this us []

structure GoodOf (us vs : List V) : Prop where
  nodup : vs.Nodup
  mem : ∀ v ∈ vs, v ∈ us
  ok : ∀ v ∈ vs, chk v.k v.n v.s = 0

theorem goodL_good (most : Nat) (us : List V) : GoodOf us (goodL most us) := by
  have : ∀ (rest out : List V), (∀ u ∈ rest, u ∈ us) → GoodOf us out → GoodOf us (rest.foldl (goodStep most) out) := by
    intro rest
    induction rest with
    | nil => intro out _ h; exact h
    | cons u rest ih =>
      intro out hr h
      refine ih _ (fun x hx => hr x (List.mem_cons_of_mem _ hx)) ?_
      unfold goodStep
      split
      · split
        · rename_i h1 h2
          refine ⟨List.nodup_append.2 ⟨h.nodup, by simp, fun a ha b hb => by simp at hb; subst hb; exact fun e => h2.2 (e ▸ ha)⟩, ?_, ?_⟩
          · intro v hv
            rcases List.mem_append.1 hv with hv | hv
            · exact h.mem v hv
            · simp at hv; subst hv; exact hr _ List.mem_cons_self
          · intro v hv
            rcases List.mem_append.1 hv with hv | hv
            · exact h.ok v hv
            · simp at hv; subst hv; exact h2.1
        · exact h
      · exact h
  exact this us [] (fun u hu => hu) ⟨List.nodup_nil, by simp, by simp⟩
theorem take_contains {out : List V} {j : Nat} (u : V) (h : j < out.length) : decide (u ∈ out.take (j + 1)) = (decide (u ∈ out.take j) || decide (atV out j = u)) := by
  rw [atV_eq h, List.take_add_one, List.getElem?_eq_getElem h]
  simp only [Option.toList_some, List.mem_append, List.mem_singleton]
  rw [Bool.decide_or]
  congr 1
  exact decide_eq_decide.2 ⟨Eq.symm, Eq.symm⟩

theorem own_below {w w' : World} {base : Nat} {e : TypeId} {k : Nat} {sv : Value} {n : Nat} {xs : List Value} (h : w.ownsRow base e k sv n xs) (hb : Below w.heap.size w w') : w'.ownsRow base e k sv n xs :=
  ownsRow_of_block h (fun g hg => hb.block g (h.lt g hg).2)

set_option maxHeartbeats 3200000 in
theorem good_any (w : World) (a : Option Addr) (c : Nat) (us : List V) (most : Nat) (hl : us.length ≤ 1048576) (hv : Lv w (.slice a us.length c) us) :
    Calls Try.prog 18 #[.slice a us.length c, .int .i64 most] w fun e w' => ∃ sv, e = .returned sv ∧ w'.ownsRow w.heap.size 39 3 sv (goodL most us).length ((goodL most us).flatMap V.cells) ∧ Below w.heap.size w w' := by
  obtain ⟨i0, hi0, hz0, hz1, hz2⟩ := info_parts infoVal
  have heq := run_eql
  go_enter Try.func18, Try.ntmps18
  go_wp2
  go_loopw [5, 6] (fun o i wr => ∃ k : Nat, k ≤ us.length ∧ i = .int .i64 k ∧ Below w.heap.size w wr ∧ ∃ n, (goodL most (us.take k)).length = n ∧ wr.ownsRow w.heap.size 39 3 o n ((goodL most (us.take k)).flatMap V.cells)) (fun _ i _ => us.length - (intOf i).toNat)
  case atStart => exact ⟨0, Nat.zero_le _, rfl, Below.refl _ _, 0, rfl, World.ownsRow_nil _ _ _ _⟩
  case round =>
    obtain ⟨k, hk, rfl, bel, n, hn, hown⟩ := hrel
    obtain ⟨ao, co, rfl, hlo, _⟩ := ownsRow_form hown
    have HN : Hid ((goodL most (us.take k)).length = n) := hn
    by_cases hlt : k < us.length
    · by_cases hmo : n < most
      · obtain ⟨g, off, rfl, hg, x0, x1, x2⟩ := (hv.below bel).at hlt
        have huw : (atV us k).wf := hv.1 _ (atV_mem hlt)
        have HG : Hid (goodL most (us.take (k + 1)) = goodStep most (goodL most (us.take k)) (atV us k)) := goodL_take hlt
        have hon : (goodL most (us.take k)).length ≤ us.length := Nat.le_trans (goodL_length most _) (by simp; omega)
        generalize atV us k = u at x0 x1 x2 huw HG
        generalize goodL most (us.take k) = out at hn HN hown HG hon
        subst hn
        clear hv heq
        go_wp2_with fail
        refine (rcheck_any _ _ _ _ huw.text).mono ?_
        rintro e w1 ⟨rfl, hb1⟩
        go_wp2
        have hown1 := own_below hown hb1
        have bel1 := bel.trans (hb1.mono bel.size)
        have y0 : w1.cell? ⟨g, off + k * 3, none⟩ = some (.int .i8 u.k) := by rw [hb1.cell (p := ⟨g, _, none⟩) hg]; exact x0
        have y1 : w1.cell? ⟨g, off + k * 3 + 1, none⟩ = some (.int .i64 u.n) := by rw [hb1.cell (p := ⟨g, _, none⟩) hg]; exact x1
        have y2 : w1.cell? ⟨g, off + k * 3 + 2, none⟩ = some (.string u.s) := by rw [hb1.cell (p := ⟨g, _, none⟩) hg]; exact x2
        have hg1 := Nat.lt_of_lt_of_le hg hb1.size
        clear x0 x1 x2 hown bel hb1 hg
        go_loopw [7, 8] (fun b j wi => ∃ q : Nat, q ≤ out.length ∧ j = .int .i64 q ∧ b = .bool ((chk u.k u.n u.s != 0) || decide (u ∈ out.take q)) ∧ Below w1.heap.size w1 wi) (fun _ j _ => out.length - (intOf j).toNat)
        case atStart => exact ⟨0, Nat.zero_le _, rfl, by simp, Below.refl _ _⟩
        case round =>
          obtain ⟨q, hq, rfl, rfl, bi⟩ := hrel
          have hown2 := own_below hown1 bi
          have z0 : wr.cell? ⟨g, off + k * 3, none⟩ = some (.int .i8 u.k) := by rw [bi.cell (p := ⟨g, _, none⟩) hg1]; exact y0
          have z1 : wr.cell? ⟨g, off + k * 3 + 1, none⟩ = some (.int .i64 u.n) := by rw [bi.cell (p := ⟨g, _, none⟩) hg1]; exact y1
          have z2 : wr.cell? ⟨g, off + k * 3 + 2, none⟩ = some (.string u.s) := by rw [bi.cell (p := ⟨g, _, none⟩) hg1]; exact y2
          have hg2 := Nat.lt_of_lt_of_le hg1 bi.size
          have BI : Below w.heap.size w wr := bel1.trans (bi.mono bel1.size)
          clear y0 y1 y2 hown1 hg1
          by_cases hql : q < out.length
          · have HT : Hid (decide (u ∈ out.take (q + 1)) = (decide (u ∈ out.take q) || decide (atV out q = u))) := take_contains u hql
            obtain ⟨go, co', e, v0, v1, v2⟩ := row_at hown2 hql
            cases e
            have heq := run_eql (atV out q) u
            generalize hB : ((chk u.k u.n u.s != 0) || decide (u ∈ out.take q)) = B
            have HB : Hid (((chk u.k u.n u.s != 0) || decide (u ∈ out.take q)) = B) := hB
            clear hB hown2 BI
            have hql' : (q : Int) < (out.length : Int) := by omega
            have hlt' : (k : Int) < (us.length : Int) := by omega
            generalize decide (atV out q = u) = D at heq HT
            cases B with
            | true =>
              go_wp2_with fail
              go_quiet (fail)
              go_wp2
              go_roundw
              case rel => exact ⟨q + 1, by omega, by go_num, by rw [HT.out, ← Bool.or_assoc, HB.out]; rfl, bi.trans ⟨rfl, rfl, rfl, Nat.le_refl _, fun _ _ => rfl⟩⟩
              case measure => simp [intOf]; omega
            | false =>
              go_wp2_with fail
              go_quiet (fail)
              go_wp2
              go_roundw
              case rel => exact ⟨q + 1, by omega, by go_num, by rw [HT.out, ← Bool.or_assoc, HB.out]; rfl, bi.trans ⟨rfl, rfl, rfl, Nat.le_refl _, fun _ _ => rfl⟩⟩
              case measure => simp [intOf]; omega
          · have e : out.take q = out := List.take_of_length_le (by omega)
            rw [e]
            clear e bi
            cases hB : ((chk u.k u.n u.s != 0) || decide (u ∈ out)) with
            | true =>
              have HS : Hid (goodStep most out u = out) := by
                show goodStep most out u = out
                unfold goodStep
                rw [if_pos hmo, if_neg]
                rintro ⟨h1, h2⟩
                simp [h1, h2] at hB
              clear hB
              go_wp2
              go_roundw
              case rel => exact ⟨k + 1, by omega, by go_num, BI, out.length, by rw [HG.out, HS.out], by rw [HG.out, HS.out]; exact hown2⟩
              case measure => simp [intOf]; omega
            | false =>
              have hc : chk u.k u.n u.s = 0 := by
                simp at hB
                exact hB.1
              have hno : u ∉ out := by
                simp at hB
                exact hB.2
              have HS : Hid (goodStep most out u = out ++ [u]) := by
                show goodStep most out u = out ++ [u]
                unfold goodStep
                rw [if_pos hmo, if_pos ⟨hc, hno⟩]
              clear hB hc hno
              go_wp2_with (first
                | (at_builtin; refine wpList_append_own_at _ rfl _ _ 40 rfl w.heap.size 39 i0 _ 3 32 Try.underlying40 hi0 hz0 hz1 hz2 rfl (by decide) _ _ _ rfl (own_below hown2 ((Below.refl _ _).alloc (Nat.le_refl _) _)) ⟨wr.heap.size, 0, none⟩ 1 1 [.int .i8 u.k, .int .i64 u.n, .string u.s] rfl rfl (one_news wr u) (by simp [Value.oneCell']) (by unfold maxLen; omega) (by omega) (by have := BI.size; simp; omega) ?_; intro v' w2 hown' hgrow hnil hloc)
                | go_in)
              go_roundw
              case rel => exact ⟨k + 1, by omega, by go_num, (BI.alloc BI.size _).grown hgrow (by have := BI.size; simp; omega) (fun j hj => (hown2.lt j hj).1), out.length + 1, by rw [HG.out, HS.out]; simp, by rw [HG.out, HS.out, flat_snoc]; exact hown'⟩
              case measure => simp [intOf]; omega
      · have HS : Hid (goodL most us = goodL most (us.take k)) := goodL_stop (by omega)
        clear hv heq hn
        go_wp2
        go_ret
        refine ⟨_, rfl, ?_, bel⟩
        rw [HS.out, HN.out]
        exact hown
    · have HS : Hid (us.take k = us) := List.take_of_length_le (by omega)
      clear hv heq hn
      go_wp2
      go_ret
      refine ⟨_, rfl, ?_, bel⟩
      rw [HS.out] at HN hown
      rw [HN.out]
      exact hown
end Go.Proofs.Ytinncofhidiciaa
