import Derived.Test.YthdcgikhcghigaaSpGen
namespace Go.Proofs.Ythdcgikhcghigaa
open Go.RowKit Go.Maps Go.ChangeMaps
set_option linter.unusedVariables false
set_option linter.unusedSimpArgs false
attribute [local go_sem ↓] Go.wp_at_zero Go.wp_at_succ

/-- the reference's table in block p -/
structure Rt (w : World) (B p : Nat) (sv : Value) (vs : List V) (most : Int) : Prop where
  rl : RL w p 58 [.bool true, .int .i64 most, sv]
  own : w.ownsRow B 39 3 sv vs.length (vs.flatMap V.cells)
  wf : ∀ v ∈ vs, v.wf
  lo : B ≤ p
  ne : ∀ g, sv.ownBlock = some g → g ≠ p
theorem own_belowW {w w' : World} {B : Nat} {e : TypeId} {k : Nat} {v : Value} {n : Nat} {xs : List Value} (h : w.ownsRow B e k v n xs) (hb : Below w.heap.size w w') : w'.ownsRow B e k v n xs := by
  obtain ⟨hl, h1 | ⟨g, cap, cur, rfl, h0, hbk, r⟩⟩ := h
  · exact ⟨hl, .inl h1⟩
  · exact ⟨hl, .inr ⟨g, cap, cur, rfl, h0, (hb.block g (Array.getElem?_eq_some_iff.1 hbk).1).trans hbk, r⟩⟩
theorem Rt.keep {w w' : World} {B p : Nat} {sv : Value} {vs : List V} {most : Int} (h : Rt w B p sv vs most) (hb : Below w.heap.size w w') : Rt w' B p sv vs most :=
  ⟨h.rl.below hb, own_belowW h.own hb, h.wf, h.lo, h.ne⟩
set_option maxHeartbeats 800000 in
set_option maxRecDepth 100000 in
theorem rtthere_yes {w : World} {B p : Nat} {sv : Value} {vs : List V} {most : Int} (h : Rt w B p sv vs most) : Calls Try.prog 22 #[.pointer (some ⟨p, 0, none⟩)] w fun e w' => e = .returned (.bool true) ∧ w' = w := by
  have c0 := h.rl.at (j := 0) rfl
  clear h
  go_enter Try.func22, Try.ntmps22
  go_wp2
  go_ret
  exact ⟨rfl, rfl⟩
set_option maxHeartbeats 800000 in
set_option maxRecDepth 100000 in
theorem rtlen_yes {w : World} {B p : Nat} {sv : Value} {vs : List V} {most : Int} (h : Rt w B p sv vs most) : Calls Try.prog 8 #[.pointer (some ⟨p, 0, none⟩)] w fun e w' => e = .returned (.int .i64 (vs.length : Int)) ∧ w' = w := by
  obtain ⟨a, c, rfl, _⟩ := ownsRow_form h.own
  have c2 := h.rl.at (j := 2) rfl
  have HT := Lib.hid (rtthere_yes h)
  clear h
  go_enter Try.func8, Try.ntmps8
  go_wp2_with fail
  refine HT.out.mono ?_
  rintro e w1 ⟨rfl, rfl⟩
  go_wp2
  go_ret
  exact ⟨rfl, rfl⟩
set_option maxHeartbeats 800000 in
set_option maxRecDepth 100000 in
theorem rtnew_any (n : Int) (h0 : 0 ≤ n) (h1 : n ≤ 2147483647) (w : World) : Calls Try.prog 5 #[.int .i64 n] w fun e w' => ∃ p, e = .returned (.tuple #[.pointer (some ⟨p, 0, none⟩), .int .i64 0]) ∧ Rt w' w.heap.size p (.slice none 0 0) [] n ∧ Below w.heap.size w w' := by
  have hA := belowA (w := w) (.cells #[.bool true, .int .i64 n, .slice none 0 0] 58)
  have hr := rl_new w #[.bool true, .int .i64 n, .slice none 0 0] 58
  have HF : Hid (Rt (w.alloc (.cells #[.bool true, .int .i64 n, .slice none 0 0] 58)) w.heap.size w.heap.size (.slice none 0 0) [] n ∧ Below w.heap.size w (w.alloc (.cells #[.bool true, .int .i64 n, .slice none 0 0] 58))) :=
    ⟨⟨hr, World.ownsRow_nil _ _ _ _, fun v hv => (by cases hv), Nat.le_refl _, fun g hg => (by cases hg)⟩, hA⟩
  clear hA hr
  have h0' : ¬ n < 0 := by omega
  have h1' : ¬ 2147483647 < n := by omega
  go_enter Try.func5, Try.ntmps5
  go_wp2
  go_ret2
  exact ⟨_, rfl, HF.out⟩
set_option maxHeartbeats 800000 in
set_option maxRecDepth 100000 in
theorem rtvalue_in {w : World} {B p : Nat} {sv : Value} {vs : List V} {most : Int} (h : Rt w B p sv vs most) {i : Nat} (hi : i < vs.length) (hm : vs.length ≤ 2147483647) :
    Calls Try.prog 18 #[.pointer (some ⟨p, 0, none⟩), .int .i32 i] w fun e w' => e = .returned (.tuple #[.agg #[.int .i8 (atV vs i).k, .int .i64 (atV vs i).n, .string (atV vs i).s], .int .i64 0]) ∧ Below w.heap.size w w' := by
  have HB := Lib.hid (belowA (w := w) (.cells #[.int .i8 0, .int .i64 0, .string ⟨#[]⟩] 39))
  have h1 := h.keep HB.out
  obtain ⟨g, c, rfl, x0, x1, x2⟩ := row_at h1.own hi
  have c2 := h1.rl.at (j := 2) rfl
  have hi' : (i : Int) < (vs.length : Int) := by omega
  have HT := Lib.hid (rtthere_yes h1)
  clear h h1
  go_enter Try.func18, Try.ntmps18
  go_wp2_with fail
  refine HT.out.mono ?_
  rintro e w1 ⟨rfl, rfl⟩
  go_wp2
  exact bodyPost_ret (v := .tuple #[.agg #[.int .i8 (atV vs i).k, .int .i64 (atV vs i).n, .string (atV vs i).s], .int .i64 0]) (by simp [results, Try.results18, go_sem]) rfl ⟨rfl, belowA _⟩
set_option maxHeartbeats 800000 in
set_option maxRecDepth 100000 in
theorem rtvalue_out {w : World} {B p : Nat} {sv : Value} {vs : List V} {most : Int} (h : Rt w B p sv vs most) {i : Int} (hi : i < 0 ∨ (vs.length : Int) ≤ i) (h0 : -2147483648 ≤ i) (h2 : i ≤ 2147483647) :
    Calls Try.prog 18 #[.pointer (some ⟨p, 0, none⟩), .int .i32 i] w fun e w' => e = .returned (.tuple #[.agg #[.int .i8 0, .int .i64 0, .string ⟨#[]⟩], .int .i64 21]) ∧ Below w.heap.size w w' := by
  have HB := Lib.hid (belowA (w := w) (.cells #[.int .i8 0, .int .i64 0, .string ⟨#[]⟩] 39))
  have h1 := h.keep HB.out
  obtain ⟨a, c, rfl, _⟩ := ownsRow_form h1.own
  have c2 := h1.rl.at (j := 2) rfl
  have HT := Lib.hid (rtthere_yes h1)
  clear h h1
  by_cases hneg : i < 0
  · clear hi
    go_enter Try.func18, Try.ntmps18
    go_wp2_with fail
    refine HT.out.mono ?_
    rintro e w1 ⟨rfl, rfl⟩
    go_wp2
    exact bodyPost_ret (v := .tuple #[.agg #[.int .i8 0, .int .i64 0, .string ⟨#[]⟩], .int .i64 21]) (by simp [results, Try.results18, go_sem]) rfl ⟨rfl, belowA _⟩
  · have hi' : (vs.length : Int) ≤ i := by omega
    clear hi
    go_enter Try.func18, Try.ntmps18
    go_wp2_with fail
    refine HT.out.mono ?_
    rintro e w1 ⟨rfl, rfl⟩
    go_wp2
    exact bodyPost_ret (v := .tuple #[.agg #[.int .i8 0, .int .i64 0, .string ⟨#[]⟩], .int .i64 21]) (by simp [results, Try.results18, go_sem]) rfl ⟨rfl, belowA _⟩
theorem flat_takeR (vs : List V) : ∀ n, (vs.take n).flatMap V.cells = (vs.flatMap V.cells).take (n * 3) := by
  induction vs with
  | nil => intro n; simp
  | cons v vs ih =>
    intro n
    cases n with
    | zero => simp
    | succ n => simp [V.cells, ih n, Nat.succ_mul]
theorem own_cut {w : World} {B : Nat} {a : Option Addr} {c : Nat} {vs : List V} (h : w.ownsRow B 39 3 (.slice a vs.length c) vs.length (vs.flatMap V.cells)) {n : Nat} (hn : n ≤ vs.length) : w.ownsRow B 39 3 (.slice a n c) (vs.take n).length ((vs.take n).flatMap V.cells) ∧ n ≤ c := by
  have e : (vs.take n).length = n := by simp; omega
  rw [e, flat_takeR]
  obtain ⟨hl, ⟨h1, h0⟩ | ⟨g, cap, cur, hv, hb, hbk, hc, hm, hs, ht⟩⟩ := h
  · injection h1 with ha hb hc
    subst ha hc
    obtain rfl : n = 0 := by omega
    exact ⟨⟨by simp, .inl ⟨rfl, rfl⟩⟩, Nat.le_refl _⟩
  · injection hv with ha _ hc'
    subst ha hc'
    refine ⟨⟨?_, .inr ⟨g, c, cur, rfl, hb, hbk, by omega, hm, hs, ?_⟩⟩, by omega⟩
    · rw [List.length_take, hl]; omega
    · rw [← ht, List.take_take]; congr 1; omega
theorem Rt.frz {w : World} {B p : Nat} {sv : Value} {vs : List V} {most : Int} (h : Rt w B p sv vs most) : w.frozen? ⟨p, 2, none⟩ = false := World.rowIs.frozen h.rl 2
theorem rtcut_fin {w : World} {B p : Nat} {a : Option Addr} {c : Nat} {vs : List V} {most : Int} (h : Rt w B p (.slice a vs.length c) vs most) {n : Nat} (hn : n ≤ vs.length) : Rt (w.setCell ⟨p, 2, none⟩ (.slice a n c)) B p (.slice a n c) (vs.take n) most ∧ Touch w (w.setCell ⟨p, 2, none⟩ (.slice a n c)) p p (.slice a vs.length c) (.slice a n c) := by
  have ob : ∀ x y : Nat, (Value.slice a x c).ownBlock = (Value.slice a y c).ownBlock := fun x y => by cases a <;> rfl
  refine ⟨⟨h.rl.set 2 _, ?_, fun v hv => h.wf v (List.mem_of_mem_take hv), h.lo, fun g hg => h.ne g ((ob _ _).trans hg)⟩, ⟨?_, ?_, ?_⟩⟩
  · exact ownsRow_of_block (own_cut h.own hn).1 (fun g hg => Below.heap_setCell w ⟨p, 2, none⟩ _ g (h.ne g ((ob _ _).trans hg)))
  · exact (Below.refl 0 w).setCell (Nat.zero_le _) _
  · intro k hk n1 n2 n3
    exact Below.heap_setCell w ⟨p, 2, none⟩ _ k n1
  · intro g hg
    exact .inl ((ob _ _).trans hg)
set_option maxHeartbeats 800000 in
set_option maxRecDepth 100000 in
theorem rtcut_any {w : World} {B p : Nat} {sv : Value} {vs : List V} {most : Int} (h : Rt w B p sv vs most) {n : Nat} (hn : n ≤ vs.length) :
    Calls Try.prog 34 #[.pointer (some ⟨p, 0, none⟩), .int .i64 n] w fun e w' => e = .returned (.int .i64 0) ∧ ∃ sv', Rt w' B p sv' (vs.take n) most ∧ Touch w w' p p sv sv' := by
  obtain ⟨a, c, rfl, _⟩ := ownsRow_form h.own
  have c2 := h.rl.at (j := 2) rfl
  have fr := h.frz
  have hnc := (own_cut h.own hn).2
  have HT := Lib.hid (rtthere_yes h)
  have HF := Lib.hid (rtcut_fin h hn)
  have h0' : ¬ (n : Int) < 0 := by omega
  have hn' : ¬ (vs.length : Int) < (n : Int) := by omega
  clear h
  go_enter Try.func34, Try.ntmps34
  go_wp2_with fail
  refine HT.out.mono ?_
  rintro e w1 ⟨rfl, rfl⟩
  go_wp2
  all_goals
    go_ret
    exact ⟨rfl, _, HF.out⟩
set_option maxHeartbeats 1600000 in
set_option maxRecDepth 100000 in
theorem rtfind_any {w : World} {B p : Nat} {sv : Value} {vs : List V} {most : Int} (h : Rt w B p sv vs most) (hlen : vs.length ≤ 1000000000) (u : V) (hu : u.wf) : Calls Try.prog 16 #[.pointer (some ⟨p, 0, none⟩), .agg #[.int .i8 u.k, .int .i64 u.n, .string u.s]] w fun e w' => ((e = .returned (.tuple #[.int .i32 0, .bool false]) ∧ u ∉ vs) ∨ ∃ i : Nat, e = .returned (.tuple #[.int .i32 i, .bool true]) ∧ vs[i]? = some u ∧ ∀ j, j < i → vs[j]? ≠ some u) ∧ Below w.heap.size w w' := by
  have HB := Lib.hid (belowA (w := w) (.cells #[.int .i8 u.k, .int .i64 u.n, .string u.s] 39))
  have HA := Lib.hid (rl_new w #[.int .i8 u.k, .int .i64 u.n, .string u.s] 39)
  have HR := Lib.hid (h.keep HB.out)
  clear h
  go_enter Try.func16, Try.ntmps16
  have HT := Lib.hid (rtthere_yes HR.out)
  obtain ⟨a, c, rfl, _⟩ := ownsRow_form HR.out.own
  go_wp2_with fail
  refine HT.out.mono ?_
  rintro e w1 ⟨rfl, rfl⟩
  clear HT
  go_wp2
  generalize w.alloc (.cells #[.int .i8 u.k, .int .i64 u.n, .string u.s] 39) = W at HB HA HR ⊢
  go_loopw [6] (fun i wr => ∃ k : Nat, k ≤ vs.length ∧ i = .int .i64 k ∧ Hid (Below W.heap.size W wr) ∧ Hid (∀ j, j < k → vs[j]? ≠ some u)) (fun i _ => vs.length - (intOf i).toNat)
  case atStart => exact ⟨0, Nat.zero_le _, rfl, Below.refl _ _, fun j hj => by omega⟩
  case round =>
    obtain ⟨k, hk, rfl, HBW, HN⟩ := hrel
    have hR := HR.out.keep HBW.out
    have c2 := hR.rl.at (j := 2) rfl
    by_cases hlt : k < vs.length
    · have hlt' : (k : Int) < (vs.length : Int) := by omega
      have hA := HA.out.below HBW.out
      have y0 := hA.at (j := 0) rfl
      have y1 := hA.at (j := 1) rfl
      have y2 := hA.at (j := 2) rfl
      obtain ⟨g, c', e, v0, v1, v2⟩ := row_at hR.own hlt
      cases e
      have heq := run_eql (atV vs k) u
      have HI : Hid (vs[k]? = some (atV vs k)) := by
        show vs[k]? = some (atV vs k)
        rw [List.getElem?_eq_getElem hlt, atV_eq hlt]
      clear hA hR
      by_cases he : atV vs k = u
      · rw [decide_eq_true he] at heq
        have HE := Lib.hid he
        clear he
        generalize atV vs k = x at v0 v1 v2 heq HI HE
        go_wp2_with fail
        go_quiet (fail)
        go_wp2
        go_ret2
        exact ⟨.inr ⟨k, rfl, by rw [HI.out, HE.out], HN.out⟩, HB.out.trans ((below_drewV HBW.out _).mono HB.out.size)⟩
      · rw [decide_eq_false he] at heq
        have HE := Lib.hid he
        clear he
        generalize atV vs k = x at v0 v1 v2 heq HI HE
        go_wp2_with fail
        go_quiet (fail)
        go_wp2
        go_roundw
        case rel => exact ⟨k + 1, by omega, by go_num, below_drewV HBW.out _, fun j hj => by
          by_cases e : j < k
          · exact HN.out j e
          · obtain rfl : j = k := by omega
            rw [HI.out]; exact fun e => HE.out (Option.some.inj e)⟩
        case measure => simp [intOf]; omega
    · obtain rfl : k = vs.length := by omega
      clear hR
      go_wp2
      go_ret2
      exact ⟨.inl ⟨rfl, fun hm => by
        obtain ⟨j, hj, e⟩ := List.getElem_of_mem hm
        exact HN.out j hj (by rw [List.getElem?_eq_getElem hj, e])⟩, HB.out.trans (HBW.out.mono HB.out.size)⟩
end Go.Proofs.Ythdcgikhcghigaa
