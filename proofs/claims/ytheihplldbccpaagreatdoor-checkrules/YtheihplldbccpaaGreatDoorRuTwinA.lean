import Derived.Test.YtheihplldbccpaaGreatDoorRuData
namespace Go.Proofs.YtheihplldbccpaaGreatDoor
open Go.RowKit Go.Maps
set_option linter.unusedVariables false
set_option linter.unusedSimpArgs false
attribute [local go_sem ↓] Go.wp_at_zero Go.wp_at_succ
attribute [-go_sem] loadVar storeVar

theorem rl_there {w : World} {b : Nat} {t : TypeId} {l : List Value} (h : RL w b t l) : w.there b 0 l.length := fun j hj => by
  rw [Nat.zero_add]
  exact ⟨by rw [World.rowIs.cell h hj]; rfl, World.rowIs.frozen h _⟩
theorem rl_setAll {w : World} {b : Nat} {t : TypeId} {l : List Value} (h : RL w b t l) (vs : List Value) (hv : vs.length = l.length) : RL (w.setCells b 0 vs) b t vs := by
  unfold RL
  rw [hv]
  refine (rowIs_setCells vs 0 w _ h).congr fun j hj => ?_
  rw [if_pos ⟨Nat.zero_le _, by omega⟩, Nat.sub_zero]
/-- what a row holds whose first k elements are written -/
def upC {α : Type} (f : α → List Value) (z : List Value) (U : Nat → α) (k : Nat) : Nat → List Value := fun i => if i < k then f (U i) else z
theorem upC_step {α : Type} (f : α → List Value) (z : List Value) (U : Nat → α) (k : Nat) (y : α) : (fun i => if i = k then f y else upC f z U k i) = upC f z (fun i => if i = k then y else U i) (k + 1) := by
  funext i
  unfold upC
  by_cases e : i = k
  · subst e; simp
  · simp only [if_neg e]
    by_cases h : i < k
    · rw [if_pos h, if_pos (by omega)]
    · rw [if_neg h, if_neg (by omega)]
theorem upC_len {α : Type} {f : α → List Value} {n : Nat} (hf : ∀ x, (f x).length = n) {z : List Value} (hz : z.length = n) (U : Nat → α) (k i : Nat) : (upC f z U k i).length = n := by
  unfold upC
  split
  · exact hf _
  · exact hz
set_option maxHeartbeats 1600000 in
theorem markArg_any (w : World) (hp : PWt w) : Calls Tryz.prog 29 #[.int .i64 777777] w fun e w' => e = .returned (.agg #[.int .i8 0, .string markW, .int .i8 0, .int .i64 0, .string ⟨#[]⟩]) ∧ Below w.heap.size w w' := by
  have BA := (Below.refl w.heap.size w).alloc (Nat.le_refl _) (.cells #[.int .i8 0, .string ⟨#[]⟩, .int .i8 0, .int .i64 0, .string ⟨#[]⟩] 62)
  have HP : Hid _ := tab_below hp BA
  have HR0 : Hid (RL (w.alloc (.cells #[.int .i8 0, .string ⟨#[]⟩, .int .i8 0, .int .i64 0, .string ⟨#[]⟩] 62)) w.heap.size 62 [.int .i8 0, .string ⟨#[]⟩, .int .i8 0, .int .i64 0, .string ⟨#[]⟩]) := rl_new w #[.int .i8 0, .string ⟨#[]⟩, .int .i8 0, .int .i64 0, .string ⟨#[]⟩] 62
  clear hp
  go_enter Tryz.func29, Tryz.ntmps29
  go_wp2_with fail
  refine (word_any _ HP.out).mono ?_
  rintro e w1 ⟨rfl, b1⟩
  have HR : Hid (RL w1 w.heap.size 62 [.int .i8 0, .string ⟨#[]⟩, .int .i8 0, .int .i64 0, .string ⟨#[]⟩]) := RL.below HR0.out b1
  have B1 : Hid (Below w.heap.size w w1) := BA.trans (b1.mono BA.size)
  clear b1 BA HR0 HP
  generalize hmw : markW = MW
  have HM : Hid _ := hmw
  clear hmw
  have hst : (storeVar 62 ⟨w.heap.size, 0, none⟩ (.agg #[.int .i8 0, .string MW, .int .i8 0, .int .i64 0, .string ⟨#[]⟩])).run Tryz.prog w1 = .ok () (w1.setCells w.heap.size 0 [.int .i8 0, .string MW, .int .i8 0, .int .i64 0, .string ⟨#[]⟩]) := run_storeVar_mid w1 _ 0 _ #[.int .i8 0, .string MW, .int .i8 0, .int .i64 0, .string ⟨#[]⟩] (by have := rl_there HR.out; exact this) (by kernel_rfl) (by simp [Value.oneCell'])
  go_wp2
  refine bodyPost_ret (rl_results Tryz.results29 (v := .agg #[.int .i8 0, .string MW, .int .i8 0, .int .i64 0, .string ⟨#[]⟩]) rfl (run_loadVar_mid _ _ 0 62 [.int .i8 0, .string MW, .int .i8 0, .int .i64 0, .string ⟨#[]⟩] _ (RL.range (rl_setAll HR.out [.int .i8 0, .string MW, .int .i8 0, .int .i64 0, .string ⟨#[]⟩] rfl)) Tryz.underlying62 rfl (by kernel_rfl))) rfl ⟨by rw [HM.out], ?_⟩
  exact below_setCells (Nat.le_refl _) _ _ _ B1.out
set_option maxHeartbeats 1600000 in
theorem markLiteral_any (w : World) (hp : PWt w) : Calls Tryz.prog 31 #[.int .i64 777777] w fun e w' => e = .returned (.agg #[.int .i8 99, .string markW, .slice none 0 0, .int .i8 0, .int .i8 0, .string ⟨#[]⟩, .int .i8 0, .int .i64 0, .string ⟨#[]⟩, .slice none 0 0, .int .i8 0, .string ⟨#[]⟩, .int .i8 0, .int .i64 0, .string ⟨#[]⟩, .slice none 0 0]) ∧ Below w.heap.size w w' := by
  have BA := (Below.refl w.heap.size w).alloc (Nat.le_refl _) (.cells #[.int .i8 0, .string ⟨#[]⟩, .slice none 0 0, .int .i8 0, .int .i8 0, .string ⟨#[]⟩, .int .i8 0, .int .i64 0, .string ⟨#[]⟩, .slice none 0 0, .int .i8 0, .string ⟨#[]⟩, .int .i8 0, .int .i64 0, .string ⟨#[]⟩, .slice none 0 0] 55)
  have HP : Hid _ := tab_below hp BA
  have HR0 : Hid (RL (w.alloc (.cells #[.int .i8 0, .string ⟨#[]⟩, .slice none 0 0, .int .i8 0, .int .i8 0, .string ⟨#[]⟩, .int .i8 0, .int .i64 0, .string ⟨#[]⟩, .slice none 0 0, .int .i8 0, .string ⟨#[]⟩, .int .i8 0, .int .i64 0, .string ⟨#[]⟩, .slice none 0 0] 55)) w.heap.size 55 [.int .i8 0, .string ⟨#[]⟩, .slice none 0 0, .int .i8 0, .int .i8 0, .string ⟨#[]⟩, .int .i8 0, .int .i64 0, .string ⟨#[]⟩, .slice none 0 0, .int .i8 0, .string ⟨#[]⟩, .int .i8 0, .int .i64 0, .string ⟨#[]⟩, .slice none 0 0]) := rl_new w #[.int .i8 0, .string ⟨#[]⟩, .slice none 0 0, .int .i8 0, .int .i8 0, .string ⟨#[]⟩, .int .i8 0, .int .i64 0, .string ⟨#[]⟩, .slice none 0 0, .int .i8 0, .string ⟨#[]⟩, .int .i8 0, .int .i64 0, .string ⟨#[]⟩, .slice none 0 0] 55
  clear hp
  go_enter Tryz.func31, Tryz.ntmps31
  go_wp2_with fail
  refine (word_any _ HP.out).mono ?_
  rintro e w1 ⟨rfl, b1⟩
  have HR : Hid (RL w1 w.heap.size 55 [.int .i8 0, .string ⟨#[]⟩, .slice none 0 0, .int .i8 0, .int .i8 0, .string ⟨#[]⟩, .int .i8 0, .int .i64 0, .string ⟨#[]⟩, .slice none 0 0, .int .i8 0, .string ⟨#[]⟩, .int .i8 0, .int .i64 0, .string ⟨#[]⟩, .slice none 0 0]) := RL.below HR0.out b1
  have B1 : Hid (Below w.heap.size w w1) := BA.trans (b1.mono BA.size)
  clear b1 BA HR0 HP
  generalize hmw : markW = MW
  have HM : Hid _ := hmw
  clear hmw
  have hst : (storeVar 55 ⟨w.heap.size, 0, none⟩ (.agg #[.int .i8 99, .string MW, .slice none 0 0, .int .i8 0, .int .i8 0, .string ⟨#[]⟩, .int .i8 0, .int .i64 0, .string ⟨#[]⟩, .slice none 0 0, .int .i8 0, .string ⟨#[]⟩, .int .i8 0, .int .i64 0, .string ⟨#[]⟩, .slice none 0 0])).run Tryz.prog w1 = .ok () (w1.setCells w.heap.size 0 [.int .i8 99, .string MW, .slice none 0 0, .int .i8 0, .int .i8 0, .string ⟨#[]⟩, .int .i8 0, .int .i64 0, .string ⟨#[]⟩, .slice none 0 0, .int .i8 0, .string ⟨#[]⟩, .int .i8 0, .int .i64 0, .string ⟨#[]⟩, .slice none 0 0]) := run_storeVar_mid w1 _ 0 _ #[.int .i8 99, .string MW, .slice none 0 0, .int .i8 0, .int .i8 0, .string ⟨#[]⟩, .int .i8 0, .int .i64 0, .string ⟨#[]⟩, .slice none 0 0, .int .i8 0, .string ⟨#[]⟩, .int .i8 0, .int .i64 0, .string ⟨#[]⟩, .slice none 0 0] (by have := rl_there HR.out; exact this) (by kernel_rfl) (by simp [Value.oneCell'])
  go_wp2
  refine bodyPost_ret (rl_results Tryz.results31 (v := .agg #[.int .i8 99, .string MW, .slice none 0 0, .int .i8 0, .int .i8 0, .string ⟨#[]⟩, .int .i8 0, .int .i64 0, .string ⟨#[]⟩, .slice none 0 0, .int .i8 0, .string ⟨#[]⟩, .int .i8 0, .int .i64 0, .string ⟨#[]⟩, .slice none 0 0]) rfl (run_loadVar_mid _ _ 0 55 [.int .i8 99, .string MW, .slice none 0 0, .int .i8 0, .int .i8 0, .string ⟨#[]⟩, .int .i8 0, .int .i64 0, .string ⟨#[]⟩, .slice none 0 0, .int .i8 0, .string ⟨#[]⟩, .int .i8 0, .int .i64 0, .string ⟨#[]⟩, .slice none 0 0] _ (RL.range (rl_setAll HR.out [.int .i8 99, .string MW, .slice none 0 0, .int .i8 0, .int .i8 0, .string ⟨#[]⟩, .int .i8 0, .int .i64 0, .string ⟨#[]⟩, .slice none 0 0, .int .i8 0, .string ⟨#[]⟩, .int .i8 0, .int .i64 0, .string ⟨#[]⟩, .slice none 0 0] rfl)) Tryz.underlying55 rfl (by kernel_rfl))) rfl ⟨by rw [HM.out], ?_⟩
  exact below_setCells (Nat.le_refl _) _ _ _ B1.out
theorem infoArg : (Tryz.prog.info? 62).map (fun i => (i.zero, i.size, i.bytes)) = some (some (.agg #[.int .i8 0, .string ⟨#[]⟩, .int .i8 0, .int .i64 0, .string ⟨#[]⟩]), 5, 56) := by kernel_rfl
theorem run_make_Arg (n : Nat) (hn : n ≤ 1048576) (w : World) :
    (Instr.makeSlice 22 (.int .i64 ((n : Int) + 1)) (.int .i64 ((n : Int) + 1))).run Tryz.prog w = .ok (.slice (some ⟨w.heap.size, 0, none⟩) (n + 1) (n + 1)) (w.alloc (.cells (madeCells #[.int .i8 0, .string ⟨#[]⟩, .int .i8 0, .int .i64 0, .string ⟨#[]⟩] ((n + 1) * 5)) 62)) := by
  have h := infoArg
  obtain ⟨i, hi, he⟩ := Option.map_eq_some_iff.1 h
  simp only [Prod.mk.injEq] at he
  obtain ⟨h1, h2, h3⟩ := he
  have := run_make (P := Tryz.prog) w 22 62 i _ Tryz.underlying22 hi h1 .i64 .i64 ((n : Int) + 1) ((n : Int) + 1) (by omega) (Int.le_refl _) (by rw [h3]; omega) (by omega)
  rw [this, h2, show ((n : Int) + 1).toNat = n + 1 by omega]
  rfl
theorem load_Arg {u : World} {g o : Nat} {cs : List Value} (h : u.rangeAt g o cs) (hl : cs.length = 5) : (loadVar 62 ⟨g, o, none⟩).run Tryz.prog u = .ok (.agg cs.toArray) u :=
  run_loadVar_mid u g o _ cs _ h Tryz.underlying62 rfl (by rw [hl]; kernel_rfl)
theorem store_Arg {u : World} {b o : Nat} {cs : List Value} (h : u.there b o 5) (hl : cs.length = 5) (h1 : cs.toArray.all (·.oneCell') = true) : (storeVar 62 ⟨b, o, none⟩ (.agg cs.toArray)).run Tryz.prog u = .ok () (u.setCells b o cs) :=
  run_storeVar_mid u b o _ cs.toArray (by rw [List.size_toArray, hl]; exact h) (by rw [List.size_toArray, hl]; kernel_rfl) h1
/-- a copy of a list of arguments, with a mark behind it -/
structure TwA (w : World) (lo : Nat) (l : List A5) (a : Option Addr) (c : Nat) : Prop where
  cap : c = l.length + 1
  lies : ∃ g, a = some ⟨g, 0, none⟩ ∧ lo ≤ g ∧ g < w.heap.size ∧ w.rangeAt g (l.length * 5) [.int .i8 0, .string markW, .int .i8 0, .int .i64 0, .string ⟨#[]⟩] ∧ ∀ i, i < l.length → w.rangeAt g (i * 5) (atA l i).cells
theorem TwA.below {w w' : World} {lo : Nat} {l : List A5} {a : Option Addr} {c : Nat} (h : TwA w lo l a c) (b : Below w.heap.size w w') : TwA w' lo l a c := by
  obtain ⟨h1, g, h2, h3, h4, h5, h6⟩ := h
  exact ⟨h1, g, h2, h3, Nat.lt_of_lt_of_le h4 b.size, range_below h5 b h4, fun i hi => range_below (h6 i hi) b h4⟩
theorem TwA.set {w : World} {lo b j : Nat} {v : Value} (hb : b < lo) {l : List A5} {a : Option Addr} {c : Nat} (h : TwA w lo l a c) : TwA (w.setCell ⟨b, j, none⟩ v) lo l a c := by
  obtain ⟨h1, g, h2, h3, h4, h5, h6⟩ := h
  have e : (w.setCell ⟨b, j, none⟩ v).heap[g]? = w.heap[g]? := heap_setCell_other _ _ _ _ (by show g ≠ b; omega)
  exact ⟨h1, g, h2, h3, by simpa using h4, range_block h5 e, fun i hi => range_block (h6 i hi) e⟩
theorem TwA.lower {w : World} {lo lo' : Nat} (hl : lo' ≤ lo) {l : List A5} {a : Option Addr} {c : Nat} (h : TwA w lo l a c) : TwA w lo' l a c := by
  obtain ⟨h1, g, h2, h3, h4, h5, h6⟩ := h
  exact ⟨h1, g, h2, Nat.le_trans hl h3, h4, h5, h6⟩
theorem TwA.la {w w0 : World} {lo : Nat} {l : List A5} {a : Option Addr} {c : Nat} {v : Value} (h : TwA w lo l a c) (h0 : La w0 v l) (hl : l.length ≤ 1048576) : La w (.slice a l.length c) l := by
  obtain ⟨rfl, g, rfl, _, hg, _, hk⟩ := h
  exact ⟨ls_of_range (f := A5.cells) (k := 5) (by omega) (fun _ => rfl) A50 (by omega) (by unfold maxLen; omega) hg hk, h0.wf⟩
set_option maxHeartbeats 3200000 in
theorem twinArgs_any (v : Value) (l : List A5) (w : World) (hp : PWt w) (hs : l.length ≤ 1048576) (hL : La w v l) :
    Calls Tryz.prog 12 #[v] w fun r w' => ∃ a', r = .returned (.slice a' l.length (l.length + 1)) ∧ Below w.heap.size w w' ∧ TwA w' w.heap.size l a' (l.length + 1) := by
  obtain ⟨a, c, rfl, hc1, hc2, hk⟩ := hL.form
  have hmk := run_make_Arg l.length hs
  have HK : Hid _ := hk
  have HP : Hid (PWt w) := hp
  clear hk hp hc2 hL
  go_enter Tryz.func12, Tryz.ntmps12
  go_wp2
  go_loopw [4] (fun i wr => ∃ k : Nat, k ≤ l.length ∧ i = .int .i64 k ∧ Below w.heap.size w wr ∧ wr.rowIs w.heap.size 62 ((l.length + 1) * 5) (rowF 5 (upC A5.cells [.int .i8 0, .string ⟨#[]⟩, .int .i8 0, .int .i64 0, .string ⟨#[]⟩] (atA l) k))) (fun i _ => l.length - (intOf i).toNat)
  case atStart => exact ⟨0, Nat.zero_le _, rfl, (Below.refl _ _).alloc (Nat.le_refl _) _, made_row w #[.int .i8 0, .string ⟨#[]⟩, .int .i8 0, .int .i64 0, .string ⟨#[]⟩] 62 (l.length + 1) (by decide)⟩
  case round =>
    obtain ⟨k, hk, rfl, bel, hrow⟩ := hrel
    clear hmk
    have HR : Hid (wr.rowIs w.heap.size 62 ((l.length + 1) * 5) (rowF 5 (upC A5.cells [.int .i8 0, .string ⟨#[]⟩, .int .i8 0, .int .i64 0, .string ⟨#[]⟩] (atA l) k))) := hrow
    have hwlt : w.heap.size < wr.heap.size := hrow.lt
    clear hrow
    by_cases hlt : k < l.length
    · have hlt' : (k : Int) < (l.length : Int) := by omega
      obtain ⟨g, off, rfl, hg, hKS⟩ := HK.out (by omega)
      have hld := load_Arg (range_below (hKS k hlt) bel hg) rfl
      have hst := store_Arg (rowF_there HR.out rfl (i := k) (by omega)) (cs := (atA l k).cells) rfl (oneCells_arg _)
      have HN : Hid ((wr.setCells w.heap.size (k * 5) (atA l k).cells).rowIs w.heap.size 62 ((l.length + 1) * 5) (rowF 5 (upC A5.cells [.int .i8 0, .string ⟨#[]⟩, .int .i8 0, .int .i64 0, .string ⟨#[]⟩] (atA l) (k + 1)))) := by
        have := rowF_set (k := k) (by decide) HR.out (atA l k).cells rfl
        rw [upC_step, upd_same (atA l) k _ rfl] at this
        exact this
      have HBn : Hid (Below w.heap.size w (wr.setCells w.heap.size (k * 5) (atA l k).cells)) := below_setCells (Nat.le_refl _) _ _ _ bel
      generalize wr.setCells w.heap.size (k * 5) (atA l k).cells = W2 at hst HN HBn
      generalize Value.agg (atA l k).cells.toArray = QV at hld hst
      have hk1 : (k : Int) < (l.length : Int) + 1 := by omega
      clear hKS HR
      go_wp2
      go_roundw
      case rel => exact ⟨k + 1, by omega, by go_num, HBn.out, HN.out⟩
      case measure => simp [intOf]; omega
    · obtain rfl : k = l.length := by omega
      go_wp2_with fail
      refine (markArg_any _ (tab_below HP.out bel)).mono ?_
      rintro r w1 ⟨rfl, b1⟩
      have HR1 : Hid (w1.rowIs w.heap.size 62 ((l.length + 1) * 5) (rowF 5 (upC A5.cells [.int .i8 0, .string ⟨#[]⟩, .int .i8 0, .int .i64 0, .string ⟨#[]⟩] (atA l) l.length))) := HR.out.of_block (b1.block _ hwlt)
      have bel1 : Below w.heap.size w w1 := bel.trans (b1.mono bel.size)
      have hst := store_Arg (rowF_there HR1.out rfl (i := l.length) (by omega)) (cs := [.int .i8 0, .string markW, .int .i8 0, .int .i64 0, .string ⟨#[]⟩]) rfl (by simp [Value.oneCell'])
      have HN : Hid ((w1.setCells w.heap.size (l.length * 5) [.int .i8 0, .string markW, .int .i8 0, .int .i64 0, .string ⟨#[]⟩]).rowIs w.heap.size 62 ((l.length + 1) * 5) (rowF 5 (fun i => if i = l.length then [.int .i8 0, .string markW, .int .i8 0, .int .i64 0, .string ⟨#[]⟩] else upC A5.cells [.int .i8 0, .string ⟨#[]⟩, .int .i8 0, .int .i64 0, .string ⟨#[]⟩] (atA l) l.length i))) := rowF_set (k := l.length) (by decide) HR1.out [.int .i8 0, .string markW, .int .i8 0, .int .i64 0, .string ⟨#[]⟩] rfl
      have HBn : Hid (Below w.heap.size w (w1.setCells w.heap.size (l.length * 5) [.int .i8 0, .string markW, .int .i8 0, .int .i64 0, .string ⟨#[]⟩])) := below_setCells (Nat.le_refl _) _ _ _ bel1
      have hst2 : (storeVar 62 ⟨w.heap.size, l.length * 5, none⟩ (.agg #[.int .i8 0, .string markW, .int .i8 0, .int .i64 0, .string ⟨#[]⟩])).run Tryz.prog w1 = _ := hst
      clear hst
      generalize w1.setCells w.heap.size (l.length * 5) [.int .i8 0, .string markW, .int .i8 0, .int .i64 0, .string ⟨#[]⟩] = W2 at hst2 HN HBn
      have hk1 : (l.length : Int) < (l.length : Int) + 1 := by omega
      clear b1 HR bel HR1
      obtain ⟨MW, hmw⟩ : ∃ MW, markW = MW := ⟨_, rfl⟩
      rw [hmw] at hst2 HN ⊢
      have HM : Hid _ := hmw
      clear hmw
      go_wp2
      go_ret
      refine ⟨some ⟨w.heap.size, 0, none⟩, rfl, HBn.out, rfl, w.heap.size, rfl, Nat.le_refl _, World.rowIs.lt HN.out, ?_, fun i hi => ?_⟩
      · have := rowF_range HN.out rfl (i := l.length) (by omega) (by rw [if_pos rfl]; rfl)
        rw [if_pos rfl] at this
        rw [HM.out]
        exact this
      · have := rowF_range HN.out rfl (i := i) (by omega) (by simp only [if_neg (show ¬ i = l.length by omega)]; exact upC_len (f := A5.cells) (n := 5) (fun _ => rfl) rfl _ _ _)
        simp only [if_neg (show ¬ i = l.length by omega), upC, if_pos hi] at this
        exact this
theorem infoLit : (Tryz.prog.info? 55).map (fun i => (i.zero, i.size, i.bytes)) = some (some (.agg #[.int .i8 0, .string ⟨#[]⟩, .slice none 0 0, .int .i8 0, .int .i8 0, .string ⟨#[]⟩, .int .i8 0, .int .i64 0, .string ⟨#[]⟩, .slice none 0 0, .int .i8 0, .string ⟨#[]⟩, .int .i8 0, .int .i64 0, .string ⟨#[]⟩, .slice none 0 0]), 16, 216) := by kernel_rfl
theorem run_make_Lit (n : Nat) (hn : n ≤ 1048576) (w : World) :
    (Instr.makeSlice 23 (.int .i64 ((n : Int) + 1)) (.int .i64 ((n : Int) + 1))).run Tryz.prog w = .ok (.slice (some ⟨w.heap.size, 0, none⟩) (n + 1) (n + 1)) (w.alloc (.cells (madeCells #[.int .i8 0, .string ⟨#[]⟩, .slice none 0 0, .int .i8 0, .int .i8 0, .string ⟨#[]⟩, .int .i8 0, .int .i64 0, .string ⟨#[]⟩, .slice none 0 0, .int .i8 0, .string ⟨#[]⟩, .int .i8 0, .int .i64 0, .string ⟨#[]⟩, .slice none 0 0] ((n + 1) * 16)) 55)) := by
  have h := infoLit
  obtain ⟨i, hi, he⟩ := Option.map_eq_some_iff.1 h
  simp only [Prod.mk.injEq] at he
  obtain ⟨h1, h2, h3⟩ := he
  have := run_make (P := Tryz.prog) w 23 55 i _ Tryz.underlying23 hi h1 .i64 .i64 ((n : Int) + 1) ((n : Int) + 1) (by omega) (Int.le_refl _) (by rw [h3]; omega) (by omega)
  rw [this, h2, show ((n : Int) + 1).toNat = n + 1 by omega]
  rfl
theorem load_Lit {u : World} {g o : Nat} {cs : List Value} (h : u.rangeAt g o cs) (hl : cs.length = 16) : (loadVar 55 ⟨g, o, none⟩).run Tryz.prog u = .ok (.agg cs.toArray) u :=
  run_loadVar_mid u g o _ cs _ h Tryz.underlying55 rfl (by rw [hl]; kernel_rfl)
theorem store_Lit {u : World} {b o : Nat} {cs : List Value} (h : u.there b o 16) (hl : cs.length = 16) (h1 : cs.toArray.all (·.oneCell') = true) : (storeVar 55 ⟨b, o, none⟩ (.agg cs.toArray)).run Tryz.prog u = .ok () (u.setCells b o cs) :=
  run_storeVar_mid u b o _ cs.toArray (by rw [List.size_toArray, hl]; exact h) (by rw [List.size_toArray, hl]; kernel_rfl) h1
/-- a copy of a list of literals, with a mark behind it -/
structure TwB (w : World) (lo d : Nat) (l : List XL) (a : Option Addr) (c : Nat) : Prop where
  cap : c = l.length + 1
  lies : ∃ g, a = some ⟨g, 0, none⟩ ∧ lo ≤ g ∧ g < w.heap.size ∧ w.rangeAt g (l.length * 16) [.int .i8 99, .string markW, .slice none 0 0, .int .i8 0, .int .i8 0, .string ⟨#[]⟩, .int .i8 0, .int .i64 0, .string ⟨#[]⟩, .slice none 0 0, .int .i8 0, .string ⟨#[]⟩, .int .i8 0, .int .i64 0, .string ⟨#[]⟩, .slice none 0 0] ∧ ∀ i, i < l.length → w.rangeAt g (i * 16) (atL l i).cells
  each : ∀ i, i < l.length → TwL w lo d (atL l i).x (atL l i).p
theorem TwB.below {w w' : World} {lo d : Nat} {l : List XL} {a : Option Addr} {c : Nat} (h : TwB w lo d l a c) (b : Below w.heap.size w w') : TwB w' lo d l a c := by
  obtain ⟨h1, ⟨g, h2, h3, h4, h5, h6⟩, h7⟩ := h
  exact ⟨h1, ⟨g, h2, h3, Nat.lt_of_lt_of_le h4 b.size, range_below h5 b h4, fun i hi => range_below (h6 i hi) b h4⟩, fun i hi => (h7 i hi).below b⟩
theorem TwB.set {w : World} {lo d b j : Nat} {v : Value} (hb : b < lo) {l : List XL} {a : Option Addr} {c : Nat} (h : TwB w lo d l a c) : TwB (w.setCell ⟨b, j, none⟩ v) lo d l a c := by
  obtain ⟨h1, ⟨g, h2, h3, h4, h5, h6⟩, h7⟩ := h
  have e : (w.setCell ⟨b, j, none⟩ v).heap[g]? = w.heap[g]? := heap_setCell_other _ _ _ _ (by show g ≠ b; omega)
  exact ⟨h1, ⟨g, h2, h3, by simpa using h4, range_block h5 e, fun i hi => range_block (h6 i hi) e⟩, fun i hi => twL_setCells hb [v] j w (h7 i hi)⟩
theorem TwB.lower {w : World} {lo lo' d : Nat} (hl : lo' ≤ lo) {l : List XL} {a : Option Addr} {c : Nat} (h : TwB w lo d l a c) : TwB w lo' d l a c := by
  obtain ⟨h1, ⟨g, h2, h3, h4, h5, h6⟩, h7⟩ := h
  exact ⟨h1, ⟨g, h2, Nat.le_trans hl h3, h4, h5, h6⟩, fun i hi => (h7 i hi).lower hl⟩
theorem TwL.toIs {w w0 : World} {lo d : Nat} {x : Lit4} {p q : LP} (h : TwL w lo d x q) (h0 : LIs w0 d x p) (hs : x.ts.length ≤ 1048576) : LIs w d x q :=
  ⟨h0.kb, h0.rb, h0.pb, h0.ln, h.ts.lt h0.ts hs, h.l.eis h0.l, h.r.eis h0.r⟩
theorem atL_map {n : Nat} (U : Nat → XL) {i : Nat} (h : i < n) : atL ((List.range n).map U) i = U i := by simp [atL, List.getD, h]
set_option maxHeartbeats 3200000 in
theorem twinLiterals_any (d : Nat) (v : Value) (l : List XL) (w : World) (hp : PWt w) (hs : l.length ≤ 1048576) (hsm : ∀ y ∈ l, smallL d y.x) (hL : Lb w v d l) :
    Calls Tryz.prog 13 #[v] w fun r w' => ∃ a' l', r = .returned (.slice a' l.length (l.length + 1)) ∧ Below w.heap.size w w' ∧ l'.length = l.length ∧ (∀ i, i < l.length → (atL l' i).x = (atL l i).x) ∧ TwB w' w.heap.size d l' a' (l.length + 1) := by
  have HEa : Hid (∀ i, i < l.length → LIs w d (atL l i).x (atL l i).p ∧ smallL d (atL l i).x) := fun i hi => ⟨hL.at_is hi, by rw [atL_eq hi]; exact hsm _ (List.getElem_mem hi)⟩
  obtain ⟨a, c, rfl, hc1, hc2, hk⟩ := hL.form
  have hmk := run_make_Lit l.length hs
  have HK : Hid _ := hk
  have HP : Hid (PWt w) := hp
  clear hk hp hc2 hL hsm
  go_enter Tryz.func13, Tryz.ntmps13
  go_wp2
  go_loopw [4] (fun i wr => ∃ (k : Nat) (U : Nat → XL), k ≤ l.length ∧ i = .int .i64 k ∧ Below w.heap.size w wr ∧ wr.rowIs w.heap.size 55 ((l.length + 1) * 16) (rowF 16 (upC XL.cells [.int .i8 0, .string ⟨#[]⟩, .slice none 0 0, .int .i8 0, .int .i8 0, .string ⟨#[]⟩, .int .i8 0, .int .i64 0, .string ⟨#[]⟩, .slice none 0 0, .int .i8 0, .string ⟨#[]⟩, .int .i8 0, .int .i64 0, .string ⟨#[]⟩, .slice none 0 0] U k)) ∧ Hid (∀ i, i < k → (U i).x = (atL l i).x ∧ TwL wr (w.heap.size + 1) d (U i).x (U i).p)) (fun i _ => l.length - (intOf i).toNat)
  case atStart => exact ⟨0, atL l, Nat.zero_le _, rfl, (Below.refl _ _).alloc (Nat.le_refl _) _, made_row w #[.int .i8 0, .string ⟨#[]⟩, .slice none 0 0, .int .i8 0, .int .i8 0, .string ⟨#[]⟩, .int .i8 0, .int .i64 0, .string ⟨#[]⟩, .slice none 0 0, .int .i8 0, .string ⟨#[]⟩, .int .i8 0, .int .i64 0, .string ⟨#[]⟩, .slice none 0 0] 55 (l.length + 1) (by decide), fun i hi => absurd hi (by omega)⟩
  case round =>
    obtain ⟨k, U, hk, rfl, bel, hrow, HTW⟩ := hrel
    clear hmk
    have HR : Hid (wr.rowIs w.heap.size 55 ((l.length + 1) * 16) (rowF 16 (upC XL.cells [.int .i8 0, .string ⟨#[]⟩, .slice none 0 0, .int .i8 0, .int .i8 0, .string ⟨#[]⟩, .int .i8 0, .int .i64 0, .string ⟨#[]⟩, .slice none 0 0, .int .i8 0, .string ⟨#[]⟩, .int .i8 0, .int .i64 0, .string ⟨#[]⟩, .slice none 0 0] U k))) := hrow
    have hwlt : w.heap.size < wr.heap.size := hrow.lt
    clear hrow
    by_cases hlt : k < l.length
    · have hlt' : (k : Int) < (l.length : Int) := by omega
      obtain ⟨g, off, rfl, hg, hKS⟩ := HK.out (by omega)
      have hld := load_Lit (range_below (hKS k hlt) bel hg) rfl
      obtain ⟨hxL, hxS⟩ := HEa.out k hlt
      have HT : Hid _ := twinLiteral_any d (atL l k).x (atL l k).p wr (tab_below HP.out bel) hxS.1 hxS.2.1.1 hxS.2.2.1 (hxL.below bel)
      rw [XL.val_eq] at hld
      obtain ⟨x, hx⟩ : ∃ x, (atL l k).x = x := ⟨_, rfl⟩
      rw [hx] at hld HT
      have HX : Hid _ := hx
      generalize x.val (atL l k).p = QV at hld HT
      clear hKS hxL hxS hx
      go_wp2_with fail
      refine Calls.mono HT.out ?_
      rintro r w1 ⟨q, rfl, b1, htw⟩
      have HR1 : Hid (w1.rowIs w.heap.size 55 ((l.length + 1) * 16) (rowF 16 (upC XL.cells [.int .i8 0, .string ⟨#[]⟩, .slice none 0 0, .int .i8 0, .int .i8 0, .string ⟨#[]⟩, .int .i8 0, .int .i64 0, .string ⟨#[]⟩, .slice none 0 0, .int .i8 0, .string ⟨#[]⟩, .int .i8 0, .int .i64 0, .string ⟨#[]⟩, .slice none 0 0] U k))) := HR.out.of_block (b1.block _ hwlt)
      have bel1 : Below w.heap.size w w1 := bel.trans (b1.mono bel.size)
      have hst := store_Lit (rowF_there HR1.out rfl (i := k) (by omega)) (cs := XL.cells ⟨x, q⟩) rfl (oneCells_lit _)
      rw [XL.val_eq] at hst
      have HN : Hid ((w1.setCells w.heap.size (k * 16) (XL.cells ⟨x, q⟩)).rowIs w.heap.size 55 ((l.length + 1) * 16) (rowF 16 (upC XL.cells [.int .i8 0, .string ⟨#[]⟩, .slice none 0 0, .int .i8 0, .int .i8 0, .string ⟨#[]⟩, .int .i8 0, .int .i64 0, .string ⟨#[]⟩, .slice none 0 0, .int .i8 0, .string ⟨#[]⟩, .int .i8 0, .int .i64 0, .string ⟨#[]⟩, .slice none 0 0] (fun i => if i = k then ⟨x, q⟩ else U i) (k + 1)))) := by
        have := rowF_set (k := k) (by decide) HR1.out (XL.cells ⟨x, q⟩) rfl
        rw [upC_step] at this
        exact this
      have HBn : Hid (Below w.heap.size w (w1.setCells w.heap.size (k * 16) (XL.cells ⟨x, q⟩))) := below_setCells (Nat.le_refl _) _ _ _ bel1
      have HTn : Hid (∀ i, i < k + 1 → ((fun i => if i = k then (⟨x, q⟩ : XL) else U i) i).x = (atL l i).x ∧ TwL (w1.setCells w.heap.size (k * 16) (XL.cells ⟨x, q⟩)) (w.heap.size + 1) d ((fun i => if i = k then (⟨x, q⟩ : XL) else U i) i).x ((fun i => if i = k then (⟨x, q⟩ : XL) else U i) i).p) := fun i hi => by
        by_cases e : i = k
        · subst e
          simp only [if_true]
          exact ⟨HX.out.symm, twL_setCells (by omega) _ _ _ (htw.lower hwlt)⟩
        · simp only [if_neg e]
          obtain ⟨h1, h2⟩ := HTW.out i (by omega)
          exact ⟨h1, twL_setCells (by omega) _ _ _ (h2.below b1)⟩
      generalize w1.setCells w.heap.size (k * 16) (XL.cells ⟨x, q⟩) = W2 at hst HN HBn HTn
      have hk1 : (k : Int) < (l.length : Int) + 1 := by omega
      have hst2 : (storeVar 55 ⟨w.heap.size, k * 16, none⟩ (x.val q)).run Tryz.prog w1 = .ok () W2 := hst
      obtain ⟨RV, hrv⟩ : ∃ RV, x.val q = RV := ⟨_, rfl⟩
      rw [hrv] at hst2 ⊢
      clear HR hld HT b1 htw HR1 HTW hst hrv
      go_wp2
      go_roundw
      case rel => exact ⟨k + 1, _, by omega, by go_num, HBn.out, HN.out, HTn.out⟩
      case measure => simp [intOf]; omega
    · obtain rfl : k = l.length := by omega
      go_wp2_with fail
      refine (markLiteral_any _ (tab_below HP.out bel)).mono ?_
      rintro r w1 ⟨rfl, b1⟩
      have HR1 : Hid (w1.rowIs w.heap.size 55 ((l.length + 1) * 16) (rowF 16 (upC XL.cells [.int .i8 0, .string ⟨#[]⟩, .slice none 0 0, .int .i8 0, .int .i8 0, .string ⟨#[]⟩, .int .i8 0, .int .i64 0, .string ⟨#[]⟩, .slice none 0 0, .int .i8 0, .string ⟨#[]⟩, .int .i8 0, .int .i64 0, .string ⟨#[]⟩, .slice none 0 0] U l.length))) := HR.out.of_block (b1.block _ hwlt)
      have bel1 : Below w.heap.size w w1 := bel.trans (b1.mono bel.size)
      have hst := store_Lit (rowF_there HR1.out rfl (i := l.length) (by omega)) (cs := [.int .i8 99, .string markW, .slice none 0 0, .int .i8 0, .int .i8 0, .string ⟨#[]⟩, .int .i8 0, .int .i64 0, .string ⟨#[]⟩, .slice none 0 0, .int .i8 0, .string ⟨#[]⟩, .int .i8 0, .int .i64 0, .string ⟨#[]⟩, .slice none 0 0]) rfl (by simp [Value.oneCell'])
      have HN : Hid ((w1.setCells w.heap.size (l.length * 16) [.int .i8 99, .string markW, .slice none 0 0, .int .i8 0, .int .i8 0, .string ⟨#[]⟩, .int .i8 0, .int .i64 0, .string ⟨#[]⟩, .slice none 0 0, .int .i8 0, .string ⟨#[]⟩, .int .i8 0, .int .i64 0, .string ⟨#[]⟩, .slice none 0 0]).rowIs w.heap.size 55 ((l.length + 1) * 16) (rowF 16 (fun i => if i = l.length then [.int .i8 99, .string markW, .slice none 0 0, .int .i8 0, .int .i8 0, .string ⟨#[]⟩, .int .i8 0, .int .i64 0, .string ⟨#[]⟩, .slice none 0 0, .int .i8 0, .string ⟨#[]⟩, .int .i8 0, .int .i64 0, .string ⟨#[]⟩, .slice none 0 0] else upC XL.cells [.int .i8 0, .string ⟨#[]⟩, .slice none 0 0, .int .i8 0, .int .i8 0, .string ⟨#[]⟩, .int .i8 0, .int .i64 0, .string ⟨#[]⟩, .slice none 0 0, .int .i8 0, .string ⟨#[]⟩, .int .i8 0, .int .i64 0, .string ⟨#[]⟩, .slice none 0 0] U l.length i))) := rowF_set (k := l.length) (by decide) HR1.out [.int .i8 99, .string markW, .slice none 0 0, .int .i8 0, .int .i8 0, .string ⟨#[]⟩, .int .i8 0, .int .i64 0, .string ⟨#[]⟩, .slice none 0 0, .int .i8 0, .string ⟨#[]⟩, .int .i8 0, .int .i64 0, .string ⟨#[]⟩, .slice none 0 0] rfl
      have HBn : Hid (Below w.heap.size w (w1.setCells w.heap.size (l.length * 16) [.int .i8 99, .string markW, .slice none 0 0, .int .i8 0, .int .i8 0, .string ⟨#[]⟩, .int .i8 0, .int .i64 0, .string ⟨#[]⟩, .slice none 0 0, .int .i8 0, .string ⟨#[]⟩, .int .i8 0, .int .i64 0, .string ⟨#[]⟩, .slice none 0 0])) := below_setCells (Nat.le_refl _) _ _ _ bel1
      have HTn : Hid (∀ i, i < l.length → (U i).x = (atL l i).x ∧ TwL (w1.setCells w.heap.size (l.length * 16) [.int .i8 99, .string markW, .slice none 0 0, .int .i8 0, .int .i8 0, .string ⟨#[]⟩, .int .i8 0, .int .i64 0, .string ⟨#[]⟩, .slice none 0 0, .int .i8 0, .string ⟨#[]⟩, .int .i8 0, .int .i64 0, .string ⟨#[]⟩, .slice none 0 0]) (w.heap.size + 1) d (U i).x (U i).p) := fun i hi => by
        obtain ⟨h1, h2⟩ := HTW.out i hi
        exact ⟨h1, twL_setCells (by omega) _ _ _ (h2.below b1)⟩
      have hst2 : (storeVar 55 ⟨w.heap.size, l.length * 16, none⟩ (.agg #[.int .i8 99, .string markW, .slice none 0 0, .int .i8 0, .int .i8 0, .string ⟨#[]⟩, .int .i8 0, .int .i64 0, .string ⟨#[]⟩, .slice none 0 0, .int .i8 0, .string ⟨#[]⟩, .int .i8 0, .int .i64 0, .string ⟨#[]⟩, .slice none 0 0])).run Tryz.prog w1 = _ := hst
      clear hst
      generalize w1.setCells w.heap.size (l.length * 16) [.int .i8 99, .string markW, .slice none 0 0, .int .i8 0, .int .i8 0, .string ⟨#[]⟩, .int .i8 0, .int .i64 0, .string ⟨#[]⟩, .slice none 0 0, .int .i8 0, .string ⟨#[]⟩, .int .i8 0, .int .i64 0, .string ⟨#[]⟩, .slice none 0 0] = W2 at hst2 HN HBn HTn
      have hk1 : (l.length : Int) < (l.length : Int) + 1 := by omega
      clear b1 HR bel HR1 HTW
      obtain ⟨MW, hmw⟩ : ∃ MW, markW = MW := ⟨_, rfl⟩
      rw [hmw] at hst2 HN ⊢
      have HM : Hid _ := hmw
      clear hmw
      go_wp2
      go_ret
      have hln : ((List.range l.length).map U).length = l.length := by simp
      refine ⟨some ⟨w.heap.size, 0, none⟩, (List.range l.length).map U, rfl, HBn.out, hln, fun i hi => by rw [atL_map U hi]; exact (HTn.out i hi).1, by rw [hln], ⟨w.heap.size, rfl, Nat.le_refl _, World.rowIs.lt HN.out, ?_, fun i hi => ?_⟩, fun i hi => ?_⟩
      · have := rowF_range HN.out rfl (i := l.length) (by omega) (by rw [if_pos rfl]; rfl)
        rw [if_pos rfl] at this
        rw [HM.out, hln]
        exact this
      · rw [hln] at hi
        rw [atL_map U hi]
        have := rowF_range HN.out rfl (i := i) (by omega) (by simp only [if_neg (show ¬ i = l.length by omega)]; exact upC_len (f := XL.cells) (n := 16) (fun _ => rfl) rfl _ _ _)
        simp only [if_neg (show ¬ i = l.length by omega), upC, if_pos hi] at this
        exact this
      · rw [hln] at hi
        rw [atL_map U hi]
        exact (HTn.out i hi).2.lower (by omega)
end Go.Proofs.YtheihplldbccpaaGreatDoor
