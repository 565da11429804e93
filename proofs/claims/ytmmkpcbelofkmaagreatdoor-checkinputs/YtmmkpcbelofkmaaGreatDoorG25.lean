import Derived.Test.YtmmkpcbelofkmaaGreatDoorG24
section
namespace Go.Proofs.YtmmkpcbelofkmaaGreatDoor
open Go.RowKit Go.Maps
set_option linter.unusedVariables false
set_option linter.unusedSimpArgs false
attribute [local go_sem ↓] Go.wp_at_zero Go.wp_at_succ
attribute [-go_sem] loadVar storeVar

/-- a rule and where its lists lie; a list of rules in memory -/
structure XR where
  r : R3
  p : RP
def XR.cells (y : XR) : List Value := [.string y.r.pr, .slice y.p.a y.r.hd.length y.p.c, .slice y.p.ba y.r.bd.length y.p.bc]
theorem XR.val_eq (y : XR) : Value.agg y.cells.toArray = y.r.val y.p := rfl
def XR0 : XR := ⟨⟨noS, [], []⟩, ⟨none, 0, none, 0⟩⟩
def atR (l : List XR) (i : Nat) : XR := l.getD i XR0
theorem atR_eq {l : List XR} {i : Nat} (h : i < l.length) : atR l i = l[i] := by simp [atR, List.getD, List.getElem?_eq_getElem h]
theorem atR_map {n : Nat} (U : Nat → XR) {i : Nat} (h : i < n) : atR ((List.range n).map U) i = U i := by simp [atR, List.getD, h]
theorem oneCells_rule (y : XR) : (XR.cells y).toArray.all (·.oneCell') = true := by simp [XR.cells, Value.oneCell']
structure Lr (w : World) (v : Value) (d : Nat) (l : List XR) : Prop where
  lies : Ls w v l.length (l.flatMap XR.cells)
  each : ∀ i, i < l.length → RIs w d (atR l i).r (atR l i).p
theorem Lr.below {w w' : World} {v : Value} {d : Nat} {l : List XR} (h : Lr w v d l) (b : Below w.heap.size w w') : Lr w' v d l := ⟨h.lies.below b, fun i hi => (h.each i hi).below b⟩
theorem Lr.form {w : World} {v : Value} {d : Nat} {l : List XR} (h : Lr w v d l) : ∃ a c, v = .slice a l.length c ∧ l.length ≤ c ∧ c ≤ maxLen ∧ (0 < l.length → ∃ g off, a = some ⟨g, off, none⟩ ∧ g < w.heap.size ∧ ∀ i, i < l.length → w.rangeAt g (off + i * 3) (atR l i).cells) := ls_range (f := XR.cells) (k := 3) (fun _ => rfl) XR0 h.lies
theorem twR_setCells {lo d b : Nat} {x : R3} {p : RP} (hb : b < lo) : ∀ (vs : List Value) (o : Nat) (w : World), TwR w lo d x p → TwR (w.setCells b o vs) lo d x p
  | [], _, _, h => h
  | v :: r, o, w, h => by rw [World.setCells]; exact twR_setCells hb r (o + 1) _ ⟨h.hd.set hb, h.bd.set hb⟩
theorem TwR.lower {w : World} {lo lo' d : Nat} (hl : lo' ≤ lo) {x : R3} {p : RP} (h : TwR w lo d x p) : TwR w lo' d x p := ⟨h.hd.lower hl, h.bd.lower hl⟩
set_option maxHeartbeats 1600000 in
theorem markRule_any (w : World) (hp : PWt w) : Calls Tryz.prog 32 #[.int .i64 777777] w fun e w' => e = .returned (.agg #[.string markW, .slice none 0 0, .slice none 0 0]) ∧ Below w.heap.size w w' := by
  have BA := (Below.refl w.heap.size w).alloc (Nat.le_refl _) (.cells #[.string ⟨#[]⟩, .slice none 0 0, .slice none 0 0] 74)
  have HP : Hid _ := tab_below hp BA
  have HR0 : Hid (RL (w.alloc (.cells #[.string ⟨#[]⟩, .slice none 0 0, .slice none 0 0] 74)) w.heap.size 74 [.string ⟨#[]⟩, .slice none 0 0, .slice none 0 0]) := rl_new w #[.string ⟨#[]⟩, .slice none 0 0, .slice none 0 0] 74
  clear hp
  go_enter Tryz.func32, Tryz.ntmps32
  go_wp2_with fail
  refine (word_any _ HP.out).mono ?_
  rintro e w1 ⟨rfl, b1⟩
  have HR : Hid (RL w1 w.heap.size 74 [.string ⟨#[]⟩, .slice none 0 0, .slice none 0 0]) := RL.below HR0.out b1
  have B1 : Hid (Below w.heap.size w w1) := BA.trans (b1.mono BA.size)
  clear b1 BA HR0 HP
  generalize hmw : markW = MW
  have HM : Hid _ := hmw
  clear hmw
  have hst : (storeVar 74 ⟨w.heap.size, 0, none⟩ (.agg #[.string MW, .slice none 0 0, .slice none 0 0])).run Tryz.prog w1 = .ok () (w1.setCells w.heap.size 0 [.string MW, .slice none 0 0, .slice none 0 0]) := run_storeVar_mid w1 _ 0 _ #[.string MW, .slice none 0 0, .slice none 0 0] (by have := rl_there HR.out; exact this) (by kernel_rfl) (by simp [Value.oneCell'])
  go_wp2
  refine bodyPost_ret (rl_results Tryz.results32 (v := .agg #[.string MW, .slice none 0 0, .slice none 0 0]) rfl (run_loadVar_mid _ _ 0 74 [.string MW, .slice none 0 0, .slice none 0 0] _ (RL.range (rl_setAll HR.out [.string MW, .slice none 0 0, .slice none 0 0] rfl)) Tryz.underlying74 rfl (by kernel_rfl))) rfl ⟨by rw [HM.out], ?_⟩
  exact below_setCells (Nat.le_refl _) _ _ _ B1.out
theorem infoRul : (Tryz.prog.info? 74).map (fun i => (i.zero, i.size, i.bytes)) = some (some (.agg #[.string ⟨#[]⟩, .slice none 0 0, .slice none 0 0]), 3, 64) := by kernel_rfl
theorem run_make_Rul (n : Nat) (hn : n ≤ 1048576) (w : World) :
    (Instr.makeSlice 22 (.int .i64 ((n : Int) + 1)) (.int .i64 ((n : Int) + 1))).run Tryz.prog w = .ok (.slice (some ⟨w.heap.size, 0, none⟩) (n + 1) (n + 1)) (w.alloc (.cells (madeCells #[.string ⟨#[]⟩, .slice none 0 0, .slice none 0 0] ((n + 1) * 3)) 74)) := by
  have h := infoRul
  obtain ⟨i, hi, he⟩ := Option.map_eq_some_iff.1 h
  simp only [Prod.mk.injEq] at he
  obtain ⟨h1, h2, h3⟩ := he
  have := run_make (P := Tryz.prog) w 22 74 i _ Tryz.underlying22 hi h1 .i64 .i64 ((n : Int) + 1) ((n : Int) + 1) (by omega) (Int.le_refl _) (by rw [h3]; omega) (by omega)
  rw [this, h2, show ((n : Int) + 1).toNat = n + 1 by omega]
  rfl
theorem load_Rul {u : World} {g o : Nat} {cs : List Value} (h : u.rangeAt g o cs) (hl : cs.length = 3) : (loadVar 74 ⟨g, o, none⟩).run Tryz.prog u = .ok (.agg cs.toArray) u :=
  run_loadVar_mid u g o _ cs _ h Tryz.underlying74 rfl (by rw [hl]; kernel_rfl)
theorem store_Rul {u : World} {b o : Nat} {cs : List Value} (h : u.there b o 3) (hl : cs.length = 3) (h1 : cs.toArray.all (·.oneCell') = true) : (storeVar 74 ⟨b, o, none⟩ (.agg cs.toArray)).run Tryz.prog u = .ok () (u.setCells b o cs) :=
  run_storeVar_mid u b o _ cs.toArray (by rw [List.size_toArray, hl]; exact h) (by rw [List.size_toArray, hl]; kernel_rfl) h1
/-- a copy of a list of rules, with a mark behind it -/
structure TwS (w : World) (lo d : Nat) (l : List XR) (a : Option Addr) (c : Nat) : Prop where
  cap : c = l.length + 1
  lies : ∃ g, a = some ⟨g, 0, none⟩ ∧ lo ≤ g ∧ g < w.heap.size ∧ w.rowIs g 74 ((l.length + 1) * 3) (rowF 3 (fun i => if i = l.length then [.string markW, .slice none 0 0, .slice none 0 0] else (atR l i).cells))
  each : ∀ i, i < l.length → TwR w lo d (atR l i).r (atR l i).p
  apart : ∀ g, a = some ⟨g, 0, none⟩ → ∀ i, i < l.length → TwR w (g + 1) d (atR l i).r (atR l i).p
set_option maxHeartbeats 3200000 in
theorem twinRules_any (d : Nat) (v : Value) (l : List XR) (w : World) (hp : PWt w) (hs : l.length ≤ 1048576) (hsm : ∀ i, i < l.length → smallR d (atR l i).r) (hL : Lr w v d l) :
    Calls Tryz.prog 15 #[v] w fun r w' => ∃ a' l', r = .returned (.slice a' l.length (l.length + 1)) ∧ Below w.heap.size w w' ∧ l'.length = l.length ∧ (∀ i, i < l.length → LikeR (atR l i).r (atR l' i).r) ∧ TwS w' w.heap.size d l' a' (l.length + 1) := by
  have HEa : Hid (∀ i, i < l.length → RIs w d (atR l i).r (atR l i).p ∧ smallR d (atR l i).r) := fun i hi => ⟨hL.each i hi, hsm i hi⟩
  obtain ⟨a, c, rfl, hc1, hc2, hk⟩ := hL.form
  have hmk := run_make_Rul l.length hs
  have HK : Hid _ := hk
  have HP : Hid (PWt w) := hp
  clear hk hp hc2 hL hsm
  go_enter Tryz.func15, Tryz.ntmps15
  go_wp2
  go_loopw [4] (fun i wr => ∃ (k : Nat) (U : Nat → XR), k ≤ l.length ∧ i = .int .i64 k ∧ Below w.heap.size w wr ∧ wr.rowIs w.heap.size 74 ((l.length + 1) * 3) (rowF 3 (upC XR.cells [.string ⟨#[]⟩, .slice none 0 0, .slice none 0 0] U k)) ∧ Hid (∀ i, i < k → LikeR (atR l i).r (U i).r ∧ TwR wr (w.heap.size + 1) d (U i).r (U i).p)) (fun i _ => l.length - (intOf i).toNat)
  case atStart => exact ⟨0, atR l, Nat.zero_le _, rfl, (Below.refl _ _).alloc (Nat.le_refl _) _, made_row w #[.string ⟨#[]⟩, .slice none 0 0, .slice none 0 0] 74 (l.length + 1) (by decide), fun i hi => absurd hi (by omega)⟩
  case round =>
    obtain ⟨k, U, hk, rfl, bel, hrow, HTW⟩ := hrel
    clear hmk
    have HR : Hid (wr.rowIs w.heap.size 74 ((l.length + 1) * 3) (rowF 3 (upC XR.cells [.string ⟨#[]⟩, .slice none 0 0, .slice none 0 0] U k))) := hrow
    have hwlt : w.heap.size < wr.heap.size := hrow.lt
    clear hrow
    by_cases hlt : k < l.length
    · have hlt' : (k : Int) < (l.length : Int) := by omega
      obtain ⟨g, off, rfl, hg, hKS⟩ := HK.out (by omega)
      have hld := load_Rul (range_below (hKS k hlt) bel hg) rfl
      obtain ⟨hxL, hxS⟩ := HEa.out k hlt
      have HT : Hid _ := twinRule_any d (atR l k).r (atR l k).p wr (tab_below HP.out bel) hxS.hd hxS.bd hxS.each (hxL.below bel)
      rw [XR.val_eq] at hld
      obtain ⟨x, hx⟩ : ∃ x, (atR l k).r = x := ⟨_, rfl⟩
      rw [hx] at hld HT
      have HX : Hid _ := hx
      generalize x.val (atR l k).p = QV at hld HT
      clear hKS hxL hxS hx
      go_wp2_with fail
      refine Calls.mono HT.out ?_
      rintro r w1 ⟨s, q, rfl, b1, hlk, htw⟩
      have HR1 : Hid (w1.rowIs w.heap.size 74 ((l.length + 1) * 3) (rowF 3 (upC XR.cells [.string ⟨#[]⟩, .slice none 0 0, .slice none 0 0] U k))) := HR.out.of_block (b1.block _ hwlt)
      have bel1 : Below w.heap.size w w1 := bel.trans (b1.mono bel.size)
      have hst := store_Rul (rowF_there HR1.out rfl (i := k) (by omega)) (cs := XR.cells ⟨s, q⟩) rfl (oneCells_rule _)
      rw [XR.val_eq] at hst
      have HN : Hid ((w1.setCells w.heap.size (k * 3) (XR.cells ⟨s, q⟩)).rowIs w.heap.size 74 ((l.length + 1) * 3) (rowF 3 (upC XR.cells [.string ⟨#[]⟩, .slice none 0 0, .slice none 0 0] (fun i => if i = k then ⟨s, q⟩ else U i) (k + 1)))) := by
        have := rowF_set (k := k) (by decide) HR1.out (XR.cells ⟨s, q⟩) rfl
        rw [upC_step] at this
        exact this
      have HBn : Hid (Below w.heap.size w (w1.setCells w.heap.size (k * 3) (XR.cells ⟨s, q⟩))) := below_setCells (Nat.le_refl _) _ _ _ bel1
      have HTn : Hid (∀ i, i < k + 1 → LikeR (atR l i).r ((fun i => if i = k then (⟨s, q⟩ : XR) else U i) i).r ∧ TwR (w1.setCells w.heap.size (k * 3) (XR.cells ⟨s, q⟩)) (w.heap.size + 1) d ((fun i => if i = k then (⟨s, q⟩ : XR) else U i) i).r ((fun i => if i = k then (⟨s, q⟩ : XR) else U i) i).p) := fun i hi => by
        by_cases e : i = k
        · subst e
          simp only [if_true]
          exact ⟨by rw [HX.out]; exact hlk, twR_setCells (by omega) _ _ _ (htw.lower hwlt)⟩
        · simp only [if_neg e]
          obtain ⟨h1, h2⟩ := HTW.out i (by omega)
          exact ⟨h1, twR_setCells (by omega) _ _ _ (h2.below b1)⟩
      generalize w1.setCells w.heap.size (k * 3) (XR.cells ⟨s, q⟩) = W2 at hst HN HBn HTn
      have hk1 : (k : Int) < (l.length : Int) + 1 := by omega
      have hst2 : (storeVar 74 ⟨w.heap.size, k * 3, none⟩ (s.val q)).run Tryz.prog w1 = .ok () W2 := hst
      obtain ⟨RV, hrv⟩ : ∃ RV, s.val q = RV := ⟨_, rfl⟩
      rw [hrv] at hst2 ⊢
      clear HR hld HT b1 htw HR1 HTW hst hrv hlk
      go_wp2
      go_roundw
      case rel => exact ⟨k + 1, _, by omega, by go_num, HBn.out, HN.out, HTn.out⟩
      case measure => simp [intOf]; omega
    · obtain rfl : k = l.length := by omega
      go_wp2_with fail
      refine (markRule_any _ (tab_below HP.out bel)).mono ?_
      rintro r w1 ⟨rfl, b1⟩
      have HR1 : Hid (w1.rowIs w.heap.size 74 ((l.length + 1) * 3) (rowF 3 (upC XR.cells [.string ⟨#[]⟩, .slice none 0 0, .slice none 0 0] U l.length))) := HR.out.of_block (b1.block _ hwlt)
      have bel1 : Below w.heap.size w w1 := bel.trans (b1.mono bel.size)
      have hst := store_Rul (rowF_there HR1.out rfl (i := l.length) (by omega)) (cs := [.string markW, .slice none 0 0, .slice none 0 0]) rfl (by simp [Value.oneCell'])
      have HN : Hid ((w1.setCells w.heap.size (l.length * 3) [.string markW, .slice none 0 0, .slice none 0 0]).rowIs w.heap.size 74 ((l.length + 1) * 3) (rowF 3 (fun i => if i = l.length then [.string markW, .slice none 0 0, .slice none 0 0] else upC XR.cells [.string ⟨#[]⟩, .slice none 0 0, .slice none 0 0] U l.length i))) := rowF_set (k := l.length) (by decide) HR1.out [.string markW, .slice none 0 0, .slice none 0 0] rfl
      have HBn : Hid (Below w.heap.size w (w1.setCells w.heap.size (l.length * 3) [.string markW, .slice none 0 0, .slice none 0 0])) := below_setCells (Nat.le_refl _) _ _ _ bel1
      have HTn : Hid (∀ i, i < l.length → LikeR (atR l i).r (U i).r ∧ TwR (w1.setCells w.heap.size (l.length * 3) [.string markW, .slice none 0 0, .slice none 0 0]) (w.heap.size + 1) d (U i).r (U i).p) := fun i hi => by
        obtain ⟨h1, h2⟩ := HTW.out i hi
        exact ⟨h1, twR_setCells (by omega) _ _ _ (h2.below b1)⟩
      have hst2 : (storeVar 74 ⟨w.heap.size, l.length * 3, none⟩ (.agg #[.string markW, .slice none 0 0, .slice none 0 0])).run Tryz.prog w1 = _ := hst
      clear hst
      generalize w1.setCells w.heap.size (l.length * 3) [.string markW, .slice none 0 0, .slice none 0 0] = W2 at hst2 HN HBn HTn
      have hk1 : (l.length : Int) < (l.length : Int) + 1 := by omega
      clear b1 HR bel HR1 HTW
      obtain ⟨MW, hmw⟩ : ∃ MW, markW = MW := ⟨_, rfl⟩
      rw [hmw] at hst2 HN ⊢
      have HM : Hid _ := hmw
      clear hmw
      go_wp2
      go_ret
      have hln : ((List.range l.length).map U).length = l.length := by simp
      refine ⟨some ⟨w.heap.size, 0, none⟩, (List.range l.length).map U, rfl, HBn.out, hln, fun i hi => by rw [atR_map U hi]; exact (HTn.out i hi).1, by rw [hln], ⟨w.heap.size, rfl, Nat.le_refl _, World.rowIs.lt HN.out, ?_⟩, fun i hi => ?_, fun g hg i hi => ?_⟩
      · rw [HM.out, hln]
        have := HN.out
        refine World.rowIs.congr this fun j hj => ?_
        unfold rowF
        have hji : j / 3 < l.length + 1 := by omega
        by_cases e : j / 3 = l.length
        · simp only [if_pos e]
        · simp only [if_neg e]
          rw [atR_map U (by omega : j / 3 < l.length)]
          unfold upC
          rw [if_pos (by omega)]
      · rw [hln] at hi
        rw [atR_map U hi]
        exact (HTn.out i hi).2.lower (by omega)
      · rw [hln] at hi
        rw [atR_map U hi]
        have : w.heap.size = g := by simpa using congrArg Addr.block (Option.some.inj hg)
        rw [← this]
        exact (HTn.out i hi).2
end Go.Proofs.YtmmkpcbelofkmaaGreatDoor
end
section
namespace Go.Proofs.YtmmkpcbelofkmaaGreatDoor
open Go.RowKit Go.Maps
set_option linter.unusedVariables false
set_option linter.unusedSimpArgs false
attribute [local go_sem ↓] Go.wp_at_zero Go.wp_at_succ
attribute [-go_sem] loadVar storeVar

/-- rules that are not beyond the bound -/
structure smallS (d : Nat) (l : List XR) : Prop where
  len : l.length ≤ 1048576
  each : ∀ i, i < l.length → smallR d (atR l i).r
  terms : (l.flatMap (fun y => termsR d y.r)).length ≤ 1048576
theorem takeRl {l : List XR} {k : Nat} (h : k < l.length) : l.take (k + 1) = l.take k ++ [atR l k] := by rw [List.take_add_one, List.getElem?_eq_getElem h, atR_eq h]; rfl
set_option maxHeartbeats 3200000 in
theorem rulePartsN_any (d : Nat) (r : R3) (p : RP) (w : World) (hR : RIs w d r p) :
    Calls Tryz.prog 30 #[r.val p, .int .i64 1048576] w fun e w' => ∃ n : Int, e = .returned (.int .i64 n) ∧ Below w.heap.size w w' ∧ 0 ≤ n ∧ n ≤ 281474976710657 ∧ (n ≤ 1048576 → smallR d r ∧ 1 + ((termsR d r).length : Int) ≤ n) := by
  obtain ⟨pr, hd, bd⟩ := r
  obtain ⟨pa, pc, ba, bc⟩ := p
  have hhl := hR.hl
  have hbl := hR.bl
  have h2 := hR.bd
  unfold R3.val
  dsimp only at hhl hbl h2 ⊢
  have HEa : Hid (∀ i, i < bd.length → LIs w d (atL bd i).x (atL bd i).p) := fun i hi => h2.at_is hi
  obtain ⟨a1, c1, e1, hc1, hc2, hk⟩ := h2.form
  cases e1
  have HK : Hid _ := hk
  have HBA : Hid (Below w.heap.size w (w.alloc (.cells #[.string pr, .slice pa hd.length pc, .slice ba bd.length bc] 74))) := (Below.refl w.heap.size w).alloc (Nat.le_refl _) _
  have HR0 : Hid (RL (w.alloc (.cells #[.string pr, .slice pa hd.length pc, .slice ba bd.length bc] 74)) w.heap.size 74 [.string pr, .slice pa hd.length pc, .slice ba bd.length bc]) := rl_new w #[.string pr, .slice pa hd.length pc, .slice ba bd.length bc] 74
  have hagg1 := fun q => loadVar.eq_1 72 q
  have hagg2 := fun q => loadVar.eq_1 71 q
  have hw0 : IntKind.i64.wrap (1 + (hd.length : Int)) = 1 + (hd.length : Int) := wrap_mid (by omega) (by omega)
  clear hk h2 hR hc2
  go_enter Tryz.func30, Tryz.ntmps30
  go_wp2
  clear hw0
  go_loopw [5, 6] (fun n i wr => ∃ (k : Nat) (m : Int), k ≤ bd.length ∧ i = .int .i64 k ∧ n = .int .i64 m ∧ 0 ≤ m ∧ m ≤ 281474976710657 ∧ Below w.heap.size w wr ∧ Hid (RL wr w.heap.size 74 [.string pr, .slice pa hd.length pc, .slice ba bd.length bc]) ∧ Hid (m ≤ 1048576 → 1 + (hd.length : Int) + (k : Int) + (((bd.take k).flatMap (fun y => termsL d y.x)).length : Int) ≤ m ∧ ∀ y ∈ bd.take k, smallL d y.x)) (fun _ i _ => bd.length - (intOf i).toNat)
  case atStart => exact ⟨0, 1 + (hd.length : Int), Nat.zero_le _, rfl, rfl, by omega, by omega, HBA.out, HR0, fun _ => ⟨by simp, fun y hy => by simp at hy⟩⟩
  case round =>
    obtain ⟨k, m, hk, rfl, rfl, hm0, hm1, bel, HR, HS⟩ := hrel
    have r2 := HR.out.at (j := 2) rfl
    clear HR0 HBA
    by_cases hlt : k < bd.length
    · have hlt' : (k : Int) < (bd.length : Int) := by omega
      by_cases hmm : m ≤ 1048576
      · obtain ⟨g, off, rfl, hg, hKS⟩ := HK.out (by omega)
        have hld := load_Lit (range_below (hKS k hlt) bel hg) rfl
        rw [XL.val_eq] at hld
        have hXk := (HEa.out k hlt).below bel
        have hw1 : IntKind.i64.wrap (1048576 - m) = 1048576 - m := wrap_mid (by omega) (by omega)
        have HP : Hid (∀ z : Int, 0 ≤ z → z ≤ 1048576 → Calls Tryz.prog 57 #[(atL bd k).x.val (atL bd k).p, .int .i64 z] wr fun r w' => ∃ n : Int, r = .returned (.int .i64 n) ∧ Below wr.heap.size wr w' ∧ (0 ≤ n ∧ n ≤ z + 1) ∧ (n ≤ z → smallL d (atL bd k).x ∧ 1 + ((termsL d (atL bd k).x).length : Int) ≤ n)) := fun z h0 h1 => by
          obtain ⟨q, rfl⟩ : ∃ q : Nat, z = q := ⟨z.toNat, by omega⟩
          exact literalPartsT_any d _ _ wr hXk q (by omega)
        have HTk : Hid _ := takeL hlt
        generalize (atL bd k).x.val (atL bd k).p = QV at hld HP
        clear hKS hXk
        go_wp2_with fail
        refine Calls.mono (HP.out _ (by omega) (by omega)) ?_
        rintro ee w1 ⟨n1, rfl, b1, ⟨hn0, hn1⟩, hsm⟩
        have HR1 : Hid (RL w1 w.heap.size 74 _) := RL.below HR.out b1
        have bel1 := bel.trans (b1.mono bel.size)
        have HSM : Hid _ := hsm
        have hw2 : IntKind.i64.wrap (m + n1) = m + n1 := wrap_mid (by omega) (by omega)
        clear hsm b1 bel r2 HR HP hld
        go_wp2
        go_roundw
        case rel =>
          refine ⟨k + 1, m + n1, by omega, by go_num, rfl, by omega, by omega, bel1, HR1, fun h => ?_⟩
          obtain ⟨h1, h2⟩ := HS.out (by omega)
          obtain ⟨h3, h4⟩ := HSM.out (by omega)
          rw [HTk.out, List.flatMap_append, List.length_append]
          refine ⟨by simp only [List.flatMap_cons, List.flatMap_nil, List.append_nil]; omega, fun y hy => ?_⟩
          rcases List.mem_append.1 hy with h5 | h5
          · exact h2 y h5
          · rw [List.mem_singleton.1 h5]; exact h3
        case measure => simp [intOf]; omega
      · have hmm' : ¬ m ≤ 1048576 := hmm
        go_wp2
        go_ret
        exact ⟨_, rfl, bel, hm0, hm1, fun h => absurd h (by omega)⟩
    · obtain rfl : k = bd.length := by omega
      rw [List.take_length] at HS
      go_wp2
      go_ret
      refine ⟨_, rfl, bel, hm0, hm1, fun h => ?_⟩
      obtain ⟨h1, h2⟩ := HS.out h
      have ht : (termsR d ⟨pr, hd, bd⟩).length = hd.length + (bd.flatMap (fun y => termsL d y.x)).length := by unfold termsR; rw [List.length_append, List.length_map]
      exact ⟨⟨by show hd.length ≤ _; omega, by show bd.length ≤ _; omega, h2, by rw [ht]; omega⟩, by rw [ht]; omega⟩
set_option maxHeartbeats 3200000 in
theorem beyondRules_any (d : Nat) (v : Value) (l : List XR) (w : World) (hll : l.length ≤ 281474976710656) (hL : Lr w v d l) :
    Calls Tryz.prog 13 #[v] w fun e w' => ∃ b : Bool, e = .returned (.bool b) ∧ Below w.heap.size w w' ∧ (b = false → smallS d l) := by
  have HEa : Hid (∀ i, i < l.length → RIs w d (atR l i).r (atR l i).p) := hL.each
  obtain ⟨a, c, rfl, hc1, hc2, hk⟩ := hL.form
  have HK : Hid _ := hk
  clear hk hL hc2
  go_enter Tryz.func13, Tryz.ntmps13
  go_wp2
  go_loopw [3, 4] (fun n i wr => ∃ (k : Nat) (m : Int), k ≤ l.length ∧ i = .int .i64 k ∧ n = .int .i64 m ∧ 0 ≤ m ∧ m ≤ 1048576 ∧ Below w.heap.size w wr ∧ Hid ((k : Int) + (((l.take k).flatMap (fun y => termsR d y.r)).length : Int) ≤ m ∧ ∀ i, i < k → smallR d (atR l i).r)) (fun _ i _ => l.length - (intOf i).toNat)
  case atStart => exact ⟨0, 0, Nat.zero_le _, rfl, rfl, by omega, by omega, Below.refl _ _, by simp, fun i hi => absurd hi (by omega)⟩
  case round =>
    obtain ⟨k, m, hk, rfl, rfl, hm0, hm1, bel, HS⟩ := hrel
    by_cases hlt : k < l.length
    · have hlt' : (k : Int) < (l.length : Int) := by omega
      obtain ⟨g, off, rfl, hg, hKS⟩ := HK.out (by omega)
      have hld := load_Rul (range_below (hKS k hlt) bel hg) rfl
      have HP : Hid _ := rulePartsN_any d (atR l k).r (atR l k).p wr ((HEa.out k hlt).below bel)
      rw [XR.val_eq] at hld
      have HTk : Hid _ := takeRl hlt
      generalize (atR l k).r.val (atR l k).p = QV at hld HP
      clear hKS
      go_wp2_with fail
      refine Calls.mono HP.out ?_
      rintro e w1 ⟨n1, rfl, b1, hn0, hn1, hsm⟩
      have bel1 : Below w.heap.size w w1 := bel.trans (b1.mono bel.size)
      have HSM : Hid _ := hsm
      have hw2 : IntKind.i64.wrap (m + n1) = m + n1 := wrap_mid (by omega) (by omega)
      clear hsm b1 bel HP hld
      by_cases hbig : (1048576 : Int) < m + n1
      · go_wp2
        go_ret
        exact ⟨_, rfl, bel1, fun h => by cases h⟩
      · have hbig' : ¬ (1048576 : Int) < m + n1 := hbig
        go_wp2
        go_roundw
        case rel =>
          refine ⟨k + 1, m + n1, by omega, by go_num, rfl, by omega, by omega, bel1, ?_, fun i hi => ?_⟩
          · have h1 := HS.out.1
            have h2 := (HSM.out (by omega)).2
            rw [HTk.out, List.flatMap_append, List.length_append]
            simp only [List.flatMap_cons, List.flatMap_nil, List.append_nil]
            omega
          · by_cases e : i = k
            · rw [e]; exact (HSM.out (by omega)).1
            · exact HS.out.2 i (by omega)
        case measure => simp [intOf]; omega
    · obtain rfl : k = l.length := by omega
      rw [List.take_length] at HS
      go_wp2
      go_ret
      exact ⟨_, rfl, bel, fun _ => ⟨by have := HS.out.1; omega, HS.out.2, by have := HS.out.1; omega⟩⟩
end Go.Proofs.YtmmkpcbelofkmaaGreatDoor
end
