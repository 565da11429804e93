import Derived.Test.YtlnhnpfgmiffpaaG4
import Derived.Test.YtlnhnpfgmiffpaaG5
import Derived.Deep.RegionWith
import Derived.Test.YtlnhnpfgmiffpaaG6
section
namespace Go.Proofs.Ytlnhnpfgmiffpaa
open Go.RowKit Go.Maps
set_option linter.unusedVariables false
set_option linter.unusedSimpArgs false
attribute [local go_sem ↓] Go.wp_at_zero Go.wp_at_succ

theorem rows_some (ad : Addr) (n c : Nat) (w : World) : (binOp .eql 49 (.slice (some ad) n c) (.slice none 0 0)).run Try.prog w = .ok (.bool false) w := by kernel_rfl
attribute [-go_sem] loadVar Builtin.append_
set_option maxHeartbeats 1600000 in
set_option maxRecDepth 100000 in
theorem cloneRows_any {w : World} {a : Option Addr} {c : Nat} {rows : List (List Int)} (hx : LrC w (.slice a rows.length c) rows) (hnil : a = none → rows = [] ∧ c = 0) (hl : rows.length ≤ 1000000000) :
    Calls Try.prog 37 #[.slice a rows.length c] w fun e w' => ∃ sv, e = .returned sv ∧ w'.ownsRow w.heap.size 40 24 sv rows.length (flatR rows) ∧ Below w.heap.size w w' := by
  cases a with
  | none =>
    obtain ⟨rfl, rfl⟩ := hnil rfl
    refine (cloneRows_nil w).mono ?_
    rintro e w' ⟨rfl, rfl⟩
    exact ⟨_, rfl, World.ownsRow_nil _ _ _ _, Below.refl _ _⟩
  | some ad =>
    have hq := fun w => rows_some ad rows.length c w
    have hb := belowA (w := w) (.cells #[] 40)
    have ho : (w.alloc (.cells #[] 40)).ownsRow w.heap.size 40 24 (.slice (some ⟨w.heap.size, 0, none⟩) 0 0) 0 (flatR []) := ⟨rfl, .inr ⟨_, _, _, rfl, Nat.le_refl _, heap_alloc_new w _, Nat.le_refl _, Nat.zero_le _, rfl, rfl⟩⟩
    obtain ⟨o', w', h1, h2, h3, _⟩ := app_rows (rows1 := []) (n := 0) rfl ho hb hb.size (hx.below hb) (by omega) 49
    have HF : Hid (w'.ownsRow w.heap.size 40 24 o' rows.length (flatR rows) ∧ Below w.heap.size w w') := ⟨by simpa using h2, h3⟩
    obtain ⟨a2, c2, rfl, _⟩ := own_form HF.out.1
    clear hx hb ho h2 h3 hnil
    go_enter Try.func37, Try.ntmps37
    go_wp2
    go_ret
    exact ⟨_, rfl, HF.out⟩
end Go.Proofs.Ytlnhnpfgmiffpaa
end
section
namespace Go.Proofs.Ytlnhnpfgmiffpaa
open Go.RowKit Go.Maps Go.ChangeMaps
set_option linter.unusedVariables false
set_option linter.unusedSimpArgs false
attribute [local go_sem ↓] Go.wp_at_zero Go.wp_at_succ

theorem makeMapN (n : Nat) (u : World) : (Instr.makeMap 50 (some (.int .i64 (n : Int)))).run Try.prog u = .ok (.map (some u.heap.size)) (u.alloc (.map #[] 0)) := by
  simp [Instr.makeMap, go_sem]
/-- what keep has laid so far: the variable (bx), the map (m), the list (sv) -/
structure Kp (w : World) (rows : List (List Int)) (bx m : Option Nat) (sv : Option Value) (u : World) : Prop where
  bel : Below w.heap.size w u
  sz : w.heap.size < u.heap.size
  r0 : RL u w.heap.size 52 [.slice none 0 0, .map none]
  hb : ∀ b, bx = some b → w.heap.size < b ∧ RL u b 52 [.slice none 0 0, .map none]
  hm : ∀ b, m = some b → w.heap.size < b ∧ MapR u b []
  hs : ∀ v, sv = some v → u.ownsRow (w.heap.size + 1) 40 24 v rows.length (flatR rows)
  n1 : ∀ b c, bx = some b → m = some c → b ≠ c
  n2 : ∀ v b g, sv = some v → bx = some b → v.ownBlock = some g → g ≠ b
  n3 : ∀ v b g, sv = some v → m = some b → v.ownBlock = some g → g ≠ b
theorem Kp.keep {w u u' : World} {rows : List (List Int)} {bx m : Option Nat} {sv : Option Value} (h : Kp w rows bx m sv u) (hb : Below u.heap.size u u') : Kp w rows bx m sv u' :=
  ⟨h.bel.trans (hb.mono h.bel.size), Nat.lt_of_lt_of_le h.sz hb.size, h.r0.below hb, fun b e => ⟨(h.hb b e).1, (h.hb b e).2.below hb⟩, fun b e => ⟨(h.hm b e).1, (h.hm b e).2.below hb⟩, fun v e => own_below (h.hs v e) hb, h.n1, h.n2, h.n3⟩
theorem Kp.box {w u : World} {rows : List (List Int)} {m : Option Nat} {sv : Option Value} (h : Kp w rows none m sv u) : Kp w rows (some u.heap.size) m sv (u.alloc (.cells #[.slice none 0 0, .map none] 52)) := by
  have k := h.keep (belowA (w := u) (.cells #[.slice none 0 0, .map none] 52))
  refine ⟨k.bel, k.sz, k.r0, fun b e => ?_, k.hm, k.hs, fun b c e1 e2 => ?_, fun v b g e1 e2 e3 => ?_, k.n3⟩
  · cases e; exact ⟨h.sz, rl_new u _ _⟩
  · cases e1; have := (h.hm c e2).2.lt; omega
  · cases e2; have := ((h.hs v e1).lt g e3).2; omega
theorem Kp.map {w u : World} {rows : List (List Int)} {bx : Option Nat} {sv : Option Value} (h : Kp w rows bx none sv u) : Kp w rows bx (some u.heap.size) sv (u.alloc (.map #[] 0)) := by
  have k := h.keep (belowA (w := u) (.map #[] 0))
  refine ⟨k.bel, k.sz, k.r0, k.hb, fun b e => ?_, k.hs, fun b c e1 e2 => ?_, k.n2, fun v b g e1 e2 e3 => ?_⟩
  · cases e; exact ⟨h.sz, MapR.made u⟩
  · cases e2; have := World.rowIs.lt (h.hb b e1).2; omega
  · cases e2; have := ((h.hs v e1).lt g e3).2; omega
theorem Kp.call {w u u' : World} {rows : List (List Int)} {bx m : Option Nat} {v : Value} (h : Kp w rows bx m none u) (hb : Below u.heap.size u u') (ho : u'.ownsRow u.heap.size 40 24 v rows.length (flatR rows)) : Kp w rows bx m (some v) u' := by
  have k := h.keep hb
  refine ⟨k.bel, k.sz, k.r0, k.hb, k.hm, fun v' e => ?_, k.n1, fun v' b g e1 e2 e3 => ?_, fun v' b g e1 e2 e3 => ?_⟩
  · cases e
    obtain ⟨e1, e2 | ⟨g', cap', cur, e, hbase, rest⟩⟩ := ho
    · exact ⟨e1, .inl e2⟩
    · exact ⟨e1, .inr ⟨g', cap', cur, e, by have := h.sz; omega, rest⟩⟩
  · cases e1; have := World.rowIs.lt (h.hb b e2).2; have := (ho.lt g e3).1; omega
  · cases e1; have := (h.hm b e2).2.lt; have := (ho.lt g e3).1; omega
/-- all laid -/
structure Kd (w : World) (rows : List (List Int)) (bx m : Nat) (sv : Value) (u : World) : Prop where
  bel : Below w.heap.size w u
  r0 : RL u w.heap.size 52 [.slice none 0 0, .map none]
  r1 : RL u bx 52 [sv, .map (some m)]
  map : MapR u m []
  own : u.ownsRow (w.heap.size + 1) 40 24 sv rows.length (flatR rows)
  ne : bx ≠ m ∧ w.heap.size < bx ∧ w.heap.size < m
  nv : ∀ g, sv.ownBlock = some g → g ≠ bx ∧ g ≠ m
theorem Kp.done {w u : World} {rows : List (List Int)} {bx m : Nat} {sv : Value} (h : Kp w rows (some bx) (some m) (some sv) u) : Kd w rows bx m sv ((u.setCell ⟨bx, 0, none⟩ sv).setCell ⟨bx, 1, none⟩ (.map (some m))) := by
  have hbx := h.hb bx rfl
  have hm := h.hm m rfl
  have hne := h.n1 bx m rfl rfl
  have hblk : ∀ k, k ≠ bx → ((u.setCell ⟨bx, 0, none⟩ sv).setCell ⟨bx, 1, none⟩ (.map (some m))).heap[k]? = u.heap[k]? := fun k hk => by
    rw [heap_setCell_other _ _ _ _ (by exact hk), heap_setCell_other _ _ _ _ (by exact hk)]
  refine ⟨(h.bel.setCell (p := ⟨bx, 0, none⟩) (by show w.heap.size ≤ bx; omega) _).setCell (p := ⟨bx, 1, none⟩) (by show w.heap.size ≤ bx; omega) _, World.rowIs.of_block h.r0 (hblk _ (by omega)), (hbx.2.set 0 sv).set 1 (.map (some m)), hm.2.of_block (hblk _ (Ne.symm hne)), own_of_block (h.hs sv rfl) (fun g hg => hblk g (h.n2 sv bx g rfl rfl hg)), ⟨hne, hbx.1, hm.1⟩, fun g hg => ⟨h.n2 sv bx g rfl rfl hg, h.n3 sv m g rfl rfl hg⟩⟩
theorem Kp.boxD {w u : World} {rows : List (List Int)} {m : Nat} {sv : Value} (h : Kp w rows none (some m) (some sv) u) : Kd w rows u.heap.size m sv (u.alloc (.cells #[sv, .map (some m)] 52)) := by
  have k := h.keep (belowA (w := u) (.cells #[sv, .map (some m)] 52))
  have hm := h.hm m rfl
  have hl := hm.2.lt
  exact ⟨k.bel, k.r0, rl_new u _ _, (k.hm m rfl).2, k.hs sv rfl, ⟨by omega, h.sz, hm.1⟩, fun g hg => ⟨by have := ((h.hs sv rfl).lt g hg).2; omega, h.n3 sv m g rfl rfl hg⟩⟩
theorem Kp.boxM {w u : World} {rows : List (List Int)} {sv : Value} (h : Kp w rows none none (some sv) u) : Kd w rows u.heap.size (u.heap.size + 1) sv ((u.alloc (.cells #[sv, .map (some (u.heap.size + 1))] 52)).alloc (.map #[] 0)) := by
  have k := (h.keep (belowA (w := u) (.cells #[sv, .map (some (u.heap.size + 1))] 52))).map
  simp only [World.size_alloc] at k
  have hs := h.sz
  exact ⟨k.bel, k.r0, (rl_new u _ _).below (belowA _), (k.hm _ rfl).2, k.hs sv rfl, ⟨by omega, h.sz, by omega⟩, fun g hg => ⟨by have := ((h.hs sv rfl).lt g hg).2; omega, by have := ((h.hs sv rfl).lt g hg).2; omega⟩⟩
end Go.Proofs.Ytlnhnpfgmiffpaa
end
section
namespace Go.Proofs.Ytlnhnpfgmiffpaa
open Go.RowKit Go.Maps Go.ChangeMaps
set_option linter.unusedVariables false
set_option linter.unusedSimpArgs false
attribute [local go_sem ↓] Go.wp_at_zero Go.wp_at_succ

set_option maxHeartbeats 3200000 in
set_option maxRecDepth 100000 in
theorem keep_any {w : World} {a : Option Addr} {c : Nat} {rows : List (List Int)} (hx : LrC w (.slice a rows.length c) rows) (hnil : a = none → rows = [] ∧ c = 0) (hl : rows.length ≤ 1000000000) (ok : ∀ r ∈ rows, RowOk r) (nd : rows.Nodup) :
    Calls Try.prog 13 #[.slice a rows.length c] w fun e w' => ∃ sv m, e = .returned (.agg #[sv, .map (some m)]) ∧ w'.ownsRow (w.heap.size + 1) 40 24 sv rows.length (flatR rows) ∧ MapR w' m rows ∧ w.heap.size ≤ m ∧ (∀ g, sv.ownBlock = some g → g ≠ m) ∧ Below w.heap.size w w' := by
  have hmm := makeMapN rows.length
  have HCL : Hid (∀ u, Below w.heap.size w u → Calls Try.prog 37 #[.slice a rows.length c] u fun e w' => ∃ a2 c2, e = .returned (.slice a2 rows.length c2) ∧ w'.ownsRow u.heap.size 40 24 (.slice a2 rows.length c2) rows.length (flatR rows) ∧ Below u.heap.size u w') := fun u hu => (cloneRows_any (hx.below hu) hnil hl).mono (fun e w' h => by
    obtain ⟨sv, rfl, ho, hb⟩ := h
    obtain ⟨a2, c2, rfl, _⟩ := own_form ho
    exact ⟨a2, c2, rfl, ho, hb⟩)
  have k0 : Kp w rows none none none (w.alloc (.cells #[.slice none 0 0, .map none] 52)) := ⟨belowA _, by simp, rl_new w _ _, fun b e => (by cases e), fun b e => (by cases e), fun b e => (by cases e), fun b c e => (by cases e), fun v b g e => (by cases e), fun v b g e => (by cases e)⟩
  have HON := Lib.hid (And.intro ok nd)
  clear hx hnil ok nd
  go_enter Try.func13, Try.ntmps13
  go_upto_region 1 with fail
  have hsW : w.heap.size + 1 = (w.alloc (.cells #[.slice none 0 0, .map none] 52)).heap.size := by simp
  generalize w.alloc (.cells #[.slice none 0 0, .map none] 52) = W at k0 hsW ⊢
  have hd : ∀ u : World, Below u.heap.size u u.drew := fun u => (Below.refl _ _).drew
  have KP1 := Lib.hid (k0.keep (hd _))
  have KP2 := Lib.hid (k0.box.keep (hd _))
  have KP3 := Lib.hid (k0.map.keep (hd _))
  have k4 := k0.box.map.keep (hd _)
  have k5 := k0.map.box.keep (hd _)
  simp only [World.size_alloc] at k4 k5
  have KP4 := Lib.hid k4
  have KP5 := Lib.hid k5
  have HSW := Lib.hid hsW
  clear hd hsW k0 k4 k5
  go_cut [3] (fun p wc => ∃ bx m sv, p = .pointer (some ⟨bx, 0, none⟩) ∧ Hid (Kd w rows bx m sv wc))
  case first =>
    go_region_law (
      refine step_call rfl 37 Try.func37 (by kernel_rfl) (by kernel_rfl) #[.tmp 4] _ rfl #[.slice a rows.length c] (by simp [Act.eval, Act.put]) (HCL.out _ (by first | exact KP1.out.bel | exact KP2.out.bel | exact KP3.out.bel | exact KP4.out.bel | exact KP5.out.bel)) ?_
      rintro ee w2 ⟨a2, c2, rfl, ho, hb⟩
      refine ⟨_, rfl, ?_⟩
      first
        | have HKb := Lib.hid (KP1.out.call hb ho)
        | have HKb := Lib.hid (KP2.out.call hb ho)
        | have HKb := Lib.hid (KP3.out.call hb ho)
        | have HKb := Lib.hid (KP4.out.call hb ho)
        | have HKb := Lib.hid (KP5.out.call hb ho)
      try have z0 := (HKb.out.hb _ rfl).2.at (j := 0) rfl
      try have z1 := (HKb.out.hb _ rfl).2.at (j := 1) rfl
      try have f0 := World.rowIs.frozen (HKb.out.hb _ rfl).2 0
      try have f1 := World.rowIs.frozen (HKb.out.hb _ rfl).2 1
      try have y0 := (HKb.out.map.hb _ rfl).2.at (j := 0) rfl
      try have y1 := (HKb.out.map.hb _ rfl).2.at (j := 1) rfl
      try have g0 := World.rowIs.frozen (HKb.out.map.hb _ rfl).2 0
      try have g1 := World.rowIs.frozen (HKb.out.map.hb _ rfl).2 1
      clear ho hb)
    all_goals
      go_wp2_with fail
      go_meet
      first
        | exact ⟨_, _, _, rfl, HKb.out.done⟩
        | exact ⟨_, _, _, rfl, HKb.out.map.done⟩
        | exact ⟨_, _, _, rfl, HKb.out.boxD⟩
        | exact ⟨_, _, _, rfl, HKb.out.boxM⟩
        | (have hz := HKb.out.map.boxD; simp only [World.size_alloc] at hz; exact ⟨_, _, _, rfl, hz⟩)
  case rest =>
    obtain ⟨bx, m, sv, rfl, HK⟩ := hcut
    clear KP1 KP2 KP3 KP4 KP5 HSW HCL hmm
    obtain ⟨a2, c2, rfl, _⟩ := own_form HK.out.own
    have HNUM := Lib.hid (number_any (HK.out.r1.at (j := 0) rfl) (HK.out.r1.at (j := 1) rfl) (World.rowIs.lt HK.out.r1) HK.out.own HON.out.1 HON.out.2 HK.out.map ⟨HK.out.ne.1, fun g hg => (HK.out.nv g hg).2⟩ hl)
    go_wp2_with fail
    refine HNUM.out.mono ?_
    rintro e w3 ⟨⟨u, rfl⟩, hm3, hbs⟩
    have r0 := HK.out.r0.beside hbs (by have := HK.out.ne.2.2; omega)
    have r1 := HK.out.r1.beside hbs HK.out.ne.1
    have own3 := own_of_block HK.out.own (w' := w3) (fun g hg => hbs.block g (HK.out.own.lt g hg).2 (HK.out.nv g hg).2)
    have b3 : Below w.heap.size w w3 := HK.out.bel.trans ⟨hbs.os, hbs.tape, hbs.output, hbs.size, fun k hk => hbs.block k (by have := HK.out.bel.size; omega) (by have := HK.out.ne.2.2; omega)⟩
    have x0 := r1.at (j := 0) rfl
    have x1 := r1.at (j := 1) rfl
    have z0 := r0.at (j := 0) rfl
    have z1 := r0.at (j := 1) rfl
    have f0 := World.rowIs.frozen r0 0
    have f1 := World.rowIs.frozen r0 1
    have HR0 := Lib.hid r0
    have HM3 := Lib.hid hm3
    have HB3 := Lib.hid b3
    have HO3 := Lib.hid own3
    have HNE := Lib.hid (And.intro HK.out.ne HK.out.nv)
    clear HK hbs r0 r1 own3 hm3 b3 HNUM HON
    go_wp2
    have hfin := ((HR0.out.set 0 (.slice a2 rows.length c2)).set 1 (.map (some m)))
    have hblk : ∀ k, k ≠ w.heap.size → ((w3.setCell ⟨w.heap.size, 0, none⟩ (.slice a2 rows.length c2)).setCell ⟨w.heap.size, 1, none⟩ (.map (some m))).heap[k]? = w3.heap[k]? := fun k hk => by
      rw [heap_setCell_other _ _ _ _ (by exact hk), heap_setCell_other _ _ _ _ (by exact hk)]
    refine bodyPost_ret (rl_results Try.results13 (v := .agg #[.slice a2 rows.length c2, .map (some m)]) rfl (run_loadVar_mid _ _ 0 52 [.slice a2 rows.length c2, .map (some m)] _ (RL.range hfin) Try.underlying52 rfl (by kernel_rfl))) rfl ⟨_, m, rfl, ?_, ?_, by have := HNE.out.1.2.2; omega, fun g hg => (HNE.out.2 g hg).2, ?_⟩
    · exact own_of_block HO3.out (fun g hg => hblk g (by have := (HO3.out.lt g hg).1; omega))
    · exact HM3.out.of_block (hblk m (by have := HNE.out.1.2.2; omega))
    · exact (HB3.out.setCell (p := ⟨w.heap.size, 0, none⟩) (Nat.le_refl _) _).setCell (p := ⟨w.heap.size, 1, none⟩) (Nat.le_refl _) _
end Go.Proofs.Ytlnhnpfgmiffpaa
end
section
namespace Go.Proofs.Ytlnhnpfgmiffpaa
open Go.RowKit Go.Maps
set_option linter.unusedVariables false
set_option linter.unusedSimpArgs false
attribute [local go_sem ↓] Go.wp_at_zero Go.wp_at_succ

/-- a list of one's own is a list that lies somewhere -/
theorem own_LrC {w : World} {B : Nat} {a : Option Addr} {c : Nat} {rows : List (List Int)} (own : w.ownsRow B 40 24 (.slice a rows.length c) rows.length (flatR rows)) (ok : ∀ r ∈ rows, r.length = 24) : LrC w (.slice a rows.length c) rows ∧ (a = none → rows = [] ∧ c = 0) := by
  have hfl := flatR_len rows ok
  have own' := own
  have hlt := own.lt
  obtain ⟨_, ⟨e, h0⟩ | ⟨g, cap, cur, e, _, _, hnc, _⟩⟩ := own
  · obtain ⟨rfl, _, rfl⟩ := Value.slice.inj e
    exact ⟨⟨ok, _, _, rfl, fun h => by omega⟩, fun _ => ⟨List.eq_nil_of_length_eq_zero h0, rfl⟩⟩
  · obtain ⟨rfl, _, rfl⟩ := Value.slice.inj e
    refine ⟨⟨ok, _, _, rfl, fun _ => ⟨g, 0, rfl, (hlt g rfl).2, fun j u hu => ?_⟩⟩, fun h => by cases h⟩
    have hj : j < (flatR rows).length := (List.getElem?_eq_some_iff.1 hu).1
    rw [Nat.zero_add, own'.cellAt j (by omega)]
    exact hu
theorem own_base2 {w : World} {B : Nat} {e : TypeId} {k : Nat} {v : Value} {n : Nat} {xs : List Value} (h : w.ownsRow (B + 1) e k v n xs) : w.ownsRow B e k v n xs := by
  obtain ⟨e1, e2 | ⟨g', cap', cur, e, hbase, rest⟩⟩ := h
  · exact ⟨e1, .inl e2⟩
  · exact ⟨e1, .inr ⟨g', cap', cur, e, by omega, rest⟩⟩
attribute [-go_sem] loadVar
set_option maxHeartbeats 3200000 in
set_option maxRecDepth 100000 in
theorem clone_yes {w : World} {B t m : Nat} {sv : Value} {rows : List (List Int)} {ar gone : Int} (h : Rel w B t m sv rows ar gone) (hlen : rows.length ≤ 1000000000) :
    Calls Try.prog 6 #[.pointer (some ⟨t, 0, none⟩)] w fun e w' => ∃ t2 m2 sv2, e = .returned (.pointer (some ⟨t2, 0, none⟩)) ∧ Rel w' w.heap.size t2 m2 sv2 rows ar 0 ∧ Below w.heap.size w w' := by
  obtain ⟨a, c, rfl, _⟩ := own_form h.own
  have HT := Lib.hid (there_yes h)
  have h1 := h.keep (Below.refl _ _).drew
  obtain ⟨x1, x2⟩ := own_LrC h1.own (fun r hr => (h.ok r hr).len)
  have HKP := Lib.hid (keep_any x1 x2 hlen h.ok h.nd)
  have l0 := run_loadRows (h1.rl.at (j := 0) rfl)
  have l2 := run_loadInt (h1.rl.at (j := 2) rfl)
  have HR := Lib.hid h1
  have HON := Lib.hid (And.intro h.ok h.nd)
  clear h h1 x1 x2
  go_enter Try.func6, Try.ntmps6
  go_wp2_with fail
  refine HT.out.mono ?_
  rintro e w1 ⟨rfl, rfl⟩
  clear HT
  go_upto_region 3 with fail
  go_region_law (
    refine step_call rfl 13 Try.func13 (by kernel_rfl) (by kernel_rfl) #[.tmp 10] _ rfl #[.slice a rows.length c] (by simp [Act.eval, Act.put]) HKP.out ?_
    rintro ee w2 ⟨sv2, m2, rfl, ho, hm, hle, hne, b2⟩
    obtain ⟨a2, c2, hsv2, _⟩ := own_form ho
    subst hsv2
    refine ⟨_, rfl, ?_⟩
    have l2' := run_loadInt ((HR.out.keep b2).rl.at (j := 2) rfl)
    have HF := Lib.hid (And.intro ho (And.intro hm (And.intro hle (And.intro hne b2))))
    clear ho hm hle hne b2)
  all_goals
    go_wp2
    go_ret
    obtain ⟨ho, hm, hle, hne, b2⟩ := HF.out
    have ha : Below w2.heap.size w2 (w2.alloc (.cells #[.slice a2 rows.length c2, .map (some m2), .int .i64 ar, .int .i64 0] 55)) := (Below.refl _ _).alloc (Nat.le_refl _) _
    have hml := hm.lt
    have hs2 := b2.size
    refine ⟨_, m2, _, rfl, ⟨rl_new w2 #[.slice a2 rows.length c2, .map (some m2), .int .i64 ar, .int .i64 0] 55, own_below (own_base2 ho) ha, hm.below ha, HON.out.2, HON.out.1, ⟨hs2, hle⟩, by omega, fun g hg => ⟨by have := (ho.lt g hg).2; omega, hne g hg⟩⟩, ?_⟩
    exact ((Below.refl _ _).drew.trans b2).trans (ha.mono hs2)
end Go.Proofs.Ytlnhnpfgmiffpaa
end
section
namespace Go.Proofs.Ytlnhnpfgmiffpaa
open Go.RowKit Go.Maps
set_option linter.unusedVariables false
set_option linter.unusedSimpArgs false

/-! Add and Remove of both sides, in one form each: what is told and what is there behind it -/
def addX (rows : List (List Int)) (r : List Int) (n : Int) : Bool := fitB r n && decide (r ∉ rows)
def addE (r : List Int) (n : Int) : Int := if fitB r n = true then 0 else 100
def addRows (rows : List (List Int)) (r : List Int) (n : Int) : List (List Int) := if addX rows r n = true then rows ++ [r] else rows
theorem addRows_len (rows : List (List Int)) (r : List Int) (n : Int) : (addRows rows r n).length ≤ rows.length + 1 := by
  unfold addRows; split <;> simp
theorem add_one {w : World} {B t m : Nat} {sv : Value} {rows : List (List Int)} {ar gone : Int} (h : Rel w B t m sv rows ar gone) (hB : B ≤ w.heap.size) (hlen : rows.length ≤ 1000000000) (r : List Int) (hr : RowOk r) :
    Calls Try.prog 16 #[.pointer (some ⟨t, 0, none⟩), rowV r] w fun e w' =>
      e = .returned (.tuple #[.bool (addX rows r ar), .int .i64 (addE r ar)]) ∧ RTouch w w' t m sv ∧ ∃ sv', Rel w' B t m sv' (addRows rows r ar) ar gone ∧ ∀ g, sv'.ownBlock = some g → sv.ownBlock = some g ∨ w.heap.size ≤ g := by
  refine (add_anyT h hB hlen r hr).mono ?_
  rintro e w' (⟨hf, rfl, b⟩ | ⟨hf, hm, rfl, b⟩ | ⟨hf, hm, rfl, b, sv', hr', hl⟩)
  · exact ⟨by simp [addX, addE, hf], RTouch.of b, sv, by simpa [addRows, addX, hf] using h.keep b, fun g hg => .inl hg⟩
  · exact ⟨by simp [addX, addE, hf, hm], RTouch.of b, sv, by simpa [addRows, addX, hf, hm] using h.keep b, fun g hg => .inl hg⟩
  · exact ⟨by simp [addX, addE, hf, hm], b, sv', by simpa [addRows, addX, hf, hm] using hr', hl⟩
theorem radd_one {w : World} {B p : Nat} {sv : Value} {rows : List (List Int)} {ar tk : Int} (h : Rf w B p sv rows ar tk) (hB : B ≤ w.heap.size) (hlen : rows.length ≤ 1000000000) (r : List Int) (hr : RowOk r) :
    Calls Try.prog 17 #[.pointer (some ⟨p, 0, none⟩), rowV r] w fun e w' =>
      e = .returned (.tuple #[.bool (addX rows r ar), .int .i64 (addE r ar)]) ∧ RTouch w w' p p sv ∧ ∃ sv', Rf w' B p sv' (addRows rows r ar) ar tk ∧ ∀ g, sv'.ownBlock = some g → sv.ownBlock = some g ∨ w.heap.size ≤ g := by
  refine (radd_any h hB hlen r hr).mono ?_
  rintro e w' (⟨hf, rfl, b⟩ | ⟨hf, hm, rfl, b⟩ | ⟨hf, hm, rfl, b, sv', hr', hl⟩)
  · exact ⟨by simp [addX, addE, hf], RTouch.of b, sv, by simpa [addRows, addX, hf] using h.keep b, fun g hg => .inl hg⟩
  · exact ⟨by simp [addX, addE, hf, hm], RTouch.of b, sv, by simpa [addRows, addX, hf, hm] using h.keep b, fun g hg => .inl hg⟩
  · exact ⟨by simp [addX, addE, hf, hm], b, sv', by simpa [addRows, addX, hf, hm] using hr', hl⟩
def remRows (rows : List (List Int)) (r : List Int) : List (List Int) := if r ∈ rows then rows.eraseIdx (rows.idxOf r) else rows
def remG (rows : List (List Int)) (r : List Int) (gn : Int) : Int := if r ∈ rows then gn + 1 else gn
theorem remRows_len (rows : List (List Int)) (r : List Int) : (remRows rows r).length ≤ rows.length := by
  unfold remRows
  split
  · exact (List.eraseIdx_sublist _ _).length_le
  · exact Nat.le_refl _
theorem rem_at {rows : List (List Int)} {r : List Int} (h : r ∈ rows) : rows[rows.idxOf r]? = some r := by
  have hl : rows.idxOf r < rows.length := List.idxOf_lt_length_iff.2 h
  rw [List.getElem?_eq_getElem hl, List.getElem_idxOf]
theorem remove_one {w : World} {B t m : Nat} {sv : Value} {rows : List (List Int)} {ar gone : Int} (h : Rel w B t m sv rows ar gone) (hB : B ≤ w.heap.size) (hlen : rows.length ≤ 1000000000) (r : List Int) (hr : RowOk r) (hw : IntKind.i64.wrap (gone + 1) = gone + 1) :
    Calls Try.prog 22 #[.pointer (some ⟨t, 0, none⟩), rowV r] w fun e w' =>
      e = .returned (.bool (decide (r ∈ rows))) ∧ RTouch w w' t m sv ∧ ∃ sv', Rel w' B t m sv' (remRows rows r) ar (remG rows r gone) ∧ ∀ g, sv'.ownBlock = some g → sv.ownBlock = some g ∨ w.heap.size ≤ g := by
  by_cases hm : r ∈ rows
  · refine (remove_yes h hB hlen r hr (rem_at hm) hw).mono ?_
    rintro e w' ⟨rfl, ⟨sv', h1, h2⟩, h3⟩
    exact ⟨by simp [hm], h3, sv', by simpa [remRows, remG, hm] using h1, fun g hg => .inr (h2 g hg)⟩
  · refine (remove_not h r hr hm).mono ?_
    rintro e w' ⟨rfl, b⟩
    exact ⟨by simp [hm], RTouch.of b, sv, by simpa [remRows, remG, hm] using h.keep b, fun g hg => .inl hg⟩
theorem rremove_one {w : World} {B p : Nat} {sv : Value} {rows : List (List Int)} {ar tk : Int} (h : Rf w B p sv rows ar tk) (hB : B ≤ w.heap.size) (hlen : rows.length ≤ 1000000000) (nd : rows.Nodup) (r : List Int) (hr : RowOk r) (hw : IntKind.i64.wrap (tk + 1) = tk + 1) :
    Calls Try.prog 23 #[.pointer (some ⟨p, 0, none⟩), rowV r] w fun e w' =>
      e = .returned (.bool (decide (r ∈ rows))) ∧ RTouch w w' p p sv ∧ ∃ sv', Rf w' B p sv' (remRows rows r) ar (remG rows r tk) ∧ ∀ g, sv'.ownBlock = some g → sv.ownBlock = some g ∨ w.heap.size ≤ g := by
  by_cases hm : r ∈ rows
  · refine (rremove_yes h hB hlen nd r hr (rem_at hm) hw).mono ?_
    rintro e w' ⟨rfl, h3, sv', h1, h2⟩
    exact ⟨by simp [hm], h3, sv', by simpa [remRows, remG, hm] using h1, fun g hg => .inr (h2 g hg)⟩
  · refine (rremove_not h hlen r hr hm).mono ?_
    rintro e w' ⟨rfl, b⟩
    exact ⟨by simp [hm], RTouch.of b, sv, by simpa [remRows, remG, hm] using h.keep b, fun g hg => .inl hg⟩
end Go.Proofs.Ytlnhnpfgmiffpaa
end
