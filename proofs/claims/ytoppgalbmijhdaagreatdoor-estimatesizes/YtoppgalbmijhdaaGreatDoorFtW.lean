import Derived.Test.YtoppgalbmijhdaaGreatDoorRowGen
import Derived.Test.YtoppgalbmijhdaaGreatDoorSoWord
section
namespace Go.Proofs.YtoppgalbmijhdaaGreatDoor
open Go.RowKit Go.Maps
set_option linter.unusedVariables false
set_option linter.unusedSimpArgs false
attribute [local go_sem ↓] Go.wp_at_zero Go.wp_at_succ

theorem oneCells_val (x : V) : (V.cells x).toArray.all (·.oneCell') = true := by simp [V.cells, Value.oneCell']
theorem Lv.rform {w : World} {v : Value} {l : List V} (h : Lv w v l) : ∃ a c, v = .slice a l.length c ∧ l.length ≤ c ∧ c ≤ maxLen ∧ (0 < l.length → ∃ g off, a = some ⟨g, off, none⟩ ∧ g < w.heap.size ∧ ∀ i, i < l.length → w.rangeAt g (off + i * 3) (atV l i).cells) := ls_range (f := V.cells) (k := 3) (fun _ => rfl) V0 h.lies
theorem updV {α : Type} (f : Nat → α) (k : Nat) (v : α) (h : f k = v) : (fun i => if i = k then v else f i) = f := by
  funext i
  by_cases e : i = k
  · rw [if_pos e, e, h]
  · rw [if_neg e]
/-- a copy of a list of values, with a mark behind it -/
structure TwV (w : World) (lo : Nat) (l : List V) (a : Option Addr) (c : Nat) : Prop where
  cap : c = l.length + 1
  lies : ∃ g, a = some ⟨g, 0, none⟩ ∧ lo ≤ g ∧ g < w.heap.size ∧ w.rangeAt g (l.length * 3) [.int .i8 99, .int .i64 777777, .string ⟨#[]⟩] ∧ ∀ i, i < l.length → w.rangeAt g (i * 3) (atV l i).cells
theorem TwV.below {w w' : World} {lo : Nat} {l : List V} {a : Option Addr} {c : Nat} (h : TwV w lo l a c) (b : Below w.heap.size w w') : TwV w' lo l a c := by
  obtain ⟨h1, g, h2, h3, h4, h5, h6⟩ := h
  exact ⟨h1, g, h2, h3, Nat.lt_of_lt_of_le h4 b.size, range_below h5 b h4, fun i hi => range_below (h6 i hi) b h4⟩
theorem TwV.set {w : World} {lo b j : Nat} {v : Value} (hb : b < lo) {l : List V} {a : Option Addr} {c : Nat} (h : TwV w lo l a c) : TwV (w.setCell ⟨b, j, none⟩ v) lo l a c := by
  obtain ⟨h1, g, h2, h3, h4, h5, h6⟩ := h
  have e : (w.setCell ⟨b, j, none⟩ v).heap[g]? = w.heap[g]? := heap_setCell_other _ _ _ _ (by show g ≠ b; omega)
  exact ⟨h1, g, h2, h3, by simpa using h4, range_block h5 e, fun i hi => range_block (h6 i hi) e⟩
theorem TwV.lower {w : World} {lo lo' : Nat} (hl : lo' ≤ lo) {l : List V} {a : Option Addr} {c : Nat} (h : TwV w lo l a c) : TwV w lo' l a c := by
  obtain ⟨h1, g, h2, h3, h4, h5, h6⟩ := h
  exact ⟨h1, g, h2, Nat.le_trans hl h3, h4, h5, h6⟩
theorem TwV.lv {w w0 : World} {lo : Nat} {l : List V} {a : Option Addr} {c : Nat} {v : Value} (h : TwV w lo l a c) (h0 : Lv w0 v l) (hl : l.length ≤ 1048576) : Lv w (.slice a l.length c) l := by
  obtain ⟨rfl, g, rfl, _, hg, _, hk⟩ := h
  exact ⟨ls_of_range (f := V.cells) (k := 3) (by omega) (fun _ => rfl) V0 (by omega) (by unfold maxLen; omega) hg hk, h0.wf⟩
theorem run_neqV (x : V) (w : World) : (binOp .neq 55 (.agg #[.int .i8 x.k, .int .i64 x.n, .string x.s]) (.agg #[.int .i8 x.k, .int .i64 x.n, .string x.s])).run Tryz.prog w = .ok (.bool false) w := by go_simp
theorem markV_any (w : World) : Calls Tryz.prog 33 #[.int .i64 777777] w fun e w' => e = .returned (.agg #[.int .i8 99, .int .i64 777777, .string ⟨#[]⟩]) ∧ Below w.heap.size w w' := by
  go_enter Tryz.func33, Tryz.ntmps33
  go_wp2
  exact bodyPost_ret (v := .agg #[.int .i8 99, .int .i64 777777, .string ⟨#[]⟩]) (by simp [results, Tryz.results33, go_sem]) rfl ⟨rfl, (Below.refl _ _).alloc (Nat.le_refl _) _⟩
theorem isMarkV_any (w : World) : Calls Tryz.prog 41 #[.agg #[.int .i8 99, .int .i64 777777, .string ⟨#[]⟩], .int .i64 777777] w fun e w' => e = .returned (.bool true) ∧ Below w.heap.size w w' := by
  go_enter Tryz.func41, Tryz.ntmps41
  go_wp2
  go_ret
  exact ⟨rfl, (Below.refl _ _).alloc (Nat.le_refl _) _⟩
set_option maxHeartbeats 3200000 in
theorem sameV_same (v v' : Value) (l : List V) (w : World) (h1 : Lv w v l) (h2 : Lv w v' l) :
    Calls Tryz.prog 40 #[v, v'] w fun r w' => r = .returned (.bool true) ∧ Below w.heap.size w w' := by
  obtain ⟨a, c, rfl, hc1, hc2, hk⟩ := h1.rform
  obtain ⟨a', c', rfl, hc1', hc2', hk'⟩ := h2.rform
  have hmax : l.length ≤ maxLen := Nat.le_trans hc1 hc2
  unfold maxLen at hmax
  have HK : Hid _ := hk
  have HK' : Hid _ := hk'
  clear hk hk' h1 h2 hc2 hc2'
  go_enter Tryz.func40, Tryz.ntmps40
  go_wp2
  go_loopw [5] (fun i wr => ∃ k : Nat, k ≤ l.length ∧ i = .int .i64 k ∧ Below w.heap.size w wr) (fun i _ => l.length - (intOf i).toNat)
  case atStart => exact ⟨0, Nat.zero_le _, rfl, Below.refl _ _⟩
  case round =>
    obtain ⟨k, hk, rfl, bel⟩ := hrel
    by_cases hlt : k < l.length
    · have hlt' : (k : Int) < (l.length : Int) := by omega
      obtain ⟨g, off, rfl, hg, hKS⟩ := HK.out (by omega)
      obtain ⟨g', off', rfl, hg', hKS'⟩ := HK'.out (by omega)
      have ry := range_below (hKS k hlt) bel hg
      have rz := range_below (hKS' k hlt) bel hg'
      generalize atV l k = x at ry rz
      have y0 : wr.cell? ⟨g, off + k * 3, none⟩ = some (.int .i8 x.k) := ry 0 _ rfl
      have y1 : wr.cell? ⟨g, off + k * 3 + 1, none⟩ = some (.int .i64 x.n) := ry 1 _ rfl
      have y2 : wr.cell? ⟨g, off + k * 3 + 2, none⟩ = some (.string x.s) := ry 2 _ rfl
      have z0 : wr.cell? ⟨g', off' + k * 3, none⟩ = some (.int .i8 x.k) := rz 0 _ rfl
      have z1 : wr.cell? ⟨g', off' + k * 3 + 1, none⟩ = some (.int .i64 x.n) := rz 1 _ rfl
      have z2 : wr.cell? ⟨g', off' + k * 3 + 2, none⟩ = some (.string x.s) := rz 2 _ rfl
      have hQ := run_neqV x
      clear hKS hKS' ry rz
      go_wp2_with fail
      go_quiet (fail)
      go_wp2
      go_roundw
      case rel => exact ⟨k + 1, by omega, by go_num, below_drewV bel _⟩
      case measure => simp [intOf]; omega
    · obtain rfl : k = l.length := by omega
      go_wp2
      go_ret
      exact ⟨rfl, bel⟩
set_option maxHeartbeats 1600000 in
theorem leftV_any (l : List V) (a a0 : Option Addr) (c c0 lo : Nat) (w : World) (hs : l.length ≤ 1048576) (hW : TwV w lo l a c) (hL : Lv w (.slice a0 l.length c0) l) :
    Calls Tryz.prog 32 #[.slice a l.length c, .slice a0 l.length c0] w fun r w' => r = .returned (.bool true) ∧ Below w.heap.size w w' := by
  have HS : Hid _ := sameV_same _ _ l w (hW.lv hL hs) hL
  obtain ⟨rfl, g, rfl, _, hg, hmk, _⟩ := hW
  have HMK : Hid (w.rangeAt g (l.length * 3) [.int .i8 99, .int .i64 777777, .string ⟨#[]⟩]) := hmk
  clear hmk hL
  go_enter Tryz.func32, Tryz.ntmps32
  go_wp2_with fail
  refine Calls.mono HS.out ?_
  rintro r w1 ⟨rfl, b1⟩
  have hr := range_below HMK.out b1 hg
  have hMK : Hid _ := isMarkV_any w1
  have hk1 : (l.length : Int) < (l.length : Int) + 1 := by omega
  have z0 : w1.cell? ⟨g, l.length * 3, none⟩ = some (.int .i8 99) := hr 0 _ rfl
  have z1 : w1.cell? ⟨g, l.length * 3 + 1, none⟩ = some (.int .i64 777777) := hr 1 _ rfl
  have z2 : w1.cell? ⟨g, l.length * 3 + 2, none⟩ = some (.string ⟨#[]⟩) := hr 2 _ rfl
  clear HS HMK hr
  go_wp2_with (go_at_call 41; refine Calls.mono hMK.out ?_; rintro r w2 ⟨rfl, b2⟩)
  go_ret
  exact ⟨rfl, b1.trans (b2.mono b1.size)⟩
end Go.Proofs.YtoppgalbmijhdaaGreatDoor
end
section
namespace Go.Proofs.YtoppgalbmijhdaaGreatDoor
open Go.RowKit Go.Maps
set_option linter.unusedVariables false
set_option linter.unusedSimpArgs false
attribute [local go_sem ↓] Go.wp_at_zero Go.wp_at_succ
attribute [-go_sem] loadVar storeVar

theorem infoVal : (Tryz.prog.info? 55).map (fun i => (i.zero, i.size, i.bytes)) = some (some (.agg #[.int .i8 0, .int .i64 0, .string ⟨#[]⟩]), 3, 32) := by kernel_rfl
theorem run_make_Val (n : Nat) (hn : n ≤ 1048576) (w : World) :
    (Instr.makeSlice 29 (.int .i64 ((n : Int) + 1)) (.int .i64 ((n : Int) + 1))).run Tryz.prog w = .ok (.slice (some ⟨w.heap.size, 0, none⟩) (n + 1) (n + 1)) (w.alloc (.cells (madeCells #[.int .i8 0, .int .i64 0, .string ⟨#[]⟩] ((n + 1) * 3)) 55)) := by
  have h := infoVal
  obtain ⟨i, hi, he⟩ := Option.map_eq_some_iff.1 h
  simp only [Prod.mk.injEq] at he
  obtain ⟨h1, h2, h3⟩ := he
  have := run_make (P := Tryz.prog) w 29 55 i _ Tryz.underlying29 hi h1 .i64 .i64 ((n : Int) + 1) ((n : Int) + 1) (by omega) (Int.le_refl _) (by rw [h3]; omega) (by omega)
  rw [this, h2, show ((n : Int) + 1).toNat = n + 1 by omega]
  rfl
theorem load_Val {u : World} {g o : Nat} {cs : List Value} (h : u.rangeAt g o cs) (hl : cs.length = 3) : (loadVar 55 ⟨g, o, none⟩).run Tryz.prog u = .ok (.agg cs.toArray) u :=
  run_loadVar_mid u g o _ cs _ h Tryz.underlying55 rfl (by rw [hl]; kernel_rfl)
theorem store_Val {u : World} {b o : Nat} {cs : List Value} (h : u.there b o 3) (hl : cs.length = 3) (h1 : cs.toArray.all (·.oneCell') = true) : (storeVar 55 ⟨b, o, none⟩ (.agg cs.toArray)).run Tryz.prog u = .ok () (u.setCells b o cs) :=
  run_storeVar_mid u b o _ cs.toArray (by rw [List.size_toArray, hl]; exact h) (by rw [List.size_toArray, hl]; kernel_rfl) h1
set_option maxHeartbeats 3200000 in
theorem twinV_any (v : Value) (l : List V) (w : World) (hs : l.length ≤ 1048576) (hL : Lv w v l) :
    Calls Tryz.prog 22 #[v] w fun r w' => ∃ a', r = .returned (.slice a' l.length (l.length + 1)) ∧ Below w.heap.size w w' ∧ TwV w' w.heap.size l a' (l.length + 1) := by
  obtain ⟨a, c, rfl, hc1, hc2, hk⟩ := hL.rform
  have hmk := run_make_Val l.length hs
  have HK : Hid _ := hk
  clear hk hc2 hL
  go_enter Tryz.func22, Tryz.ntmps22
  go_wp2
  go_loopw [4] (fun i wr => ∃ k : Nat, k ≤ l.length ∧ i = .int .i64 k ∧ Below w.heap.size w wr ∧ wr.rowIs w.heap.size 55 ((l.length + 1) * 3) (rowF 3 (upC V.cells [.int .i8 0, .int .i64 0, .string ⟨#[]⟩] (atV l) k))) (fun i _ => l.length - (intOf i).toNat)
  case atStart => exact ⟨0, Nat.zero_le _, rfl, (Below.refl _ _).alloc (Nat.le_refl _) _, made_row w #[.int .i8 0, .int .i64 0, .string ⟨#[]⟩] 55 (l.length + 1) (by decide)⟩
  case round =>
    obtain ⟨k, hk, rfl, bel, hrow⟩ := hrel
    clear hmk
    have HR : Hid (wr.rowIs w.heap.size 55 ((l.length + 1) * 3) (rowF 3 (upC V.cells [.int .i8 0, .int .i64 0, .string ⟨#[]⟩] (atV l) k))) := hrow
    have hwlt : w.heap.size < wr.heap.size := hrow.lt
    clear hrow
    by_cases hlt : k < l.length
    · have hlt' : (k : Int) < (l.length : Int) := by omega
      obtain ⟨g, off, rfl, hg, hKS⟩ := HK.out (by omega)
      have hld := load_Val (range_below (hKS k hlt) bel hg) rfl
      have hst := store_Val (rowF_there HR.out rfl (i := k) (by omega)) (cs := (atV l k).cells) rfl (oneCells_val _)
      have HN : Hid ((wr.setCells w.heap.size (k * 3) (atV l k).cells).rowIs w.heap.size 55 ((l.length + 1) * 3) (rowF 3 (upC V.cells [.int .i8 0, .int .i64 0, .string ⟨#[]⟩] (atV l) (k + 1)))) := by
        have := rowF_set (k := k) (by decide) HR.out (atV l k).cells rfl
        rw [upC_step, updV (atV l) k _ rfl] at this
        exact this
      have HBn : Hid (Below w.heap.size w (wr.setCells w.heap.size (k * 3) (atV l k).cells)) := below_setCells (Nat.le_refl _) _ _ _ bel
      generalize wr.setCells w.heap.size (k * 3) (atV l k).cells = W2 at hst HN HBn
      generalize Value.agg (atV l k).cells.toArray = QV at hld hst
      have hk1 : (k : Int) < (l.length : Int) + 1 := by omega
      clear hKS HR
      go_wp2
      go_roundw
      case rel => exact ⟨k + 1, by omega, by go_num, HBn.out, HN.out⟩
      case measure => simp [intOf]; omega
    · obtain rfl : k = l.length := by omega
      go_wp2_with fail
      refine (markV_any _).mono ?_
      rintro r w1 ⟨rfl, b1⟩
      have HR1 : Hid (w1.rowIs w.heap.size 55 ((l.length + 1) * 3) (rowF 3 (upC V.cells [.int .i8 0, .int .i64 0, .string ⟨#[]⟩] (atV l) l.length))) := HR.out.of_block (b1.block _ hwlt)
      have bel1 : Below w.heap.size w w1 := bel.trans (b1.mono bel.size)
      have hst := store_Val (rowF_there HR1.out rfl (i := l.length) (by omega)) (cs := [.int .i8 99, .int .i64 777777, .string ⟨#[]⟩]) rfl (by simp [Value.oneCell'])
      have HN : Hid ((w1.setCells w.heap.size (l.length * 3) [.int .i8 99, .int .i64 777777, .string ⟨#[]⟩]).rowIs w.heap.size 55 ((l.length + 1) * 3) (rowF 3 (fun i => if i = l.length then [.int .i8 99, .int .i64 777777, .string ⟨#[]⟩] else upC V.cells [.int .i8 0, .int .i64 0, .string ⟨#[]⟩] (atV l) l.length i))) := rowF_set (k := l.length) (by decide) HR1.out [.int .i8 99, .int .i64 777777, .string ⟨#[]⟩] rfl
      have HBn : Hid (Below w.heap.size w (w1.setCells w.heap.size (l.length * 3) [.int .i8 99, .int .i64 777777, .string ⟨#[]⟩])) := below_setCells (Nat.le_refl _) _ _ _ bel1
      have hst2 : (storeVar 55 ⟨w.heap.size, l.length * 3, none⟩ (.agg #[.int .i8 99, .int .i64 777777, .string ⟨#[]⟩])).run Tryz.prog w1 = _ := hst
      clear hst
      generalize w1.setCells w.heap.size (l.length * 3) [.int .i8 99, .int .i64 777777, .string ⟨#[]⟩] = W2 at hst2 HN HBn
      have hk1 : (l.length : Int) < (l.length : Int) + 1 := by omega
      clear b1 HR bel HR1
      go_wp2
      go_ret
      refine ⟨some ⟨w.heap.size, 0, none⟩, rfl, HBn.out, rfl, w.heap.size, rfl, Nat.le_refl _, World.rowIs.lt HN.out, ?_, fun i hi => ?_⟩
      · have := rowF_range HN.out rfl (i := l.length) (by omega) (by rw [if_pos rfl]; rfl)
        rw [if_pos rfl] at this
        exact this
      · have := rowF_range HN.out rfl (i := i) (by omega) (by simp only [if_neg (show ¬ i = l.length by omega)]; exact upC_len (f := V.cells) (n := 3) (fun _ => rfl) rfl _ _ _)
        simp only [if_neg (show ¬ i = l.length by omega), upC, if_pos hi] at this
        exact this
end Go.Proofs.YtoppgalbmijhdaaGreatDoor
end
