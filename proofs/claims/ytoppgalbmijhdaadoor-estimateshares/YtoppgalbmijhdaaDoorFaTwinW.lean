import Derived.Test.YtoppgalbmijhdaaDoorFaTwinV
namespace Go.Proofs.YtoppgalbmijhdaaDoor
open Go.RowKit Go.Maps
set_option linter.unusedVariables false
set_option linter.unusedSimpArgs false
attribute [local go_sem ↓] Go.wp_at_zero Go.wp_at_succ
attribute [-go_sem] loadVar storeVar

theorem infoVal : (Tryd.prog.info? 38).map (fun i => (i.zero, i.size, i.bytes)) = some (some (.agg #[.int .i8 0, .int .i64 0, .string ⟨#[]⟩]), 3, 32) := by kernel_rfl
theorem run_make_Val (n : Nat) (hn : n ≤ 1048576) (w : World) :
    (Instr.makeSlice 31 (.int .i64 ((n : Int) + 1)) (.int .i64 ((n : Int) + 1))).run Tryd.prog w = .ok (.slice (some ⟨w.heap.size, 0, none⟩) (n + 1) (n + 1)) (w.alloc (.cells (madeCells #[.int .i8 0, .int .i64 0, .string ⟨#[]⟩] ((n + 1) * 3)) 38)) := by
  have h := infoVal
  obtain ⟨i, hi, he⟩ := Option.map_eq_some_iff.1 h
  simp only [Prod.mk.injEq] at he
  obtain ⟨h1, h2, h3⟩ := he
  have := run_make (P := Tryd.prog) w 31 38 i _ Tryd.underlying31 hi h1 .i64 .i64 ((n : Int) + 1) ((n : Int) + 1) (by omega) (Int.le_refl _) (by rw [h3]; omega) (by omega)
  rw [this, h2, show ((n : Int) + 1).toNat = n + 1 by omega]
  rfl
theorem load_Val {u : World} {g o : Nat} {cs : List Value} (h : u.rangeAt g o cs) (hl : cs.length = 3) : (loadVar 38 ⟨g, o, none⟩).run Tryd.prog u = .ok (.agg cs.toArray) u :=
  run_loadVar_mid u g o _ cs _ h Tryd.underlying38 rfl (by rw [hl]; kernel_rfl)
theorem store_Val {u : World} {b o : Nat} {cs : List Value} (h : u.there b o 3) (hl : cs.length = 3) (h1 : cs.toArray.all (·.oneCell') = true) : (storeVar 38 ⟨b, o, none⟩ (.agg cs.toArray)).run Tryd.prog u = .ok () (u.setCells b o cs) :=
  run_storeVar_mid u b o _ cs.toArray (by rw [List.size_toArray, hl]; exact h) (by rw [List.size_toArray, hl]; kernel_rfl) h1
set_option maxHeartbeats 3200000 in
theorem twinV_any (v : Value) (l : List V) (w : World) (hs : l.length ≤ 1048576) (hL : Lv w v l) :
    Calls Tryd.prog 20 #[v] w fun r w' => ∃ a', r = .returned (.slice a' l.length (l.length + 1)) ∧ Below w.heap.size w w' ∧ TwV w' w.heap.size l a' (l.length + 1) := by
  obtain ⟨a, c, rfl, hc1, hc2, hk⟩ := hL.rform
  have hmk := run_make_Val l.length hs
  have HK : Hid _ := hk
  clear hk hc2 hL
  go_enter Tryd.func20, Tryd.ntmps20
  go_wp2
  go_loopw [4] (fun i wr => ∃ k : Nat, k ≤ l.length ∧ i = .int .i64 k ∧ Below w.heap.size w wr ∧ wr.rowIs w.heap.size 38 ((l.length + 1) * 3) (rowF 3 (upC V.cells [.int .i8 0, .int .i64 0, .string ⟨#[]⟩] (atV l) k))) (fun i _ => l.length - (intOf i).toNat)
  case atStart => exact ⟨0, Nat.zero_le _, rfl, (Below.refl _ _).alloc (Nat.le_refl _) _, made_row w #[.int .i8 0, .int .i64 0, .string ⟨#[]⟩] 38 (l.length + 1) (by decide)⟩
  case round =>
    obtain ⟨k, hk, rfl, bel, hrow⟩ := hrel
    clear hmk
    have HR : Hid (wr.rowIs w.heap.size 38 ((l.length + 1) * 3) (rowF 3 (upC V.cells [.int .i8 0, .int .i64 0, .string ⟨#[]⟩] (atV l) k))) := hrow
    have hwlt : w.heap.size < wr.heap.size := hrow.lt
    clear hrow
    by_cases hlt : k < l.length
    · have hlt' : (k : Int) < (l.length : Int) := by omega
      obtain ⟨g, off, rfl, hg, hKS⟩ := HK.out (by omega)
      have hld := load_Val (range_below (hKS k hlt) bel hg) rfl
      have hst := store_Val (rowF_there HR.out rfl (i := k) (by omega)) (cs := (atV l k).cells) rfl (oneCells_val _)
      have HN : Hid ((wr.setCells w.heap.size (k * 3) (atV l k).cells).rowIs w.heap.size 38 ((l.length + 1) * 3) (rowF 3 (upC V.cells [.int .i8 0, .int .i64 0, .string ⟨#[]⟩] (atV l) (k + 1)))) := by
        have := rowF_set (k := k) (by decide) HR.out (atV l k).cells rfl
        rw [upC_step, updV (atV l) k _ rfl] at this
        exact this
      have HBn : Hid (Below w.heap.size w (wr.setCells w.heap.size (k * 3) (atV l k).cells)) := below_setCells (Nat.le_refl _) _ _ _ bel
      generalize wr.setCells w.heap.size (k * 3) (atV l k).cells = W2 at hst HN HBn
      generalize Value.agg (atV l k).cells.toArray = QV at hld hst
      have hk1 : (k : Int) < (l.length : Int) + 1 := by omega
      clear hKS HR
      go_wp2
      go_roundw
      case rel => exact ⟨k + 1, by omega, by go_num, HBn.out, HN.out⟩
      case measure => simp [intOf]; omega
    · obtain rfl : k = l.length := by omega
      go_wp2_with fail
      refine (markV_any _).mono ?_
      rintro r w1 ⟨rfl, b1⟩
      have HR1 : Hid (w1.rowIs w.heap.size 38 ((l.length + 1) * 3) (rowF 3 (upC V.cells [.int .i8 0, .int .i64 0, .string ⟨#[]⟩] (atV l) l.length))) := HR.out.of_block (b1.block _ hwlt)
      have bel1 : Below w.heap.size w w1 := bel.trans (b1.mono bel.size)
      have hst := store_Val (rowF_there HR1.out rfl (i := l.length) (by omega)) (cs := [.int .i8 99, .int .i64 777777, .string ⟨#[]⟩]) rfl (by simp [Value.oneCell'])
      have HN : Hid ((w1.setCells w.heap.size (l.length * 3) [.int .i8 99, .int .i64 777777, .string ⟨#[]⟩]).rowIs w.heap.size 38 ((l.length + 1) * 3) (rowF 3 (fun i => if i = l.length then [.int .i8 99, .int .i64 777777, .string ⟨#[]⟩] else upC V.cells [.int .i8 0, .int .i64 0, .string ⟨#[]⟩] (atV l) l.length i))) := rowF_set (k := l.length) (by decide) HR1.out [.int .i8 99, .int .i64 777777, .string ⟨#[]⟩] rfl
      have HBn : Hid (Below w.heap.size w (w1.setCells w.heap.size (l.length * 3) [.int .i8 99, .int .i64 777777, .string ⟨#[]⟩])) := below_setCells (Nat.le_refl _) _ _ _ bel1
      have hst2 : (storeVar 38 ⟨w.heap.size, l.length * 3, none⟩ (.agg #[.int .i8 99, .int .i64 777777, .string ⟨#[]⟩])).run Tryd.prog w1 = _ := hst
      clear hst
      generalize w1.setCells w.heap.size (l.length * 3) [.int .i8 99, .int .i64 777777, .string ⟨#[]⟩] = W2 at hst2 HN HBn
      have hk1 : (l.length : Int) < (l.length : Int) + 1 := by omega
      clear b1 HR bel HR1
      go_wp2
      go_ret
      refine ⟨some ⟨w.heap.size, 0, none⟩, rfl, HBn.out, rfl, w.heap.size, rfl, Nat.le_refl _, World.rowIs.lt HN.out, ?_, fun i hi => ?_⟩
      · have := rowF_range HN.out rfl (i := l.length) (by omega) (by rw [if_pos rfl]; rfl)
        rw [if_pos rfl] at this
        exact this
      · have := rowF_range HN.out rfl (i := i) (by omega) (by simp only [if_neg (show ¬ i = l.length by omega)]; exact upC_len (f := V.cells) (n := 3) (fun _ => rfl) rfl _ _ _)
        simp only [if_neg (show ¬ i = l.length by omega), upC, if_pos hi] at this
        exact this
end Go.Proofs.YtoppgalbmijhdaaDoor
