import Derived.Test.YtihngojkcacgdaaRelNoRoom
namespace Go.Proofs.Ytihngojkcacgdaa
open Go.RowKit Go.Maps Go.Shelf
set_option linter.unusedVariables false
set_option linter.unusedSimpArgs false
attribute [local go_sem ↓] Go.wp_at_zero Go.wp_at_succ
attribute [local go_sem] run_store_nilFunc
attribute [-go_sem] loadVar
set_option maxHeartbeats 3200000 in
set_option maxRecDepth 100000 in
theorem does_13 {w : World} {t : Nat} {p : Value} (h : BothNo w t p) (on n m mask : Int) (r : List Int) (hr : r.length = 24) : Calls Try.prog 4 #[.pointer (some ⟨t, 0, none⟩), .agg (opL on 13 n m mask r).toArray] w fun e w' => e = .returned (.bool true) ∧ Below w.heap.size w w' := by
  have O := Lib.hid (opAt_new w on 13 n m mask r)
  have HB := Lib.hid (belowA (w := w) (.cells (opL on 13 n m mask r).toArray 28))
  have HN := Lib.hid (h.below HB.out)
  clear h
  go_enter Try.func4, Try.ntmps4
  go_upto_region 1 with fail
  generalize w.alloc (.cells (opL on 13 n m mask r).toArray 28) = W at O HB HN ⊢
  have hc1 := run_loadInt O.out.c1
  have hld := O.out.load hr
  clear O
  go_wp2_with fail
  refine (room_no HN.out on 13 n m mask r hr).mono ?_
  rintro e w2 ⟨rfl, b2⟩
  go_wp2
  go_ret
  exact ⟨rfl, HB.out.trans (b2.mono HB.out.size)⟩
theorem Beside.after {t : Nat} {w W w' : World} (hb : Below w.heap.size w W) (h : Beside t W w') : Beside t w w' :=
  ⟨h.os.trans hb.os, h.tape.trans hb.tape, h.output.trans hb.output, Nat.le_trans hb.size h.size, fun k hk hn => (h.block k (Nat.lt_of_lt_of_le hk hb.size) hn).trans (hb.block k hk)⟩
theorem both_of {w w' : World} {t : Nat} {p : Value} (h : BothNil w t p) {e : Ending} (hp : e = .returned (.bool true) ∧ Below w.heap.size w w') : e = .returned (.bool true) ∧ BothNo w' t p ∧ Beside t w w' :=
  ⟨hp.1, h.lite.below hp.2, .of hp.2⟩
/-- every call on a relation that is not there -/
theorem does_any {w : World} {t : Nat} {p : Value} (h : BothNil w t p) (on k n m mask : Int) (r : List Int) (hr : r.length = 24) : Calls Try.prog 4 #[.pointer (some ⟨t, 0, none⟩), .agg (opL on k n m mask r).toArray] w fun e w' => e = .returned (.bool true) ∧ BothNo w' t p ∧ Beside t w w' := by
  by_cases h1 : k = 1
  · subst h1; exact (does_1 h.lite on n m mask r hr).mono fun e w' hp => both_of h hp
  by_cases h2 : k = 2
  · subst h2; exact (does_2 h.lite on n m mask r hr).mono fun e w' hp => both_of h hp
  by_cases h3 : k = 3
  · subst h3; exact (does_3 h.lite on n m mask r hr).mono fun e w' hp => both_of h hp
  by_cases h4 : k = 4
  · subst h4; exact (does_4 h.lite on n m mask r hr).mono fun e w' hp => both_of h hp
  by_cases h5 : k = 5
  · subst h5; exact (does_5 h.lite on n m mask r hr).mono fun e w' hp => both_of h hp
  by_cases h13 : k = 13
  · subst h13; exact (does_13 h.lite on n m mask r hr).mono fun e w' hp => both_of h hp
  have hb := belowA (w := w) (.cells (opL on k n m mask r).toArray 28)
  have hB := h.below hb
  refine does_ask on k n m mask r hr h1 h2 h3 h4 h5 h13 ?_
  have fin : ∀ {e : Ending} {w' : World}, e = .returned (.bool true) ∧ Below (w.alloc (.cells (opL on k n m mask r).toArray 28)).heap.size (w.alloc (.cells (opL on k n m mask r).toArray 28)) w' → e = .returned (.bool true) ∧ BothNo w' t p ∧ Beside t w w' :=
    fun hp => by
      obtain ⟨a1, a2, a3⟩ := both_of hB hp
      exact ⟨a1, a2, a3.after hb⟩
  by_cases h6 : k = 6
  · subst h6; exact (asks_6 hB.lite on n m mask r).mono fun e w' hp => fin hp
  by_cases h7 : k = 7
  · subst h7; exact (asks_7 hB on n m mask r).mono fun e w' hp => ⟨hp.1, hp.2.1, hp.2.2.after hb⟩
  by_cases h8 : k = 8
  · subst h8; exact (asks_8 hB on n m mask r).mono fun e w' hp => fin hp
  by_cases h9 : k = 9
  · subst h9; exact (asks_9 hB.lite on n m mask r hr).mono fun e w' hp => fin hp
  by_cases h10 : k = 10
  · subst h10; exact (asks_10 hB.lite on n m mask r).mono fun e w' hp => fin hp
  by_cases h12 : k = 12
  · subst h12; exact (asks_12 hB.lite on n m mask r).mono fun e w' hp => fin hp
  exact (asks_other hB.lite on k n m mask r h6 h7 h8 h9 h10 h12).mono fun e w' hp => fin hp
theorem BothNil.beside {t u : Nat} {w w' : World} {p q : Value} (h : BothNil w t p) (hu : BothNil w u q) (hb : Beside u w w') (hne : t ≠ u) : BothNil w' t p := ⟨h.1.beside hb hne, h.2.beside hu.1 rfl hb⟩
theorem BothNo.besideNil {t u : Nat} {w w' : World} (h : BothNo w t (.pointer none)) (hb : Beside u w w') (hne : t ≠ u) : BothNo w' t (.pointer none) := by
  have e := hb.block t h.1 hne
  exact ⟨Nat.lt_of_lt_of_le h.1 hb.size, (World.cell?_of_block (w := w) e).trans h.2.1, (World.cell?_of_block (w := w) e).trans h.2.2.1, .nil⟩
theorem bothNil_new {w : World} {p : Value} (h : NoRel w p) : BothNil (w.alloc (.cells #[p, .pointer none, .nilFunc, .int .i64 0, .int .i64 0] 34)) w.heap.size p :=
  ⟨rl_new w #[p, .pointer none, .nilFunc, .int .i64 0, .int .i64 0] 34, h.below (belowA _)⟩
theorem noRel_new (w : World) : NoRel (w.alloc (.cells #[.slice none 0 0, .map none, .int .i64 0, .int .i64 0] 40)) (.pointer (some ⟨w.heap.size, 0, none⟩)) := .zero w.heap.size 40 (rl_new w #[.slice none 0 0, .map none, .int .i64 0, .int .i64 0] 40)
set_option maxHeartbeats 3200000 in
set_option maxRecDepth 100000 in
theorem none_walk (on k n m mask : Int) (r : List Int) (hr : r.length = 24) (w : World) : Calls Try.prog 3 #[.agg (opL on k n m mask r).toArray] w fun e w' => e = .returned (.bool true) ∧ Below w.heap.size w w' := by
  have P0 := Lib.hid (opAt_new w on k n m mask r)
  have HB1 := Lib.hid (belowA (w := w) (.cells (opL on k n m mask r).toArray 28))
  go_enter Try.func3, Try.ntmps3
  go_upto_region 1 with fail
  generalize w.alloc (.cells (opL on k n m mask r).toArray 28) = W1 at P0 HB1 ⊢
  go_upto_region 3 with fail
  have NA := Lib.hid (bothNil_new (w := W1) (p := .pointer none) .nil)
  have HBa := Lib.hid (belowA (w := W1) (.cells #[.pointer none, .pointer none, .nilFunc, .int .i64 0, .int .i64 0] 34))
  generalize W1.alloc (.cells #[.pointer none, .pointer none, .nilFunc, .int .i64 0, .int .i64 0] 34) = Wa at NA HBa ⊢
  have NB := Lib.hid (bothNil_new (noRel_new Wa))
  have HBb : Hid (Below Wa.heap.size Wa ((Wa.alloc (.cells #[.slice none 0 0, .map none, .int .i64 0, .int .i64 0] 40)).alloc (.cells #[.pointer (some ⟨Wa.heap.size, 0, none⟩), .pointer none, .nilFunc, .int .i64 0, .int .i64 0] 34))) := (belowA (.cells #[.slice none 0 0, .map none, .int .i64 0, .int .i64 0] 40)).trans ((belowA (.cells #[.pointer (some ⟨Wa.heap.size, 0, none⟩), .pointer none, .nilFunc, .int .i64 0, .int .i64 0] 34)).mono (by simp))
  have hsz : (Wa.alloc (.cells #[.slice none 0 0, .map none, .int .i64 0, .int .i64 0] 40)).heap.size = Wa.heap.size + 1 := by simp
  rw [hsz] at NB
  clear hsz
  go_upto_region 4 with fail
  generalize (Wa.alloc (.cells #[.slice none 0 0, .map none, .int .i64 0, .int .i64 0] 40)).alloc (.cells #[.pointer (some ⟨Wa.heap.size, 0, none⟩), .pointer none, .nilFunc, .int .i64 0, .int .i64 0] 34) = Wb at NB HBb ⊢
  have hta := World.rowIs.lt NA.out.1
  have HO := Lib.hid ((P0.out.below HBa.out).below HBb.out)
  have NA2 := Lib.hid (NA.out.below HBb.out)
  have HBW := Lib.hid (HB1.out.trans ((HBa.out.trans (HBb.out.mono HBa.out.size)).mono HB1.out.size))
  have hw0 : w.heap.size < W1.heap.size := P0.out.lt
  have HNE : Hid (W1.heap.size ≠ Wa.heap.size + 1 ∧ w.heap.size ≠ W1.heap.size ∧ w.heap.size ≠ Wa.heap.size + 1 ∧ w.heap.size ≤ W1.heap.size ∧ w.heap.size ≤ Wa.heap.size + 1) := by
    refine ⟨?_, ?_, ?_, ?_, ?_⟩ <;> omega
  clear hta hw0 P0 HB1 NA HBa HBb
  generalize Wa.heap.size + 1 = tb at NB HNE ⊢
  generalize W1.heap.size = ta at NA2 HNE ⊢
  generalize hpb : Value.pointer (some ⟨Wa.heap.size, 0, none⟩) = pb at NB ⊢
  clear hpb
  have hld := HO.out.load hr
  go_wp2_with fail
  refine (does_any NA2.out on k n m mask r hr).mono ?_
  rintro e v1 ⟨rfl, a1, s1⟩
  have HO1 : Hid (OpAt v1 w.heap.size on k n m mask r) := (s1.block _ HO.out.lt HNE.out.2.1).trans HO.out
  have NB1 := Lib.hid (NB.out.beside NA2.out s1 (Ne.symm HNE.out.1))
  have A1 := Lib.hid a1
  have S1 := Lib.hid (HBW.out.trans (s1.below HNE.out.2.2.2.1 HBW.out.size))
  clear hld a1 s1 HO NB NA2 HBW
  have hld := HO1.out.load hr
  go_wp2_with fail
  refine (does_any NB1.out on k n m mask r hr).mono ?_
  rintro e v2 ⟨rfl, b2, s2⟩
  have A2 := Lib.hid (A1.out.besideNil s2 HNE.out.1)
  have B2 := Lib.hid b2
  have S2 := Lib.hid (S1.out.trans (s2.below HNE.out.2.2.2.2 S1.out.size))
  clear hld b2 s2 HO1 NB1 A1 S1
  go_wp2_with fail
  refine (whole_no A2.out).mono ?_
  rintro e v3 ⟨rfl, d3⟩
  have B3 := Lib.hid (B2.out.below d3)
  have S3 := Lib.hid (S2.out.trans (d3.mono S2.out.size))
  clear A2 B2 S2 d3
  go_wp2_with fail
  refine (whole_no B3.out).mono ?_
  rintro e v4 ⟨rfl, d4⟩
  have B4 := Lib.hid (B3.out.below d4)
  have S4 := Lib.hid (S3.out.trans (d4.mono S3.out.size))
  have hlb := run_loadRel B4.out.c0
  clear B3 S3 d4
  go_wp2_with fail
  refine (clone_no (w := v4) .nil).mono ?_
  rintro e v5 ⟨rfl, rfl⟩
  go_wp2_with fail
  refine (clone_no B4.out.no).mono ?_
  rintro e v6 ⟨rfl, rfl⟩
  go_wp2_with fail
  refine (lives10_true _).mono ?_
  rintro e v7 ⟨rfl, d7⟩
  have S7 := Lib.hid (S4.out.trans (d7.mono S4.out.size))
  clear d7 S4 hlb B4
  go_wp2
  go_ret
  exact ⟨rfl, S7.out⟩
end Go.Proofs.Ytihngojkcacgdaa
