import Derived.Test.YtmmaidniaafkgaaSnDoes
namespace Go.Proofs.Ytmmaidniaafkgaa
open Go.RowKit Go.Maps Go.Shelf
set_option linter.unusedVariables false
set_option linter.unusedSimpArgs false
attribute [local go_sem ↓] Go.wp_at_zero Go.wp_at_succ
attribute [local go_sem] run_store_nilFunc
attribute [-go_sem] loadVar
theorem Beside.after {t : Nat} {w W w' : World} (hb : Below w.heap.size w W) (h : Beside t W w') : Beside t w w' :=
  ⟨h.os.trans hb.os, h.tape.trans hb.tape, h.output.trans hb.output, Nat.le_trans hb.size h.size, fun k hk hn => (h.block k (Nat.lt_of_lt_of_le hk hb.size) hn).trans (hb.block k hk)⟩
theorem both_of {w w' : World} {t : Nat} {p : Value} (h : BothNil w t p) {e : Ending} (hp : e = .returned (.bool true) ∧ Below w.heap.size w w') : e = .returned (.bool true) ∧ BothNo w' t p ∧ Beside t w w' :=
  ⟨hp.1, h.lite.below hp.2, .of hp.2⟩
/-- every call on a table that is not there -/
theorem does_any {w : World} {t : Nat} {p : Value} (h : BothNil w t p) (on k n m : Int) (v : V) (a : Option Addr) (c : Nat) (us : List V) (hv : Lv w (.slice a us.length c) us) (hl : us.length ≤ 1048576) (r : List Int) (hr : r.length = 24) :
    Calls Try.prog 4 #[.pointer (some ⟨t, 0, none⟩), .agg (opL on k n m v (.slice a us.length c) r).toArray] w fun e w' => e = .returned (.bool true) ∧ BothNo w' t p ∧ Beside t w w' := by
  by_cases h1 : k = 1
  · subst h1; exact (does_1 h.lite on n m v _ r).mono fun e w' hp => both_of h hp
  by_cases h2 : k = 2
  · subst h2; exact (does_2 h.lite on n m v _ r).mono fun e w' hp => both_of h hp
  by_cases h3 : k = 3
  · subst h3; exact (does_3 h.lite on n m v _ r).mono fun e w' hp => both_of h hp
  have hb := belowA (w := w) (.cells (opL on k n m v (.slice a us.length c) r).toArray 31)
  have hB := h.below hb
  have fin : ∀ {e : Ending} {w' : World}, e = .returned (.bool true) ∧ Below (w.alloc (.cells (opL on k n m v (.slice a us.length c) r).toArray 31)).heap.size (w.alloc (.cells (opL on k n m v (.slice a us.length c) r).toArray 31)) w' → e = .returned (.bool true) ∧ BothNo w' t p ∧ Beside t w w' :=
    fun hp => by
      obtain ⟨a1, a2, a3⟩ := both_of hB hp
      exact ⟨a1, a2, a3.after hb⟩
  by_cases h4 : k = 4
  · subst h4; exact does_rows4 on n m v _ r hr ((rows_list hB.lite on 4 n m v a c us r (by decide) (hv.below hb) hl).mono fun e w' hp => fin hp)
  by_cases h5 : k = 5
  · subst h5; exact does_rows5 on n m v _ r hr ((rows_list hB.lite on 5 n m v a c us r (by decide) (hv.below hb) hl).mono fun e w' hp => fin hp)
  by_cases h6 : k = 6
  · subst h6; exact does_rows6 on n m v _ r hr ((rows_tuple hB.lite on n m v a c us r hr).mono fun e w' hp => fin hp)
  refine does_ask on k n m v _ r hr h1 h2 h3 h4 h5 h6 ?_
  by_cases h7 : k = 7
  · subst h7; exact (asks_7 hB.lite on n m v _ r).mono fun e w' hp => fin hp
  by_cases h8 : k = 8
  · subst h8; exact (asks_8 hB.lite on n m v _ r).mono fun e w' hp => fin hp
  by_cases h9 : k = 9
  · subst h9; exact (asks_9 hB on n m v _ r).mono fun e w' hp => ⟨hp.1, hp.2.1, hp.2.2.after hb⟩
  by_cases h10 : k = 10
  · subst h10; exact (asks_10 hB on n m v _ r).mono fun e w' hp => fin hp
  by_cases h11 : k = 11
  · subst h11; exact (asks_11 hB.lite on n m v _ r hr).mono fun e w' hp => fin hp
  exact (asks_other hB.lite on k n m v _ r h7 h8 h9 h10 h11).mono fun e w' hp => fin hp
theorem BothNil.beside {t u : Nat} {w w' : World} {p q : Value} (h : BothNil w t p) (hu : BothNil w u q) (hb : Beside u w w') (hne : t ≠ u) : BothNil w' t p := ⟨h.1.beside hb hne, h.2.beside hu.1 hu.2.map hb⟩
theorem Lv.beside {u : Nat} {w w' : World} {x : Value} {us : List V} (h : Lv w x us) (hb : Beside u w w') (hn : ∀ g off n c, x = .slice (some ⟨g, off, none⟩) n c → 0 < us.length → g ≠ u) : Lv w' x us := by
  obtain ⟨hw, hl, a, c, rfl, hc⟩ := h
  refine ⟨hw, hl, a, c, rfl, fun i hi => ?_⟩
  obtain ⟨g, off, rfl, hg, h0, h1, h2⟩ := hc i hi
  have e := hb.block g hg (hn g off _ _ rfl (by omega))
  exact ⟨g, off, rfl, Nat.lt_of_lt_of_le hg hb.size, (World.cell?_of_block (a := ⟨g, _, none⟩) e).trans h0, (World.cell?_of_block (a := ⟨g, _, none⟩) e).trans h1, (World.cell?_of_block (a := ⟨g, _, none⟩) e).trans h2⟩
theorem bothNil_new {w : World} {p : Value} (h : NoTab w p) : BothNil (w.alloc (.cells #[p, .pointer none, .nilFunc] 37)) w.heap.size p :=
  ⟨rl_new w #[p, .pointer none, .nilFunc] 37, h.below (belowA _)⟩
theorem noTab_new (w : World) : NoTab (w.alloc (.cells #[.map none, .slice none 0 0, .int .i64 0] 40)) (.pointer (some ⟨w.heap.size, 0, none⟩)) := .zero w.heap.size 40 (rl_new w #[.map none, .slice none 0 0, .int .i64 0] 40)
set_option maxHeartbeats 3200000 in
set_option maxRecDepth 100000 in
theorem none_walk (on k n m : Int) (v : V) (a : Option Addr) (c : Nat) (us : List V) (r : List Int) (hr : r.length = 24) (hl : us.length ≤ 1048576) (w : World) (hv : Lv w (.slice a us.length c) us) : Calls Try.prog 3 #[.agg (opL on k n m v (.slice a us.length c) r).toArray] w fun e w' => e = .returned (.bool true) ∧ Below w.heap.size w w' := by
  have P0 := Lib.hid (opAt_new w on k n m v (.slice a us.length c) r)
  have HB1 := Lib.hid (belowA (w := w) (.cells (opL on k n m v (.slice a us.length c) r).toArray 31))
  have HV := Lib.hid hv
  clear hv
  go_enter Try.func3, Try.ntmps3
  go_upto_region 1 with fail
  generalize w.alloc (.cells (opL on k n m v (.slice a us.length c) r).toArray 31) = W1 at P0 HB1 ⊢
  go_upto_region 3 with fail
  have NA := Lib.hid (bothNil_new (w := W1) (p := .pointer none) .nil)
  have HBa := Lib.hid (belowA (w := W1) (.cells #[.pointer none, .pointer none, .nilFunc] 37))
  generalize W1.alloc (.cells #[.pointer none, .pointer none, .nilFunc] 37) = Wa at NA HBa ⊢
  have NB := Lib.hid (bothNil_new (noTab_new Wa))
  have HBb : Hid (Below Wa.heap.size Wa ((Wa.alloc (.cells #[.map none, .slice none 0 0, .int .i64 0] 40)).alloc (.cells #[.pointer (some ⟨Wa.heap.size, 0, none⟩), .pointer none, .nilFunc] 37))) := (belowA (.cells #[.map none, .slice none 0 0, .int .i64 0] 40)).trans ((belowA (.cells #[.pointer (some ⟨Wa.heap.size, 0, none⟩), .pointer none, .nilFunc] 37)).mono (by simp))
  have hsz : (Wa.alloc (.cells #[.map none, .slice none 0 0, .int .i64 0] 40)).heap.size = Wa.heap.size + 1 := by simp
  rw [hsz] at NB
  clear hsz
  go_upto_region 4 with fail
  generalize (Wa.alloc (.cells #[.map none, .slice none 0 0, .int .i64 0] 40)).alloc (.cells #[.pointer (some ⟨Wa.heap.size, 0, none⟩), .pointer none, .nilFunc] 37) = Wb at NB HBb ⊢
  have hta := World.rowIs.lt NA.out.1
  have HO := Lib.hid ((P0.out.below HBa.out).below HBb.out)
  have NA2 := Lib.hid (NA.out.below HBb.out)
  have HBW := Lib.hid (HB1.out.trans ((HBa.out.trans (HBb.out.mono HBa.out.size)).mono HB1.out.size))
  have hw0 : w.heap.size < W1.heap.size := P0.out.lt
  have HNE : Hid (W1.heap.size ≠ Wa.heap.size + 1 ∧ w.heap.size ≠ W1.heap.size ∧ w.heap.size ≠ Wa.heap.size + 1 ∧ w.heap.size ≤ W1.heap.size ∧ w.heap.size ≤ Wa.heap.size + 1) := by
    refine ⟨?_, ?_, ?_, ?_, ?_⟩ <;> omega
  clear hta hw0 P0 HB1 NA HBa HBb
  generalize Wa.heap.size + 1 = tb at NB HNE ⊢
  generalize W1.heap.size = ta at NA2 HNE ⊢
  generalize hpb : Value.pointer (some ⟨Wa.heap.size, 0, none⟩) = pb at NB ⊢
  clear hpb
  have hld := HO.out.load hr
  go_wp2_with fail
  refine (does_any NA2.out on k n m v a c us (HV.out.below HBW.out) hl r hr).mono ?_
  rintro e v1 ⟨rfl, a1, s1⟩
  have HO1 : Hid (OpAt v1 w.heap.size on k n m v (.slice a us.length c) r) := (s1.block _ HO.out.lt HNE.out.2.1).trans HO.out
  have NB1 := Lib.hid (NB.out.beside NA2.out s1 (Ne.symm HNE.out.1))
  have S1 := Lib.hid (HBW.out.trans (s1.below HNE.out.2.2.2.1 HBW.out.size))
  clear hld a1 s1 HO NB NA2 HBW
  have hld := HO1.out.load hr
  go_wp2_with fail
  refine (does_any NB1.out on k n m v a c us (HV.out.below S1.out) hl r hr).mono ?_
  rintro e v2 ⟨rfl, b2, s2⟩
  have B2 := Lib.hid b2
  have S2 := Lib.hid (S1.out.trans (s2.below HNE.out.2.2.2.2 S1.out.size))
  clear hld b2 s2 HO1 NB1 S1 HV
  go_wp2_with fail
  refine (len_no (w := v2) .nil).mono ?_
  rintro e v3 ⟨rfl, rfl⟩
  have hlb := run_loadTab B2.out.c0
  go_wp2_with fail
  refine (len_no B2.out.no).mono ?_
  rintro e v4 ⟨rfl, rfl⟩
  go_wp2_with fail
  refine (lives_any _).mono ?_
  rintro e v7 ⟨rfl, d7⟩
  have S7 := Lib.hid (S2.out.trans (d7.mono S2.out.size))
  clear d7 S2 hlb B2
  go_wp2
  go_ret
  exact ⟨rfl, S7.out⟩
end Go.Proofs.Ytmmaidniaafkgaa
