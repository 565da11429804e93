import Derived.Test.YtekjoccbbamehaaIxDis
namespace Go.Proofs.Ytekjoccbbamehaa
open Go.RowKit Go.Maps Go.ChangeMaps
set_option linter.unusedVariables false
set_option linter.unusedSimpArgs false
attribute [local go_sem ↓] Go.wp_at_zero Go.wp_at_succ

attribute [-go_sem] loadVar
set_option maxHeartbeats 3200000 in
set_option maxRecDepth 100000 in
theorem at_out {w : World} {B t m : Nat} {sv : Value} {rows : List (List Int)} {ar gone : Int} (h : Rel w B t m sv rows ar gone) (i : Int) (hi1 : (rows.length : Int) ≤ i) :
    Calls Try.prog 9 #[.pointer (some ⟨t, 0, none⟩), .int .i64 i] w fun e w' => e = .returned (.tuple #[rowV zeroL, .int .i64 1]) ∧ Below w.heap.size w w' := by
  have hb := (Below.refl w.heap.size w).alloc (Nat.le_refl _) (.cells (rowC zeroL) 34)
  have HB := Lib.hid hb
  have HZ := Lib.hid (rowAt_new w zeroL)
  have HR := Lib.hid (h.keep hb)
  have HT := Lib.hid (there_yes (h.keep hb))
  have hi0 : (0 : Int) ≤ i := by omega
  clear h hb
  go_enter Try.func9, Try.ntmps9
  go_upto_region 1 with fail
  rw [show rowC zeroL = #[.int .i32 0, .int .i32 0, .int .i32 0, .int .i32 0, .int .i32 0, .int .i32 0, .int .i32 0, .int .i32 0, .int .i32 0, .int .i32 0, .int .i32 0, .int .i32 0, .int .i32 0, .int .i32 0, .int .i32 0, .int .i32 0, .int .i32 0, .int .i32 0, .int .i32 0, .int .i32 0, .int .i32 0, .int .i32 0, .int .i32 0, .int .i32 0] from rfl] at HB HR HT
  have HZ' : Hid ((w.alloc (.cells #[.int .i32 0, .int .i32 0, .int .i32 0, .int .i32 0, .int .i32 0, .int .i32 0, .int .i32 0, .int .i32 0, .int .i32 0, .int .i32 0, .int .i32 0, .int .i32 0, .int .i32 0, .int .i32 0, .int .i32 0, .int .i32 0, .int .i32 0, .int .i32 0, .int .i32 0, .int .i32 0, .int .i32 0, .int .i32 0, .int .i32 0, .int .i32 0] 34)).heap[w.heap.size]? = some (.cells #[.int .i32 0, .int .i32 0, .int .i32 0, .int .i32 0, .int .i32 0, .int .i32 0, .int .i32 0, .int .i32 0, .int .i32 0, .int .i32 0, .int .i32 0, .int .i32 0, .int .i32 0, .int .i32 0, .int .i32 0, .int .i32 0, .int .i32 0, .int .i32 0, .int .i32 0, .int .i32 0, .int .i32 0, .int .i32 0, .int .i32 0, .int .i32 0] 34 (0, 0))) := HZ.out
  clear HZ
  generalize w.alloc (.cells #[.int .i32 0, .int .i32 0, .int .i32 0, .int .i32 0, .int .i32 0, .int .i32 0, .int .i32 0, .int .i32 0, .int .i32 0, .int .i32 0, .int .i32 0, .int .i32 0, .int .i32 0, .int .i32 0, .int .i32 0, .int .i32 0, .int .i32 0, .int .i32 0, .int .i32 0, .int .i32 0, .int .i32 0, .int .i32 0, .int .i32 0, .int .i32 0] 34) = W at HB HR HT HZ' ⊢
  go_wp2_with fail
  refine HT.out.mono ?_
  rintro e w1 ⟨rfl, rfl⟩
  obtain ⟨ao, co, hsv, _⟩ := own_form HR.out.own
  subst hsv
  have l0 := run_loadRows (HR.out.rl.at (j := 0) rfl)
  clear HT HR
  go_wp2_with (refine wpList_storeRow _ rfl (.tmp 4) (.tmp 22) 34 rfl w.heap.size #[.int .i32 0, .int .i32 0, .int .i32 0, .int .i32 0, .int .i32 0, .int .i32 0, .int .i32 0, .int .i32 0, .int .i32 0, .int .i32 0, .int .i32 0, .int .i32 0, .int .i32 0, .int .i32 0, .int .i32 0, .int .i32 0, .int .i32 0, .int .i32 0, .int .i32 0, .int .i32 0, .int .i32 0, .int .i32 0, .int .i32 0, .int .i32 0] (List.map cellI zeroL).toArray rfl rfl HZ'.out (by rw [show (List.map cellI zeroL).toArray.size = 24 by decide]; exact infoRow) (by decide) (by kernel_rfl) ?_)
  have HF : RowAt (w1.setRow w.heap.size (List.map cellI zeroL).toArray) w.heap.size zeroL := setRow_heap w1 w.heap.size _ _ _ (0, 0) HZ'.out
  refine bodyPost_ret (rl_results3 Try.results9 (b := w.heap.size) (v := rowV zeroL) (u := .int .i64 1) rfl rfl (run_loadRow HF zeroL_ok.len)) rfl ⟨rfl, ?_⟩
  exact HB.out.trans ⟨rfl, rfl, rfl, by simp, fun k hk => setRow_other w1 w.heap.size k _ (by omega)⟩
theorem at0 {w : World} {B t m : Nat} {sv : Value} {rows : List (List Int)} {ar gone : Int} (h : Rel w B t m sv rows ar gone) (hlen : rows.length ≤ 1000000000) :
    ∃ r, r.length = 24 ∧ ((Calls Try.prog 9 #[.pointer (some ⟨t, 0, none⟩), .int .i64 0] w fun e w' => e = .returned (.tuple #[rowV r, .int .i64 0]) ∧ Below w.heap.size w w') ∨ (Calls Try.prog 9 #[.pointer (some ⟨t, 0, none⟩), .int .i64 0] w fun e w' => e = .returned (.tuple #[rowV r, .int .i64 1]) ∧ Below w.heap.size w w')) := by
  cases rows with
  | nil => exact ⟨zeroL, by decide, .inr (at_out h 0 (by simp))⟩
  | cons r rows => exact ⟨r, (h.ok r (by simp)).len, .inl (at_any h 0 r rfl hlen)⟩
attribute [-go_sem] storeVar
set_option maxHeartbeats 1600000 in
set_option maxRecDepth 100000 in
theorem new_bk {w : World} {B' tt mm : Nat} {sv : Value} {rows : List (List Int)} {ar gone : Int} (h : Rel w B' tt mm sv rows ar gone) (hlen : rows.length ≤ 1000000000) :
    Calls Try.prog 16 #[.pointer (some ⟨tt, 0, none⟩)] w fun e w' => ∃ bk mb, e = .returned (.tuple #[.pointer (some ⟨bk, 0, none⟩), .int .i64 0]) ∧ Ibk w' w.heap.size bk mb tt [] ∧ Below w.heap.size w w' := by
  have HBK : Hid (∀ u1 : World, Below w.heap.size w u1 → Ibk ((u1.alloc (.map #[] 0)).alloc (.cells #[.pointer (some ⟨tt, 0, none⟩), .map (some u1.heap.size)] 80)) w.heap.size (u1.heap.size + 1) u1.heap.size tt [] ∧ Below w.heap.size w ((u1.alloc (.map #[] 0)).alloc (.cells #[.pointer (some ⟨tt, 0, none⟩), .map (some u1.heap.size)] 80))) := fun u1 hb => by
    refine ⟨⟨?_, (MapM.made u1).of_block ((belowA (w := u1.alloc (.map #[] 0)) _).block _ (by simp)), by simp, fun i hi => (by cases hi), ⟨by omega, by have := hb.size; omega, hb.size⟩, fun i hi => (by cases hi), fun p q i j h1 => (by simp at h1)⟩, (hb.alloc hb.size _).alloc (by simp only [World.size_alloc]; have := hb.size; omega) _⟩
    have := rl_new (u1.alloc (.map #[] 0)) #[.pointer (some ⟨tt, 0, none⟩), .map (some u1.heap.size)] 80
    rw [World.size_alloc] at this
    exact this
  obtain ⟨r0, hr24, hat⟩ := at0 h hlen
  clear h
  rcases hat with hat | hat
  · have HAT := Lib.hid hat
    clear hat
    unfold rowV at HAT
    have hst := fun u => store_rowX u r0 hr24
    clear hr24
    go_enter Try.func16, Try.ntmps16
    go_wp2_with fail
    refine HAT.out.mono ?_
    rintro e w1 ⟨rfl, b1⟩
    have hst1 := hst w1
    have hmk : ∀ u, (Instr.makeMap 78 none).run Try.prog u = .ok (.map (some u.heap.size)) (u.alloc (.map #[] 0)) := fun u => by
      simp [Instr.makeMap, run_underlying Try.underlying78, Result.andThen, go_sem]
    obtain ⟨u1, hu1⟩ : ∃ u1, u1 = w1.alloc (.cells (rowC r0) 34) := ⟨_, rfl⟩
    rw [← hu1] at hst1
    have HB1 : Hid (Below w.heap.size w u1) := b1.trans ((hu1 ▸ belowA (w := w1) (.cells (rowC r0) 34)).mono b1.size)
    have hmk1 := hmk u1
    clear hst hmk hu1 b1 HAT
    go_wp2
    go_ret2
    exact ⟨_, _, rfl, HBK.out u1 HB1.out⟩
  · have HAT := Lib.hid hat
    clear hat
    unfold rowV at HAT
    have hst := fun u => store_rowX u r0 hr24
    clear hr24
    go_enter Try.func16, Try.ntmps16
    go_wp2_with fail
    refine HAT.out.mono ?_
    rintro e w1 ⟨rfl, b1⟩
    have hst1 := hst w1
    have hmk : ∀ u, (Instr.makeMap 78 none).run Try.prog u = .ok (.map (some u.heap.size)) (u.alloc (.map #[] 0)) := fun u => by
      simp [Instr.makeMap, run_underlying Try.underlying78, Result.andThen, go_sem]
    obtain ⟨u1, hu1⟩ : ∃ u1, u1 = w1.alloc (.cells (rowC r0) 34) := ⟨_, rfl⟩
    rw [← hu1] at hst1
    have HB1 : Hid (Below w.heap.size w u1) := b1.trans ((hu1 ▸ belowA (w := w1) (.cells (rowC r0) 34)).mono b1.size)
    have hmk1 := hmk u1
    clear hst hmk hu1 b1 HAT
    go_wp2
    go_ret2
    exact ⟨_, _, rfl, HBK.out u1 HB1.out⟩
end Go.Proofs.Ytekjoccbbamehaa
