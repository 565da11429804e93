import Derived.Test.YthdcgikhcghigaaSymFillAdd
namespace Go.Proofs.Ythdcgikhcghigaa
open Go.RowKit Go.Maps Go.ChangeMaps
set_option linter.unusedVariables false
set_option linter.unusedSimpArgs false
attribute [local go_sem ↓] Go.wp_at_zero Go.wp_at_succ

set_option maxHeartbeats 6400000 in
theorem fillAdd_any {w : World} {t m b : Nat} {sv : Value} {vs : List V} {most : Int} {f : Nat → Value} (T : Tbl w t m sv vs most) (hr : w.rowIs b 43 24 f) (xs : List V) (a : Option Addr) (c : Nat) (hv : Lv w (.slice a xs.length c) xs) (hx : xs.length ≤ 24)
    (hsep : 0 < xs.length → ∀ g off, a = some ⟨g, off, none⟩ → g ≠ t ∧ g ≠ m ∧ g ≠ b ∧ sv.ownBlock ≠ some g) (hroom : vs.length ≤ 2147483600) :
    Calls Try.prog 42 #[.slice (some ⟨b, 0, none⟩) 24 24, .slice a xs.length c, .func (.func 13) #[.pointer (some ⟨t, 0, none⟩)] #[]] w fun e w' => e = .returned (.int .i64 (rowAll most vs xs).err) ∧ ∃ sv', Tbl w' t m sv' (rowAll most vs xs).vs most ∧ w'.rowIs b 43 24 (rowN (rowAll most vs xs).ss f) ∧ Fil w w' t m b sv sv' := by
  go_enter Try.func42, Try.ntmps42
  go_wp2
  go_loopw [13] (fun j wr => ∃ k : Nat, k ≤ xs.length ∧ j = .int .i64 k ∧ ∃ svk, Tbl wr t m svk (rowAll most vs (xs.take k)).vs most ∧ wr.rowIs b 43 24 (rowN (rowAll most vs (xs.take k)).ss f) ∧ Fil w wr t m b sv svk ∧ (rowAll most vs (xs.take k)).err = 0) (fun j _ => xs.length - (intOf j).toNat)
  case atStart => exact ⟨0, Nat.zero_le _, rfl, sv, T, by simpa [rowAll, rowN_nil] using hr, Fil.refl _ _ _ _ _, rfl⟩
  case round =>
    obtain ⟨k, hk, rfl, svk, Tk, hrk, F, herr⟩ := hrel
    have HF := rowAll_facts most vs (xs.take k)
    have hlk : (xs.take k).length = k := by simp; omega
    by_cases hlt : k < xs.length
    · obtain ⟨g, off, rfl, hg, x0, x1, x2⟩ := hv.at hlt
      obtain ⟨g1, g2, g3, g4⟩ := hsep (by omega) g off rfl
      have eg := F.block g hg g1 g2 g3 g4
      have y0 : wr.cell? ⟨g, off + k * 3, none⟩ = some (.int .i8 (atV xs k).k) := (World.cell?_of_block (a := ⟨g, _, none⟩) eg).trans x0
      have y1 : wr.cell? ⟨g, off + k * 3 + 1, none⟩ = some (.int .i64 (atV xs k).n) := (World.cell?_of_block (a := ⟨g, _, none⟩) eg).trans x1
      have y2 : wr.cell? ⟨g, off + k * 3 + 2, none⟩ = some (.string (atV xs k).s) := (World.cell?_of_block (a := ⟨g, _, none⟩) eg).trans x2
      have uwf := hv.1 _ (atV_mem hlt)
      have HT : Hid (rowAll most vs (xs.take (k + 1)) = rowStep most (rowAll most vs (xs.take k)) (atV xs k)) := rowAll_take hlt
      have hle : (rowAll most vs (xs.take k)).vs.length ≤ 2147483646 := by have := HF.1; omega
      have hss : (rowAll most vs (xs.take k)).ss.length = k := by rw [HF.2.2.2 herr, hlk]
      generalize atV xs k = u at y0 y1 y2 uwf HT
      clear x0 x1 x2 hv HF
      go_wp2_with fail
      have bal := (Below.refl wr.heap.size wr).alloc (Nat.le_refl _) (.cells #[.int .i8 u.k, .int .i64 u.n, .string u.s] 39)
      refine (add_any (Tk.below bal) uwf hle).mono ?_
      rintro e w2 ⟨rfl, sv2, T2, U2⟩
      have aw := (Tk.below bal).away (hrk.of_block (bal.block b hrk.lt))
      have hr2 : w2.rowIs b 43 24 (rowN (rowAll most vs (xs.take k)).ss f) := (hrk.of_block (bal.block b hrk.lt)).of_block (U2.block b (Nat.lt_of_lt_of_le hrk.lt bal.size) aw.1 aw.2.1 aw.2.2)
      have F2 := (F.alloc (.cells #[.int .i8 u.k, .int .i64 u.n, .string u.s] 39)).touch U2
      have aw2 := T2.away hr2
      by_cases hE : addE most (rowAll most vs (xs.take k)).vs u = 0
      · rw [hE]
        have HS : Hid (rowStep most (rowAll most vs (xs.take k)) u = ⟨(rowAll most vs (xs.take k)).ss ++ [addS most (rowAll most vs (xs.take k)).vs u], addV most (rowAll most vs (xs.take k)).vs u, 0⟩) := by
          show rowStep most (rowAll most vs (xs.take k)) u = _
          unfold rowStep
          rw [if_pos herr, if_pos hE]
        have hz : w2.cell? ⟨b, k, none⟩ = some (rowN (rowAll most vs (xs.take k)).ss f k) := hr2.cell (i := k) (by omega)
        have hfr := hr2.frozen k
        have hr3 : ∀ s : Nat, (w2.setCell ⟨b, k, none⟩ (.int .i32 s)).rowIs b 43 24 (rowN ((rowAll most vs (xs.take k)).ss ++ [s]) f) := fun s => (hr2.set k (.int .i32 s)).congr fun i _ => by
          have := rowN_snoc (rowAll most vs (xs.take k)).ss s f i
          rw [hss] at this
          exact this
        have T3 : ∀ s : Nat, Tbl (w2.setCell ⟨b, k, none⟩ (.int .i32 s)) t m sv2 (addV most (rowAll most vs (xs.take k)).vs u) most := fun s => T2.of_blocks (Below.heap_setCell w2 ⟨b, k, none⟩ _ t (fun e => aw2.1 e.symm)) (Below.heap_setCell w2 ⟨b, k, none⟩ _ m (fun e => aw2.2.1 e.symm)) (fun g hg => Below.heap_setCell w2 ⟨b, k, none⟩ _ g (fun e => aw2.2.2 (by rw [hg, e])))
        generalize addS most (rowAll most vs (xs.take k)).vs u = s at HS
        generalize rowN (rowAll most vs (xs.take k)).ss f k = z at hz
        have hk24 : (k : Int) < 24 := by omega
        clear hrk F U2 Tk hr2 T2 y0 y1 y2 bal hE hle herr hss
        go_wp2
        go_roundw
        case rel => exact ⟨k + 1, by omega, by go_num, sv2, by rw [HT.out, HS.out]; exact T3 s, by rw [HT.out, HS.out]; exact hr3 s, F2.set k _, by rw [HT.out, HS.out]⟩
        case measure => simp [intOf]; omega
      · have hE' : (addE most (rowAll most vs (xs.take k)).vs u != 0) = true := by simpa using hE
        have HS : Hid (rowAll most vs xs = ⟨(rowAll most vs (xs.take k)).ss, addV most (rowAll most vs (xs.take k)).vs u, addE most (rowAll most vs (xs.take k)).vs u⟩) := by
          show rowAll most vs xs = _
          have hs : rowAll most vs (xs.take (k + 1)) = ⟨(rowAll most vs (xs.take k)).ss, addV most (rowAll most vs (xs.take k)).vs u, addE most (rowAll most vs (xs.take k)).vs u⟩ := by
            rw [HT.out]
            unfold rowStep
            rw [if_pos herr, if_neg hE]
          rw [rowAll_stop (k := k + 1) (by rw [hs]; exact hE), hs]
        clear hrk F U2 Tk y0 y1 y2 bal hE hle herr hss HT
        go_wp2
        go_ret
        refine ⟨by rw [HS.out]; rfl, sv2, by rw [HS.out]; exact T2, by rw [HS.out]; exact hr2, F2⟩
    · have e : xs.take k = xs := List.take_of_length_le (by omega)
      rw [e] at Tk hrk herr
      have HE : Hid ((rowAll most vs xs).err = 0) := herr
      clear herr HF hv
      go_wp2
      go_ret
      exact ⟨by rw [HE.out]; rfl, svk, Tk, hrk, F⟩
end Go.Proofs.Ythdcgikhcghigaa
