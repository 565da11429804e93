import Derived.Test.YtekjoccbbamehaaIxSrt
import Derived.Laws.IdiomRangeMap
import Derived.BigQuiet
namespace Go.Proofs.Ytekjoccbbamehaa
open Go.RowKit Go.Maps Go.ChangeMaps
set_option linter.unusedVariables false
set_option linter.unusedSimpArgs false
attribute [local go_sem ↓] Go.wp_at_zero Go.wp_at_succ

/-! a range over a map of no entry, or of one -/
section
variable {P : Program} {w : World} {r bm since c0 clock : Nat} {e : MapEntry} {ty : TypeId}
theorem next_none (hr : w.heap[r]? = some (.mapIter (some bm) since #[] c0)) (hb : w.heap[bm]? = some (.map #[] clock)) : (Instr.next (.pointer (some ⟨r, 0, none⟩)) false ty).run P w = .ok (.tuple #[.bool false]) w := by
  simp [Instr.next, getObj, Sem.run, hr, hb, Result.andThen, choose, Question.forced]
theorem next_one (hr : w.heap[r]? = some (.mapIter (some bm) since #[] c0)) (hb : w.heap[bm]? = some (.map #[e] clock)) (he : e.born < since) : (Instr.next (.pointer (some ⟨r, 0, none⟩)) false ty).run P w = .ok (.tuple #[.bool true, e.key, e.val]) (setBlock w r (.mapIter (some bm) since #[e.born] clock)) := by
  have h2 : ¬ since ≤ e.born := by omega
  simp [Instr.next, getObj, setObj, Sem.run, hr, hb, Result.andThen, choose, Question.forced, he, h2, setBlock]
theorem next_two (hr : w.heap[r]? = some (.mapIter (some bm) since #[e.born] c0)) (hb : w.heap[bm]? = some (.map #[e] clock)) (hc : e.born < c0) : (Instr.next (.pointer (some ⟨r, 0, none⟩)) false ty).run P w = .ok (.tuple #[.bool false]) w := by
  have h2 : ¬ c0 ≤ e.born := by omega
  simp [Instr.next, getObj, setObj, Sem.run, hr, hb, Result.andThen, choose, Question.forced, h2]
theorem entry_one (hr : w.heap[r]? = some (.mapIter (some bm) since #[e.born] clock)) (hb : w.heap[bm]? = some (.map #[e] clock)) : (Instr.entry (.pointer (some ⟨r, 0, none⟩))).run P w = .ok (.tuple #[e.key, e.val]) w := by
  simp [Instr.entry, getObj, Sem.run, hr, hb, Result.andThen]
end
attribute [-go_sem] loadVar Builtin.append_
theorem infoMaskX : (Try.prog.info? 24).map (fun i => (i.zero, i.size, i.bytes)) = some (some (.int .u32 0), 1, 4) := by kernel_rfl
def lenV : Value → Nat
  | .slice _ n _ => n
  | _ => 0
set_option maxHeartbeats 1600000 in
set_option maxRecDepth 100000 in
theorem masks_none {w : World} {B bk mb tt : Nat} (h : Ibk w B bk mb tt []) :
    Calls Try.prog 17 #[.pointer (some ⟨bk, 0, none⟩)] w fun e w' => e = .returned (.slice none 0 0) ∧ Below w.heap.size w w' := by
  have HT := Lib.hid (there_bk h)
  have l1 := RL.mapM h
  obtain ⟨es, c, hb, hes, _, _⟩ := h.map
  obtain rfl : es = #[] := by
    have : es.toList = [] := by simpa using hes
    exact Array.toList_inj.1 this
  have hlt : mb < w.heap.size := h.map.lt
  have hrg := run_range_map (P := Try.prog) w 78 24 66 mb #[] c Try.underlying78 hb
  have hnx := fun ty => next_none (P := Try.prog) (ty := ty) (heap_alloc_new w (.mapIter (some mb) c #[] c)) ((heap_alloc_old w _ hlt).trans hb)
  have HB := Lib.hid (belowA (w := w) (.mapIter (some mb) c #[] c))
  clear h hes hb hlt
  go_enter Try.func17, Try.ntmps17
  go_wp2_with fail
  refine HT.out.mono ?_
  rintro e w1 ⟨rfl, rfl⟩
  clear HT
  go_wp2
  go_loopw [3] (fun o wr => o = .slice none 0 0 ∧ wr = w1.alloc (.mapIter (some mb) c #[] c)) (fun _ _ => 0)
  case atStart => exact ⟨rfl, rfl⟩
  case round =>
    obtain ⟨rfl, rfl⟩ := hrel
    go_wp2_with fail
    refine (sortM_one none 0 0 (by omega) _).mono ?_
    rintro e w2 ⟨⟨u, rfl⟩, rfl⟩
    go_wp2
    go_ret
    exact ⟨rfl, HB.out⟩
set_option maxHeartbeats 3200000 in
set_option maxRecDepth 100000 in
theorem masks_one {w : World} {B bk mb tt : Nat} {i : Ie} (h : Ibk w B bk mb tt [i]) :
    Calls Try.prog 17 #[.pointer (some ⟨bk, 0, none⟩)] w fun e w' => ∃ g cap, e = .returned (.slice (some ⟨g, 0, none⟩) 1 cap) ∧ w'.cell? ⟨g, 0, none⟩ = some (.int .u32 i.m) ∧ g < w'.heap.size ∧ Below w.heap.size w w' := by
  have HT := Lib.hid (there_bk h)
  have l1 := RL.mapM h
  obtain ⟨es, c, hb, hes, _, hst⟩ := h.map
  obtain ⟨e0, rfl, hk, hv⟩ : ∃ e0 : MapEntry, es = #[e0] ∧ e0.key = .int .u32 i.m ∧ e0.val = .pointer (some ⟨i.x, 0, none⟩) := by
    match hl : es.toList, hes with
    | [e0], hes =>
      refine ⟨e0, Array.toList_inj.1 hl, ?_, ?_⟩
      · have := congrArg (fun l => l.map Prod.fst) hes
        simpa [entM, Ie.mb] using this
      · have := congrArg (fun l => l.map Prod.snd) hes
        simpa [entM, Ie.mb, ptrM] using this
    | [], hes => simp at hes
    | e0 :: e1 :: r, hes => simp at hes
  have hbo : e0.born < c := hst e0 (by simp)
  have hlt : mb < w.heap.size := h.map.lt
  have hrg := run_range_map (P := Try.prog) w 78 24 66 mb #[e0] c Try.underlying78 hb
  have hn1 := heap_alloc_new w (.mapIter (some mb) c #[] c)
  have hm1 : (w.alloc (.mapIter (some mb) c #[] c)).heap[mb]? = some (.map #[e0] c) := (heap_alloc_old w _ hlt).trans hb
  have hnx := fun ty => next_one (P := Try.prog) (ty := ty) hn1 hm1 hbo
  rw [hk, hv] at hnx
  obtain ⟨U1, hU1⟩ : ∃ U1, U1 = setBlock (w.alloc (.mapIter (some mb) c #[] c)) w.heap.size (.mapIter (some mb) c #[e0.born] c) := ⟨_, rfl⟩
  have hr1 : U1.heap[w.heap.size]? = some (.mapIter (some mb) c #[e0.born] c) := by rw [hU1]; simp [setBlock]
  have hb1 : U1.heap[mb]? = some (.map #[e0] c) := by
    rw [hU1, ← hm1]
    simp only [setBlock]
    rw [Array.getElem?_setIfInBounds_ne (by omega)]
  have hz1 : U1.heap.size = w.heap.size + 1 := by rw [hU1]; simp [setBlock]
  have hB1 : Below w.heap.size w U1 := by
    rw [hU1]
    refine ⟨rfl, rfl, rfl, by simp [setBlock], fun k hk => ?_⟩
    simp only [setBlock]
    rw [Array.getElem?_setIfInBounds_ne (by omega)]
    exact heap_alloc_old w _ hk
  have hen := entry_one (P := Try.prog) hr1 hb1
  rw [hk, hv] at hen
  have hA1 := belowA (w := U1) (.cells #[.int .u32 i.m] 24)
  have hc2 : (U1.alloc (.cells #[.int .u32 i.m] 24)).cell? ⟨U1.heap.size, 0, none⟩ = some (.int .u32 i.m) := by go_simp
  obtain ⟨i0, hi0, hz0, hzz, hz2⟩ := info_partsX infoMaskX
  have ho : (U1.alloc (.cells #[.int .u32 i.m] 24)).ownsRow w.heap.size 24 1 (.slice none 0 0) 0 [] := World.ownsRow_nil _ _ _ _
  obtain ⟨v', w3, hrun, hown, hg, _, hloc⟩ := run_append_own_at (P := Try.prog) (U1.alloc (.cells #[.int .u32 i.m] 24)) w.heap.size 51 51 24 i0 _ 1 4 Try.underlying51 hi0 hz0 hzz hz2 rfl (by decide) _ 0 [] ho ⟨U1.heap.size, 0, none⟩ 1 1 [.int .u32 i.m] (by simp) (fun j u hu => by
    match j, hu with
    | 0, hu =>
      rw [show (⟨U1.heap.size, 0, none⟩ : Addr).add 0 = ⟨U1.heap.size, 0, none⟩ by rw [WideShapes.add_plain]]
      simp at hu
      rw [← hu]
      exact hc2) (fun u hu => by
    simp at hu
    rw [hu]
    rfl) (by decide) (by omega) (by simp only [World.size_alloc]; omega)
  have hblk : ∀ k, k < U1.heap.size → w3.heap[k]? = U1.heap[k]? := fun k hk => (hg.block k (by simp only [World.size_alloc]; omega) (by simp [Value.ownBlock])).trans (hA1.block k hk)
  have hsz3 : U1.heap.size ≤ w3.heap.size := Nat.le_trans hA1.size hg.size
  have hB3 : Below w.heap.size w w3 := hB1.trans (⟨hg.os.trans hA1.os, hg.tape.trans hA1.tape, hg.output.trans hA1.output, hsz3, fun k hk => hblk k (by omega)⟩)
  have hr3 := (hblk w.heap.size (by omega)).trans hr1
  have hb3 := (hblk mb (by omega)).trans hb1
  have hn3 := fun ty => next_two (P := Try.prog) (ty := ty) hr3 hb3 hbo
  obtain ⟨g, cap, rfl⟩ : ∃ g cap, v' = .slice (some ⟨g, 0, none⟩) 1 cap := by
    obtain ⟨_, ⟨rfl, h0⟩ | ⟨g, cap, cur, e, _⟩⟩ := hown
    · simp at h0
    · exact ⟨g, cap, e⟩
  have hcell : w3.cell? ⟨g, 0, none⟩ = some (.int .u32 i.m) := by
    rw [hown.cellAt 0 (by simp)]
    rfl
  have hglt : g < w3.heap.size := (hown.lt g rfl).2
  have HF : Hid (w3.cell? ⟨g, 0, none⟩ = some (.int .u32 i.m) ∧ g < w3.heap.size ∧ Below w.heap.size w w3) := ⟨hcell, hglt, hB3⟩
  rw [← hU1] at hnx
  rw [hz1] at hrun
  have hN3 := Lib.hid hn3
  clear h hes hb hlt hst hk hv hbo hn1 hm1 hr1 hb1 hB1 hA1 hc2 ho hown hg hloc hblk hsz3 hB3 hr3 hb3 hcell hglt hi0 hz0 hzz hz2 hU1 hn3
  go_enter Try.func17, Try.ntmps17
  go_wp2_with fail
  refine HT.out.mono ?_
  rintro e w1 ⟨rfl, rfl⟩
  clear HT
  go_wp2
  clear l1 hrg
  go_loopw [3, 4] (fun o mv wr => (o = .slice none 0 0 ∧ wr = w1.alloc (.mapIter (some mb) c #[] c)) ∨ (o = .slice (some ⟨g, 0, none⟩) 1 cap ∧ wr = w3)) (fun o _ _ => 1 - lenV o)
  case atStart => exact .inl ⟨rfl, rfl⟩
  case round =>
    rcases hrel with ⟨rfl, rfl⟩ | ⟨rfl, rfl⟩
    · clear hN3 HF
      go_wp2
      go_roundw
      case rel => exact .inr ⟨rfl, trivial⟩
      case measure => simp [lenV]
    · have hn3 := hN3.out
      clear hN3 hnx hen hrun
      go_wp2_with fail
      refine (sortM_one (some ⟨g, 0, none⟩) 1 cap (by omega) _).mono ?_
      rintro e w2 ⟨⟨u, rfl⟩, rfl⟩
      go_wp2
      go_ret
      exact ⟨g, cap, rfl, HF.out⟩
set_option maxHeartbeats 1600000 in
set_option maxRecDepth 100000 in
theorem sameMasks_one {w : World} {g g' c c' : Nat} {m : Int} (h : w.cell? ⟨g, 0, none⟩ = some (.int .u32 m)) (h' : w.cell? ⟨g', 0, none⟩ = some (.int .u32 m)) (hg : g < w.heap.size) (hg' : g' < w.heap.size) :
    Calls Try.prog 20 #[.slice (some ⟨g, 0, none⟩) 1 c, .slice (some ⟨g', 0, none⟩) 1 c'] w fun e w' => e = .returned (.bool true) ∧ Below w.heap.size w w' := by
  have HL : Hid (∀ u, Below w.heap.size w u → (loadVar 24 ⟨g, 0, none⟩).run Try.prog u = .ok (.int .u32 m) u ∧ (loadVar 24 ⟨g', 0, none⟩).run Try.prog u = .ok (.int .u32 m) u) := fun u hu => by
    have e1 := (hu.cell (p := ⟨g, 0, none⟩) hg).trans h
    have e2 := (hu.cell (p := ⟨g', 0, none⟩) hg').trans h'
    constructor
    · rw [loadVar.eq_1]
      go_simp
    · rw [loadVar.eq_1]
      go_simp
  clear h h' hg hg'
  go_enter Try.func20, Try.ntmps20
  go_wp2
  go_loopw [5] (fun i wr => ∃ k : Nat, k ≤ 1 ∧ i = .int .i64 k ∧ Hid (Below w.heap.size w wr)) (fun i _ => 1 - (intOf i).toNat)
  case atStart => exact ⟨0, by omega, rfl, Below.refl _ _⟩
  case round =>
    obtain ⟨k, hk, rfl, HB⟩ := hrel
    obtain ⟨U, rfl⟩ : ∃ U, U = wr := ⟨_, rfl⟩
    obtain rfl | rfl : k = 0 ∨ k = 1 := by omega
    · have hlq : ∀ q, (loadVar 24 ⟨g, 0, none⟩).run Try.prog (U.drewN q) = .ok (.int .u32 m) (U.drewN q) := fun q => (HL.out _ (below_drewV HB.out q)).1
      have hlq2 : ∀ q, (loadVar 24 ⟨g', 0, none⟩).run Try.prog (U.drewN q) = .ok (.int .u32 m) (U.drewN q) := fun q => (HL.out _ (below_drewV HB.out q)).2
      have HD : Hid (∀ q, Below w.heap.size w (U.drewN q)) := fun q => below_drewV HB.out q
      clear HB HL
      go_wp2_with fail
      go_quiet (fail)
      go_wp2
      go_roundw
      case rel => exact ⟨1, by omega, by go_num, HD.out _⟩
      case measure => simp [intOf]
    · go_wp2
      go_ret
      exact ⟨rfl, HB.out⟩
end Go.Proofs.Ytekjoccbbamehaa
