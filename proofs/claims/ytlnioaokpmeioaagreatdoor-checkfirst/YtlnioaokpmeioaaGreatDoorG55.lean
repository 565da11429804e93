import Derived.Test.YtlnioaokpmeioaaGreatDoorG52
import Derived.Test.YtlnioaokpmeioaaGreatDoorG19
section
namespace Go.Proofs.YtlnioaokpmeioaaGreatDoor
open Go.RowKit Go.Maps
set_option linter.unusedVariables false
set_option linter.unusedSimpArgs false
attribute [local go_sem ↓] Go.wp_at_zero Go.wp_at_succ
attribute [-go_sem] Builtin.append_ Instr.buildSlice

theorem bk_wf : bkT.wf := ⟨by decide, V0.ok⟩
theorem infoBk : (Tryz.prog.info? 57).map (fun i => (i.zero, i.size, i.bytes)) = some (some (.agg #[.string ⟨#[]⟩, .int .i8 0, .int .i64 0, .string ⟨#[]⟩]), 4, 48) := by kernel_rfl
/-- blank's two blocks and its list behind w -/
structure Bk (w u : World) (pr : ByteArray) (k : Nat) (a : Option Addr) (c : Nat) : Prop where
  below : Below w.heap.size w u
  sz : w.heap.size + 2 ≤ u.heap.size
  r0 : RL u w.heap.size 26 [.string ⟨#[]⟩, .slice none 0 0]
  rl : RL u (w.heap.size + 1) 26 [.string pr, .slice a k c]
  own : u.ownsRow (w.heap.size + 2) 57 4 (.slice a k c) k ((List.replicate k bkT).flatMap T.cells)
theorem Bk.c1 {w u : World} {pr : ByteArray} {k : Nat} {a : Option Addr} {c : Nat} (h : Bk w u pr k a c) : u.cell? ⟨w.heap.size + 1, 1, none⟩ = some (.slice a k c) := RL.at h.rl (j := 1) rfl
theorem Bk.q0 {w u : World} {pr : ByteArray} {k : Nat} {a : Option Addr} {c : Nat} (h : Bk w u pr k a c) : u.cell? ⟨w.heap.size + 1, 0, none⟩ = some (.string pr) := RL.at h.rl (j := 0) rfl
theorem Bk.s0 {w u : World} {pr : ByteArray} {k : Nat} {a : Option Addr} {c : Nat} (h : Bk w u pr k a c) : u.cell? ⟨w.heap.size, 0, none⟩ = some (.string ⟨#[]⟩) := RL.at h.r0 (j := 0) rfl
theorem Bk.s1 {w u : World} {pr : ByteArray} {k : Nat} {a : Option Addr} {c : Nat} (h : Bk w u pr k a c) : u.cell? ⟨w.heap.size, 1, none⟩ = some (.slice none 0 0) := RL.at h.r0 (j := 1) rfl
theorem Bk.f0 {w u : World} {pr : ByteArray} {k : Nat} {a : Option Addr} {c : Nat} (h : Bk w u pr k a c) : u.frozen? ⟨w.heap.size, 0, none⟩ = false := World.rowIs.frozen h.r0 0
theorem Bk.f1 {w u : World} {pr : ByteArray} {k : Nat} {a : Option Addr} {c : Nat} (h : Bk w u pr k a c) : u.frozen? ⟨w.heap.size, 1, none⟩ = false := World.rowIs.frozen h.r0 1
theorem Bk.step {w u : World} {pr : ByteArray} {k : Nat} {a : Option Addr} {c : Nat} (h : Bk w u pr k a c) (hk : k ≤ 1000000000) : ∃ a6 c6 w5, (Instr.buildSlice 24 1 #[(0, .agg #[.string ⟨#[95]⟩, .int .i8 0, .int .i64 0, .string ⟨#[]⟩])]).run Tryz.prog u = .ok (.slice (some ⟨u.heap.size, 0, none⟩) 1 1) (u.alloc (.cells bkT.cells.toArray 57)) ∧
    (Builtin.append_ #[24, 24] 24 #[.slice a k c, .slice (some ⟨u.heap.size, 0, none⟩) 1 1]).run Tryz.prog (u.alloc (.cells bkT.cells.toArray 57)) = .ok (.slice a6 (k + 1) c6) w5 ∧ w5.cell? ⟨w.heap.size + 1, 1, none⟩ = some (.slice a k c) ∧ w5.frozen? ⟨w.heap.size + 1, 1, none⟩ = false ∧ Bk w (w5.setCell ⟨w.heap.size + 1, 1, none⟩ (.slice a6 (k + 1) c6)) pr (k + 1) a6 c6 := by
  obtain ⟨i0, hi0, hz0, hz1, hz2⟩ := info_parts infoBk
  have hA := belowA (w := u) (.cells bkT.cells.toArray 57)
  have hz5 : w.heap.size + 2 ≤ (u.alloc (.cells bkT.cells.toArray 57)).heap.size := Nat.le_trans h.sz hA.size
  have ho := own_below h.own hA
  obtain ⟨v', w5, hrun, hown', hgrow, hnil, hloc⟩ := run_append_own_at (P := Tryz.prog) (u.alloc (.cells bkT.cells.toArray 57)) (w.heap.size + 2) 24 24 57 i0 _ 4 48 Tryz.underlying24 hi0 hz0 hz1 hz2 rfl (by decide) _ _ _ ho ⟨_, 0, none⟩ 1 1 bkT.cells rfl (lit_news _ bkT.cells.toArray _) (fun x hx => by simp [T.cells] at hx; rcases hx with e | e | e | e <;> rw [e] <;> rfl) (by unfold maxLen; omega) (by omega) hz5
  obtain ⟨a6, c6, rfl, _⟩ := own_form hown'
  have b5 : Below (w.heap.size + 2) u w5 := (hA.mono h.sz).grown hgrow hz5 (fun j hj => (ho.lt j hj).1)
  have k0 : RL w5 w.heap.size 26 [.string ⟨#[]⟩, .slice none 0 0] := World.rowIs.of_block h.r0 (b5.block _ (by omega))
  have k1 : RL w5 (w.heap.size + 1) 26 [.string pr, .slice a k c] := World.rowIs.of_block h.rl (b5.block _ (by omega))
  refine ⟨a6, c6, w5, ?_, hrun, RL.at k1 (j := 1) rfl, World.rowIs.frozen k1 1, ?_⟩
  · simp [Instr.buildSlice, Instr.fill, go_sem, T.cells, bkT, blankS, V0, noS]
  · refine ⟨(h.below.trans (b5.mono (by omega))).setCell (p := ⟨w.heap.size + 1, 1, none⟩) (by simp) _, ?_, ?_, k1.set 1 _, ?_⟩
    · have : (w5.setCell ⟨w.heap.size + 1, 1, none⟩ (.slice a6 (k + 1) c6)).heap.size = w5.heap.size := by simp [World.setCell]
      rw [this]
      exact Nat.le_trans h.sz b5.size
    · exact World.rowIs.of_block k0 (heap_setCell_other _ _ _ _ (by simp))
    · have e : (List.replicate (k + 1) bkT).flatMap T.cells = (List.replicate k bkT).flatMap T.cells ++ bkT.cells := by rw [List.replicate_succ', List.flatMap_append]; simp
      rw [e]
      exact own_of_block hown' (fun g hg => heap_setCell_other _ _ _ _ (by have := (hown'.lt g hg).1; simp; omega))
theorem Bk.fin {w u : World} {pr : ByteArray} {k : Nat} {a : Option Addr} {c : Nat} (h : Bk w u pr k a c) : RL ((u.setCell ⟨w.heap.size, 0, none⟩ (.string pr)).setCell ⟨w.heap.size, 1, none⟩ (.slice a k c)) w.heap.size 26 [.string pr, .slice a k c] := (h.r0.set 0 _).set 1 _
theorem Bk.finBelow {w u : World} {pr : ByteArray} {k : Nat} {a : Option Addr} {c : Nat} (h : Bk w u pr k a c) : Below w.heap.size w ((u.setCell ⟨w.heap.size, 0, none⟩ (.string pr)).setCell ⟨w.heap.size, 1, none⟩ (.slice a k c)) := (h.below.setCell (p := ⟨w.heap.size, 0, none⟩) (Nat.le_refl _) _).setCell (p := ⟨w.heap.size, 1, none⟩) (Nat.le_refl _) _
theorem Bk.finLt {w u : World} {pr : ByteArray} {k : Nat} {a : Option Addr} {c : Nat} (h : Bk w u pr k a c) : Lt ((u.setCell ⟨w.heap.size, 0, none⟩ (.string pr)).setCell ⟨w.heap.size, 1, none⟩ (.slice a k c)) (.slice a k c) (List.replicate k bkT) := by
  have o1 : ((u.setCell ⟨w.heap.size, 0, none⟩ (.string pr)).setCell ⟨w.heap.size, 1, none⟩ (.slice a k c)).ownsRow (w.heap.size + 2) 57 4 (.slice a k c) k ((List.replicate k bkT).flatMap T.cells) := own_of_block h.own (fun g hg => by
    have := (h.own.lt g hg).1
    rw [heap_setCell_other _ _ _ _ (by simp; omega), heap_setCell_other _ _ _ _ (by simp; omega)])
  have l1 := ls_own o1
  refine ⟨by rw [List.length_replicate]; exact l1, fun t ht => ?_⟩
  rw [List.eq_of_mem_replicate ht]
  exact bk_wf
set_option maxHeartbeats 6400000 in
set_option maxRecDepth 100000 in
theorem blank_any (l : List XR) (m : List XF) (ra : Option Addr) (rc : Nat) (fa : Option Addr) (fc : Nat) (w : World) (hR : Ls w (.slice ra l.length rc) l.length (l.flatMap XR.cells)) (hF : Ls w (.slice fa m.length fc) m.length (m.flatMap XF.cells)) (hh : ∀ y ∈ l, y.r.hd.length ≤ 1048576) (hv : ∀ f ∈ m, f.vs.length ≤ 1048576) :
    Calls Tryz.prog 11 #[.slice ra l.length rc, .slice fa m.length fc] w fun e w' => ∃ a c, e = .returned (.agg #[.string (bkP l m).n, .slice a (bkP l m).a c]) ∧ Lt w' (.slice a (bkP l m).a c) (List.replicate (bkP l m).a bkT) ∧ Below w.heap.size w w' := by
  obtain ⟨A1, hA1⟩ : ∃ A1, A1 = w.alloc (.cells #[.string ⟨#[]⟩, .slice none 0 0] 26) := ⟨_, rfl⟩
  obtain ⟨W0, hW0⟩ : ∃ W0, W0 = A1.alloc (.cells #[.string ⟨#[112]⟩, .slice none 0 0] 26) := ⟨_, rfl⟩
  have z1 : A1.heap.size = w.heap.size + 1 := by rw [hA1]; simp
  have z2 : W0.heap.size = w.heap.size + 2 := by rw [hW0]; simp [z1]
  have b1 : Below w.heap.size w A1 := by rw [hA1]; exact belowA _
  have b2 : Below A1.heap.size A1 W0 := by rw [hW0]; exact belowA _
  have bw : Below w.heap.size w W0 := b1.trans (b2.mono b1.size)
  have r0 : RL W0 w.heap.size 26 [.string ⟨#[]⟩, .slice none 0 0] := by
    have := rl_new w #[.string ⟨#[]⟩, .slice none 0 0] 26
    rw [← hA1] at this
    exact RL.below this b2
  have r1 : RL W0 (w.heap.size + 1) 26 [.string ⟨#[112]⟩, .slice none 0 0] := by
    have := rl_new A1 #[.string ⟨#[112]⟩, .slice none 0 0] 26
    rw [← hW0, z1] at this
    exact this
  have HBW := Lib.hid bw
  have HR0 := Lib.hid r0
  have HR1 := Lib.hid r1
  have HZ2 := Lib.hid z2
  have g0 := RL.at r1 (j := 0) rfl
  have g1 := World.rowIs.frozen r1 0
  obtain ⟨ra', rc', hv1, _, _, hrat⟩ := ls_range (f := XR.cells) (k := 3) (fun _ => rfl) XR0 hR
  injection hv1 with hv1 _ hv2
  subst hv1 hv2
  obtain ⟨fa', fc', hv1, _, _, hfat⟩ := ls_range (f := XF.cells) (k := 2) (fun _ => rfl) XF0 hF
  injection hv1 with hv1 _ hv2
  subst hv1 hv2
  have hlm := hR.1
  have hmm := hF.1
  unfold maxLen at hlm hmm
  clear hR hF z1 b1 b2 r0 r1 bw
  go_enter Tryz.func11, Tryz.ntmps11
  go_upto_region 2 with fail
  rw [← hA1, ← hW0]
  clear hA1 hW0 z2 A1
  cases l with
  | cons y l =>
    obtain ⟨g, off, rfl, hg, hr⟩ := hrat (by simp)
    have r1 : w.rangeAt g (off + 0 * 3) y.cells := hr 0 (by simp)
    have r2 : W0.rangeAt g (off + 0 * 3) y.cells := range_below r1 HBW.out hg
    have x0 : W0.cell? ⟨g, off, none⟩ = some (.string y.r.pr) := by simpa using r2 0 _ rfl
    have x1 : W0.cell? ⟨g, off + 1, none⟩ = some (.slice y.p.a y.r.hd.length y.p.c) := by simpa using r2 1 _ rfl
    have hne : g ≠ w.heap.size + 1 := by omega
    have hhd : y.r.hd.length ≤ 1048576 := hh y List.mem_cons_self
    have HB0 : Hid (Bk w (W0.setCell ⟨w.heap.size + 1, 0, none⟩ (.string y.r.pr)) y.r.pr 0 none 0) := ⟨HBW.out.setCell (p := ⟨w.heap.size + 1, 0, none⟩) (by simp) _, by simp [World.setCell, HZ2.out], World.rowIs.of_block HR0.out (heap_setCell_other _ _ _ _ (by simp)), HR1.out.set 0 _, World.ownsRow_nil _ _ _ _⟩
    clear hrat hfat hr r1 r2 hh hv
    go_wp2
    go_loopw [7] (fun i wr => ∃ (k : Nat) (a1 : Option Addr) (c1 : Nat), k ≤ y.r.hd.length ∧ i = .int .i64 k ∧ Hid (Bk w wr y.r.pr k a1 c1)) (fun i _ => y.r.hd.length - (intOf i).toNat)
    case atStart => exact ⟨0, none, 0, Nat.zero_le _, rfl, HB0.out⟩
    case round =>
      obtain ⟨k, a1, c1, hk, rfl, HBK⟩ := hrel
      obtain ⟨U, rfl⟩ : ∃ U, U = wr := ⟨_, rfl⟩
      by_cases hlt : k < y.r.hd.length
      · have hlt' : (k : Int) < (y.r.hd.length : Int) := by omega
        obtain ⟨a6, c6, w5, hbs, hrun, hcell, hfr, hbk⟩ := HBK.out.step (by omega)
        have hc1 := HBK.out.c1
        have HB6 := Lib.hid hbk
        clear hbk HBK
        go_wp2
        go_roundw
        case rel => exact ⟨k + 1, a6, c6, by omega, by simp, HB6⟩
        case measure => simp [intOf]; omega
      · obtain rfl : k = y.r.hd.length := by omega
        have hla := load_atomV HBK.out.rl
        have s0 := HBK.out.s0
        have s1 := HBK.out.s1
        have f0 := HBK.out.f0
        have f1 := HBK.out.f1
        have q0 := HBK.out.q0
        have q1 := HBK.out.c1
        go_wp2
        refine bodyPost_ret (rl_results Tryz.results11 (v := .agg #[.string y.r.pr, .slice a1 y.r.hd.length c1]) rfl (load_atomV HBK.out.fin)) rfl ?_
        exact ⟨a1, c1, rfl, HBK.out.finLt, HBK.out.finBelow⟩
  | nil =>
    cases m with
    | cons f m =>
      obtain ⟨g, off, rfl, hg, hr⟩ := hfat (by simp)
      have r1 : w.rangeAt g (off + 0 * 2) f.cells := hr 0 (by simp)
      have r2 : W0.rangeAt g (off + 0 * 2) f.cells := range_below r1 HBW.out hg
      have x0 : W0.cell? ⟨g, off, none⟩ = some (.string f.pr) := by simpa using r2 0 _ rfl
      obtain ⟨va, vc, hvc⟩ : ∃ va vc, f.cells = [.string f.pr, .slice va f.vs.length vc] := ⟨_, _, rfl⟩
      have x1 : W0.cell? ⟨g, off + 1, none⟩ = some (.slice va f.vs.length vc) := by rw [hvc] at r2; simpa using r2 1 _ rfl
      have hne : g ≠ w.heap.size + 1 := by omega
      have hhd : f.vs.length ≤ 1048576 := hv f List.mem_cons_self
      have HB0 : Hid (Bk w (W0.setCell ⟨w.heap.size + 1, 0, none⟩ (.string f.pr)) f.pr 0 none 0) := ⟨HBW.out.setCell (p := ⟨w.heap.size + 1, 0, none⟩) (by simp) _, by simp [World.setCell, HZ2.out], World.rowIs.of_block HR0.out (heap_setCell_other _ _ _ _ (by simp)), HR1.out.set 0 _, World.ownsRow_nil _ _ _ _⟩
      clear hrat hfat hr r1 r2 hh hv hvc
      go_wp2
      go_loopw [7] (fun i wr => ∃ (k : Nat) (a1 : Option Addr) (c1 : Nat), k ≤ f.vs.length ∧ i = .int .i64 k ∧ Hid (Bk w wr f.pr k a1 c1)) (fun i _ => f.vs.length - (intOf i).toNat)
      case atStart => exact ⟨0, none, 0, Nat.zero_le _, rfl, HB0.out⟩
      case round =>
        obtain ⟨k, a1, c1, hk, rfl, HBK⟩ := hrel
        obtain ⟨U, rfl⟩ : ∃ U, U = wr := ⟨_, rfl⟩
        by_cases hlt : k < f.vs.length
        · have hlt' : (k : Int) < (f.vs.length : Int) := by omega
          obtain ⟨a6, c6, w5, hbs, hrun, hcell, hfr, hbk⟩ := HBK.out.step (by omega)
          have hc1 := HBK.out.c1
          have HB6 := Lib.hid hbk
          clear hbk HBK
          go_wp2
          go_roundw
          case rel => exact ⟨k + 1, a6, c6, by omega, by simp, HB6⟩
          case measure => simp [intOf]; omega
        · obtain rfl : k = f.vs.length := by omega
          have hla := load_atomV HBK.out.rl
          have s0 := HBK.out.s0
          have s1 := HBK.out.s1
          have f0 := HBK.out.f0
          have f1 := HBK.out.f1
          have q0 := HBK.out.q0
          have q1 := HBK.out.c1
          go_wp2
          refine bodyPost_ret (rl_results Tryz.results11 (v := .agg #[.string f.pr, .slice a1 f.vs.length c1]) rfl (load_atomV HBK.out.fin)) rfl ?_
          exact ⟨a1, c1, rfl, HBK.out.finLt, HBK.out.finBelow⟩
    | nil =>
      have HB0 : Hid (Bk w W0 ⟨#[112]⟩ 0 none 0) := ⟨HBW.out, by simp [HZ2.out], HR0.out, HR1.out, World.ownsRow_nil _ _ _ _⟩
      clear hrat hfat hh hv
      go_wp2
      go_loopw [7] (fun i wr => ∃ (k : Nat) (a1 : Option Addr) (c1 : Nat), k ≤ 0 ∧ i = .int .i64 k ∧ Hid (Bk w wr ⟨#[112]⟩ k a1 c1)) (fun i _ => 0 - (intOf i).toNat)
      case atStart => exact ⟨0, none, 0, Nat.zero_le _, rfl, HB0.out⟩
      case round =>
        obtain ⟨k, a1, c1, hk, rfl, HBK⟩ := hrel
        obtain ⟨U, rfl⟩ : ∃ U, U = wr := ⟨_, rfl⟩
        obtain rfl : k = 0 := by omega
        have hla := load_atomV HBK.out.rl
        have s0 := HBK.out.s0
        have s1 := HBK.out.s1
        have f0 := HBK.out.f0
        have f1 := HBK.out.f1
        have q0 := HBK.out.q0
        have q1 := HBK.out.c1
        go_wp2
        refine bodyPost_ret (rl_results Tryz.results11 (v := .agg #[.string ⟨#[112]⟩, .slice a1 0 c1]) rfl (load_atomV HBK.out.fin)) rfl ?_
        exact ⟨a1, c1, rfl, HBK.out.finLt, HBK.out.finBelow⟩
end Go.Proofs.YtlnioaokpmeioaaGreatDoor
end
section
namespace Go.Proofs.YtlnioaokpmeioaaGreatDoor
open Go.RowKit Go.Maps
set_option linter.unusedVariables false
set_option linter.unusedSimpArgs false

/-- a part of a list in memory -/
theorem ls_part {w : World} {α : Type} {f : α → List Value} {k : Nat} (hk : 0 < k) (hf : ∀ x, (f x).length = k) (z : α) {g off c : Nat} {l : List α} (h : Ls w (.slice (some ⟨g, off, none⟩) l.length c) l.length (l.flatMap f)) {i j : Nat} (hi : i ≤ j) (hj : j ≤ l.length) (h0 : 0 < l.length) :
    Ls w (.slice (some ⟨g, off + i * k, none⟩) (j - i) (c - i)) ((l.drop i).take (j - i)).length (((l.drop i).take (j - i)).flatMap f) := by
  obtain ⟨a', c', hv, h1, h2, hat⟩ := ls_range (f := f) (k := k) hf z h
  injection hv with hv1 _ hv2
  subst hv1 hv2
  obtain ⟨g', off', ha, hg, hr⟩ := hat h0
  injection ha with ha
  injection ha with ha1 ha2 _
  subst ha1 ha2
  have hl : ((l.drop i).take (j - i)).length = j - i := by rw [List.length_take, List.length_drop]; omega
  have := ls_of_range_off (w := w) (g := g) (off := off + i * k) (c := c - i) (f := f) (k := k) hk hf z (l := (l.drop i).take (j - i)) (by rw [hl]; omega) (by omega) hg (fun t ht => by
    rw [hl] at ht
    have hr' := hr (i + t) (by omega)
    have e : ((l.drop i).take (j - i)).getD t z = l.getD (i + t) z := by
      rw [List.getD_eq_getElem?_getD, List.getD_eq_getElem?_getD, List.getElem?_take_of_lt ht, List.getElem?_drop]
    rw [e, Nat.add_assoc, ← Nat.add_mul]
    exact hr')
  rw [hl] at this ⊢
  exact this
end Go.Proofs.YtlnioaokpmeioaaGreatDoor
end
section
namespace Go.Proofs.YtlnioaokpmeioaaGreatDoor
open Go.RowKit Go.Maps
set_option linter.unusedVariables false
set_option linter.unusedSimpArgs false

theorem ls_nilR (u : World) : Ls u (.slice none 0 0) 0 (([] : List XR).flatMap XR.cells) := ⟨by show 0 ≤ _; omega, none, 0, rfl, Nat.le_refl _, by decide, fun h => absurd h (by omega)⟩
theorem ls_nilF (u : World) : Ls u (.slice none 0 0) 0 (([] : List XF).flatMap XF.cells) := ⟨by show 0 ≤ _; omega, none, 0, rfl, Nat.le_refl _, by decide, fun h => absurd h (by omega)⟩
theorem ls_take {w : World} {α : Type} {f : α → List Value} {k : Nat} (hk : 0 < k) (hf : ∀ x, (f x).length = k) (z : α) {g off c : Nat} {l : List α} (h : Ls w (.slice (some ⟨g, off, none⟩) l.length c) l.length (l.flatMap f)) {j : Nat} (hj : j ≤ l.length) (h0 : 0 < l.length) :
    Ls w (.slice (some ⟨g, off, none⟩) j c) j ((l.take j).flatMap f) := by
  have := ls_part hk hf z h (i := 0) (Nat.zero_le j) hj h0
  rw [List.drop_zero, List.length_take, Nat.sub_zero, Nat.min_eq_left hj, Nat.zero_mul, Nat.add_zero, Nat.sub_zero] at this
  exact this
theorem ls_one {w : World} {α : Type} {f : α → List Value} {k : Nat} (hk : 0 < k) (hf : ∀ x, (f x).length = k) (z : α) {g off c : Nat} {l : List α} (h : Ls w (.slice (some ⟨g, off, none⟩) l.length c) l.length (l.flatMap f)) {j : Nat} {y : α} (hj : l[j]? = some y) :
    Ls w (.slice (some ⟨g, off + j * k, none⟩) 1 (c - j)) 1 ([y].flatMap f) := by
  obtain ⟨h1, h2⟩ := List.getElem?_eq_some_iff.1 hj
  have e : (l.drop j).take (j + 1 - j) = [y] := by
    rw [List.drop_eq_getElem_cons h1, h2, Nat.add_sub_cancel_left]
    rfl
  have := ls_part hk hf z h (i := j) (j := j + 1) (by omega) h1 (by omega)
  rw [e, Nat.add_sub_cancel_left] at this
  exact this
theorem Sb.part {d : Nat} {l t : List XR} {m s : List XF} (h1 : smallS (d + 1) l) (h2 : smallF m) (ht : t.Sublist l) (hs : s.Sublist m) : Sb d l t m s := ⟨fun _ h => ht.subset h, fun _ h => hs.subset h, by
  have := ps_len d t s
  have a1 := ht.length_le
  have a2 := hs.length_le
  have a3 := sub_flat (fun y : XR => termsR (d + 1) y.r) ht
  have b1 := h1.len
  have b2 := h2.len
  have b3 := h1.terms
  omega⟩
theorem one_sub {l : List XR} {j : Nat} {y : XR} (h : l[j]? = some y) : [y].Sublist l := List.singleton_sublist.2 (List.mem_of_getElem? h)
/-- what the law hands to Input and blank: rules and facts that came in, and parts of them -/
structure Inp (d : Nat) (F : R3 → List ByteArray) (l : List XR) (m : List XF) (a : Option Addr) (c : Nat) (a2 : Option Addr) (c2 : Nat) (w : World) : Prop where
  lim : ∀ r, Lim (eqL (d + 1) r.bd) (atN r.bd) (F r)
  R : Lr w (.slice a l.length c) (d + 1) l
  M : Lf w (.slice a2 m.length c2) m
  sS : smallS (d + 1) l
  sF : smallF m
  G : KT w ∧ LX.Gl w
theorem Inp.below {d : Nat} {F : R3 → List ByteArray} {l : List XR} {m : List XF} {a : Option Addr} {c : Nat} {a2 : Option Addr} {c2 : Nat} {w u : World} (h : Inp d F l m a c a2 c2 w) (b : Below w.heap.size w u) : Inp d F l m a c a2 c2 u := ⟨h.lim, h.R.below b, h.M.below b, h.sS, h.sF, h.G.1.below b, h.G.2.below b⟩
theorem Inp.input {d : Nat} {F : R3 → List ByteArray} {l : List XR} {m : List XF} {a : Option Addr} {c : Nat} {a2 : Option Addr} {c2 : Nat} {u : World} (h : Inp d F l m a c a2 c2 u) {t : List XR} {s : List XF} (ht : t.Sublist l) (hs : s.Sublist m) {ra : Option Addr} {rc : Nat} {fa : Option Addr} {fc n1 n2 n3 : Nat} (e1 : t.length = n1) (e2 : s.length = n2) (hr : Ls u (.slice ra n1 rc) n1 (t.flatMap XR.cells)) (hf : Ls u (.slice fa n2 fc) n2 (s.flatMap XF.cells))
    {pr : ByteArray} {ts : List T} {qa : Option Addr} {qc : Nat} (e3 : ts.length = n3) (hpr : pr.size ≤ maxLen) (hlen : n3 ≤ 4398046511104) (hL : Lt u (.slice qa n3 qc) ts) {p1 p2 p3 : Int} (hx : inR (d + 1) F t s pr ts = (p1, p2, p3)) :
    Calls Tryz.prog 9 #[.agg #[.slice ra n1 rc], .slice fa n2 fc, .agg #[.string pr, .slice qa n3 qc]] u fun e w' => e = .returned (.agg #[.int .i8 p1, .int .i64 p2, .int .i64 p3]) ∧ Below u.heap.size u w' := by
  subst e1 e2 e3
  have := inputT h.lim (Sb.part h.sS h.sF ht hs) h.R h.M h.sS h.G (Below.refl _ _) hr hf hpr hlen hL
  rw [hx] at this
  exact this
theorem bkP_small {d : Nat} {l : List XR} {m : List XF} {v v' : Value} {w : World} (hR : Lr w v d l) (hF : Lf w v' m) (hh : ∀ y ∈ l, y.r.hd.length ≤ 1048576) (hv : ∀ f ∈ m, f.vs.length ≤ 1048576) : (bkP l m).n.size ≤ maxLen ∧ (bkP l m).a ≤ 1048576 := by
  cases l with
  | cons y l => exact ⟨(hR.each 0 (by simp)).pb, hh y List.mem_cons_self⟩
  | nil =>
    cases m with
    | cons f m => exact ⟨(hF.each 0 (by simp)).pb, hv f List.mem_cons_self⟩
    | nil => exact ⟨by decide, by decide⟩
theorem Inp.hd {d : Nat} {F : R3 → List ByteArray} {l : List XR} {m : List XF} {a : Option Addr} {c : Nat} {a2 : Option Addr} {c2 : Nat} {u : World} (h : Inp d F l m a c a2 c2 u) {t : List XR} (ht : t.Sublist l) : ∀ y ∈ t, y.r.hd.length ≤ 1048576 := fun y hy => by
  obtain ⟨i, hi, e⟩ := memR (ht.subset hy)
  rw [← e]
  exact (h.sS.each i hi).hd
theorem Inp.vs {d : Nat} {F : R3 → List ByteArray} {l : List XR} {m : List XF} {a : Option Addr} {c : Nat} {a2 : Option Addr} {c2 : Nat} {u : World} (h : Inp d F l m a c a2 c2 u) {s : List XF} (hs : s.Sublist m) : ∀ y ∈ s, y.vs.length ≤ 1048576 := fun y hy => by
  obtain ⟨i, hi, e⟩ := memF (hs.subset hy)
  rw [← e]
  exact h.sF.each i hi
theorem Inp.blank {d : Nat} {F : R3 → List ByteArray} {l : List XR} {m : List XF} {a : Option Addr} {c : Nat} {a2 : Option Addr} {c2 : Nat} {u : World} (h : Inp d F l m a c a2 c2 u) {t : List XR} {s : List XF} (ht : t.Sublist l) (hs : s.Sublist m) {ra : Option Addr} {rc : Nat} {fa : Option Addr} {fc n1 n2 : Nat} (e1 : t.length = n1) (e2 : s.length = n2) (hr : Ls u (.slice ra n1 rc) n1 (t.flatMap XR.cells)) (hf : Ls u (.slice fa n2 fc) n2 (s.flatMap XF.cells)) :
    Calls Tryz.prog 11 #[.slice ra n1 rc, .slice fa n2 fc] u fun e w' => ∃ qa qc, e = .returned (.agg #[.string (bkP t s).n, .slice qa (bkP t s).a qc]) ∧ Lt w' (.slice qa (bkP t s).a qc) (List.replicate (bkP t s).a bkT) ∧ Below u.heap.size u w' := by
  subst e1 e2
  exact blank_any t s ra rc fa fc u hr hf (h.hd ht) (h.vs hs)
theorem Inp.bk {d : Nat} {F : R3 → List ByteArray} {l : List XR} {m : List XF} {a : Option Addr} {c : Nat} {a2 : Option Addr} {c2 : Nat} {u : World} (h : Inp d F l m a c a2 c2 u) {t : List XR} {s : List XF} (ht : t.Sublist l) (hs : s.Sublist m) {v v' : Value} (hr : Ls u v t.length (t.flatMap XR.cells)) (hf : Ls u v' s.length (s.flatMap XF.cells)) : (bkP t s).n.size ≤ maxLen ∧ (bkP t s).a ≤ 4398046511104 := by
  have := bkP_small (lr_sub h.R (Below.refl _ _) (fun _ hy => ht.subset hy) hr) (lf_sub h.M (Below.refl _ _) (fun _ hy => hs.subset hy) hf) (h.hd ht) (h.vs hs)
  exact ⟨this.1, by omega⟩
/-- blank and then Input of it, at any world behind -/
theorem Inp.both {d : Nat} {F : R3 → List ByteArray} {l : List XR} {m : List XF} {a : Option Addr} {c : Nat} {a2 : Option Addr} {c2 : Nat} {u : World} (h : Inp d F l m a c a2 c2 u) {t : List XR} {s : List XF} (ht : t.Sublist l) (hs : s.Sublist m) {ra : Option Addr} {rc : Nat} {fa : Option Addr} {fc n1 n2 : Nat} (e1 : t.length = n1) (e2 : s.length = n2) (hr : Ls u (.slice ra n1 rc) n1 (t.flatMap XR.cells)) (hf : Ls u (.slice fa n2 fc) n2 (s.flatMap XF.cells)) {p1 p2 p3 : Int} (hx : inR (d + 1) F t s (bkP t s).n (List.replicate (bkP t s).a bkT) = (p1, p2, p3)) :
    Calls Tryz.prog 11 #[.slice ra n1 rc, .slice fa n2 fc] u fun e w' => ∃ av, e = .returned av ∧ Below u.heap.size u w' ∧ ∀ u2, Below w'.heap.size w' u2 → Calls Tryz.prog 9 #[.agg #[.slice ra n1 rc], .slice fa n2 fc, av] u2 fun e w'' => e = .returned (.agg #[.int .i8 p1, .int .i64 p2, .int .i64 p3]) ∧ Below u2.heap.size u2 w'' := by
  refine (h.blank ht hs e1 e2 hr hf).mono ?_
  rintro e w' ⟨qa, qc, rfl, hL, b⟩
  refine ⟨_, rfl, b, fun u2 hu => ?_⟩
  have b2 : Below u.heap.size u u2 := b.trans (hu.mono b.size)
  have hbk := h.bk ht hs (v := .slice ra n1 rc) (v' := .slice fa n2 fc) (by rw [e1]; exact hr) (by rw [e2]; exact hf)
  exact (h.below b2).input ht hs e1 e2 (hr.below b2) (hf.below b2) (List.length_replicate) hbk.1 hbk.2 (hL.below hu) hx
end Go.Proofs.YtlnioaokpmeioaaGreatDoor
end
