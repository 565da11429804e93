import Derived.Test.YtfklpedcigdlmaaDoorG36
import Derived.Test.YtfklpedcigdlmaaDoorG26
import Derived.Test.YtfklpedcigdlmaaDoorG29
namespace Go.Proofs.YtfklpedcigdlmaaDoor
open Go.RowKit Go.Maps
set_option linter.unusedVariables false
set_option linter.unusedSimpArgs false
attribute [local go_sem ↓] Go.wp_at_zero Go.wp_at_succ

theorem TwR.set {w : World} {lo d b j : Nat} {v : Value} (hb : b < lo) {r : R3} {p : RP} (h : TwR w lo d r p) : TwR (w.setCell ⟨b, j, none⟩ v) lo d r p := ⟨h.hd.set hb, h.bd.set hb⟩
theorem TwS.set {w : World} {lo d b j : Nat} {v : Value} (hb : b < lo) {l : List XR} {a : Option Addr} {c : Nat} (h : TwS w lo d l a c) : TwS (w.setCell ⟨b, j, none⟩ v) lo d l a c := by
  obtain ⟨g, h2, h3, h4, h5⟩ := h.lies
  have e : (w.setCell ⟨b, j, none⟩ v).heap[g]? = w.heap[g]? := heap_setCell_other _ _ _ _ (by show g ≠ b; omega)
  refine ⟨h.cap, ⟨g, h2, h3, by simpa using h4, World.rowIs.of_block h5 e⟩, fun i hi => (h.each i hi).set hb, fun g' hg' i hi => ?_⟩
  have hgg : g' = g := by
    have := hg'.symm.trans h2
    simpa using this
  exact (h.apart g' hg' i hi).set (by omega)
set_option maxHeartbeats 1600000 in
theorem twinProgram_any (d : Nat) (a : Option Addr) (c : Nat) (l : List XR) (w : World) (hp : PWt w) (hs : l.length ≤ 1048576) (hsm : ∀ i, i < l.length → smallR d (atR l i).r) (hL : Lr w (.slice a l.length c) d l) :
    Calls Tryd.prog 6 #[.agg #[.slice a l.length c]] w fun r w' => ∃ a' l', r = .returned (.agg #[.slice a' l.length (l.length + 1)]) ∧ Below w.heap.size w w' ∧ l'.length = l.length ∧ (∀ i, i < l.length → LikeR (atR l i).r (atR l' i).r) ∧ TwS w' (w.heap.size + 2) d l' a' (l.length + 1) := by
  have BA := (Below.refl w.heap.size w).alloc (Nat.le_refl _) (.cells #[.slice a l.length c] 24)
  have BB := BA.alloc BA.size (.cells #[.slice none 0 0] 24)
  have HR0 : Hid (RL ((w.alloc (.cells #[.slice a l.length c] 24)).alloc (.cells #[.slice none 0 0] 24)) w.heap.size 24 [.slice a l.length c]) := (rl_new w #[.slice a l.length c] 24).below ((Below.refl _ _).alloc (Nat.le_refl _) (.cells #[.slice none 0 0] 24))
  have HR1 : Hid (RL ((w.alloc (.cells #[.slice a l.length c] 24)).alloc (.cells #[.slice none 0 0] 24)) (w.heap.size + 1) 24 [.slice none 0 0]) := by
    have := rl_new (w.alloc (.cells #[.slice a l.length c] 24)) #[.slice none 0 0] 24
    rw [World.size_alloc] at this
    exact this
  have HT : Hid _ := twinRules_any d _ l _ (tab_below hp BB) hs hsm (hL.below BB)
  have HBB : Hid (Below w.heap.size w _) := BB
  clear hp BA BB hL hsm
  go_enter Tryd.func6, Tryd.ntmps6
  go_wp2_with fail
  refine Calls.mono HT.out ?_
  rintro r w1 ⟨a', l', rfl, b1, hl1, hx1, htw⟩
  have HA : Hid (RL w1 w.heap.size 24 [.slice a l.length c]) := RL.below HR0.out b1
  have HB : Hid (RL w1 (w.heap.size + 1) 24 [.slice none 0 0]) := RL.below HR1.out b1
  have HTW : Hid (TwS w1 (w.heap.size + 2) d l' a' (l.length + 1)) := by
    rw [World.size_alloc, World.size_alloc] at htw
    exact htw
  have HB1 : Hid (Below w.heap.size w w1) := HBB.out.trans (b1.mono HBB.out.size)
  have HL1 : Hid _ := hl1
  have HX1 : Hid _ := hx1
  have x0 := HA.out.at (j := 0) rfl
  have g0 := World.rowIs.frozen HA.out 0
  have y0 := HB.out.at (j := 0) rfl
  have f0 := World.rowIs.frozen HB.out 0
  clear b1 htw HR0 HR1 HT HBB hl1 hx1
  go_wp2
  have hF := (RL.other (i := 0) HB.out (by omega : w.heap.size + 1 ≠ w.heap.size) (.slice a' l.length (l.length + 1))).set 0 (.slice a' l.length (l.length + 1))
  refine bodyPost_ret (rl_results Tryd.results6 (v := .agg #[.slice a' l.length (l.length + 1)]) rfl (run_loadVar_mid _ _ 0 24 [.slice a' l.length (l.length + 1)] _ hF.range Tryd.underlying24 rfl (by kernel_rfl))) rfl ⟨a', l', rfl, ?_, HL1.out, HX1.out, ?_⟩
  · exact (HB1.out.setCell (p := ⟨w.heap.size, 0, none⟩) (Nat.le_refl _) _).setCell (p := ⟨w.heap.size + 1, 0, none⟩) (by simp) _
  · exact (HTW.out.set (by omega)).set (by omega)
set_option maxHeartbeats 1600000 in
theorem leftProgram_any (d : Nat) (l l' : List XR) (a a0 : Option Addr) (c c0 lo : Nat) (w : World) (hl' : l'.length = l.length) (hx' : ∀ i, i < l.length → LikeR (atR l i).r (atR l' i).r) (hsm : smallS d l) (hp : PWt w) (hW : TwS w lo d l' a c) (hL : Lr w (.slice a0 l.length c0) d l) :
    Calls Tryd.prog 10 #[.agg #[.slice a l.length c], .agg #[.slice a0 l.length c0]] w fun r w' => r = .returned (.bool true) ∧ Below w.heap.size w w' := by
  have BA := (Below.refl w.heap.size w).alloc (Nat.le_refl _) (.cells #[.slice a l.length c] 24)
  have BB := BA.alloc BA.size (.cells #[.slice a0 l.length c0] 24)
  have HB1 := Lib.hid ((Below.refl _ _).alloc (Nat.le_refl _) (.cells #[.slice a0 l.length c0] 24) : Below (w.alloc (.cells #[.slice a l.length c] 24)).heap.size (w.alloc (.cells #[.slice a l.length c] 24)) _)
  have hA := belowA (w := w) (.cells #[.slice a l.length c] 24)
  have HT : Hid _ := leftRules_any d l l' a a0 c c0 lo _ hl' hx' hsm (tab_below hp BB) ((hW.below hA).below HB1.out) (hL.below BB)
  have HBB : Hid (Below w.heap.size w _) := BB
  clear hp BA BB hL hsm hx' hW hA HB1
  go_enter Tryd.func10, Tryd.ntmps10
  go_wp2_with fail
  refine Calls.mono HT.out ?_
  rintro r w1 ⟨rfl, b1⟩
  have HB1 : Hid (Below w.heap.size w w1) := HBB.out.trans (b1.mono HBB.out.size)
  clear b1 HT HBB
  go_wp2
  go_ret
  exact ⟨rfl, HB1.out⟩
set_option maxHeartbeats 1600000 in
theorem samePreds_same (v v' : Value) (l : List Pd) (w : World) (h1 : Ls w v l.length (l.flatMap Pd.cells)) (h2 : Ls w v' l.length (l.flatMap Pd.cells)) :
    Calls Tryd.prog 9 #[v, v'] w fun r w' => r = .returned (.bool true) ∧ Below w.heap.size w w' := by
  obtain ⟨a, c, rfl, hc1, hc2, hk⟩ := pd_form h1
  obtain ⟨a', c', rfl, hc1', hc2', hk'⟩ := pd_form h2
  have hmax : l.length ≤ maxLen := Nat.le_trans hc1 hc2
  unfold maxLen at hmax
  have HK : Hid _ := hk
  have HK' : Hid _ := hk'
  clear hk hk' h1 h2 hc2 hc2'
  go_enter Tryd.func9, Tryd.ntmps9
  go_wp2
  go_loopw [5] (fun i wr => ∃ k : Nat, k ≤ l.length ∧ i = .int .i64 k ∧ Below w.heap.size w wr) (fun i _ => l.length - (intOf i).toNat)
  case atStart => exact ⟨0, Nat.zero_le _, rfl, Below.refl _ _⟩
  case round =>
    obtain ⟨k, hk, rfl, bel⟩ := hrel
    by_cases hlt : k < l.length
    · have hlt' : (k : Int) < (l.length : Int) := by omega
      obtain ⟨g, off, rfl, hg, hKS⟩ := HK.out (by omega)
      obtain ⟨g', off', rfl, hg', hKS'⟩ := HK'.out (by omega)
      have y0 : wr.cell? ⟨g, off + k * 2, none⟩ = some (.string (atPd l k).n) := by rw [bel.cell (p := ⟨g, off + k * 2, none⟩) hg]; exact (hKS k hlt).1
      have y1 : wr.cell? ⟨g, off + k * 2 + 1, none⟩ = some (.int .i64 ((atPd l k).a : Int)) := by rw [bel.cell (p := ⟨g, off + k * 2 + 1, none⟩) hg]; exact (hKS k hlt).2
      have z0 : wr.cell? ⟨g', off' + k * 2, none⟩ = some (.string (atPd l k).n) := by rw [bel.cell (p := ⟨g', off' + k * 2, none⟩) hg']; exact (hKS' k hlt).1
      have z1 : wr.cell? ⟨g', off' + k * 2 + 1, none⟩ = some (.int .i64 ((atPd l k).a : Int)) := by rw [bel.cell (p := ⟨g', off' + k * 2 + 1, none⟩) hg']; exact (hKS' k hlt).2
      generalize atPd l k = x at y0 y1 z0 z1
      have hQ : (x.n.toList == x.n.toList) = true := by simp
      clear hKS hKS'
      go_wp2_with fail
      go_quiet (fail)
      go_wp2
      go_roundw
      case rel => exact ⟨k + 1, by omega, by go_num, ⟨bel.os, bel.tape, bel.output, bel.size, bel.block⟩⟩
      case measure => simp [intOf]; omega
    · obtain rfl : k = l.length := by omega
      go_wp2
      go_ret
      exact ⟨rfl, bel⟩
end Go.Proofs.YtfklpedcigdlmaaDoor
