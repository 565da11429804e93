import Derived.Test.YtoagnkbmeafmoaaGreatDoorBkX
import Derived.Test.YtoagnkbmeafmoaaGreatDoorSoRefT
import Derived.Test.YtoagnkbmeafmoaaGreatDoorAlive
namespace Go.Proofs.YtoagnkbmeafmoaaGreatDoor
open Go.RowKit Go.Maps
set_option linter.unusedVariables false
set_option linter.unusedSimpArgs false
attribute [local go_sem ↓] Go.wp_at_zero Go.wp_at_succ

structure Gs (w : World) : Prop where
  pw : PWt w
  tab : AR.Tab w
theorem Gs.below {w w' : World} (h : Gs w) (b : Below w.heap.size w w') : Gs w' := ⟨tab_below h.pw b, h.tab.below b⟩
/-- facts (tuples) as they may be, whatever the world -/
structure Okf (l : List XF) : Prop where
  pb : ∀ y ∈ l, y.pr.size ≤ maxLen
  sm : ∀ y ∈ l, y.vs.length ≤ 1048576
  wf : ∀ y ∈ l, ∀ v ∈ y.vs, v.wf
  len : l.length ≤ 1048576
theorem Bun.lf {w : World} {lo hi : Nat} {a : Option Addr} {c : Nat} {l : List XF} (h : Bun 28 2 XF.cells w lo hi a c l) (o : Okf l) : Lf w (.slice a l.length c) l :=
  ⟨ls_own h.own, fun i hi => by
    have hm : atF l i ∈ l := by rw [atF_eq hi]; exact List.getElem_mem hi
    exact ⟨o.pb _ hm, by have := o.sm _ hm; omega, ⟨ls_own (h.each _ hm), o.wf _ hm⟩⟩⟩
theorem Bun.lu {w : World} {lo hi : Nat} {a : Option Addr} {c : Nat} {l : List XF} (h : Bun 26 1 XF.tcells w lo hi a c l) (o : Okf l) (hp : ∀ y ∈ l, y.pr = noS) : Lu w (.slice a l.length c) l :=
  ⟨ls_own h.own, fun y hm => ⟨⟨o.pb _ hm, by have := o.sm _ hm; omega, ⟨ls_own (h.each _ hm), o.wf _ hm⟩⟩, hp y hm⟩⟩
theorem own_nil {w : World} {b : Nat} {e : TypeId} {k n c : Nat} {a : Option Addr} {xs : List Value} (h : w.ownsRow b e k (.slice a n c) n xs) : a = none → n = 0 ∧ c = 0 := fun ha => by
  rcases h.2 with ⟨e1, e2⟩ | ⟨g, cap, cur, e1, _⟩
  · cases e1; exact ⟨rfl, rfl⟩
  · rw [ha] at e1; cases e1
theorem lf_mem {w : World} {v : Value} {l : List XF} (h : Lf w v l) {y : XF} (hy : y ∈ l) : FIs w y := by
  obtain ⟨i, hi, rfl⟩ := List.getElem_of_mem hy
  have := h.each i hi
  rw [atF_eq hi] at this
  exact this
theorem okf_like {w : World} {v : Value} {l l' : List XF} (h : Lf w v l) (hs : smallF l) (hl' : l'.length = l.length) (hx' : ∀ i, i < l.length → LikeF (atF l i) (atF l' i)) : Okf l' := by
  have at' : ∀ y ∈ l', ∃ i, i < l.length ∧ y.pr = (atF l i).pr ∧ y.vs = (atF l i).vs := fun y hy => by
    obtain ⟨i, hi, rfl⟩ := mem_atF hy
    exact ⟨i, by omega, (hx' i (by omega)).pr, (hx' i (by omega)).vs⟩
  refine ⟨fun y hy => ?_, fun y hy => ?_, fun y hy => ?_, by rw [hl']; exact hs.len⟩
  · obtain ⟨i, hi, e1, _⟩ := at' y hy; rw [e1]; exact (h.each i hi).pb
  · obtain ⟨i, hi, _, e2⟩ := at' y hy; rw [e2]; exact hs.each i hi
  · obtain ⟨i, hi, _, e2⟩ := at' y hy; rw [e2]; exact (h.each i hi).vs.wf
theorem like_keys {l l' : List XF} (hl' : l'.length = l.length) (hx' : ∀ i, i < l.length → LikeF (atF l i) (atF l' i)) : l'.map XF.key = l.map XF.key := by
  apply List.ext_getElem
  · simpa using hl'
  · intro i h1 h2
    simp only [List.length_map] at h1 h2
    have := hx' i h2
    rw [atF_eq h1, atF_eq h2] at this
    simp only [List.getElem_map, XF.key, this.pr, this.vs]
def XF.tu (x : XF) : XF := ⟨noS, x.vs, x.a, x.c⟩
theorem atF_tu {l : List XF} {i : Nat} (hi : i < l.length) : atF (l.map XF.tu) i = (atF l i).tu := by
  rw [atF_eq (by simpa using hi), atF_eq hi, List.getElem_map]
/-- value.Facts of a list of its own -/
theorem pfacts {u : World} {lo hi : Nat} {a : Option Addr} {c : Nat} {l : List XF} (h : Bun 28 2 XF.cells u lo hi a c l) (o : Okf l) :
    Calls Tryz.prog 10 #[.slice a l.length c] u fun e w' => ∃ a' c' out, e = .returned (.slice a' out.length c') ∧ Below u.heap.size u w' ∧ Told (l.map XF.key) (out.map XF.key) ∧ Okf out ∧ Bun 28 2 XF.cells w' u.heap.size w'.heap.size a' c' out := by
  refine (vfacts_any (h.lf o) (fun ha => by have := own_nil h.own ha; exact ⟨List.eq_nil_of_length_eq_zero this.1, this.2⟩) o.len o.sm).mono ?_
  rintro e w' ⟨a', c', out, rfl, b, t, lf, B, hB, hE⟩
  refine ⟨a', c', out, rfl, b, t, ⟨fun y hy => (lf_mem lf hy).pb, told_small t (fun i hi => o.sm _ (by rw [atF_eq hi]; exact List.getElem_mem hi)), fun y hy => (lf_mem lf hy).vs.wf, Nat.le_trans (told_len t) o.len⟩, hE.bun hB⟩
theorem ptuples {u : World} {lo hi : Nat} {a : Option Addr} {c : Nat} {l : List XF} (h : Bun 26 1 XF.tcells u lo hi a c l) (o : Okf l) (hp : ∀ y ∈ l, y.pr = noS) :
    Calls Tryz.prog 11 #[.slice a l.length c] u fun e w' => ∃ a' c' out, e = .returned (.slice a' out.length c') ∧ Below u.heap.size u w' ∧ Told (l.map XF.key) (out.map XF.key) ∧ Okf out ∧ (∀ y ∈ out, y.pr = noS) ∧ Bun 26 1 XF.tcells w' u.heap.size w'.heap.size a' c' out := by
  refine (vtuples_any (h.lu o hp) (fun ha => by have := own_nil h.own ha; exact ⟨List.eq_nil_of_length_eq_zero this.1, this.2⟩) o.len o.sm).mono ?_
  rintro e w' ⟨a', c', out, rfl, b, t, lu, B, hB, hE⟩
  refine ⟨a', c', out, rfl, b, t, ⟨fun y hy => (lu.each y hy).1.pb, told_small t (fun i hi => o.sm _ (by rw [atF_eq hi]; exact List.getElem_mem hi)), fun y hy => (lu.each y hy).1.vs.wf, Nat.le_trans (told_len t) o.len⟩, fun y hy => (lu.each y hy).2, hE.bun hB⟩
theorem prfacts {u : World} {a : Option Addr} {c : Nat} {l : List XF} (h : Lf u (.slice a l.length c) l) (hs : l.length ≤ 1048576) (hs2 : ∀ y ∈ l, y.vs.length ≤ 1048576) :
    Calls Tryz.prog 6 #[.slice a l.length c] u fun e w' => ∃ a' c' out, e = .returned (.slice a' out.length c') ∧ Below u.heap.size u w' ∧ Told (l.map XF.key) (out.map XF.key) ∧ Lf w' (.slice a' out.length c') out := by
  refine (rfacts_any l.length l a c u (Nat.le_refl _) h.lies (fun y hy => lf_mem h hy) hs hs2).mono ?_
  rintro e w' ⟨a', c', out, rfl, b, t, ls, fi, _⟩
  exact ⟨a', c', out, rfl, b, t, ls, fun i hi => fi _ (by rw [atF_eq hi]; exact List.getElem_mem hi)⟩
theorem prtuples {u : World} {a : Option Addr} {c : Nat} {l : List XF} (h : Lu u (.slice a l.length c) l) (hs : l.length ≤ 1048576) (hs2 : ∀ y ∈ l, y.vs.length ≤ 1048576) :
    Calls Tryz.prog 7 #[.slice a l.length c] u fun e w' => ∃ a' c' out, e = .returned (.slice a' out.length c') ∧ Below u.heap.size u w' ∧ Told (l.map XF.key) (out.map XF.key) ∧ Lu w' (.slice a' out.length c') out := by
  refine (rtuples_any l.length l a c u (Nat.le_refl _) h.lies (fun y hy => (h.each y hy).1) hs hs2 (fun y hy => (h.each y hy).2)).mono ?_
  rintro e w' ⟨a', c', out, rfl, b, t, ls, fi, _⟩
  exact ⟨a', c', out, rfl, b, t, ls, fun y hy => ⟨fi y hy, told_pr t (fun z hz => (h.each z hz).2) y hy⟩⟩
/-! writing the lists' values over -/
def ov (i k : Nat) : V := ⟨1, 1000 - 7 * (i : Int) + (k : Int), noS⟩
def putV (i k : Nat) (vs : List V) : List V := (List.range k).map (ov i) ++ vs.drop k
theorem putV_len {i k : Nat} {vs : List V} (h : k ≤ vs.length) : (putV i k vs).length = vs.length := by simp [putV]; omega
theorem putV_zero (i : Nat) (vs : List V) : putV i 0 vs = vs := by simp [putV]
/-- behind i whole ones, and k values of the next -/
def updF (i k j : Nat) (y : XF) : XF := ⟨y.pr, if j < i then putV j y.vs.length y.vs else if j = i then putV i (min k y.vs.length) y.vs else y.vs, y.a, y.c⟩
def upd (l : List XF) (i k : Nat) : List XF := l.mapIdx (updF i k)
theorem updF_len (i k j : Nat) (y : XF) : (updF i k j y).vs.length = y.vs.length := by
  unfold updF
  dsimp only
  split
  · exact putV_len (Nat.le_refl _)
  · split
    · exact putV_len (Nat.min_le_right _ _)
    · rfl
theorem upd_len (l : List XF) (i k : Nat) : (upd l i k).length = l.length := by simp [upd]
theorem upd_at {l : List XF} {i k j : Nat} (hj : j < l.length) : atF (upd l i k) j = updF i k j (atF l j) := by
  rw [atF_eq (by rw [upd_len]; exact hj), atF_eq hj]
  simp [upd]
theorem updF_blk (i k j : Nat) (y : XF) : (updF i k j y).blk = y.blk := by unfold XF.blk; rw [updF_len]; rfl
theorem upd_mem {l : List XF} {i k : Nat} {y : XF} (hy : y ∈ upd l i k) : ∃ j, j < l.length ∧ y = updF i k j (atF l j) := by
  obtain ⟨j, hj, e⟩ := mem_atF hy
  rw [upd_len] at hj
  rw [upd_at hj] at e
  exact ⟨j, hj, e.symm⟩
theorem upd_zero (l : List XF) : upd l 0 0 = l := by
  apply List.ext_getElem (by rw [upd_len])
  intro j h1 h2
  have := upd_at (l := l) (i := 0) (k := 0) h2
  rw [atF_eq h1, atF_eq h2] at this
  rw [this]
  unfold updF
  have e : min 0 l[j].vs.length = 0 := Nat.zero_min _
  rw [if_neg (by omega), e]
  split
  · rw [putV_zero]
  · rfl
theorem upd_next {l : List XF} {i : Nat} (hi : i < l.length) : upd l i (atF l i).vs.length = upd l (i + 1) 0 := by
  apply List.ext_getElem (by rw [upd_len, upd_len])
  intro j h1 h2
  rw [upd_len] at h1
  have e1 := upd_at (l := l) (i := i) (k := (atF l i).vs.length) h1
  have e2 := upd_at (l := l) (i := i + 1) (k := 0) h1
  rw [atF_eq (by rw [upd_len]; exact h1)] at e1 e2
  rw [e1, e2]
  unfold updF
  by_cases hj : j < i
  · rw [if_pos hj, if_pos (by omega)]
  · by_cases e : j = i
    · subst e; rw [if_neg hj, if_pos rfl, if_pos (by omega), Nat.min_self]
    · rw [if_neg hj, if_neg e, if_neg (by omega)]
      split
      · rw [Nat.zero_min, putV_zero]
      · rfl
theorem upd_cells (l : List XF) (i k : Nat) (cel : XF → List Value) (hc : ∀ y z : XF, y.pr = z.pr → y.vs.length = z.vs.length → y.a = z.a → y.c = z.c → cel y = cel z) : (upd l i k).flatMap cel = l.flatMap cel := by
  have : (upd l i k).map cel = l.map cel := by
    apply List.ext_getElem (by simp [upd_len])
    intro j h1 h2
    simp only [List.length_map] at h1 h2
    rw [List.getElem_map, List.getElem_map]
    have := upd_at (l := l) (i := i) (k := k) h2
    rw [atF_eq h1, atF_eq h2] at this
    rw [this]
    exact hc _ _ rfl (updF_len _ _ _ _) rfl rfl
  rw [List.flatMap_def, List.flatMap_def, this]
theorem cels_same (y z : XF) (h1 : y.pr = z.pr) (h2 : y.vs.length = z.vs.length) (h3 : y.a = z.a) (h4 : y.c = z.c) : y.cells = z.cells := by unfold XF.cells; rw [h1, h2, h3, h4]
theorem tcels_same (y z : XF) (h1 : y.pr = z.pr) (h2 : y.vs.length = z.vs.length) (h3 : y.a = z.a) (h4 : y.c = z.c) : y.tcells = z.tcells := by unfold XF.tcells XF.tcell; rw [h2, h3, h4]
/-- one value more is written over -/
theorem Bun.put {ty : TypeId} {kk : Nat} {cel : XF → List Value} (hc : ∀ y z : XF, y.pr = z.pr → y.vs.length = z.vs.length → y.a = z.a → y.c = z.c → cel y = cel z) {w : World} {lo hi : Nat} {a : Option Addr} {c : Nat} {l : List XF} {i k g : Nat} (h : Bun ty kk cel w lo hi a c (upd l i k)) (hi' : i < l.length) (hk : k < (atF l i).vs.length) (hg : (atF l i).a = some ⟨g, 0, none⟩) :
    Bun ty kk cel (w.setCells g (k * 3) (ov i k).cells) lo hi a c (upd l i (k + 1)) := by
  have hlen : (upd l i (k + 1)).length = (upd l i k).length := by rw [upd_len, upd_len]
  have hblk : ∀ j, j < l.length → (atF (upd l i (k + 1)) j).blk = (atF (upd l i k) j).blk := fun j hj => by rw [upd_at hj, upd_at hj, updF_blk, updF_blk]
  have hbi : (atF (upd l i k) i).blk = some g := by rw [upd_at hi', updF_blk]; unfold XF.blk; rw [hg]; rfl
  have hmi : atF (upd l i k) i ∈ upd l i k := by rw [atF_eq (by rw [upd_len]; exact hi')]; exact List.getElem_mem _
  have hmj : ∀ j, j < l.length → atF (upd l i k) j ∈ upd l i k := fun j hj => by rw [atF_eq (by rw [upd_len]; exact hj)]; exact List.getElem_mem _
  have hne : ∀ j, j < l.length → j ≠ i → ∀ g', (atF (upd l i k) j).blk = some g' → g' ≠ g := fun j hj hji g' e1 e2 => by
    subst e2
    have hp := List.pairwise_iff_getElem.1 h.nd
    have l1 : j < (upd l i k).length := by rw [upd_len]; exact hj
    have l2 : i < (upd l i k).length := by rw [upd_len]; exact hi'
    rcases Nat.lt_or_gt_of_ne hji with q | q
    · have := hp j i l1 l2 q
      rw [← atF_eq l1, ← atF_eq l2] at this
      exact this g' e1 hbi
    · have := hp i j l2 l1 q
      rw [← atF_eq l1, ← atF_eq l2] at this
      exact this g' hbi e1
  have hsame : ∀ g', g' ≠ g → (w.setCells g (k * 3) (ov i k).cells).heap[g']? = w.heap[g']? := fun g' e => heap_setCells_other e _ _ _
  refine ⟨?_, fun y hy => ?_, fun g' hg' y hy e => ?_, ?_, fun g' hg' => h.lt1 g' (by rw [← hlen]; exact hg'), fun y hy g' hg' => ?_⟩
  · have ho := h.own
    rw [hlen, upd_cells _ _ _ _ hc]
    rw [upd_cells _ _ _ _ hc] at ho
    exact own_of_block ho (fun g' hg' => hsame g' (fun e => by subst e; exact h.dj g' hg' _ hmi hbi))
  · obtain ⟨j, hj, rfl⟩ := upd_mem hy
    have hold := h.each _ (hmj j hj)
    rw [upd_at hj] at hold
    by_cases e : j = i
    · subst e
      have e1 : (updF j k j (atF l j)).vs = (List.range k).map (ov j) ++ (atF l j).vs.drop k := by
        unfold updF
        dsimp only
        rw [if_neg (by omega), if_pos rfl, Nat.min_eq_left (by omega)]
        rfl
      have e2 : (updF j (k + 1) j (atF l j)).vs = (List.range (k + 1)).map (ov j) ++ (atF l j).vs.drop (k + 1) := by
        unfold updF
        dsimp only
        rw [if_neg (by omega), if_pos rfl, Nat.min_eq_left (by omega)]
        rfl
      have e3 : (updF j k j (atF l j)).vs.length = (updF j (k + 1) j (atF l j)).vs.length := by rw [updF_len, updF_len]
      have ea : (updF j k j (atF l j)).a = some ⟨g, 0, none⟩ := hg
      have ea2 : (updF j (k + 1) j (atF l j)).a = some ⟨g, 0, none⟩ := hg
      have ec : (updF j (k + 1) j (atF l j)).c = (updF j k j (atF l j)).c := rfl
      rw [ea, e3] at hold
      rw [ea2, ec]
      have hs : (updF j k j (atF l j)).vs.flatMap V.cells = ((List.range k).map (ov j)).flatMap V.cells ++ ((atF l j).vs.drop k).flatMap V.cells := by rw [e1, List.flatMap_append]
      rw [hs] at hold
      have hlA : (((List.range k).map (ov j)).flatMap V.cells).length = k * 3 := by rw [flat_len V.cells 3 (fun _ => rfl)]; simp
      have hdrop : (atF l j).vs.drop k = (atF l j).vs[k] :: (atF l j).vs.drop (k + 1) := List.drop_eq_getElem_cons hk
      have hn := own_setCells (ov j k).cells _ _ hold (by rw [hdrop, List.flatMap_cons, List.length_append]; show 3 ≤ 3 + _; omega)
      rw [hlA] at hn
      have hd3 : (((atF l j).vs.drop k).flatMap V.cells).drop (ov j k).cells.length = ((atF l j).vs.drop (k + 1)).flatMap V.cells := by
        rw [hdrop, List.flatMap_cons]
        rfl
      rw [hd3] at hn
      have hfin : (updF j (k + 1) j (atF l j)).vs.flatMap V.cells = ((List.range k).map (ov j)).flatMap V.cells ++ (ov j k).cells ++ ((atF l j).vs.drop (k + 1)).flatMap V.cells := by
        rw [e2, List.flatMap_append, List.range_succ, List.map_append, List.flatMap_append]
        simp
      rw [hfin]
      exact hn
    · have e1 : updF i (k + 1) j (atF l j) = updF i k j (atF l j) := by unfold updF; rw [if_neg e, if_neg e]
      rw [e1]
      exact own_of_block hold (fun g' hg' => hsame g' (hne j hj e g' (by rw [upd_at hj]; exact hg')))
  · obtain ⟨j, hj, rfl⟩ := upd_mem hy
    rw [hlen] at hg'
    exact h.dj g' hg' _ (hmj j hj) (by rw [upd_at hj, updF_blk]; rw [updF_blk] at e; exact e)
  · refine pw_at (fun p q hpq hq g' e1 e2 => ?_)
    rw [upd_len] at hq
    have l1 : p < (upd l i k).length := by rw [upd_len]; omega
    have l2 : q < (upd l i k).length := by rw [upd_len]; omega
    have := (List.pairwise_iff_getElem.1 h.nd) p q l1 l2 hpq
    rw [← atF_eq l1, ← atF_eq l2] at this
    exact this g' (by rw [← hblk p (by omega)]; exact e1) (by rw [← hblk q hq]; exact e2)
  · obtain ⟨j, hj, rfl⟩ := upd_mem hy
    exact h.lt2 _ (hmj j hj) g' (by rw [upd_at hj, updF_blk]; rw [updF_blk] at hg'; exact hg')
theorem ov_wf {i k : Nat} (hi : i ≤ 2097152) (hk : k ≤ 2097152) : (ov i k).wf := by
  refine ⟨by show (Lit.int .i8 1).wf = true; decide, ?_, by show noS.size ≤ maxLen; decide⟩
  show (Lit.int .i64 (1000 - 7 * (i : Int) + (k : Int))).wf = true
  have h1 : IntKind.i64.min = -9223372036854775808 := by decide
  have h2 : IntKind.i64.max = 9223372036854775807 := by decide
  show (decide (IntKind.i64.min ≤ _) && decide (_ ≤ IntKind.i64.max)) = true
  rw [h1, h2, Bool.and_eq_true, decide_eq_true_eq, decide_eq_true_eq]
  omega
theorem okf_upd {l : List XF} (o : Okf l) (i k : Nat) : Okf (upd l i k) := by
  refine ⟨fun y hy => ?_, fun y hy => ?_, fun y hy v hv => ?_, by rw [upd_len]; exact o.len⟩
  · obtain ⟨j, hj, rfl⟩ := upd_mem hy
    exact o.pb (atF l j) (by rw [atF_eq hj]; exact List.getElem_mem hj)
  · obtain ⟨j, hj, rfl⟩ := upd_mem hy
    rw [updF_len]
    exact o.sm _ (by rw [atF_eq hj]; exact List.getElem_mem hj)
  · obtain ⟨j, hj, rfl⟩ := upd_mem hy
    have hm : atF l j ∈ l := by rw [atF_eq hj]; exact List.getElem_mem hj
    have h1 := o.sm _ hm
    have h2 := o.len
    have hput : ∀ p q, p ≤ 2097152 → q ≤ (atF l j).vs.length → v ∈ putV p q (atF l j).vs → v.wf := fun p q hp hq hv => by
      rcases List.mem_append.1 hv with r | r
      · obtain ⟨x, hx, rfl⟩ := List.mem_map.1 r
        have := List.mem_range.1 hx
        exact ov_wf hp (by omega)
      · exact o.wf _ hm v (List.mem_of_mem_drop r)
    unfold updF at hv
    dsimp only at hv
    split at hv
    · exact hput j _ (by omega) (Nat.le_refl _) hv
    · split at hv
      · exact hput i _ (by omega) (Nat.min_le_right _ _) hv
      · exact o.wf _ hm v hv
set_option maxHeartbeats 1600000 in
theorem other_any (i k : Nat) (hi : i ≤ 2097152) (hk : k ≤ 2097152) (w : World) : Calls Tryz.prog 14 #[.int .i64 i, .int .i64 k] w fun e w' => e = .returned (.agg #[.int .i8 1, .int .i64 (1000 - 7 * (i : Int) + (k : Int)), .string ⟨#[]⟩]) ∧ Below w.heap.size w w' := by
  have h1 : IntKind.i64.wrap (7 * (i : Int)) = 7 * (i : Int) := by rw [IntKind.wrap_i64]; omega
  have h2 : IntKind.i64.wrap (1000 - 7 * (i : Int)) = 1000 - 7 * (i : Int) := by rw [IntKind.wrap_i64]; omega
  have h3 : IntKind.i64.wrap (1000 - 7 * (i : Int) + (k : Int)) = 1000 - 7 * (i : Int) + (k : Int) := by rw [IntKind.wrap_i64]; omega
  have BA := (Below.refl w.heap.size w).alloc (Nat.le_refl _) (.cells #[.int .i8 0, .int .i64 0, .string ⟨#[]⟩] 69)
  have HR0 := Lib.hid (rl_new w #[.int .i8 0, .int .i64 0, .string ⟨#[]⟩] 69)
  have HN := Lib.hid (AR.num_any (1000 - 7 * (i : Int) + (k : Int)) (w.alloc (.cells #[.int .i8 0, .int .i64 0, .string ⟨#[]⟩] 69)))
  have HBA := Lib.hid BA
  clear BA
  go_enter Tryz.func14, Tryz.ntmps14
  go_wp2_with fail
  refine HN.out.mono ?_
  rintro e w1 ⟨rfl, b1⟩
  have HR := Lib.hid (RL.below HR0.out b1)
  have B1 : Hid (Below w.heap.size w w1) := HBA.out.trans (b1.mono HBA.out.size)
  have x0 := HR.out.at (j := 0) rfl
  have x1 := HR.out.at (j := 1) rfl
  have x2 := HR.out.at (j := 2) rfl
  have f0 := World.rowIs.frozen HR.out 0
  have f1 := World.rowIs.frozen HR.out 1
  have f2 := World.rowIs.frozen HR.out 2
  clear b1 HBA HR0 HN h1 h2 h3
  obtain ⟨M, hM⟩ : ∃ M, M = 1000 - 7 * (i : Int) + (k : Int) := ⟨_, rfl⟩
  have HM := Lib.hid hM
  rw [← hM]
  clear hM
  go_wp2
  refine bodyPost_ret (rl_results Tryz.results14 (v := .agg #[.int .i8 1, .int .i64 M, .string ⟨#[]⟩]) rfl (run_loadVar_mid _ _ 0 69 [.int .i8 1, .int .i64 M, .string ⟨#[]⟩] _ (RL.range (((HR.out.set 0 (.int .i8 1)).set 1 (.int .i64 M)).set 2 (.string ⟨#[]⟩))) Tryz.underlying69 rfl (by kernel_rfl))) rfl ⟨by first | rfl | rw [HM.out], ?_⟩
  exact ((B1.out.setCell (p := ⟨w.heap.size, 0, none⟩) (Nat.le_refl _) _).setCell (p := ⟨w.heap.size, 1, none⟩) (Nat.le_refl _) _).setCell (p := ⟨w.heap.size, 2, none⟩) (Nat.le_refl _) _
end Go.Proofs.YtoagnkbmeafmoaaGreatDoor
