import Derived.Test.YteabclfhmapabaaDoorA31
import Derived.Test.YteabclfhmapabaaDoorA8
import Derived.Deep.Upon
import Derived.OwnWalk
import Derived.Lib.Hide
import Derived.Test.YteabclfhmapabaaDoorA16
section
namespace Go.Proofs.YteabclfhmapabaaDoor
open Go.RowKit Go.Maps
set_option linter.unusedVariables false
set_option linter.unusedSimpArgs false
attribute [local go_sem ↓] Go.wp_at_zero Go.wp_at_succ

def apA (f : T → T) (x : A5) : A5 := ⟨x.g, f x.t⟩
def apX (f : T → T) (d : Nat) (y : XL) : XL := ⟨apL f d y.x, y.p⟩
/-- a list of arguments in a block of its own -/
structure AB (w : World) (hd : List A5) (a : Option Addr) (c : Nat) (bl : List Nat) : Prop where
  c1 : hd.length ≤ c
  c2 : c ≤ maxLen
  wf : ∀ t ∈ hd, t.wf
  lies : (hd = [] ∧ bl = []) ∨ ∃ g, a = some ⟨g, 0, none⟩ ∧ g < w.heap.size ∧ bl = [g] ∧ (∀ j, w.frozen? ⟨g, j, none⟩ = false) ∧ ∀ i, i < hd.length → w.cell? ⟨g, i * 5, none⟩ = some (.int .i8 (atA hd i).g) ∧ TAt w g (i * 5 + 1) (atA hd i).t
theorem AB.keep {w w' : World} {hd : List A5} {a : Option Addr} {c : Nat} {bl : List Nat} (h : AB w hd a c bl) (hs : w.heap.size ≤ w'.heap.size) (hk : ∀ b ∈ bl, w'.heap[b]? = w.heap[b]?) : AB w' hd a c bl := by
  refine ⟨h.c1, h.c2, h.wf, ?_⟩
  rcases h.lies with h1 | ⟨g, ha, hg, hbl, hf, hx⟩
  · exact .inl h1
  · have e := hk g (by rw [hbl]; simp)
    exact .inr ⟨g, ha, Nat.lt_of_lt_of_le hg hs, hbl, fun j => (frozen_block e j).trans (hf j), fun i hi => ⟨(cell_block e _).trans (hx i hi).1, (hx i hi).2.sameC (fun j _ _ => cell_block e j)⟩⟩
theorem AB.lt {w : World} {hd : List A5} {a : Option Addr} {c : Nat} {bl : List Nat} (h : AB w hd a c bl) : ∀ b ∈ bl, b < w.heap.size := fun b hb => by
  rcases h.lies with ⟨_, h1⟩ | ⟨g, ha, hg, hbl, hf, hx⟩
  · rw [h1] at hb; cases hb
  · rw [hbl] at hb
    rw [List.mem_singleton.1 hb]
    exact hg
theorem AB.la {w : World} {hd : List A5} {a : Option Addr} {c : Nat} {bl : List Nat} (h : AB w hd a c bl) : La w (.slice a hd.length c) hd := by
  rcases h.lies with ⟨h1, _⟩ | ⟨g, ha, hg, hbl, hf, hx⟩
  · subst h1
    exact ⟨⟨Nat.zero_le _, a, c, rfl, h.c1, h.c2, fun h0 => absurd h0 (by simp)⟩, h.wf⟩
  · subst ha
    refine ⟨ls_of_range (f := A5.cells) (k := 5) (by omega) (fun _ => rfl) A50 h.c1 h.c2 hg (fun i hi j v hv => ?_), h.wf⟩
    have hx' := hx i hi
    show w.cell? ⟨g, i * 5 + j, none⟩ = some v
    have hj : j < 5 := (List.getElem?_eq_some_iff.1 hv).1
    change (A5.cells (atA hd i))[j]? = some v at hv
    obtain rfl | rfl | rfl | rfl | rfl : j = 0 ∨ j = 1 ∨ j = 2 ∨ j = 3 ∨ j = 4 := by omega
    · simp [A5.cells] at hv; subst hv; exact hx'.1
    · simp [A5.cells] at hv; subst hv; exact hx'.2.c0
    · simp [A5.cells] at hv; subst hv; exact hx'.2.c1
    · simp [A5.cells] at hv; subst hv; exact hx'.2.c2
    · simp [A5.cells] at hv; subst hv; exact hx'.2.c3
theorem atA_map (f : A5 → A5) {l : List A5} {i : Nat} (h : i < l.length) : atA (l.map f) i = f (atA l i) := by
  rw [atA_eq (by simpa using h), atA_eq h, List.getElem_map]
theorem atL_map2 (f : XL → XL) {l : List XL} {i : Nat} (h : i < l.length) : atL (l.map f) i = f (atL l i) := by
  rw [atL_eq (by simpa using h), atL_eq h, List.getElem_map]
/-- what the walk over a head keeps -/
structure Wh (w : World) (g' bm : Nat) (hd : List A5) (s : List P) (k : Nat) (wr : World) : Prop where
  tch : Tch (fun b => b = g') w wr
  map : MapT wr bm s
  gl : g' < wr.heap.size
  fz : ∀ j, wr.frozen? ⟨g', j, none⟩ = false
  agg : ∀ i, i < hd.length → wr.cell? ⟨g', i * 5, none⟩ = some (.int .i8 (atA hd i).g)
  done : ∀ i, i < hd.length → i < k → TAt wr g' (i * 5 + 1) (res s (atA hd i).t)
  rest : ∀ i, i < hd.length → k ≤ i → TAt wr g' (i * 5 + 1) (atA hd i).t
theorem Wh.step {w : World} {g' bm : Nat} {hd : List A5} {s : List P} {k : Nat} {wr w2 : World} (h : Wh w g' bm hd s k wr) (hm : bm ≠ g') (hp : Pt wr g' (k * 5 + 1) (res s (atA hd k).t) w2) : Wh w g' bm hd s (k + 1) w2 := by
  refine ⟨h.tch.trans hp.tch, h.map.of_block (hp.blk _ h.map.lt hm), Nat.lt_of_lt_of_le h.gl hp.size, fun j => (hp.frz j).trans (h.fz j), fun i hi => (hp.oth _ (by omega)).trans (h.agg i hi), fun i hi hik => ?_, fun i hi hik => ?_⟩
  · by_cases e : i = k
    · subst e; exact hp.term
    · exact (h.done i hi (by omega)).sameC (fun j j1 j2 => hp.oth j (.inl (by omega)))
  · exact (h.rest i hi (by omega)).sameC (fun j j1 j2 => hp.oth j (.inr (by omega)))
def cat3 (t : List Nat × List Nat × List Nat) : List Nat := t.1 ++ (t.2.1 ++ t.2.2)
def triAt (l : List (List Nat × List Nat × List Nat)) (i : Nat) : List Nat × List Nat × List Nat := l.getD i ([], [], [])
theorem cat_at (l : List (List Nat × List Nat × List Nat)) (i : Nat) : (l.map cat3).getD i [] = cat3 (triAt l i) := by
  unfold triAt
  rw [List.getD_eq_getElem?_getD, List.getD_eq_getElem?_getD, List.getElem?_map]
  cases l[i]? with
  | none => rfl
  | some x => rfl
/-- a list of literals in a block of its own, their lists in others -/
structure BB (w : World) (d : Nat) (bd : List XL) (a : Option Addr) (c : Nat) (bl : List Nat) : Prop where
  c1 : bd.length ≤ c
  c2 : c ≤ maxLen
  lies : (bd = [] ∧ bl = []) ∨ ∃ g ls, a = some ⟨g, 0, none⟩ ∧ g < w.heap.size ∧ bl = g :: (ls.map cat3).flatten ∧ ls.length = bd.length ∧ bl.Nodup ∧ (∀ j, w.frozen? ⟨g, j, none⟩ = false) ∧
    ∀ i, i < bd.length → LAt w g (i * 16) (atL bd i).x (atL bd i).p ∧ LB w d (atL bd i).x (atL bd i).p (triAt ls i).1 (triAt ls i).2.1 (triAt ls i).2.2
theorem LAt.sameC {w w' : World} {g o : Nat} {x : Lit4} {p : LP} (h : LAt w g o x p) (e : ∀ j, o ≤ j → j < o + 16 → w'.cell? ⟨g, j, none⟩ = w.cell? ⟨g, j, none⟩) : LAt w' g o x p :=
  ⟨(e _ (by omega) (by omega)).trans h.k, (e _ (by omega) (by omega)).trans h.pr, (e _ (by omega) (by omega)).trans h.ts, (e _ (by omega) (by omega)).trans h.rel, h.l.sameC (fun j _ _ => e j (by omega) (by omega)), h.r.sameC (fun j _ _ => e j (by omega) (by omega))⟩
theorem BB.lb {w : World} {d : Nat} {bd : List XL} {a : Option Addr} {c : Nat} {bl : List Nat} (h : BB w d bd a c bl) : Lb w (.slice a bd.length c) d bd := by
  rcases h.lies with ⟨h1, _⟩ | ⟨g, ls, ha, hg, hbl, hl, hnd, hf, hx⟩
  · subst h1
    exact ⟨⟨Nat.zero_le _, a, c, rfl, h.c1, h.c2, fun h0 => absurd h0 (by simp)⟩, fun y hy => by cases hy⟩
  · subst ha
    refine ⟨ls_of_range (f := XL.cells) (k := 16) (by omega) (fun _ => rfl) XL0 h.c1 h.c2 hg (fun i hi j v hv => ?_), fun y hy => ?_⟩
    · obtain ⟨hx', _⟩ := hx i hi
      show w.cell? ⟨g, i * 16 + j, none⟩ = some v
      have hj : j < 16 := (List.getElem?_eq_some_iff.1 hv).1
      change (XL.cells (atL bd i))[j]? = some v at hv
      obtain rfl | rfl | rfl | rfl | rfl | rfl | rfl | rfl | rfl | rfl | rfl | rfl | rfl | rfl | rfl | rfl : j = 0 ∨ j = 1 ∨ j = 2 ∨ j = 3 ∨ j = 4 ∨ j = 5 ∨ j = 6 ∨ j = 7 ∨ j = 8 ∨ j = 9 ∨ j = 10 ∨ j = 11 ∨ j = 12 ∨ j = 13 ∨ j = 14 ∨ j = 15 := by omega
      all_goals
        simp [XL.cells] at hv
        subst hv
        first | exact hx'.k | exact hx'.pr | exact hx'.ts | exact hx'.rel | exact hx'.l.c0 | exact hx'.l.c1 | exact hx'.l.c2 | exact hx'.l.c3 | exact hx'.l.c4 | exact hx'.l.c5 | exact hx'.r.c0 | exact hx'.r.c1 | exact hx'.r.c2 | exact hx'.r.c3 | exact hx'.r.c4 | exact hx'.r.c5
    · obtain ⟨i, hi, rfl⟩ := List.mem_iff_getElem.1 hy
      have := (hx i hi).2.is
      rw [atL_eq hi] at this
      exact this
/-- what the walk over a body keeps -/
structure Wb (w : World) (g' bm d : Nat) (bd : List XL) (ls : List (List Nat × List Nat × List Nat)) (s : List P) (k : Nat) (wr : World) : Prop where
  tch : Tch (fun b => b ∈ g' :: (ls.map cat3).flatten) w wr
  map : MapT wr bm s
  gl : g' < wr.heap.size
  fz : ∀ j, wr.frozen? ⟨g', j, none⟩ = false
  done : ∀ i, i < bd.length → i < k → LAt wr g' (i * 16) (apL (res s) d (atL bd i).x) (atL bd i).p ∧ LB wr d (apL (res s) d (atL bd i).x) (atL bd i).p (triAt ls i).1 (triAt ls i).2.1 (triAt ls i).2.2
  rest : ∀ i, i < bd.length → k ≤ i → LAt wr g' (i * 16) (atL bd i).x (atL bd i).p ∧ LB wr d (atL bd i).x (atL bd i).p (triAt ls i).1 (triAt ls i).2.1 (triAt ls i).2.2
theorem Wb.step {w : World} {g' bm d : Nat} {bd : List XL} {ls : List (List Nat × List Nat × List Nat)} {s : List P} {k : Nat} {wr w2 : World} (h : Wb w g' bm d bd ls s k wr) (hk : k < bd.length) (hl : ls.length = bd.length) (nd : (g' :: (ls.map cat3).flatten).Nodup) (hm : bm ∉ g' :: (ls.map cat3).flatten)
    (hx : Wq wr g' (k * 16) d (atL bd k).x (atL bd k).p (triAt ls k).1 (triAt ls k).2.1 (triAt ls k).2.2 s w2) : Wb w g' bm d bd ls s (k + 1) w2 := by
  have hll : (ls.map cat3).length = bd.length := by rw [List.length_map]; exact hl
  have hsub : ∀ b, (b = g' ∨ b ∈ cat3 (triAt ls k)) → b ∈ g' :: (ls.map cat3).flatten := fun b hb => by
    rcases hb with rfl | hb
    · simp
    · exact List.mem_cons_of_mem _ (flat_mem (i := k) (by omega) (by rw [cat_at]; exact hb))
  have hnd := List.nodup_cons.1 nd
  have hkb : ∀ i, i < bd.length → i ≠ k → ∀ b, b ∈ cat3 (triAt ls i) → b < wr.heap.size → w2.heap[b]? = wr.heap[b]? := fun i hi hn b hb hbl => hx.tch.block b hbl (fun q => by
    rcases q with q | q
    · exact hnd.1 (by rw [← q]; exact flat_mem (i := i) (by omega) (by rw [cat_at]; exact hb))
    · exact flat_disj hnd.2 (i := i) (k := k) (by omega) (by omega) hn (by rw [cat_at]; exact hb) (by rw [cat_at]; exact q))
  refine ⟨h.tch.trans (hx.tch.mono (fun b hb => hsub b hb)), h.map.tch hx.tch (fun q => hm (hsub bm q)), Nat.lt_of_lt_of_le h.gl hx.tch.size, hx.frz, fun i hi hik => ?_, fun i hi hik => ?_⟩
  · by_cases e1 : i = k
    · subst e1
      exact ⟨hx.lat, hx.lb⟩
    · obtain ⟨y1, y2⟩ := h.done i hi (by omega)
      exact ⟨y1.sameC (fun j j1 j2 => hx.oth j (.inl (by omega))), y2.keep hx.tch.size (fun b hb => hkb i hi e1 b hb (y2.lt b hb))⟩
  · obtain ⟨y1, y2⟩ := h.rest i hi (by omega)
    exact ⟨y1.sameC (fun j j1 j2 => hx.oth j (.inr (by omega))), y2.keep hx.tch.size (fun b hb => hkb i hi (by omega) b hb (y2.lt b hb))⟩
end Go.Proofs.YteabclfhmapabaaDoor
end
section
namespace Go.Proofs.YteabclfhmapabaaDoor
open Go.RowKit Go.Maps
set_option linter.unusedVariables false
set_option linter.unusedSimpArgs false
attribute [local go_sem ↓] Go.wp_at_zero Go.wp_at_succ

theorem apA_wf {s : List P} (hs : ∀ p ∈ s, p.wf) {x : A5} (h : x.wf) : (apA (res s) x).wf := ⟨h.gb, res_wf hs h.t⟩
theorem BB.keep {w w' : World} {d : Nat} {bd : List XL} {a : Option Addr} {c : Nat} {bl : List Nat} (h : BB w d bd a c bl) (hs : w.heap.size ≤ w'.heap.size) (hk : ∀ b ∈ bl, w'.heap[b]? = w.heap[b]?) : BB w' d bd a c bl := by
  refine ⟨h.c1, h.c2, ?_⟩
  rcases h.lies with h1 | ⟨g, ls, ha, hg, hbl, hl, hnd, hf, hx⟩
  · exact .inl h1
  · subst hbl
    have e := hk g (by simp)
    refine .inr ⟨g, ls, ha, Nat.lt_of_lt_of_le hg hs, rfl, hl, hnd, fun j => (frozen_block e j).trans (hf j), fun i hi => ⟨(hx i hi).1.sameC (fun j _ _ => cell_block e j), (hx i hi).2.keep hs (fun b hb => hk b (List.mem_cons_of_mem _ (flat_mem (i := i) (by rw [List.length_map]; omega) (by rw [cat_at]; exact hb))))⟩⟩
theorem BB.lt {w : World} {d : Nat} {bd : List XL} {a : Option Addr} {c : Nat} {bl : List Nat} (h : BB w d bd a c bl) : ∀ b ∈ bl, b < w.heap.size := fun b hb => by
  rcases h.lies with ⟨_, h1⟩ | ⟨g, ls, ha, hg, hbl, hl, hnd, hf, hx⟩
  · rw [h1] at hb; cases hb
  · subst hbl
    rcases List.mem_cons.1 hb with rfl | hb
    · exact hg
    · obtain ⟨l, hl1, hl2⟩ := List.mem_flatten.1 hb
      obtain ⟨i, hi, rfl⟩ := List.mem_iff_getElem.1 hl1
      have hi' : i < bd.length := by rw [List.length_map] at hi; omega
      refine (hx i hi').2.lt b ?_
      have e := cat_at ls i
      rw [List.getD_eq_getElem?_getD, List.getElem?_eq_getElem hi] at e
      have e' : (ls.map cat3)[i] = cat3 (triAt ls i) := e
      rw [e'] at hl2
      exact hl2
set_option maxHeartbeats 3200000 in
set_option maxRecDepth 100000 in
theorem walkRuleP {bm : Nat} {s : List P} (nd : (s.map P.v).Nodup) (hs : ∀ p ∈ s, p.wf) (d : Nat) (w : World) (hd : List A5) (bd : List XL) (a : Option Addr) (c : Nat) (ba : Option Addr) (bc b : Nat) (l1 l2 : List Nat) (hm : MapT w bm s) (h1 : w.cell? ⟨b, 1, none⟩ = some (.slice a hd.length c)) (h2 : w.cell? ⟨b, 2, none⟩ = some (.slice ba bd.length bc)) (hA : AB w hd a c l1) (hB : BB w d bd ba bc l2) (hnd : (l1 ++ l2).Nodup) (hb : b ∉ l1 ++ l2) (hmb : bm ∉ l1 ++ l2) (hn1 : hd.length ≤ 281474976710656) (hn2 : bd.length ≤ 281474976710656) :
    Calls Tryd.prog 29 #[.iface 91 (.pointer (some ⟨b, 0, none⟩)), putF bm] w fun e w' => (∃ u, e = .returned u) ∧ Tch (fun q => q ∈ l1 ++ l2) w w' ∧ AB w' (hd.map (apA (res s))) a c l1 ∧ BB w' d (bd.map (apX (res s) d)) ba bc l2 := by
  have hbl : b < w.heap.size := World.block_lt_of_cell? _ _ h1
  have hdj : ∀ q, q ∈ l1 → q ∉ l2 := fun q h h' => (List.nodup_append.1 hnd).2.2 q h q h' rfl
  have b1 : b ∉ l1 := fun h => hb (by simp [h])
  have b2 : b ∉ l2 := fun h => hb (by simp [h])
  have m1 : bm ∉ l1 := fun h => hmb (by simp [h])
  have m2 : bm ∉ l2 := fun h => hmb (by simp [h])
  have t1 := ruRule (.pointer (some ⟨b, 0, none⟩))
  have HCC : Hid (∀ u, Tch (fun q => q ∈ l1 ++ l2) w u → u.cell? ⟨b, 1, none⟩ = some (.slice a hd.length c) ∧ u.cell? ⟨b, 2, none⟩ = some (.slice ba bd.length bc)) := fun u t => by
    have e := t.block b hbl hb
    exact ⟨(cell_block e 1).trans h1, (cell_block e 2).trans h2⟩
  obtain ⟨gh, HG, HW0⟩ : ∃ gh, Hid (0 < hd.length → a = some ⟨gh, 0, none⟩ ∧ l1 = [gh]) ∧ Hid (0 < hd.length → Wh w gh bm hd s 0 w) := by
    rcases hA.lies with ⟨h0, _⟩ | ⟨g, ha, hg, hbl, hf, hx⟩
    · exact ⟨0, fun h => by rw [h0] at h; simp at h, fun h => by rw [h0] at h; simp at h⟩
    · exact ⟨g, fun _ => ⟨ha, hbl⟩, fun _ => ⟨Tch.refl _ _, hm, hg, hf, fun i hi => (hx i hi).1, fun i _ h => absurd h (by omega), fun i hi _ => (hx i hi).2⟩⟩
  have HPU : Hid (∀ k wr, k < hd.length → Wh w gh bm hd s k wr → Calls Tryd.prog 31 #[.map (some bm), .pointer (some ⟨gh, k * 5 + 1, none⟩)] wr fun e w' => (∃ u, e = .returned u) ∧ Wh w gh bm hd s (k + 1) w') := fun k wr hk ha => by
    have hmg : bm ≠ gh := fun e => m1 (by rw [(HG.out (by omega)).2, e]; simp)
    exact (putAt_any ha.map nd (ha.rest k hk (Nat.le_refl _)) (fun i _ => ha.fz _) (hA.wf _ (by rw [atA_eq hk]; exact List.getElem_mem _)).t).mono (fun e w' h => ⟨h.1, ha.step hmg h.2⟩)
  have HHT : Hid (∀ k wr, 0 < hd.length → Wh w gh bm hd s k wr → Tch (fun q => q ∈ l1) w wr) := fun k wr h0 hw => hw.tch.mono (fun q hq => by rw [(HG.out h0).2, hq]; simp)
  have HA2 : Hid (∀ wr, (hd.length = 0 → wr = w) → (0 < hd.length → Wh w gh bm hd s hd.length wr) → AB wr (hd.map (apA (res s))) a c l1) := fun wr he hw => by
    by_cases h0 : 0 < hd.length
    · obtain ⟨ha, hl⟩ := HG.out h0
      have hW := hw h0
      refine ⟨by rw [List.length_map]; exact hA.c1, hA.c2, fun x hx => by obtain ⟨y, hy, rfl⟩ := List.mem_map.1 hx; exact apA_wf hs (hA.wf y hy), .inr ⟨gh, ha, hW.gl, hl, hW.fz, fun i hi => ?_⟩⟩
      rw [List.length_map] at hi
      rw [atA_map _ hi]
      exact ⟨hW.agg i hi, hW.done i hi hi⟩
    · have e0 : hd = [] := List.length_eq_zero_iff.1 (by omega)
      rw [he (by omega)]
      subst e0
      exact hA
  have HBK : Hid (∀ wr, Tch (fun q => q ∈ l1) w wr → BB wr d bd ba bc l2) := fun wr t => hB.keep t.size (fun q hq => t.block q (hB.lt q hq) (fun h => hdj q h hq))
  have HAK : Hid (∀ W2 wr, AB W2 (hd.map (apA (res s))) a c l1 → Tch (fun q => q ∈ l2) W2 wr → AB wr (hd.map (apA (res s))) a c l1) := fun W2 wr h t => h.keep t.size (fun q hq => t.block q (h.lt q hq) (fun h' => hdj q hq h'))
  have HM0 := Lib.hid hm
  have HND : Hid ((s.map P.v).Nodup ∧ (∀ p ∈ s, p.wf)) := ⟨nd, hs⟩
  have HMB := Lib.hid m2
  obtain ⟨x1, x2⟩ := HCC.out w (Tch.refl _ _)
  clear hA hB hm nd hs hnd hb hmb hdj b1 b2 m1 m2 h1 h2 hbl
  unfold putF
  go_enter Tryd.func29, Tryd.ntmps29
  go_wp2
  clear x1 x2 t1
  go_loopw [21] (fun i wr => ∃ k : Nat, k ≤ hd.length ∧ i = .int .i64 k ∧ Hid (Tch (fun q => q ∈ l1) w wr ∧ MapT wr bm s ∧ (hd.length = 0 → wr = w) ∧ (0 < hd.length → Wh w gh bm hd s k wr))) (fun i _ => hd.length - (intOf i).toNat)
  case atStart => exact ⟨0, Nat.zero_le _, rfl, Tch.refl _ _, HM0.out, fun _ => rfl, HW0.out⟩
  case round =>
    clear HW0 HM0
    obtain ⟨k, hk, rfl, HI⟩ := hrel
    obtain ⟨x1, x2⟩ := HCC.out wr (HI.out.1.mono (fun q hq => by simp [hq]))
    by_cases hlt : k < hd.length
    · have hlt' : (k : Int) < (hd.length : Int) := by omega
      have hk0 : (0 : Int) ≤ (k : Int) := by omega
      obtain rfl : a = some ⟨gh, 0, none⟩ := (HG.out (by omega)).1
      have HP := Lib.hid (HPU.out k wr hlt (HI.out.2.2.2 (by omega)))
      go_wp2_with fail
      refine Calls.mono HP.out ?_
      rintro e w2 ⟨⟨u, rfl⟩, hw2⟩
      have HI2 : Hid (Tch (fun q => q ∈ l1) w w2 ∧ MapT w2 bm s ∧ (hd.length = 0 → w2 = w) ∧ (0 < hd.length → Wh w gh bm hd s (k + 1) w2)) := ⟨HHT.out _ _ (by omega) hw2, hw2.map, fun h => absurd h (by omega), fun _ => hw2⟩
      clear hw2 HP HI x1 x2
      go_wp2
      go_roundw
      case rel => exact ⟨k + 1, by omega, by go_num, HI2⟩
      case measure => simp [intOf]; omega
    · obtain rfl : k = hd.length := by omega
      have HT1 := Lib.hid HI.out.1
      have HMP := Lib.hid HI.out.2.1
      have HAB := Lib.hid (HA2.out wr HI.out.2.2.1 HI.out.2.2.2)
      have hbb := HBK.out wr HI.out.1
      obtain ⟨W2, rfl⟩ : ∃ W2, W2 = wr := ⟨_, rfl⟩
      obtain ⟨gb, ls, HGB, HWB0⟩ : ∃ gb ls, Hid (0 < bd.length → ba = some ⟨gb, 0, none⟩ ∧ l2 = gb :: (ls.map cat3).flatten ∧ ls.length = bd.length ∧ (gb :: (ls.map cat3).flatten).Nodup) ∧ Hid (0 < bd.length → Wb W2 gb bm d bd ls s 0 W2) := by
        rcases hbb.lies with ⟨h0, _⟩ | ⟨g, ls, ha, hg, hbl, hl, hnd, hf, hx⟩
        · exact ⟨0, [], fun h => by rw [h0] at h; simp at h, fun h => by rw [h0] at h; simp at h⟩
        · exact ⟨g, ls, fun _ => ⟨ha, hbl, hl, by rw [← hbl]; exact hnd⟩, fun _ => ⟨Tch.refl _ _, HMP.out, hg, hf, fun i _ h => absurd h (by omega), fun i hi _ => hx i hi⟩⟩
      have HBB := Lib.hid hbb
      have HBU : Hid (∀ k wr, k < bd.length → Wb W2 gb bm d bd ls s k wr → Calls Tryd.prog 29 #[.iface 118 (.pointer (some ⟨gb, k * 16, none⟩)), putF bm] wr fun e w' => (∃ u, e = .returned u) ∧ Wb W2 gb bm d bd ls s (k + 1) w') := fun k wr hk hw => by
        obtain ⟨_, hl2, hll, hnd⟩ := HGB.out (by omega)
        have hm2 : bm ∉ gb :: (ls.map cat3).flatten := by rw [← hl2]; exact HMB.out
        obtain ⟨y1, y2⟩ := hw.rest k hk (Nat.le_refl _)
        have hin : ∀ q, q ∈ cat3 (triAt ls k) → q ∈ (ls.map cat3).flatten := fun q hq => flat_mem (i := k) (by rw [List.length_map]; omega) (by rw [cat_at]; exact hq)
        refine (walkLiteralP HND.out.1 HND.out.2 d wr _ _ gb (k * 16) _ _ _ hw.map y1 hw.fz y2 (fun q => (List.nodup_cons.1 hnd).1 (hin _ q)) (fun q => hm2 (List.mem_cons_of_mem _ (hin _ q))) (fun q => hm2 (by rw [q]; simp))).mono (fun e w' h => ⟨h.1, hw.step hk hll hnd hm2 h.2⟩)
      unfold putF at HBU
      clear HI hbb HPU HHT HA2 HBK HG
      go_wp2
      clear x1 x2
      go_loopw [39] (fun i wr => ∃ k : Nat, k ≤ bd.length ∧ i = .int .i64 k ∧ Hid (Tch (fun q => q ∈ l2) W2 wr ∧ (bd.length = 0 → wr = W2) ∧ (0 < bd.length → Wb W2 gb bm d bd ls s k wr))) (fun i _ => bd.length - (intOf i).toNat)
      case atStart => exact ⟨0, Nat.zero_le _, rfl, Tch.refl _ _, fun _ => rfl, HWB0.out⟩
      case round =>
        clear HWB0
        obtain ⟨k, hk, rfl, HI⟩ := hrel
        have HTT : Hid (Tch (fun q => q ∈ l1 ++ l2) w wr) := (HT1.out.mono (fun q hq => by simp [hq])).trans (HI.out.1.mono (fun q hq => by simp [hq]))
        obtain ⟨x1, x2⟩ := HCC.out wr HTT.out
        by_cases hlt : k < bd.length
        · have hlt' : (k : Int) < (bd.length : Int) := by omega
          have hk0 : (0 : Int) ≤ (k : Int) := by omega
          obtain rfl : ba = some ⟨gb, 0, none⟩ := (HGB.out (by omega)).1
          have HP := Lib.hid (HBU.out k wr hlt (HI.out.2.2 (by omega)))
          go_wp2_with fail
          refine Calls.mono HP.out ?_
          rintro e w2 ⟨⟨u, rfl⟩, hw2⟩
          have HI2 : Hid (Tch (fun q => q ∈ l2) W2 w2 ∧ (bd.length = 0 → w2 = W2) ∧ (0 < bd.length → Wb W2 gb bm d bd ls s (k + 1) w2)) := ⟨hw2.tch.mono (fun q hq => by rw [(HGB.out (by omega)).2.1]; exact hq), fun h => absurd h (by omega), fun _ => hw2⟩
          clear hw2 HP HI x1 x2 HTT
          go_wp2
          go_roundw
          case rel => exact ⟨k + 1, by omega, by go_num, HI2⟩
          case measure => simp [intOf]; omega
        · obtain rfl : k = bd.length := by omega
          have HFIN : Hid (BB wr d (bd.map (apX (res s) d)) ba bc l2) := by
            show BB _ _ _ _ _ _
            by_cases h0 : 0 < bd.length
            · obtain ⟨ha, hl2, hll, hnd⟩ := HGB.out h0
              have hW := HI.out.2.2 h0
              refine ⟨by rw [List.length_map]; exact HBB.out.c1, HBB.out.c2, .inr ⟨gb, ls, ha, hW.gl, hl2, by rw [List.length_map]; exact hll, by rw [hl2]; exact hnd, hW.fz, fun i hi => ?_⟩⟩
              rw [List.length_map] at hi
              rw [atL_map2 _ hi]
              exact hW.done i hi hi
            · have e0 : bd = [] := List.length_eq_zero_iff.1 (by omega)
              rw [HI.out.2.1 (by omega)]
              have := HBB.out
              subst e0
              exact this
          have HAF := Lib.hid (HAK.out W2 wr HAB.out HI.out.1)
          go_wp2
          go_end0
          exact ⟨⟨_, rfl⟩, HTT.out, HAF.out, HFIN.out⟩
end Go.Proofs.YteabclfhmapabaaDoor
end
section
namespace Go.Proofs.YteabclfhmapabaaDoor
open Go.RowKit Go.Maps
set_option linter.unusedVariables false
set_option linter.unusedSimpArgs false
attribute [local go_sem ↓] Go.wp_at_zero Go.wp_at_succ

theorem infoCTerm : (Tryd.prog.info? 51).map (fun i => (i.zero, i.size, i.bytes)) = some (some (.agg #[.string ⟨#[]⟩, .int .i8 0, .int .i64 0, .string ⟨#[]⟩]), 4, 48) := by kernel_rfl
theorem nilCTerm (n c : Nat) (w : World) : (binOp .eql 42 (.slice none n c) (.slice none 0 0)).run Tryd.prog w = .ok (.bool true) w := by kernel_rfl
theorem nonCTerm (ad : Addr) (n c : Nat) (w : World) : (binOp .eql 42 (.slice (some ad) n c) (.slice none 0 0)).run Tryd.prog w = .ok (.bool false) w := by kernel_rfl
set_option maxHeartbeats 800000 in
set_option maxRecDepth 100000 in
theorem cloneTerm (v : Value) (n : Nat) (ys : List Value) (w : World) (hl : Ls w v n ys) (hly : ys.length = n * 4) (h1 : ∀ u ∈ ys, u.oneCell' = true) (hn : n ≤ 1048576) : Calls Tryd.prog 52 #[v] w fun e w' => ∃ sv, e = .returned sv ∧ w'.ownsRow w.heap.size 51 4 sv n ys ∧ Below w.heap.size w w' := by
  obtain ⟨i0, hi0, hz0, hz1, hz2⟩ := info_parts infoCTerm
  have HL := Lib.hid hl
  obtain ⟨_, a, c, rfl, hc1, hc2, hat⟩ := hl
  have H1 := Lib.hid h1
  clear h1
  cases a with
  | none =>
    have h0 : n = 0 := by
      by_cases h : n = 0
      · exact h
      · obtain ⟨g, off, e, _⟩ := hat (by omega)
        cases e
    subst h0
    obtain rfl : ys = [] := List.length_eq_zero_iff.1 (by rw [hly])
    have hne := nilCTerm 0 c w
    clear hat HL
    go_enter Tryd.func52, Tryd.ntmps52
    go_wp2
    go_ret
    exact ⟨_, rfl, World.ownsRow_nil _ _ _ _, Below.refl _ _⟩
  | some ad =>
    have hne := nonCTerm ad n c w
    have HAL : Hid (∀ o, Below w.heap.size w (w.alloc o)) := fun o => (Below.refl _ _).alloc (Nat.le_refl _) o
    clear hat
    go_enter Tryd.func52, Tryd.ntmps52
    go_wp2_with (at_builtin; refine wpList_appL rfl (.tmp 5) (.tmp 6) 42 51 rfl Tryd.underlying42 hi0 hz0 hz1 hz2 rfl (by decide) (b := w.heap.size) (v := .slice (some ⟨w.heap.size, 0, none⟩) 0 0) (n := 0) (xs := []) (a := some ad) (c := c) (m := n) (ys := ys) (by simp [Act.eval, Act.put]) (World.ownsRow_lit w #[] 0 (Nat.le_refl _) (by decide) rfl) (by simp [Act.eval, Act.put]) (HL.out.below (HAL.out _)) hly H1.out (by unfold maxLen; omega) (by omega) (by simp) ?_; intro v5 w5 own5 hg5 hl5; have bel5 : Below w.heap.size w w5 := (HAL.out _).grown hg5 (by simp) (fun j hj => by simp [Value.ownBlock] at hj; omega); rw [Nat.zero_add, List.nil_append] at own5)
    go_ret
    exact ⟨_, rfl, own5, bel5⟩
theorem infoCArg : (Tryd.prog.info? 99).map (fun i => (i.zero, i.size, i.bytes)) = some (some (.agg #[.int .i8 0, .string ⟨#[]⟩, .int .i8 0, .int .i64 0, .string ⟨#[]⟩]), 5, 56) := by kernel_rfl
theorem nilCArg (n c : Nat) (w : World) : (binOp .eql 22 (.slice none n c) (.slice none 0 0)).run Tryd.prog w = .ok (.bool true) w := by kernel_rfl
theorem nonCArg (ad : Addr) (n c : Nat) (w : World) : (binOp .eql 22 (.slice (some ad) n c) (.slice none 0 0)).run Tryd.prog w = .ok (.bool false) w := by kernel_rfl
set_option maxHeartbeats 800000 in
set_option maxRecDepth 100000 in
theorem cloneArg (v : Value) (n : Nat) (ys : List Value) (w : World) (hl : Ls w v n ys) (hly : ys.length = n * 5) (h1 : ∀ u ∈ ys, u.oneCell' = true) (hn : n ≤ 1048576) : Calls Tryd.prog 50 #[v] w fun e w' => ∃ sv, e = .returned sv ∧ w'.ownsRow w.heap.size 99 5 sv n ys ∧ Below w.heap.size w w' := by
  obtain ⟨i0, hi0, hz0, hz1, hz2⟩ := info_parts infoCArg
  have HL := Lib.hid hl
  obtain ⟨_, a, c, rfl, hc1, hc2, hat⟩ := hl
  have H1 := Lib.hid h1
  clear h1
  cases a with
  | none =>
    have h0 : n = 0 := by
      by_cases h : n = 0
      · exact h
      · obtain ⟨g, off, e, _⟩ := hat (by omega)
        cases e
    subst h0
    obtain rfl : ys = [] := List.length_eq_zero_iff.1 (by rw [hly])
    have hne := nilCArg 0 c w
    clear hat HL
    go_enter Tryd.func50, Tryd.ntmps50
    go_wp2
    go_ret
    exact ⟨_, rfl, World.ownsRow_nil _ _ _ _, Below.refl _ _⟩
  | some ad =>
    have hne := nonCArg ad n c w
    have HAL : Hid (∀ o, Below w.heap.size w (w.alloc o)) := fun o => (Below.refl _ _).alloc (Nat.le_refl _) o
    clear hat
    go_enter Tryd.func50, Tryd.ntmps50
    go_wp2_with (at_builtin; refine wpList_appL rfl (.tmp 5) (.tmp 6) 22 99 rfl Tryd.underlying22 hi0 hz0 hz1 hz2 rfl (by decide) (b := w.heap.size) (v := .slice (some ⟨w.heap.size, 0, none⟩) 0 0) (n := 0) (xs := []) (a := some ad) (c := c) (m := n) (ys := ys) (by simp [Act.eval, Act.put]) (World.ownsRow_lit w #[] 0 (Nat.le_refl _) (by decide) rfl) (by simp [Act.eval, Act.put]) (HL.out.below (HAL.out _)) hly H1.out (by unfold maxLen; omega) (by omega) (by simp) ?_; intro v5 w5 own5 hg5 hl5; have bel5 : Below w.heap.size w w5 := (HAL.out _).grown hg5 (by simp) (fun j hj => by simp [Value.ownBlock] at hj; omega); rw [Nat.zero_add, List.nil_append] at own5)
    go_ret
    exact ⟨_, rfl, own5, bel5⟩
theorem infoCExpr : (Tryd.prog.info? 54).map (fun i => (i.zero, i.size, i.bytes)) = some (some (.agg #[.int .i8 0, .string ⟨#[]⟩, .int .i8 0, .int .i64 0, .string ⟨#[]⟩, .slice none 0 0]), 6, 80) := by kernel_rfl
theorem nilCExpr (n c : Nat) (w : World) : (binOp .eql 52 (.slice none n c) (.slice none 0 0)).run Tryd.prog w = .ok (.bool true) w := by kernel_rfl
theorem nonCExpr (ad : Addr) (n c : Nat) (w : World) : (binOp .eql 52 (.slice (some ad) n c) (.slice none 0 0)).run Tryd.prog w = .ok (.bool false) w := by kernel_rfl
set_option maxHeartbeats 800000 in
set_option maxRecDepth 100000 in
theorem cloneExpr (v : Value) (n : Nat) (ys : List Value) (w : World) (hl : Ls w v n ys) (hly : ys.length = n * 6) (h1 : ∀ u ∈ ys, u.oneCell' = true) (hn : n ≤ 1048576) : Calls Tryd.prog 71 #[v] w fun e w' => ∃ sv, e = .returned sv ∧ w'.ownsRow w.heap.size 54 6 sv n ys ∧ Below w.heap.size w w' := by
  obtain ⟨i0, hi0, hz0, hz1, hz2⟩ := info_parts infoCExpr
  have HL := Lib.hid hl
  obtain ⟨_, a, c, rfl, hc1, hc2, hat⟩ := hl
  have H1 := Lib.hid h1
  clear h1
  cases a with
  | none =>
    have h0 : n = 0 := by
      by_cases h : n = 0
      · exact h
      · obtain ⟨g, off, e, _⟩ := hat (by omega)
        cases e
    subst h0
    obtain rfl : ys = [] := List.length_eq_zero_iff.1 (by rw [hly])
    have hne := nilCExpr 0 c w
    clear hat HL
    go_enter Tryd.func71, Tryd.ntmps71
    go_wp2
    go_ret
    exact ⟨_, rfl, World.ownsRow_nil _ _ _ _, Below.refl _ _⟩
  | some ad =>
    have hne := nonCExpr ad n c w
    have HAL : Hid (∀ o, Below w.heap.size w (w.alloc o)) := fun o => (Below.refl _ _).alloc (Nat.le_refl _) o
    clear hat
    go_enter Tryd.func71, Tryd.ntmps71
    go_wp2_with (at_builtin; refine wpList_appL rfl (.tmp 5) (.tmp 6) 52 54 rfl Tryd.underlying52 hi0 hz0 hz1 hz2 rfl (by decide) (b := w.heap.size) (v := .slice (some ⟨w.heap.size, 0, none⟩) 0 0) (n := 0) (xs := []) (a := some ad) (c := c) (m := n) (ys := ys) (by simp [Act.eval, Act.put]) (World.ownsRow_lit w #[] 0 (Nat.le_refl _) (by decide) rfl) (by simp [Act.eval, Act.put]) (HL.out.below (HAL.out _)) hly H1.out (by unfold maxLen; omega) (by omega) (by simp) ?_; intro v5 w5 own5 hg5 hl5; have bel5 : Below w.heap.size w w5 := (HAL.out _).grown hg5 (by simp) (fun j hj => by simp [Value.ownBlock] at hj; omega); rw [Nat.zero_add, List.nil_append] at own5)
    go_ret
    exact ⟨_, rfl, own5, bel5⟩
theorem infoCLiteral : (Tryd.prog.info? 56).map (fun i => (i.zero, i.size, i.bytes)) = some (some (.agg #[.int .i8 0, .string ⟨#[]⟩, .slice none 0 0, .int .i8 0, .int .i8 0, .string ⟨#[]⟩, .int .i8 0, .int .i64 0, .string ⟨#[]⟩, .slice none 0 0, .int .i8 0, .string ⟨#[]⟩, .int .i8 0, .int .i64 0, .string ⟨#[]⟩, .slice none 0 0]), 16, 216) := by kernel_rfl
theorem nilCLiteral (n c : Nat) (w : World) : (binOp .eql 23 (.slice none n c) (.slice none 0 0)).run Tryd.prog w = .ok (.bool true) w := by kernel_rfl
theorem nonCLiteral (ad : Addr) (n c : Nat) (w : World) : (binOp .eql 23 (.slice (some ad) n c) (.slice none 0 0)).run Tryd.prog w = .ok (.bool false) w := by kernel_rfl
set_option maxHeartbeats 800000 in
set_option maxRecDepth 100000 in
theorem cloneLiteral (v : Value) (n : Nat) (ys : List Value) (w : World) (hl : Ls w v n ys) (hly : ys.length = n * 16) (h1 : ∀ u ∈ ys, u.oneCell' = true) (hn : n ≤ 1048576) : Calls Tryd.prog 51 #[v] w fun e w' => ∃ sv, e = .returned sv ∧ w'.ownsRow w.heap.size 56 16 sv n ys ∧ Below w.heap.size w w' := by
  obtain ⟨i0, hi0, hz0, hz1, hz2⟩ := info_parts infoCLiteral
  have HL := Lib.hid hl
  obtain ⟨_, a, c, rfl, hc1, hc2, hat⟩ := hl
  have H1 := Lib.hid h1
  clear h1
  cases a with
  | none =>
    have h0 : n = 0 := by
      by_cases h : n = 0
      · exact h
      · obtain ⟨g, off, e, _⟩ := hat (by omega)
        cases e
    subst h0
    obtain rfl : ys = [] := List.length_eq_zero_iff.1 (by rw [hly])
    have hne := nilCLiteral 0 c w
    clear hat HL
    go_enter Tryd.func51, Tryd.ntmps51
    go_wp2
    go_ret
    exact ⟨_, rfl, World.ownsRow_nil _ _ _ _, Below.refl _ _⟩
  | some ad =>
    have hne := nonCLiteral ad n c w
    have HAL : Hid (∀ o, Below w.heap.size w (w.alloc o)) := fun o => (Below.refl _ _).alloc (Nat.le_refl _) o
    clear hat
    go_enter Tryd.func51, Tryd.ntmps51
    go_wp2_with (at_builtin; refine wpList_appL rfl (.tmp 5) (.tmp 6) 23 56 rfl Tryd.underlying23 hi0 hz0 hz1 hz2 rfl (by decide) (b := w.heap.size) (v := .slice (some ⟨w.heap.size, 0, none⟩) 0 0) (n := 0) (xs := []) (a := some ad) (c := c) (m := n) (ys := ys) (by simp [Act.eval, Act.put]) (World.ownsRow_lit w #[] 0 (Nat.le_refl _) (by decide) rfl) (by simp [Act.eval, Act.put]) (HL.out.below (HAL.out _)) hly H1.out (by unfold maxLen; omega) (by omega) (by simp) ?_; intro v5 w5 own5 hg5 hl5; have bel5 : Below w.heap.size w w5 := (HAL.out _).grown hg5 (by simp) (fun j hj => by simp [Value.ownBlock] at hj; omega); rw [Nat.zero_add, List.nil_append] at own5)
    go_ret
    exact ⟨_, rfl, own5, bel5⟩
end Go.Proofs.YteabclfhmapabaaDoor
end
