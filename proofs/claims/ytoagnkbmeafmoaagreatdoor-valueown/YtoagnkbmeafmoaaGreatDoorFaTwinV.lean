import Derived.Test.YtoagnkbmeafmoaaGreatDoorRowGen
import Derived.Test.YtoagnkbmeafmoaaGreatDoorSoWord
import Derived.Deep.Onto
namespace Go.Proofs.YtoagnkbmeafmoaaGreatDoor
open Go.RowKit Go.Maps
set_option linter.unusedVariables false
set_option linter.unusedSimpArgs false
attribute [local go_sem ↓] Go.wp_at_zero Go.wp_at_succ

theorem oneCells_val (x : V) : (V.cells x).toArray.all (·.oneCell') = true := by simp [V.cells, Value.oneCell']
theorem Lv.rform {w : World} {v : Value} {l : List V} (h : Lv w v l) : ∃ a c, v = .slice a l.length c ∧ l.length ≤ c ∧ c ≤ maxLen ∧ (0 < l.length → ∃ g off, a = some ⟨g, off, none⟩ ∧ g < w.heap.size ∧ ∀ i, i < l.length → w.rangeAt g (off + i * 3) (atV l i).cells) := ls_range (f := V.cells) (k := 3) (fun _ => rfl) V0 h.lies
theorem updV {α : Type} (f : Nat → α) (k : Nat) (v : α) (h : f k = v) : (fun i => if i = k then v else f i) = f := by
  funext i
  by_cases e : i = k
  · rw [if_pos e, e, h]
  · rw [if_neg e]
/-- a row by its index is a row of a call's own -/
theorem own_of_rowF {α : Type} {f : α → List Value} {k : Nat} (hk0 : 0 < k) (hk : ∀ x, (f x).length = k) (z : α) {w : World} {g lo cap : Nat} {e : TypeId} {l : List α} {U : Nat → List Value} (h : w.rowIs g e (cap * k) (rowF k U)) (hU : ∀ i, i < l.length → U i = f (l.getD i z)) (hlo : lo ≤ g) (h1 : l.length ≤ cap) (h2 : cap ≤ maxLen) :
    w.ownsRow lo e k (.slice (some ⟨g, 0, none⟩) l.length cap) l.length (l.flatMap f) := by
  obtain ⟨c, hb, hn, hc⟩ := h
  have hl := flat_len f k hk l
  refine ⟨hl, .inr ⟨g, cap, c, rfl, hlo, hb, h1, h2, hn, ?_⟩⟩
  apply List.ext_getElem?
  intro j
  rw [List.getElem?_take]
  by_cases hj : j < l.length * k
  · rw [if_pos hj]
    have hjc : j < cap * k := Nat.lt_of_lt_of_le hj (Nat.mul_le_mul_right _ h1)
    have hd : j / k < l.length := (Nat.div_lt_iff_lt_mul hk0).2 hj
    have hm : j % k < k := Nat.mod_lt _ hk0
    have hx := flat_at f k hk z l (j / k) (j % k) hd hm
    have he : j / k * k + j % k = j := by rw [Nat.mul_comm]; exact Nat.div_add_mod j k
    rw [he] at hx
    have hg : (U (j / k))[j % k]? = some ((U (j / k)).getD (j % k) .nilIface) := by
      have : j % k < (U (j / k)).length := by rw [hU _ hd, hk]; exact hm
      simp [List.getD, List.getElem?_eq_getElem this]
    rw [hx, ← hU _ hd, hg]
    have := hc j hjc
    unfold rowF at this
    simpa using this
  · rw [if_neg hj, List.getElem?_eq_none (by omega)]
/-- a copy of a list of values, with a mark behind it -/
structure TwV (w : World) (lo : Nat) (l : List V) (a : Option Addr) (c : Nat) : Prop where
  cap : c = l.length + 1
  own : w.ownsRow lo 69 3 (.slice a l.length c) l.length (l.flatMap V.cells)
  lies : ∃ g, a = some ⟨g, 0, none⟩ ∧ lo ≤ g ∧ g < w.heap.size ∧ w.rangeAt g (l.length * 3) [.int .i8 99, .int .i64 777777, .string ⟨#[]⟩] ∧ ∀ i, i < l.length → w.rangeAt g (i * 3) (atV l i).cells
theorem TwV.below {w w' : World} {lo : Nat} {l : List V} {a : Option Addr} {c : Nat} (h : TwV w lo l a c) (b : Below w.heap.size w w') : TwV w' lo l a c := by
  obtain ⟨h1, ho, g, h2, h3, h4, h5, h6⟩ := h
  exact ⟨h1, own_below ho b, g, h2, h3, Nat.lt_of_lt_of_le h4 b.size, range_below h5 b h4, fun i hi => range_below (h6 i hi) b h4⟩
theorem TwV.set {w : World} {lo b j : Nat} {v : Value} (hb : b < lo) {l : List V} {a : Option Addr} {c : Nat} (h : TwV w lo l a c) : TwV (w.setCell ⟨b, j, none⟩ v) lo l a c := by
  obtain ⟨h1, ho, g, h2, h3, h4, h5, h6⟩ := h
  have e : (w.setCell ⟨b, j, none⟩ v).heap[g]? = w.heap[g]? := heap_setCell_other _ _ _ _ (by show g ≠ b; omega)
  exact ⟨h1, ownsRow_setCell_below ho (by exact hb) _, g, h2, h3, by simpa using h4, range_block h5 e, fun i hi => range_block (h6 i hi) e⟩
theorem TwV.lower {w : World} {lo lo' : Nat} (hl : lo' ≤ lo) {l : List V} {a : Option Addr} {c : Nat} (h : TwV w lo l a c) : TwV w lo' l a c := by
  obtain ⟨h1, ho, g, h2, h3, h4, h5, h6⟩ := h
  exact ⟨h1, ho.mono hl, g, h2, Nat.le_trans hl h3, h4, h5, h6⟩
theorem TwV.lv {w w0 : World} {lo : Nat} {l : List V} {a : Option Addr} {c : Nat} {v : Value} (h : TwV w lo l a c) (h0 : Lv w0 v l) (hl : l.length ≤ 1048576) : Lv w (.slice a l.length c) l := by
  obtain ⟨rfl, _, g, rfl, _, hg, _, hk⟩ := h
  exact ⟨ls_of_range (f := V.cells) (k := 3) (by omega) (fun _ => rfl) V0 (by omega) (by unfold maxLen; omega) hg hk, h0.wf⟩
theorem run_neqV (x : V) (w : World) : (binOp .neq 69 (.agg #[.int .i8 x.k, .int .i64 x.n, .string x.s]) (.agg #[.int .i8 x.k, .int .i64 x.n, .string x.s])).run Tryz.prog w = .ok (.bool false) w := by go_simp
theorem markV_any (w : World) : Calls Tryz.prog 90 #[.int .i64 777777] w fun e w' => e = .returned (.agg #[.int .i8 99, .int .i64 777777, .string ⟨#[]⟩]) ∧ Below w.heap.size w w' := by
  go_enter Tryz.func90, Tryz.ntmps90
  go_wp2
  exact bodyPost_ret (v := .agg #[.int .i8 99, .int .i64 777777, .string ⟨#[]⟩]) (by simp [results, Tryz.results90, go_sem]) rfl ⟨rfl, (Below.refl _ _).alloc (Nat.le_refl _) _⟩
theorem isMarkV_any (w : World) : Calls Tryz.prog 202 #[.agg #[.int .i8 99, .int .i64 777777, .string ⟨#[]⟩], .int .i64 777777] w fun e w' => e = .returned (.bool true) ∧ Below w.heap.size w w' := by
  go_enter Tryz.func202, Tryz.ntmps202
  go_wp2
  go_ret
  exact ⟨rfl, (Below.refl _ _).alloc (Nat.le_refl _) _⟩
set_option maxHeartbeats 3200000 in
theorem sameV_same (v v' : Value) (l : List V) (w : World) (h1 : Lv w v l) (h2 : Lv w v' l) :
    Calls Tryz.prog 36 #[v, v'] w fun r w' => r = .returned (.bool true) ∧ Below w.heap.size w w' := by
  obtain ⟨a, c, rfl, hc1, hc2, hk⟩ := h1.rform
  obtain ⟨a', c', rfl, hc1', hc2', hk'⟩ := h2.rform
  have hmax : l.length ≤ maxLen := Nat.le_trans hc1 hc2
  unfold maxLen at hmax
  have HK : Hid _ := hk
  have HK' : Hid _ := hk'
  clear hk hk' h1 h2 hc2 hc2'
  go_enter Tryz.func36, Tryz.ntmps36
  go_wp2
  go_loopw [5] (fun i wr => ∃ k : Nat, k ≤ l.length ∧ i = .int .i64 k ∧ Below w.heap.size w wr) (fun i _ => l.length - (intOf i).toNat)
  case atStart => exact ⟨0, Nat.zero_le _, rfl, Below.refl _ _⟩
  case round =>
    obtain ⟨k, hk, rfl, bel⟩ := hrel
    by_cases hlt : k < l.length
    · have hlt' : (k : Int) < (l.length : Int) := by omega
      obtain ⟨g, off, rfl, hg, hKS⟩ := HK.out (by omega)
      obtain ⟨g', off', rfl, hg', hKS'⟩ := HK'.out (by omega)
      have ry := range_below (hKS k hlt) bel hg
      have rz := range_below (hKS' k hlt) bel hg'
      generalize atV l k = x at ry rz
      have y0 : wr.cell? ⟨g, off + k * 3, none⟩ = some (.int .i8 x.k) := ry 0 _ rfl
      have y1 : wr.cell? ⟨g, off + k * 3 + 1, none⟩ = some (.int .i64 x.n) := ry 1 _ rfl
      have y2 : wr.cell? ⟨g, off + k * 3 + 2, none⟩ = some (.string x.s) := ry 2 _ rfl
      have z0 : wr.cell? ⟨g', off' + k * 3, none⟩ = some (.int .i8 x.k) := rz 0 _ rfl
      have z1 : wr.cell? ⟨g', off' + k * 3 + 1, none⟩ = some (.int .i64 x.n) := rz 1 _ rfl
      have z2 : wr.cell? ⟨g', off' + k * 3 + 2, none⟩ = some (.string x.s) := rz 2 _ rfl
      have hQ := run_neqV x
      clear hKS hKS' ry rz
      go_wp2_with fail
      go_quiet (fail)
      go_wp2
      go_roundw
      case rel => exact ⟨k + 1, by omega, by go_num, below_drewV bel _⟩
      case measure => simp [intOf]; omega
    · obtain rfl : k = l.length := by omega
      go_wp2
      go_ret
      exact ⟨rfl, bel⟩
end Go.Proofs.YtoagnkbmeafmoaaGreatDoor
