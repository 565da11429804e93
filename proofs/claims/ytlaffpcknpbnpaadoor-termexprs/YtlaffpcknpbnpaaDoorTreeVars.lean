import Derived.Test.YtlaffpcknpbnpaaDoorTreeBeyondS
import Derived.Test.YtlaffpcknpbnpaaDoorTreeTwin
import Derived.Lib.SmallJoins
namespace Go.Proofs.YtlaffpcknpbnpaaDoor
open Go.RowKit Go.Maps
set_option linter.unusedVariables false
set_option linter.unusedSimpArgs false
attribute [local go_sem ↓] Go.wp_at_zero Go.wp_at_succ

/-- how deep an expression is -/
def depthD : Nat → E → Nat
  | 0, _ => 0
  | d + 1, e => (e.kids.map (depthD d)).foldl max 0 + 1
theorem foldl_max_ge : ∀ (l : List Nat) (m : Nat), m ≤ l.foldl max m
  | [], m => Nat.le_refl _
  | x :: l, m => Nat.le_trans (Nat.le_max_left m x) (foldl_max_ge l (max m x))
theorem foldl_max_le : ∀ (l : List Nat) (m b : Nat), m ≤ b → (∀ x ∈ l, x ≤ b) → l.foldl max m ≤ b
  | [], m, b, h, _ => h
  | x :: l, m, b, h, hl => foldl_max_le l (max m x) b (Nat.max_le.2 ⟨h, hl x List.mem_cons_self⟩) (fun y hy => hl y (List.mem_cons_of_mem _ hy))
theorem mem_flat_len (d : Nat) {l : List E} {e : E} (h : e ∈ l) : (termsD d e).length ≤ (l.flatMap (termsD d)).length := by
  induction l with
  | nil => cases h
  | cons x l ih =>
    rw [List.flatMap_cons, List.length_append]
    rcases List.mem_cons.1 h with rfl | h
    · omega
    · have := ih h; omega
theorem depth_le : ∀ (d : Nat) (e : E), depthD d e ≤ szD d e
  | 0, _ => Nat.le_refl _
  | d + 1, e => by
    unfold szD
    rw [termsD_succ, List.length_cons, depthD]
    have : (e.kids.map (depthD d)).foldl max 0 ≤ (e.kids.flatMap (termsD d)).length := by
      refine foldl_max_le _ _ _ (Nat.zero_le _) (fun x hx => ?_)
      obtain ⟨k, hk, rfl⟩ := List.mem_map.1 hx
      exact Nat.le_trans (depth_le d k) (mem_flat_len d hk)
    omega
theorem max_take {l : List Nat} {k : Nat} (h : k < l.length) : (l.take (k + 1)).foldl max 0 = max ((l.take k).foldl max 0) l[k] := by
  rw [List.take_succ_eq_append_getElem h, List.foldl_append]
  rfl
set_option maxHeartbeats 1600000 in
theorem rdepth_any : ∀ (d : Nat) (e : E) (a : Option Addr) (c : Nat) (w : World), EIs w d e a c → szD d e ≤ 1048576 → Calls Tryd.prog 12 #[e.val a c] w fun r w' => r = .returned (.int .i64 (depthD d e : Nat)) ∧ Below w.heap.size w w' := by
  intro d
  induction d with
  | zero => intro e a c w hE; exact absurd hE (fun h => h)
  | succ d ih =>
  intro e a c w hE hs
  have BA := (Below.refl w.heap.size w).alloc (Nat.le_refl _) (.cells #[.int .i8 e.op, .string e.t.v, .int .i8 e.t.a.k, .int .i64 e.t.a.n, .string e.t.a.s, .slice a e.kids.length c] 31)
  obtain ⟨⟨hop, hkl⟩, htw, hc1, hc2, hk⟩ := hE
  have HK : Hid _ := hk
  have HIH : Hid _ := ih
  have HB : Hid (Below w.heap.size w (w.alloc (.cells #[.int .i8 e.op, .string e.t.v, .int .i8 e.t.a.k, .int .i64 e.t.a.n, .string e.t.a.s, .slice a e.kids.length c] 31))) := BA
  have hsz : (e.kids.flatMap (termsD d)).length ≤ 1048576 := by
    unfold szD at hs
    rw [termsD_succ, List.length_cons] at hs
    omega
  have HSZ : Hid (∀ k, k < e.kids.length → szD d (atE e.kids k) ≤ 1048576) := fun k hk => by
    rw [atE_eq hk]
    exact Nat.le_trans (mem_flat_len d (List.getElem_mem hk)) hsz
  have hdl : depthD (d + 1) e ≤ 1048576 := Nat.le_trans (depth_le (d + 1) e) hs
  obtain ⟨r, hr⟩ : ∃ r, depthD (d + 1) e = r := ⟨_, rfl⟩
  rw [hr] at hdl ⊢
  have HR : Hid ((e.kids.map (depthD d)).foldl max 0 + 1 = r) := hr
  have HMX : Hid (∀ k, k ≤ e.kids.length → ((e.kids.map (depthD d)).take k).foldl max 0 ≤ 1048576) := fun k hk => by
    refine foldl_max_le _ _ _ (Nat.zero_le _) (fun x hx => ?_)
    obtain ⟨y, hy, rfl⟩ := List.mem_map.1 (List.mem_of_mem_take hx)
    exact Nat.le_trans (depth_le d y) (Nat.le_trans (mem_flat_len d hy) hsz)
  have C5 : Hid (∀ u, Below (w.heap.size + 1) (w.alloc (.cells #[.int .i8 e.op, .string e.t.v, .int .i8 e.t.a.k, .int .i64 e.t.a.n, .string e.t.a.s, .slice a e.kids.length c] 31)) u → u.cell? ⟨w.heap.size, 5, none⟩ = some (.slice a e.kids.length c)) := fun u hu => by rw [hu.cell (p := ⟨w.heap.size, 5, none⟩) (by simp)]; go_simp
  clear hk ih hop htw hs hsz hr BA
  unfold E.val
  go_enter Tryd.func12, Tryd.ntmps12
  go_wp2
  have hzW : (w.alloc (.cells #[.int .i8 e.op, .string e.t.v, .int .i8 e.t.a.k, .int .i64 e.t.a.n, .string e.t.a.s, .slice a e.kids.length c] 31)).heap.size = w.heap.size + 1 := by simp
  generalize w.alloc (.cells #[.int .i8 e.op, .string e.t.v, .int .i8 e.t.a.k, .int .i64 e.t.a.n, .string e.t.a.s, .slice a e.kids.length c] 31) = W at HB C5 hzW ⊢
  have HZW : Hid _ := hzW
  clear hzW
  go_loopw [3, 4] (fun mx i wr => ∃ k m : Nat, k ≤ e.kids.length ∧ i = .int .i64 k ∧ mx = .int .i64 m ∧ Hid (m = ((e.kids.map (depthD d)).take k).foldl max 0) ∧ Below (w.heap.size + 1) W wr) (fun _ i _ => e.kids.length - (intOf i).toNat)
  case atStart => exact ⟨0, 0, Nat.zero_le _, rfl, rfl, by simp [Hid], Below.refl _ _⟩
  case round =>
    obtain ⟨k, m, hk, rfl, rfl, Hm, bel⟩ := hrel
    have c5 := C5.out wr bel
    have hm := HMX.out k hk
    rw [← Hm.out] at hm
    by_cases hlt : k < e.kids.length
    · have hlt' : (k : Int) < (e.kids.length : Int) := by omega
      have hk0 : (0 : Int) ≤ (k : Int) := by omega
      obtain ⟨g', off', rfl, hg', hKS⟩ := HK.out (by omega)
      obtain ⟨a', c', hxk, hek⟩ := hKS k hlt
      have bw : Below w.heap.size w wr := HB.out.trans (bel.mono (by omega))
      have HI : Hid _ := HIH.out (atE e.kids k) a' c' wr (hek.below bw) (HSZ.out k hlt)
      obtain ⟨x0, x1, x2, x3, x4, x5⟩ := hxk.below bw hg'
      have HMk : Hid (((e.kids.map (depthD d)).take (k + 1)).foldl max 0 = max m (depthD d (atE e.kids k))) := by
        show _ = _
        rw [max_take (by rw [List.length_map]; exact hlt), ← Hm.out, List.getElem_map, atE_eq hlt]
      have hdk : depthD d (atE e.kids k) ≤ 1048576 := Nat.le_trans (depth_le d _) (HSZ.out k hlt)
      have hzr : w.heap.size + 1 ≤ wr.heap.size := by have := bel.size; rw [HZW.out] at this; exact this
      unfold E.val at HI
      clear hKS hxk hek bw
      generalize depthD d (atE e.kids k) = dk at HI HMk hdk
      generalize atE e.kids k = ke at HI x0 x1 x2 x3 x4 x5
      go_wp2_with fail
      refine Calls.mono HI.out ?_
      rintro ee w2 ⟨rfl, b2⟩
      have bel2 : Below (w.heap.size + 1) W w2 := bel.trans (b2.mono hzr)
      clear x0 x1 x2 x3 x4 x5 c5 b2 HI
      by_cases hgt : m < dk
      · have hgt' : (m : Int) < (dk : Int) := by omega
        go_wp2
        go_roundw
        case rel => exact ⟨k + 1, dk, by omega, by go_num, rfl, by show dk = _; rw [HMk.out]; omega, bel2⟩
        case measure => simp [intOf]; omega
      · have hgt' : ¬ (m : Int) < (dk : Int) := by omega
        go_wp2
        go_roundw
        case rel => exact ⟨k + 1, m, by omega, by go_num, rfl, by show m = _; rw [HMk.out]; omega, bel2⟩
        case measure => simp [intOf]; omega
    · obtain rfl : k = e.kids.length := by omega
      have hmr : m + 1 = r := by
        rw [← HR.out, Hm.out, List.take_of_length_le (by rw [List.length_map]; exact Nat.le_refl _)]
      have hmr' : (m : Int) + 1 = (r : Int) := by omega
      go_wp2
      go_ret
      refine ⟨?_, HB.out.trans (bel.mono (by omega))⟩
      go_num
end Go.Proofs.YtlaffpcknpbnpaaDoor
