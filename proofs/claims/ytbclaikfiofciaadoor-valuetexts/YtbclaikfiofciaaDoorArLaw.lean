import Derived.Test.YtbclaikfiofciaaDoorArRefA
namespace Go.Proofs.YtbclaikfiofciaaDoor
open Go.RowKit Go.Maps
set_option linter.unusedVariables false
set_option linter.unusedSimpArgs false
attribute [local go_sem ↓] Go.wp_at_zero Go.wp_at_succ

/-! ValueAriths -/
/-- a value that lies in a block of its own -/
def Box3 (W : World) (b : Nat) (r : Res) : Prop := W.heap[b]? = some (.cells #[.int .i8 r.k, .int .i64 r.n, .string r.s] 27 (0, 0))
theorem Box3.lt {W : World} {b : Nat} {r : Res} (h : Box3 W b r) : b < W.heap.size := (Array.getElem?_eq_some_iff.1 h).1
theorem Box3.new (W : World) (r : Res) : Box3 (W.alloc (.cells #[.int .i8 r.k, .int .i64 r.n, .string r.s] 27)) W.heap.size r := heap_alloc_new W _
theorem Box3.of_block {W W' : World} {b : Nat} {r : Res} (h : Box3 W b r) (e : W'.heap[b]? = W.heap[b]?) : Box3 W' b r := Eq.trans e h
theorem Box3.below {W W' : World} {b : Nat} {r : Res} (h : Box3 W b r) (hb : Below W.heap.size W W') : Box3 W' b r := h.of_block (hb.block b h.lt)
theorem Box3.cells {W : World} {b : Nat} {r : Res} (h : Box3 W b r) : W.cell? ⟨b, 0, none⟩ = some (.int .i8 r.k) ∧ W.cell? ⟨b, 1, none⟩ = some (.int .i64 r.n) ∧ W.cell? ⟨b, 2, none⟩ = some (.string r.s) := by
  unfold World.cell?
  simp only [show W.heap[b]? = _ from h]
  exact ⟨rfl, rfl, rfl⟩
/-- the cells of k values -/
def vcells (K N : Nat → Int) (S : Nat → ByteArray) (k : Nat) : List Value := (List.range k).flatMap (fun i => [.int .i8 (K i), .int .i64 (N i), .string (S i)])
theorem vcells_succ (K N : Nat → Int) (S : Nat → ByteArray) (k : Nat) : vcells K N S (k + 1) = vcells K N S k ++ [.int .i8 (K k), .int .i64 (N k), .string (S k)] := by
  unfold vcells
  rw [List.range_succ, List.flatMap_append]
  simp
theorem vcells_len (K N : Nat → Int) (S : Nat → ByteArray) : ∀ k, (vcells K N S k).length = k * 3
  | 0 => rfl
  | k + 1 => by rw [vcells_succ, List.length_append, vcells_len K N S k]; simp; omega
theorem vcells_at (K N : Nat → Int) (S : Nat → ByteArray) : ∀ (n i : Nat), i < n → (vcells K N S n)[i * 3]? = some (.int .i8 (K i)) ∧ (vcells K N S n)[i * 3 + 1]? = some (.int .i64 (N i)) ∧ (vcells K N S n)[i * 3 + 2]? = some (.string (S i))
  | 0, i, h => by omega
  | n + 1, i, h => by
    rw [vcells_succ]
    have hl := vcells_len K N S n
    by_cases e : i = n
    · subst e
      rw [List.getElem?_append_right (by omega), List.getElem?_append_right (by omega), List.getElem?_append_right (by omega), hl]
      simp
    · have := vcells_at K N S n i (by omega)
      rw [List.getElem?_append_left (by omega), List.getElem?_append_left (by omega), List.getElem?_append_left (by omega)]
      exact this
theorem own_lst {w : World} {B : Nat} {sv : Value} {n : Nat} {K N : Nat → Int} {S : Nat → ByteArray} (h : w.ownsRow B 27 3 sv n (vcells K N S n)) (hs : ∀ i, i < n → (S i).size ≤ maxLen) : Lst w sv n K N S := by
  obtain ⟨hl, ⟨rfl, rfl⟩ | ⟨g, cap, cur, rfl, h0, hb, hn, hc, hsz, ht⟩⟩ := h
  · exact ⟨Nat.zero_le _, .inl ⟨_, _, rfl, rfl⟩⟩
  · have hat : ∀ j v, (vcells K N S n)[j]? = some v → w.cell? ⟨g, j, none⟩ = some v := fun j v hj => by
      rw [← ht, List.getElem?_take] at hj
      split at hj
      · unfold World.cell?
        simp only [hb]
        simpa using hj
      · cases hj
    refine ⟨Nat.le_trans hn hc, .inr ⟨g, 0, cap, rfl, hn, hc, ⟨fun _ => (Array.getElem?_eq_some_iff.1 hb).1, fun i hi => ?_, fun i hi => ?_, fun i hi => ?_, hs⟩⟩⟩
    · rw [Nat.zero_add]; exact hat _ _ (vcells_at K N S n i hi).1
    · rw [Nat.zero_add]; exact hat _ _ (vcells_at K N S n i hi).2.1
    · rw [Nat.zero_add]; exact hat _ _ (vcells_at K N S n i hi).2.2
/-- a value of the row is written over -/
theorem rowF_put (K N K' N' : Nat → Int) (S S' : Nat → ByteArray) (m k j : Nat) (hk : k < m) (eK : ∀ i, i ≠ k → K' i = K i) (eN : ∀ i, i ≠ k → N' i = N i) (eS : ∀ i, i ≠ k → S' i = S i) :
    (if j = k * 3 + 2 then Value.string (S' k) else if j = k * 3 + 1 then .int .i64 (N' k) else if j = k * 3 then .int .i8 (K' k) else rowF K N S m j) = rowF K' N' S' m j := by
  by_cases e : j / 3 = k
  · have h3 : j = k * 3 ∨ j = k * 3 + 1 ∨ j = k * 3 + 2 := by omega
    have hr : rowF K' N' S' m j = comp (j % 3) (K' k) (N' k) (S' k) := by
      unfold rowF
      rw [if_pos (by omega), e]
    rw [hr]
    rcases h3 with rfl | rfl | rfl
    · simp [comp]
    · simp [comp, show (k * 3 + 1) % 3 = 1 by omega]
    · simp [comp, show (k * 3 + 2) % 3 = 2 by omega]
  · have n0 : ¬ j = k * 3 := by omega
    have n1 : ¬ j = k * 3 + 1 := by omega
    have n2 : ¬ j = k * 3 + 2 := by omega
    unfold rowF
    rw [if_neg n2, if_neg n1, if_neg n0, eK _ e, eN _ e, eS _ e]
/-- the first k are those of the other list -/
def mixK (K' K : Nat → Int) (k : Nat) : Nat → Int := fun i => if i < k then K' i else K i
def mixS (S' S : Nat → ByteArray) (k : Nat) : Nat → ByteArray := fun i => if i < k then S' i else S i
theorem mixK_other {K' K : Nat → Int} {k i : Nat} (h : i ≠ k) : mixK K' K (k + 1) i = mixK K' K k i := by
  unfold mixK
  by_cases e : i < k
  · rw [if_pos e, if_pos (by omega)]
  · rw [if_neg e, if_neg (by omega)]
theorem mixS_other {S' S : Nat → ByteArray} {k i : Nat} (h : i ≠ k) : mixS S' S (k + 1) i = mixS S' S k i := by
  unfold mixS
  by_cases e : i < k
  · rw [if_pos e, if_pos (by omega)]
  · rw [if_neg e, if_neg (by omega)]
theorem mixK_at {K' K : Nat → Int} {k : Nat} : mixK K' K (k + 1) k = K' k := by unfold mixK; rw [if_pos (by omega)]
theorem mixS_at {S' S : Nat → ByteArray} {k : Nat} : mixS S' S (k + 1) k = S' k := by unfold mixS; rw [if_pos (by omega)]
theorem Cells.congr {w : World} {g off n : Nat} {K N K' N' : Nat → Int} {S S' : Nat → ByteArray} (h : Cells w g off n K N S) (eK : ∀ i, i < n → K' i = K i) (eN : ∀ i, i < n → N' i = N i) (eS : ∀ i, i < n → S' i = S i) : Cells w g off n K' N' S' :=
  ⟨h.lt, fun i hi => by rw [eK i hi]; exact h.kind i hi, fun i hi => by rw [eN i hi]; exact h.num i hi, fun i hi => by rw [eS i hi]; exact h.text i hi, fun i hi => by rw [eS i hi]; exact h.size i hi⟩
theorem Cells.of_block {w w' : World} {g off n : Nat} {K N : Nat → Int} {S : Nat → ByteArray} (h : Cells w g off n K N S) (e : w'.heap[g]? = w.heap[g]?) : Cells w' g off n K N S :=
  ⟨fun h0 => by
    have h1 := h.lt h0
    rw [Array.getElem?_eq_getElem h1] at e
    exact (Array.getElem?_eq_some_iff.1 e).1, fun i hi => (cell_block e _).trans (h.kind i hi), fun i hi => (cell_block e _).trans (h.num i hi), fun i hi => (cell_block e _).trans (h.text i hi), h.size⟩
theorem run_eql_res (r : Res) (w : World) : (binOp .eql 27 (.agg #[.int .i8 r.k, .int .i64 r.n, .string r.s]) (.agg #[.int .i8 r.k, .int .i64 r.n, .string r.s])).run Tryd.prog w = .ok (.bool true) w := by go_simp
theorem run_neq_res (r : Res) (w : World) : (binOp .neq 27 (.agg #[.int .i8 r.k, .int .i64 r.n, .string r.s]) (.agg #[.int .i8 r.k, .int .i64 r.n, .string r.s])).run Tryd.prog w = .ok (.bool false) w := by go_simp
set_option maxHeartbeats 6400000 in
set_option maxRecDepth 100000 in
theorem valueAriths_walk (op : Int) (hop : -128 ≤ op ∧ op ≤ 127) (v : Value) (n : Nat) (K N : Nat → Int) (S : Nat → ByteArray) (hwf : ∀ i, i < n → In64 (N i)) (w : World) (ht : Tab w) (hn : n ≤ 4398046511103) (hl : Lst w v n K N S) :
    Calls Tryd.prog 3 #[.int .i8 op, v] w fun e w' => e = .returned (.bool true) ∧ Below w.heap.size w w' := by
  obtain ⟨i0, hi0, hz0, hz1, hz2⟩ := info_parts infoV
  obtain ⟨a, cap, hv, hnm, hcl⟩ := hl.form
  subst hv
  have HCL := Lib.hid hcl
  have HL := Lib.hid hl
  have HT := Lib.hid ht
  have HWF := Lib.hid hwf
  have HA1 := Lib.hid (rarith_any op _ n K N S w hwf hl)
  have HSZ : Hid (∀ i, i < n → (S i).size ≤ maxLen) := fun i hi => by
    obtain ⟨g, off, _, hc⟩ := hcl (by omega)
    exact hc.size i hi
  clear hcl hl ht hwf
  obtain ⟨R1, HR1⟩ : ∃ r, Hid (r = arithR op n K N S) := ⟨_, rfl⟩
  rw [← HR1.out] at HA1
  unfold Res.val at HA1
  go_enter Tryd.func3, Tryd.ntmps3
  go_wp2_with fail
  refine HA1.out.mono ?_
  rintro e w1 ⟨rfl, b1⟩
  clear HA1
  go_upto_region 3 with fail
  have HX1 := Lib.hid (Box3.new w1 R1)
  have HB1 := Lib.hid (b1.alloc b1.size (.cells #[.int .i8 R1.k, .int .i64 R1.n, .string R1.s] 27))
  have hz1' : w1.heap.size + 1 = (w1.alloc (.cells #[.int .i8 R1.k, .int .i64 R1.n, .string R1.s] 27)).heap.size := by simp
  generalize hW1 : w1.alloc (.cells #[.int .i8 R1.k, .int .i64 R1.n, .string R1.s] 27) = W1 at HX1 HB1 hz1' ⊢
  have HZ1 := Lib.hid (And.intro hz1' b1.size)
  clear hW1 hz1' b1
  obtain ⟨K', hK'⟩ : ∃ K' : Nat → Int, K' = fun i => K (n - 1 - i) := ⟨_, rfl⟩
  obtain ⟨N', hN'⟩ : ∃ N' : Nat → Int, N' = fun i => N (n - 1 - i) := ⟨_, rfl⟩
  obtain ⟨S', hS'⟩ : ∃ S' : Nat → ByteArray, S' = fun i => S (n - 1 - i) := ⟨_, rfl⟩
  have HKNS := Lib.hid (And.intro hK' (And.intro hN' hS'))
  have HWF' : Hid (∀ i, i < n → In64 (N' i)) := fun i hi => by rw [hN']; exact HWF.out _ (by omega)
  have HSZ' : Hid (∀ i, i < n → (S' i).size ≤ maxLen) := fun i hi => by rw [hS']; exact HSZ.out _ (by omega)
  clear hK' hN' hS'
  go_wp2
  go_loopw [7, 8] (fun bv iv wr => ∃ k : Nat, k ≤ n ∧ iv = .int .i64 ((n : Int) - 1 - k) ∧ wr.ownsRow W1.heap.size 27 3 bv k (vcells K' N' S' k) ∧ Below W1.heap.size W1 wr) (fun _ iv _ => (intOf iv + 1).toNat)
  case atStart => exact ⟨0, Nat.zero_le _, by simp, World.ownsRow_nil _ _ _ _, Below.refl _ _⟩
  case round =>
    obtain ⟨k, hk, rfl, hown, bel⟩ := hrel
    obtain ⟨ab, cb, hbv, _⟩ := own_form hown
    subst hbv
    by_cases hlt : k < n
    · obtain ⟨m, hm⟩ : ∃ m : Nat, m = n - 1 - k := ⟨_, rfl⟩
      have hmi : (n : Int) - 1 - (k : Int) = (m : Int) := by omega
      have hml : m < n := by omega
      obtain ⟨g, off, ha, hc⟩ := HCL.out (by omega)
      subst ha
      have hcc := hc.below (HB1.out.trans (bel.mono HB1.out.size))
      have x0 := hcc.kind m hml
      have x1 := hcc.num m hml
      have x2 := hcc.text m hml
      have HM : Hid (K m = K' k ∧ N m = N' k ∧ S m = S' k) := by
        obtain ⟨q1, q2, q3⟩ := HKNS.out
        rw [q1, q2, q3, hm]
        exact ⟨rfl, rfl, rfl⟩
      rw [HM.out.1] at x0
      rw [HM.out.2.1] at x1
      rw [HM.out.2.2] at x2
      rw [hmi]
      have hm0 : (0 : Int) ≤ (m : Int) := by omega
      have hml' : (m : Int) < (n : Int) := by omega
      have HMK := Lib.hid (And.intro hm hmi)
      have hz := bel.size
      have HO := Lib.hid hown
      have HB := Lib.hid bel
      have HV := Lib.hid (vcells_succ K' N' S' k)
      clear hm hmi hc hcc HM hown bel
      generalize K' k = kk at x0 HV
      generalize N' k = nn at x1 HV
      generalize S' k = ss at x2 HV
      go_wp2_with (at_builtin; refine wpList_append_own_at _ rfl _ _ 24 rfl W1.heap.size 27 i0 _ 3 32 Tryd.underlying24 hi0 hz0 hz1 hz2 rfl (by decide) _ _ _ rfl (own_below HO.out ((Below.refl _ _).alloc (Nat.le_refl _) _)) ⟨_, 0, none⟩ 1 1 [.int .i8 kk, .int .i64 nn, .string ss] rfl rfl (lit_news _ #[.int .i8 kk, .int .i64 nn, .string ss] _) (by simp [Value.oneCell']) (by unfold maxLen; omega) (by omega) (by simp; omega) ?_; intro v' w2 hown' hgrow hnil hloc)
      have bel2 : Below W1.heap.size W1 w2 := (HB.out.alloc hz _).grown hgrow (by simp; omega) (fun j hj => (HO.out.lt j hj).1)
      rw [← HV.out] at hown'
      clear hgrow hnil hloc
      go_wp2
      go_roundw
      case rel => exact ⟨k + 1, by omega, by have := HMK.out; simp; omega, hown', bel2⟩
      case measure => simp [intOf]
    · obtain rfl : k = n := by omega
      have hmi : (k : Int) - 1 - (k : Int) = -1 := by omega
      rw [hmi]
      have HLB := Lib.hid (own_lst hown HSZ'.out)
      have HBW := Lib.hid (HB1.out.trans (bel.mono HB1.out.size))
      have HX1r := Lib.hid (HX1.out.below bel)
      clear hown bel HB1 HX1
      have HA2 := Lib.hid (rarith_any op _ k K' N' S' wr HWF'.out HLB.out)
      obtain ⟨R2, HR2⟩ : ∃ r, Hid (r = arithR op k K' N' S') := ⟨_, rfl⟩
      rw [← HR2.out] at HA2
      unfold Res.val at HA2
      go_wp2_with fail
      refine HA2.out.mono ?_
      rintro e w3 ⟨rfl, b3⟩
      clear HA2
      go_upto_region 8 with fail
      have HX2 := Lib.hid (Box3.new w3 R2)
      have HAL := Lib.hid ((Below.refl w3.heap.size w3).alloc (Nat.le_refl _) (.cells #[.int .i8 R2.k, .int .i64 R2.n, .string R2.s] 27))
      have h23 : Below wr.heap.size wr (w3.alloc (.cells #[.int .i8 R2.k, .int .i64 R2.n, .string R2.s] 27)) := b3.trans (HAL.out.mono b3.size)
      generalize w3.alloc (.cells #[.int .i8 R2.k, .int .i64 R2.n, .string R2.s] 27) = W3 at HX2 HAL h23 ⊢
      have HLB3 := Lib.hid (HLB.out.below h23)
      have HX13 := Lib.hid (HX1r.out.below h23)
      have HBW3 := Lib.hid (HBW.out.trans (h23.mono HBW.out.size))
      have HGB : Hid (0 < k → ∃ g off, ab = some ⟨g, off, none⟩ ∧ g < W3.heap.size) := fun h0 => by
        obtain ⟨a', cap', e1, _, h2⟩ := HLB3.out.form
        obtain ⟨g, off, e2, hc⟩ := h2 h0
        cases e1
        exact ⟨g, off, e2, hc.lt h0⟩
      clear h23 HLB HX1r HBW HAL b3
      have HTW := Lib.hid (twinValues_any _ k K N S W3 hn (HL.out.below HBW3.out))
      have hle : k ≤ k + 1 := Nat.le_succ k
      go_wp2_with fail
      refine HTW.out.mono ?_
      rintro e w4 ⟨rfl, b4, hc4, hr4⟩
      have hLT4 : Lst w4 (.slice (some ⟨W3.heap.size, 0, none⟩) k (k + 1)) k K N S := ((hc4.take hle).congr (fun i hi => by unfold markK; rw [if_neg (by omega)]) (fun i hi => by unfold markN; rw [if_neg (by omega)]) (fun i hi => by unfold markS; rw [if_neg (by omega)])).lst hle (by unfold maxLen; omega)
      have HA3 := Lib.hid (arith_any op hop _ k K N S w4 (HT.out.below (HBW3.out.trans (b4.mono HBW3.out.size))) hLT4)
      rw [← HR1.out] at HA3
      unfold Res.val at HA3
      have HC4 := Lib.hid hc4
      have HR4 := Lib.hid hr4
      have HB4 := Lib.hid b4
      clear HTW hc4 hr4 b4 hLT4
      go_wp2_with fail
      refine HA3.out.mono ?_
      rintro e w5 ⟨rfl, b5⟩
      clear HA3
      go_upto_region 10 with fail
      have HX5 := Lib.hid (Box3.new w5 R1)
      have h45 : Below w4.heap.size w4 (w5.alloc (.cells #[.int .i8 R1.k, .int .i64 R1.n, .string R1.s] 27)) := b5.alloc b5.size _
      generalize w5.alloc (.cells #[.int .i8 R1.k, .int .i64 R1.n, .string R1.s] 27) = W5 at HX5 h45 ⊢
      have h35 : Below W3.heap.size W3 W5 := HB4.out.trans (h45.mono HB4.out.size)
      have HC5 := Lib.hid (HC4.out.below h45)
      have HR5 : Hid (W5.rowIs W3.heap.size 27 ((k + 1) * 3) (rowF (markK k K) (markN k N) (markS k S) (k + 1))) := HR4.out.of_block (h45.block _ HR4.out.lt)
      have HX15 := Lib.hid (HX13.out.below h35)
      have HX25 := Lib.hid (HX2.out.below h35)
      have HLB5 := Lib.hid (HLB3.out.below h35)
      have HBW5 := Lib.hid (HBW3.out.trans (h35.mono HBW3.out.size))
      have HLE1 := Lib.hid (leftValues_true _ W3.heap.size k K N S W5 hn HC5.out (HL.out.below HBW5.out))
      have HLT : Hid (w1.heap.size < W3.heap.size ∧ w3.heap.size < W3.heap.size ∧ w.heap.size ≤ W3.heap.size) := ⟨HX13.out.lt, HX2.out.lt, HBW3.out.size⟩
      obtain ⟨p0, p1, p2⟩ := HX5.out.cells
      obtain ⟨q0, q1, q2⟩ := HX15.out.cells
      have hne := run_neq_res R1
      have hok : (R1.ok != R1.ok) = false := by simp
      clear h45 h35 b5 HC4 HR4 HX13 HX2 HLB3 HBW3 HB4
      go_wp2_with fail
      refine HLE1.out.mono ?_
      rintro e w6 ⟨rfl, b6⟩
      clear HLE1 p0 p1 p2 q0 q1 q2 hne hok
      have HR6 : Hid (w6.rowIs W3.heap.size 27 ((k + 1) * 3) (rowF (markK k K) (markN k N) (markS k S) (k + 1))) := HR5.out.of_block (b6.block _ HR5.out.lt)
      have HX26 := Lib.hid (HX25.out.below b6)
      have HLB6 := Lib.hid (HLB5.out.below b6)
      have HBW6 := Lib.hid (HBW5.out.trans (b6.mono HBW5.out.size))
      clear b6 HR5 HX25 HLB5 HBW5 HX15 HX5 HC5
      have HOB : Hid (∀ u : World, (∀ b, b ≠ W3.heap.size → u.heap[b]? = w6.heap[b]?) → Lst u (.slice ab k cb) k K' N' S') := fun u hu => by
        obtain ⟨h1, ⟨a', c', e1, e2⟩ | ⟨g, off, cap', e1, h2, h3, hc⟩⟩ := HLB6.out
        · exact ⟨h1, .inl ⟨a', c', e1, e2⟩⟩
        · by_cases h0 : 0 < k
          · obtain ⟨g', off', e3, hlt'⟩ := HGB.out h0
            cases e1
            cases e3
            exact ⟨h1, .inr ⟨g, off, cb, rfl, h2, h3, hc.of_block (hu g (by omega))⟩⟩
          · obtain rfl : k = 0 := by omega
            cases e1
            exact ⟨h1, .inl ⟨_, _, rfl, rfl⟩⟩
      go_wp2
      go_loopw [14] (fun iv u => ∃ j : Nat, j ≤ k ∧ iv = .int .i64 (j : Int) ∧ u.rowIs W3.heap.size 27 ((k + 1) * 3) (rowF (mixK K' (markK k K) j) (mixK N' (markN k N) j) (mixS S' (markS k S) j) (k + 1)) ∧ (∀ b, b ≠ W3.heap.size → u.heap[b]? = w6.heap[b]?) ∧ Below w.heap.size w u) (fun iv _ => k - (intOf iv).toNat)
      case atStart => exact ⟨0, Nat.zero_le _, rfl, HR6.out.congr fun j _ => by unfold mixK mixS; simp, fun _ _ => rfl, HBW6.out⟩
      case round =>
        obtain ⟨j, hj, rfl, hrow, hoth, bel⟩ := hrel
        by_cases hlt2 : j < k
        · obtain ⟨g, off, e3, hgl⟩ := HGB.out (by omega)
          subst e3
          obtain ⟨_, _, e4, _, h5⟩ := (HOB.out _ hoth).form
          obtain ⟨g', off', e6, hcb⟩ := h5 (by omega)
          cases e4
          cases e6
          have y0 := hcb.kind j hlt2
          have y1 := hcb.num j hlt2
          have y2 := hcb.text j hlt2
          have z0 := hrow.cell (i := j * 3) (by omega)
          have z1 := hrow.cell (i := j * 3 + 1) (by omega)
          have z2 := hrow.cell (i := j * 3 + 2) (by omega)
          have f := hrow.frozen
          have hgne : ¬ g = W3.heap.size := by omega
          have hlt3 : (j : Int) < (k : Int) := by omega
          have hj0 : (0 : Int) ≤ (j : Int) := by omega
          have HROW := Lib.hid hrow
          have HOTH := Lib.hid hoth
          have HBEL := Lib.hid bel
          have HLW := Lib.hid HLT.out.2.2
          clear hrow hoth bel hcb
          generalize rowF (mixK K' (markK k K) j) (mixK N' (markN k N) j) (mixS S' (markS k S) j) (k + 1) (j * 3) = q0 at z0
          generalize rowF (mixK K' (markK k K) j) (mixK N' (markN k N) j) (mixS S' (markS k S) j) (k + 1) (j * 3 + 1) = q1 at z1
          generalize rowF (mixK K' (markK k K) j) (mixK N' (markN k N) j) (mixS S' (markS k S) j) (k + 1) (j * 3 + 2) = q2 at z2
          go_wp2
          go_roundw
          case rel =>
            refine ⟨j + 1, by omega, by go_num, (((HROW.out.set (j * 3) _).set (j * 3 + 1) _).set (j * 3 + 2) _).congr fun i _ => ?_, fun b hb => ?_, ((HBEL.out.setCell (p := ⟨W3.heap.size, _, none⟩) HLW.out _).setCell (p := ⟨W3.heap.size, _, none⟩) HLW.out _).setCell (p := ⟨W3.heap.size, _, none⟩) HLW.out _⟩
            · rw [← rowF_put (mixK K' (markK k K) j) (mixK N' (markN k N) j) (mixK K' (markK k K) (j + 1)) (mixK N' (markN k N) (j + 1)) (mixS S' (markS k S) j) (mixS S' (markS k S) (j + 1)) (k + 1) j i (by omega) (fun _ h => mixK_other h) (fun _ h => mixK_other h) (fun _ h => mixS_other h), mixK_at, mixK_at, mixS_at]
            · rw [heap_setCell_other _ _ _ _ (by exact hb), heap_setCell_other _ _ _ _ (by exact hb), heap_setCell_other _ _ _ _ (by exact hb)]
              exact HOTH.out b hb
          case measure => simp [intOf]; omega
        · obtain rfl : j = k := by omega
          have hcf : Cells wr W3.heap.size 0 (j + 1) (markK j K') (markN j N') (markS j S') := (row_cells hrow (fun i hi => by
            unfold mixS markS
            split
            · exact HSZ'.out i (by omega)
            · rw [if_pos (by omega)]; decide)).congr (fun i hi => by
              unfold mixK markK
              by_cases e : i < j
              · rw [if_pos e, if_neg (by omega)]
              · rw [if_neg e, if_pos (by omega), if_pos (by omega)]) (fun i hi => by
              unfold mixK markN
              by_cases e : i < j
              · rw [if_pos e, if_neg (by omega)]
              · rw [if_neg e, if_pos (by omega), if_pos (by omega)]) (fun i hi => by
              unfold mixS markS
              by_cases e : i < j
              · rw [if_pos e, if_neg (by omega)]
              · rw [if_neg e, if_pos (by omega), if_pos (by omega)])
          have hLT8 : Lst wr (.slice (some ⟨W3.heap.size, 0, none⟩) j (j + 1)) j K' N' S' := ((hcf.take hle).congr (fun i hi => by unfold markK; rw [if_neg (by omega)]) (fun i hi => by unfold markN; rw [if_neg (by omega)]) (fun i hi => by unfold markS; rw [if_neg (by omega)])).lst hle (by unfold maxLen; omega)
          have HA4 := Lib.hid (arith_any op hop _ j K' N' S' wr (HT.out.below bel) hLT8)
          rw [← HR2.out] at HA4
          unfold Res.val at HA4
          have HCF := Lib.hid hcf
          have HX2w := Lib.hid (HX26.out.of_block (hoth _ (by have := HLT.out.2.1; omega)))
          have HLBw := Lib.hid (HOB.out _ hoth)
          have HBEL := Lib.hid bel
          clear hcf hLT8 hrow hoth bel
          have hlt3 : ¬ (j : Int) < (j : Int) := by omega
          go_wp2_with fail
          refine HA4.out.mono ?_
          rintro e w8 ⟨rfl, b8⟩
          clear HA4
          go_upto_region 17 with fail
          have HX8 := Lib.hid (Box3.new w8 R2)
          have h88 : Below wr.heap.size wr (w8.alloc (.cells #[.int .i8 R2.k, .int .i64 R2.n, .string R2.s] 27)) := b8.alloc b8.size _
          generalize w8.alloc (.cells #[.int .i8 R2.k, .int .i64 R2.n, .string R2.s] 27) = W8 at HX8 h88 ⊢
          have HLE2 := Lib.hid (leftValues_true _ W3.heap.size j K' N' S' W8 hn (HCF.out.below h88) (HLBw.out.below h88))
          obtain ⟨p0, p1, p2⟩ := HX8.out.cells
          obtain ⟨q0, q1, q2⟩ := (HX2w.out.below h88).cells
          have heq := run_eql_res R2
          have hok : (R2.ok == R2.ok) = true := by simp
          have HBF := Lib.hid (HBEL.out.trans (h88.mono HBEL.out.size))
          clear h88 b8
          go_wp2_with fail
          refine HLE2.out.mono ?_
          rintro e w9 ⟨rfl, b9⟩
          have HB9 := Lib.hid (HBF.out.trans (b9.mono HBF.out.size))
          clear HLE2 b9 p0 p1 p2 q0 q1 q2
          go_wp2
          go_ret
          exact ⟨rfl, HB9.out⟩
end Go.Proofs.YtbclaikfiofciaaDoor
