import Derived.Test.YtikjphfeeljhbaaGreatDoorPrintN
import Derived.Test.YtikjphfeeljhbaaGreatDoorRuA
namespace Go.Proofs.YtikjphfeeljhbaaGreatDoor
open Go.RowKit Go.Maps
set_option linter.unusedVariables false
set_option linter.unusedSimpArgs false
attribute [local go_sem ↓] Go.wp_at_zero Go.wp_at_succ

/-- a list of bytes as a text -/
def txt (l : List UInt8) : ByteArray := ⟨l.toArray⟩
theorem txt_app (a b : List UInt8) : txt a ++ txt b = txt (a ++ b) := by
  have e : (txt a ++ txt b).data = (a ++ b).toArray := by
    rw [ByteArray.data_append]
    simp [txt]
  cases h : txt a ++ txt b with
  | mk d => rw [h] at e; simp only at e; rw [e]; rfl
theorem txt_size (a : List UInt8) : (txt a).size = a.length := by
  show (txt a).data.size = _
  simp [txt]
theorem txt_one (c : UInt8) : (⟨#[c]⟩ : ByteArray) = txt [c] := rfl
theorem arr_bytes (s : ByteArray) {l : List UInt8} (h : s.data.toList = l) : (⟨l.toArray⟩ : ByteArray) = s := by
  subst h
  cases s
  simp
theorem txt_bytes (s : ByteArray) : txt s.data.toList = s := arr_bytes s rfl
open Go.RowKit Go.Maps
set_option linter.unusedVariables false
set_option linter.unusedSimpArgs false

/-- the texts of the first k things, with a comma and a blank between each two -/
def upG (tx : List (List UInt8)) : Nat → List UInt8
  | 0 => []
  | k + 1 => upG tx k ++ ((if k = 0 then [] else [44, 32]) ++ tx.getD k [])
theorem upG_le (tx : List (List UInt8)) (k : Nat) : ∀ j, (upG tx k).length ≤ (upG tx (k + j)).length
  | 0 => Nat.le_refl _
  | j + 1 => by
    have := upG_le tx k j
    rw [← Nat.add_assoc, upG, List.length_append]
    omega
def colG (tx : List (List UInt8)) : List UInt8 := if tx.length = 0 then [] else [40] ++ upG tx tx.length ++ [41]
/-- the words of the aggregates -/
def aggTab : List (List UInt8) := [[], [99, 111, 117, 110, 116], [115, 117, 109], [109, 105, 110], [109, 97, 120]]
def aggT (n : Nat) : List UInt8 := aggTab.getD n []
def aggS (n : Nat) : ByteArray := ⟨(aggT n).toArray⟩
theorem aggS_bytes (n : Nat) : (aggS n).data.toList = aggT n := by simp [aggS]
theorem aggS_size (n : Nat) : (aggS n).size = (aggT n).length := by rw [← len_toList, aggS_bytes]
theorem aggT_len (p : Nat) : (aggT p).length ≤ 5 := by
  by_cases h : p < 5
  · exact (by decide : ∀ p : Fin 5, (aggT p.val).length ≤ 5) ⟨p, h⟩
  · unfold aggT
    rw [List.getD, List.getElem?_eq_none (by simp [aggTab]; omega)]
    simp
/-- the text of an argument, of a rule -/
def argT (x : A5) : List UInt8 := if x.g = 0 then termT x.t else aggT x.g.toNat ++ ([40] ++ (x.t.v.data.toList ++ [41]))
def txA (l : List A5) : List (List UInt8) := l.map argT
def txB (l : List XL) : List (List UInt8) := l.map (fun y => litT y.x)
def bodyT (l : List XL) : List UInt8 := if l.length = 0 then [] else [32, 58, 45, 32] ++ upG (txB l) l.length
def ruleT (r : R3) : List UInt8 := r.pr.data.toList ++ (colG (txA r.hd) ++ (bodyT r.bd ++ [46]))
theorem txA_at {l : List A5} {i : Nat} (h : i < l.length) : (txA l).getD i [] = argT (atA l i) := by simp [txA, List.getD, h, atA]
theorem txB_at {l : List XL} {i : Nat} (h : i < l.length) : (txB l).getD i [] = litT (atL l i).x := by simp [txB, List.getD, h, atL]
theorem txA_len (l : List A5) : (txA l).length = l.length := by simp [txA]
theorem txB_len (l : List XL) : (txB l).length = l.length := by simp [txB]
theorem argB_form {x : A5} (hx : x.wf) (h : argB x = true) : (x.g = 0 ∧ termB x.t = true) ∨ ((1 ≤ x.g ∧ x.g ≤ 4) ∧ x.t.v.size ≤ 1000) := by
  unfold argB at h
  split at h
  · next e =>
    refine .inl ⟨e, ?_⟩
    unfold namedB at h
    simp only [Bool.and_eq_true] at h
    exact h.2
  · split at h
    · next e =>
      refine .inr ⟨by omega, ?_⟩
      rw [of_decide_eq_true h]
      decide
    · split at h
      · next e =>
        refine .inr ⟨by omega, ?_⟩
        simp only [Bool.and_eq_true, Bool.not_eq_true', decide_eq_false_iff_not] at h
        have h1 := h.1
        unfold namedB at h1
        simp only [Bool.and_eq_true, Bool.not_eq_true', decide_eq_false_iff_not] at h1
        have h2 := (termT_len hx.t h1.2).2
        unfold termT at h2
        rw [if_neg h.2, len_toList] at h2
        exact h2
      · cases h
theorem argT_len {x : A5} (hx : x.wf) (h : argB x = true) : (argT x).length ≤ 2000 := by
  rcases argB_form hx h with ⟨e, ht⟩ | ⟨e, hv⟩
  · unfold argT
    rw [if_pos e]
    have := (termT_len hx.t ht).2
    omega
  · unfold argT
    rw [if_neg (by omega)]
    have := aggT_len x.g.toNat
    simp only [List.length_append, List.length_cons, List.length_nil, len_toList]
    omega
theorem upG_len {tx : List (List UInt8)} {m : Nat} (h : ∀ i, i < tx.length → (tx.getD i []).length ≤ m) : ∀ k, k ≤ tx.length → (upG tx k).length ≤ k * (m + 2)
  | 0, _ => by simp [upG]
  | k + 1, hk => by
    have h1 := upG_len h k (by omega)
    have h2 := h k (by omega)
    rw [upG, Nat.succ_mul]
    simp only [List.length_append]
    have h3 : (if k = 0 then ([] : List UInt8) else [44, 32]).length ≤ 2 := by split <;> simp
    omega
open Go.RowKit Go.Maps
set_option linter.unusedVariables false
set_option linter.unusedSimpArgs false
attribute [local go_sem ↓] Go.wp_at_zero Go.wp_at_succ

/-- the tables, with the aggregates -/
structure Gr (w : World) : Prop where
  gq : Gq w
  lag : 0 < w.heap.size
  ag : ∀ i : Nat, i < 5 → w.cell? ⟨0, i, none⟩ = some (.string (aggS i))
theorem Gr.below {w w' : World} (h : Gr w) (b : Below w.heap.size w w') : Gr w' :=
  ⟨h.gq.below b, Nat.lt_of_lt_of_le h.lag b.size, fun i hi => by rw [b.cell (p := ⟨_, i, none⟩) h.lag]; exact h.ag i hi⟩
theorem put_new4 {B b g : Nat} {l : List UInt8} {w : World} (s1 s2 s3 s4 : ByteArray) (hg : g = w.heap.size) (h : BldA B b l w) (hBw : B ≤ w.heap.size) (hl : l.length + (s1.size + s2.size + s3.size + s4.size) ≤ 1099511627776) :
    Calls Tryz.prog 33 #[self b, .slice (some ⟨g, 0, none⟩) 4 4] (w.alloc (.cells #[.string s1, .string s2, .string s3, .string s4] 9)) (Wrote B b l (s1.data.toList ++ (s2.data.toList ++ (s3.data.toList ++ s4.data.toList))) w) := by
  subst hg
  have BA := (Below.refl w.heap.size w).alloc (Nat.le_refl _) (.cells #[.string s1, .string s2, .string s3, .string s4] 9)
  have e : bytesOf [s1, s2, s3, s4] = s1.data.toList ++ (s2.data.toList ++ (s3.data.toList ++ s4.data.toList)) := by simp [bytesOf]
  have := put_any (g := w.heap.size) [s1, s2, s3, s4] (0, 0) (h.below BA) (Nat.le_trans hBw BA.size) (by rw [e]; simp only [List.length_append, len_toList]; omega) (by simp) (heap_alloc_new w _) (by have := h.lt; omega)
  rw [e] at this
  refine this.mono ?_
  rintro e w' ⟨rfl, h1, h2, h3⟩
  exact ⟨rfl, h1, (BA.mono hBw).trans h2, (Spare.below BA).trans h3⟩
set_option maxHeartbeats 1600000 in
theorem warg_any {B b : Nat} (x : A5) (hx : x.wf) (hok : argB x = true) (W0 : World) (hW : W0.heap.size ≤ B) (hG : Gr W0) (l : List UInt8) (w : World) (hb : Below W0.heap.size W0 w) (h : BldA B b l w) (hBw : B ≤ w.heap.size) (hl : l.length + (argT x).length ≤ 1099511627776) :
    Calls Tryz.prog 35 #[self b, .agg #[.int .i8 x.g, .string x.t.v, .int .i8 x.t.a.k, .int .i64 x.t.a.n, .string x.t.a.s]] w (Wrote B b l (argT x) w) := by
  have BA := (Below.refl w.heap.size w).alloc (Nat.le_refl _) (.cells #[.int .i8 x.g, .string x.t.v, .int .i8 x.t.a.k, .int .i64 x.t.a.n, .string x.t.a.s] 95)
  have hbl : BldA B b l _ := h.below BA
  have HGu : Hid (∀ u, Below W0.heap.size W0 u → Gr u) := fun u hu => hG.below hu
  have HBA : Hid (Below w.heap.size w _) := BA
  rcases argB_form hx hok with ⟨e, ht⟩ | ⟨⟨e1, e4⟩, hv⟩
  · have hT : argT x = termT x.t := by unfold argT; rw [if_pos e]
    rw [hT] at hl ⊢
    have f0 : (x.g == 0) = true := by rw [e]; rfl
    have HC : Hid _ := wterm_any x.t hx.t ht (hG.below (hb.trans (BA.mono hb.size))).gq.gp.pw hbl (Nat.le_trans hBw BA.size) hl
    clear hx hok hG h hT e ht hl hbl BA
    unfold T.val at HC
    unfold self at *
    go_enter Tryz.func35, Tryz.ntmps35
    go_wp2_with fail
    refine Calls.mono HC.out ?_
    rintro ee w2 hw2
    obtain ⟨rfl, hw3⟩ := hw2.from (HBA.out.mono hBw) (Spare.below HBA.out)
    go_wp2
    go_end0
    exact ⟨rfl, hw3⟩
  · obtain ⟨q, hq⟩ : ∃ q : Nat, x.g = (q : Int) := ⟨x.g.toNat, by omega⟩
    have hq5 : q < 5 := by omega
    have hT : argT x = aggT q ++ ([40] ++ (x.t.v.data.toList ++ [41])) := by unfold argT; rw [if_neg (by omega), hq, Int.toNat_natCast]
    rw [hT] at hl ⊢
    have f0 : ((q : Int) == 0) = false := by rw [beq_eq_false_iff_ne]; omega
    have hq5' : (q : Int) < 5 := by omega
    have hq0' : (0 : Int) ≤ (q : Int) := by omega
    have HL : Hid (l.length + ((aggS q).size + 1 + x.t.v.size + 1) ≤ 1099511627776) := by
      show _ ≤ _
      simp only [List.length_append, List.length_cons, List.length_nil, len_toList] at hl
      rw [aggS_size]
      omega
    have HOB : Hid ((aggS q).data.toList = aggT q) := aggS_bytes q
    have hcg := (HGu.out _ (hb.trans (BA.mono hb.size))).ag q hq5
    have HBL : Hid (BldA B b l _) := hbl
    rw [hq] at hcg HBL HBA ⊢
    clear hx hok hG h hT hl hbl BA hq e1 e4 hv
    generalize aggS q = os at HL HOB hcg
    unfold self at *
    go_enter Tryz.func35, Tryz.ntmps35
    go_wp2_with fail
    have HBLd : Hid (BldA B b l (w.alloc (.cells #[.int .i8 (q : Int), .string x.t.v, .int .i8 x.t.a.k, .int .i64 x.t.a.n, .string x.t.a.s] 95)).drew) := HBL.out.below (Below.refl _ _).drew
    have HBAd : Hid (Below w.heap.size w (w.alloc (.cells #[.int .i8 (q : Int), .string x.t.v, .int .i8 x.t.a.k, .int .i64 x.t.a.n, .string x.t.a.s] 95)).drew) := HBA.out.drew
    go_region_with (go_at_call 33; refine (put_new4 (g := w.heap.size + 1) os ⟨#[40]⟩ x.t.v ⟨#[41]⟩ (by simp) HBLd.out (Nat.le_trans hBw HBAd.out.size) (by have := HL.out; show _ + (_ + 1 + _ + 1) ≤ _; omega)).mono ?_; rintro ee w2 hw2; obtain ⟨rfl, k1, k2, k3⟩ := hw2.from (HBAd.out.mono hBw) (Spare.below HBAd.out); clear hw2)
    all_goals
      go_wp2
      go_end0
      exact ⟨rfl, by rw [← HOB.out]; exact k1, k2, k3⟩
open Go.RowKit Go.Maps
set_option linter.unusedVariables false
set_option linter.unusedSimpArgs false
attribute [local go_sem ↓] Go.wp_at_zero Go.wp_at_succ
attribute [-go_sem] loadVar storeVar

set_option maxHeartbeats 800000 in
set_option maxRecDepth 100000 in
theorem listArg_any {B b : Nat} (v : Value) (ts : List A5) (W0 : World) (hW : W0.heap.size ≤ B) (hL : La W0 v ts) (hG : Gr W0) (hok : ts.all argB = true) (l : List UInt8) (w : World) (hb : Below W0.heap.size W0 w) (h : BldA B b l w) (hBw : B ≤ w.heap.size)
    (hl : l.length + (upG (txA ts) ts.length).length ≤ 1099511627776) :
    Calls Tryz.prog 55 #[self b, v, .func (.func 35) #[] #[]] w (Wrote B b l (upG (txA ts) ts.length) w) := by
  have HWr : Hid (∀ i, i < ts.length → ∀ (l : List UInt8) (u : World), Below W0.heap.size W0 u → BldA B b l u → B ≤ u.heap.size → l.length + ((txA ts).getD i []).length ≤ 1099511627776 → Calls Tryz.prog 35 #[self b, .agg (atA ts i).cells.toArray] u (Wrote B b l ((txA ts).getD i []) u)) := fun i hi l u h1 h2 h3 h4 => by
    rw [txA_at hi] at h4 ⊢
    exact warg_any _ (hL.at_wf hi) (by rw [atA_eq hi]; exact List.all_eq_true.1 hok _ (List.getElem_mem hi)) W0 hW hG l u h1 h2 h3 h4
  obtain ⟨a, c, rfl, hc1, hc2, hat⟩ := hL.form
  have hmax : ts.length ≤ maxLen := Nat.le_trans hc1 hc2
  unfold maxLen at hmax
  have HH : Hid (BldA B b l w) := h
  have HL : Hid _ := hl
  have HAT : Hid _ := hat
  have HB0 : Hid (Below W0.heap.size W0 w) := hb
  clear h hl hok hat hb hL hG
  unfold self
  go_enter Tryz.func55, Tryz.ntmps55
  go_wp2
  go_loopw [10] (fun i wr => ∃ k : Nat, k ≤ ts.length ∧ i = .int .i64 k ∧ Hid (BldA B b (l ++ upG (txA ts) k) wr ∧ Below B w wr ∧ Spare b w wr)) (fun i _ => ts.length - (intOf i).toNat)
  case atStart => exact ⟨0, Nat.zero_le _, rfl, by simpa [upG] using HH.out, Below.refl _ _, Spare.refl _ _⟩
  case round =>
    obtain ⟨k, hk, rfl, HR⟩ := hrel
    by_cases hlt : k < ts.length
    · have hlt' : (k : Int) < (ts.length : Int) := by omega
      obtain ⟨g, off, rfl, hg, hT⟩ := HAT.out (by omega)
      have HB1 : Hid (Below W0.heap.size W0 wr) := HB0.out.trans (HR.out.2.1.mono hW)
      have hld := load_Arg (range_below (hT k hlt) HB1.out hg) rfl
      have HC : Hid _ := HWr.out k hlt
      have HU : Hid (upG (txA ts) (k + 1) = upG (txA ts) k ++ ((if k = 0 then [] else [44, 32]) ++ (txA ts).getD k [])) := rfl
      have HLE : Hid (l.length + (upG (txA ts) (k + 1)).length ≤ 1099511627776) := by
        have h1 := upG_le (txA ts) (k + 1) (ts.length - (k + 1))
        rw [show k + 1 + (ts.length - (k + 1)) = ts.length by omega] at h1
        have := HL.out
        show _ ≤ _
        omega
      have hst : (storeVar 95 ⟨wr.heap.size, 0, none⟩ (.agg (atA ts k).cells.toArray)).run Tryz.prog (wr.alloc (.cells #[.int .i8 0, .string ⟨#[]⟩, .int .i8 0, .int .i64 0, .string ⟨#[]⟩] 95)) = .ok () (wr.alloc (.cells (atA ts k).cells.toArray 95)) := run_storeVar_new wr 95 #[.int .i8 0, .string ⟨#[]⟩, .int .i8 0, .int .i64 0, .string ⟨#[]⟩] (atA ts k).cells.toArray (by kernel_rfl) rfl (oneCells_arg _)
      have BA := (Below.refl wr.heap.size wr).alloc (Nat.le_refl _) (.cells (atA ts k).cells.toArray 95)
      have hl2 := load_Arg (RL.range (rl_new wr (atA ts k).cells.toArray 95)) rfl
      have HN : Hid _ := heap_alloc_new wr (.cells (atA ts k).cells.toArray 95)
      have hnb : wr.heap.size ≠ b := by have := HR.out.1.lt; omega
      have hBr : B ≤ wr.heap.size := Nat.le_trans hBw HR.out.2.1.size
      have HL3 : Hid (∀ u, Spare b (wr.alloc (.cells (atA ts k).cells.toArray 95)) u → (loadVar 95 ⟨wr.heap.size, 0, none⟩).run Tryz.prog u = .ok (.agg (atA ts k).cells.toArray) u) := fun u hu => load_Arg (cs := (atA ts k).cells) (fun j y hy => by
        rw [Nat.zero_add, hu.cell HN.out (by decide) hnb]
        simpa using hy) rfl
      have HBA : Hid (BldA B b (l ++ upG (txA ts) k) (wr.alloc (.cells (atA ts k).cells.toArray 95))) := HR.out.1.below BA
      have HBB : Hid (Below wr.heap.size wr (wr.alloc (.cells (atA ts k).cells.toArray 95))) := BA
      have hl2' : (loadVar 95 ⟨wr.heap.size, 0, none⟩).run Tryz.prog (wr.alloc (.cells (atA ts k).cells.toArray 95)) = .ok (.agg (atA ts k).cells.toArray) (wr.alloc (.cells (atA ts k).cells.toArray 95)) := hl2
      clear hT hl2 BA HN
      generalize wr.alloc (.cells (atA ts k).cells.toArray 95) = W2 at hst HL3 HBA HBB hl2'
      generalize Value.agg (atA ts k).cells.toArray = QV at hld hst HL3 hl2' HC
      generalize (txA ts).getD k [] = tk at HC HU
      by_cases k0 : k = 0
      · rw [if_pos k0, List.nil_append] at HU
        have k0' : ¬ (0 : Int) < (k : Int) := by omega
        have HL2 : Hid ((l ++ upG (txA ts) k).length + tk.length ≤ 1099511627776) := by
          have := HLE.out
          rw [HU.out, List.length_append] at this
          show _ ≤ _
          rw [List.length_append]; omega
        clear k0
        go_wp2_with fail
        refine (HC.out _ W2 (HB1.out.trans (HBB.out.mono HB1.out.size)) HBA.out (Nat.le_trans hBr HBB.out.size) HL2.out).mono ?_
        rintro e w2 hw2
        obtain ⟨rfl, k5, k6, k7⟩ := hw2.from (HBB.out.mono hBr) (Spare.below HBB.out)
        go_wp2
        go_roundw
        case rel => exact ⟨k + 1, by omega, by go_num, by rw [HU.out, ← List.append_assoc]; exact k5, HR.out.2.1.trans k6, HR.out.2.2.trans k7⟩
        case measure => simp [intOf]; omega
      · rw [if_neg k0] at HU
        have k0' : (0 : Int) < (k : Int) := by omega
        have HL1 : Hid ((l ++ upG (txA ts) k).length + 2 ≤ 1099511627776 ∧ (l ++ upG (txA ts) k ++ [44, 32]).length + tk.length ≤ 1099511627776) := by
          have := HLE.out
          rw [HU.out] at this
          simp only [List.length_append, List.length_cons, List.length_nil] at this ⊢
          show _ ∧ _
          omega
        clear k0
        go_wp2_with fail
        refine (put_new (g := W2.heap.size) ⟨#[44, 32]⟩ rfl HBA.out (Nat.le_trans hBr HBB.out.size) HL1.out.1).mono ?_
        rintro e w2 ⟨rfl, k1, k2, k3⟩
        have hw2 : Hid (BldA B b (l ++ upG (txA ts) k ++ [44, 32]) w2) := k1
        have y0 := HL3.out w2 k3
        have HW2 : Hid (Below B wr w2 ∧ Spare b wr w2) := ⟨(HBB.out.mono hBr).trans k2, (Spare.below HBB.out).trans k3⟩
        clear k1 k2 k3 hld hst hl2' HBA
        go_wp2_with fail
        refine (HC.out _ w2 (HB1.out.trans (HW2.out.1.mono hW)) hw2.out (Nat.le_trans hBr HW2.out.1.size) HL1.out.2).mono ?_
        rintro e w3 hw3
        obtain ⟨rfl, k5, k6, k7⟩ := hw3.from HW2.out.1 HW2.out.2
        clear y0
        go_wp2
        go_roundw
        case rel => exact ⟨k + 1, by omega, by go_num, by rw [HU.out, ← List.append_assoc, ← List.append_assoc]; exact k5, HR.out.2.1.trans k6, HR.out.2.2.trans k7⟩
        case measure => simp [intOf]; omega
    · obtain rfl : k = ts.length := by omega
      go_wp2
      go_end0
      exact ⟨rfl, HR.out.1, HR.out.2.1, HR.out.2.2⟩
set_option maxHeartbeats 800000 in
set_option maxRecDepth 100000 in
theorem listLit_any {B b : Nat} (v : Value) (d : Nat) (ts : List XL) (W0 : World) (hW : W0.heap.size ≤ B) (hL : Lb W0 v d ts) (hG : Gr W0) (hok : ts.all (fun y => litB y.x) = true) (l : List UInt8) (w : World) (hb : Below W0.heap.size W0 w) (h : BldA B b l w) (hBw : B ≤ w.heap.size)
    (hl : l.length + (upG (txB ts) ts.length).length ≤ 1099511627776) :
    Calls Tryz.prog 36 #[self b, v, .func (.func 37) #[] #[]] w (Wrote B b l (upG (txB ts) ts.length) w) := by
  have HWr : Hid (∀ i, i < ts.length → ∀ (l : List UInt8) (u : World), Below W0.heap.size W0 u → BldA B b l u → B ≤ u.heap.size → l.length + ((txB ts).getD i []).length ≤ 1099511627776 → Calls Tryz.prog 37 #[self b, .agg (atL ts i).cells.toArray] u (Wrote B b l ((txB ts).getD i []) u)) := fun i hi l u h1 h2 h3 h4 => by
    rw [txB_at hi] at h4 ⊢
    exact wliteral_any d _ _ W0 hW (hL.at_is hi) hG.gq (by rw [atL_eq hi]; exact List.all_eq_true.1 hok _ (List.getElem_mem hi)) l u h1 h2 h3 h4
  obtain ⟨a, c, rfl, hc1, hc2, hat⟩ := hL.form
  have hmax : ts.length ≤ maxLen := Nat.le_trans hc1 hc2
  unfold maxLen at hmax
  have HH : Hid (BldA B b l w) := h
  have HL : Hid _ := hl
  have HAT : Hid _ := hat
  have HB0 : Hid (Below W0.heap.size W0 w) := hb
  clear h hl hok hat hb hL hG
  unfold self
  go_enter Tryz.func36, Tryz.ntmps36
  go_wp2
  go_loopw [10] (fun i wr => ∃ k : Nat, k ≤ ts.length ∧ i = .int .i64 k ∧ Hid (BldA B b (l ++ upG (txB ts) k) wr ∧ Below B w wr ∧ Spare b w wr)) (fun i _ => ts.length - (intOf i).toNat)
  case atStart => exact ⟨0, Nat.zero_le _, rfl, by simpa [upG] using HH.out, Below.refl _ _, Spare.refl _ _⟩
  case round =>
    obtain ⟨k, hk, rfl, HR⟩ := hrel
    by_cases hlt : k < ts.length
    · have hlt' : (k : Int) < (ts.length : Int) := by omega
      obtain ⟨g, off, rfl, hg, hT⟩ := HAT.out (by omega)
      have HB1 : Hid (Below W0.heap.size W0 wr) := HB0.out.trans (HR.out.2.1.mono hW)
      have hld := load_Lit (range_below (hT k hlt) HB1.out hg) rfl
      have HC : Hid _ := HWr.out k hlt
      have HU : Hid (upG (txB ts) (k + 1) = upG (txB ts) k ++ ((if k = 0 then [] else [44, 32]) ++ (txB ts).getD k [])) := rfl
      have HLE : Hid (l.length + (upG (txB ts) (k + 1)).length ≤ 1099511627776) := by
        have h1 := upG_le (txB ts) (k + 1) (ts.length - (k + 1))
        rw [show k + 1 + (ts.length - (k + 1)) = ts.length by omega] at h1
        have := HL.out
        show _ ≤ _
        omega
      have hst : (storeVar 81 ⟨wr.heap.size, 0, none⟩ (.agg (atL ts k).cells.toArray)).run Tryz.prog (wr.alloc (.cells #[.int .i8 0, .string ⟨#[]⟩, .slice none 0 0, .int .i8 0, .int .i8 0, .string ⟨#[]⟩, .int .i8 0, .int .i64 0, .string ⟨#[]⟩, .slice none 0 0, .int .i8 0, .string ⟨#[]⟩, .int .i8 0, .int .i64 0, .string ⟨#[]⟩, .slice none 0 0] 81)) = .ok () (wr.alloc (.cells (atL ts k).cells.toArray 81)) := run_storeVar_new wr 81 #[.int .i8 0, .string ⟨#[]⟩, .slice none 0 0, .int .i8 0, .int .i8 0, .string ⟨#[]⟩, .int .i8 0, .int .i64 0, .string ⟨#[]⟩, .slice none 0 0, .int .i8 0, .string ⟨#[]⟩, .int .i8 0, .int .i64 0, .string ⟨#[]⟩, .slice none 0 0] (atL ts k).cells.toArray (by kernel_rfl) rfl (oneCells_lit _)
      have BA := (Below.refl wr.heap.size wr).alloc (Nat.le_refl _) (.cells (atL ts k).cells.toArray 81)
      have hl2 := load_Lit (RL.range (rl_new wr (atL ts k).cells.toArray 81)) rfl
      have HN : Hid _ := heap_alloc_new wr (.cells (atL ts k).cells.toArray 81)
      have hnb : wr.heap.size ≠ b := by have := HR.out.1.lt; omega
      have hBr : B ≤ wr.heap.size := Nat.le_trans hBw HR.out.2.1.size
      have HL3 : Hid (∀ u, Spare b (wr.alloc (.cells (atL ts k).cells.toArray 81)) u → (loadVar 81 ⟨wr.heap.size, 0, none⟩).run Tryz.prog u = .ok (.agg (atL ts k).cells.toArray) u) := fun u hu => load_Lit (cs := (atL ts k).cells) (fun j y hy => by
        rw [Nat.zero_add, hu.cell HN.out (by decide) hnb]
        simpa using hy) rfl
      have HBA : Hid (BldA B b (l ++ upG (txB ts) k) (wr.alloc (.cells (atL ts k).cells.toArray 81))) := HR.out.1.below BA
      have HBB : Hid (Below wr.heap.size wr (wr.alloc (.cells (atL ts k).cells.toArray 81))) := BA
      have hl2' : (loadVar 81 ⟨wr.heap.size, 0, none⟩).run Tryz.prog (wr.alloc (.cells (atL ts k).cells.toArray 81)) = .ok (.agg (atL ts k).cells.toArray) (wr.alloc (.cells (atL ts k).cells.toArray 81)) := hl2
      clear hT hl2 BA HN
      generalize wr.alloc (.cells (atL ts k).cells.toArray 81) = W2 at hst HL3 HBA HBB hl2'
      generalize Value.agg (atL ts k).cells.toArray = QV at hld hst HL3 hl2' HC
      generalize (txB ts).getD k [] = tk at HC HU
      by_cases k0 : k = 0
      · rw [if_pos k0, List.nil_append] at HU
        have k0' : ¬ (0 : Int) < (k : Int) := by omega
        have HL2 : Hid ((l ++ upG (txB ts) k).length + tk.length ≤ 1099511627776) := by
          have := HLE.out
          rw [HU.out, List.length_append] at this
          show _ ≤ _
          rw [List.length_append]; omega
        clear k0
        go_wp2_with fail
        refine (HC.out _ W2 (HB1.out.trans (HBB.out.mono HB1.out.size)) HBA.out (Nat.le_trans hBr HBB.out.size) HL2.out).mono ?_
        rintro e w2 hw2
        obtain ⟨rfl, k5, k6, k7⟩ := hw2.from (HBB.out.mono hBr) (Spare.below HBB.out)
        go_wp2
        go_roundw
        case rel => exact ⟨k + 1, by omega, by go_num, by rw [HU.out, ← List.append_assoc]; exact k5, HR.out.2.1.trans k6, HR.out.2.2.trans k7⟩
        case measure => simp [intOf]; omega
      · rw [if_neg k0] at HU
        have k0' : (0 : Int) < (k : Int) := by omega
        have HL1 : Hid ((l ++ upG (txB ts) k).length + 2 ≤ 1099511627776 ∧ (l ++ upG (txB ts) k ++ [44, 32]).length + tk.length ≤ 1099511627776) := by
          have := HLE.out
          rw [HU.out] at this
          simp only [List.length_append, List.length_cons, List.length_nil] at this ⊢
          show _ ∧ _
          omega
        clear k0
        go_wp2_with fail
        refine (put_new (g := W2.heap.size) ⟨#[44, 32]⟩ rfl HBA.out (Nat.le_trans hBr HBB.out.size) HL1.out.1).mono ?_
        rintro e w2 ⟨rfl, k1, k2, k3⟩
        have hw2 : Hid (BldA B b (l ++ upG (txB ts) k ++ [44, 32]) w2) := k1
        have y0 := HL3.out w2 k3
        have HW2 : Hid (Below B wr w2 ∧ Spare b wr w2) := ⟨(HBB.out.mono hBr).trans k2, (Spare.below HBB.out).trans k3⟩
        clear k1 k2 k3 hld hst hl2' HBA
        go_wp2_with fail
        refine (HC.out _ w2 (HB1.out.trans (HW2.out.1.mono hW)) hw2.out (Nat.le_trans hBr HW2.out.1.size) HL1.out.2).mono ?_
        rintro e w3 hw3
        obtain ⟨rfl, k5, k6, k7⟩ := hw3.from HW2.out.1 HW2.out.2
        clear y0
        go_wp2
        go_roundw
        case rel => exact ⟨k + 1, by omega, by go_num, by rw [HU.out, ← List.append_assoc, ← List.append_assoc]; exact k5, HR.out.2.1.trans k6, HR.out.2.2.trans k7⟩
        case measure => simp [intOf]; omega
    · obtain rfl : k = ts.length := by omega
      go_wp2
      go_end0
      exact ⟨rfl, HR.out.1, HR.out.2.1, HR.out.2.2⟩
end Go.Proofs.YtikjphfeeljhbaaGreatDoor
