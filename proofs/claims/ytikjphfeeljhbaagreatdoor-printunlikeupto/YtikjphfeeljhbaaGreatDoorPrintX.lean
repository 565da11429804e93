import Derived.Test.YtikjphfeeljhbaaGreatDoorPrintP
import Derived.Deep.RegionHeld3
namespace Go.Proofs.YtikjphfeeljhbaaGreatDoor
open Go.RowKit Go.Maps
set_option linter.unusedVariables false
set_option linter.unusedSimpArgs false
attribute [local go_sem ↓] Go.wp_at_zero Go.wp_at_succ

def holdTab : List Int := [4, 3, 1, 1, 2, 2, 2, 1, 4, 4, 4]
def holdT (n : Nat) : Int := holdTab.getD n 0
def opTab : List (List UInt8) := [[], [45], [43], [45], [42], [47], [37], [38], [108, 101, 110], [99, 104, 97, 114, 115], [98, 97, 99, 107]]
def opT (n : Nat) : List UInt8 := opTab.getD n []
def opS (n : Nat) : ByteArray := ⟨(opT n).toArray⟩
theorem opS_bytes (n : Nat) : (opS n).data.toList = opT n := by simp [opS]
theorem opS_size (n : Nat) : (opS n).size = (opT n).length := by rw [← len_toList, opS_bytes]

/-- what the package-level variables hold that print looks into -/
structure Gp (w : World) : Prop where
  lop : 1 < w.heap.size
  op : ∀ i : Nat, i < 11 → w.cell? ⟨1, i, none⟩ = some (.string (opS i))
  lho : 2 < w.heap.size
  ho : ∀ i : Nat, i < 11 → w.cell? ⟨2, i, none⟩ = some (.int .i64 (holdT i))
  kt : KT w
  pw : PW w
theorem Gp.below {w w' : World} (h : Gp w) (b : Below w.heap.size w w') : Gp w' :=
  ⟨Nat.lt_of_lt_of_le h.lop b.size, fun i hi => by rw [b.cell (p := ⟨_, i, none⟩) h.lop]; exact h.op i hi, Nat.lt_of_lt_of_le h.lho b.size, fun i hi => by rw [b.cell (p := ⟨_, i, none⟩) h.lho]; exact h.ho i hi, h.kt.below b, tab_below h.pw b⟩

/-- a kid's text, in brackets or not -/
def kidT (b : Bool) (t : List UInt8) : List UInt8 := if b then 40 :: (t ++ [41]) else t
def unsB (e : E) : Bool := decide (e.op = 0) && (decide (e.t.a.k = 1) && decide (0 ≤ e.t.a.n))
/-- the text of an expression of at most room levels -/
def textE : Nat → E → List UInt8
  | 0, _ => []
  | r + 1, e =>
    if e.op = 0 then termT e.t
    else if e.op = 1 then opT 1 ++ kidT (decide (holdT (atE e.kids 0).op.toNat < holdT 1) || unsB (atE e.kids 0)) (textE r (atE e.kids 0))
    else if 8 ≤ e.op then opT e.op.toNat ++ kidT true (textE r (atE e.kids 0))
    else kidT (decide (holdT (atE e.kids 0).op.toNat < holdT e.op.toNat)) (textE r (atE e.kids 0)) ++ (([32] ++ opT e.op.toNat ++ [32]) ++ kidT (decide (holdT (atE e.kids 1).op.toNat ≤ holdT e.op.toNat)) (textE r (atE e.kids 1)))

set_option maxHeartbeats 1600000 in
theorem kid_any {B b : Nat} (e : E) (a : Option Addr) (c : Nat) (t : List UInt8) (W0 : World) (brk : Bool) (hW : W0.heap.size ≤ B)
    (hx : ∀ (l : List UInt8) (w : World), Below W0.heap.size W0 w → BldA B b l w → B ≤ w.heap.size → l.length + t.length ≤ 1099511627776 → Calls Tryz.prog 48 #[self b, e.val a c] w (Wrote B b l t w))
    (l : List UInt8) (w : World) (hb : Below W0.heap.size W0 w) (h : BldA B b l w) (hBw : B ≤ w.heap.size) (hl : l.length + (kidT brk t).length ≤ 1099511627776) :
    Calls Tryz.prog 69 #[self b, e.val a c, .bool brk] w (Wrote B b l (kidT brk t) w) := by
  have BA := (Below.refl w.heap.size w).alloc (Nat.le_refl _) (.cells #[.int .i8 e.op, .string e.t.v, .int .i8 e.t.a.k, .int .i64 e.t.a.n, .string e.t.a.s, .slice a e.kids.length c] 75)
  have hbl : Hid (BldA B b l _) := h.below BA
  have hnb : w.heap.size ≠ b := by have := h.lt; omega
  have HX : Hid _ := hx
  have hbW : Hid (Below W0.heap.size W0 _) := hb.trans (BA.mono hb.size)
  have hbB : Hid (Below B w _) := BA.mono hBw
  have hsp : Hid (Spare b w _) := Spare.below BA
  have HN : Hid _ := heap_alloc_new w (.cells #[.int .i8 e.op, .string e.t.v, .int .i8 e.t.a.k, .int .i64 e.t.a.n, .string e.t.a.s, .slice a e.kids.length c] 75)
  have hBs : B ≤ (w.alloc (.cells #[.int .i8 e.op, .string e.t.v, .int .i8 e.t.a.k, .int .i64 e.t.a.n, .string e.t.a.s, .slice a e.kids.length c] 75)).heap.size := Nat.le_trans hBw BA.size
  clear h hx hb BA
  cases brk
  · have HL : Hid (l.length + t.length ≤ 1099511627776) := hl
    have e1 : kidT false t = t := rfl
    rw [e1]
    clear hl e1
    unfold E.val self at *
    go_enter Tryz.func69, Tryz.ntmps69
    go_wp2_with fail
    refine (HX.out l _ hbW.out hbl.out hBs HL.out).mono ?_
    rintro ee w2 hw2
    obtain ⟨rfl, hw3⟩ := hw2.from hbB.out hsp.out
    go_wp2
    go_end0
    exact ⟨rfl, hw3⟩
  · have e1 : kidT true t = [40] ++ t ++ [41] := rfl
    rw [e1] at hl ⊢
    simp only [List.length_append, List.length_cons, List.length_nil] at hl
    have HL : Hid _ := hl
    clear hl e1
    unfold E.val self at *
    go_enter Tryz.func69, Tryz.ntmps69
    go_wp2_with fail
    refine (put_new ⟨#[40]⟩ (by simp) hbl.out hBs (by have := HL.out; show l.length + 1 ≤ _; omega)).mono ?_
    rintro ee w2 hw2
    obtain ⟨rfl, h2, h3, h4⟩ := hw2
    have hX : Hid (XAt w2 w.heap.size 0 e.op e.t (.slice a e.kids.length c)) := ⟨by rw [h4.cell HN.out (by decide) hnb]; rfl, by rw [h4.cell HN.out (by decide) hnb]; rfl, by rw [h4.cell HN.out (by decide) hnb]; rfl, by rw [h4.cell HN.out (by decide) hnb]; rfl, by rw [h4.cell HN.out (by decide) hnb]; rfl, by rw [h4.cell HN.out (by decide) hnb]; rfl⟩
    obtain ⟨x0, x1, x2, x3, x4, x5⟩ := hX.out
    have hbl2 : Hid (BldA B b (l ++ [40]) w2) := h2
    have hbB2 : Hid (Below B w w2) := hbB.out.trans h3
    have hsp2 : Hid (Spare b w w2) := hsp.out.trans h4
    have hbW2 : Hid (Below W0.heap.size W0 w2) := hbW.out.trans (h3.mono hW)
    clear h2 h3 h4 hX hbl hbW hbB hsp HN
    go_wp2_with fail
    refine (HX.out _ w2 hbW2.out hbl2.out (Nat.le_trans hBw hbB2.out.size) (by have := HL.out; simp only [List.length_append, List.length_cons, List.length_nil]; omega)).mono ?_
    rintro ee w3 hw3
    obtain ⟨rfl, h2, h3, h4⟩ := hw3.from hbB2.out hsp2.out
    clear x0 x1 x2 x3 x4 x5 hbl2 hbB2 hsp2 hbW2
    have hbl3 : Hid (BldA B b (l ++ [40] ++ t) w3) := h2
    clear h2
    go_wp2_with fail
    refine (put_new ⟨#[41]⟩ rfl hbl3.out (Nat.le_trans hBw h3.size) (by have := HL.out; simp only [List.length_append, List.length_cons, List.length_nil]; show _ + 1 ≤ _; omega)).mono ?_
    rintro ee w4 hw4
    obtain ⟨rfl, h5, h6, h7⟩ := hw4.from h3 h4
    go_wp2
    go_end0
    exact ⟨rfl, by simpa [List.append_assoc] using h5, h6, h7⟩
set_option maxHeartbeats 1600000 in
theorem isUnsigned_any (e : E) (a : Option Addr) (c : Nat) (w : World) : Calls Tryz.prog 70 #[e.val a c] w fun r w' => r = .returned (.bool (unsB e)) ∧ Below w.heap.size w w' := by
  have HU : Hid (unsB e = (decide (e.op = 0) && (decide (e.t.a.k = 1) && decide (0 ≤ e.t.a.n)))) := rfl
  unfold E.val
  go_enter Tryz.func70, Tryz.ntmps70
  go_wp2
  all_goals
    go_ret
    refine ⟨ret_bool ?_, (Below.refl _ _).alloc (Nat.le_refl _) _⟩
    rw [HU.out]
    simp_all
theorem exprB_form {r : Nat} {e : E} (h : exprB (r + 1) e = true) : 0 ≤ e.op ∧ e.op < 11 ∧ e.kids.length = kidsOf e.op.toNat ∧ (e.op = 0 → namedB e.t = true) ∧ (¬ e.op = 0 → ∀ i, i < e.kids.length → exprB r (atE e.kids i) = true) := by
  unfold exprB at h
  simp only [Bool.and_eq_true, decide_eq_true_eq] at h
  obtain ⟨⟨⟨h1, h2⟩, h3⟩, h4⟩ := h
  refine ⟨h1, h2, h3, fun h0 => by rw [if_pos h0] at h4; exact h4, fun h0 i hi => ?_⟩
  rw [if_neg h0] at h4
  simp only [Bool.and_eq_true, List.all_eq_true] at h4
  rw [atE_eq hi]
  exact h4.1 _ (List.getElem_mem hi)
theorem exprB_op {r : Nat} {e : E} (h : exprB r e = true) : ∃ q : Nat, e.op = (q : Int) ∧ q < 11 := by
  cases r with
  | zero => cases h
  | succ r =>
    obtain ⟨h1, h2, _⟩ := exprB_form h
    exact ⟨e.op.toNat, by omega, by omega⟩
theorem textE_mk (r p : Nat) (t : T) (kids : List E) : textE (r + 1) (.mk p t kids) = if (p : Int) = 0 then termT t
    else if (p : Int) = 1 then opT 1 ++ kidT (decide (holdT (atE kids 0).op.toNat < holdT 1) || unsB (atE kids 0)) (textE r (atE kids 0))
    else if 8 ≤ (p : Int) then opT p ++ kidT true (textE r (atE kids 0))
    else kidT (decide (holdT (atE kids 0).op.toNat < holdT p)) (textE r (atE kids 0)) ++ (([32] ++ opT p ++ [32]) ++ kidT (decide (holdT (atE kids 1).op.toNat ≤ holdT p)) (textE r (atE kids 1))) := rfl
/-- a box that a method has laid, and what it is to be kept from -/
structure Held (B b bx : Nat) (op : Int) (t : T) (s : Value) (W0 w w2 : World) : Prop where
  cells : w2.heap[bx]? = some (.cells #[.int .i8 op, .string t.v, .int .i8 t.a.k, .int .i64 t.a.n, .string t.a.s, s] 75)
  ne : bx ≠ b
  blo : Below B w w2
  spa : Spare b w w2
  big : Below W0.heap.size W0 w2
theorem Held.next {B b bx : Nat} {op : Int} {t : T} {s : Value} {W0 w w2 w3 : World} (h : Held B b bx op t s W0 w w2) (hW : W0.heap.size ≤ B) (h1 : Below B w2 w3) (h2 : Spare b w2 w3) : Held B b bx op t s W0 w w3 :=
  ⟨h2 _ _ _ _ h.cells (by decide) h.ne, h.ne, h.blo.trans h1, h.spa.trans h2, h.big.trans (h1.mono hW)⟩
theorem Held.drew {B b bx : Nat} {op : Int} {t : T} {s : Value} {W0 w w2 : World} (h : Held B b bx op t s W0 w w2) : Held B b bx op t s W0 w w2.drew :=
  ⟨h.cells, h.ne, h.blo.drew, h.spa, h.big.drew⟩
theorem Held.at {B b bx : Nat} {op : Int} {t : T} {s : Value} {W0 w w2 : World} (h : Held B b bx op t s W0 w w2) : XAt w2 bx 0 op t s :=
  ⟨(Lib.cell_of_heap h.cells 0).trans rfl, (Lib.cell_of_heap h.cells 1).trans rfl, (Lib.cell_of_heap h.cells 2).trans rfl, (Lib.cell_of_heap h.cells 3).trans rfl, (Lib.cell_of_heap h.cells 4).trans rfl, (Lib.cell_of_heap h.cells 5).trans rfl⟩
set_option maxHeartbeats 6400000 in
theorem wexpr_any : ∀ (r d : Nat) (e : E) (a : Option Addr) (c : Nat) (W0 : World) (B b : Nat), Gp W0 → W0.heap.size ≤ B → EIs W0 d e a c → exprB r e = true →
    ∀ (l : List UInt8) (w : World), Below W0.heap.size W0 w → BldA B b l w → B ≤ w.heap.size → l.length + (textE r e).length ≤ 1099511627776 →
    Calls Tryz.prog 48 #[self b, e.val a c] w (Wrote B b l (textE r e) w) := by
  intro r
  induction r with
  | zero => intro d e a c W0 B b hG hW hE he; cases he
  | succ r ih =>
    intro d e a c W0 B b hG hW hE he l w hbW hbl hBw hl
    cases d with
    | zero => exact hE.elim
    | succ d =>
    obtain ⟨hop, htw, hc1, hc2, hk⟩ := hE
    obtain ⟨f1, f2, f3, f4, f5⟩ := exprB_form he
    obtain ⟨op, t, kids⟩ := e
    simp only [op_mk, t_mk, kids_mk] at *
    obtain ⟨p, rfl⟩ : ∃ p : Nat, op = p := ⟨op.toNat, by omega⟩
    have hp11 : p < 11 := by omega
    have hp11' : (p : Int) < 11 := by omega
    rw [Int.toNat_natCast] at f3
    have BA := (Below.refl w.heap.size w).alloc (Nat.le_refl _) (.cells #[.int .i8 (p : Int), .string t.v, .int .i8 t.a.k, .int .i64 t.a.n, .string t.a.s, .slice a kids.length c] 75)
    have HH : Hid (Held B b w.heap.size p t (.slice a kids.length c) W0 w _) := ⟨heap_alloc_new w _, by have := hbl.lt; omega, BA.mono hBw, Spare.below BA, hbW.trans (BA.mono hbW.size)⟩
    have HB : Hid (BldA B b l _) := hbl.below BA
    have HG : Hid (∀ w', Below W0.heap.size W0 w' → Gp w') := fun w' h => hG.below h
    have HK : Hid _ := hk
    have IH : Hid (∀ i, i < kids.length → ¬ (p : Int) = 0 → ∀ (a' : Option Addr) (c' : Nat), EIs W0 d (atE kids i) a' c' → ∀ (l : List UInt8) (w : World), Below W0.heap.size W0 w → BldA B b l w → B ≤ w.heap.size → l.length + (textE r (atE kids i)).length ≤ 1099511627776 →
      Calls Tryz.prog 48 #[self b, (atE kids i).val a' c'] w (Wrote B b l (textE r (atE kids i)) w)) := fun i hi h0 a' c' h1 => ih d _ a' c' W0 B b hG hW h1 (f5 h0 i hi)
    have HOP : Hid (∀ i, i < kids.length → ¬ (p : Int) = 0 → ∃ q : Nat, (atE kids i).op = (q : Int) ∧ q < 11) := fun i hi h0 => exprB_op (f5 h0 i hi)
    have hnb : w.heap.size ≠ b := by have := hbl.lt; omega
    have HL : Hid _ := hl
    have HT : Hid _ := textE_mk r p t kids
    have hBs : B ≤ (w.alloc (.cells #[.int .i8 (p : Int), .string t.v, .int .i8 t.a.k, .int .i64 t.a.n, .string t.a.s, .slice a kids.length c] 75)).heap.size := Nat.le_trans hBw BA.size
    clear hG hk ih hbl he hl f5 hbW BA hop hc2 hc1 f1 f2
    unfold E.val self
    simp only [op_mk, t_mk, kids_mk]
    by_cases hp0 : p = 0
    · have hok : Hid (termB t = true) := by
        have := f4 (by rw [hp0]; rfl)
        unfold namedB at this
        simp only [Bool.and_eq_true] at this
        exact this.2
      have hT : Hid (textE (r + 1) (.mk p t kids) = termT t) := by show _ = _; rw [HT.out, if_pos (by rw [hp0]; rfl)]
      have dp : ((p : Int) == 0) = true := by rw [hp0]; rfl
      rw [hT.out] at HL ⊢
      clear HT hT IH HOP HK f3 f4 hp0 hp11 hp11'
      go_enter Tryz.func48, Tryz.ntmps48
      go_wp2_with fail
      refine (wterm_any t htw hok.out (HG.out _ HH.out.big).pw HB.out hBs HL.out).mono ?_
      rintro ee w2 hw2
      obtain ⟨rfl, hw3⟩ := hw2.from HH.out.blo HH.out.spa
      go_wp2
      go_end0
      exact ⟨rfl, hw3⟩
    · have hpz : ¬ (p : Int) = 0 := by omega
      have dp0 : ((p : Int) == 0) = false := by rw [beq_eq_false_iff_ne]; omega
      have hk0 : 0 < kids.length := by
        rw [f3]
        have : ∀ q : Fin 11, q.val ≠ 0 → 0 < kidsOf q.val := by decide
        exact this ⟨p, hp11⟩ hp0
      obtain ⟨g, off, rfl, hg, hKS⟩ := HK.out hk0
      obtain ⟨a0, c0, hx0, he0⟩ := hKS 0 hk0
      have IH0 : Hid _ := IH.out 0 hk0 hpz a0 c0 he0
      obtain ⟨q, hq, hq11⟩ := HOP.out 0 hk0 hpz
      by_cases hp1 : p = 1
      · have hT : Hid (textE (r + 1) (.mk p t kids) = opT p ++ kidT (decide (holdT q < holdT p) || unsB (atE kids 0)) (textE r (atE kids 0))) := by
          show _ = _
          rw [HT.out, if_neg hpz, if_pos (by rw [hp1]; rfl), hq, Int.toNat_natCast, hp1]
        have dp1 : ((p : Int) == 1) = true := by rw [hp1]; rfl
        have hv1 : holdT p = 3 := by rw [hp1]; rfl
        have hv2 : (holdT q = 1 ∨ holdT q = 2) ∨ (holdT q = 3 ∨ holdT q = 4) := (by decide : ∀ q : Fin 11, (holdT q.val = 1 ∨ holdT q.val = 2) ∨ (holdT q.val = 3 ∨ holdT q.val = 4)) ⟨q, hq11⟩
        rw [hT.out] at HL ⊢
        clear HT hT IH HOP HK f3 f4 hp0 hKS he0 hp1
        generalize atE kids 0 = x at hx0 IH0 hq HL ⊢
        obtain ⟨xo, xt, xk⟩ := x
        simp only [op_mk, t_mk, kids_mk] at hx0 hq
        subst hq
        generalize textE r (.mk (q : Int) xt xk) = tx at IH0 HL ⊢
        have HL1 : Hid (l.length + ((opS p).size + (kidT (decide (holdT q < holdT p) || unsB (.mk q xt xk)) tx).length) ≤ 1099511627776) := by have := HL.out; rw [List.length_append, ← opS_size] at this; exact this
        clear HL
        have HS : Hid (∀ u, Held B b w.heap.size p t (.slice (some ⟨g, off, none⟩) kids.length c) W0 w u → u.cell? ⟨w.heap.size, 0, none⟩ = some (.int .i8 (p : Int)) ∧ u.cell? ⟨w.heap.size, 5, none⟩ = some (.slice (some ⟨g, off, none⟩) kids.length c) ∧ u.cell? ⟨g, off, none⟩ = some (.int .i8 (q : Int)) ∧ u.cell? ⟨g, off + 1, none⟩ = some (.string xt.v) ∧ u.cell? ⟨g, off + 2, none⟩ = some (.int .i8 xt.a.k) ∧ u.cell? ⟨g, off + 3, none⟩ = some (.int .i64 xt.a.n) ∧ u.cell? ⟨g, off + 4, none⟩ = some (.string xt.a.s) ∧ u.cell? ⟨g, off + 5, none⟩ = some (.slice a0 xk.length c0) ∧ u.cell? ⟨2, q, none⟩ = some (.int .i64 (holdT q)) ∧ u.cell? ⟨2, p, none⟩ = some (.int .i64 (holdT p))) := by
          intro u hu
          obtain ⟨z0, z1, z2, z3, z4, z5⟩ := hu.at
          obtain ⟨y0, y1, y2, y3, y4, y5⟩ := hx0.below hu.big hg
          simp only [Nat.zero_mul, Nat.add_zero] at y0 y1 y2 y3 y4 y5
          exact ⟨z0, z5, y0, y1, y2, y3, y4, y5, (HG.out u hu.big).ho q hq11, (HG.out u hu.big).ho p hp11⟩
        have co := (HG.out _ HH.out.big).op p hp11
        have hUS : Hid (opS p = opS p) := rfl
        have HOB : Hid ((opS p).data.toList = opT p) := opS_bytes p
        generalize opS p = os at co HL1 HOB
        rw [hv1] at HS HL1 ⊢
        generalize holdT q = h2 at HS HL1 hv2 ⊢
        have hk0' : (0 : Int) < (kids.length : Int) := by omega
        obtain ⟨TX, hTX⟩ : ∃ TX, opT p ++ kidT (decide (h2 < 3) || unsB (.mk q xt xk)) tx = TX := ⟨_, rfl⟩
        rw [hTX]
        have HTX : Hid _ := hTX
        clear hTX hUS hx0 hpz hv1
        go_enter Tryz.func48, Tryz.ntmps48
        go_wp2_with fail
        refine (put_new (g := w.heap.size + 1) os (by simp) HB.out hBs (by have := HL1.out; omega)).mono ?_
        rintro ee w2 ⟨rfl, k1, k2, k3⟩
        have HH2 : Hid (Held B b w.heap.size p t (.slice (some ⟨g, off, none⟩) kids.length c) W0 w w2) := HH.out.next hW k2 k3
        have HB2 : Hid (BldA B b (l ++ opT p) w2) := by rw [HOB.out] at k1; exact k1
        have HL2 : Hid ((l ++ opT p).length + (kidT (decide (h2 < 3) || unsB (.mk q xt xk)) tx).length ≤ 1099511627776) := by
          have := HL1.out
          show _ ≤ _
          rw [List.length_append, ← HOB.out, len_toList]; omega
        have hq11' : (q : Int) < 11 := by omega
        clear k1 k2 k3 HH HB HL1 HOB co
        have hS0 := HS.out _ HH2.out
        have hB2 : B ≤ w2.heap.size := Nat.le_trans hBw HH2.out.blo.size
        have HB3 : Hid (BldA B b (l ++ opT p) w2.drew) := HB2.out
        rcases hv2 with hv2 | (rfl | rfl)
        · have hd : decide (h2 < 3) = true := by rcases hv2 with rfl | rfl <;> rfl
          rw [hd, Bool.true_or] at HL2 HTX
          go_wp2_with fail
          clear hd
          rcases hv2 with rfl | rfl
          all_goals
            refine wp_region_held_drew (S := (fun u => u.cell? ⟨w.heap.size, 0, none⟩ = some (.int .i8 (p : Int)) ∧ u.cell? ⟨w.heap.size, 5, none⟩ = some (.slice (some ⟨g, off, none⟩) kids.length c) ∧ u.cell? ⟨g, off, none⟩ = some (.int .i8 (q : Int)) ∧ u.cell? ⟨g, off + 1, none⟩ = some (.string xt.v) ∧ u.cell? ⟨g, off + 2, none⟩ = some (.int .i8 xt.a.k) ∧ u.cell? ⟨g, off + 3, none⟩ = some (.int .i64 xt.a.n) ∧ u.cell? ⟨g, off + 4, none⟩ = some (.string xt.a.s) ∧ u.cell? ⟨g, off + 5, none⟩ = some (.slice a0 xk.length c0) ∧ u.cell? ⟨2, q, none⟩ = some (.int .i64 _) ∧ u.cell? ⟨2, p, none⟩ = some (.int .i64 3))) (by kernel_rfl) (HS.out _ HH2.out.drew) (fun hHeld => ?_)
            refine wpAnyH_take (i := 0) (v := ?_) rfl (by kernel_rfl) (by kernel_rfl) (by kernel_rfl) (fun _ _ _ h => h) (Or.inl ⟨by rfl, ?_⟩) (by assumption) ?_
            rotate_left
            · (intro u hSw; (try dsimp only at hSw); go_simp; try (with_reducible rfl))
            simp only [Act.put, List.setIfInBounds_toArray, List.set_cons_zero, List.set_cons_succ]
            refine wpAnyH_take (i := 1) (v := ?_) rfl (by kernel_rfl) (by kernel_rfl) (by kernel_rfl) (fun _ _ _ h => h) (Or.inl ⟨by rfl, ?_⟩) (by assumption) ?_
            rotate_left
            · (intro u hSw; (try dsimp only at hSw); go_simp; try (with_reducible rfl))
            simp only [Act.put, List.setIfInBounds_toArray, List.set_cons_zero, List.set_cons_succ]
            refine wpAnyH_take (i := 2) (v := ?_) rfl (by kernel_rfl) (by kernel_rfl) (by kernel_rfl) (fun _ _ _ h => h) (Or.inl ⟨by rfl, ?_⟩) (by assumption) ?_
            rotate_left
            · (intro u hSw; (try dsimp only at hSw); go_simp; try (with_reducible rfl))
            simp only [Act.put, List.setIfInBounds_toArray, List.set_cons_zero, List.set_cons_succ]
            refine wpAnyH_take (i := 3) (v := ?_) rfl (by kernel_rfl) (by kernel_rfl) (by kernel_rfl) (fun _ _ _ h => h) (Or.inl ⟨by rfl, ?_⟩) (by assumption) ?_
            rotate_left
            · (intro u hSw; (try dsimp only at hSw); go_simp; try (with_reducible rfl))
            simp only [Act.put, List.setIfInBounds_toArray, List.set_cons_zero, List.set_cons_succ]
            refine wpAnyH_take (i := 4) (v := ?_) rfl (by kernel_rfl) (by kernel_rfl) (by kernel_rfl) (fun _ _ _ h => h) (Or.inl ⟨by rfl, ?_⟩) (by assumption) ?_
            rotate_left
            · (intro u hSw; (try dsimp only at hSw); go_simp; try (with_reducible rfl))
            simp only [Act.put, List.setIfInBounds_toArray, List.set_cons_zero, List.set_cons_succ]
            refine wpAnyH_take (i := 5) (v := ?_) rfl (by kernel_rfl) (by kernel_rfl) (by kernel_rfl) (fun _ _ _ h => h) (Or.inl ⟨by rfl, ?_⟩) (by assumption) ?_
            rotate_left
            · (intro u hSw; (try dsimp only at hSw); go_simp; try (with_reducible rfl))
            simp only [Act.put, List.setIfInBounds_toArray, List.set_cons_zero, List.set_cons_succ]
            refine wpAnyH_take (i := 6) (v := ?_) rfl (by kernel_rfl) (by kernel_rfl) (by kernel_rfl) (fun _ _ _ h => h) (Or.inl ⟨by rfl, ?_⟩) (by assumption) ?_
            rotate_left
            · (intro u hSw; (try dsimp only at hSw); go_simp; try (with_reducible rfl))
            simp only [Act.put, List.setIfInBounds_toArray, List.set_cons_zero, List.set_cons_succ]
            refine wpAnyH_take (i := 7) (v := ?_) rfl (by kernel_rfl) (by kernel_rfl) (by kernel_rfl) (fun _ _ _ h => h) (Or.inl ⟨by rfl, ?_⟩) (by assumption) ?_
            rotate_left
            · (intro u hSw; (try dsimp only at hSw); go_simp; try (with_reducible rfl))
            simp only [Act.put, List.setIfInBounds_toArray, List.set_cons_zero, List.set_cons_succ]
            refine wpAnyH_take (i := 8) (v := ?_) rfl (by kernel_rfl) (by kernel_rfl) (by kernel_rfl) (fun _ _ _ h => h) (Or.inl ⟨by rfl, ?_⟩) (by assumption) ?_
            rotate_left
            · (intro u hSw; (try dsimp only at hSw); go_simp; try (with_reducible rfl))
            simp only [Act.put, List.setIfInBounds_toArray, List.set_cons_zero, List.set_cons_succ]
            refine wpAnyH_take (i := 9) (v := ?_) rfl (by kernel_rfl) (by kernel_rfl) (by kernel_rfl) (fun _ _ _ h => h) (Or.inl ⟨by rfl, ?_⟩) (by assumption) ?_
            rotate_left
            · (intro u hSw; (try dsimp only at hSw); go_simp; try (with_reducible rfl))
            simp only [Act.put, List.setIfInBounds_toArray, List.set_cons_zero, List.set_cons_succ]
            refine wpAnyH_take (i := 10) (v := ?_) rfl (by kernel_rfl) (by kernel_rfl) (by kernel_rfl) (fun _ _ _ h => h) (Or.inl ⟨by rfl, ?_⟩) (by assumption) ?_
            rotate_left
            · (intro u hSw; (try dsimp only at hSw); go_simp; try (with_reducible rfl))
            simp only [Act.put, List.setIfInBounds_toArray, List.set_cons_zero, List.set_cons_succ]
            refine wpAnyH_take (i := 11) (v := ?_) rfl (by kernel_rfl) (by kernel_rfl) (by kernel_rfl) (fun _ _ _ h => h) (Or.inl ⟨by rfl, ?_⟩) (by assumption) ?_
            rotate_left
            · (intro u hSw; (try dsimp only at hSw); go_simp; try (with_reducible rfl))
            simp only [Act.put, List.setIfInBounds_toArray, List.set_cons_zero, List.set_cons_succ]
            refine wpAnyH_take (i := 12) (v := ?_) rfl (by kernel_rfl) (by kernel_rfl) (by kernel_rfl) (fun _ _ _ h => h) (Or.inl ⟨by rfl, ?_⟩) (by assumption) ?_
            rotate_left
            · (intro u hSw; (try dsimp only at hSw); go_simp; try (with_reducible rfl))
            simp only [Act.put, List.setIfInBounds_toArray, List.set_cons_zero, List.set_cons_succ]
            refine wpAnyH_take (i := 13) (v := ?_) rfl (by kernel_rfl) (by kernel_rfl) (by kernel_rfl) (fun _ _ _ h => h) (Or.inl ⟨by rfl, ?_⟩) (by assumption) ?_
            rotate_left
            · (intro u hSw; (try dsimp only at hSw); go_simp; try (with_reducible rfl))
            simp only [Act.put, List.setIfInBounds_toArray, List.set_cons_zero, List.set_cons_succ]
            refine wpAnyH_take (i := 14) (v := ?_) rfl (by kernel_rfl) (by kernel_rfl) (by kernel_rfl) (fun _ _ _ h => h) (Or.inl ⟨by rfl, ?_⟩) (by assumption) ?_
            rotate_left
            · (intro u hSw; (try dsimp only at hSw); go_simp; try (with_reducible rfl))
            simp only [Act.put, List.setIfInBounds_toArray, List.set_cons_zero, List.set_cons_succ]
            refine wpAnyH_take (i := 15) (v := ?_) rfl (by kernel_rfl) (by kernel_rfl) (by kernel_rfl) (fun _ _ _ h => h) (Or.inl ⟨by rfl, ?_⟩) (by assumption) ?_
            rotate_left
            · (intro u hSw; (try dsimp only at hSw); go_simp; try (with_reducible rfl))
            simp only [Act.put, List.setIfInBounds_toArray, List.set_cons_zero, List.set_cons_succ]
            refine wpAnyH_take (i := 16) (v := ?_) rfl (by kernel_rfl) (by kernel_rfl) (by kernel_rfl) (fun _ _ _ h => h) (Or.inl ⟨by rfl, ?_⟩) (by assumption) ?_
            rotate_left
            · (intro u hSw; (try dsimp only at hSw); go_simp; try (with_reducible rfl))
            simp only [Act.put, List.setIfInBounds_toArray, List.set_cons_zero, List.set_cons_succ]
            refine wpAnyH_take (i := 17) (v := ?_) rfl (by kernel_rfl) (by kernel_rfl) (by kernel_rfl) (fun _ _ _ h => h) (Or.inl ⟨by rfl, ?_⟩) (by assumption) ?_
            rotate_left
            · (intro u hSw; (try dsimp only at hSw); go_simp; try (with_reducible rfl))
            simp only [Act.put, List.setIfInBounds_toArray, List.set_cons_zero, List.set_cons_succ]
            refine wpAnyH_take (i := 18) (v := undef) rfl (by kernel_rfl) (by kernel_rfl) (by kernel_rfl) (fun _ _ _ h => h) (Or.inr ⟨by kernel_rfl, rfl⟩) (by assumption) ?_
            simp only [Act.put, List.setIfInBounds_toArray, List.set_cons_zero, List.set_cons_succ]
            refine wpAnyH_take (i := 19) (v := undef) rfl (by kernel_rfl) (by kernel_rfl) (by kernel_rfl) (fun _ _ _ h => h) (Or.inr ⟨by kernel_rfl, rfl⟩) (by assumption) ?_
            simp only [Act.put, List.setIfInBounds_toArray, List.set_cons_zero, List.set_cons_succ]
            refine wpAnyH_take (i := 20) (v := undef) rfl (by kernel_rfl) (by kernel_rfl) (by kernel_rfl) (fun _ _ _ h => h) (Or.inr ⟨by kernel_rfl, rfl⟩) (by assumption) ?_
            simp only [Act.put, List.setIfInBounds_toArray, List.set_cons_zero, List.set_cons_succ]
            refine wpAnyH_take (i := 21) (v := undef) rfl (by kernel_rfl) (by kernel_rfl) (by kernel_rfl) (fun _ _ _ h => h) (Or.inr ⟨by kernel_rfl, rfl⟩) (by assumption) ?_
            simp only [Act.put, List.setIfInBounds_toArray, List.set_cons_zero, List.set_cons_succ]
            refine wpAnyH_take (i := 22) (v := undef) rfl (by kernel_rfl) (by kernel_rfl) (by kernel_rfl) (fun _ _ _ h => h) (Or.inr ⟨by kernel_rfl, rfl⟩) (by assumption) ?_
            simp only [Act.put, List.setIfInBounds_toArray, List.set_cons_zero, List.set_cons_succ]
            refine wpAnyH_take (i := 23) (v := ?_) rfl (by kernel_rfl) (by kernel_rfl) (by kernel_rfl) (fun _ _ _ h => h) (Or.inl ⟨by rfl, ?_⟩) (by assumption) ?_
            rotate_left
            · (intro u hSw; (try dsimp only at hSw); go_simp; try (with_reducible rfl))
            simp only [Act.put, List.setIfInBounds_toArray, List.set_cons_zero, List.set_cons_succ]
            refine wpAnyH_ready (rs := [24]) (by kernel_rfl) (by simp) ?_
            refine AllReadyH.cons (o := { dst := some 88, op := Op.call { callee := Callee.value (Operand.func 69), args := #[Operand.tmp 64, Operand.tmp 68, Operand.tmp 87], argTypes := #[50, 75, 4] }, type := 0, pos := "expr.go:40", after := #[{ on := 0, ground := Ground.data }, { on := 4, ground := Ground.data }, { on := 23, ground := Ground.data }, { on := 22, ground := Ground.chain }], guard := none }) rfl (fun K hK => ?_) AllReadyH.nil
            go_simp
            refine (kid_any (.mk q xt xk) a0 c0 tx W0 true hW IH0.out (l ++ opT p) _ HH2.out.drew.big HB3.out hB2 HL2.out).mono ?_
            rintro ee w4 ⟨rfl, k5, k6, k7⟩
            have hH4 := HH2.out.drew.next hW k6 k7
            refine hK.out _ _ (HS.out _ hH4) (fun hHeld2 => ?_)
            refine wpAnyH_done (by kernel_rfl) ?_ _
            go_wp2
            go_end0
            exact ⟨rfl, by rw [← HTX.out, ← List.append_assoc]; exact k5, hH4.blo, hH4.spa⟩
        · have hd : decide ((3 : Int) < 3) = false := rfl
          rw [hd, Bool.false_or] at HL2 HTX
          go_wp2_with fail
          go_region_held3 (fun u => u.cell? ⟨w.heap.size, 0, none⟩ = some (.int .i8 (p : Int)) ∧ u.cell? ⟨w.heap.size, 5, none⟩ = some (.slice (some ⟨g, off, none⟩) kids.length c) ∧ u.cell? ⟨g, off, none⟩ = some (.int .i8 (q : Int)) ∧ u.cell? ⟨g, off + 1, none⟩ = some (.string xt.v) ∧ u.cell? ⟨g, off + 2, none⟩ = some (.int .i8 xt.a.k) ∧ u.cell? ⟨g, off + 3, none⟩ = some (.int .i64 xt.a.n) ∧ u.cell? ⟨g, off + 4, none⟩ = some (.string xt.a.s) ∧ u.cell? ⟨g, off + 5, none⟩ = some (.slice a0 xk.length c0) ∧ u.cell? ⟨2, q, none⟩ = some (.int .i64 3) ∧ u.cell? ⟨2, p, none⟩ = some (.int .i64 3))
            (first
              | assumption
              | exact HS.out _ HH2.out
              | exact HS.out _ HH2.out.drew
              | exact HS.out _ (by assumption))
            (first
              | (go_at_call 70; refine (isUnsigned_any (.mk q xt xk) a0 c0 _).mono ?_; rintro ee w3 ⟨rfl, k4⟩; have hH3 := HH2.out.drew.next hW (k4.mono hB2) (Spare.below k4); have hB3 := HB3.out.below k4)
              | (go_at_call 69; refine (kid_any (.mk q xt xk) a0 c0 tx W0 (unsB (.mk q xt xk)) hW IH0.out (l ++ opT p) _ hH3.big hB3 (Nat.le_trans hBw hH3.blo.size) HL2.out).mono ?_; rintro ee w4 ⟨rfl, k5, k6, k7⟩; have hH4 := hH3.next hW k6 k7)
              | fail)
          go_wp2
          go_end0
          exact ⟨rfl, by rw [← HTX.out, ← List.append_assoc]; exact k5, hH4.blo, hH4.spa⟩
        · have hd : decide ((4 : Int) < 3) = false := rfl
          rw [hd, Bool.false_or] at HL2 HTX
          go_wp2_with fail
          go_region_held3 (fun u => u.cell? ⟨w.heap.size, 0, none⟩ = some (.int .i8 (p : Int)) ∧ u.cell? ⟨w.heap.size, 5, none⟩ = some (.slice (some ⟨g, off, none⟩) kids.length c) ∧ u.cell? ⟨g, off, none⟩ = some (.int .i8 (q : Int)) ∧ u.cell? ⟨g, off + 1, none⟩ = some (.string xt.v) ∧ u.cell? ⟨g, off + 2, none⟩ = some (.int .i8 xt.a.k) ∧ u.cell? ⟨g, off + 3, none⟩ = some (.int .i64 xt.a.n) ∧ u.cell? ⟨g, off + 4, none⟩ = some (.string xt.a.s) ∧ u.cell? ⟨g, off + 5, none⟩ = some (.slice a0 xk.length c0) ∧ u.cell? ⟨2, q, none⟩ = some (.int .i64 4) ∧ u.cell? ⟨2, p, none⟩ = some (.int .i64 3))
            (first
              | assumption
              | exact HS.out _ HH2.out
              | exact HS.out _ HH2.out.drew
              | exact HS.out _ (by assumption))
            (first
              | (go_at_call 70; refine (isUnsigned_any (.mk q xt xk) a0 c0 _).mono ?_; rintro ee w3 ⟨rfl, k4⟩; have hH3 := HH2.out.drew.next hW (k4.mono hB2) (Spare.below k4); have hB3 := HB3.out.below k4)
              | (go_at_call 69; refine (kid_any (.mk q xt xk) a0 c0 tx W0 (unsB (.mk q xt xk)) hW IH0.out (l ++ opT p) _ hH3.big hB3 (Nat.le_trans hBw hH3.blo.size) HL2.out).mono ?_; rintro ee w4 ⟨rfl, k5, k6, k7⟩; have hH4 := hH3.next hW k6 k7)
              | fail)
          go_wp2
          go_end0
          exact ⟨rfl, by rw [← HTX.out, ← List.append_assoc]; exact k5, hH4.blo, hH4.spa⟩
      · have dp1 : ((p : Int) == 1) = false := by rw [beq_eq_false_iff_ne]; omega
        by_cases hp8 : 8 ≤ p
        · have hT : Hid (textE (r + 1) (.mk p t kids) = opT p ++ kidT true (textE r (atE kids 0))) := by
            show _ = _
            rw [HT.out, if_neg hpz, if_neg (by omega), if_pos (by omega)]
          rw [hT.out] at HL ⊢
          have F : ((p : Int) == 8) = true ∨ (((p : Int) == 8) = false ∧ ((p : Int) == 9) = true) ∨ (((p : Int) == 8) = false ∧ ((p : Int) == 9) = false ∧ ((p : Int) == 10) = true) := by
            rcases (by omega : p = 8 ∨ p = 9 ∨ p = 10) with rfl | rfl | rfl
            · exact .inl rfl
            · exact .inr (.inl ⟨rfl, rfl⟩)
            · exact .inr (.inr ⟨rfl, rfl, rfl⟩)
          clear HT hT IH HOP HK f3 f4 hp0 hKS he0 hp1 hp8
          generalize atE kids 0 = x at hx0 IH0 hq HL ⊢
          obtain ⟨xo, xt, xk⟩ := x
          simp only [op_mk, t_mk, kids_mk] at hx0 hq
          subst hq
          generalize textE r (.mk (q : Int) xt xk) = tx at IH0 HL ⊢
          have HL1 : Hid (l.length + ((opS p).size + (kidT true tx).length) ≤ 1099511627776) := by have := HL.out; rw [List.length_append, ← opS_size] at this; exact this
          clear HL
          have HS : Hid (∀ u, Held B b w.heap.size p t (.slice (some ⟨g, off, none⟩) kids.length c) W0 w u → u.cell? ⟨w.heap.size, 0, none⟩ = some (.int .i8 (p : Int)) ∧ u.cell? ⟨w.heap.size, 5, none⟩ = some (.slice (some ⟨g, off, none⟩) kids.length c) ∧ u.cell? ⟨g, off, none⟩ = some (.int .i8 (q : Int)) ∧ u.cell? ⟨g, off + 1, none⟩ = some (.string xt.v) ∧ u.cell? ⟨g, off + 2, none⟩ = some (.int .i8 xt.a.k) ∧ u.cell? ⟨g, off + 3, none⟩ = some (.int .i64 xt.a.n) ∧ u.cell? ⟨g, off + 4, none⟩ = some (.string xt.a.s) ∧ u.cell? ⟨g, off + 5, none⟩ = some (.slice a0 xk.length c0)) := by
            intro u hu
            obtain ⟨z0, z1, z2, z3, z4, z5⟩ := hu.at
            obtain ⟨y0, y1, y2, y3, y4, y5⟩ := hx0.below hu.big hg
            simp only [Nat.zero_mul, Nat.add_zero] at y0 y1 y2 y3 y4 y5
            exact ⟨z0, z5, y0, y1, y2, y3, y4, y5⟩
          have co := (HG.out _ HH.out.big).op p hp11
          have HOB : Hid ((opS p).data.toList = opT p) := opS_bytes p
          generalize opS p = os at co HL1 HOB
          have hk0' : (0 : Int) < (kids.length : Int) := by omega
          obtain ⟨TX, hTX⟩ : ∃ TX, opT p ++ kidT true tx = TX := ⟨_, rfl⟩
          rw [hTX]
          have HTX : Hid _ := hTX
          clear hTX hx0 hpz
          rcases F with d8 | ⟨d8, d9⟩ | ⟨d8, d9, d10⟩
          all_goals
            go_enter Tryz.func48, Tryz.ntmps48
            go_wp2_with fail
            refine (put_new (g := w.heap.size + 1) os (by simp) HB.out hBs (by have := HL1.out; omega)).mono ?_
            rintro ee w2 ⟨rfl, k1, k2, k3⟩
            have HH2 : Hid (Held B b w.heap.size p t (.slice (some ⟨g, off, none⟩) kids.length c) W0 w w2) := HH.out.next hW k2 k3
            have HB2 : Hid (BldA B b (l ++ opT p) w2) := by rw [HOB.out] at k1; exact k1
            have HL2 : Hid ((l ++ opT p).length + (kidT true tx).length ≤ 1099511627776) := by
              have := HL1.out
              show _ ≤ _
              rw [List.length_append, ← HOB.out, len_toList]; omega
            clear k1 k2 k3 co
            obtain ⟨z0, z5, y0, y1, y2, y3, y4, y5⟩ := HS.out _ HH2.out
            have hB2 : B ≤ w2.heap.size := Nat.le_trans hBw HH2.out.blo.size
            go_wp2_with fail
            refine (kid_any (.mk q xt xk) a0 c0 tx W0 true hW IH0.out (l ++ opT p) _ HH2.out.big HB2.out hB2 HL2.out).mono ?_
            rintro ee w4 ⟨rfl, k5, k6, k7⟩
            have hH4 := HH2.out.next hW k6 k7
            clear z0 z5 y0 y1 y2 y3 y4 y5
            go_wp2
            go_end0
            exact ⟨rfl, by rw [← HTX.out, ← List.append_assoc]; exact k5, hH4.blo, hH4.spa⟩
        · have hk2 : kids.length = 2 := by
            rw [f3]
            have : ∀ q : Fin 11, q.val ≠ 0 → q.val ≠ 1 → ¬ 8 ≤ q.val → kidsOf q.val = 2 := by decide
            exact this ⟨p, hp11⟩ hp0 hp1 hp8
          have hk1 : 1 < kids.length := by omega
          obtain ⟨a1, c1, hx1, he1⟩ := hKS 1 hk1
          have IH1 : Hid _ := IH.out 1 hk1 hpz a1 c1 he1
          obtain ⟨q', hq', hq11'⟩ := HOP.out 1 hk1 hpz
          have d8 : ((p : Int) == 8) = false := by rw [beq_eq_false_iff_ne]; omega
          have d9 : ((p : Int) == 9) = false := by rw [beq_eq_false_iff_ne]; omega
          have d10 : ((p : Int) == 10) = false := by rw [beq_eq_false_iff_ne]; omega
          have hT : Hid (textE (r + 1) (.mk p t kids) = kidT (decide (holdT q < holdT p)) (textE r (atE kids 0)) ++ (([32] ++ opT p ++ [32]) ++ kidT (decide (holdT q' ≤ holdT p)) (textE r (atE kids 1)))) := by
            show _ = _
            rw [HT.out, if_neg hpz, if_neg (by omega), if_neg (by omega), hq, hq', Int.toNat_natCast, Int.toNat_natCast]
          rw [hT.out] at HL ⊢
          clear HT hT IH HOP HK f3 f4 hp0 hKS he0 he1 hp1 hp8
          generalize atE kids 0 = x at hx0 IH0 hq HL ⊢
          generalize atE kids 1 = x' at hx1 IH1 hq' HL ⊢
          obtain ⟨xo, xt, xk⟩ := x
          obtain ⟨xo', xt', xk'⟩ := x'
          simp only [op_mk, t_mk, kids_mk] at hx0 hq hx1 hq'
          subst hq hq'
          generalize textE r (.mk (q : Int) xt xk) = tx at IH0 HL ⊢
          generalize textE r (.mk (q' : Int) xt' xk') = tx' at IH1 HL ⊢
          have HL1 : Hid (l.length + ((kidT (decide (holdT q < holdT p)) tx).length + (2 + (opS p).size + (kidT (decide (holdT q' ≤ holdT p)) tx').length)) ≤ 1099511627776) := by
            have := HL.out
            simp only [List.length_append, List.length_cons, List.length_nil, ← opS_size] at this
            show _ ≤ _
            omega
          clear HL
          have HS : Hid (∀ u, Held B b w.heap.size p t (.slice (some ⟨g, off, none⟩) kids.length c) W0 w u → u.cell? ⟨w.heap.size, 0, none⟩ = some (.int .i8 (p : Int)) ∧ u.cell? ⟨w.heap.size, 5, none⟩ = some (.slice (some ⟨g, off, none⟩) kids.length c) ∧ u.cell? ⟨g, off, none⟩ = some (.int .i8 (q : Int)) ∧ u.cell? ⟨g, off + 1, none⟩ = some (.string xt.v) ∧ u.cell? ⟨g, off + 2, none⟩ = some (.int .i8 xt.a.k) ∧ u.cell? ⟨g, off + 3, none⟩ = some (.int .i64 xt.a.n) ∧ u.cell? ⟨g, off + 4, none⟩ = some (.string xt.a.s) ∧ u.cell? ⟨g, off + 5, none⟩ = some (.slice a0 xk.length c0) ∧ u.cell? ⟨2, q, none⟩ = some (.int .i64 (holdT q)) ∧ u.cell? ⟨2, p, none⟩ = some (.int .i64 (holdT p))) := by
            intro u hu
            obtain ⟨z0, z1, z2, z3, z4, z5⟩ := hu.at
            obtain ⟨y0, y1, y2, y3, y4, y5⟩ := hx0.below hu.big hg
            simp only [Nat.zero_mul, Nat.add_zero] at y0 y1 y2 y3 y4 y5
            exact ⟨z0, z5, y0, y1, y2, y3, y4, y5, (HG.out u hu.big).ho q hq11, (HG.out u hu.big).ho p hp11⟩
          have HS1 : Hid (∀ u, Held B b w.heap.size p t (.slice (some ⟨g, off, none⟩) kids.length c) W0 w u → u.cell? ⟨w.heap.size, 0, none⟩ = some (.int .i8 (p : Int)) ∧ u.cell? ⟨w.heap.size, 5, none⟩ = some (.slice (some ⟨g, off, none⟩) kids.length c) ∧ u.cell? ⟨g, off + 6, none⟩ = some (.int .i8 (q' : Int)) ∧ u.cell? ⟨g, off + 6 + 1, none⟩ = some (.string xt'.v) ∧ u.cell? ⟨g, off + 6 + 2, none⟩ = some (.int .i8 xt'.a.k) ∧ u.cell? ⟨g, off + 6 + 3, none⟩ = some (.int .i64 xt'.a.n) ∧ u.cell? ⟨g, off + 6 + 4, none⟩ = some (.string xt'.a.s) ∧ u.cell? ⟨g, off + 6 + 5, none⟩ = some (.slice a1 xk'.length c1) ∧ u.cell? ⟨2, q', none⟩ = some (.int .i64 (holdT q')) ∧ u.cell? ⟨2, p, none⟩ = some (.int .i64 (holdT p))) := by
            intro u hu
            obtain ⟨z0, z1, z2, z3, z4, z5⟩ := hu.at
            obtain ⟨y0, y1, y2, y3, y4, y5⟩ := hx1.below hu.big hg
            simp only [Nat.one_mul] at y0 y1 y2 y3 y4 y5
            exact ⟨z0, z5, y0, y1, y2, y3, y4, y5, (HG.out u hu.big).ho q' hq11', (HG.out u hu.big).ho p hp11⟩
          have HCO : Hid (∀ u, Held B b w.heap.size p t (.slice (some ⟨g, off, none⟩) kids.length c) W0 w u → u.cell? ⟨1, p, none⟩ = some (.string (opS p))) := fun u hu => (HG.out u hu.big).op p hp11
          have HOB : Hid ((opS p).data.toList = opT p) := opS_bytes p
          generalize opS p = os at HCO HL1 HOB
          generalize holdT p = h1 at HS HS1 HL1 ⊢
          generalize holdT q = h2 at HS HL1 ⊢
          generalize holdT q' = h3 at HS1 HL1 ⊢
          obtain ⟨TX, hTX⟩ : ∃ TX, kidT (decide (h2 < h1)) tx ++ (([32] ++ opT p ++ [32]) ++ kidT (decide (h3 ≤ h1)) tx') = TX := ⟨_, rfl⟩
          rw [hTX]
          have HTX : Hid _ := hTX
          have hk0' : (0 : Int) < (kids.length : Int) := by omega
          have hk1' : (1 : Int) < (kids.length : Int) := by omega
          have hq11i : (q : Int) < 11 := by omega
          have hq11i' : (q' : Int) < 11 := by omega
          clear hTX hx0 hx1 hpz hk2 hk1
          have hS0 := HS.out _ HH.out
          go_enter Tryz.func48, Tryz.ntmps48
          go_wp2_with fail
          go_region_held3 (fun u => u.cell? ⟨w.heap.size, 0, none⟩ = some (.int .i8 (p : Int)) ∧ u.cell? ⟨w.heap.size, 5, none⟩ = some (.slice (some ⟨g, off, none⟩) kids.length c) ∧ u.cell? ⟨g, off, none⟩ = some (.int .i8 (q : Int)) ∧ u.cell? ⟨g, off + 1, none⟩ = some (.string xt.v) ∧ u.cell? ⟨g, off + 2, none⟩ = some (.int .i8 xt.a.k) ∧ u.cell? ⟨g, off + 3, none⟩ = some (.int .i64 xt.a.n) ∧ u.cell? ⟨g, off + 4, none⟩ = some (.string xt.a.s) ∧ u.cell? ⟨g, off + 5, none⟩ = some (.slice a0 xk.length c0) ∧ u.cell? ⟨2, q, none⟩ = some (.int .i64 h2) ∧ u.cell? ⟨2, p, none⟩ = some (.int .i64 h1))
            (first
              | assumption
              | exact HS.out _ HH.out
              | exact HS.out _ HH.out.drew
              | exact HS.out _ (by assumption))
            (first
              | (go_at_call 69; refine (kid_any (.mk q xt xk) a0 c0 tx W0 (decide (h2 < h1)) hW IH0.out l _ HH.out.drew.big HB.out hBs (by have := HL1.out; omega)).mono ?_; rintro ee w4 ⟨rfl, k5, k6, k7⟩; have hH4 := HH.out.drew.next hW k6 k7)
              | fail)
          have HH4 : Hid (Held B b w.heap.size p t (.slice (some ⟨g, off, none⟩) kids.length c) W0 w w4) := hH4
          have HB4 : Hid (BldA B b (l ++ kidT (decide (h2 < h1)) tx) w4) := k5
          have x0 := (HS.out _ hH4).1
          have co := HCO.out _ hH4
          have hB4 : B ≤ w4.heap.size := Nat.le_trans hBw hH4.blo.size
          clear k5 k6 k7 hH4 hS0
          go_wp2_with fail
          refine (put_new3 (g := w4.heap.size) ⟨#[32]⟩ os ⟨#[32]⟩ rfl HB4.out hB4 (by have := HL1.out; rw [List.length_append]; show _ + (1 + os.size + 1) ≤ _; omega)).mono ?_
          rintro ee w5 ⟨rfl, k5, k6, k7⟩
          have HH5 : Hid (Held B b w.heap.size p t (.slice (some ⟨g, off, none⟩) kids.length c) W0 w w5) := HH4.out.next hW k6 k7
          have HB5 : Hid (BldA B b (l ++ kidT (decide (h2 < h1)) tx ++ ([32] ++ opT p ++ [32])) w5) := by rw [HOB.out] at k5; exact k5
          have HL5 : Hid ((l ++ kidT (decide (h2 < h1)) tx ++ ([32] ++ opT p ++ [32])).length + (kidT (decide (h3 ≤ h1)) tx').length ≤ 1099511627776) := by
            have := HL1.out
            show _ ≤ _
            simp only [List.length_append, List.length_cons, List.length_nil]
            rw [← HOB.out, len_toList]; omega
          have hB5 : B ≤ w5.heap.size := Nat.le_trans hBw HH5.out.blo.size
          have HB6 : Hid (BldA B b (l ++ kidT (decide (h2 < h1)) tx ++ ([32] ++ opT p ++ [32])) w5.drew) := HB5.out
          have hS5 := HS1.out _ HH5.out
          clear k5 k6 k7 co x0 HH4 HB4
          go_wp2_with fail
          go_region_held3 (fun u => u.cell? ⟨w.heap.size, 0, none⟩ = some (.int .i8 (p : Int)) ∧ u.cell? ⟨w.heap.size, 5, none⟩ = some (.slice (some ⟨g, off, none⟩) kids.length c) ∧ u.cell? ⟨g, off + 6, none⟩ = some (.int .i8 (q' : Int)) ∧ u.cell? ⟨g, off + 6 + 1, none⟩ = some (.string xt'.v) ∧ u.cell? ⟨g, off + 6 + 2, none⟩ = some (.int .i8 xt'.a.k) ∧ u.cell? ⟨g, off + 6 + 3, none⟩ = some (.int .i64 xt'.a.n) ∧ u.cell? ⟨g, off + 6 + 4, none⟩ = some (.string xt'.a.s) ∧ u.cell? ⟨g, off + 6 + 5, none⟩ = some (.slice a1 xk'.length c1) ∧ u.cell? ⟨2, q', none⟩ = some (.int .i64 h3) ∧ u.cell? ⟨2, p, none⟩ = some (.int .i64 h1))
            (first
              | assumption
              | exact HS1.out _ HH5.out
              | exact HS1.out _ HH5.out.drew
              | exact HS1.out _ (by assumption))
            (first
              | (go_at_call 69; refine (kid_any (.mk q' xt' xk') a1 c1 tx' W0 (decide (h3 ≤ h1)) hW IH1.out _ _ HH5.out.drew.big HB6.out hB5 HL5.out).mono ?_; rintro ee w6 ⟨rfl, k5, k6, k7⟩; have hH6 := HH5.out.drew.next hW k6 k7)
              | fail)
          go_wp2
          go_end0
          exact ⟨rfl, by rw [← HTX.out, ← List.append_assoc, ← List.append_assoc]; exact k5, hH6.blo, hH6.spa⟩
end Go.Proofs.YtikjphfeeljhbaaGreatDoor
