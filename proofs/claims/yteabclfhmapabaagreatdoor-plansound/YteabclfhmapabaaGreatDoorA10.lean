import Derived.Test.YteabclfhmapabaaGreatDoorA9
import Derived.Test.YteabclfhmapabaaGreatDoorA0
import Derived.OrdersHeld
import Derived.Deep.RegionHeld3
section
namespace Go.Proofs.YteabclfhmapabaaGreatDoor
open Go.RowKit Go.Maps
set_option linter.unusedVariables false
set_option linter.unusedSimpArgs false
attribute [local go_sem ↓] Go.wp_at_zero Go.wp_at_succ

/-- an equation: its block, what it says, and what is left of its sides -/
structure Er where
  be : Nat
  q : Qn
  l0 : Option Vb
  x0 : List Vb
  a0 : Option Addr
  c0 : Nat
  l1 : Option Vb
  x1 : List Vb
  a1 : Option Addr
  c1 : Nat
def ptrO : Option Vb → Value
  | some x => ptrV x
  | none => .pointer none
/-- an equation in memory, beside a finder -/
structure EqIs (bf bm : Nat) (vs : List Vb) (fs : List ByteArray) (sv : Value) (w : World) (r : Er) : Prop where
  row : RL w r.be 120 [ptrO r.l0, .slice r.a0 r.x0.length r.c0, ptrO r.l1, .slice r.a1 r.x1.length r.c1]
  q0 : Lq w r.a0 r.c0 r.x0
  q1 : Lq w r.a1 r.c1 r.x1
  n0 : r.q.1.lone = r.l0.map Vb.v
  n1 : r.q.2.lone = r.l1.map Vb.v
  v0 : ∃ ds, r.q.1.vars = ds ++ r.x0.map Vb.v ∧ ∀ n ∈ ds, n ∈ fs
  v1 : ∃ ds, r.q.2.vars = ds ++ r.x1.map Vb.v ∧ ∀ n ∈ ds, n ∈ fs
  m0 : ∀ x, r.l0 = some x → x ∈ vs
  m1 : ∀ x, r.l1 = some x → x ∈ vs
  i0 : ∀ x ∈ r.x0, x ∈ vs
  i1 : ∀ x ∈ r.x1, x ∈ vs
  nf : ¬ FP bf bm vs sv r.be
  g0 : ∀ g off, r.a0 = some ⟨g, off, none⟩ → ¬ FP bf bm vs sv g ∧ g ≠ r.be ∧ g < w.heap.size
  g1 : ∀ g off, r.a1 = some ⟨g, off, none⟩ → ¬ FP bf bm vs sv g ∧ g ≠ r.be ∧ g < w.heap.size
/-- what a finder and an equation are behind give -/
def GvP (B bf bm : Nat) (vs : List Vb) (fs : List ByteArray) (sv : Value) (r : Er) (o : Option ByteArray) (w w' : World) : Prop :=
  ∃ r' sv', r'.be = r.be ∧ (r'.q = r.q ∧ r'.l0 = r.l0 ∧ r'.l1 = r.l1) ∧ (∀ g off, (r'.a0 = some ⟨g, off, none⟩ → ∃ off0, r.a0 = some ⟨g, off0, none⟩) ∧ (r'.a1 = some ⟨g, off, none⟩ → ∃ off0, r.a1 = some ⟨g, off0, none⟩)) ∧ Fd B bf bm vs (fs ++ o.toList) sv' w' ∧ EqIs bf bm vs (fs ++ o.toList) sv' w' r' ∧ Tz (fun k => FP bf bm vs sv k ∨ k = r.be) w w' ∧ (∀ g, sv'.ownBlock = some g → sv.ownBlock = some g ∨ w.heap.size ≤ g)
theorem GvP.still {B bf bm : Nat} {vs : List Vb} {fs : List ByteArray} {sv : Value} {r : Er} {w : World} (h : Fd B bf bm vs fs sv w) (hr : EqIs bf bm vs fs sv w r) : GvP B bf bm vs fs sv r none w w :=
  ⟨r, sv, rfl, ⟨rfl, rfl, rfl⟩, fun g off => ⟨fun e => ⟨off, e⟩, fun e => ⟨off, e⟩⟩, by simpa using h, by simpa using hr, Tz.refl _ _, fun g hg => .inl hg⟩
theorem Lq.keep {w w' : World} {a : Option Addr} {c : Nat} {xs : List Vb} (h : Lq w a c xs) (hz : w.heap.size ≤ w'.heap.size) (hk : ∀ g off, a = some ⟨g, off, none⟩ → w'.heap[g]? = w.heap[g]?) : Lq w' a c xs := by
  obtain ⟨h1, h2, h3⟩ := h
  refine ⟨h1, h2, fun h0 => ?_⟩
  obtain ⟨g, off, ha, hg, hc⟩ := h3 h0
  exact ⟨g, off, ha, by omega, fun i hi => by rw [World.cell?_of_block (a := ⟨g, off + i, none⟩) (hk g off ha)]; exact hc i hi⟩
/-- an equation stays while its blocks stay -/
theorem EqIs.keep {bf bm : Nat} {vs vs' : List Vb} {fs fs' : List ByteArray} {sv sv' : Value} {w w' : World} {r : Er} {ex : Nat → Prop} (h : EqIs bf bm vs fs sv w r) (ht : Tz ex w w') (hx : ∀ k, ¬ FP bf bm vs sv k → k < w.heap.size → ¬ ex k) (hfs : ∀ n ∈ fs, n ∈ fs') (hvs : ∀ x ∈ vs, x ∈ vs') (hnf : ∀ k, k < w.heap.size → ¬ FP bf bm vs sv k → ¬ FP bf bm vs' sv' k) : EqIs bf bm vs' fs' sv' w' r := by
  have hbl := World.rowIs.lt h.row
  have k0 : ∀ g off, r.a0 = some ⟨g, off, none⟩ → w'.heap[g]? = w.heap[g]? := fun g off e => ht.block g (h.g0 g off e).2.2 (hx g (h.g0 g off e).1 (h.g0 g off e).2.2)
  have k1 : ∀ g off, r.a1 = some ⟨g, off, none⟩ → w'.heap[g]? = w.heap[g]? := fun g off e => ht.block g (h.g1 g off e).2.2 (hx g (h.g1 g off e).1 (h.g1 g off e).2.2)
  refine ⟨World.rowIs.of_block h.row (ht.block r.be hbl (hx r.be h.nf hbl)), h.q0.keep ht.size k0, h.q1.keep ht.size k1, h.n0, h.n1, ?_, ?_, fun x e => hvs x (h.m0 x e), fun x e => hvs x (h.m1 x e), fun x e => hvs x (h.i0 x e), fun x e => hvs x (h.i1 x e), hnf _ hbl h.nf, fun g off e => ⟨hnf g (h.g0 g off e).2.2 (h.g0 g off e).1, (h.g0 g off e).2.1, Nat.lt_of_lt_of_le (h.g0 g off e).2.2 ht.size⟩, fun g off e => ⟨hnf g (h.g1 g off e).2.2 (h.g1 g off e).1, (h.g1 g off e).2.1, Nat.lt_of_lt_of_le (h.g1 g off e).2.2 ht.size⟩⟩
  · obtain ⟨ds, e, hd⟩ := h.v0
    exact ⟨ds, e, fun n hn => hfs n (hd n hn)⟩
  · obtain ⟨ds, e, hd⟩ := h.v1
    exact ⟨ds, e, fun n hn => hfs n (hd n hn)⟩
/-- an equation behind isKnown of its right side, and of its left one -/
theorem EqIs.knownR {bf bm : Nat} {vs : List Vb} {fs : List ByteArray} {sv : Value} {w w' : World} {r : Er} (h : EqIs bf bm vs fs sv w r) (ht : Tz (fun k => k = r.be) w w') (hk : KnR r.be (ptrO r.l0) (.slice r.a0 r.x0.length r.c0) (ptrO r.l1) r.a1 r.x1 fs w') :
    ∃ r', r'.be = r.be ∧ (r'.q = r.q ∧ r'.l0 = r.l0 ∧ r'.l1 = r.l1) ∧ (∀ g off, (r'.a0 = some ⟨g, off, none⟩ → ∃ off0, r.a0 = some ⟨g, off0, none⟩) ∧ (r'.a1 = some ⟨g, off, none⟩ → ∃ off0, r.a1 = some ⟨g, off0, none⟩)) ∧ EqIs bf bm vs fs sv w' r' := by
  obtain ⟨ds, ys, a', c', e, hd, hrow, hl, ha⟩ := hk
  refine ⟨{ r with x1 := ys, a1 := a', c1 := c' }, rfl, ⟨rfl, rfl, rfl⟩, fun g off => ⟨fun e => ⟨off, e⟩, fun e => ha g off e⟩, ?_⟩
  refine ⟨hrow, h.q0.keep ht.size (fun g off e => ht.block g (h.g0 g off e).2.2 (h.g0 g off e).2.1), hl, h.n0, h.n1, h.v0, ?_, h.m0, h.m1, h.i0, fun x hx => h.i1 x (by rw [e]; exact List.mem_append.2 (.inr hx)), h.nf, fun g off e => ⟨(h.g0 g off e).1, (h.g0 g off e).2.1, Nat.lt_of_lt_of_le (h.g0 g off e).2.2 ht.size⟩, fun g off e2 => ?_⟩
  · obtain ⟨d0, e0, h0⟩ := h.v1
    refine ⟨d0 ++ ds.map Vb.v, by rw [e0, e, List.map_append, List.append_assoc], fun n hn => ?_⟩
    rcases List.mem_append.1 hn with hn | hn
    · exact h0 n hn
    · obtain ⟨x, hx, rfl⟩ := List.mem_map.1 hn
      exact hd x hx
  · obtain ⟨off0, e3⟩ := ha g off e2
    exact ⟨(h.g1 g off0 e3).1, (h.g1 g off0 e3).2.1, Nat.lt_of_lt_of_le (h.g1 g off0 e3).2.2 ht.size⟩
theorem EqIs.knownL {bf bm : Nat} {vs : List Vb} {fs : List ByteArray} {sv : Value} {w w' : World} {r : Er} (h : EqIs bf bm vs fs sv w r) (ht : Tz (fun k => k = r.be) w w') (hk : KnL r.be (ptrO r.l0) (ptrO r.l1) (.slice r.a1 r.x1.length r.c1) r.a0 r.x0 fs w') :
    ∃ r', r'.be = r.be ∧ (r'.q = r.q ∧ r'.l0 = r.l0 ∧ r'.l1 = r.l1) ∧ (∀ g off, (r'.a0 = some ⟨g, off, none⟩ → ∃ off0, r.a0 = some ⟨g, off0, none⟩) ∧ (r'.a1 = some ⟨g, off, none⟩ → ∃ off0, r.a1 = some ⟨g, off0, none⟩)) ∧ EqIs bf bm vs fs sv w' r' := by
  obtain ⟨ds, ys, a', c', e, hd, hrow, hl, ha⟩ := hk
  refine ⟨{ r with x0 := ys, a0 := a', c0 := c' }, rfl, ⟨rfl, rfl, rfl⟩, fun g off => ⟨fun e => ha g off e, fun e => ⟨off, e⟩⟩, ?_⟩
  refine ⟨hrow, hl, h.q1.keep ht.size (fun g off e => ht.block g (h.g1 g off e).2.2 (h.g1 g off e).2.1), h.n0, h.n1, ?_, h.v1, h.m0, h.m1, fun x hx => h.i0 x (by rw [e]; exact List.mem_append.2 (.inr hx)), h.i1, h.nf, fun g off e2 => ?_, fun g off e => ⟨(h.g1 g off e).1, (h.g1 g off e).2.1, Nat.lt_of_lt_of_le (h.g1 g off e).2.2 ht.size⟩⟩
  · obtain ⟨d0, e0, h0⟩ := h.v0
    refine ⟨d0 ++ ds.map Vb.v, by rw [e0, e, List.map_append, List.append_assoc], fun n hn => ?_⟩
    rcases List.mem_append.1 hn with hn | hn
    · exact h0 n hn
    · obtain ⟨x, hx, rfl⟩ := List.mem_map.1 hn
      exact hd x hx
  · obtain ⟨off0, e3⟩ := ha g off e2
    exact ⟨(h.g0 g off0 e3).1, (h.g0 g off0 e3).2.1, Nat.lt_of_lt_of_le (h.g0 g off0 e3).2.2 ht.size⟩
/-- what find leaves of what is not the finder's -/
theorem fp_new {B bf bm : Nat} {vs : List Vb} {fs : List ByteArray} {sv sv' : Value} {w : World} (h : Fd B bf bm vs fs sv w) (hn : ∀ g, sv'.ownBlock = some g → sv.ownBlock = some g ∨ w.heap.size ≤ g) : ∀ k, k < w.heap.size → ¬ FP bf bm vs sv k → ¬ FP bf bm vs sv' k := by
  rintro k hk hf (e | e | e | e)
  · exact hf (.inl e)
  · exact hf (.inr (.inl e))
  · rcases hn k e with e | e
    · exact hf (.inr (.inr (.inl e)))
    · omega
  · exact hf (.inr (.inr (.inr e)))
theorem GvP.quiet {B bf bm : Nat} {vs : List Vb} {fs : List ByteArray} {sv : Value} {r r' : Er} {w w' : World} (h : Fd B bf bm vs fs sv w) (hr : EqIs bf bm vs fs sv w r) (ht : Tz (fun k => k = r.be) w w') (h1 : r'.be = r.be) (h2 : r'.q = r.q ∧ r'.l0 = r.l0 ∧ r'.l1 = r.l1) (h3 : ∀ g off, (r'.a0 = some ⟨g, off, none⟩ → ∃ off0, r.a0 = some ⟨g, off0, none⟩) ∧ (r'.a1 = some ⟨g, off, none⟩ → ∃ off0, r.a1 = some ⟨g, off0, none⟩)) (h4 : EqIs bf bm vs fs sv w' r') : GvP B bf bm vs fs sv r none w w' :=
  ⟨r', sv, h1, h2, h3, by simpa using h.keep (fun k hk => ht.block k (h.lt k hk) (fun e => hr.nf (e ▸ hk))), by simpa using h4, ⟨ht.os, ht.tape, ht.output, ht.size, fun b hb he => ht.block b hb (fun e => he (.inr e))⟩, fun g hg => .inl hg⟩
theorem GvP.gave {B bf bm : Nat} {vs : List Vb} {fs : List ByteArray} {sv sv' : Value} {r r' : Er} {w w1 w2 : World} {v : ByteArray} (h : Fd B bf bm vs fs sv w) (hr : EqIs bf bm vs fs sv w r) (ht : Tz (fun k => k = r.be) w w1) (h1 : r'.be = r.be) (h2 : r'.q = r.q ∧ r'.l0 = r.l0 ∧ r'.l1 = r.l1) (h3 : ∀ g off, (r'.a0 = some ⟨g, off, none⟩ → ∃ off0, r.a0 = some ⟨g, off0, none⟩) ∧ (r'.a1 = some ⟨g, off, none⟩ → ∃ off0, r.a1 = some ⟨g, off0, none⟩)) (h4 : EqIs bf bm vs fs sv w1 r')
    (hf1 : Fd B bf bm vs fs sv w1) (hf2 : Fd B bf bm vs (fs ++ [v]) sv' w2) (ht2 : Tz (FP bf bm vs sv) w1 w2) (hn2 : ∀ g, sv'.ownBlock = some g → sv.ownBlock = some g ∨ w1.heap.size ≤ g) : GvP B bf bm vs fs sv r (some v) w w2 := by
  have hnn : ∀ g, sv'.ownBlock = some g → sv.ownBlock = some g ∨ w.heap.size ≤ g := fun g hg => (hn2 g hg).imp id (fun k => Nat.le_trans ht.size k)
  refine ⟨r', sv', h1, h2, h3, hf2, ?_, ?_, hnn⟩
  · exact h4.keep ht2 (fun k hk _ => hk) (fun n hn => List.mem_append.2 (.inl hn)) (fun x hx => hx) (fp_new hf1 hn2)
  · exact Tz.trans ⟨ht.os, ht.tape, ht.output, ht.size, fun b hb he => ht.block b hb (fun e => he (.inr e))⟩ ht2 (fun b _ e => .inl e)
set_option maxHeartbeats 3200000 in
theorem give0_any {B bf bm : Nat} {vs : List Vb} {fs : List ByteArray} {sv : Value} {w : World} (h : Fd B bf bm vs fs sv w) (hB : B ≤ w.heap.size) (r : Er) (hr : EqIs bf bm vs fs sv w r) (hl : fs.length ≤ 1000000000) (hw : r.be < w.heap.size) :
    Calls Tryz.prog 73 #[.pointer (some ⟨bf, 0, none⟩), ptrO r.l0, .pointer (some ⟨r.be, 2, none⟩)] w fun e w' => e = .returned (.bool (givesO r.q.1.lone r.q.2.vars fs).isSome) ∧ GvP B bf bm vs fs sv r (givesO r.q.1.lone r.q.2.vars fs) w w' := by
  have HH := Lib.hid h
  have HR := Lib.hid hr
  obtain ⟨o, ho⟩ : ∃ o, givesO r.q.1.lone r.q.2.vars fs = o := ⟨_, rfl⟩
  rw [ho]
  have HO := Lib.hid ho
  have HL1 := Lib.hid hr.n0
  cases hl0 : r.l0 with
  | none =>
    have HN : Hid (o = none) := by show o = _; rw [← HO.out, HL1.out, hl0]; rfl
    clear ho h hr hl0
    unfold ptrO
    go_enter Tryz.func73, Tryz.ntmps73
    go_wp2
    go_ret
    refine ⟨by rw [HN.out]; rfl, ?_⟩
    rw [HN.out]
    exact GvP.still HH.out HR.out
  | some x =>
    have hx : x ∈ vs := hr.m0 x hl0
    have hc := (h.each x hx).at (j := 1) rfl
    have HX := Lib.hid hx
    have HLN : Hid (r.q.1.lone = some x.v) := by show _ = _; rw [HL1.out, hl0]; rfl
    unfold ptrO ptrV
    cases hq : inB fs x.v
    · rw [hq] at hc
      have HQ := Lib.hid hq
      have HK := Lib.hid (isKnownR_any h r.be r.a1 r.c1 r.x1 hr.row hr.nf hr.i1 hr.q1 (fun g off e => (hr.g1 g off e).2.1))
      have HAL : Hid ((r.q.2.vars).all (inB fs) = r.x1.all (fun x => inB fs x.v)) := by
        show _ = _
        obtain ⟨ds, e, hds⟩ := hr.v1
        rw [e, List.all_append, List.all_map]
        have : ds.all (inB fs) = true := List.all_eq_true.2 (fun n hn => inB_iff.2 (hds n hn))
        rw [this]
        rfl
      cases hq2 : r.x1.all (fun x => inB fs x.v)
      · have HN : Hid (o = none) := by show o = _; rw [← HO.out, HLN.out]; unfold givesO; simp only [HQ.out, HAL.out, hq2]; rfl
        rw [hq2] at HK
        clear ho h hr hl0 hq hq2 hx
        go_enter Tryz.func73, Tryz.ntmps73
        go_wp2_with fail
        refine HK.out.mono ?_
        rintro e w1 ⟨rfl, ht, hk⟩
        have HT := Lib.hid ht
        have HKN := Lib.hid hk
        clear ht hk HK
        go_wp2
        go_ret
        refine ⟨by rw [HN.out]; rfl, ?_⟩
        rw [HN.out]
        obtain ⟨r', h1, h2, h3, h4⟩ := HR.out.knownR HT.out HKN.out
        exact GvP.quiet HH.out HR.out HT.out h1 h2 h3 h4
      · have HN : Hid (o = some x.v) := by show o = _; rw [← HO.out, HLN.out]; unfold givesO; simp only [HQ.out, HAL.out, hq2]; rfl
        rw [hq2] at HK
        clear ho h hr hl0 hq hq2 hx
        go_enter Tryz.func73, Tryz.ntmps73
        go_wp2_with fail
        refine HK.out.mono ?_
        rintro e w1 ⟨rfl, ht, hk⟩
        have HT := Lib.hid ht
        have HKN := Lib.hid hk
        have HF1 : Hid (Fd B bf bm vs fs sv w1) := HH.out.keep (fun k hk => ht.block k (HH.out.lt k hk) (fun e => HR.out.nf (e ▸ hk)))
        have HFI := Lib.hid (find_any HF1.out (Nat.le_trans hB ht.size) x HX.out hl)
        clear ht hk HK hc
        go_wp2_with fail
        refine HFI.out.mono ?_
        rintro e w2 ⟨⟨u, rfl⟩, sv', hf2, ht2, hn2⟩
        have HF2 := Lib.hid hf2
        have HT2 := Lib.hid ht2
        have HN2 := Lib.hid hn2
        clear hf2 ht2 hn2 HFI
        go_wp2
        go_ret
        refine ⟨by rw [HN.out]; rfl, ?_⟩
        rw [HN.out]
        obtain ⟨r', h1, h2, h3, h4⟩ := HR.out.knownR HT.out HKN.out
        have hf2 := HF2.out
        have : addN fs x.v = fs ++ [x.v] := by unfold addN; rw [HQ.out]; rfl
        rw [this] at hf2
        exact GvP.gave HH.out HR.out HT.out h1 h2 h3 h4 HF1.out hf2 HT2.out HN2.out
    · rw [hq] at hc
      have HN : Hid (o = none) := by show o = _; rw [← HO.out, HLN.out]; unfold givesO; simp only [hq]; rfl
      clear ho h hr hl0 hq hx
      go_enter Tryz.func73, Tryz.ntmps73
      go_wp2
      go_ret
      refine ⟨by rw [HN.out]; rfl, ?_⟩
      rw [HN.out]
      exact GvP.still HH.out HR.out
set_option maxHeartbeats 3200000 in
theorem give1_any {B bf bm : Nat} {vs : List Vb} {fs : List ByteArray} {sv : Value} {w : World} (h : Fd B bf bm vs fs sv w) (hB : B ≤ w.heap.size) (r : Er) (hr : EqIs bf bm vs fs sv w r) (hl : fs.length ≤ 1000000000) (hw : r.be < w.heap.size) :
    Calls Tryz.prog 73 #[.pointer (some ⟨bf, 0, none⟩), ptrO r.l1, .pointer (some ⟨r.be, 0, none⟩)] w fun e w' => e = .returned (.bool (givesO r.q.2.lone r.q.1.vars fs).isSome) ∧ GvP B bf bm vs fs sv r (givesO r.q.2.lone r.q.1.vars fs) w w' := by
  have HH := Lib.hid h
  have HR := Lib.hid hr
  obtain ⟨o, ho⟩ : ∃ o, givesO r.q.2.lone r.q.1.vars fs = o := ⟨_, rfl⟩
  rw [ho]
  have HO := Lib.hid ho
  have HL1 := Lib.hid hr.n1
  cases hl0 : r.l1 with
  | none =>
    have HN : Hid (o = none) := by show o = _; rw [← HO.out, HL1.out, hl0]; rfl
    clear ho h hr hl0
    unfold ptrO
    go_enter Tryz.func73, Tryz.ntmps73
    go_wp2
    go_ret
    refine ⟨by rw [HN.out]; rfl, ?_⟩
    rw [HN.out]
    exact GvP.still HH.out HR.out
  | some x =>
    have hx : x ∈ vs := hr.m1 x hl0
    have hc := (h.each x hx).at (j := 1) rfl
    have HX := Lib.hid hx
    have HLN : Hid (r.q.2.lone = some x.v) := by show _ = _; rw [HL1.out, hl0]; rfl
    unfold ptrO ptrV
    cases hq : inB fs x.v
    · rw [hq] at hc
      have HQ := Lib.hid hq
      have HK := Lib.hid (isKnownL_any h r.be r.a0 r.c0 r.x0 hr.row hr.nf hr.i0 hr.q0 (fun g off e => (hr.g0 g off e).2.1))
      have HAL : Hid ((r.q.1.vars).all (inB fs) = r.x0.all (fun x => inB fs x.v)) := by
        show _ = _
        obtain ⟨ds, e, hds⟩ := hr.v0
        rw [e, List.all_append, List.all_map]
        have : ds.all (inB fs) = true := List.all_eq_true.2 (fun n hn => inB_iff.2 (hds n hn))
        rw [this]
        rfl
      cases hq2 : r.x0.all (fun x => inB fs x.v)
      · have HN : Hid (o = none) := by show o = _; rw [← HO.out, HLN.out]; unfold givesO; simp only [HQ.out, HAL.out, hq2]; rfl
        rw [hq2] at HK
        clear ho h hr hl0 hq hq2 hx
        go_enter Tryz.func73, Tryz.ntmps73
        go_wp2_with fail
        refine HK.out.mono ?_
        rintro e w1 ⟨rfl, ht, hk⟩
        have HT := Lib.hid ht
        have HKN := Lib.hid hk
        clear ht hk HK
        go_wp2
        go_ret
        refine ⟨by rw [HN.out]; rfl, ?_⟩
        rw [HN.out]
        obtain ⟨r', h1, h2, h3, h4⟩ := HR.out.knownL HT.out HKN.out
        exact GvP.quiet HH.out HR.out HT.out h1 h2 h3 h4
      · have HN : Hid (o = some x.v) := by show o = _; rw [← HO.out, HLN.out]; unfold givesO; simp only [HQ.out, HAL.out, hq2]; rfl
        rw [hq2] at HK
        clear ho h hr hl0 hq hq2 hx
        go_enter Tryz.func73, Tryz.ntmps73
        go_wp2_with fail
        refine HK.out.mono ?_
        rintro e w1 ⟨rfl, ht, hk⟩
        have HT := Lib.hid ht
        have HKN := Lib.hid hk
        have HF1 : Hid (Fd B bf bm vs fs sv w1) := HH.out.keep (fun k hk => ht.block k (HH.out.lt k hk) (fun e => HR.out.nf (e ▸ hk)))
        have HFI := Lib.hid (find_any HF1.out (Nat.le_trans hB ht.size) x HX.out hl)
        clear ht hk HK hc
        go_wp2_with fail
        refine HFI.out.mono ?_
        rintro e w2 ⟨⟨u, rfl⟩, sv', hf2, ht2, hn2⟩
        have HF2 := Lib.hid hf2
        have HT2 := Lib.hid ht2
        have HN2 := Lib.hid hn2
        clear hf2 ht2 hn2 HFI
        go_wp2
        go_ret
        refine ⟨by rw [HN.out]; rfl, ?_⟩
        rw [HN.out]
        obtain ⟨r', h1, h2, h3, h4⟩ := HR.out.knownL HT.out HKN.out
        have hf2 := HF2.out
        have : addN fs x.v = fs ++ [x.v] := by unfold addN; rw [HQ.out]; rfl
        rw [this] at hf2
        exact GvP.gave HH.out HR.out HT.out h1 h2 h3 h4 HF1.out hf2 HT2.out HN2.out
    · rw [hq] at hc
      have HN : Hid (o = none) := by show o = _; rw [← HO.out, HLN.out]; unfold givesO; simp only [hq]; rfl
      clear ho h hr hl0 hq hx
      go_enter Tryz.func73, Tryz.ntmps73
      go_wp2
      go_ret
      refine ⟨by rw [HN.out]; rfl, ?_⟩
      rw [HN.out]
      exact GvP.still HH.out HR.out
end Go.Proofs.YteabclfhmapabaaGreatDoor
end
section
namespace Go.Proofs.YteabclfhmapabaaGreatDoor
open Go.RowKit
set_option linter.unusedVariables false
set_option linter.unusedSimpArgs false

/-! a drawn region over any act: what its operations do (tools/mkregx.py writes such regions out) -/
theorem eval_far (a : Act) {i j : Nat} (v : Value) (h : i ≠ j) : (a.put (some i) v).eval (.tmp j) = a.eval (.tmp j) := Act.eval_put (by intro d hd; cases hd; intro e; exact h (by injection e with e; exact e.symm))
theorem eval_same (a : Act) {i : Nat} (v : Value) (h : i < a.tmps.size) : (a.put (some i) v).eval (.tmp i) = v := by
  simp [Act.eval, Act.put, h]
theorem put_size (a : Act) (i : Nat) (v : Value) : (a.put (some i) v).tmps.size = a.tmps.size := by simp [Act.put]
theorem tmps_far (a : Act) {i j : Nat} (v : Value) (h : i ≠ j) : (a.put (some i) v).tmps[j]? = a.tmps[j]? := by
  simp [Act.put, Array.getElem?_setIfInBounds_ne h]
theorem tmps_same (a : Act) {i : Nat} (v : Value) (h : i < a.tmps.size) : (a.put (some i) v).tmps[i]? = some v := by
  simp [Act.put, Array.getElem?_setIfInBounds_self_of_lt h]
theorem run_move (ev : Operand → Value) (o : Oper) {x : Operand} (hop : o.op = .move x) (w : World) {v : Value} (hx : ev x = v) : (execOp ev o).run Tryz.prog w = .ok (.value v) w := by
  simp only [execOp, hop, hx]
  go_simp
theorem run_assignV (ev : Operand → Value) (o : Oper) {x : Operand} (hop : o.op = .assign x) (w : World) {v : Value} (hx : ev x = v) : (execOp ev o).run Tryz.prog w = .ok (.value v) w := by
  simp only [execOp, hop, hx]
  go_simp
theorem run_pickT (ev : Operand → Value) (o : Oper) {x y z : Operand} (hop : o.op = .pick x y z) (w : World) {v : Value} (hx : ev x = .bool true) (hy : ev y = v) : (execOp ev o).run Tryz.prog w = .ok (.value v) w := by
  simp only [execOp, hop, hx, hy]
  go_simp
theorem run_pickF (ev : Operand → Value) (o : Oper) {x y z : Operand} (hop : o.op = .pick x y z) (w : World) {v : Value} (hx : ev x = .bool false) (hy : ev z = v) : (execOp ev o).run Tryz.prog w = .ok (.value v) w := by
  simp only [execOp, hop, hx, hy]
  go_simp
theorem run_notV (ev : Operand → Value) (o : Oper) {t : TypeId} {x : Operand} (hop : o.op = .unOp .not t x) (w : World) {b : Bool} (hx : ev x = .bool b) : (execOp ev o).run Tryz.prog w = .ok (.value (.bool (!b))) w := by
  simp only [execOp, hop, hx]
  go_simp
theorem run_binV (ev : Operand → Value) (o : Oper) {p : BinOp} {t u : TypeId} {x y : Operand} (hop : o.op = .binOp p t x y u) (w : World) {a b c : Value} (hx : ev x = a) (hy : ev y = b) (hge : (eqGuard p t x y a b).run Tryz.prog w = .ok () w) (hr : (binOp p t a b).run Tryz.prog w = .ok c w) : (execOp ev o).run Tryz.prog w = .ok (.value c) w := by
  simp only [execOp, hop, hx, hy]
  simp [hge, hr, Result.andThen]
theorem run_callV {P : Program} {o : Oper} {a : Act} {w : World} (f : FuncId) {fn : Func} (hf : P.funcs[f]? = some fn) (hn : (fn.name == "runtime.NumGoroutine") = false) (hb : fn.body.isNone = false) (xs : Array Operand) (tys : Array TypeId) (hop : o.op = Op.call { callee := Callee.value (Operand.func f), args := xs, argTypes := tys }) (vs : Array Value) (hx : xs.map a.eval = vs) : (execOp a.eval o).run P w = .ok (.enter f vs) w := by
  have hn' : ¬ fn.name = "runtime.NumGoroutine" := by simpa using hn
  have hb' : ¬ fn.body = none := by cases h : fn.body <;> simp [h] at hb ⊢
  simp [execOp, hop, resolve, invoke, ← hx, Act.eval, Result.andThen, Deferred.ofValue, callFunc, (show Sem.run P program w = .ok P w from rfl), hf, hn', hb', go_sem]
def isOpG (ops : Array Oper) (i : Nat) (g : Option (Nat × Bool)) (op : Op) (dst : Option Tmp) : Prop := ops[i]?.map (fun o => (o.guard, o.op, o.dst)) = some (g, op, dst)
theorem isOpG_out {ops : Array Oper} {i : Nat} {g : Option (Nat × Bool)} {op : Op} {dst : Option Tmp} (h : isOpG ops i g op dst) : ∃ o, ops[i]? = some o ∧ o.guard = g ∧ o.op = op ∧ o.dst = dst := by
  obtain ⟨o, h1, h2⟩ := Option.map_eq_some_iff.1 h
  simp only [Prod.mk.injEq] at h2
  exact ⟨o, h1, h2.1, h2.2.1, h2.2.2⟩
theorem wantedN {ops : Array Oper} {o : Oper} {a : Act} (hg : o.guard = none) : Region.wanted o (yielded ops a.tmps) = true := by simp [Region.wanted, hg]
theorem wantedB {ops : Array Oper} {g o : Oper} {a : Act} {j d : Nat} {b c : Bool} (h5 : ops[j]? = some g) (d5 : g.dst = some d) (hg : o.guard = some (j, b)) (hv : a.tmps[d]? = some (.bool c)) : Region.wanted o (yielded ops a.tmps) = (c == b) := by
  cases c <;> cases b <;> simp [Region.wanted, hg, yielded, h5, d5, hv]
theorem wpOp_callG {P : Program} {ops : Array Oper} {Q : Exit → Act → World → Prop} {K : Act → World → Prop} {i : Nat} {a : Act} {w : World} {o : Oper} {f : Nat} {vs : Array Value} (hi : ops[i]? = some o) (hw : Region.wanted o (yielded ops a.tmps) = true) (hrun : (execOp a.eval o).run P w = .ok (.enter f vs) w)
    (hc : Calls P f vs w fun e w' => ∃ u, e = .returned u ∧ K (a.put o.dst u) w') : wpOp P ops Q i K a w := by
  unfold wpOp
  rw [hi]
  simp only [hw, if_true]
  refine Or.inl ?_
  unfold Oper.wp
  rw [hrun]
  refine Calls.mono hc ?_
  rintro e w' ⟨u, rfl, hK⟩
  exact hK
def LR (n : Nat) (l : List Nat) : Array Bool := l.foldl (fun a i => a.setIfInBounds i true) (Array.replicate n false)
theorem LR_snoc (n : Nat) (l : List Nat) (i : Nat) : LR n (l ++ [i]) = (LR n l).setIfInBounds i true := by simp [LR]
end Go.Proofs.YteabclfhmapabaaGreatDoor
end
