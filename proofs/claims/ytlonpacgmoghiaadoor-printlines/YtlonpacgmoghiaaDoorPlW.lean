import Derived.Test.YtlonpacgmoghiaaDoorFbLines
namespace Go.Proofs.YtlonpacgmoghiaaDoor
open Go.RowKit Go.Maps
set_option linter.unusedVariables false
set_option linter.unusedSimpArgs false
attribute [local go_sem ↓] Go.wp_at_zero Go.wp_at_succ

set_option maxHeartbeats 800000 in
theorem plain_any (s : ByteArray) (w : World) (hs : s.size ≤ 2000000000) (hp : plS s.data.toList) : Calls Tryd.prog 7 #[.string s] w fun e w' => e = .returned (.bool true) ∧ w' = w := by
  have HP : Hid (∀ k (h : k < s.size), 32 ≤ s[k].toNat ∧ s[k].toNat ≤ 126) := fun k h => by
    have e : s.data.toList[k]'(by rw [len_toList]; exact h) = s[k] := by simp [ByteArray.getElem_eq_getElem_data]
    rw [← e]
    exact hp _ (List.getElem_mem _)
  clear hp
  go_enter Tryd.func7, Tryd.ntmps7
  go_wp2
  go_loop [3] (fun i => ∃ k : Nat, k ≤ s.size ∧ i = .int .i64 k) (fun i => s.size - (intOf i).toNat)
  case atStart => exact ⟨0, Nat.zero_le _, rfl⟩
  case round =>
    obtain ⟨k, hk, rfl⟩ := hrel
    by_cases hlt : k < s.size
    · have hlt' : (k : Int) < (s.size : Int) := by omega
      obtain ⟨h1, h2⟩ := HP.out k hlt
      have h1' : ¬ (s[k].toNat : Int) < 32 := by omega
      have h2' : ¬ (126 : Int) < (s[k].toNat : Int) := by omega
      go_wp2
      go_round
      case rel => exact ⟨k + 1, by omega, by go_num⟩
      case measure => simp [intOf]; omega
    · obtain rfl : k = s.size := by omega
      go_wp2
      go_ret
      exact ⟨rfl, rfl⟩
set_option maxHeartbeats 800000 in
theorem beyondJob_any (d : Nat) (v u : Value) (l : List XR) (m : List XF) (w : World) (hll : l.length ≤ 281474976710656) (hlm : m.length ≤ 281474976710656) (hL : Lr w v d l) (hM : Lf w u m) :
    Calls Tryd.prog 4 #[v, u] w fun e w' => ∃ b : Bool, e = .returned (.bool b) ∧ Below w.heap.size w w' ∧ (b = false → smallS d l ∧ smallF m) := by
  have HR : Hid _ := beyondRules_any d v l w hll hL
  have HF : Hid (∀ w', Below w.heap.size w w' → Calls Tryd.prog 11 #[u] w' fun e w2 => ∃ b : Bool, e = .returned (.bool b) ∧ Below w'.heap.size w' w2 ∧ (b = false → smallF m)) := fun w' hb => beyondFacts_any u m w' hlm (hM.below hb)
  obtain ⟨a, c, rfl, hc1, hc2, -⟩ := hL.form
  obtain ⟨a2, c2, rfl, hd1, hd2, -⟩ := hM.form
  clear hL hM
  go_enter Tryd.func4, Tryd.ntmps4
  go_wp2_with fail
  refine Calls.mono HR.out ?_
  rintro e w1 ⟨b, rfl, b1, hs⟩
  have HS : Hid _ := hs
  have HB1 : Hid _ := b1
  clear hs b1
  cases b
  · go_wp2_with fail
    refine Calls.mono (HF.out _ HB1.out) ?_
    rintro e w2 ⟨b2, rfl, b2', hs2⟩
    have HS2 : Hid _ := hs2
    clear hs2
    go_wp2
    go_ret
    exact ⟨b2, rfl, HB1.out.trans (b2'.mono HB1.out.size), fun h => ⟨HS.out (by first | rfl | trivial), HS2.out h⟩⟩
  · go_wp2
    go_ret
    exact ⟨true, rfl, HB1.out, fun h => by cases h⟩
/-- a fact, as a rule -/
def asA (v : V) : A5 := ⟨0, ⟨noS, v⟩⟩
def asR (y : XF) : R3 := ⟨y.pr, y.vs.map asA, []⟩
theorem asA_B (v : V) : argB (asA v) = okV v := by
  unfold argB asA namedB termB
  have e : decide (noS = blankS) = false := by decide
  simp [e]
theorem vsT_const : ∀ (l : List V), vsT [] (l.map (fun v => (asA v).t)) = []
  | [] => rfl
  | v :: r => by
    rw [List.map_cons, vsT, if_pos (show (asA v).t.v = noS ∨ _ from Or.inl rfl)]
    exact vsT_const r
theorem termsR_as (d : Nat) (y : XF) : termsR d (asR y) = y.vs.map (fun v => (asA v).t) := by
  unfold termsR asR
  simp only [List.flatMap_nil, List.append_nil, List.map_map]
  rfl
theorem asR_B (d : Nat) (y : XF) : ruleB d (asR y) = factB y := by
  unfold ruleB factB
  rw [termsR_as, vsT_const]
  have e : (asR y).hd.all argB = y.vs.all okV := by
    show (y.vs.map asA).all argB = _
    rw [List.all_map]
    have : argB ∘ asA = okV := funext fun v => asA_B v
    rw [this]
  rw [e]
  simp [asR]
theorem asR_T (y : XF) : ruleT (asR y) = factT y := by
  have e : txA (y.vs.map asA) = txV y.vs := by
    unfold txA txV
    rw [List.map_map]
    refine List.map_congr_left fun v _ => ?_
    show argT (asA v) = showB v
    unfold argT asA termT
    simp
  show y.pr.data.toList ++ (colG (txA (y.vs.map asA)) ++ (bodyT [] ++ [46])) = _
  rw [e]
  unfold factT bareT bodyT
  simp
theorem asR_small (d : Nat) {y : XF} (h : y.vs.length ≤ 1048576) : smallR d (asR y) :=
  ⟨by show (y.vs.map asA).length ≤ _; rw [List.length_map]; exact h, Nat.zero_le _, (fun z hz => absurd hz (by simp [asR])), by rw [termsR_as, List.length_map]; exact h⟩
/-- the lines that the statement lays together itself -/
def partS (d : Nat) (y : XR) : List UInt8 := if ruleB d y.r then ruleT y.r else []
def allS (d : Nat) (l : List XR) : List UInt8 := l.flatMap (fun y => partS d y ++ [10])
def partF (y : XF) : List UInt8 := if factB y then factT y else []
def allF (l : List XF) : List UInt8 := l.flatMap (fun y => partF y ++ [10])
theorem allS_take (d : Nat) {l : List XR} {k : Nat} (h : k < l.length) : allS d (l.take (k + 1)) = allS d (l.take k) ++ (partS d (atR l k) ++ [10]) := by
  unfold allS
  rw [takeRl h, List.flatMap_append]
  simp
theorem allF_take {l : List XF} {k : Nat} (h : k < l.length) : allF (l.take (k + 1)) = allF (l.take k) ++ (partF (atF l k) ++ [10]) := by
  unfold allF
  rw [takeFl h, List.flatMap_append]
  simp
theorem flat_congr {α β : Type} {f g : α → List β} : ∀ {l : List α}, (∀ x ∈ l, f x = g x) → l.flatMap f = l.flatMap g
  | [], _ => rfl
  | x :: r, h => by rw [List.flatMap_cons, List.flatMap_cons, h x (by simp), flat_congr (fun y hy => h y (by simp [hy]))]
theorem allS_ok {d : Nat} {l : List XR} (h : okS d l = true) : allS d l = txtS l := by
  refine flat_congr fun y hy => ?_
  unfold okS at h
  have := List.all_eq_true.1 h y hy
  unfold partS lineT
  rw [if_pos this]
theorem allF_ok {l : List XF} (h : okF l = true) : allF l = txtF l := by
  refine flat_congr fun y hy => ?_
  unfold okF at h
  have := List.all_eq_true.1 h y hy
  unfold partF lineF
  rw [if_pos this]
theorem allS_sum {w : World} {d : Nat} : ∀ (l : List XR), (∀ y ∈ l, RIs w d y.r y.p) → (allS d l).length ≤ 1030 * (l.flatMap (fun y => termsR d y.r)).length + 201 * l.length
  | [], _ => by simp [allS]
  | y :: r, hL => by
    have h1 : (partS d y).length ≤ 1030 * (termsR d y.r).length + 200 := by
      unfold partS
      split
      · rename_i h
        exact ruleT_sz (hL y (by simp)) h
      · simp
    have h2 := allS_sum r (fun z hz => hL z (by simp [hz]))
    unfold allS at h2 ⊢
    simp only [List.flatMap_cons, List.length_append, List.length_cons, List.length_nil]
    omega
theorem allF_sum {w : World} : ∀ (l : List XF), (∀ y ∈ l, FIs w y) → (allF l).length ≤ 1002 * (l.flatMap XF.vs).length + 131 * l.length
  | [], _ => by simp [allF]
  | y :: r, hL => by
    have h1 : (partF y).length ≤ 1002 * y.vs.length + 130 := by
      unfold partF
      split
      · rename_i h
        exact (factT_sz (hL y (by simp)) h).2
      · simp
    have h2 := allF_sum r (fun z hz => hL z (by simp [hz]))
    unfold allF at h2 ⊢
    simp only [List.flatMap_cons, List.length_append, List.length_cons, List.length_nil]
    omega
theorem allS_len {w : World} {v : Value} {d : Nat} {l : List XR} (hL : Lr w v d l) (hs : smallS d l) {k : Nat} (hk : k ≤ l.length) : (allS d (l.take k)).length ≤ 1300000000 := by
  have h1 := allS_sum (w := w) (d := d) (l.take k) (fun y hy => by
    obtain ⟨i, hi, rfl⟩ := List.getElem_of_mem (List.mem_of_mem_take hy)
    have := hL.each i hi
    rw [atR_eq hi] at this
    exact this)
  have h2 := flat_take_le (d := d) l k
  have h3 := hs.terms
  have h4 := hs.len
  rw [List.length_take] at h1
  have : min k l.length ≤ 1048576 := by omega
  omega
theorem allF_len {w : World} {v : Value} {l : List XF} (hL : Lf w v l) (hs : smallF l) {k : Nat} (hk : k ≤ l.length) : (allF (l.take k)).length ≤ 1300000000 := by
  have h1 := allF_sum (w := w) (l.take k) (fun y hy => by
    obtain ⟨i, hi, rfl⟩ := List.getElem_of_mem (List.mem_of_mem_take hy)
    have := hL.each i hi
    rw [atF_eq hi] at this
    exact this)
  have h2 := flatF_take_le l k
  have h3 := hs.vals
  have h4 := hs.len
  rw [List.length_take] at h1
  have : min k l.length ≤ 1048576 := by omega
  omega
/-- what a printer told, taken apart -/
structure Told (v : Value) (b : Bool) (part : List UInt8) (s : ByteArray) (er : Int) : Prop where
  eq : v = .tuple #[.string s, .int .i64 er]
  er : (er == 0) = b
  txt : txt part = s
theorem told_rule (b : Bool) (t : List UInt8) : ∃ s er, Told (toldV b t) b (if b then t else []) s er := by
  cases b
  · exact ⟨⟨#[]⟩, 40, rfl, rfl, rfl⟩
  · exact ⟨txt t, 0, rfl, rfl, rfl⟩
theorem told_fact (b : Bool) (t : List UInt8) : ∃ s er, Told (toldF b t) b (if b then t else []) s er := by
  cases b
  · exact ⟨⟨#[]⟩, 10, rfl, rfl, rfl⟩
  · exact ⟨txt t, 0, rfl, rfl, rfl⟩
theorem txt_list (l : List UInt8) : (txt l).data.toList = l := by simp [txt]
/-- what is kept while a rule is made of a fact -/
structure FSt (w : World) (pr : ByteArray) (vs : List V) (j : Nat) (a' : Option Addr) (c' : Nat) (wr : World) : Prop where
  bel : Below w.heap.size w wr
  sz : w.heap.size + 1 ≤ wr.heap.size
  r0 : RL wr w.heap.size 34 [.string pr, .slice a' j c', .slice none 0 0]
  own : wr.ownsRow (w.heap.size + 1) 48 5 (.slice a' j c') j (((vs.take j).map asA).flatMap A5.cells)
theorem FSt.keep {w : World} {pr : ByteArray} {vs : List V} {j : Nat} {a' : Option Addr} {c' : Nat} {wr wr' : World} (h : FSt w pr vs j a' c' wr) (b : Below wr.heap.size wr wr') : FSt w pr vs j a' c' wr' :=
  ⟨h.bel.trans (b.mono h.bel.size), Nat.le_trans h.sz b.size, h.r0.below b, own_below h.own b⟩
theorem FSt.step {w : World} {pr : ByteArray} {vs : List V} {j : Nat} {a' a2 : Option Addr} {c' c2 : Nat} {U w3 : World} {news : List Value} (h : FSt w pr vs j a' c' U) (hT : ((vs.take (j + 1)).map asA).flatMap A5.cells = ((vs.take j).map asA).flatMap A5.cells ++ news)
    (hown' : w3.ownsRow (w.heap.size + 1) 48 5 (.slice a2 (j + 1) c2) (j + 1) (((vs.take j).map asA).flatMap A5.cells ++ news)) (hgrow : U.grownBy w3 (Value.slice a' j c').ownBlock) :
    FSt w pr vs (j + 1) a2 c2 (w3.setCell ⟨w.heap.size, 1, none⟩ (.slice a2 (j + 1) c2)) ∧ w3.cell? ⟨w.heap.size, 1, none⟩ = some (.slice a' j c') ∧ w3.frozen? ⟨w.heap.size, 1, none⟩ = false := by
  have hlt := fun g (hg : (Value.slice a' j c').ownBlock = some g) => (h.own.lt g hg).1
  have kb : ∀ i, i < w.heap.size + 1 → w3.heap[i]? = U.heap[i]? := fun i hi => hgrow.block i (Nat.lt_of_lt_of_le hi h.sz) (fun e => by have := hlt i e.symm; omega)
  have q0 : RL w3 w.heap.size 34 [.string pr, .slice a' j c', .slice none 0 0] := World.rowIs.of_block h.r0 (kb _ (by omega))
  refine ⟨⟨?_, ?_, q0.set 1 _, ?_⟩, q0.at (j := 1) rfl, World.rowIs.frozen q0 1⟩
  · exact (h.bel.grown hgrow (by have := h.sz; omega) (fun i hi => by have := hlt i hi; omega)).setCell (p := ⟨w.heap.size, 1, none⟩) (by simp) _
  · have h1 := h.sz
    have h2 := hgrow.size
    simp only [World.size_setCell]
    omega
  · rw [hT]
    exact own_of_block hown' (fun g hg => heap_setCell_other _ _ _ _ (by have := (hown'.lt g hg).1; show g ≠ w.heap.size; omega))
theorem fst_new (w : World) (pr : ByteArray) (vs : List V) : FSt w pr vs 0 none 0 (w.alloc (.cells #[.string pr, .slice none 0 0, .slice none 0 0] 34)) := by
  refine ⟨(Below.refl _ _).alloc (Nat.le_refl _) _, by simp, rl_new w #[.string pr, .slice none 0 0, .slice none 0 0] 34, ?_⟩
  simp only [List.take_zero, List.map_nil, List.flatMap_nil]
  exact World.ownsRow_nil _ _ _ _
theorem FSt.ris {w0 w wr : World} (d : Nat) {y : XF} {a' : Option Addr} {c' : Nat} (h : FSt w y.pr y.vs y.vs.length a' c' wr) (hF : FIs w0 y) : RIs wr d (asR y) ⟨a', c', none, 0⟩ := by
  have ho := h.own
  rw [List.take_length] at ho
  refine ⟨hF.pb, by show (y.vs.map asA).length ≤ _; rw [List.length_map]; exact hF.ln, Nat.zero_le _, ⟨?_, fun t ht => ?_⟩, ⟨⟨by show 0 ≤ _; omega, none, 0, rfl, Nat.le_refl _, by decide, fun h => absurd (show (0 : Nat) < 0 from h) (by omega)⟩, (fun z hz => absurd hz (by simp [asR]))⟩⟩
  · show Ls wr (.slice a' (y.vs.map asA).length c') (y.vs.map asA).length _
    rw [List.length_map]
    exact ls_own ho
  · obtain ⟨v, hv, rfl⟩ := List.mem_map.1 ht
    exact ⟨⟨by show (-128 : Int) ≤ 0; omega, by show (0 : Int) ≤ 127; omega⟩, ⟨by show noS.size ≤ _; decide, hF.vs.wf v hv⟩⟩
theorem takeV5 {vs : List V} {j : Nat} (h : j < vs.length) : ((vs.take (j + 1)).map asA).flatMap A5.cells = ((vs.take j).map asA).flatMap A5.cells ++ [.int .i8 0, .string ⟨#[]⟩, .int .i8 (atV vs j).k, .int .i64 (atV vs j).n, .string (atV vs j).s] := by
  rw [List.take_succ_eq_append_getElem h, List.map_append, List.flatMap_append, atV_eq h]
  rfl
open Go.RowKit Go.Maps
set_option linter.unusedVariables false
set_option linter.unusedSimpArgs false
attribute [local go_sem ↓] Go.wp_at_zero Go.wp_at_succ

theorem infoAr : (Tryd.prog.info? 48).map (fun i => (i.zero, i.size, i.bytes)) = some (some (.agg #[.int .i8 0, .string ⟨#[]⟩, .int .i8 0, .int .i64 0, .string ⟨#[]⟩]), 5, 56) := by kernel_rfl
set_option maxHeartbeats 25600000 in
set_option maxRecDepth 100000 in
theorem printLines_walk (d : Nat) (l : List XR) (a : Option Addr) (c : Nat) (m : List XF) (fa0 : Option Addr) (fc0 : Nat) (w : World) (hG : Gl2 w) (hll : l.length ≤ 281474976710656) (hL : Lr w (.slice a l.length c) (d + 1) l) (hlm : m.length ≤ 281474976710656) (hM : Lf w (.slice fa0 m.length fc0) m) :
    Calls Tryd.prog 3 #[.slice a l.length c, .slice fa0 m.length fc0] w fun e w' => e = .returned (.bool true) ∧ Below w.heap.size w w' := by
  obtain ⟨i0, hi0, hz0, hz1, hz2⟩ := info_parts infoAr
  have HG : Hid (∀ u, Below w.heap.size w u → Gl2 u) := fun u hu => hG.below hu
  have HX : Hid (∀ u, Below w.heap.size w u → Lr u (.slice a l.length c) (d + 1) l) := fun u hu => hL.below hu
  have HM : Hid (∀ u, Below w.heap.size w u → Lf u (.slice fa0 m.length fc0) m) := fun u hu => hM.below hu
  have HBY : Hid _ := beyondJob_any (d + 1) _ _ l m w hll hlm hL hM
  obtain ⟨a1, c1, e1, hc1, hc2, hk⟩ := hL.form
  cases e1
  have HK : Hid _ := hk
  obtain ⟨a2, c2, e2, hc3, hc4, hk2⟩ := hM.form
  cases e2
  have HK2 : Hid _ := hk2
  obtain ⟨ts, er, htd⟩ := told_rule (okS (d + 1) l) (txtS l)
  have HTD : Hid _ := htd
  obtain ⟨ts2, er2, htd2⟩ := told_fact (okF m) (txtF m)
  have HTD2 : Hid _ := htd2
  clear hG hL hM hk hk2 htd htd2 hc1 hc2 hc3 hc4
  go_enter Tryd.func3, Tryd.ntmps3
  go_wp2_with fail
  refine Calls.mono HBY.out ?_
  rintro e w1 ⟨bb, rfl, b1, hsm⟩
  have B1 : Hid (Below w.heap.size w w1) := b1
  have HSM : Hid _ := hsm
  clear hsm b1 HBY
  cases bb
  · obtain ⟨hsl, hsf⟩ := HSM.out (by first | rfl | trivial)
    have HSL : Hid (smallS (d + 1) l) := hsl
    have HSF : Hid (smallF m) := hsf
    have hln := hsl.len
    have hfn := hsf.len
    have HLs : Hid (∀ k, k ≤ l.length → (allS (d + 1) (l.take k)).length ≤ 1300000000) := fun k hk => allS_len (HX.out _ B1.out) HSL.out hk
    have HLf : Hid (∀ k, k ≤ m.length → (allF (m.take k)).length ≤ 1300000000) := fun k hk => allF_len (HM.out _ B1.out) HSF.out hk
    clear hsl hsf HSM
    have HP : Hid _ := pProgram_any (d + 1) _ l w1 (HG.out _ B1.out).gr (HX.out _ B1.out) HSL.out
    rw [HTD.out.eq] at HP
    go_wp2_with fail
    refine Calls.mono HP.out ?_
    rintro ee w2 ⟨rfl, b2⟩
    have B2 : Hid (Below w.heap.size w w2) := B1.out.trans (b2.mono B1.out.size)
    clear b2 HP
    go_wp2
    go_loopw [7, 8, 9] (fun sv ov i wr => ∃ (k : Nat) (S : ByteArray) (ob : Bool), k ≤ l.length ∧ i = .int .i64 k ∧ sv = .string S ∧ ov = .bool ob ∧ Hid (txt (allS (d + 1) (l.take k)) = S) ∧ Hid (okS (d + 1) (l.take k) = ob) ∧ Below w.heap.size w wr) (fun _ _ i _ => l.length - (intOf i).toNat)
    case atStart => exact ⟨0, ⟨#[]⟩, true, Nat.zero_le _, rfl, rfl, rfl, by simp [Hid, allS, txt], by simp [Hid, okS], B2.out⟩
    case round =>
      obtain ⟨k, S, ob, hk, rfl, rfl, rfl, HS, HO, bel⟩ := hrel
      have hss : S.size ≤ 1300000000 := by rw [← HS.out, txt_size]; exact HLs.out k hk
      by_cases hlt : k < l.length
      · have hlt' : (k : Int) < (l.length : Int) := by omega
        obtain ⟨g, off, rfl, hg, hT⟩ := HK.out (by omega)
        have hrg := range_below (hT k hlt) bel hg
        have x0 : wr.cell? ⟨g, off + k * 3, none⟩ = some (.string (atR l k).r.pr) := hrg 0 _ rfl
        have x1 : wr.cell? ⟨g, off + k * 3 + 1, none⟩ = some (.slice (atR l k).p.a (atR l k).r.hd.length (atR l k).p.c) := hrg 1 _ rfl
        have x2 : wr.cell? ⟨g, off + k * 3 + 2, none⟩ = some (.slice (atR l k).p.ba (atR l k).r.bd.length (atR l k).p.bc) := hrg 2 _ rfl
        have HC : Hid _ := pRule_any (d + 1) (atR l k).r (atR l k).p wr (HG.out _ bel).gr ((HX.out _ bel).each k hlt) (HSL.out.each k hlt)
        have HTK : Hid (allS (d + 1) (l.take (k + 1)) = allS (d + 1) (l.take k) ++ ((if ruleB (d + 1) (atR l k).r then ruleT (atR l k).r else []) ++ [10])) := allS_take (d + 1) hlt
        have HOK : Hid (okS (d + 1) (l.take (k + 1)) = (ob && ruleB (d + 1) (atR l k).r)) := by show _ = _; rw [okS_take hlt, HO.out]
        have HPLr : Hid (plS (if ruleB (d + 1) (atR l k).r then ruleT (atR l k).r else [])) := by
          show plS _
          split
          · rename_i h
            exact rule_pl h
          · exact plS_nil
        have HL2 : Hid _ := HLs.out (k + 1) hlt
        obtain ⟨ts3, er3, htd3⟩ := told_rule (ruleB (d + 1) (atR l k).r) (ruleT (atR l k).r)
        rw [htd3.eq] at HC
        unfold R3.val at HC
        have her3 : (er3 == 0) = ruleB (d + 1) (atR l k).r := htd3.er
        have htx := htd3.txt
        clear htd3 hrg hT
        generalize ruleB (d + 1) (atR l k).r = rb at HTK HOK HPLr her3 htx
        generalize ruleT (atR l k).r = rt at HTK HPLr htx
        generalize (if rb then rt else []) = part at HTK HPLr htx
        generalize (atR l k).r.pr = rpr at x0 HC
        generalize (atR l k).p.a = rpa at x1 HC
        generalize (atR l k).r.hd.length = rhn at x1 HC
        generalize (atR l k).p.c = rpc at x1 HC
        generalize (atR l k).p.ba = rpb at x2 HC
        generalize (atR l k).r.bd.length = rbn at x2 HC
        generalize (atR l k).p.bc = rpd at x2 HC
        have HPL : Hid (plS ts3.data.toList) := by show plS _; rw [← htx, txt_list]; exact HPLr.out
        have hadd1 : S ++ ts3 = txt (allS (d + 1) (l.take k) ++ part) := by rw [← HS.out, ← htx, txt_app]
        have hadd2 : txt (allS (d + 1) (l.take k) ++ part) ++ (⟨#[10]⟩ : ByteArray) = txt (allS (d + 1) (l.take (k + 1))) := by rw [HTK.out, txt_one, txt_app, List.append_assoc]
        obtain ⟨S1, hS1⟩ : ∃ S1, txt (allS (d + 1) (l.take k) ++ part) = S1 := ⟨_, rfl⟩
        obtain ⟨S2, hS2⟩ : ∃ S2, txt (allS (d + 1) (l.take (k + 1))) = S2 := ⟨_, rfl⟩
        have hs2 : S2.size ≤ 1300000000 := by rw [← hS2, txt_size]; exact HL2.out
        rw [hS1] at hadd1 hadd2
        rw [hS2] at hadd2
        have hs1 : S1.size ≤ 1300000000 := by
          have := congrArg ByteArray.size hadd2
          rw [ByteArray.size_append] at this
          omega
        have hts : ts3.size ≤ 1300000000 := by
          have := congrArg ByteArray.size hadd1
          rw [ByteArray.size_append] at this
          omega
        have HS2 : Hid _ := hS2
        clear hS1 hS2 HTK htx HPLr HL2 HS HO
        go_wp2_with fail
        refine Calls.mono HC.out ?_
        rintro ee w3 ⟨rfl, b3⟩
        have B3 : Hid (Below w.heap.size w w3) := bel.trans (b3.mono bel.size)
        clear b3 HC x0 x1 x2 bel
        cases ob
        · have HO2 : Hid (okS (d + 1) (l.take (k + 1)) = false) := by show _ = _; rw [HOK.out]; rfl
          go_wp2_with (go_at_call 7; refine (plain_any _ _ (by omega) HPL.out).mono ?_; rintro ee w7 ⟨rfl, hw7⟩; subst hw7)
          go_roundw
          case rel => exact ⟨k + 1, S2, false, by omega, by go_num, rfl, rfl, HS2, HO2, B3.out⟩
          case measure => simp [intOf]; omega
        · have HO2 : Hid (okS (d + 1) (l.take (k + 1)) = rb) := by show _ = _; rw [HOK.out]; rfl
          go_wp2_with (go_at_call 7; refine (plain_any _ _ (by omega) HPL.out).mono ?_; rintro ee w7 ⟨rfl, hw7⟩; subst hw7)
          go_roundw
          case rel => exact ⟨k + 1, S2, rb, by omega, by go_num, rfl, rfl, HS2, HO2, B3.out⟩
          case measure => simp [intOf]; omega
      · obtain rfl : k = l.length := by omega
        rw [List.take_length] at HS HO
        cases ob
        · have her : (er == 0) = false := by rw [HTD.out.er]; exact HO.out
          have HF : Hid _ := pFacts_any _ m wr (HG.out _ bel).gf (HM.out _ bel) HSF.out
          rw [HTD2.out.eq] at HF
          clear HS hss
          go_wp2_with fail
          refine Calls.mono HF.out ?_
          rintro ee w5 ⟨rfl, b5⟩
          have B5 : Hid (Below w.heap.size w w5) := bel.trans (b5.mono bel.size)
          clear b5 HF bel her
          obtain ⟨ob2, hob2⟩ : ∃ ob2, okF m = ob2 := ⟨_, rfl⟩
          have HO2 : Hid (okF m = ob2) := hob2
          have her2 : (er2 == 0) = ob2 := by rw [← hob2]; exact HTD2.out.er
          have her6 : (er2 != 0) = !ob2 := by rw [bne, her2]
          clear hob2
          cases ob2
          · simp only [Bool.not_false] at her6
            go_wp2
            go_loopw [7, 12] (fun sv i wr => ∃ (k : Nat) (S : ByteArray), k ≤ m.length ∧ i = .int .i64 k ∧ sv = .string S ∧ Hid (txt (allF (m.take k)) = S) ∧ Below w.heap.size w wr) (fun _ i _ => m.length - (intOf i).toNat)
            case atStart => exact ⟨0, ⟨#[]⟩, Nat.zero_le _, rfl, rfl, by simp [Hid, allF, txt], B5.out⟩
            case round =>
              obtain ⟨k, S, hk, rfl, rfl, HS, bel⟩ := hrel
              rename World => wo
              have hss : S.size ≤ 1300000000 := by rw [← HS.out, txt_size]; exact HLf.out k hk
              by_cases hlt : k < m.length
              · have hlt' : (k : Int) < (m.length : Int) := by omega
                obtain ⟨g, off, rfl, hg, hT⟩ := HK2.out (by omega)
                have HRG : Hid (∀ u, Below w.heap.size w u → u.rangeAt g (off + k * 2) (atF m k).cells) := fun u hu => range_below (hT k hlt) hu hg
                have HFI : Hid (∀ u, Below w.heap.size w u → FIs u (atF m k)) := fun u hu => (HM.out u hu).each k hlt
                have HTK : Hid _ := allF_take hlt
                have HL2 : Hid _ := HLf.out (k + 1) hlt
                have hvl := HSF.out.each k hlt
                have HFB : Hid (okF m = true → factB (atF m k) = true) := fun h => by rw [atF_eq hlt]; exact List.all_eq_true.1 h _ (List.getElem_mem hlt)
                clear hT
                obtain ⟨⟨pr, vs, fa, fc⟩, hy⟩ : ∃ y, atF m k = y := ⟨_, rfl⟩
                rw [hy] at HRG HFI HTK hvl HFB
                clear hy
                have x0 : wo.cell? ⟨g, off + k * 2, none⟩ = some (.string pr) := HRG.out wo bel 0 _ rfl
                have HY1 : Hid (∀ u, Below w.heap.size w u → u.cell? ⟨g, off + k * 2 + 1, none⟩ = some (.slice fa vs.length fc)) := fun u hu => HRG.out u hu 1 _ rfl
                obtain ⟨ya, yc, ey, _, _, hkv⟩ := (HFI.out wo bel).vs.form
                dsimp only at ey hkv hvl
                cases ey
                have HKV : Hid _ := hkv
                have HN : Hid (FSt wo pr vs 0 none 0 (wo.alloc (.cells #[.string pr, .slice none 0 0, .slice none 0 0] 34))) := fst_new wo pr vs
                obtain ⟨ts3, er3, htd3⟩ := told_rule (factB ⟨pr, vs, fa, fc⟩) (factT ⟨pr, vs, fa, fc⟩)
                have HPLf : Hid (plS (if factB ⟨pr, vs, fa, fc⟩ then factT ⟨pr, vs, fa, fc⟩ else [])) := by
                  show plS _
                  split
                  · rename_i h
                    rw [← asR_T]
                    exact rule_pl (d := d + 1) (by rw [asR_B]; exact h)
                  · exact plS_nil
                have HTK2 : Hid (allF (m.take (k + 1)) = allF (m.take k) ++ ((if factB ⟨pr, vs, fa, fc⟩ then factT ⟨pr, vs, fa, fc⟩ else []) ++ [10])) := HTK.out
                have HTD3 : Hid _ := htd3
                have HPL : Hid (plS ts3.data.toList) := by show plS _; rw [← htd3.txt, txt_list]; exact HPLf.out
                have her3 : (er3 == 0) = factB ⟨pr, vs, fa, fc⟩ := htd3.er
                have hadd1 : S ++ ts3 = txt (allF (m.take k) ++ (if factB ⟨pr, vs, fa, fc⟩ then factT ⟨pr, vs, fa, fc⟩ else [])) := by rw [← HS.out, ← htd3.txt, txt_app]
                have hadd2 : txt (allF (m.take k) ++ (if factB ⟨pr, vs, fa, fc⟩ then factT ⟨pr, vs, fa, fc⟩ else [])) ++ (⟨#[10]⟩ : ByteArray) = txt (allF (m.take (k + 1))) := by rw [HTK2.out, txt_one, txt_app, List.append_assoc]
                obtain ⟨S1, hS1⟩ : ∃ S1, txt (allF (m.take k) ++ (if factB ⟨pr, vs, fa, fc⟩ then factT ⟨pr, vs, fa, fc⟩ else [])) = S1 := ⟨_, rfl⟩
                obtain ⟨S2, hS2⟩ : ∃ S2, txt (allF (m.take (k + 1))) = S2 := ⟨_, rfl⟩
                have hs2 : S2.size ≤ 1300000000 := by rw [← hS2, txt_size]; exact HL2.out
                rw [hS1] at hadd1 hadd2
                rw [hS2] at hadd2
                have hs1 : S1.size ≤ 1300000000 := by
                  have := congrArg ByteArray.size hadd2
                  rw [ByteArray.size_append] at this
                  omega
                have hts : ts3.size ≤ 1300000000 := by
                  have := congrArg ByteArray.size hadd1
                  rw [ByteArray.size_append] at this
                  omega
                have HA1 : Hid _ := hadd1
                have HA2 : Hid _ := hadd2
                have HS2 : Hid _ := hS2
                have HER : Hid _ := her3
                have HBE : Hid _ := bel
                clear hS1 hS2 HTK HTK2 htd3 HPLf HRG hkv HL2 her3 hadd1 hadd2 bel HS
                go_upto_region 22 with fail
                generalize wo.alloc (.cells #[.string pr, .slice none 0 0, .slice none 0 0] 34) = W at HN ⊢
                clear x0
                go_wp2
                go_loopw [14] (fun i wr => ∃ (j : Nat) (a' : Option Addr) (c' : Nat), j ≤ vs.length ∧ i = .int .i64 j ∧ Hid (FSt wo pr vs j a' c' wr)) (fun i _ => vs.length - (intOf i).toNat)
                case atStart => exact ⟨0, none, 0, Nat.zero_le _, rfl, HN⟩
                case round =>
                  obtain ⟨j, a', c', hj, rfl, HH⟩ := hrel
                  clear HN
                  have HBq : Hid (Below w.heap.size w wr) := HBE.out.trans (HH.out.bel.mono HBE.out.size)
                  have y1 : wr.cell? ⟨g, off + k * 2 + 1, none⟩ = some (.slice fa vs.length fc) := HY1.out wr HBq.out
                  have hwl := HH.out.sz
                  by_cases hlt2 : j < vs.length
                  · have hlt2' : (j : Int) < (vs.length : Int) := by omega
                    have hj0 : (0 : Int) ≤ (j : Int) := by omega
                    obtain ⟨g2, off2, rfl, hg2, hT2⟩ := HKV.out (by omega)
                    obtain ⟨x0, x1, x2⟩ := (hT2 j hlt2).below HH.out.bel hg2
                    have HTV : Hid _ := takeV5 hlt2
                    generalize atV vs j = t at x0 x1 x2 HTV
                    have HU : Hid (FSt wo pr vs j a' c' (wr.drew.alloc (.cells #[.int .i8 0, .string ⟨#[]⟩, .int .i8 t.k, .int .i64 t.n, .string t.s] 48))) := (HH.out.keep (Below.refl _ _).drew).keep ((Below.refl _ _).alloc (Nat.le_refl _) _)
                    have m1 := HH.out.r0.at (j := 1) rfl
                    have m1b : (wr.alloc (.cells #[.int .i8 0, .string ⟨#[]⟩, .int .i8 t.k, .int .i64 t.n, .string t.s] 48)).cell? ⟨wo.heap.size, 1, none⟩ = some (.slice a' j c') := (HH.out.r0.below ((Below.refl _ _).alloc (Nat.le_refl _) _)).at (j := 1) rfl
                    have fm := World.rowIs.frozen HH.out.r0 1
                    have HC : Hid (∀ (i : Nat) (u : Value), ([.int .i8 0, .string ⟨#[]⟩, .int .i8 t.k, .int .i64 t.n, .string t.s] : List Value)[i]? = some u → (wr.drew.alloc (.cells #[.int .i8 0, .string ⟨#[]⟩, .int .i8 t.k, .int .i64 t.n, .string t.s] 48)).cell? ((⟨wr.heap.size, 0, none⟩ : Addr).add i) = some u) := lit_news wr.drew #[.int .i8 0, .string ⟨#[]⟩, .int .i8 t.k, .int .i64 t.n, .string t.s] _
                    have HFIN : Hid (∀ {v' : Value} {w3 : World}, w3.ownsRow (wo.heap.size + 1) 48 5 v' (j + 1) (((vs.take j).map asA).flatMap A5.cells ++ [.int .i8 0, .string ⟨#[]⟩, .int .i8 t.k, .int .i64 t.n, .string t.s]) → (wr.drew.alloc (.cells #[.int .i8 0, .string ⟨#[]⟩, .int .i8 t.k, .int .i64 t.n, .string t.s] 48)).grownBy w3 (Value.slice a' j c').ownBlock → ∃ a2 c2, v' = .slice a2 (j + 1) c2 ∧ FSt wo pr vs (j + 1) a2 c2 (w3.setCell ⟨wo.heap.size, 1, none⟩ (.slice a2 (j + 1) c2)) ∧ w3.cell? ⟨wo.heap.size, 1, none⟩ = some (.slice a' j c') ∧ w3.frozen? ⟨wo.heap.size, 1, none⟩ = false) := fun h1 h2 => by
                      obtain ⟨a2, c2, rfl, _⟩ := own_form h1
                      obtain ⟨e1, e2, e3⟩ := FSt.step HU.out HTV.out h1 h2
                      exact ⟨a2, c2, rfl, e1, e2, e3⟩
                    have HOWN : Hid _ := HU.out.own
                    have HSZ : Hid (wo.heap.size + 1 ≤ (wr.drew.alloc (.cells #[.int .i8 0, .string ⟨#[]⟩, .int .i8 t.k, .int .i64 t.n, .string t.s] 48)).heap.size) := by show _ ≤ _; simp; omega
                    clear HU HH hT2 HBq hss hts hs1 hs2
                    go_upto_region 25 with fail
                    go_region_law (
                      refine step_append_own rfl (.tmp 92) (.tmp 103) 31 rfl 48 i0 _ 5 56 Tryd.underlying31 hi0 hz0 hz1 hz2 rfl (by decide) (wo.heap.size + 1) (.slice a' j c') j _ (by simp [Act.eval, Act.put]) HOWN.out ⟨wr.heap.size, 0, none⟩ 1 1 [.int .i8 0, .string ⟨#[]⟩, .int .i8 t.k, .int .i64 t.n, .string t.s] (by simp [Act.eval, Act.put]) rfl HC.out (by simp [Value.oneCell']) (by unfold maxLen; omega) (by omega) HSZ.out ?_
                      intro v' w3 hown' hgrow hloc
                      obtain ⟨a2, c2, rfl, hfin, m2, f2⟩ := HFIN.out hown' hgrow
                      clear hown' hgrow hloc)
                    all_goals
                      go_wp2
                      go_roundw
                      case rel => exact ⟨j + 1, a2, c2, by omega, by go_num, hfin⟩
                      case measure => simp [intOf]; omega
                  · obtain rfl : j = vs.length := by omega
                    have z0 := HH.out.r0.at (j := 0) rfl
                    have z1 := HH.out.r0.at (j := 1) rfl
                    have z2 := HH.out.r0.at (j := 2) rfl
                    have HC : Hid _ := pRule_any (d + 1) (asR ⟨pr, vs, fa, fc⟩) ⟨a', c', none, 0⟩ wr (HG.out _ HBq.out).gr (FSt.ris (d + 1) (y := ⟨pr, vs, fa, fc⟩) HH.out (HFI.out _ HBq.out)) (asR_small (d + 1) (y := ⟨pr, vs, fa, fc⟩) hvl)
                    rw [asR_B, asR_T, HTD3.out.eq] at HC
                    unfold R3.val at HC
                    simp only [asR, List.length_map, List.length_nil] at HC
                    go_wp2_with fail
                    refine Calls.mono HC.out ?_
                    rintro ee w6 ⟨rfl, b6⟩
                    have B6 : Hid (Below w.heap.size w w6) := HBq.out.trans (b6.mono HBq.out.size)
                    clear b6 HC HH HBq z0 z1 z2 y1 HY1 HFI
                    have hadd1 := HA1.out
                    have hadd2 := HA2.out
                    go_wp2
                    go_roundw
                    case rel => exact ⟨k + 1, S2, by omega, by go_num, rfl, HS2, B6.out⟩
                    case measure => simp [intOf]; omega
              · obtain rfl : k = m.length := by omega
                rw [List.take_length] at HS
                go_wp2_with (go_at_call 9; refine (lives_any _ (HG.out _ bel).gr.gq.gp).mono ?_; rintro r w10 ⟨rfl, b10⟩)
                go_ret
                exact ⟨rfl, bel.trans (b10.mono bel.size)⟩
          · simp only [Bool.not_true] at her6
            go_wp2
            go_loopw [7, 12] (fun sv i wr => ∃ (k : Nat) (S : ByteArray), k ≤ m.length ∧ i = .int .i64 k ∧ sv = .string S ∧ Hid (txt (allF (m.take k)) = S) ∧ Below w.heap.size w wr) (fun _ i _ => m.length - (intOf i).toNat)
            case atStart => exact ⟨0, ⟨#[]⟩, Nat.zero_le _, rfl, rfl, by simp [Hid, allF, txt], B5.out⟩
            case round =>
              obtain ⟨k, S, hk, rfl, rfl, HS, bel⟩ := hrel
              rename World => wo
              have hss : S.size ≤ 1300000000 := by rw [← HS.out, txt_size]; exact HLf.out k hk
              by_cases hlt : k < m.length
              · have hlt' : (k : Int) < (m.length : Int) := by omega
                obtain ⟨g, off, rfl, hg, hT⟩ := HK2.out (by omega)
                have HRG : Hid (∀ u, Below w.heap.size w u → u.rangeAt g (off + k * 2) (atF m k).cells) := fun u hu => range_below (hT k hlt) hu hg
                have HFI : Hid (∀ u, Below w.heap.size w u → FIs u (atF m k)) := fun u hu => (HM.out u hu).each k hlt
                have HTK : Hid _ := allF_take hlt
                have HL2 : Hid _ := HLf.out (k + 1) hlt
                have hvl := HSF.out.each k hlt
                have HFB : Hid (okF m = true → factB (atF m k) = true) := fun h => by rw [atF_eq hlt]; exact List.all_eq_true.1 h _ (List.getElem_mem hlt)
                clear hT
                obtain ⟨⟨pr, vs, fa, fc⟩, hy⟩ : ∃ y, atF m k = y := ⟨_, rfl⟩
                rw [hy] at HRG HFI HTK hvl HFB
                clear hy
                have x0 : wo.cell? ⟨g, off + k * 2, none⟩ = some (.string pr) := HRG.out wo bel 0 _ rfl
                have HY1 : Hid (∀ u, Below w.heap.size w u → u.cell? ⟨g, off + k * 2 + 1, none⟩ = some (.slice fa vs.length fc)) := fun u hu => HRG.out u hu 1 _ rfl
                obtain ⟨ya, yc, ey, _, _, hkv⟩ := (HFI.out wo bel).vs.form
                dsimp only at ey hkv hvl
                cases ey
                have HKV : Hid _ := hkv
                have HN : Hid (FSt wo pr vs 0 none 0 (wo.alloc (.cells #[.string pr, .slice none 0 0, .slice none 0 0] 34))) := fst_new wo pr vs
                obtain ⟨ts3, er3, htd3⟩ := told_rule (factB ⟨pr, vs, fa, fc⟩) (factT ⟨pr, vs, fa, fc⟩)
                have HPLf : Hid (plS (if factB ⟨pr, vs, fa, fc⟩ then factT ⟨pr, vs, fa, fc⟩ else [])) := by
                  show plS _
                  split
                  · rename_i h
                    rw [← asR_T]
                    exact rule_pl (d := d + 1) (by rw [asR_B]; exact h)
                  · exact plS_nil
                have HTK2 : Hid (allF (m.take (k + 1)) = allF (m.take k) ++ ((if factB ⟨pr, vs, fa, fc⟩ then factT ⟨pr, vs, fa, fc⟩ else []) ++ [10])) := HTK.out
                have HTD3 : Hid _ := htd3
                have HPL : Hid (plS ts3.data.toList) := by show plS _; rw [← htd3.txt, txt_list]; exact HPLf.out
                have her3 : (er3 == 0) = factB ⟨pr, vs, fa, fc⟩ := htd3.er
                have hadd1 : S ++ ts3 = txt (allF (m.take k) ++ (if factB ⟨pr, vs, fa, fc⟩ then factT ⟨pr, vs, fa, fc⟩ else [])) := by rw [← HS.out, ← htd3.txt, txt_app]
                have hadd2 : txt (allF (m.take k) ++ (if factB ⟨pr, vs, fa, fc⟩ then factT ⟨pr, vs, fa, fc⟩ else [])) ++ (⟨#[10]⟩ : ByteArray) = txt (allF (m.take (k + 1))) := by rw [HTK2.out, txt_one, txt_app, List.append_assoc]
                obtain ⟨S1, hS1⟩ : ∃ S1, txt (allF (m.take k) ++ (if factB ⟨pr, vs, fa, fc⟩ then factT ⟨pr, vs, fa, fc⟩ else [])) = S1 := ⟨_, rfl⟩
                obtain ⟨S2, hS2⟩ : ∃ S2, txt (allF (m.take (k + 1))) = S2 := ⟨_, rfl⟩
                have hs2 : S2.size ≤ 1300000000 := by rw [← hS2, txt_size]; exact HL2.out
                rw [hS1] at hadd1 hadd2
                rw [hS2] at hadd2
                have hs1 : S1.size ≤ 1300000000 := by
                  have := congrArg ByteArray.size hadd2
                  rw [ByteArray.size_append] at this
                  omega
                have hts : ts3.size ≤ 1300000000 := by
                  have := congrArg ByteArray.size hadd1
                  rw [ByteArray.size_append] at this
                  omega
                have HA1 : Hid _ := hadd1
                have HA2 : Hid _ := hadd2
                have HS2 : Hid _ := hS2
                have HER : Hid _ := her3
                have HBE : Hid _ := bel
                clear hS1 hS2 HTK HTK2 htd3 HPLf HRG hkv HL2 her3 hadd1 hadd2 bel HS
                go_upto_region 22 with fail
                generalize wo.alloc (.cells #[.string pr, .slice none 0 0, .slice none 0 0] 34) = W at HN ⊢
                clear x0
                go_wp2
                go_loopw [14] (fun i wr => ∃ (j : Nat) (a' : Option Addr) (c' : Nat), j ≤ vs.length ∧ i = .int .i64 j ∧ Hid (FSt wo pr vs j a' c' wr)) (fun i _ => vs.length - (intOf i).toNat)
                case atStart => exact ⟨0, none, 0, Nat.zero_le _, rfl, HN⟩
                case round =>
                  obtain ⟨j, a', c', hj, rfl, HH⟩ := hrel
                  clear HN
                  have HBq : Hid (Below w.heap.size w wr) := HBE.out.trans (HH.out.bel.mono HBE.out.size)
                  have y1 : wr.cell? ⟨g, off + k * 2 + 1, none⟩ = some (.slice fa vs.length fc) := HY1.out wr HBq.out
                  have hwl := HH.out.sz
                  by_cases hlt2 : j < vs.length
                  · have hlt2' : (j : Int) < (vs.length : Int) := by omega
                    have hj0 : (0 : Int) ≤ (j : Int) := by omega
                    obtain ⟨g2, off2, rfl, hg2, hT2⟩ := HKV.out (by omega)
                    obtain ⟨x0, x1, x2⟩ := (hT2 j hlt2).below HH.out.bel hg2
                    have HTV : Hid _ := takeV5 hlt2
                    generalize atV vs j = t at x0 x1 x2 HTV
                    have HU : Hid (FSt wo pr vs j a' c' (wr.drew.alloc (.cells #[.int .i8 0, .string ⟨#[]⟩, .int .i8 t.k, .int .i64 t.n, .string t.s] 48))) := (HH.out.keep (Below.refl _ _).drew).keep ((Below.refl _ _).alloc (Nat.le_refl _) _)
                    have m1 := HH.out.r0.at (j := 1) rfl
                    have m1b : (wr.alloc (.cells #[.int .i8 0, .string ⟨#[]⟩, .int .i8 t.k, .int .i64 t.n, .string t.s] 48)).cell? ⟨wo.heap.size, 1, none⟩ = some (.slice a' j c') := (HH.out.r0.below ((Below.refl _ _).alloc (Nat.le_refl _) _)).at (j := 1) rfl
                    have fm := World.rowIs.frozen HH.out.r0 1
                    have HC : Hid (∀ (i : Nat) (u : Value), ([.int .i8 0, .string ⟨#[]⟩, .int .i8 t.k, .int .i64 t.n, .string t.s] : List Value)[i]? = some u → (wr.drew.alloc (.cells #[.int .i8 0, .string ⟨#[]⟩, .int .i8 t.k, .int .i64 t.n, .string t.s] 48)).cell? ((⟨wr.heap.size, 0, none⟩ : Addr).add i) = some u) := lit_news wr.drew #[.int .i8 0, .string ⟨#[]⟩, .int .i8 t.k, .int .i64 t.n, .string t.s] _
                    have HFIN : Hid (∀ {v' : Value} {w3 : World}, w3.ownsRow (wo.heap.size + 1) 48 5 v' (j + 1) (((vs.take j).map asA).flatMap A5.cells ++ [.int .i8 0, .string ⟨#[]⟩, .int .i8 t.k, .int .i64 t.n, .string t.s]) → (wr.drew.alloc (.cells #[.int .i8 0, .string ⟨#[]⟩, .int .i8 t.k, .int .i64 t.n, .string t.s] 48)).grownBy w3 (Value.slice a' j c').ownBlock → ∃ a2 c2, v' = .slice a2 (j + 1) c2 ∧ FSt wo pr vs (j + 1) a2 c2 (w3.setCell ⟨wo.heap.size, 1, none⟩ (.slice a2 (j + 1) c2)) ∧ w3.cell? ⟨wo.heap.size, 1, none⟩ = some (.slice a' j c') ∧ w3.frozen? ⟨wo.heap.size, 1, none⟩ = false) := fun h1 h2 => by
                      obtain ⟨a2, c2, rfl, _⟩ := own_form h1
                      obtain ⟨e1, e2, e3⟩ := FSt.step HU.out HTV.out h1 h2
                      exact ⟨a2, c2, rfl, e1, e2, e3⟩
                    have HOWN : Hid _ := HU.out.own
                    have HSZ : Hid (wo.heap.size + 1 ≤ (wr.drew.alloc (.cells #[.int .i8 0, .string ⟨#[]⟩, .int .i8 t.k, .int .i64 t.n, .string t.s] 48)).heap.size) := by show _ ≤ _; simp; omega
                    clear HU HH hT2 HBq hss hts hs1 hs2
                    go_upto_region 25 with fail
                    go_region_law (
                      refine step_append_own rfl (.tmp 92) (.tmp 103) 31 rfl 48 i0 _ 5 56 Tryd.underlying31 hi0 hz0 hz1 hz2 rfl (by decide) (wo.heap.size + 1) (.slice a' j c') j _ (by simp [Act.eval, Act.put]) HOWN.out ⟨wr.heap.size, 0, none⟩ 1 1 [.int .i8 0, .string ⟨#[]⟩, .int .i8 t.k, .int .i64 t.n, .string t.s] (by simp [Act.eval, Act.put]) rfl HC.out (by simp [Value.oneCell']) (by unfold maxLen; omega) (by omega) HSZ.out ?_
                      intro v' w3 hown' hgrow hloc
                      obtain ⟨a2, c2, rfl, hfin, m2, f2⟩ := HFIN.out hown' hgrow
                      clear hown' hgrow hloc)
                    all_goals
                      go_wp2
                      go_roundw
                      case rel => exact ⟨j + 1, a2, c2, by omega, by go_num, hfin⟩
                      case measure => simp [intOf]; omega
                  · obtain rfl : j = vs.length := by omega
                    have z0 := HH.out.r0.at (j := 0) rfl
                    have z1 := HH.out.r0.at (j := 1) rfl
                    have z2 := HH.out.r0.at (j := 2) rfl
                    have HC : Hid _ := pRule_any (d + 1) (asR ⟨pr, vs, fa, fc⟩) ⟨a', c', none, 0⟩ wr (HG.out _ HBq.out).gr (FSt.ris (d + 1) (y := ⟨pr, vs, fa, fc⟩) HH.out (HFI.out _ HBq.out)) (asR_small (d + 1) (y := ⟨pr, vs, fa, fc⟩) hvl)
                    rw [asR_B, asR_T, HTD3.out.eq] at HC
                    unfold R3.val at HC
                    simp only [asR, List.length_map, List.length_nil] at HC
                    go_wp2_with fail
                    refine Calls.mono HC.out ?_
                    rintro ee w6 ⟨rfl, b6⟩
                    have B6 : Hid (Below w.heap.size w w6) := HBq.out.trans (b6.mono HBq.out.size)
                    clear b6 HC HH HBq z0 z1 z2 y1 HY1 HFI
                    have hadd1 := HA1.out
                    have hadd2 := HA2.out
                    have her4 : (er3 == 0) = true := by rw [HER.out]; exact HFB.out HO2.out
                    have her5 : (er3 != 0) = false := by rw [bne, her4]; rfl
                    go_wp2_with (go_at_call 7; refine (plain_any _ _ (by omega) HPL.out).mono ?_; rintro ee w7 ⟨rfl, hw7⟩; subst hw7)
                    go_roundw
                    case rel => exact ⟨k + 1, S2, by omega, by go_num, rfl, HS2, B6.out⟩
                    case measure => simp [intOf]; omega
              · obtain rfl : k = m.length := by omega
                rw [List.take_length] at HS
                have hst : ts2 = S := by rw [← HS.out, allF_ok HO2.out, ← HTD2.out.txt, HO2.out, if_pos rfl]
                subst hst
                have e2 : (ts2.toList == ts2.toList) = true := by simp
                go_wp2_with (go_at_call 9; refine (lives_any _ (HG.out _ bel).gr.gq.gp).mono ?_; rintro r w10 ⟨rfl, b10⟩)
                go_ret
                exact ⟨rfl, bel.trans (b10.mono bel.size)⟩
        · have her : (er == 0) = true := by rw [HTD.out.er]; exact HO.out
          have hst : ts = S := by rw [← HS.out, allS_ok HO.out, ← HTD.out.txt, HO.out, if_pos rfl]
          subst hst
          have e1 : (ts.toList != ts.toList) = false := by simp
          have HF : Hid _ := pFacts_any _ m wr (HG.out _ bel).gf (HM.out _ bel) HSF.out
          rw [HTD2.out.eq] at HF
          clear HS hss
          go_wp2_with fail
          refine Calls.mono HF.out ?_
          rintro ee w5 ⟨rfl, b5⟩
          have B5 : Hid (Below w.heap.size w w5) := bel.trans (b5.mono bel.size)
          clear b5 HF bel her e1
          obtain ⟨ob2, hob2⟩ : ∃ ob2, okF m = ob2 := ⟨_, rfl⟩
          have HO2 : Hid (okF m = ob2) := hob2
          have her2 : (er2 == 0) = ob2 := by rw [← hob2]; exact HTD2.out.er
          have her6 : (er2 != 0) = !ob2 := by rw [bne, her2]
          clear hob2
          cases ob2
          · simp only [Bool.not_false] at her6
            go_wp2
            go_loopw [7, 12] (fun sv i wr => ∃ (k : Nat) (S : ByteArray), k ≤ m.length ∧ i = .int .i64 k ∧ sv = .string S ∧ Hid (txt (allF (m.take k)) = S) ∧ Below w.heap.size w wr) (fun _ i _ => m.length - (intOf i).toNat)
            case atStart => exact ⟨0, ⟨#[]⟩, Nat.zero_le _, rfl, rfl, by simp [Hid, allF, txt], B5.out⟩
            case round =>
              obtain ⟨k, S, hk, rfl, rfl, HS, bel⟩ := hrel
              rename World => wo
              have hss : S.size ≤ 1300000000 := by rw [← HS.out, txt_size]; exact HLf.out k hk
              by_cases hlt : k < m.length
              · have hlt' : (k : Int) < (m.length : Int) := by omega
                obtain ⟨g, off, rfl, hg, hT⟩ := HK2.out (by omega)
                have HRG : Hid (∀ u, Below w.heap.size w u → u.rangeAt g (off + k * 2) (atF m k).cells) := fun u hu => range_below (hT k hlt) hu hg
                have HFI : Hid (∀ u, Below w.heap.size w u → FIs u (atF m k)) := fun u hu => (HM.out u hu).each k hlt
                have HTK : Hid _ := allF_take hlt
                have HL2 : Hid _ := HLf.out (k + 1) hlt
                have hvl := HSF.out.each k hlt
                have HFB : Hid (okF m = true → factB (atF m k) = true) := fun h => by rw [atF_eq hlt]; exact List.all_eq_true.1 h _ (List.getElem_mem hlt)
                clear hT
                obtain ⟨⟨pr, vs, fa, fc⟩, hy⟩ : ∃ y, atF m k = y := ⟨_, rfl⟩
                rw [hy] at HRG HFI HTK hvl HFB
                clear hy
                have x0 : wo.cell? ⟨g, off + k * 2, none⟩ = some (.string pr) := HRG.out wo bel 0 _ rfl
                have HY1 : Hid (∀ u, Below w.heap.size w u → u.cell? ⟨g, off + k * 2 + 1, none⟩ = some (.slice fa vs.length fc)) := fun u hu => HRG.out u hu 1 _ rfl
                obtain ⟨ya, yc, ey, _, _, hkv⟩ := (HFI.out wo bel).vs.form
                dsimp only at ey hkv hvl
                cases ey
                have HKV : Hid _ := hkv
                have HN : Hid (FSt wo pr vs 0 none 0 (wo.alloc (.cells #[.string pr, .slice none 0 0, .slice none 0 0] 34))) := fst_new wo pr vs
                obtain ⟨ts3, er3, htd3⟩ := told_rule (factB ⟨pr, vs, fa, fc⟩) (factT ⟨pr, vs, fa, fc⟩)
                have HPLf : Hid (plS (if factB ⟨pr, vs, fa, fc⟩ then factT ⟨pr, vs, fa, fc⟩ else [])) := by
                  show plS _
                  split
                  · rename_i h
                    rw [← asR_T]
                    exact rule_pl (d := d + 1) (by rw [asR_B]; exact h)
                  · exact plS_nil
                have HTK2 : Hid (allF (m.take (k + 1)) = allF (m.take k) ++ ((if factB ⟨pr, vs, fa, fc⟩ then factT ⟨pr, vs, fa, fc⟩ else []) ++ [10])) := HTK.out
                have HTD3 : Hid _ := htd3
                have HPL : Hid (plS ts3.data.toList) := by show plS _; rw [← htd3.txt, txt_list]; exact HPLf.out
                have her3 : (er3 == 0) = factB ⟨pr, vs, fa, fc⟩ := htd3.er
                have hadd1 : S ++ ts3 = txt (allF (m.take k) ++ (if factB ⟨pr, vs, fa, fc⟩ then factT ⟨pr, vs, fa, fc⟩ else [])) := by rw [← HS.out, ← htd3.txt, txt_app]
                have hadd2 : txt (allF (m.take k) ++ (if factB ⟨pr, vs, fa, fc⟩ then factT ⟨pr, vs, fa, fc⟩ else [])) ++ (⟨#[10]⟩ : ByteArray) = txt (allF (m.take (k + 1))) := by rw [HTK2.out, txt_one, txt_app, List.append_assoc]
                obtain ⟨S1, hS1⟩ : ∃ S1, txt (allF (m.take k) ++ (if factB ⟨pr, vs, fa, fc⟩ then factT ⟨pr, vs, fa, fc⟩ else [])) = S1 := ⟨_, rfl⟩
                obtain ⟨S2, hS2⟩ : ∃ S2, txt (allF (m.take (k + 1))) = S2 := ⟨_, rfl⟩
                have hs2 : S2.size ≤ 1300000000 := by rw [← hS2, txt_size]; exact HL2.out
                rw [hS1] at hadd1 hadd2
                rw [hS2] at hadd2
                have hs1 : S1.size ≤ 1300000000 := by
                  have := congrArg ByteArray.size hadd2
                  rw [ByteArray.size_append] at this
                  omega
                have hts : ts3.size ≤ 1300000000 := by
                  have := congrArg ByteArray.size hadd1
                  rw [ByteArray.size_append] at this
                  omega
                have HA1 : Hid _ := hadd1
                have HA2 : Hid _ := hadd2
                have HS2 : Hid _ := hS2
                have HER : Hid _ := her3
                have HBE : Hid _ := bel
                clear hS1 hS2 HTK HTK2 htd3 HPLf HRG hkv HL2 her3 hadd1 hadd2 bel HS
                go_upto_region 22 with fail
                generalize wo.alloc (.cells #[.string pr, .slice none 0 0, .slice none 0 0] 34) = W at HN ⊢
                clear x0
                go_wp2
                go_loopw [14] (fun i wr => ∃ (j : Nat) (a' : Option Addr) (c' : Nat), j ≤ vs.length ∧ i = .int .i64 j ∧ Hid (FSt wo pr vs j a' c' wr)) (fun i _ => vs.length - (intOf i).toNat)
                case atStart => exact ⟨0, none, 0, Nat.zero_le _, rfl, HN⟩
                case round =>
                  obtain ⟨j, a', c', hj, rfl, HH⟩ := hrel
                  clear HN
                  have HBq : Hid (Below w.heap.size w wr) := HBE.out.trans (HH.out.bel.mono HBE.out.size)
                  have y1 : wr.cell? ⟨g, off + k * 2 + 1, none⟩ = some (.slice fa vs.length fc) := HY1.out wr HBq.out
                  have hwl := HH.out.sz
                  by_cases hlt2 : j < vs.length
                  · have hlt2' : (j : Int) < (vs.length : Int) := by omega
                    have hj0 : (0 : Int) ≤ (j : Int) := by omega
                    obtain ⟨g2, off2, rfl, hg2, hT2⟩ := HKV.out (by omega)
                    obtain ⟨x0, x1, x2⟩ := (hT2 j hlt2).below HH.out.bel hg2
                    have HTV : Hid _ := takeV5 hlt2
                    generalize atV vs j = t at x0 x1 x2 HTV
                    have HU : Hid (FSt wo pr vs j a' c' (wr.drew.alloc (.cells #[.int .i8 0, .string ⟨#[]⟩, .int .i8 t.k, .int .i64 t.n, .string t.s] 48))) := (HH.out.keep (Below.refl _ _).drew).keep ((Below.refl _ _).alloc (Nat.le_refl _) _)
                    have m1 := HH.out.r0.at (j := 1) rfl
                    have m1b : (wr.alloc (.cells #[.int .i8 0, .string ⟨#[]⟩, .int .i8 t.k, .int .i64 t.n, .string t.s] 48)).cell? ⟨wo.heap.size, 1, none⟩ = some (.slice a' j c') := (HH.out.r0.below ((Below.refl _ _).alloc (Nat.le_refl _) _)).at (j := 1) rfl
                    have fm := World.rowIs.frozen HH.out.r0 1
                    have HC : Hid (∀ (i : Nat) (u : Value), ([.int .i8 0, .string ⟨#[]⟩, .int .i8 t.k, .int .i64 t.n, .string t.s] : List Value)[i]? = some u → (wr.drew.alloc (.cells #[.int .i8 0, .string ⟨#[]⟩, .int .i8 t.k, .int .i64 t.n, .string t.s] 48)).cell? ((⟨wr.heap.size, 0, none⟩ : Addr).add i) = some u) := lit_news wr.drew #[.int .i8 0, .string ⟨#[]⟩, .int .i8 t.k, .int .i64 t.n, .string t.s] _
                    have HFIN : Hid (∀ {v' : Value} {w3 : World}, w3.ownsRow (wo.heap.size + 1) 48 5 v' (j + 1) (((vs.take j).map asA).flatMap A5.cells ++ [.int .i8 0, .string ⟨#[]⟩, .int .i8 t.k, .int .i64 t.n, .string t.s]) → (wr.drew.alloc (.cells #[.int .i8 0, .string ⟨#[]⟩, .int .i8 t.k, .int .i64 t.n, .string t.s] 48)).grownBy w3 (Value.slice a' j c').ownBlock → ∃ a2 c2, v' = .slice a2 (j + 1) c2 ∧ FSt wo pr vs (j + 1) a2 c2 (w3.setCell ⟨wo.heap.size, 1, none⟩ (.slice a2 (j + 1) c2)) ∧ w3.cell? ⟨wo.heap.size, 1, none⟩ = some (.slice a' j c') ∧ w3.frozen? ⟨wo.heap.size, 1, none⟩ = false) := fun h1 h2 => by
                      obtain ⟨a2, c2, rfl, _⟩ := own_form h1
                      obtain ⟨e1, e2, e3⟩ := FSt.step HU.out HTV.out h1 h2
                      exact ⟨a2, c2, rfl, e1, e2, e3⟩
                    have HOWN : Hid _ := HU.out.own
                    have HSZ : Hid (wo.heap.size + 1 ≤ (wr.drew.alloc (.cells #[.int .i8 0, .string ⟨#[]⟩, .int .i8 t.k, .int .i64 t.n, .string t.s] 48)).heap.size) := by show _ ≤ _; simp; omega
                    clear HU HH hT2 HBq hss hts hs1 hs2
                    go_upto_region 25 with fail
                    go_region_law (
                      refine step_append_own rfl (.tmp 92) (.tmp 103) 31 rfl 48 i0 _ 5 56 Tryd.underlying31 hi0 hz0 hz1 hz2 rfl (by decide) (wo.heap.size + 1) (.slice a' j c') j _ (by simp [Act.eval, Act.put]) HOWN.out ⟨wr.heap.size, 0, none⟩ 1 1 [.int .i8 0, .string ⟨#[]⟩, .int .i8 t.k, .int .i64 t.n, .string t.s] (by simp [Act.eval, Act.put]) rfl HC.out (by simp [Value.oneCell']) (by unfold maxLen; omega) (by omega) HSZ.out ?_
                      intro v' w3 hown' hgrow hloc
                      obtain ⟨a2, c2, rfl, hfin, m2, f2⟩ := HFIN.out hown' hgrow
                      clear hown' hgrow hloc)
                    all_goals
                      go_wp2
                      go_roundw
                      case rel => exact ⟨j + 1, a2, c2, by omega, by go_num, hfin⟩
                      case measure => simp [intOf]; omega
                  · obtain rfl : j = vs.length := by omega
                    have z0 := HH.out.r0.at (j := 0) rfl
                    have z1 := HH.out.r0.at (j := 1) rfl
                    have z2 := HH.out.r0.at (j := 2) rfl
                    have HC : Hid _ := pRule_any (d + 1) (asR ⟨pr, vs, fa, fc⟩) ⟨a', c', none, 0⟩ wr (HG.out _ HBq.out).gr (FSt.ris (d + 1) (y := ⟨pr, vs, fa, fc⟩) HH.out (HFI.out _ HBq.out)) (asR_small (d + 1) (y := ⟨pr, vs, fa, fc⟩) hvl)
                    rw [asR_B, asR_T, HTD3.out.eq] at HC
                    unfold R3.val at HC
                    simp only [asR, List.length_map, List.length_nil] at HC
                    go_wp2_with fail
                    refine Calls.mono HC.out ?_
                    rintro ee w6 ⟨rfl, b6⟩
                    have B6 : Hid (Below w.heap.size w w6) := HBq.out.trans (b6.mono HBq.out.size)
                    clear b6 HC HH HBq z0 z1 z2 y1 HY1 HFI
                    have hadd1 := HA1.out
                    have hadd2 := HA2.out
                    go_wp2
                    go_roundw
                    case rel => exact ⟨k + 1, S2, by omega, by go_num, rfl, HS2, B6.out⟩
                    case measure => simp [intOf]; omega
              · obtain rfl : k = m.length := by omega
                rw [List.take_length] at HS
                go_wp2_with (go_at_call 9; refine (lives_any _ (HG.out _ bel).gr.gq.gp).mono ?_; rintro r w10 ⟨rfl, b10⟩)
                go_ret
                exact ⟨rfl, bel.trans (b10.mono bel.size)⟩
          · simp only [Bool.not_true] at her6
            go_wp2
            go_loopw [7, 12] (fun sv i wr => ∃ (k : Nat) (S : ByteArray), k ≤ m.length ∧ i = .int .i64 k ∧ sv = .string S ∧ Hid (txt (allF (m.take k)) = S) ∧ Below w.heap.size w wr) (fun _ i _ => m.length - (intOf i).toNat)
            case atStart => exact ⟨0, ⟨#[]⟩, Nat.zero_le _, rfl, rfl, by simp [Hid, allF, txt], B5.out⟩
            case round =>
              obtain ⟨k, S, hk, rfl, rfl, HS, bel⟩ := hrel
              rename World => wo
              have hss : S.size ≤ 1300000000 := by rw [← HS.out, txt_size]; exact HLf.out k hk
              by_cases hlt : k < m.length
              · have hlt' : (k : Int) < (m.length : Int) := by omega
                obtain ⟨g, off, rfl, hg, hT⟩ := HK2.out (by omega)
                have HRG : Hid (∀ u, Below w.heap.size w u → u.rangeAt g (off + k * 2) (atF m k).cells) := fun u hu => range_below (hT k hlt) hu hg
                have HFI : Hid (∀ u, Below w.heap.size w u → FIs u (atF m k)) := fun u hu => (HM.out u hu).each k hlt
                have HTK : Hid _ := allF_take hlt
                have HL2 : Hid _ := HLf.out (k + 1) hlt
                have hvl := HSF.out.each k hlt
                have HFB : Hid (okF m = true → factB (atF m k) = true) := fun h => by rw [atF_eq hlt]; exact List.all_eq_true.1 h _ (List.getElem_mem hlt)
                clear hT
                obtain ⟨⟨pr, vs, fa, fc⟩, hy⟩ : ∃ y, atF m k = y := ⟨_, rfl⟩
                rw [hy] at HRG HFI HTK hvl HFB
                clear hy
                have x0 : wo.cell? ⟨g, off + k * 2, none⟩ = some (.string pr) := HRG.out wo bel 0 _ rfl
                have HY1 : Hid (∀ u, Below w.heap.size w u → u.cell? ⟨g, off + k * 2 + 1, none⟩ = some (.slice fa vs.length fc)) := fun u hu => HRG.out u hu 1 _ rfl
                obtain ⟨ya, yc, ey, _, _, hkv⟩ := (HFI.out wo bel).vs.form
                dsimp only at ey hkv hvl
                cases ey
                have HKV : Hid _ := hkv
                have HN : Hid (FSt wo pr vs 0 none 0 (wo.alloc (.cells #[.string pr, .slice none 0 0, .slice none 0 0] 34))) := fst_new wo pr vs
                obtain ⟨ts3, er3, htd3⟩ := told_rule (factB ⟨pr, vs, fa, fc⟩) (factT ⟨pr, vs, fa, fc⟩)
                have HPLf : Hid (plS (if factB ⟨pr, vs, fa, fc⟩ then factT ⟨pr, vs, fa, fc⟩ else [])) := by
                  show plS _
                  split
                  · rename_i h
                    rw [← asR_T]
                    exact rule_pl (d := d + 1) (by rw [asR_B]; exact h)
                  · exact plS_nil
                have HTK2 : Hid (allF (m.take (k + 1)) = allF (m.take k) ++ ((if factB ⟨pr, vs, fa, fc⟩ then factT ⟨pr, vs, fa, fc⟩ else []) ++ [10])) := HTK.out
                have HTD3 : Hid _ := htd3
                have HPL : Hid (plS ts3.data.toList) := by show plS _; rw [← htd3.txt, txt_list]; exact HPLf.out
                have her3 : (er3 == 0) = factB ⟨pr, vs, fa, fc⟩ := htd3.er
                have hadd1 : S ++ ts3 = txt (allF (m.take k) ++ (if factB ⟨pr, vs, fa, fc⟩ then factT ⟨pr, vs, fa, fc⟩ else [])) := by rw [← HS.out, ← htd3.txt, txt_app]
                have hadd2 : txt (allF (m.take k) ++ (if factB ⟨pr, vs, fa, fc⟩ then factT ⟨pr, vs, fa, fc⟩ else [])) ++ (⟨#[10]⟩ : ByteArray) = txt (allF (m.take (k + 1))) := by rw [HTK2.out, txt_one, txt_app, List.append_assoc]
                obtain ⟨S1, hS1⟩ : ∃ S1, txt (allF (m.take k) ++ (if factB ⟨pr, vs, fa, fc⟩ then factT ⟨pr, vs, fa, fc⟩ else [])) = S1 := ⟨_, rfl⟩
                obtain ⟨S2, hS2⟩ : ∃ S2, txt (allF (m.take (k + 1))) = S2 := ⟨_, rfl⟩
                have hs2 : S2.size ≤ 1300000000 := by rw [← hS2, txt_size]; exact HL2.out
                rw [hS1] at hadd1 hadd2
                rw [hS2] at hadd2
                have hs1 : S1.size ≤ 1300000000 := by
                  have := congrArg ByteArray.size hadd2
                  rw [ByteArray.size_append] at this
                  omega
                have hts : ts3.size ≤ 1300000000 := by
                  have := congrArg ByteArray.size hadd1
                  rw [ByteArray.size_append] at this
                  omega
                have HA1 : Hid _ := hadd1
                have HA2 : Hid _ := hadd2
                have HS2 : Hid _ := hS2
                have HER : Hid _ := her3
                have HBE : Hid _ := bel
                clear hS1 hS2 HTK HTK2 htd3 HPLf HRG hkv HL2 her3 hadd1 hadd2 bel HS
                go_upto_region 22 with fail
                generalize wo.alloc (.cells #[.string pr, .slice none 0 0, .slice none 0 0] 34) = W at HN ⊢
                clear x0
                go_wp2
                go_loopw [14] (fun i wr => ∃ (j : Nat) (a' : Option Addr) (c' : Nat), j ≤ vs.length ∧ i = .int .i64 j ∧ Hid (FSt wo pr vs j a' c' wr)) (fun i _ => vs.length - (intOf i).toNat)
                case atStart => exact ⟨0, none, 0, Nat.zero_le _, rfl, HN⟩
                case round =>
                  obtain ⟨j, a', c', hj, rfl, HH⟩ := hrel
                  clear HN
                  have HBq : Hid (Below w.heap.size w wr) := HBE.out.trans (HH.out.bel.mono HBE.out.size)
                  have y1 : wr.cell? ⟨g, off + k * 2 + 1, none⟩ = some (.slice fa vs.length fc) := HY1.out wr HBq.out
                  have hwl := HH.out.sz
                  by_cases hlt2 : j < vs.length
                  · have hlt2' : (j : Int) < (vs.length : Int) := by omega
                    have hj0 : (0 : Int) ≤ (j : Int) := by omega
                    obtain ⟨g2, off2, rfl, hg2, hT2⟩ := HKV.out (by omega)
                    obtain ⟨x0, x1, x2⟩ := (hT2 j hlt2).below HH.out.bel hg2
                    have HTV : Hid _ := takeV5 hlt2
                    generalize atV vs j = t at x0 x1 x2 HTV
                    have HU : Hid (FSt wo pr vs j a' c' (wr.drew.alloc (.cells #[.int .i8 0, .string ⟨#[]⟩, .int .i8 t.k, .int .i64 t.n, .string t.s] 48))) := (HH.out.keep (Below.refl _ _).drew).keep ((Below.refl _ _).alloc (Nat.le_refl _) _)
                    have m1 := HH.out.r0.at (j := 1) rfl
                    have m1b : (wr.alloc (.cells #[.int .i8 0, .string ⟨#[]⟩, .int .i8 t.k, .int .i64 t.n, .string t.s] 48)).cell? ⟨wo.heap.size, 1, none⟩ = some (.slice a' j c') := (HH.out.r0.below ((Below.refl _ _).alloc (Nat.le_refl _) _)).at (j := 1) rfl
                    have fm := World.rowIs.frozen HH.out.r0 1
                    have HC : Hid (∀ (i : Nat) (u : Value), ([.int .i8 0, .string ⟨#[]⟩, .int .i8 t.k, .int .i64 t.n, .string t.s] : List Value)[i]? = some u → (wr.drew.alloc (.cells #[.int .i8 0, .string ⟨#[]⟩, .int .i8 t.k, .int .i64 t.n, .string t.s] 48)).cell? ((⟨wr.heap.size, 0, none⟩ : Addr).add i) = some u) := lit_news wr.drew #[.int .i8 0, .string ⟨#[]⟩, .int .i8 t.k, .int .i64 t.n, .string t.s] _
                    have HFIN : Hid (∀ {v' : Value} {w3 : World}, w3.ownsRow (wo.heap.size + 1) 48 5 v' (j + 1) (((vs.take j).map asA).flatMap A5.cells ++ [.int .i8 0, .string ⟨#[]⟩, .int .i8 t.k, .int .i64 t.n, .string t.s]) → (wr.drew.alloc (.cells #[.int .i8 0, .string ⟨#[]⟩, .int .i8 t.k, .int .i64 t.n, .string t.s] 48)).grownBy w3 (Value.slice a' j c').ownBlock → ∃ a2 c2, v' = .slice a2 (j + 1) c2 ∧ FSt wo pr vs (j + 1) a2 c2 (w3.setCell ⟨wo.heap.size, 1, none⟩ (.slice a2 (j + 1) c2)) ∧ w3.cell? ⟨wo.heap.size, 1, none⟩ = some (.slice a' j c') ∧ w3.frozen? ⟨wo.heap.size, 1, none⟩ = false) := fun h1 h2 => by
                      obtain ⟨a2, c2, rfl, _⟩ := own_form h1
                      obtain ⟨e1, e2, e3⟩ := FSt.step HU.out HTV.out h1 h2
                      exact ⟨a2, c2, rfl, e1, e2, e3⟩
                    have HOWN : Hid _ := HU.out.own
                    have HSZ : Hid (wo.heap.size + 1 ≤ (wr.drew.alloc (.cells #[.int .i8 0, .string ⟨#[]⟩, .int .i8 t.k, .int .i64 t.n, .string t.s] 48)).heap.size) := by show _ ≤ _; simp; omega
                    clear HU HH hT2 HBq hss hts hs1 hs2
                    go_upto_region 25 with fail
                    go_region_law (
                      refine step_append_own rfl (.tmp 92) (.tmp 103) 31 rfl 48 i0 _ 5 56 Tryd.underlying31 hi0 hz0 hz1 hz2 rfl (by decide) (wo.heap.size + 1) (.slice a' j c') j _ (by simp [Act.eval, Act.put]) HOWN.out ⟨wr.heap.size, 0, none⟩ 1 1 [.int .i8 0, .string ⟨#[]⟩, .int .i8 t.k, .int .i64 t.n, .string t.s] (by simp [Act.eval, Act.put]) rfl HC.out (by simp [Value.oneCell']) (by unfold maxLen; omega) (by omega) HSZ.out ?_
                      intro v' w3 hown' hgrow hloc
                      obtain ⟨a2, c2, rfl, hfin, m2, f2⟩ := HFIN.out hown' hgrow
                      clear hown' hgrow hloc)
                    all_goals
                      go_wp2
                      go_roundw
                      case rel => exact ⟨j + 1, a2, c2, by omega, by go_num, hfin⟩
                      case measure => simp [intOf]; omega
                  · obtain rfl : j = vs.length := by omega
                    have z0 := HH.out.r0.at (j := 0) rfl
                    have z1 := HH.out.r0.at (j := 1) rfl
                    have z2 := HH.out.r0.at (j := 2) rfl
                    have HC : Hid _ := pRule_any (d + 1) (asR ⟨pr, vs, fa, fc⟩) ⟨a', c', none, 0⟩ wr (HG.out _ HBq.out).gr (FSt.ris (d + 1) (y := ⟨pr, vs, fa, fc⟩) HH.out (HFI.out _ HBq.out)) (asR_small (d + 1) (y := ⟨pr, vs, fa, fc⟩) hvl)
                    rw [asR_B, asR_T, HTD3.out.eq] at HC
                    unfold R3.val at HC
                    simp only [asR, List.length_map, List.length_nil] at HC
                    go_wp2_with fail
                    refine Calls.mono HC.out ?_
                    rintro ee w6 ⟨rfl, b6⟩
                    have B6 : Hid (Below w.heap.size w w6) := HBq.out.trans (b6.mono HBq.out.size)
                    clear b6 HC HH HBq z0 z1 z2 y1 HY1 HFI
                    have hadd1 := HA1.out
                    have hadd2 := HA2.out
                    have her4 : (er3 == 0) = true := by rw [HER.out]; exact HFB.out HO2.out
                    have her5 : (er3 != 0) = false := by rw [bne, her4]; rfl
                    go_wp2_with (go_at_call 7; refine (plain_any _ _ (by omega) HPL.out).mono ?_; rintro ee w7 ⟨rfl, hw7⟩; subst hw7)
                    go_roundw
                    case rel => exact ⟨k + 1, S2, by omega, by go_num, rfl, HS2, B6.out⟩
                    case measure => simp [intOf]; omega
              · obtain rfl : k = m.length := by omega
                rw [List.take_length] at HS
                have hst : ts2 = S := by rw [← HS.out, allF_ok HO2.out, ← HTD2.out.txt, HO2.out, if_pos rfl]
                subst hst
                have e2 : (ts2.toList == ts2.toList) = true := by simp
                go_wp2_with (go_at_call 9; refine (lives_any _ (HG.out _ bel).gr.gq.gp).mono ?_; rintro r w10 ⟨rfl, b10⟩)
                go_ret
                exact ⟨rfl, bel.trans (b10.mono bel.size)⟩
  · go_wp2
    go_ret
    exact ⟨rfl, B1.out⟩
end Go.Proofs.YtlonpacgmoghiaaDoor
