import Derived.Test.YteabclfhmapabaaDoorA30
import Derived.Test.YteabclfhmapabaaDoorA4
import Derived.Test.YteabclfhmapabaaDoorA6
section
namespace Go.Proofs.YteabclfhmapabaaDoor
open Go.RowKit Go.Maps
set_option linter.unusedVariables false
set_option linter.unusedSimpArgs false
attribute [local go_sem ↓] Go.wp_at_zero Go.wp_at_succ

/-- only these blocks may have turned -/
structure Tch (E : Nat → Prop) (w w' : World) : Prop where
  os : w'.os = w.os
  tape : w'.tape = w.tape
  output : w'.output = w.output
  size : w.heap.size ≤ w'.heap.size
  block : ∀ g, g < w.heap.size → ¬ E g → w'.heap[g]? = w.heap[g]?
theorem Tch.refl (E : Nat → Prop) (w : World) : Tch E w w := ⟨rfl, rfl, rfl, Nat.le_refl _, fun _ _ _ => rfl⟩
theorem Tch.trans {E : Nat → Prop} {a b c : World} (h : Tch E a b) (k : Tch E b c) : Tch E a c :=
  ⟨k.os.trans h.os, k.tape.trans h.tape, k.output.trans h.output, Nat.le_trans h.size k.size, fun g hg he => (k.block g (Nat.lt_of_lt_of_le hg h.size) he).trans (h.block g hg he)⟩
theorem Tch.mono {E E' : Nat → Prop} {w w' : World} (h : Tch E w w') (he : ∀ g, E g → E' g) : Tch E' w w' := ⟨h.os, h.tape, h.output, h.size, fun g hg hn => h.block g hg (fun e => hn (he g e))⟩
theorem Pt.tch {w w' : World} {g o : Nat} {t : T} (h : Pt w g o t w') : Tch (fun b => b = g) w w' := ⟨h.os, h.tape, h.output, h.size, fun b hb hn => h.blk b hb hn⟩
theorem flat_mem {bls : List (List Nat)} {i x : Nat} (hi : i < bls.length) (hx : x ∈ bls.getD i []) : x ∈ bls.flatten := by
  rw [List.getD_eq_getElem?_getD, List.getElem?_eq_getElem hi] at hx
  exact List.mem_flatten.2 ⟨_, List.getElem_mem hi, hx⟩
theorem flat_disj {bls : List (List Nat)} (h : bls.flatten.Nodup) {i k x : Nat} (hi : i < bls.length) (hk : k < bls.length) (hik : i ≠ k) (hx : x ∈ bls.getD i []) : x ∉ bls.getD k [] := by
  intro hy
  rw [List.getD_eq_getElem?_getD, List.getElem?_eq_getElem hi] at hx
  rw [List.getD_eq_getElem?_getD, List.getElem?_eq_getElem hk] at hy
  have hp := (List.pairwise_flatten.1 h).2
  rw [List.pairwise_iff_getElem] at hp
  rcases Nat.lt_or_gt_of_ne hik with hl | hl
  · exact hp i k hi hk hl x hx x hy rfl
  · exact hp k i hk hi hl x hy x hx rfl
/-- an expression whose kids' rows lie in blocks of their own, no two in one -/
def EB (w : World) : Nat → E → Option Addr → Nat → List Nat → Prop
  | 0, _, _, _, _ => False
  | d + 1, e, a, c, bl => ((-128 ≤ e.op ∧ e.op ≤ 127) ∧ e.kids.length ≤ 281474976710656) ∧ e.t.wf ∧ e.kids.length ≤ c ∧ c ≤ maxLen ∧
    ((e.kids = [] ∧ bl = []) ∨ ∃ g bls, a = some ⟨g, 0, none⟩ ∧ g < w.heap.size ∧ bl = g :: List.flatten bls ∧ bls.length = e.kids.length ∧ bl.Nodup ∧ (∀ j, w.frozen? ⟨g, j, none⟩ = false) ∧
      ∀ i, i < e.kids.length → ∃ a' c', XAt w g (i * 6) (atE e.kids i).op (atE e.kids i).t (.slice a' (atE e.kids i).kids.length c') ∧ EB w d (atE e.kids i) a' c' (bls.getD i []))
theorem XAt.sameC {w w' : World} {g o : Nat} {op : Int} {t : T} {s : Value} (h : XAt w g o op t s) (e : ∀ j, o ≤ j → j < o + 6 → w'.cell? ⟨g, j, none⟩ = w.cell? ⟨g, j, none⟩) : XAt w' g o op t s :=
  ⟨(e _ (by omega) (by omega)).trans h.c0, (e _ (by omega) (by omega)).trans h.c1, (e _ (by omega) (by omega)).trans h.c2, (e _ (by omega) (by omega)).trans h.c3, (e _ (by omega) (by omega)).trans h.c4, (e _ (by omega) (by omega)).trans h.c5⟩
theorem cell_block {w w' : World} {g : Nat} (e : w'.heap[g]? = w.heap[g]?) (j : Nat) : w'.cell? ⟨g, j, none⟩ = w.cell? ⟨g, j, none⟩ := by unfold World.cell?; rw [e]
theorem frozen_block {w w' : World} {g : Nat} (e : w'.heap[g]? = w.heap[g]?) (j : Nat) : w'.frozen? ⟨g, j, none⟩ = w.frozen? ⟨g, j, none⟩ := by unfold World.frozen?; rw [e]
theorem EB.keep {w w' : World} (hs : w.heap.size ≤ w'.heap.size) : ∀ {d : Nat} {e : E} {a : Option Addr} {c : Nat} {bl : List Nat}, EB w d e a c bl → (∀ b ∈ bl, w'.heap[b]? = w.heap[b]?) → EB w' d e a c bl
  | 0, _, _, _, _, h, _ => h
  | d + 1, e, a, c, bl, h, hk => by
    obtain ⟨h1, h2, h3, h4, h5⟩ := h
    refine ⟨h1, h2, h3, h4, ?_⟩
    rcases h5 with h5 | ⟨g, bls, ha, hg, hbl, hl, hnd, hf, hx⟩
    · exact .inl h5
    · subst hbl
      have e1 := hk g (by simp)
      refine .inr ⟨g, bls, ha, Nat.lt_of_lt_of_le hg hs, rfl, hl, hnd, fun j => by rw [frozen_block e1]; exact hf j, fun i hi => ?_⟩
      obtain ⟨a', c', x1, x2⟩ := hx i hi
      exact ⟨a', c', x1.sameC (fun j _ _ => cell_block e1 j), x2.keep hs (fun b hb => hk b (List.mem_cons_of_mem _ (flat_mem (by omega) hb)))⟩
theorem EB.lt {w : World} : ∀ {d : Nat} {e : E} {a : Option Addr} {c : Nat} {bl : List Nat}, EB w d e a c bl → ∀ b ∈ bl, b < w.heap.size
  | 0, _, _, _, _, h => h.elim
  | d + 1, e, a, c, bl, h => by
    obtain ⟨h1, h2, h3, h4, h5⟩ := h
    rcases h5 with ⟨_, h5⟩ | ⟨g, bls, ha, hg, hbl, hl, hnd, hf, hx⟩
    · intro b hb; rw [h5] at hb; cases hb
    · subst hbl
      intro b hb
      rcases List.mem_cons.1 hb with rfl | hb
      · exact hg
      · obtain ⟨l, hl1, hl2⟩ := List.mem_flatten.1 hb
        obtain ⟨i, hi, rfl⟩ := List.mem_iff_getElem.1 hl1
        obtain ⟨a', c', _, x2⟩ := hx i (by omega)
        exact x2.lt b (by rw [List.getD_eq_getElem?_getD, List.getElem?_eq_getElem hi]; exact hl2)
theorem EB.eis {w : World} : ∀ {d : Nat} {e : E} {a : Option Addr} {c : Nat} {bl : List Nat}, EB w d e a c bl → EIs w d e a c
  | 0, _, _, _, _, h => h
  | d + 1, e, a, c, bl, h => by
    obtain ⟨h1, h2, h3, h4, h5⟩ := h
    refine ⟨h1, h2, h3, h4, fun h0 => ?_⟩
    rcases h5 with ⟨h5, _⟩ | ⟨g, bls, ha, hg, hbl, hl, hnd, hf, hx⟩
    · rw [h5] at h0; simp at h0
    · refine ⟨g, 0, ha, hg, fun i hi => ?_⟩
      obtain ⟨a', c', x1, x2⟩ := hx i hi
      exact ⟨a', c', by rw [Nat.zero_add]; exact x1, x2.eis⟩
/-- an expression with what takes its terms' places -/
def apD (f : T → T) : Nat → E → E
  | 0, e => e
  | d + 1, e => .mk e.op (f e.t) (e.kids.map (apD f d))
theorem apD_succ (f : T → T) (d : Nat) (e : E) : apD f (d + 1) e = .mk e.op (f e.t) (e.kids.map (apD f d)) := rfl
theorem apD_op (f : T → T) : ∀ (d : Nat) (e : E), (apD f d e).op = e.op
  | 0, e => rfl
  | d + 1, e => rfl
theorem apD_len (f : T → T) : ∀ (d : Nat) (e : E), (apD f d e).kids.length = e.kids.length
  | 0, e => rfl
  | d + 1, e => by rw [apD_succ]; show (e.kids.map (apD f d)).length = _; simp
theorem atE_map (f : E → E) {l : List E} {i : Nat} (h : i < l.length) : atE (l.map f) i = f (atE l i) := by
  rw [atE_eq (by simpa using h), atE_eq h, List.getElem_map]
def putF (bm : Nat) : Value := .func (.func 31) #[.map (some bm)] #[]
/-- what a walk over an expression at a place leaves -/
structure Wx (w : World) (g o : Nat) (d : Nat) (e : E) (a : Option Addr) (c : Nat) (bl : List Nat) (s : List P) (w' : World) : Prop where
  tch : Tch (fun b => b = g ∨ b ∈ bl) w w'
  xat : XAt w' g o e.op (res s e.t) (.slice a e.kids.length c)
  oth : ∀ j, (j < o + 1 ∨ o + 5 ≤ j) → w'.cell? ⟨g, j, none⟩ = w.cell? ⟨g, j, none⟩
  frz : ∀ j, w'.frozen? ⟨g, j, none⟩ = false
  eb : EB w' d (apD (res s) d e) a c bl
theorem XAt.tat {w : World} {g o : Nat} {op : Int} {t : T} {s : Value} (h : XAt w g o op t s) : TAt w g (o + 1) t := ⟨h.c1, h.c2, h.c3, h.c4⟩
theorem apD_t (f : T → T) {d : Nat} (e : E) (h : d ≠ 0) : (apD f d e).t = f e.t := by
  cases d with
  | zero => exact absurd rfl h
  | succ d => rfl
theorem EB.pos {w : World} {d : Nat} {e : E} {a : Option Addr} {c : Nat} {bl : List Nat} (h : EB w d e a c bl) : d ≠ 0 := fun e0 => by subst e0; exact h
/-- what the walk over the kids keeps -/
structure Wl (w : World) (g o d : Nat) (e : E) (c g' : Nat) (bls : List (List Nat)) (s : List P) (bm k : Nat) (wr : World) : Prop where
  tch : Tch (fun b => b = g ∨ b ∈ g' :: bls.flatten) w wr
  xat : XAt wr g o e.op (res s e.t) (.slice (some ⟨g', 0, none⟩) e.kids.length c)
  oth : ∀ j, (j < o + 1 ∨ o + 5 ≤ j) → wr.cell? ⟨g, j, none⟩ = w.cell? ⟨g, j, none⟩
  frz : ∀ j, wr.frozen? ⟨g, j, none⟩ = false
  map : MapT wr bm s
  gl : g' < wr.heap.size
  fz : ∀ j, wr.frozen? ⟨g', j, none⟩ = false
  done : ∀ i, i < e.kids.length → i < k → ∃ a' c', XAt wr g' (i * 6) (atE e.kids i).op (res s (atE e.kids i).t) (.slice a' (atE e.kids i).kids.length c') ∧ EB wr d (apD (res s) d (atE e.kids i)) a' c' (bls.getD i [])
  rest : ∀ i, i < e.kids.length → k ≤ i → ∃ a' c', XAt wr g' (i * 6) (atE e.kids i).op (atE e.kids i).t (.slice a' (atE e.kids i).kids.length c') ∧ EB wr d (atE e.kids i) a' c' (bls.getD i [])
theorem Wl.step {w : World} {g o d : Nat} {e : E} {c g' : Nat} {bls : List (List Nat)} {s : List P} {bm k : Nat} {wr w2 : World} {a' : Option Addr} {c' : Nat} (h : Wl w g o d e c g' bls s bm k wr) (hk : k < e.kids.length) (hl : bls.length = e.kids.length) (nd : (g' :: bls.flatten).Nodup) (hg : g ∉ g' :: bls.flatten) (hm : bm ∉ g' :: bls.flatten)
    (hx : Wx wr g' (k * 6) d (atE e.kids k) a' c' (bls.getD k []) s w2) : Wl w g o d e c g' bls s bm (k + 1) w2 := by
  have hgl : g < wr.heap.size := World.block_lt_of_cell? _ _ h.xat.c0
  have hsub : ∀ b, (b = g' ∨ b ∈ bls.getD k []) → b ∈ g' :: bls.flatten := fun b hb => by
    rcases hb with rfl | hb
    · simp
    · exact List.mem_cons_of_mem _ (flat_mem (by omega) hb)
  have eg : w2.heap[g]? = wr.heap[g]? := hx.tch.block g hgl (fun q => hg (hsub g q))
  have em : w2.heap[bm]? = wr.heap[bm]? := hx.tch.block bm h.map.lt (fun q => hm (hsub bm q))
  have hnd := List.nodup_cons.1 nd
  have hkb : ∀ i, i < e.kids.length → i ≠ k → ∀ b, b ∈ bls.getD i [] → b < wr.heap.size → w2.heap[b]? = wr.heap[b]? := fun i hi hn b hb hbl => hx.tch.block b hbl (fun q => by
    rcases q with q | q
    · exact hnd.1 (by rw [← q]; exact flat_mem (by omega) hb)
    · exact flat_disj hnd.2 (by omega) (by omega) hn hb q)
  refine ⟨h.tch.trans (hx.tch.mono (fun b hb => .inr (hsub b hb))), h.xat.sameC (fun j _ _ => cell_block eg j), fun j hj => (cell_block eg j).trans (h.oth j hj), fun j => (frozen_block eg j).trans (h.frz j), h.map.of_block em, Nat.lt_of_lt_of_le h.gl hx.tch.size, hx.frz, fun i hi hik => ?_, fun i hi hik => ?_⟩
  · by_cases e1 : i = k
    · subst e1
      exact ⟨a', c', hx.xat, hx.eb⟩
    · obtain ⟨a2, c2, y1, y2⟩ := h.done i hi (by omega)
      exact ⟨a2, c2, y1.sameC (fun j j1 j2 => hx.oth j (.inl (by omega))), y2.keep hx.tch.size (fun b hb => hkb i hi e1 b hb (y2.lt b hb))⟩
  · obtain ⟨a2, c2, y1, y2⟩ := h.rest i hi (by omega)
    exact ⟨a2, c2, y1.sameC (fun j j1 j2 => hx.oth j (.inr (by omega))), y2.keep hx.tch.size (fun b hb => hkb i hi (by omega) b hb (y2.lt b hb))⟩
set_option maxHeartbeats 3200000 in
set_option maxRecDepth 100000 in
theorem walkExprP {bm : Nat} {s : List P} (nd : (s.map P.v).Nodup) (hs : ∀ p ∈ s, p.wf) : ∀ (d : Nat) (w : World) (e : E) (a : Option Addr) (c g o : Nat) (bl : List Nat), MapT w bm s → XAt w g o e.op e.t (.slice a e.kids.length c) → (∀ j, w.frozen? ⟨g, j, none⟩ = false) → EB w d e a c bl → g ∉ bl → bm ∉ bl → bm ≠ g →
    Calls Tryd.prog 29 #[.iface 123 (.pointer (some ⟨g, o, none⟩)), putF bm] w fun e' w' => (∃ u, e' = .returned u) ∧ Wx w g o d e a c bl s w' := by
  intro d
  induction d with
  | zero => intro w e a c g o bl _ _ _ h; exact absurd h (fun h => h)
  | succ d ih =>
  intro w e a c g o bl hm hx hf hE hgb hmb hmg
  have hg : g < w.heap.size := World.block_lt_of_cell? _ _ hx.c0
  obtain ⟨⟨hop, hkl⟩, htw, hc1, hc2, hk⟩ := hE
  have HP : Hid _ := putAt_any (o := o + 1) hm nd hx.tat (fun i _ => hf _) htw
  have HIH : Hid _ := ih
  have HE0 := Lib.hid hk
  have HX0 := Lib.hid hx
  have HM0 := Lib.hid hm
  have HFZ := Lib.hid hf
  have HOP := Lib.hid hop
  have HTW := Lib.hid (res_wf hs htw)
  have HGB := Lib.hid (And.intro hgb (And.intro hmb hmg))
  have h1 := exRule (.pointer (some ⟨g, o, none⟩))
  have h2 := exLiteral (.pointer (some ⟨g, o, none⟩))
  have h3 := exAtom (.pointer (some ⟨g, o, none⟩))
  have h4 := exExpr (.pointer (some ⟨g, o, none⟩))
  clear ih hk hx hm hf hop htw hgb hmb hmg
  unfold putF
  go_enter Tryd.func29, Tryd.ntmps29
  go_wp2_with fail
  refine Calls.mono HP.out ?_
  rintro ee w1 ⟨⟨u, rfl⟩, hp⟩
  have hx1 : XAt w1 g o e.op (res s e.t) (.slice a e.kids.length c) := ⟨by rw [hp.oth _ (by omega)]; exact HX0.out.c0, hp.term.c0, hp.term.c1, hp.term.c2, hp.term.c3, by rw [hp.oth _ (by omega)]; exact HX0.out.c5⟩
  have HX1 := Lib.hid hx1
  have HPT := Lib.hid hp
  have c5 := hx1.c5
  clear h1 h2 h3 h4 hp hx1 HP
  rcases HE0.out with ⟨hk0, hbl⟩ | ⟨g', bls, ha, hg', hbl, hl, hnd, hf', hkx⟩
  · have HFIN : Hid (Wx w g o (d + 1) e a c bl s w1) := by
      refine ⟨HPT.out.tch.mono (fun b hb => .inl hb), HX1.out, fun j hj => HPT.out.oth j (by omega), fun j => (HPT.out.frz j).trans (HFZ.out j), ?_⟩
      rw [apD_succ, hk0]
      exact ⟨⟨HOP.out, by simp [E.kids]⟩, HTW.out, Nat.zero_le _, hc2, .inl ⟨rfl, hbl⟩⟩
    have hlen : e.kids.length = 0 := by rw [hk0]; rfl
    rw [hlen] at c5
    clear hk0 hbl hkl hc1
    go_wp2
    clear c5
    go_loopw [106] (fun i wr => i = .int .i64 0 ∧ wr = w1) (fun i _ => 0)
    case atStart => exact ⟨rfl, rfl⟩
    case round =>
      obtain ⟨rfl, rfl⟩ := hrel
      go_wp2
      go_end0
      exact ⟨⟨_, rfl⟩, HFIN.out⟩
  · subst hbl ha
    have hgg : g ≠ g' := fun q => HGB.out.1 (by rw [q]; simp)
    have hkb : ∀ b ∈ g' :: bls.flatten, b < w.heap.size → w1.heap[b]? = w.heap[b]? := fun b hb hbl => HPT.out.blk b hbl (fun q => HGB.out.1 (by rw [← q]; exact hb))
    have eg := hkb g' (by simp) hg'
    have HW0 : Hid (Wl w g o d e c g' bls s bm 0 w1) := by
      refine ⟨HPT.out.tch.mono (fun b hb => .inl hb), HX1.out, fun j hj => HPT.out.oth j (by omega), fun j => (HPT.out.frz j).trans (HFZ.out j), HM0.out.of_block (HPT.out.blk _ HM0.out.lt HGB.out.2.2), Nat.lt_of_lt_of_le hg' HPT.out.size, fun j => (frozen_block eg j).trans (hf' j), fun i _ h0 => absurd h0 (by omega), fun i hi _ => ?_⟩
      obtain ⟨a2, c2, y1, y2⟩ := hkx i hi
      exact ⟨a2, c2, y1.sameC (fun j _ _ => cell_block eg j), y2.keep HPT.out.size (fun b hb => hkb b (List.mem_cons_of_mem _ (flat_mem (by omega) hb)) (y2.lt b hb))⟩
    have HND := Lib.hid hnd
    clear hkb eg hkx hf' hnd
    go_wp2
    clear c5
    go_loopw [106] (fun i wr => ∃ k : Nat, k ≤ e.kids.length ∧ i = .int .i64 k ∧ Hid (Wl w g o d e c g' bls s bm k wr)) (fun i _ => e.kids.length - (intOf i).toNat)
    case atStart => exact ⟨0, Nat.zero_le _, rfl, HW0⟩
    case round =>
      clear HW0
      obtain ⟨k, hk, rfl, HL⟩ := hrel
      have c5 := HL.out.xat.c5
      by_cases hlt : k < e.kids.length
      · have hlt' : (k : Int) < (e.kids.length : Int) := by omega
        have hk0 : (0 : Int) ≤ (k : Int) := by omega
        obtain ⟨a', c', y1, y2⟩ := HL.out.rest k hlt (Nat.le_refl _)
        have hn2 := List.nodup_cons.1 HND.out
        have HI : Hid (Calls Tryd.prog 29 #[.iface 123 (.pointer (some ⟨g', k * 6, none⟩)), .func (.func 31) #[.map (some bm)] #[]] wr fun e' w' => (∃ u, e' = .returned u) ∧ Wx wr g' (k * 6) d (atE e.kids k) a' c' (bls.getD k []) s w') :=
          HIH.out wr (atE e.kids k) a' c' g' (k * 6) _ HL.out.map y1 HL.out.fz y2 (fun q => hn2.1 (flat_mem (by omega) q)) (fun q => HGB.out.2.1 (List.mem_cons_of_mem _ (flat_mem (by omega) q))) (fun q => HGB.out.2.1 (by rw [q]; simp))
        clear y1 y2 hn2
        go_wp2_with fail
        refine Calls.mono HI.out ?_
        rintro ee w2 ⟨⟨u2, rfl⟩, hw2⟩
        have HL2 := Lib.hid (HL.out.step hlt hl HND.out HGB.out.1 HGB.out.2.1 hw2)
        clear hw2 HI HL
        go_wp2
        go_roundw
        case rel => exact ⟨k + 1, by omega, by go_num, HL2⟩
        case measure => simp [intOf]; omega
      · obtain rfl : k = e.kids.length := by omega
        have HFIN : Hid (Wx w g o (d + 1) e (some ⟨g', 0, none⟩) c (g' :: bls.flatten) s wr) := by
          refine ⟨HL.out.tch, HL.out.xat, HL.out.oth, HL.out.frz, ?_⟩
          rw [apD_succ]
          refine ⟨⟨HOP.out, by show (e.kids.map (apD (res s) d)).length ≤ _; rw [List.length_map]; exact hkl⟩, HTW.out, by show (e.kids.map (apD (res s) d)).length ≤ _; rw [List.length_map]; exact hc1, hc2, .inr ⟨g', bls, rfl, HL.out.gl, rfl, by show _ = (e.kids.map (apD (res s) d)).length; rw [List.length_map]; exact hl, HND.out, HL.out.fz, fun i hi => ?_⟩⟩
          have hi' : i < e.kids.length := by have : i < (e.kids.map (apD (res s) d)).length := hi; rw [List.length_map] at this; exact this
          obtain ⟨a2, c2, y1, y2⟩ := HL.out.done i hi' hi'
          refine ⟨a2, c2, ?_⟩
          show XAt wr g' (i * 6) (atE (e.kids.map (apD (res s) d)) i).op (atE (e.kids.map (apD (res s) d)) i).t (.slice a2 (atE (e.kids.map (apD (res s) d)) i).kids.length c2) ∧ EB wr d (atE (e.kids.map (apD (res s) d)) i) a2 c2 (bls.getD i [])
          rw [atE_map _ hi', apD_op, apD_len, apD_t _ _ y2.pos]
          exact ⟨y1, y2⟩
        go_wp2
        go_end0
        exact ⟨⟨_, rfl⟩, HFIN.out⟩
end Go.Proofs.YteabclfhmapabaaDoor
end
section
namespace Go.Proofs.YteabclfhmapabaaDoor
open Go.RowKit Go.Maps
set_option linter.unusedVariables false
set_option linter.unusedSimpArgs false
attribute [local go_sem ↓] Go.wp_at_zero Go.wp_at_succ

/-- a list of terms in a block of its own -/
structure TB (w : World) (ts : List T) (a : Option Addr) (c : Nat) (bl : List Nat) : Prop where
  c1 : ts.length ≤ c
  c2 : c ≤ maxLen
  wf : ∀ t ∈ ts, t.wf
  lies : (ts = [] ∧ bl = []) ∨ ∃ g, a = some ⟨g, 0, none⟩ ∧ g < w.heap.size ∧ bl = [g] ∧ (∀ j, w.frozen? ⟨g, j, none⟩ = false) ∧ ∀ i, i < ts.length → TAt w g (i * 4) (atT ts i)
theorem TAt.sameC {w w' : World} {g o : Nat} {t : T} (h : TAt w g o t) (e : ∀ j, o ≤ j → j < o + 4 → w'.cell? ⟨g, j, none⟩ = w.cell? ⟨g, j, none⟩) : TAt w' g o t :=
  ⟨(e _ (by omega) (by omega)).trans h.c0, (e _ (by omega) (by omega)).trans h.c1, (e _ (by omega) (by omega)).trans h.c2, (e _ (by omega) (by omega)).trans h.c3⟩
theorem TB.keep {w w' : World} {ts : List T} {a : Option Addr} {c : Nat} {bl : List Nat} (h : TB w ts a c bl) (hs : w.heap.size ≤ w'.heap.size) (hk : ∀ b ∈ bl, w'.heap[b]? = w.heap[b]?) : TB w' ts a c bl := by
  refine ⟨h.c1, h.c2, h.wf, ?_⟩
  rcases h.lies with h1 | ⟨g, ha, hg, hbl, hf, hx⟩
  · exact .inl h1
  · have e := hk g (by rw [hbl]; simp)
    exact .inr ⟨g, ha, Nat.lt_of_lt_of_le hg hs, hbl, fun j => (frozen_block e j).trans (hf j), fun i hi => (hx i hi).sameC (fun j _ _ => cell_block e j)⟩
theorem TB.lt {w : World} {ts : List T} {a : Option Addr} {c : Nat} {bl : List Nat} (h : TB w ts a c bl) : ∀ b ∈ bl, b < w.heap.size := fun b hb => by
  rcases h.lies with ⟨_, h1⟩ | ⟨g, ha, hg, hbl, hf, hx⟩
  · rw [h1] at hb; cases hb
  · rw [hbl] at hb
    rw [List.mem_singleton.1 hb]
    exact hg
theorem TB.is {w : World} {ts : List T} {a : Option Addr} {c : Nat} {bl : List Nat} (h : TB w ts a c bl) : Lt w (.slice a ts.length c) ts := by
  rcases h.lies with ⟨h1, _⟩ | ⟨g, ha, hg, hbl, hf, hx⟩
  · subst h1
    exact ⟨⟨Nat.zero_le _, a, c, rfl, h.c1, h.c2, fun h0 => absurd h0 (by simp)⟩, h.wf⟩
  · subst ha
    exact lt_of_at rfl h.c1 h.c2 hg hx h.wf
theorem atT_map (f : T → T) {l : List T} {i : Nat} (h : i < l.length) : atT (l.map f) i = f (atT l i) := by
  rw [atT_eq (by simpa using h), atT_eq h, List.getElem_map]
/-- what the walk over an atom's terms keeps -/
structure Wa (w : World) (g' bm : Nat) (ts : List T) (s : List P) (k : Nat) (wr : World) : Prop where
  tch : Tch (fun b => b = g') w wr
  map : MapT wr bm s
  gl : g' < wr.heap.size
  fz : ∀ j, wr.frozen? ⟨g', j, none⟩ = false
  done : ∀ i, i < ts.length → i < k → TAt wr g' (i * 4) (res s (atT ts i))
  rest : ∀ i, i < ts.length → k ≤ i → TAt wr g' (i * 4) (atT ts i)
theorem Wa.step {w : World} {g' bm : Nat} {ts : List T} {s : List P} {k : Nat} {wr w2 : World} (h : Wa w g' bm ts s k wr) (hm : bm ≠ g') (hp : Pt wr g' (k * 4) (res s (atT ts k)) w2) : Wa w g' bm ts s (k + 1) w2 := by
  refine ⟨h.tch.trans hp.tch, h.map.of_block (hp.blk _ h.map.lt hm), Nat.lt_of_lt_of_le h.gl hp.size, fun j => (hp.frz j).trans (h.fz j), fun i hi hik => ?_, fun i hi hik => ?_⟩
  · by_cases e : i = k
    · subst e; exact hp.term
    · exact (h.done i hi (by omega)).sameC (fun j j1 j2 => hp.oth j (.inl (by omega)))
  · exact (h.rest i hi (by omega)).sameC (fun j j1 j2 => hp.oth j (.inr (by omega)))
theorem apRule (v : Value) (w : World) : (Instr.typeAssert (.iface 122 v) 20 91 true).run Tryd.prog w = .ok (.tuple #[.pointer none, .bool false]) w := by kernel_rfl
theorem apLiteral (v : Value) (w : World) : (Instr.typeAssert (.iface 122 v) 20 118 true).run Tryd.prog w = .ok (.tuple #[.pointer none, .bool false]) w := by kernel_rfl
theorem apAtom (v : Value) (w : World) : (Instr.typeAssert (.iface 122 v) 20 122 true).run Tryd.prog w = .ok (.tuple #[v, .bool true]) w := by kernel_rfl
set_option maxHeartbeats 3200000 in
set_option maxRecDepth 100000 in
theorem walkAtomP {bm : Nat} {s : List P} (nd : (s.map P.v).Nodup) (hs : ∀ p ∈ s, p.wf) (w : World) (ts : List T) (a : Option Addr) (c g o : Nat) (bl : List Nat) (hm : MapT w bm s) (hc : w.cell? ⟨g, o + 1, none⟩ = some (.slice a ts.length c)) (hT : TB w ts a c bl) (hgb : g ∉ bl) (hmb : bm ∉ bl) (hn : ts.length ≤ 281474976710656) :
    Calls Tryd.prog 29 #[.iface 122 (.pointer (some ⟨g, o, none⟩)), putF bm] w fun e w' => (∃ u, e = .returned u) ∧ Tch (fun b => b ∈ bl) w w' ∧ TB w' (ts.map (res s)) a c bl := by
  have hgl : g < w.heap.size := World.block_lt_of_cell? _ _ hc
  have h1 := apRule (.pointer (some ⟨g, o, none⟩))
  have h2 := apLiteral (.pointer (some ⟨g, o, none⟩))
  have h3 := apAtom (.pointer (some ⟨g, o, none⟩))
  have HT := Lib.hid hT
  have HWF : Hid (∀ t ∈ ts.map (res s), t.wf) := fun t ht => by
    obtain ⟨x, hx, rfl⟩ := List.mem_map.1 ht
    exact res_wf hs (hT.wf x hx)
  unfold putF
  rcases hT.lies with ⟨h0, hbl⟩ | ⟨g', ha, hg', hbl, hf', hkx⟩
  · subst h0
    clear hT
    go_enter Tryd.func29, Tryd.ntmps29
    go_wp2
    clear h1 h2 h3
    go_loopw [81] (fun i wr => i = .int .i64 0 ∧ wr = w) (fun i _ => 0)
    case atStart => exact ⟨rfl, rfl⟩
    case round =>
      obtain ⟨rfl, rfl⟩ := hrel
      go_wp2
      go_end0
      exact ⟨⟨_, rfl⟩, Tch.refl _ _, HT.out⟩
  · subst ha hbl
    have hgg : g ≠ g' := fun e => hgb (by rw [e]; simp)
    have hmg : bm ≠ g' := fun e => hmb (by rw [e]; simp)
    have HW0 : Hid (Wa w g' bm ts s 0 w) := ⟨Tch.refl _ _, hm, hg', hf', fun i _ h => absurd h (by omega), fun i hi _ => hkx i hi⟩
    have HCC : Hid (∀ wr, Tch (fun b => b = g') w wr → wr.cell? ⟨g, o + 1, none⟩ = some (.slice (some ⟨g', 0, none⟩) ts.length c)) := fun wr ht => by rw [cell_block (ht.block g hgl hgg)]; exact hc
    have HPU : Hid (∀ k wr, k < ts.length → Wa w g' bm ts s k wr → Calls Tryd.prog 31 #[.map (some bm), .pointer (some ⟨g', k * 4, none⟩)] wr fun e w' => (∃ u, e = .returned u) ∧ Wa w g' bm ts s (k + 1) w') := fun k wr hk ha => (putAt_any ha.map nd (ha.rest k hk (Nat.le_refl _)) (fun i _ => ha.fz _) (HT.out.wf _ (by rw [atT_eq hk]; exact List.getElem_mem _))).mono (fun e w' h => ⟨h.1, ha.step hmg h.2⟩)
    clear hT hm hkx hf' hgb hmb nd hs
    go_enter Tryd.func29, Tryd.ntmps29
    go_wp2
    clear h1 h2 h3 hc
    go_loopw [81] (fun i wr => ∃ k : Nat, k ≤ ts.length ∧ i = .int .i64 k ∧ Hid (Wa w g' bm ts s k wr)) (fun i _ => ts.length - (intOf i).toNat)
    case atStart => exact ⟨0, Nat.zero_le _, rfl, HW0⟩
    case round =>
      clear HW0
      obtain ⟨k, hk, rfl, HA⟩ := hrel
      have c0 := HCC.out wr HA.out.tch
      by_cases hlt : k < ts.length
      · have hlt' : (k : Int) < (ts.length : Int) := by omega
        have hk0 : (0 : Int) ≤ (k : Int) := by omega
        have HP := Lib.hid (HPU.out k wr hlt HA.out)
        go_wp2_with fail
        refine Calls.mono HP.out ?_
        rintro e w2 ⟨⟨u, rfl⟩, ha2⟩
        have HA2 := Lib.hid ha2
        clear ha2 HP HA
        go_wp2
        go_roundw
        case rel => exact ⟨k + 1, by omega, by go_num, HA2⟩
        case measure => simp [intOf]; omega
      · obtain rfl : k = ts.length := by omega
        have HFIN : Hid (Tch (fun b => b ∈ [g']) w wr ∧ TB wr (ts.map (res s)) (some ⟨g', 0, none⟩) c [g']) := by
          refine ⟨HA.out.tch.mono (fun b hb => by rw [hb]; simp), by rw [List.length_map]; exact HT.out.c1, HT.out.c2, HWF.out, .inr ⟨g', rfl, HA.out.gl, rfl, HA.out.fz, fun i hi => ?_⟩⟩
          rw [List.length_map] at hi
          rw [atT_map _ hi]
          exact HA.out.done i hi hi
        go_wp2
        go_end0
        exact ⟨⟨_, rfl⟩, HFIN.out⟩
/-- a literal whose lists lie in blocks of their own, no two in one -/
structure LB (w : World) (d : Nat) (x : Lit4) (p : LP) (b1 b2 b3 : List Nat) : Prop where
  kb : -128 ≤ x.k ∧ x.k ≤ 127
  rb : -128 ≤ x.rel ∧ x.rel ≤ 127
  pb : x.pr.size ≤ maxLen
  ln : x.ts.length ≤ 281474976710656
  ts : TB w x.ts p.a p.c b1
  l : EB w d x.l p.la p.lc b2
  r : EB w d x.r p.ra p.rc b3
  nd : (b1 ++ (b2 ++ b3)).Nodup
theorem LB.is {w : World} {d : Nat} {x : Lit4} {p : LP} {b1 b2 b3 : List Nat} (h : LB w d x p b1 b2 b3) : LIs w d x p := ⟨h.kb, h.rb, h.pb, h.ln, h.ts.is, h.l.eis, h.r.eis⟩
theorem LB.keep {w w' : World} {d : Nat} {x : Lit4} {p : LP} {b1 b2 b3 : List Nat} (h : LB w d x p b1 b2 b3) (hs : w.heap.size ≤ w'.heap.size) (hk : ∀ b ∈ b1 ++ (b2 ++ b3), w'.heap[b]? = w.heap[b]?) : LB w' d x p b1 b2 b3 :=
  ⟨h.kb, h.rb, h.pb, h.ln, h.ts.keep hs (fun b hb => hk b (by simp [hb])), h.l.keep hs (fun b hb => hk b (by simp [hb])), h.r.keep hs (fun b hb => hk b (by simp [hb])), h.nd⟩
theorem LB.lt {w : World} {d : Nat} {x : Lit4} {p : LP} {b1 b2 b3 : List Nat} (h : LB w d x p b1 b2 b3) : ∀ b ∈ b1 ++ (b2 ++ b3), b < w.heap.size := fun b hb => by
  rcases List.mem_append.1 hb with hb | hb
  · exact h.ts.lt b hb
  · rcases List.mem_append.1 hb with hb | hb
    · exact h.l.lt b hb
    · exact h.r.lt b hb
/-- a literal with what takes its terms' places -/
def apL (f : T → T) (d : Nat) (x : Lit4) : Lit4 := ⟨x.k, x.pr, x.ts.map f, x.rel, apD f d x.l, apD f d x.r⟩
end Go.Proofs.YteabclfhmapabaaDoor
end
section
namespace Go.Proofs.YteabclfhmapabaaDoor
open Go.RowKit Go.Maps
set_option linter.unusedVariables false
set_option linter.unusedSimpArgs false
attribute [local go_sem ↓] Go.wp_at_zero Go.wp_at_succ

/-- what a walk over a literal at a place leaves -/
structure Wq (w : World) (g o d : Nat) (x : Lit4) (p : LP) (b1 b2 b3 : List Nat) (s : List P) (w' : World) : Prop where
  tch : Tch (fun b => b = g ∨ b ∈ b1 ++ (b2 ++ b3)) w w'
  lat : LAt w' g o (apL (res s) d x) p
  oth : ∀ j, (j < o ∨ o + 16 ≤ j) → w'.cell? ⟨g, j, none⟩ = w.cell? ⟨g, j, none⟩
  frz : ∀ j, w'.frozen? ⟨g, j, none⟩ = false
  lb : LB w' d (apL (res s) d x) p b1 b2 b3
theorem app_disj {b1 b2 b3 : List Nat} (h : (b1 ++ (b2 ++ b3)).Nodup) : (∀ b, b ∈ b1 → b ∉ b2 ∧ b ∉ b3) ∧ (∀ b, b ∈ b2 → b ∉ b3) := by
  rw [List.nodup_append] at h
  obtain ⟨_, h2, h3⟩ := h
  rw [List.nodup_append] at h2
  exact ⟨fun b hb => ⟨fun hc => h3 b hb b (by simp [hc]) rfl, fun hc => h3 b hb b (by simp [hc]) rfl⟩, fun b hb hc => h2.2.2 b hb b hc rfl⟩
theorem MapT.tch {w w' : World} {bm : Nat} {s : List P} {E : Nat → Prop} (h : MapT w bm s) (t : Tch E w w') (hn : ¬ E bm) : MapT w' bm s := h.of_block (t.block bm h.lt hn)
set_option maxHeartbeats 3200000 in
set_option maxRecDepth 100000 in
theorem walkLiteralP {bm : Nat} {s : List P} (nd : (s.map P.v).Nodup) (hs : ∀ p ∈ s, p.wf) (d : Nat) (w : World) (x : Lit4) (p : LP) (g o : Nat) (b1 b2 b3 : List Nat) (hm : MapT w bm s) (hx : LAt w g o x p) (hf : ∀ j, w.frozen? ⟨g, j, none⟩ = false) (hL : LB w d x p b1 b2 b3) (hgb : g ∉ b1 ++ (b2 ++ b3)) (hmb : bm ∉ b1 ++ (b2 ++ b3)) (hmg : bm ≠ g) :
    Calls Tryd.prog 29 #[.iface 118 (.pointer (some ⟨g, o, none⟩)), putF bm] w fun e w' => (∃ u, e = .returned u) ∧ Wq w g o d x p b1 b2 b3 s w' := by
  have hg : g < w.heap.size := World.block_lt_of_cell? _ _ hx.k
  obtain ⟨dj1, dj2⟩ := app_disj hL.nd
  have g1 : g ∉ b1 := fun h => hgb (by simp [h])
  have g2 : g ∉ b2 := fun h => hgb (by simp [h])
  have g3 : g ∉ b3 := fun h => hgb (by simp [h])
  have m1 : bm ∉ b1 := fun h => hmb (by simp [h])
  have m2 : bm ∉ b2 := fun h => hmb (by simp [h])
  have m3 : bm ∉ b3 := fun h => hmb (by simp [h])
  have HA : Hid _ := walkAtomP nd hs w x.ts p.a p.c g (o + 1) b1 hm hx.ts hL.ts g1 m1 hL.ln
  have HE1 : Hid (∀ w1, Tch (fun b => b ∈ b1) w w1 → Calls Tryd.prog 29 #[.iface 123 (.pointer (some ⟨g, o + 4, none⟩)), putF bm] w1 fun e' w' => (∃ u, e' = .returned u) ∧ Wx w1 g (o + 4) d x.l p.la p.lc b2 s w') := fun w1 t1 => by
    have eg := t1.block g hg g1
    exact walkExprP nd hs d w1 x.l p.la p.lc g (o + 4) b2 (hm.tch t1 m1) (hx.l.sameC (fun j _ _ => cell_block eg j)) (fun j => (frozen_block eg j).trans (hf j)) (hL.l.keep t1.size (fun b hb => t1.block b (hL.l.lt b hb) (fun q => (dj1 b q).1 hb))) g2 m2 hmg
  have HE2 : Hid (∀ w1 w2, Tch (fun b => b ∈ b1) w w1 → Wx w1 g (o + 4) d x.l p.la p.lc b2 s w2 → Calls Tryd.prog 29 #[.iface 123 (.pointer (some ⟨g, o + 10, none⟩)), putF bm] w2 fun e' w' => (∃ u, e' = .returned u) ∧ Wx w2 g (o + 10) d x.r p.ra p.rc b3 s w') := fun w1 w2 t1 x1 => by
    have eg := t1.block g hg g1
    have hg1 : g < w1.heap.size := Nat.lt_of_lt_of_le hg t1.size
    refine walkExprP nd hs d w2 x.r p.ra p.rc g (o + 10) b3 ((hm.tch t1 m1).tch x1.tch (fun q => q.elim hmg m2)) ((hx.r.sameC (fun j _ _ => cell_block eg j)).sameC (fun j j1 _ => x1.oth j (.inr (by omega)))) x1.frz ?_ g3 m3 hmg
    have k1 := hL.r.keep t1.size (fun b hb => t1.block b (hL.r.lt b hb) (fun q => (dj1 b q).2 hb))
    exact k1.keep x1.tch.size (fun b hb => x1.tch.block b (k1.lt b hb) (fun q => q.elim (fun q => g3 (by rw [← q]; exact hb)) (fun q => dj2 b q hb)))
  have HFIN : Hid (∀ w1 w2 w3, Tch (fun b => b ∈ b1) w w1 → TB w1 (x.ts.map (res s)) p.a p.c b1 → Wx w1 g (o + 4) d x.l p.la p.lc b2 s w2 → Wx w2 g (o + 10) d x.r p.ra p.rc b3 s w3 → Wq w g o d x p b1 b2 b3 s w3) := fun w1 w2 w3 t1 tb x1 x2 => by
    have eg := t1.block g hg g1
    have q0 : ∀ j, (j < o + 5 ∨ o + 9 ≤ j) → (j < o + 11 ∨ o + 15 ≤ j) → w3.cell? ⟨g, j, none⟩ = w.cell? ⟨g, j, none⟩ := fun j h1 h2 => (x2.oth j (by omega)).trans ((x1.oth j (by omega)).trans (cell_block eg j))
    have hl2 : XAt w3 g (o + 4) x.l.op (res s x.l.t) (.slice p.la x.l.kids.length p.lc) := x1.xat.sameC (fun j _ j2 => x2.oth j (.inl (by omega)))
    have tb2 : TB w3 (x.ts.map (res s)) p.a p.c b1 := by
      have k1 := tb.keep x1.tch.size (fun b hb => x1.tch.block b (tb.lt b hb) (fun q => q.elim (fun q => g1 (by rw [← q]; exact hb)) (fun q => (dj1 b hb).1 q)))
      exact k1.keep x2.tch.size (fun b hb => x2.tch.block b (k1.lt b hb) (fun q => q.elim (fun q => g1 (by rw [← q]; exact hb)) (fun q => (dj1 b hb).2 q)))
    have el2 : EB w3 d (apD (res s) d x.l) p.la p.lc b2 := x1.eb.keep x2.tch.size (fun b hb => x2.tch.block b (x1.eb.lt b hb) (fun q => q.elim (fun q => g2 (by rw [← q]; exact hb)) (fun q => dj2 b hb q)))
    have tt : Tch (fun b => b = g ∨ b ∈ b1 ++ (b2 ++ b3)) w w3 := ((t1.mono (fun b hb => .inr (by simp [hb]))).trans (x1.tch.mono (fun b hb => hb.imp_right (fun q => by simp [q])))).trans (x2.tch.mono (fun b hb => hb.imp_right (fun q => by simp [q])))
    refine ⟨tt, ⟨?_, ?_, ?_, ?_, ?_, ?_⟩, fun j hj => q0 j (by omega) (by omega), x2.frz, ⟨hL.kb, hL.rb, hL.pb, by show (x.ts.map (res s)).length ≤ _; rw [List.length_map]; exact hL.ln, tb2, el2, x2.eb, hL.nd⟩⟩
    · rw [q0 o (by omega) (by omega)]; exact hx.k
    · rw [q0 (o + 1) (by omega) (by omega)]; exact hx.pr
    · show w3.cell? ⟨g, o + 2, none⟩ = some (.slice p.a (x.ts.map (res s)).length p.c)
      rw [q0 (o + 2) (by omega) (by omega), List.length_map]; exact hx.ts
    · rw [q0 (o + 3) (by omega) (by omega)]; exact hx.rel
    · show XAt w3 g (o + 4) (apD (res s) d x.l).op (apD (res s) d x.l).t (.slice p.la (apD (res s) d x.l).kids.length p.lc)
      rw [apD_op, apD_len, apD_t _ _ hL.l.pos]
      exact hl2
    · show XAt w3 g (o + 10) (apD (res s) d x.r).op (apD (res s) d x.r).t (.slice p.ra (apD (res s) d x.r).kids.length p.rc)
      rw [apD_op, apD_len, apD_t _ _ hL.r.pos]
      exact x2.xat
  have h1 := liRule (.pointer (some ⟨g, o, none⟩))
  have h2 := liLiteral (.pointer (some ⟨g, o, none⟩))
  unfold putF at HA HE1 HE2 ⊢
  clear dj1 dj2 g1 g2 g3 m1 m2 m3 hm hx hf hL hgb hmb hmg nd hs hg
  go_enter Tryd.func29, Tryd.ntmps29
  go_wp2_with fail
  refine Calls.mono HA.out ?_
  rintro e w1 ⟨⟨u, rfl⟩, t1, tb⟩
  go_wp2_with fail
  refine Calls.mono (HE1.out _ t1) ?_
  rintro e w2 ⟨⟨u2, rfl⟩, x1⟩
  go_wp2_with fail
  refine Calls.mono (HE2.out _ _ t1 x1) ?_
  rintro e w3 ⟨⟨u3, rfl⟩, x2⟩
  go_wp2
  go_end0
  exact ⟨⟨_, rfl⟩, HFIN.out _ _ _ t1 tb x1 x2⟩
end Go.Proofs.YteabclfhmapabaaDoor
end
