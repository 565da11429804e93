import Derived.Test.YtgplipfebnigiaaGreatDoorG11
import Derived.Test.YtgplipfebnigiaaGreatDoorG5
import Derived.Test.YtgplipfebnigiaaGreatDoorG10
section
namespace Go.Proofs.YtgplipfebnigiaaGreatDoor
open Go.RowKit Go.Maps
set_option linter.unusedVariables false
set_option linter.unusedSimpArgs false
attribute [local go_sem ↓] Go.wp_at_zero Go.wp_at_succ

/-- the terms of an expression, of at most so many levels, in their order -/
def termsD : Nat → E → List T
  | 0, _ => []
  | d + 1, e => e.t :: e.kids.flatMap (termsD d)
theorem termsD_succ (d : Nat) (e : E) : termsD (d + 1) e = e.t :: e.kids.flatMap (termsD d) := rfl
theorem vsT_append : ∀ (l m : List T) (ns : List ByteArray), vsT ns (l ++ m) = vsT (vsT ns l) m
  | [], m, ns => rfl
  | t :: l, m, ns => by rw [List.cons_append, vsT_step, vsT_step, vsT_append l m]
theorem flat_drop (d : Nat) {l : List E} {k : Nat} (h : k < l.length) : (l.drop k).flatMap (termsD d) = termsD d (atE l k) ++ (l.drop (k + 1)).flatMap (termsD d) := by
  rw [List.drop_eq_getElem_cons h, List.flatMap_cons, atE_eq h]
def handE (bs bo : Nat) : Value := .func (.func 98) #[] #[.pointer (some ⟨bs, 0, none⟩), .pointer (some ⟨bo, 0, none⟩)]
theorem exRule (v : Value) (w : World) : (Instr.typeAssert (.iface 117 v) 20 78 true).run Tryz.prog w = .ok (.tuple #[.pointer none, .bool false]) w := by kernel_rfl
theorem exLiteral (v : Value) (w : World) : (Instr.typeAssert (.iface 117 v) 20 112 true).run Tryz.prog w = .ok (.tuple #[.pointer none, .bool false]) w := by kernel_rfl
theorem exAtom (v : Value) (w : World) : (Instr.typeAssert (.iface 117 v) 20 116 true).run Tryz.prog w = .ok (.tuple #[.pointer none, .bool false]) w := by kernel_rfl
theorem exExpr (v : Value) (w : World) : (Instr.typeAssert (.iface 117 v) 20 117 true).run Tryz.prog w = .ok (.tuple #[v, .bool true]) w := by kernel_rfl
set_option maxHeartbeats 3200000 in
set_option maxRecDepth 100000 in
theorem walkExpr_any {B : Nat} {w0 : World} {bo bs bm : Nat} (hB : B = w0.heap.size) : ∀ (d : Nat) (ns : List ByteArray) (sv : Value) (w : World) (e : E) (a : Option Addr) (c g o : Nat), Vst B w0 bo bs bm ns sv w → g < B → XAt w0 g o e.op e.t (.slice a e.kids.length c) → EIs w0 d e a c → ns.length + (termsD d e).length ≤ 4398046511104 →
    Calls Tryz.prog 42 #[.iface 117 (.pointer (some ⟨g, o, none⟩)), handE bs bo] w fun e' w' => (∃ u, e' = .returned u) ∧ ∃ sv', Vst B w0 bo bs bm (vsT ns (termsD d e)) sv' w' := by
  intro d
  induction d with
  | zero => intro ns sv w e a c g o h hg hx hE; exact absurd hE (fun h => h)
  | succ d ih =>
  intro ns sv w e a c g o h hg hx hE hn
  obtain ⟨⟨hop, hkl⟩, htw, hc1, hc2, hk⟩ := hE
  have HK : Hid _ := hk
  have HIH : Hid _ := ih
  have HXC : Hid (∀ u, Below B w0 u → u.cell? ⟨g, o + 1, none⟩ = some (.string e.t.v) ∧ u.cell? ⟨g, o + 5, none⟩ = some (.slice a e.kids.length c)) := fun u hu => ⟨by rw [hu.cell (p := ⟨g, o + 1, none⟩) hg]; exact hx.c1, by rw [hu.cell (p := ⟨g, o + 5, none⟩) hg]; exact hx.c5⟩
  have HN : Hid _ := hn
  rw [termsD_succ] at hn ⊢
  rw [vsT_step]
  have hn1 : ns.length ≤ 4398046511104 := by simp at hn; omega
  have HH : Hid _ := hand_any h hn1 g (o + 1) e.t.v hg htw.text (HXC.out w h.bel).1
  have HLn : Hid _ := stepN_len ns e.t.v
  obtain ⟨n1, hn1'⟩ : ∃ n1, stepN ns e.t.v = n1 := ⟨_, rfl⟩
  rw [hn1'] at HH HLn ⊢
  have hsum : n1.length + (e.kids.flatMap (termsD d)).length ≤ 4398046511104 := by
    have := HLn.out
    simp only [List.length_cons] at hn
    omega
  have HSUM : Hid _ := hsum
  obtain ⟨r, HR⟩ : ∃ r, Hid (vsT n1 (e.kids.flatMap (termsD d)) = r) := ⟨_, rfl⟩
  rw [HR.out]
  have h1 := exRule (.pointer (some ⟨g, o, none⟩))
  have h2 := exLiteral (.pointer (some ⟨g, o, none⟩))
  have h3 := exAtom (.pointer (some ⟨g, o, none⟩))
  have h4 := exExpr (.pointer (some ⟨g, o, none⟩))
  clear hk ih h hx hop htw hn hn1 hn1' hsum
  unfold handE
  go_enter Tryz.func42, Tryz.ntmps42
  go_wp2_with fail
  refine Calls.mono HH.out ?_
  rintro ee w1 ⟨⟨u, rfl⟩, sv1, hv1⟩
  have HV1 : Hid _ := hv1
  have c5 := (HXC.out w1 hv1.bel).2
  clear h1 h2 h3 h4 hv1
  go_wp2
  clear c5
  go_loopw [106] (fun i wr => ∃ k : Nat, k ≤ e.kids.length ∧ i = .int .i64 k ∧ ∃ (ns' : List ByteArray) (sv' : Value), Hid (Vst B w0 bo bs bm ns' sv' wr) ∧ Hid (ns'.length + ((e.kids.drop k).flatMap (termsD d)).length ≤ 4398046511104) ∧ Hid (vsT ns' ((e.kids.drop k).flatMap (termsD d)) = r)) (fun i _ => e.kids.length - (intOf i).toNat)
  case atStart => exact ⟨0, Nat.zero_le _, rfl, n1, sv1, HV1, HSUM, HR⟩
  case round =>
    obtain ⟨k, hk, rfl, ns', sv', HV', HL', HS⟩ := hrel
    have c5 := (HXC.out wr HV'.out.bel).2
    by_cases hlt : k < e.kids.length
    · have hlt' : (k : Int) < (e.kids.length : Int) := by omega
      have hk0 : (0 : Int) ≤ (k : Int) := by omega
      obtain ⟨g', off', rfl, hg', hKS⟩ := HK.out (by omega)
      obtain ⟨a', c', hxk, hek⟩ := hKS k hlt
      have hgB : g' < B := by rw [hB]; exact hg'
      have hfd := flat_drop d hlt
      have HS2 : Hid (vsT (vsT ns' (termsD d (atE e.kids k))) ((e.kids.drop (k + 1)).flatMap (termsD d)) = r) := by
        show _ = r
        rw [← vsT_append, ← hfd]
        exact HS.out
      have hle := HL'.out
      rw [hfd, List.length_append] at hle
      have HI : Hid _ := HIH.out ns' sv' wr (atE e.kids k) a' c' g' (off' + k * 6) HV'.out hgB hxk hek (by omega)
      have HL2 : Hid ((vsT ns' (termsD d (atE e.kids k))).length + ((e.kids.drop (k + 1)).flatMap (termsD d)).length ≤ 4398046511104) := by
        show _ ≤ _
        have := vsT_len (termsD d (atE e.kids k)) ns'
        omega
      unfold handE at HI
      clear hKS hxk hek hfd hle HS HL'
      generalize vsT ns' (termsD d (atE e.kids k)) = n2 at HI HS2 HL2
      go_wp2_with fail
      refine Calls.mono HI.out ?_
      rintro ee w2 ⟨⟨u, rfl⟩, sv2, hv2⟩
      go_wp2
      go_roundw
      case rel => exact ⟨k + 1, by omega, by go_num, n2, sv2, hv2, HL2, HS2⟩
      case measure => simp [intOf]; omega
    · obtain rfl : k = e.kids.length := by omega
      have HV2 : Hid (ns' = r) := by show ns' = r; rw [← HS.out, List.drop_length]; simp [vsT]
      go_wp2
      go_end0
      rw [← HV2.out]
      exact ⟨⟨_, rfl⟩, _, HV'.out⟩
end Go.Proofs.YtgplipfebnigiaaGreatDoor
end
section
namespace Go.Proofs.YtgplipfebnigiaaGreatDoor
open Go.RowKit Go.Maps
set_option linter.unusedVariables false
set_option linter.unusedSimpArgs false
attribute [local go_sem ↓] Go.wp_at_zero Go.wp_at_succ

/-- only these blocks may have turned -/
structure Tch (E : Nat → Prop) (w w' : World) : Prop where
  os : w'.os = w.os
  tape : w'.tape = w.tape
  output : w'.output = w.output
  size : w.heap.size ≤ w'.heap.size
  block : ∀ g, g < w.heap.size → ¬ E g → w'.heap[g]? = w.heap[g]?
theorem Tch.refl (E : Nat → Prop) (w : World) : Tch E w w := ⟨rfl, rfl, rfl, Nat.le_refl _, fun _ _ _ => rfl⟩
theorem Tch.trans {E : Nat → Prop} {a b c : World} (h : Tch E a b) (k : Tch E b c) : Tch E a c :=
  ⟨k.os.trans h.os, k.tape.trans h.tape, k.output.trans h.output, Nat.le_trans h.size k.size, fun g hg he => (k.block g (Nat.lt_of_lt_of_le hg h.size) he).trans (h.block g hg he)⟩
theorem Tch.mono {E E' : Nat → Prop} {w w' : World} (h : Tch E w w') (he : ∀ g, E g → E' g) : Tch E' w w' := ⟨h.os, h.tape, h.output, h.size, fun g hg hn => h.block g hg (fun e => hn (he g e))⟩
theorem Pt.tch {w w' : World} {g o : Nat} {t : T} (h : Pt w g o t w') : Tch (fun b => b = g) w w' := ⟨h.os, h.tape, h.output, h.size, fun b hb hn => h.blk b hb hn⟩
theorem flat_mem {bls : List (List Nat)} {i x : Nat} (hi : i < bls.length) (hx : x ∈ bls.getD i []) : x ∈ bls.flatten := by
  rw [List.getD_eq_getElem?_getD, List.getElem?_eq_getElem hi] at hx
  exact List.mem_flatten.2 ⟨_, List.getElem_mem hi, hx⟩
theorem flat_disj {bls : List (List Nat)} (h : bls.flatten.Nodup) {i k x : Nat} (hi : i < bls.length) (hk : k < bls.length) (hik : i ≠ k) (hx : x ∈ bls.getD i []) : x ∉ bls.getD k [] := by
  intro hy
  rw [List.getD_eq_getElem?_getD, List.getElem?_eq_getElem hi] at hx
  rw [List.getD_eq_getElem?_getD, List.getElem?_eq_getElem hk] at hy
  have hp := (List.pairwise_flatten.1 h).2
  rw [List.pairwise_iff_getElem] at hp
  rcases Nat.lt_or_gt_of_ne hik with hl | hl
  · exact hp i k hi hk hl x hx x hy rfl
  · exact hp k i hk hi hl x hy x hx rfl
theorem flat_nodup {bls : List (List Nat)} (h : bls.flatten.Nodup) {i : Nat} (hi : i < bls.length) : (bls.getD i []).Nodup := by
  rw [List.getD_eq_getElem?_getD, List.getElem?_eq_getElem hi]
  exact (List.pairwise_flatten.1 h).1 _ (List.getElem_mem hi)
/-- an expression whose kids' rows lie in blocks of their own, no two in one -/
def EB (w : World) : Nat → E → Option Addr → Nat → List Nat → Prop
  | 0, _, _, _, _ => False
  | d + 1, e, a, c, bl => ((-128 ≤ e.op ∧ e.op ≤ 127) ∧ e.kids.length ≤ 281474976710656) ∧ e.t.wf ∧ e.kids.length ≤ c ∧ c ≤ maxLen ∧
    ((e.kids = [] ∧ bl = []) ∨ ∃ g bls, a = some ⟨g, 0, none⟩ ∧ g < w.heap.size ∧ bl = g :: List.flatten bls ∧ bls.length = e.kids.length ∧ bl.Nodup ∧ (∀ j, w.frozen? ⟨g, j, none⟩ = false) ∧
      ∀ i, i < e.kids.length → ∃ a' c', XAt w g (i * 6) (atE e.kids i).op (atE e.kids i).t (.slice a' (atE e.kids i).kids.length c') ∧ EB w d (atE e.kids i) a' c' (bls.getD i []))
theorem XAt.sameC {w w' : World} {g o : Nat} {op : Int} {t : T} {s : Value} (h : XAt w g o op t s) (e : ∀ j, o ≤ j → j < o + 6 → w'.cell? ⟨g, j, none⟩ = w.cell? ⟨g, j, none⟩) : XAt w' g o op t s :=
  ⟨(e _ (by omega) (by omega)).trans h.c0, (e _ (by omega) (by omega)).trans h.c1, (e _ (by omega) (by omega)).trans h.c2, (e _ (by omega) (by omega)).trans h.c3, (e _ (by omega) (by omega)).trans h.c4, (e _ (by omega) (by omega)).trans h.c5⟩
theorem cell_block {w w' : World} {g : Nat} (e : w'.heap[g]? = w.heap[g]?) (j : Nat) : w'.cell? ⟨g, j, none⟩ = w.cell? ⟨g, j, none⟩ := by unfold World.cell?; rw [e]
theorem frozen_block {w w' : World} {g : Nat} (e : w'.heap[g]? = w.heap[g]?) (j : Nat) : w'.frozen? ⟨g, j, none⟩ = w.frozen? ⟨g, j, none⟩ := by unfold World.frozen?; rw [e]
theorem EB.keep {w w' : World} (hs : w.heap.size ≤ w'.heap.size) : ∀ {d : Nat} {e : E} {a : Option Addr} {c : Nat} {bl : List Nat}, EB w d e a c bl → (∀ b ∈ bl, w'.heap[b]? = w.heap[b]?) → EB w' d e a c bl
  | 0, _, _, _, _, h, _ => h
  | d + 1, e, a, c, bl, h, hk => by
    obtain ⟨h1, h2, h3, h4, h5⟩ := h
    refine ⟨h1, h2, h3, h4, ?_⟩
    rcases h5 with h5 | ⟨g, bls, ha, hg, hbl, hl, hnd, hf, hx⟩
    · exact .inl h5
    · subst hbl
      have e1 := hk g (by simp)
      refine .inr ⟨g, bls, ha, Nat.lt_of_lt_of_le hg hs, rfl, hl, hnd, fun j => by rw [frozen_block e1]; exact hf j, fun i hi => ?_⟩
      obtain ⟨a', c', x1, x2⟩ := hx i hi
      exact ⟨a', c', x1.sameC (fun j _ _ => cell_block e1 j), x2.keep hs (fun b hb => hk b (List.mem_cons_of_mem _ (flat_mem (by omega) hb)))⟩
theorem EB.lt {w : World} : ∀ {d : Nat} {e : E} {a : Option Addr} {c : Nat} {bl : List Nat}, EB w d e a c bl → ∀ b ∈ bl, b < w.heap.size
  | 0, _, _, _, _, h => h.elim
  | d + 1, e, a, c, bl, h => by
    obtain ⟨h1, h2, h3, h4, h5⟩ := h
    rcases h5 with ⟨_, h5⟩ | ⟨g, bls, ha, hg, hbl, hl, hnd, hf, hx⟩
    · intro b hb; rw [h5] at hb; cases hb
    · subst hbl
      intro b hb
      rcases List.mem_cons.1 hb with rfl | hb
      · exact hg
      · obtain ⟨l, hl1, hl2⟩ := List.mem_flatten.1 hb
        obtain ⟨i, hi, rfl⟩ := List.mem_iff_getElem.1 hl1
        obtain ⟨a', c', _, x2⟩ := hx i (by omega)
        exact x2.lt b (by rw [List.getD_eq_getElem?_getD, List.getElem?_eq_getElem hi]; exact hl2)
theorem EB.eis {w : World} : ∀ {d : Nat} {e : E} {a : Option Addr} {c : Nat} {bl : List Nat}, EB w d e a c bl → EIs w d e a c
  | 0, _, _, _, _, h => h
  | d + 1, e, a, c, bl, h => by
    obtain ⟨h1, h2, h3, h4, h5⟩ := h
    refine ⟨h1, h2, h3, h4, fun h0 => ?_⟩
    rcases h5 with ⟨h5, _⟩ | ⟨g, bls, ha, hg, hbl, hl, hnd, hf, hx⟩
    · rw [h5] at h0; simp at h0
    · refine ⟨g, 0, ha, hg, fun i hi => ?_⟩
      obtain ⟨a', c', x1, x2⟩ := hx i hi
      exact ⟨a', c', by rw [Nat.zero_add]; exact x1, x2.eis⟩
/-- an expression with what takes its terms' places -/
def apD (f : T → T) : Nat → E → E
  | 0, e => e
  | d + 1, e => .mk e.op (f e.t) (e.kids.map (apD f d))
theorem apD_succ (f : T → T) (d : Nat) (e : E) : apD f (d + 1) e = .mk e.op (f e.t) (e.kids.map (apD f d)) := rfl
theorem apD_op (f : T → T) : ∀ (d : Nat) (e : E), (apD f d e).op = e.op
  | 0, e => rfl
  | d + 1, e => rfl
theorem apD_len (f : T → T) : ∀ (d : Nat) (e : E), (apD f d e).kids.length = e.kids.length
  | 0, e => rfl
  | d + 1, e => by rw [apD_succ]; show (e.kids.map (apD f d)).length = _; simp
theorem atE_map (f : E → E) {l : List E} {i : Nat} (h : i < l.length) : atE (l.map f) i = f (atE l i) := by
  rw [atE_eq (by simpa using h), atE_eq h, List.getElem_map]
def putF (bm : Nat) : Value := .func (.func 44) #[.map (some bm)] #[]
/-- what a walk over an expression at a place leaves -/
structure Wx (w : World) (g o : Nat) (d : Nat) (e : E) (a : Option Addr) (c : Nat) (bl : List Nat) (s : List P) (w' : World) : Prop where
  tch : Tch (fun b => b = g ∨ b ∈ bl) w w'
  xat : XAt w' g o e.op (res s e.t) (.slice a e.kids.length c)
  oth : ∀ j, (j < o + 1 ∨ o + 5 ≤ j) → w'.cell? ⟨g, j, none⟩ = w.cell? ⟨g, j, none⟩
  frz : ∀ j, w'.frozen? ⟨g, j, none⟩ = false
  eb : EB w' d (apD (res s) d e) a c bl
theorem XAt.tat {w : World} {g o : Nat} {op : Int} {t : T} {s : Value} (h : XAt w g o op t s) : TAt w g (o + 1) t := ⟨h.c1, h.c2, h.c3, h.c4⟩
theorem apD_t (f : T → T) {d : Nat} (e : E) (h : d ≠ 0) : (apD f d e).t = f e.t := by
  cases d with
  | zero => exact absurd rfl h
  | succ d => rfl
theorem EB.pos {w : World} {d : Nat} {e : E} {a : Option Addr} {c : Nat} {bl : List Nat} (h : EB w d e a c bl) : d ≠ 0 := fun e0 => by subst e0; exact h
/-- what the walk over the kids keeps -/
structure Wl (w : World) (g o d : Nat) (e : E) (c g' : Nat) (bls : List (List Nat)) (s : List P) (bm k : Nat) (wr : World) : Prop where
  tch : Tch (fun b => b = g ∨ b ∈ g' :: bls.flatten) w wr
  xat : XAt wr g o e.op (res s e.t) (.slice (some ⟨g', 0, none⟩) e.kids.length c)
  oth : ∀ j, (j < o + 1 ∨ o + 5 ≤ j) → wr.cell? ⟨g, j, none⟩ = w.cell? ⟨g, j, none⟩
  frz : ∀ j, wr.frozen? ⟨g, j, none⟩ = false
  map : MapT wr bm s
  gl : g' < wr.heap.size
  fz : ∀ j, wr.frozen? ⟨g', j, none⟩ = false
  done : ∀ i, i < e.kids.length → i < k → ∃ a' c', XAt wr g' (i * 6) (atE e.kids i).op (res s (atE e.kids i).t) (.slice a' (atE e.kids i).kids.length c') ∧ EB wr d (apD (res s) d (atE e.kids i)) a' c' (bls.getD i [])
  rest : ∀ i, i < e.kids.length → k ≤ i → ∃ a' c', XAt wr g' (i * 6) (atE e.kids i).op (atE e.kids i).t (.slice a' (atE e.kids i).kids.length c') ∧ EB wr d (atE e.kids i) a' c' (bls.getD i [])
theorem Wl.step {w : World} {g o d : Nat} {e : E} {c g' : Nat} {bls : List (List Nat)} {s : List P} {bm k : Nat} {wr w2 : World} {a' : Option Addr} {c' : Nat} (h : Wl w g o d e c g' bls s bm k wr) (hk : k < e.kids.length) (hl : bls.length = e.kids.length) (nd : (g' :: bls.flatten).Nodup) (hg : g ∉ g' :: bls.flatten) (hm : bm ∉ g' :: bls.flatten)
    (hx : Wx wr g' (k * 6) d (atE e.kids k) a' c' (bls.getD k []) s w2) : Wl w g o d e c g' bls s bm (k + 1) w2 := by
  have hgl : g < wr.heap.size := World.block_lt_of_cell? _ _ h.xat.c0
  have hsub : ∀ b, (b = g' ∨ b ∈ bls.getD k []) → b ∈ g' :: bls.flatten := fun b hb => by
    rcases hb with rfl | hb
    · simp
    · exact List.mem_cons_of_mem _ (flat_mem (by omega) hb)
  have eg : w2.heap[g]? = wr.heap[g]? := hx.tch.block g hgl (fun q => hg (hsub g q))
  have em : w2.heap[bm]? = wr.heap[bm]? := hx.tch.block bm h.map.lt (fun q => hm (hsub bm q))
  have hnd := List.nodup_cons.1 nd
  have hkb : ∀ i, i < e.kids.length → i ≠ k → ∀ b, b ∈ bls.getD i [] → b < wr.heap.size → w2.heap[b]? = wr.heap[b]? := fun i hi hn b hb hbl => hx.tch.block b hbl (fun q => by
    rcases q with q | q
    · exact hnd.1 (by rw [← q]; exact flat_mem (by omega) hb)
    · exact flat_disj hnd.2 (by omega) (by omega) hn hb q)
  refine ⟨h.tch.trans (hx.tch.mono (fun b hb => .inr (hsub b hb))), h.xat.sameC (fun j _ _ => cell_block eg j), fun j hj => (cell_block eg j).trans (h.oth j hj), fun j => (frozen_block eg j).trans (h.frz j), h.map.of_block em, Nat.lt_of_lt_of_le h.gl hx.tch.size, hx.frz, fun i hi hik => ?_, fun i hi hik => ?_⟩
  · by_cases e1 : i = k
    · subst e1
      exact ⟨a', c', hx.xat, hx.eb⟩
    · obtain ⟨a2, c2, y1, y2⟩ := h.done i hi (by omega)
      exact ⟨a2, c2, y1.sameC (fun j j1 j2 => hx.oth j (.inl (by omega))), y2.keep hx.tch.size (fun b hb => hkb i hi e1 b hb (y2.lt b hb))⟩
  · obtain ⟨a2, c2, y1, y2⟩ := h.rest i hi (by omega)
    exact ⟨a2, c2, y1.sameC (fun j j1 j2 => hx.oth j (.inr (by omega))), y2.keep hx.tch.size (fun b hb => hkb i hi (by omega) b hb (y2.lt b hb))⟩
set_option maxHeartbeats 3200000 in
set_option maxRecDepth 100000 in
theorem walkExprP {bm : Nat} {s : List P} (nd : (s.map P.v).Nodup) (hs : ∀ p ∈ s, p.wf) : ∀ (d : Nat) (w : World) (e : E) (a : Option Addr) (c g o : Nat) (bl : List Nat), MapT w bm s → XAt w g o e.op e.t (.slice a e.kids.length c) → (∀ j, w.frozen? ⟨g, j, none⟩ = false) → EB w d e a c bl → g ∉ bl → bm ∉ bl → bm ≠ g →
    Calls Tryz.prog 42 #[.iface 117 (.pointer (some ⟨g, o, none⟩)), putF bm] w fun e' w' => (∃ u, e' = .returned u) ∧ Wx w g o d e a c bl s w' := by
  intro d
  induction d with
  | zero => intro w e a c g o bl _ _ _ h; exact absurd h (fun h => h)
  | succ d ih =>
  intro w e a c g o bl hm hx hf hE hgb hmb hmg
  have hg : g < w.heap.size := World.block_lt_of_cell? _ _ hx.c0
  obtain ⟨⟨hop, hkl⟩, htw, hc1, hc2, hk⟩ := hE
  have HP : Hid _ := putAt_any (o := o + 1) hm nd hx.tat (fun i _ => hf _) htw
  have HIH : Hid _ := ih
  have HE0 := Lib.hid hk
  have HX0 := Lib.hid hx
  have HM0 := Lib.hid hm
  have HFZ := Lib.hid hf
  have HOP := Lib.hid hop
  have HTW := Lib.hid (res_wf hs htw)
  have HGB := Lib.hid (And.intro hgb (And.intro hmb hmg))
  have h1 := exRule (.pointer (some ⟨g, o, none⟩))
  have h2 := exLiteral (.pointer (some ⟨g, o, none⟩))
  have h3 := exAtom (.pointer (some ⟨g, o, none⟩))
  have h4 := exExpr (.pointer (some ⟨g, o, none⟩))
  clear ih hk hx hm hf hop htw hgb hmb hmg
  unfold putF
  go_enter Tryz.func42, Tryz.ntmps42
  go_wp2_with fail
  refine Calls.mono HP.out ?_
  rintro ee w1 ⟨⟨u, rfl⟩, hp⟩
  have hx1 : XAt w1 g o e.op (res s e.t) (.slice a e.kids.length c) := ⟨by rw [hp.oth _ (by omega)]; exact HX0.out.c0, hp.term.c0, hp.term.c1, hp.term.c2, hp.term.c3, by rw [hp.oth _ (by omega)]; exact HX0.out.c5⟩
  have HX1 := Lib.hid hx1
  have HPT := Lib.hid hp
  have c5 := hx1.c5
  clear h1 h2 h3 h4 hp hx1 HP
  rcases HE0.out with ⟨hk0, hbl⟩ | ⟨g', bls, ha, hg', hbl, hl, hnd, hf', hkx⟩
  · have HFIN : Hid (Wx w g o (d + 1) e a c bl s w1) := by
      refine ⟨HPT.out.tch.mono (fun b hb => .inl hb), HX1.out, fun j hj => HPT.out.oth j (by omega), fun j => (HPT.out.frz j).trans (HFZ.out j), ?_⟩
      rw [apD_succ, hk0]
      exact ⟨⟨HOP.out, by simp [E.kids]⟩, HTW.out, Nat.zero_le _, hc2, .inl ⟨rfl, hbl⟩⟩
    have hlen : e.kids.length = 0 := by rw [hk0]; rfl
    rw [hlen] at c5
    clear hk0 hbl hkl hc1
    go_wp2
    clear c5
    go_loopw [106] (fun i wr => i = .int .i64 0 ∧ wr = w1) (fun i _ => 0)
    case atStart => exact ⟨rfl, rfl⟩
    case round =>
      obtain ⟨rfl, rfl⟩ := hrel
      go_wp2
      go_end0
      exact ⟨⟨_, rfl⟩, HFIN.out⟩
  · subst hbl ha
    have hgg : g ≠ g' := fun q => HGB.out.1 (by rw [q]; simp)
    have hkb : ∀ b ∈ g' :: bls.flatten, b < w.heap.size → w1.heap[b]? = w.heap[b]? := fun b hb hbl => HPT.out.blk b hbl (fun q => HGB.out.1 (by rw [← q]; exact hb))
    have eg := hkb g' (by simp) hg'
    have HW0 : Hid (Wl w g o d e c g' bls s bm 0 w1) := by
      refine ⟨HPT.out.tch.mono (fun b hb => .inl hb), HX1.out, fun j hj => HPT.out.oth j (by omega), fun j => (HPT.out.frz j).trans (HFZ.out j), HM0.out.of_block (HPT.out.blk _ HM0.out.lt HGB.out.2.2), Nat.lt_of_lt_of_le hg' HPT.out.size, fun j => (frozen_block eg j).trans (hf' j), fun i _ h0 => absurd h0 (by omega), fun i hi _ => ?_⟩
      obtain ⟨a2, c2, y1, y2⟩ := hkx i hi
      exact ⟨a2, c2, y1.sameC (fun j _ _ => cell_block eg j), y2.keep HPT.out.size (fun b hb => hkb b (List.mem_cons_of_mem _ (flat_mem (by omega) hb)) (y2.lt b hb))⟩
    have HND := Lib.hid hnd
    clear hkb eg hkx hf' hnd
    go_wp2
    clear c5
    go_loopw [106] (fun i wr => ∃ k : Nat, k ≤ e.kids.length ∧ i = .int .i64 k ∧ Hid (Wl w g o d e c g' bls s bm k wr)) (fun i _ => e.kids.length - (intOf i).toNat)
    case atStart => exact ⟨0, Nat.zero_le _, rfl, HW0⟩
    case round =>
      clear HW0
      obtain ⟨k, hk, rfl, HL⟩ := hrel
      have c5 := HL.out.xat.c5
      by_cases hlt : k < e.kids.length
      · have hlt' : (k : Int) < (e.kids.length : Int) := by omega
        have hk0 : (0 : Int) ≤ (k : Int) := by omega
        obtain ⟨a', c', y1, y2⟩ := HL.out.rest k hlt (Nat.le_refl _)
        have hn2 := List.nodup_cons.1 HND.out
        have HI : Hid (Calls Tryz.prog 42 #[.iface 117 (.pointer (some ⟨g', k * 6, none⟩)), .func (.func 44) #[.map (some bm)] #[]] wr fun e' w' => (∃ u, e' = .returned u) ∧ Wx wr g' (k * 6) d (atE e.kids k) a' c' (bls.getD k []) s w') :=
          HIH.out wr (atE e.kids k) a' c' g' (k * 6) _ HL.out.map y1 HL.out.fz y2 (fun q => hn2.1 (flat_mem (by omega) q)) (fun q => HGB.out.2.1 (List.mem_cons_of_mem _ (flat_mem (by omega) q))) (fun q => HGB.out.2.1 (by rw [q]; simp))
        clear y1 y2 hn2
        go_wp2_with fail
        refine Calls.mono HI.out ?_
        rintro ee w2 ⟨⟨u2, rfl⟩, hw2⟩
        have HL2 := Lib.hid (HL.out.step hlt hl HND.out HGB.out.1 HGB.out.2.1 hw2)
        clear hw2 HI HL
        go_wp2
        go_roundw
        case rel => exact ⟨k + 1, by omega, by go_num, HL2⟩
        case measure => simp [intOf]; omega
      · obtain rfl : k = e.kids.length := by omega
        have HFIN : Hid (Wx w g o (d + 1) e (some ⟨g', 0, none⟩) c (g' :: bls.flatten) s wr) := by
          refine ⟨HL.out.tch, HL.out.xat, HL.out.oth, HL.out.frz, ?_⟩
          rw [apD_succ]
          refine ⟨⟨HOP.out, by show (e.kids.map (apD (res s) d)).length ≤ _; rw [List.length_map]; exact hkl⟩, HTW.out, by show (e.kids.map (apD (res s) d)).length ≤ _; rw [List.length_map]; exact hc1, hc2, .inr ⟨g', bls, rfl, HL.out.gl, rfl, by show _ = (e.kids.map (apD (res s) d)).length; rw [List.length_map]; exact hl, HND.out, HL.out.fz, fun i hi => ?_⟩⟩
          have hi' : i < e.kids.length := by have : i < (e.kids.map (apD (res s) d)).length := hi; rw [List.length_map] at this; exact this
          obtain ⟨a2, c2, y1, y2⟩ := HL.out.done i hi' hi'
          refine ⟨a2, c2, ?_⟩
          show XAt wr g' (i * 6) (atE (e.kids.map (apD (res s) d)) i).op (atE (e.kids.map (apD (res s) d)) i).t (.slice a2 (atE (e.kids.map (apD (res s) d)) i).kids.length c2) ∧ EB wr d (atE (e.kids.map (apD (res s) d)) i) a2 c2 (bls.getD i [])
          rw [atE_map _ hi', apD_op, apD_len, apD_t _ _ y2.pos]
          exact ⟨y1, y2⟩
        go_wp2
        go_end0
        exact ⟨⟨_, rfl⟩, HFIN.out⟩
end Go.Proofs.YtgplipfebnigiaaGreatDoor
end
