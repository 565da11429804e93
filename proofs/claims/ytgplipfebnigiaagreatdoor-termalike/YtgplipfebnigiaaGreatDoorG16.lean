import Derived.Test.YtgplipfebnigiaaGreatDoorG13
import Derived.Test.YtgplipfebnigiaaGreatDoorG14
import Derived.Test.YtgplipfebnigiaaGreatDoorG15
import Derived.Test.YtgplipfebnigiaaGreatDoorG12
section
namespace Go.Proofs.YtgplipfebnigiaaGreatDoor
open Go.RowKit Go.Maps
set_option linter.unusedVariables false
set_option linter.unusedSimpArgs false
attribute [local go_sem ↓] Go.wp_at_zero Go.wp_at_succ

/-- the terms of a literal, in their order -/
def termsL (d : Nat) (x : Lit4) : List T := x.ts ++ (termsD d x.l ++ termsD d x.r)
/-- a literal's sixteen cells at a place -/
structure LAt (w : World) (g o : Nat) (x : Lit4) (p : LP) : Prop where
  k : w.cell? ⟨g, o, none⟩ = some (.int .i8 x.k)
  pr : w.cell? ⟨g, o + 1, none⟩ = some (.string x.pr)
  ts : w.cell? ⟨g, o + 2, none⟩ = some (.slice p.a x.ts.length p.c)
  rel : w.cell? ⟨g, o + 3, none⟩ = some (.int .i8 x.rel)
  l : XAt w g (o + 4) x.l.op x.l.t (.slice p.la x.l.kids.length p.lc)
  r : XAt w g (o + 10) x.r.op x.r.t (.slice p.ra x.r.kids.length p.rc)
theorem liRule (v : Value) (w : World) : (Instr.typeAssert (.iface 112 v) 20 78 true).run Tryz.prog w = .ok (.tuple #[.pointer none, .bool false]) w := by kernel_rfl
theorem liLiteral (v : Value) (w : World) : (Instr.typeAssert (.iface 112 v) 20 112 true).run Tryz.prog w = .ok (.tuple #[v, .bool true]) w := by kernel_rfl
set_option maxHeartbeats 3200000 in
set_option maxRecDepth 100000 in
theorem walkLiteral_any {B : Nat} {w0 : World} {bo bs bm : Nat} {ns : List ByteArray} {sv : Value} {w : World} (h : Vst B w0 bo bs bm ns sv w) (hB : B = w0.heap.size) (g o : Nat) (hg : g < B) (d : Nat) (x : Lit4) (p : LP) (hx : LAt w0 g o x p) (hL : LIs w0 d x p) (hn : ns.length + (termsL d x).length ≤ 4398046511104) :
    Calls Tryz.prog 42 #[.iface 112 (.pointer (some ⟨g, o, none⟩)), handV bs bo] w fun e w' => (∃ u, e = .returned u) ∧ ∃ sv', Vst B w0 bo bs bm (vsT ns (termsL d x)) sv' w' := by
  unfold termsL at hn ⊢
  simp only [List.length_append] at hn
  rw [vsT_append, vsT_append]
  have l1 := vsT_len x.ts ns
  have l2 := vsT_len (termsD d x.l) (vsT ns x.ts)
  have HA : Hid _ := walkAtom_any h hB g (o + 1) hg p.a p.c x.ts hx.ts hL.ts (by omega)
  have HL1 : Hid (∀ sv1 w1, Vst B w0 bo bs bm (vsT ns x.ts) sv1 w1 → Calls Tryz.prog 42 #[.iface 117 (.pointer (some ⟨g, o + 4, none⟩)), handE bs bo] w1 fun e' w' => (∃ u, e' = .returned u) ∧ ∃ sv', Vst B w0 bo bs bm (vsT (vsT ns x.ts) (termsD d x.l)) sv' w') := fun sv1 w1 hv => walkExpr_any hB d _ sv1 w1 x.l p.la p.lc g (o + 4) hv hg hx.l hL.l (by omega)
  have HL2 : Hid (∀ sv1 w1, Vst B w0 bo bs bm (vsT (vsT ns x.ts) (termsD d x.l)) sv1 w1 → Calls Tryz.prog 42 #[.iface 117 (.pointer (some ⟨g, o + 10, none⟩)), handE bs bo] w1 fun e' w' => (∃ u, e' = .returned u) ∧ ∃ sv', Vst B w0 bo bs bm (vsT (vsT (vsT ns x.ts) (termsD d x.l)) (termsD d x.r)) sv' w') := fun sv1 w1 hv => walkExpr_any hB d _ sv1 w1 x.r p.ra p.rc g (o + 10) hv hg hx.r hL.r (by omega)
  have h1 := liRule (.pointer (some ⟨g, o, none⟩))
  have h2 := liLiteral (.pointer (some ⟨g, o, none⟩))
  unfold handV at HA ⊢
  unfold handE at HL1 HL2
  generalize vsT (vsT (vsT ns x.ts) (termsD d x.l)) (termsD d x.r) = n3 at HL2 ⊢
  generalize vsT (vsT ns x.ts) (termsD d x.l) = n2 at HL1 HL2
  generalize vsT ns x.ts = n1 at HA HL1
  clear l1 l2 h hx hL hn
  go_enter Tryz.func42, Tryz.ntmps42
  go_wp2_with fail
  refine Calls.mono HA.out ?_
  rintro e w1 ⟨⟨u, rfl⟩, sv1, hv1⟩
  go_wp2_with fail
  refine Calls.mono (HL1.out _ _ hv1) ?_
  rintro e w2 ⟨⟨u2, rfl⟩, sv2, hv2⟩
  go_wp2_with fail
  refine Calls.mono (HL2.out _ _ hv2) ?_
  rintro e w3 ⟨⟨u3, rfl⟩, sv3, hv3⟩
  go_wp2
  go_end0
  exact ⟨⟨_, rfl⟩, _, hv3⟩
end Go.Proofs.YtgplipfebnigiaaGreatDoor
end
section
namespace Go.Proofs.YtgplipfebnigiaaGreatDoor
open Go.RowKit Go.Maps
set_option linter.unusedVariables false
set_option linter.unusedSimpArgs false
attribute [local go_sem ↓] Go.wp_at_zero Go.wp_at_succ

/-- a list of terms in a block of its own -/
structure TB (w : World) (ts : List T) (a : Option Addr) (c : Nat) (bl : List Nat) : Prop where
  c1 : ts.length ≤ c
  c2 : c ≤ maxLen
  wf : ∀ t ∈ ts, t.wf
  lies : (ts = [] ∧ bl = []) ∨ ∃ g, a = some ⟨g, 0, none⟩ ∧ g < w.heap.size ∧ bl = [g] ∧ (∀ j, w.frozen? ⟨g, j, none⟩ = false) ∧ ∀ i, i < ts.length → TAt w g (i * 4) (atT ts i)
theorem TAt.sameC {w w' : World} {g o : Nat} {t : T} (h : TAt w g o t) (e : ∀ j, o ≤ j → j < o + 4 → w'.cell? ⟨g, j, none⟩ = w.cell? ⟨g, j, none⟩) : TAt w' g o t :=
  ⟨(e _ (by omega) (by omega)).trans h.c0, (e _ (by omega) (by omega)).trans h.c1, (e _ (by omega) (by omega)).trans h.c2, (e _ (by omega) (by omega)).trans h.c3⟩
theorem TB.keep {w w' : World} {ts : List T} {a : Option Addr} {c : Nat} {bl : List Nat} (h : TB w ts a c bl) (hs : w.heap.size ≤ w'.heap.size) (hk : ∀ b ∈ bl, w'.heap[b]? = w.heap[b]?) : TB w' ts a c bl := by
  refine ⟨h.c1, h.c2, h.wf, ?_⟩
  rcases h.lies with h1 | ⟨g, ha, hg, hbl, hf, hx⟩
  · exact .inl h1
  · have e := hk g (by rw [hbl]; simp)
    exact .inr ⟨g, ha, Nat.lt_of_lt_of_le hg hs, hbl, fun j => (frozen_block e j).trans (hf j), fun i hi => (hx i hi).sameC (fun j _ _ => cell_block e j)⟩
theorem TB.lt {w : World} {ts : List T} {a : Option Addr} {c : Nat} {bl : List Nat} (h : TB w ts a c bl) : ∀ b ∈ bl, b < w.heap.size := fun b hb => by
  rcases h.lies with ⟨_, h1⟩ | ⟨g, ha, hg, hbl, hf, hx⟩
  · rw [h1] at hb; cases hb
  · rw [hbl] at hb
    rw [List.mem_singleton.1 hb]
    exact hg
theorem TB.is {w : World} {ts : List T} {a : Option Addr} {c : Nat} {bl : List Nat} (h : TB w ts a c bl) : Lt w (.slice a ts.length c) ts := by
  rcases h.lies with ⟨h1, _⟩ | ⟨g, ha, hg, hbl, hf, hx⟩
  · subst h1
    exact ⟨⟨Nat.zero_le _, a, c, rfl, h.c1, h.c2, fun h0 => absurd h0 (by simp)⟩, h.wf⟩
  · subst ha
    exact lt_of_at rfl h.c1 h.c2 hg hx h.wf
theorem atT_map (f : T → T) {l : List T} {i : Nat} (h : i < l.length) : atT (l.map f) i = f (atT l i) := by
  rw [atT_eq (by simpa using h), atT_eq h, List.getElem_map]
/-- what the walk over an atom's terms keeps -/
structure Wa (w : World) (g' bm : Nat) (ts : List T) (s : List P) (k : Nat) (wr : World) : Prop where
  tch : Tch (fun b => b = g') w wr
  map : MapT wr bm s
  gl : g' < wr.heap.size
  fz : ∀ j, wr.frozen? ⟨g', j, none⟩ = false
  done : ∀ i, i < ts.length → i < k → TAt wr g' (i * 4) (res s (atT ts i))
  rest : ∀ i, i < ts.length → k ≤ i → TAt wr g' (i * 4) (atT ts i)
theorem Wa.step {w : World} {g' bm : Nat} {ts : List T} {s : List P} {k : Nat} {wr w2 : World} (h : Wa w g' bm ts s k wr) (hm : bm ≠ g') (hp : Pt wr g' (k * 4) (res s (atT ts k)) w2) : Wa w g' bm ts s (k + 1) w2 := by
  refine ⟨h.tch.trans hp.tch, h.map.of_block (hp.blk _ h.map.lt hm), Nat.lt_of_lt_of_le h.gl hp.size, fun j => (hp.frz j).trans (h.fz j), fun i hi hik => ?_, fun i hi hik => ?_⟩
  · by_cases e : i = k
    · subst e; exact hp.term
    · exact (h.done i hi (by omega)).sameC (fun j j1 j2 => hp.oth j (.inl (by omega)))
  · exact (h.rest i hi (by omega)).sameC (fun j j1 j2 => hp.oth j (.inr (by omega)))
theorem apRule (v : Value) (w : World) : (Instr.typeAssert (.iface 116 v) 20 78 true).run Tryz.prog w = .ok (.tuple #[.pointer none, .bool false]) w := by kernel_rfl
theorem apLiteral (v : Value) (w : World) : (Instr.typeAssert (.iface 116 v) 20 112 true).run Tryz.prog w = .ok (.tuple #[.pointer none, .bool false]) w := by kernel_rfl
theorem apAtom (v : Value) (w : World) : (Instr.typeAssert (.iface 116 v) 20 116 true).run Tryz.prog w = .ok (.tuple #[v, .bool true]) w := by kernel_rfl
set_option maxHeartbeats 3200000 in
set_option maxRecDepth 100000 in
theorem walkAtomP {bm : Nat} {s : List P} (nd : (s.map P.v).Nodup) (hs : ∀ p ∈ s, p.wf) (w : World) (ts : List T) (a : Option Addr) (c g o : Nat) (bl : List Nat) (hm : MapT w bm s) (hc : w.cell? ⟨g, o + 1, none⟩ = some (.slice a ts.length c)) (hT : TB w ts a c bl) (hgb : g ∉ bl) (hmb : bm ∉ bl) (hn : ts.length ≤ 281474976710656) :
    Calls Tryz.prog 42 #[.iface 116 (.pointer (some ⟨g, o, none⟩)), putF bm] w fun e w' => (∃ u, e = .returned u) ∧ Tch (fun b => b ∈ bl) w w' ∧ TB w' (ts.map (res s)) a c bl := by
  have hgl : g < w.heap.size := World.block_lt_of_cell? _ _ hc
  have h1 := apRule (.pointer (some ⟨g, o, none⟩))
  have h2 := apLiteral (.pointer (some ⟨g, o, none⟩))
  have h3 := apAtom (.pointer (some ⟨g, o, none⟩))
  have HT := Lib.hid hT
  have HWF : Hid (∀ t ∈ ts.map (res s), t.wf) := fun t ht => by
    obtain ⟨x, hx, rfl⟩ := List.mem_map.1 ht
    exact res_wf hs (hT.wf x hx)
  unfold putF
  rcases hT.lies with ⟨h0, hbl⟩ | ⟨g', ha, hg', hbl, hf', hkx⟩
  · subst h0
    clear hT
    go_enter Tryz.func42, Tryz.ntmps42
    go_wp2
    clear h1 h2 h3
    go_loopw [81] (fun i wr => i = .int .i64 0 ∧ wr = w) (fun i _ => 0)
    case atStart => exact ⟨rfl, rfl⟩
    case round =>
      obtain ⟨rfl, rfl⟩ := hrel
      go_wp2
      go_end0
      exact ⟨⟨_, rfl⟩, Tch.refl _ _, HT.out⟩
  · subst ha hbl
    have hgg : g ≠ g' := fun e => hgb (by rw [e]; simp)
    have hmg : bm ≠ g' := fun e => hmb (by rw [e]; simp)
    have HW0 : Hid (Wa w g' bm ts s 0 w) := ⟨Tch.refl _ _, hm, hg', hf', fun i _ h => absurd h (by omega), fun i hi _ => hkx i hi⟩
    have HCC : Hid (∀ wr, Tch (fun b => b = g') w wr → wr.cell? ⟨g, o + 1, none⟩ = some (.slice (some ⟨g', 0, none⟩) ts.length c)) := fun wr ht => by rw [cell_block (ht.block g hgl hgg)]; exact hc
    have HPU : Hid (∀ k wr, k < ts.length → Wa w g' bm ts s k wr → Calls Tryz.prog 44 #[.map (some bm), .pointer (some ⟨g', k * 4, none⟩)] wr fun e w' => (∃ u, e = .returned u) ∧ Wa w g' bm ts s (k + 1) w') := fun k wr hk ha => (putAt_any ha.map nd (ha.rest k hk (Nat.le_refl _)) (fun i _ => ha.fz _) (HT.out.wf _ (by rw [atT_eq hk]; exact List.getElem_mem _))).mono (fun e w' h => ⟨h.1, ha.step hmg h.2⟩)
    clear hT hm hkx hf' hgb hmb nd hs
    go_enter Tryz.func42, Tryz.ntmps42
    go_wp2
    clear h1 h2 h3 hc
    go_loopw [81] (fun i wr => ∃ k : Nat, k ≤ ts.length ∧ i = .int .i64 k ∧ Hid (Wa w g' bm ts s k wr)) (fun i _ => ts.length - (intOf i).toNat)
    case atStart => exact ⟨0, Nat.zero_le _, rfl, HW0⟩
    case round =>
      clear HW0
      obtain ⟨k, hk, rfl, HA⟩ := hrel
      have c0 := HCC.out wr HA.out.tch
      by_cases hlt : k < ts.length
      · have hlt' : (k : Int) < (ts.length : Int) := by omega
        have hk0 : (0 : Int) ≤ (k : Int) := by omega
        have HP := Lib.hid (HPU.out k wr hlt HA.out)
        go_wp2_with fail
        refine Calls.mono HP.out ?_
        rintro e w2 ⟨⟨u, rfl⟩, ha2⟩
        have HA2 := Lib.hid ha2
        clear ha2 HP HA
        go_wp2
        go_roundw
        case rel => exact ⟨k + 1, by omega, by go_num, HA2⟩
        case measure => simp [intOf]; omega
      · obtain rfl : k = ts.length := by omega
        have HFIN : Hid (Tch (fun b => b ∈ [g']) w wr ∧ TB wr (ts.map (res s)) (some ⟨g', 0, none⟩) c [g']) := by
          refine ⟨HA.out.tch.mono (fun b hb => by rw [hb]; simp), by rw [List.length_map]; exact HT.out.c1, HT.out.c2, HWF.out, .inr ⟨g', rfl, HA.out.gl, rfl, HA.out.fz, fun i hi => ?_⟩⟩
          rw [List.length_map] at hi
          rw [atT_map _ hi]
          exact HA.out.done i hi hi
        go_wp2
        go_end0
        exact ⟨⟨_, rfl⟩, HFIN.out⟩
/-- a literal whose lists lie in blocks of their own, no two in one -/
structure LB (w : World) (d : Nat) (x : Lit4) (p : LP) (b1 b2 b3 : List Nat) : Prop where
  kb : -128 ≤ x.k ∧ x.k ≤ 127
  rb : -128 ≤ x.rel ∧ x.rel ≤ 127
  pb : x.pr.size ≤ maxLen
  ln : x.ts.length ≤ 281474976710656
  ts : TB w x.ts p.a p.c b1
  l : EB w d x.l p.la p.lc b2
  r : EB w d x.r p.ra p.rc b3
  nd : (b1 ++ (b2 ++ b3)).Nodup
theorem LB.is {w : World} {d : Nat} {x : Lit4} {p : LP} {b1 b2 b3 : List Nat} (h : LB w d x p b1 b2 b3) : LIs w d x p := ⟨h.kb, h.rb, h.pb, h.ln, h.ts.is, h.l.eis, h.r.eis⟩
theorem LB.keep {w w' : World} {d : Nat} {x : Lit4} {p : LP} {b1 b2 b3 : List Nat} (h : LB w d x p b1 b2 b3) (hs : w.heap.size ≤ w'.heap.size) (hk : ∀ b ∈ b1 ++ (b2 ++ b3), w'.heap[b]? = w.heap[b]?) : LB w' d x p b1 b2 b3 :=
  ⟨h.kb, h.rb, h.pb, h.ln, h.ts.keep hs (fun b hb => hk b (by simp [hb])), h.l.keep hs (fun b hb => hk b (by simp [hb])), h.r.keep hs (fun b hb => hk b (by simp [hb])), h.nd⟩
theorem LB.lt {w : World} {d : Nat} {x : Lit4} {p : LP} {b1 b2 b3 : List Nat} (h : LB w d x p b1 b2 b3) : ∀ b ∈ b1 ++ (b2 ++ b3), b < w.heap.size := fun b hb => by
  rcases List.mem_append.1 hb with hb | hb
  · exact h.ts.lt b hb
  · rcases List.mem_append.1 hb with hb | hb
    · exact h.l.lt b hb
    · exact h.r.lt b hb
/-- a literal with what takes its terms' places -/
def apL (f : T → T) (d : Nat) (x : Lit4) : Lit4 := ⟨x.k, x.pr, x.ts.map f, x.rel, apD f d x.l, apD f d x.r⟩
end Go.Proofs.YtgplipfebnigiaaGreatDoor
end
section
namespace Go.Proofs.YtgplipfebnigiaaGreatDoor
open Go.RowKit Go.Maps
set_option linter.unusedVariables false
set_option linter.unusedSimpArgs false
attribute [local go_sem ↓] Go.wp_at_zero Go.wp_at_succ

/-- what a walk over a literal at a place leaves -/
structure Wq (w : World) (g o d : Nat) (x : Lit4) (p : LP) (b1 b2 b3 : List Nat) (s : List P) (w' : World) : Prop where
  tch : Tch (fun b => b = g ∨ b ∈ b1 ++ (b2 ++ b3)) w w'
  lat : LAt w' g o (apL (res s) d x) p
  oth : ∀ j, (j < o ∨ o + 16 ≤ j) → w'.cell? ⟨g, j, none⟩ = w.cell? ⟨g, j, none⟩
  frz : ∀ j, w'.frozen? ⟨g, j, none⟩ = false
  lb : LB w' d (apL (res s) d x) p b1 b2 b3
theorem app_disj {b1 b2 b3 : List Nat} (h : (b1 ++ (b2 ++ b3)).Nodup) : (∀ b, b ∈ b1 → b ∉ b2 ∧ b ∉ b3) ∧ (∀ b, b ∈ b2 → b ∉ b3) := by
  rw [List.nodup_append] at h
  obtain ⟨_, h2, h3⟩ := h
  rw [List.nodup_append] at h2
  exact ⟨fun b hb => ⟨fun hc => h3 b hb b (by simp [hc]) rfl, fun hc => h3 b hb b (by simp [hc]) rfl⟩, fun b hb hc => h2.2.2 b hb b hc rfl⟩
theorem MapT.tch {w w' : World} {bm : Nat} {s : List P} {E : Nat → Prop} (h : MapT w bm s) (t : Tch E w w') (hn : ¬ E bm) : MapT w' bm s := h.of_block (t.block bm h.lt hn)
set_option maxHeartbeats 3200000 in
set_option maxRecDepth 100000 in
theorem walkLiteralP {bm : Nat} {s : List P} (nd : (s.map P.v).Nodup) (hs : ∀ p ∈ s, p.wf) (d : Nat) (w : World) (x : Lit4) (p : LP) (g o : Nat) (b1 b2 b3 : List Nat) (hm : MapT w bm s) (hx : LAt w g o x p) (hf : ∀ j, w.frozen? ⟨g, j, none⟩ = false) (hL : LB w d x p b1 b2 b3) (hgb : g ∉ b1 ++ (b2 ++ b3)) (hmb : bm ∉ b1 ++ (b2 ++ b3)) (hmg : bm ≠ g) :
    Calls Tryz.prog 42 #[.iface 112 (.pointer (some ⟨g, o, none⟩)), putF bm] w fun e w' => (∃ u, e = .returned u) ∧ Wq w g o d x p b1 b2 b3 s w' := by
  have hg : g < w.heap.size := World.block_lt_of_cell? _ _ hx.k
  obtain ⟨dj1, dj2⟩ := app_disj hL.nd
  have g1 : g ∉ b1 := fun h => hgb (by simp [h])
  have g2 : g ∉ b2 := fun h => hgb (by simp [h])
  have g3 : g ∉ b3 := fun h => hgb (by simp [h])
  have m1 : bm ∉ b1 := fun h => hmb (by simp [h])
  have m2 : bm ∉ b2 := fun h => hmb (by simp [h])
  have m3 : bm ∉ b3 := fun h => hmb (by simp [h])
  have HA : Hid _ := walkAtomP nd hs w x.ts p.a p.c g (o + 1) b1 hm hx.ts hL.ts g1 m1 hL.ln
  have HE1 : Hid (∀ w1, Tch (fun b => b ∈ b1) w w1 → Calls Tryz.prog 42 #[.iface 117 (.pointer (some ⟨g, o + 4, none⟩)), putF bm] w1 fun e' w' => (∃ u, e' = .returned u) ∧ Wx w1 g (o + 4) d x.l p.la p.lc b2 s w') := fun w1 t1 => by
    have eg := t1.block g hg g1
    exact walkExprP nd hs d w1 x.l p.la p.lc g (o + 4) b2 (hm.tch t1 m1) (hx.l.sameC (fun j _ _ => cell_block eg j)) (fun j => (frozen_block eg j).trans (hf j)) (hL.l.keep t1.size (fun b hb => t1.block b (hL.l.lt b hb) (fun q => (dj1 b q).1 hb))) g2 m2 hmg
  have HE2 : Hid (∀ w1 w2, Tch (fun b => b ∈ b1) w w1 → Wx w1 g (o + 4) d x.l p.la p.lc b2 s w2 → Calls Tryz.prog 42 #[.iface 117 (.pointer (some ⟨g, o + 10, none⟩)), putF bm] w2 fun e' w' => (∃ u, e' = .returned u) ∧ Wx w2 g (o + 10) d x.r p.ra p.rc b3 s w') := fun w1 w2 t1 x1 => by
    have eg := t1.block g hg g1
    have hg1 : g < w1.heap.size := Nat.lt_of_lt_of_le hg t1.size
    refine walkExprP nd hs d w2 x.r p.ra p.rc g (o + 10) b3 ((hm.tch t1 m1).tch x1.tch (fun q => q.elim hmg m2)) ((hx.r.sameC (fun j _ _ => cell_block eg j)).sameC (fun j j1 _ => x1.oth j (.inr (by omega)))) x1.frz ?_ g3 m3 hmg
    have k1 := hL.r.keep t1.size (fun b hb => t1.block b (hL.r.lt b hb) (fun q => (dj1 b q).2 hb))
    exact k1.keep x1.tch.size (fun b hb => x1.tch.block b (k1.lt b hb) (fun q => q.elim (fun q => g3 (by rw [← q]; exact hb)) (fun q => dj2 b q hb)))
  have HFIN : Hid (∀ w1 w2 w3, Tch (fun b => b ∈ b1) w w1 → TB w1 (x.ts.map (res s)) p.a p.c b1 → Wx w1 g (o + 4) d x.l p.la p.lc b2 s w2 → Wx w2 g (o + 10) d x.r p.ra p.rc b3 s w3 → Wq w g o d x p b1 b2 b3 s w3) := fun w1 w2 w3 t1 tb x1 x2 => by
    have eg := t1.block g hg g1
    have q0 : ∀ j, (j < o + 5 ∨ o + 9 ≤ j) → (j < o + 11 ∨ o + 15 ≤ j) → w3.cell? ⟨g, j, none⟩ = w.cell? ⟨g, j, none⟩ := fun j h1 h2 => (x2.oth j (by omega)).trans ((x1.oth j (by omega)).trans (cell_block eg j))
    have hl2 : XAt w3 g (o + 4) x.l.op (res s x.l.t) (.slice p.la x.l.kids.length p.lc) := x1.xat.sameC (fun j _ j2 => x2.oth j (.inl (by omega)))
    have tb2 : TB w3 (x.ts.map (res s)) p.a p.c b1 := by
      have k1 := tb.keep x1.tch.size (fun b hb => x1.tch.block b (tb.lt b hb) (fun q => q.elim (fun q => g1 (by rw [← q]; exact hb)) (fun q => (dj1 b hb).1 q)))
      exact k1.keep x2.tch.size (fun b hb => x2.tch.block b (k1.lt b hb) (fun q => q.elim (fun q => g1 (by rw [← q]; exact hb)) (fun q => (dj1 b hb).2 q)))
    have el2 : EB w3 d (apD (res s) d x.l) p.la p.lc b2 := x1.eb.keep x2.tch.size (fun b hb => x2.tch.block b (x1.eb.lt b hb) (fun q => q.elim (fun q => g2 (by rw [← q]; exact hb)) (fun q => dj2 b hb q)))
    have tt : Tch (fun b => b = g ∨ b ∈ b1 ++ (b2 ++ b3)) w w3 := ((t1.mono (fun b hb => .inr (by simp [hb]))).trans (x1.tch.mono (fun b hb => hb.imp_right (fun q => by simp [q])))).trans (x2.tch.mono (fun b hb => hb.imp_right (fun q => by simp [q])))
    refine ⟨tt, ⟨?_, ?_, ?_, ?_, ?_, ?_⟩, fun j hj => q0 j (by omega) (by omega), x2.frz, ⟨hL.kb, hL.rb, hL.pb, by show (x.ts.map (res s)).length ≤ _; rw [List.length_map]; exact hL.ln, tb2, el2, x2.eb, hL.nd⟩⟩
    · rw [q0 o (by omega) (by omega)]; exact hx.k
    · rw [q0 (o + 1) (by omega) (by omega)]; exact hx.pr
    · show w3.cell? ⟨g, o + 2, none⟩ = some (.slice p.a (x.ts.map (res s)).length p.c)
      rw [q0 (o + 2) (by omega) (by omega), List.length_map]; exact hx.ts
    · rw [q0 (o + 3) (by omega) (by omega)]; exact hx.rel
    · show XAt w3 g (o + 4) (apD (res s) d x.l).op (apD (res s) d x.l).t (.slice p.la (apD (res s) d x.l).kids.length p.lc)
      rw [apD_op, apD_len, apD_t _ _ hL.l.pos]
      exact hl2
    · show XAt w3 g (o + 10) (apD (res s) d x.r).op (apD (res s) d x.r).t (.slice p.ra (apD (res s) d x.r).kids.length p.rc)
      rw [apD_op, apD_len, apD_t _ _ hL.r.pos]
      exact x2.xat
  have h1 := liRule (.pointer (some ⟨g, o, none⟩))
  have h2 := liLiteral (.pointer (some ⟨g, o, none⟩))
  unfold putF at HA HE1 HE2 ⊢
  clear dj1 dj2 g1 g2 g3 m1 m2 m3 hm hx hf hL hgb hmb hmg nd hs hg
  go_enter Tryz.func42, Tryz.ntmps42
  go_wp2_with fail
  refine Calls.mono HA.out ?_
  rintro e w1 ⟨⟨u, rfl⟩, t1, tb⟩
  go_wp2_with fail
  refine Calls.mono (HE1.out _ t1) ?_
  rintro e w2 ⟨⟨u2, rfl⟩, x1⟩
  go_wp2_with fail
  refine Calls.mono (HE2.out _ _ t1 x1) ?_
  rintro e w3 ⟨⟨u3, rfl⟩, x2⟩
  go_wp2
  go_end0
  exact ⟨⟨_, rfl⟩, HFIN.out _ _ _ t1 tb x1 x2⟩
end Go.Proofs.YtgplipfebnigiaaGreatDoor
end
