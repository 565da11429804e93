import Derived.Test.YtgfnijhhhgjabaaGreatDoorG4
import Derived.BigQuiet
import Derived.Test.YtgfnijhhhgjabaaGreatDoorG3
section
namespace Go.Proofs.YtgfnijhhhgjabaaGreatDoor
open Go.RowKit Go.Maps
set_option linter.unusedVariables false
set_option linter.unusedSimpArgs false
attribute [local go_sem ↓] Go.wp_at_zero Go.wp_at_succ

/-- one term more -/
def stepN (ns : List ByteArray) (t : ByteArray) : List ByteArray := if t = noS ∨ t = blankS ∨ inB ns t = true then ns else ns ++ [t]
theorem vsT_step (ns : List ByteArray) (t : T) (ts : List T) : vsT ns (t :: ts) = vsT (stepN ns t.v) ts := by
  unfold stepN
  rw [vsT]
  split <;> rfl
theorem stepN_len (ns : List ByteArray) (t : ByteArray) : (stepN ns t).length ≤ ns.length + 1 := by
  unfold stepN
  split <;> simp
/-- what 'variables' keeps: the variable that holds the list told (block bo), the one that holds the map (bs), the map (bm), the list's row; all of its own, from B on -/
structure Vst (B : Nat) (w0 : World) (bo bs bm : Nat) (ns : List ByteArray) (sv : Value) (w : World) : Prop where
  bel : Below B w0 w
  bz : B ≤ w.heap.size
  lo : B ≤ bo ∧ B ≤ bs ∧ B ≤ bm
  ne : bo ≠ bs ∧ bo ≠ bm ∧ bs ≠ bm
  cs : w.cell? ⟨bs, 0, none⟩ = some (.map (some bm))
  co : w.cell? ⟨bo, 0, none⟩ = some sv
  fo : w.frozen? ⟨bo, 0, none⟩ = false
  own : w.ownsRow B 9 1 sv ns.length (ns.flatMap strB)
  ap : ∀ g, sv.ownBlock = some g → g ≠ bo ∧ g ≠ bs ∧ g ≠ bm
  set : SetIs w bm ns
theorem Vst.keep {B : Nat} {w0 : World} {bo bs bm : Nat} {ns : List ByteArray} {sv : Value} {w w' : World} (h : Vst B w0 bo bs bm ns sv w) (hb : Below w.heap.size w w') : Vst B w0 bo bs bm ns sv w' :=
  ⟨h.bel.trans (hb.mono h.bz), Nat.le_trans h.bz hb.size, h.lo, h.ne, by rw [hb.cell (p := ⟨bs, 0, none⟩) (World.block_lt_of_cell? _ _ h.cs)]; exact h.cs, by rw [hb.cell (p := ⟨bo, 0, none⟩) (World.block_lt_of_cell? _ _ h.co)]; exact h.co, by rw [hb.frozen (p := ⟨bo, 0, none⟩) (World.block_lt_of_cell? _ _ h.co)]; exact h.fo, own_below h.own hb, h.ap, h.set.of_block (hb.block _ h.set.lt)⟩
theorem hand_fin {B : Nat} {w0 : World} {bo bs bm : Nat} {ns : List ByteArray} {sv sv' : Value} {w w2 w3 : World} {t : ByteArray} (h : Vst B w0 bo bs bm ns sv w) (hset : SetIs w2 bm (ns ++ [t])) (hturn : w.mapTurned w2 bm) {o : Obj}
    (hown : w3.ownsRow B 9 1 sv' (ns.length + 1) (ns.flatMap strB ++ [.string t])) (hgrow : (w2.drew.alloc o).grownBy w3 sv.ownBlock) (hloc : sv'.ownBlock = sv.ownBlock ∨ sv'.ownBlock = some (w2.drew.alloc o).heap.size) :
    Vst B w0 bo bs bm (ns ++ [t]) sv' (w3.setCell ⟨bo, 0, none⟩ sv') := by
  have gr := hturn.grown
  have hbo := World.block_lt_of_cell? _ _ h.co
  have hbs := World.block_lt_of_cell? _ _ h.cs
  have hbm := h.set.lt
  simp only at hbo hbs
  have hz : w.heap.size ≤ w2.heap.size := gr.size
  have hzd : (w2.drew.alloc o).heap.size = w2.heap.size + 1 := by simp
  have hz3 : w2.heap.size + 1 ≤ w3.heap.size := by have := hgrow.size; rw [hzd] at this; exact this
  -- blocks of w2 that are not the row's own lie so in w3
  have k3 : ∀ k, k < w2.heap.size → some k ≠ sv.ownBlock → w3.heap[k]? = w2.heap[k]? := fun k hk hn => by
    rw [hgrow.block k (by rw [hzd]; omega) hn]
    exact Below.heap_alloc w2.drew o k hk
  have k2 : ∀ k, k < w.heap.size → k ≠ bm → w2.heap[k]? = w.heap[k]? := fun k hk hn => gr.block k hk (fun e => hn (Option.some.inj e))
  have nr : ∀ k, sv.ownBlock = some k → k ≠ bo ∧ k ≠ bs ∧ k ≠ bm := h.ap
  have nbo : some bo ≠ sv.ownBlock := fun e => (nr bo e.symm).1 rfl
  have nbs : some bs ≠ sv.ownBlock := fun e => (nr bs e.symm).2.1 rfl
  have nbm : some bm ≠ sv.ownBlock := fun e => (nr bm e.symm).2.2 rfl
  have apn : ∀ g, sv'.ownBlock = some g → g ≠ bo ∧ g ≠ bs ∧ g ≠ bm := fun g hg => by
    rcases hloc with e | e
    · exact nr g (by rw [← e]; exact hg)
    · rw [e] at hg
      have := Option.some.inj hg
      rw [hzd] at this
      omega
  have hco3 : w3.cell? ⟨bo, 0, none⟩ = some sv := by
    rw [World.cell?_of_block (a := ⟨bo, 0, none⟩) (k3 bo (by omega) nbo), World.cell?_of_block (a := ⟨bo, 0, none⟩) (k2 bo hbo h.ne.2.1)]
    exact h.co
  have hfo3 : w3.frozen? ⟨bo, 0, none⟩ = false := by
    rw [World.frozen?_of_block (a := ⟨bo, 0, none⟩) (k3 bo (by omega) nbo), World.frozen?_of_block (a := ⟨bo, 0, none⟩) (k2 bo hbo h.ne.2.1)]
    exact h.fo
  refine ⟨?_, ?_, h.lo, h.ne, ?_, ?_, ?_, ?_, apn, ?_⟩
  · have b2 : Below B w0 w2 := h.bel.grown gr h.bz (fun j hj => by cases hj; exact h.lo.2.2)
    have hz2 : B ≤ w2.heap.size := Nat.le_trans h.bz hz
    have b3 : Below B w0 (w2.drew.alloc o) := b2.drew.alloc hz2 _
    have b4 : Below B w0 w3 := b3.grown hgrow (by rw [hzd]; omega) (fun j hj => (h.own.lt j hj).1)
    exact b4.setCell (p := ⟨bo, 0, none⟩) h.lo.1 _
  · have := h.bz; simp; omega
  · rw [World.cell?_of_block (a := ⟨bs, 0, none⟩) (heap_setCell_other _ _ _ _ (by show bs ≠ bo; exact Ne.symm h.ne.1)), World.cell?_of_block (a := ⟨bs, 0, none⟩) (k3 bs (by omega) nbs), World.cell?_of_block (a := ⟨bs, 0, none⟩) (k2 bs hbs h.ne.2.2)]
    exact h.cs
  · exact World.cell?_setCell_same _ _ _ hco3
  · go_simp
  · have hl : (ns ++ [t]).length = ns.length + 1 := by simp
    have hf : (ns ++ [t]).flatMap strB = ns.flatMap strB ++ [.string t] := by rw [List.flatMap_append]; rfl
    rw [hl, hf]
    exact own_of_block hown (fun g hg => heap_setCell_other _ _ _ _ (by show g ≠ bo; exact (apn g hg).1))
  · refine hset.of_block ?_
    rw [heap_setCell_other _ _ _ _ (by show bm ≠ bo; exact Ne.symm h.ne.2.1)]
    exact k3 bm (by omega) nbm
set_option maxHeartbeats 3200000 in
theorem hand_any {B : Nat} {w0 : World} {bo bs bm : Nat} {ns : List ByteArray} {sv : Value} {w : World} (h : Vst B w0 bo bs bm ns sv w) (hn : ns.length ≤ 4398046511104) (g o : Nat) (t : ByteArray) (hg : g < B) (ht : t.size ≤ maxLen) (hx : w.cell? ⟨g, o, none⟩ = some (.string t)) :
    Calls Tryz.prog 74 #[.pointer (some ⟨g, o, none⟩), .pointer (some ⟨bs, 0, none⟩), .pointer (some ⟨bo, 0, none⟩)] w fun e w' => (∃ u, e = .returned u) ∧ ∃ sv', Vst B w0 bo bs bm (stepN ns t) sv' w' := by
  obtain ⟨i0, hi0, hz0, hz1, hz2⟩ := info_parts infoStr
  obtain ⟨a, c, rfl, hlo⟩ := own_form h.own
  have c1 := h.cs
  have gw : g < w.heap.size := Nat.lt_of_lt_of_le hg h.bz
  have hba : Below w.heap.size w (w.alloc (.cells #[] 140)) := (Below.refl _ _).alloc (Nat.le_refl _) _
  have hl0 := (h.keep (Below.refl _ _).drew).set.look ht
  have hl1 := (h.keep hba.drew).set.look ht
  have HV1 : Hid (Vst B w0 bo bs bm ns (.slice a ns.length c) (w.alloc (.cells #[] 140)).drew) := h.keep hba.drew
  have c2 : (w.alloc (.cells #[] 140)).cell? ⟨bs, 0, none⟩ = some (.map (some bm)) := by rw [hba.cell (p := ⟨bs, 0, none⟩) (World.block_lt_of_cell? _ _ h.cs)]; exact h.cs
  have hx2 : (w.alloc (.cells #[] 140)).cell? ⟨g, o, none⟩ = some (.string t) := by rw [hba.cell (p := ⟨g, o, none⟩) gw]; exact hx
  have HX1 : Hid ((w.alloc (.cells #[] 140)).drew.cell? ⟨g, o, none⟩ = some (.string t)) := hx2
  clear hba
  obtain ⟨ib, hib⟩ : ∃ ib, inB ns t = ib := ⟨_, rfl⟩
  rw [hib] at hl0 hl1
  have HIB : Hid _ := hib
  clear h hib
  go_enter Tryz.func74, Tryz.ntmps74
  go_wp2_with fail
  go_region
  all_goals
    clear hl0 hl1 c1 c2 hx2 hx
    generalize (w.alloc (.cells #[] 140)).drew = W1 at HV1 HX1 ⊢
    have x1 := HX1.out
    have gw1 : g < W1.heap.size := World.block_lt_of_cell? _ _ x1
    cases ib
    · by_cases en : t = noS
      · have he : t.toList.isEmpty = true := by rw [en, ByteArray.toList_eq]; rfl
        have HST : Hid (stepN ns t = ns) := by show _ = _; unfold stepN; rw [if_pos (.inl en)]
        clear en
        go_wp2
        ((try simp only [Exit.inBlock, Exit.then]); refine bodyPost_ret (results_none rfl _ _ _) rfl ?_)
        exact ⟨⟨_, rfl⟩, _, by rw [HST.out]; exact HV1.out⟩
      · have he := some_iff t en
        by_cases eb : t = blankS
        · have hB : (t.toList == [95]) = true := by rw [eb, ByteArray.toList_eq]; rfl
          have HST : Hid (stepN ns t = ns) := by show _ = _; unfold stepN; rw [if_pos (.inr (.inl eb))]
          clear en eb
          go_wp2
          ((try simp only [Exit.inBlock, Exit.then]); refine bodyPost_ret (results_none rfl _ _ _) rfl ?_)
          exact ⟨⟨_, rfl⟩, _, by rw [HST.out]; exact HV1.out⟩
        · have hB := blank_iff eb
          have HST : Hid (stepN ns t = ns ++ [t]) := by
            show _ = _
            unfold stepN
            rw [if_neg]
            rintro (h | h | h)
            · exact en h
            · exact eb h
            · rw [HIB.out] at h; cases h
          clear en eb
          have hv2 : Vst B w0 bo bs bm ns (.slice a ns.length c) W1.drew := HV1.out.keep (Below.refl _ _).drew
          have hni : t ∉ ns := fun hm => by have := inB_iff.2 hm; rw [HIB.out] at this; cases this
          obtain ⟨w2, hput, hset, hturn⟩ := hv2.set.put ht hni
          have cs1 := hv2.cs
          have gr := hturn.grown
          have HV2 : Hid _ := hv2
          have HSET : Hid _ := hset
          have HTURN : Hid _ := hturn
          have hbo : bo < W1.drew.heap.size := World.block_lt_of_cell? _ _ hv2.co
          have co2 : w2.cell? ⟨bo, 0, none⟩ = some (.slice a ns.length c) := by rw [World.cell?_of_block (a := ⟨bo, 0, none⟩) (gr.block bo hbo (fun e => hv2.ne.2.1 (Option.some.inj e)))]; exact hv2.co
          have hbo2 : bo < w2.heap.size := Nat.lt_of_lt_of_le hbo gr.size
          have co3 : (w2.alloc (.cells #[.string t] 9)).cell? ⟨bo, 0, none⟩ = some (.slice a ns.length c) := by rw [World.cell?_of_block (a := ⟨bo, 0, none⟩) (Below.heap_alloc w2 _ bo hbo2)]; exact co2
          have fo2 : w2.frozen? ⟨bo, 0, none⟩ = false := by rw [World.frozen?_of_block (a := ⟨bo, 0, none⟩) (gr.block bo hbo (fun e => hv2.ne.2.1 (Option.some.inj e)))]; exact hv2.fo
          have x2 : w2.cell? ⟨g, o, none⟩ = some (.string t) := by
            rw [World.cell?_of_block (a := ⟨g, o, none⟩) (gr.block g gw1 (fun e => by have := Option.some.inj e; have := hv2.lo.2.2; omega))]
            exact x1
          have hz2' : B ≤ w2.heap.size := Nat.le_trans hv2.bz gr.size
          have own2 : w2.ownsRow B 9 1 (.slice a ns.length c) ns.length (ns.flatMap strB) := own_of_block hv2.own (fun k hk => gr.block k (hv2.own.lt k hk).2 (fun e => (hv2.ap k hk).2.2 (Option.some.inj e)))
          have HOWN : Hid ((w2.drew.alloc (.cells #[.string t] 9)).ownsRow B 9 1 (.slice a ns.length c) ns.length (ns.flatMap strB)) := own_of_block own2 (fun k hk => Below.heap_alloc w2.drew _ k (own2.lt k hk).2)
          have HC : Hid (∀ (j : Nat) (u : Value), ([.string t] : List Value)[j]? = some u → (w2.drew.alloc (.cells #[.string t] 9)).cell? ((⟨w2.heap.size, 0, none⟩ : Addr).add j) = some u) := lit_news w2.drew #[.string t] _
          have HSZ : Hid (B ≤ (w2.drew.alloc (.cells #[.string t] 9)).heap.size) := by show _ ≤ _; simp; omega
          have HFIN : Hid (∀ {sv' : Value} {w3 : World}, w3.ownsRow B 9 1 sv' (ns.length + 1) (ns.flatMap strB ++ [.string t]) → (w2.drew.alloc (.cells #[.string t] 9)).grownBy w3 (Value.slice a ns.length c).ownBlock → (sv'.ownBlock = (Value.slice a ns.length c).ownBlock ∨ sv'.ownBlock = some (w2.drew.alloc (.cells #[.string t] 9)).heap.size) → Vst B w0 bo bs bm (ns ++ [t]) sv' (w3.setCell ⟨bo, 0, none⟩ sv') ∧ w3.cell? ⟨bo, 0, none⟩ = some (.slice a ns.length c) ∧ w3.frozen? ⟨bo, 0, none⟩ = false) := fun h1 h2 h3 => by
            refine ⟨hand_fin HV2.out HSET.out HTURN.out h1 h2 h3, ?_, ?_⟩
            · rw [World.cell?_of_block (a := ⟨bo, 0, none⟩) (h2.block bo (by simp; omega) (fun e => (HV2.out.ap bo e.symm).1 rfl)), World.cell?_of_block (a := ⟨bo, 0, none⟩) (Below.heap_alloc w2.drew _ bo hbo2)]
              exact co2
            · rw [World.frozen?_of_block (a := ⟨bo, 0, none⟩) (h2.block bo (by simp; omega) (fun e => (HV2.out.ap bo e.symm).1 rfl)), World.frozen?_of_block (a := ⟨bo, 0, none⟩) (Below.heap_alloc w2.drew _ bo hbo2)]
              exact fo2
          clear hv2 hset hturn gr own2 hni
          go_upto_region 2 with fail
          go_region
          all_goals
            go_upto_region 3 with fail
            go_region_law (
              refine step_append_own rfl (.tmp 36) (.tmp 41) 33 rfl 9 i0 _ 1 16 Tryz.underlying33 hi0 hz0 hz1 hz2 rfl (by decide) B (.slice a ns.length c) ns.length _ (by simp [Act.eval, Act.put]) HOWN.out ⟨w2.heap.size, 0, none⟩ 1 1 [.string t] (by simp [Act.eval, Act.put]) rfl HC.out (by simp [Value.oneCell']) (by unfold maxLen; omega) (by omega) HSZ.out ?_
              intro v' w3 hown' hgrow hloc
              obtain ⟨hfin, r1, r2⟩ := HFIN.out hown' hgrow hloc
              obtain ⟨a', c', rfl, _⟩ := own_form hown'
              clear hown' hgrow hloc)
            all_goals
              go_wp2
              go_end0
              exact ⟨⟨_, rfl⟩, _, by rw [HST.out]; exact hfin⟩
    · have HST : Hid (stepN ns t = ns) := by show _ = _; unfold stepN; rw [if_pos (.inr (.inr HIB.out))]
      go_wp2
      ((try simp only [Exit.inBlock, Exit.then]); refine bodyPost_ret (results_none rfl _ _ _) rfl ?_)
      exact ⟨⟨_, rfl⟩, _, by rw [HST.out]; exact HV1.out⟩
end Go.Proofs.YtgfnijhhhgjabaaGreatDoor
end
section
namespace Go.Proofs.YtgfnijhhhgjabaaGreatDoor
open Go.RowKit Go.Maps
set_option linter.unusedVariables false
set_option linter.unusedSimpArgs false
attribute [local go_sem ↓] Go.wp_at_zero Go.wp_at_succ

theorem below_drewN {B : Nat} {a w : World} (h : Below B a w) (n : Nat) : Below B a (w.drewN n) := ⟨h.os, h.tape, h.output, h.size, h.block⟩
/-- an expression: its operation, its term, its kids -/
inductive E where
  | mk (op : Int) (t : T) (kids : List E)
def E.op : E → Int | .mk o _ _ => o
def E.t : E → T | .mk _ t _ => t
def E.kids : E → List E | .mk _ _ k => k
theorem op_mk (o : Int) (t : T) (k : List E) : (E.mk o t k).op = o := rfl
theorem t_mk (o : Int) (t : T) (k : List E) : (E.mk o t k).t = t := rfl
theorem kids_mk (o : Int) (t : T) (k : List E) : (E.mk o t k).kids = k := rfl
def E0 : E := .mk 0 T0 []
def atE (l : List E) (i : Nat) : E := l.getD i E0
theorem atE_eq {l : List E} {i : Nat} (h : i < l.length) : atE l i = l[i] := by simp [atE, List.getD, List.getElem?_eq_getElem h]

/-- how many kids an operation has -/
def kidTab : List Int := [0, 1, 2, 2, 2, 2, 2, 2, 1, 1, 1]
def kidsOf (op : Nat) : Nat := (kidTab.getD op 0).toNat
/-- is it a term that is no blank? -/
def namedB (t : T) : Bool := !decide (t.v = blankS) && termB t
/-- is it an expression as it may be, of at most room levels? -/
def exprB : Nat → E → Bool
  | 0, _ => false
  | r + 1, e => decide (0 ≤ e.op) && decide (e.op < 11) && decide (e.kids.length = kidsOf e.op.toNat) && (if e.op = 0 then namedB e.t else e.kids.all (exprB r) && decide (e.t = T0))

/-- an expression's six cells, at a place -/
structure XAt (w : World) (g o : Nat) (op : Int) (t : T) (s : Value) : Prop where
  c0 : w.cell? ⟨g, o, none⟩ = some (.int .i8 op)
  c1 : w.cell? ⟨g, o + 1, none⟩ = some (.string t.v)
  c2 : w.cell? ⟨g, o + 2, none⟩ = some (.int .i8 t.a.k)
  c3 : w.cell? ⟨g, o + 3, none⟩ = some (.int .i64 t.a.n)
  c4 : w.cell? ⟨g, o + 4, none⟩ = some (.string t.a.s)
  c5 : w.cell? ⟨g, o + 5, none⟩ = some s
theorem XAt.below {w w' : World} {g o : Nat} {op : Int} {t : T} {s : Value} (h : XAt w g o op t s) (b : Below w.heap.size w w') (hg : g < w.heap.size) : XAt w' g o op t s :=
  ⟨by rw [b.cell (p := ⟨g, o, none⟩) hg]; exact h.c0, by rw [b.cell (p := ⟨g, o + 1, none⟩) hg]; exact h.c1, by rw [b.cell (p := ⟨g, o + 2, none⟩) hg]; exact h.c2, by rw [b.cell (p := ⟨g, o + 3, none⟩) hg]; exact h.c3, by rw [b.cell (p := ⟨g, o + 4, none⟩) hg]; exact h.c4, by rw [b.cell (p := ⟨g, o + 5, none⟩) hg]; exact h.c5⟩
def valX (op : Int) (t : T) (s : Value) : Value := .agg #[.int .i8 op, .string t.v, .int .i8 t.a.k, .int .i64 t.a.n, .string t.a.s, s]

/-- an expression whose kids lie in memory, to a depth: its kids' row is at a, with room for c -/
def EIs (w : World) : Nat → E → Option Addr → Nat → Prop
  | 0, _, _, _ => False
  | d + 1, e, a, c => ((-128 ≤ e.op ∧ e.op ≤ 127) ∧ e.kids.length ≤ 281474976710656) ∧ e.t.wf ∧ e.kids.length ≤ c ∧ c ≤ maxLen ∧
    (0 < e.kids.length → ∃ g off, a = some ⟨g, off, none⟩ ∧ g < w.heap.size ∧ ∀ i, i < e.kids.length → ∃ a' c', XAt w g (off + i * 6) (atE e.kids i).op (atE e.kids i).t (.slice a' (atE e.kids i).kids.length c') ∧ EIs w d (atE e.kids i) a' c')
theorem EIs.below {w w' : World} (b : Below w.heap.size w w') : ∀ {d : Nat} {e : E} {a : Option Addr} {c : Nat}, EIs w d e a c → EIs w' d e a c
  | 0, _, _, _, h => h
  | d + 1, e, a, c, h => by
    obtain ⟨h1, h2, h3, h4, h5⟩ := h
    refine ⟨h1, h2, h3, h4, fun h0 => ?_⟩
    obtain ⟨g, off, ha, hg, hk⟩ := h5 h0
    refine ⟨g, off, ha, Nat.lt_of_lt_of_le hg b.size, fun i hi => ?_⟩
    obtain ⟨a', c', hx, he⟩ := hk i hi
    exact ⟨a', c', hx.below b hg, he.below b⟩
theorem EIs.more {w : World} : ∀ {d : Nat} {e : E} {a : Option Addr} {c : Nat}, EIs w d e a c → EIs w (d + 1) e a c
  | 0, _, _, _, h => h.elim
  | d + 1, e, a, c, h => by
    obtain ⟨h1, h2, h3, h4, h5⟩ := h
    refine ⟨h1, h2, h3, h4, fun h0 => ?_⟩
    obtain ⟨g, off, ha, hg, hk⟩ := h5 h0
    refine ⟨g, off, ha, hg, fun i hi => ?_⟩
    obtain ⟨a', c', hx, he⟩ := hk i hi
    exact ⟨a', c', hx, he.more⟩
def E.val (e : E) (a : Option Addr) (c : Nat) : Value := .agg #[.int .i8 e.op, .string e.t.v, .int .i8 e.t.a.k, .int .i64 e.t.a.n, .string e.t.a.s, .slice a e.kids.length c]

theorem allE_not {f : E → Bool} {l : List E} {k : Nat} (h : k < l.length) (hn : f (atE l k) = false) : l.all f = false := by
  rw [← Bool.not_eq_true]
  intro ha
  rw [List.all_eq_true] at ha
  rw [atE_eq h] at hn
  rw [ha _ (List.getElem_mem h)] at hn
  cases hn
theorem allE_take {f : E → Bool} {l : List E} {k : Nat} (h : k < l.length) : (l.take (k + 1)).all f = ((l.take k).all f && f (atE l k)) := by
  have e : l.take (k + 1) = l.take k ++ [l[k]] := by rw [List.take_add_one, List.getElem?_eq_getElem h]; rfl
  rw [e, List.all_append, atE_eq h]
  simp

/-- the table of the numbers of kids lies at its place -/
structure KT (w : World) : Prop where
  lt : 0 < w.heap.size
  cell : ∀ i : Nat, i < 11 → w.cell? ⟨0, i, none⟩ = some (.int .i64 (kidsOf i : Int))
theorem KT.below {w w' : World} (t : KT w) (h : Below w.heap.size w w') : KT w' :=
  ⟨Nat.lt_of_lt_of_le t.lt h.size, fun i hi => by rw [h.cell (p := ⟨_, i, none⟩) t.lt]; exact t.cell i hi⟩

theorem run_eqT (t u : T) (w : World) :
    (binOp .eql 44 (.agg #[.string t.v, .int .i8 t.a.k, .int .i64 t.a.n, .string t.a.s]) (.agg #[.string u.v, .int .i8 u.a.k, .int .i64 u.a.n, .string u.a.s])).run Tryz.prog w = .ok (.bool (decide (t = u))) w := by
  obtain ⟨tv, k1, n1, s1⟩ := t
  obtain ⟨uv, k2, n2, s2⟩ := u
  dsimp only
  by_cases hv : tv.toList = uv.toList
  · have ev := toList_inj hv
    subst ev
    by_cases hk : k1 = k2
    · by_cases hn : n1 = n2
      · by_cases hs : s1.toList = s2.toList
        · have := toList_inj hs
          subst hk hn this
          go_simp
        · have e : decide ((⟨tv, k1, n1, s1⟩ : T) = ⟨tv, k2, n2, s2⟩) = false := decide_eq_false (fun h => hs (by cases h; rfl))
          rw [e]
          go_simp
      · have e : decide ((⟨tv, k1, n1, s1⟩ : T) = ⟨tv, k2, n2, s2⟩) = false := decide_eq_false (fun h => hn (by cases h; rfl))
        rw [e]
        go_simp
    · have e : decide ((⟨tv, k1, n1, s1⟩ : T) = ⟨tv, k2, n2, s2⟩) = false := decide_eq_false (fun h => hk (by cases h; rfl))
      rw [e]
      go_simp
  · have e : decide ((⟨tv, k1, n1, s1⟩ : T) = ⟨uv, k2, n2, s2⟩) = false := decide_eq_false (fun h => hv (by cases h; rfl))
    rw [e]
    go_simp

theorem isNamed_any (t : T) (w : World) (ht : t.wf) : Calls Tryz.prog 75 #[t.val] w fun e w' => e = .returned (.bool (namedB t)) ∧ Below w.heap.size w w' := by
  have hN : Hid (namedB t = (!decide (t.v = blankS) && termB t)) := rfl
  have ht' := ht
  obtain ⟨tv, k, n, s⟩ := t
  unfold T.val
  dsimp only at *
  by_cases eb : tv = blankS
  · have HF : Hid (namedB ⟨tv, k, n, s⟩ = false) := by show _ = _; rw [hN.out]; simp [eb]
    subst eb
    unfold blankS at *
    go_enter Tryz.func75, Tryz.ntmps75
    go_wp2
    go_ret
    exact ⟨ret_bool HF.out.symm, ((Below.refl _ _).alloc (Nat.le_refl _) _)⟩
  · have hb0 := blank_iff eb
    have HF : Hid (namedB ⟨tv, k, n, s⟩ = termB ⟨tv, k, n, s⟩) := by show _ = _; rw [hN.out]; simp [eb]
    clear hN eb
    go_enter Tryz.func75, Tryz.ntmps75
    go_wp2_with (go_at_call 97; refine (isTerm_any ⟨tv, k, n, s⟩ _ ht').mono ?_; rintro e w1 ⟨rfl, b1⟩)
    go_ret
    exact ⟨ret_bool HF.out.symm, ((Below.refl _ _).alloc (Nat.le_refl _) _).trans (b1.mono (by simp))⟩

theorem exprB_no {r : Nat} {e : E} (h : ¬ (0 ≤ e.op ∧ e.op < 11 ∧ e.kids.length = kidsOf e.op.toNat)) : exprB (r + 1) e = false := by
  unfold exprB
  by_cases h1 : 0 ≤ e.op
  · by_cases h2 : e.op < 11
    · have h3 : ¬ e.kids.length = kidsOf e.op.toNat := fun h3 => h ⟨h1, h2, h3⟩
      rw [decide_eq_false h3]; simp
    · rw [decide_eq_false h2]; simp
  · rw [decide_eq_false h1]; simp
theorem exprB_leaf {r : Nat} {e : E} (h1 : e.op = 0) (h2 : e.kids.length = 0) : exprB (r + 1) e = namedB e.t := by
  unfold exprB
  rw [h1, if_pos rfl, h2]
  simp [kidsOf, kidTab]
theorem exprB_kids {r : Nat} {e : E} (h0 : 0 ≤ e.op) (h1 : e.op < 11) (h2 : e.kids.length = kidsOf e.op.toNat) (h3 : ¬ e.op = 0) : exprB (r + 1) e = (e.kids.all (exprB r) && decide (e.t = T0)) := by
  unfold exprB
  rw [if_neg h3, decide_eq_true h0, decide_eq_true h1, decide_eq_true h2]
  simp
set_option maxHeartbeats 3200000 in
theorem isExpr_any : ∀ (room : Nat) (d : Nat) (e : E) (a : Option Addr) (c : Nat) (w : World), room ≤ 1000 → KT w → EIs w d e a c →
    Calls Tryz.prog 47 #[e.val a c, .int .i64 room] w fun r w' => r = .returned (.bool (exprB room e)) ∧ Below w.heap.size w w' := by
  intro room
  induction room with
  | zero =>
    intro d e a c w hr hT hE
    have HF : Hid (exprB 0 e = false) := rfl
    unfold E.val
    go_enter Tryz.func47, Tryz.ntmps47
    go_wp2_with fail
    go_quiet (fail)
    go_wp2
    go_ret
    exact ⟨ret_bool HF.out.symm, below_drewN ((Below.refl _ _).alloc (Nat.le_refl _) _) _⟩
  | succ r ih =>
    intro d e a c w hr hT hE
    cases d with
    | zero => exact hE.elim
    | succ d =>
    obtain ⟨hop, htw, hc1, hc2, hk⟩ := hE
    obtain ⟨m, hm⟩ : ∃ m : Nat, r + 1 = m := ⟨_, rfl⟩
    have hm1 : ((m : Int) == 0) = false := by rw [beq_eq_false_iff_ne]; omega
    have hmr : (m : Int) - 1 = (r : Int) := by omega
    have hrw : IntKind.i64.wrap (r : Int) = (r : Int) := by simp [IntKind.wrap, IntKind.bits, IntKind.signed]; omega
    have HNO : Hid (¬ (0 ≤ e.op ∧ e.op < 11 ∧ e.kids.length = kidsOf e.op.toNat) → exprB m e = false) := by rw [← hm]; exact exprB_no
    have HLE : Hid (e.op = 0 → e.kids.length = 0 → exprB m e = namedB e.t) := by rw [← hm]; exact exprB_leaf
    have HKI : Hid (0 ≤ e.op → e.op < 11 → e.kids.length = kidsOf e.op.toNat → ¬ e.op = 0 → exprB m e = (e.kids.all (exprB r) && decide (e.t = T0))) := by rw [← hm]; exact exprB_kids
    have IH : Hid _ := ih
    clear ih
    rw [hm]
    have hlen : e.kids.length ≤ maxLen := Nat.le_trans hc1 hc2
    unfold maxLen at hlen
    have HR : Hid (r ≤ 1000) := by show r ≤ 1000; omega
    clear hm hr
    obtain ⟨op, t, kids⟩ := e
    unfold E.val
    simp only [op_mk, t_mk, kids_mk] at *
    have HK : Hid _ := hk
    clear hk
    by_cases h0 : op < 0
    · have HF : Hid (exprB m (.mk op t kids) = false) := HNO.out (by omega)
      go_enter Tryz.func47, Tryz.ntmps47
      go_wp2_with fail
      go_quiet (fail)
      go_wp2
      go_ret
      exact ⟨ret_bool HF.out.symm, below_drewN ((Below.refl _ _).alloc (Nat.le_refl _) _) _⟩
    · by_cases h11 : 11 ≤ op
      · have HF : Hid (exprB m (.mk op t kids) = false) := HNO.out (by omega)
        have d0 : decide (op < 0) = false := decide_eq_false h0
        have d1 : IntKind.i64.wrap op = op := by simp [IntKind.wrap, IntKind.bits, IntKind.signed]; omega
        have d2 : decide (11 ≤ op) = true := decide_eq_true h11
        clear h0 h11
        go_enter Tryz.func47, Tryz.ntmps47
        go_wp2_with fail
        go_quiet (fail)
        go_wp2
        go_ret
        exact ⟨ret_bool HF.out.symm, below_drewN ((Below.refl _ _).alloc (Nat.le_refl _) _) _⟩
      · obtain ⟨p, rfl⟩ : ∃ p : Nat, op = p := ⟨op.toNat, by omega⟩
        have hp11 : p < 11 := by omega
        have hp11' : (p : Int) < 11 := by omega
        have d0 : decide ((p : Int) < 0) = false := decide_eq_false h0
        have d1 : IntKind.i64.wrap (p : Int) = (p : Int) := by simp [IntKind.wrap, IntKind.bits, IntKind.signed]; omega
        have d2 : decide (11 ≤ (p : Int)) = false := decide_eq_false h11
        clear h0 h11
        have BA := (Below.refl w.heap.size w).alloc (Nat.le_refl _) (.cells #[.int .i8 (p : Int), .string t.v, .int .i8 t.a.k, .int .i64 t.a.n, .string t.a.s, .slice a kids.length c] 53)
        have ct := (hT.below BA).cell p hp11
        by_cases hkn : kids.length = kidsOf p
        · have hkn' : ((kids.length : Int) != (kidsOf p : Int)) = false := by rw [hkn]; simp
          have HXB : Hid (∀ n, XAt ((w.alloc (.cells #[.int .i8 (p : Int), .string t.v, .int .i8 t.a.k, .int .i64 t.a.n, .string t.a.s, .slice a kids.length c] 53)).drewN n) w.heap.size 0 p t (.slice a kids.length c) ∧ Below w.heap.size w ((w.alloc (.cells #[.int .i8 (p : Int), .string t.v, .int .i8 t.a.k, .int .i64 t.a.n, .string t.a.s, .slice a kids.length c] 53)).drewN n)) := fun n => ⟨⟨by go_simp, by go_simp, by go_simp, by go_simp, by go_simp, by go_simp⟩, below_drewN BA n⟩
          by_cases hp0 : p = 0
          · have HF : Hid (exprB m (.mk p t kids) = namedB t) := HLE.out (by omega) (by rw [hkn, hp0]; rfl)
            have dp : ((p : Int) == 0) = true := by rw [hp0]; rfl
            clear BA HNO HLE HKI IH HK hkn hT hp0
            generalize kidsOf p = q at ct hkn'
            go_enter Tryz.func47, Tryz.ntmps47
            go_wp2_with fail
            go_quiet (fail)
            obtain ⟨hX, hB⟩ := HXB.out nq
            clear HXB ct
            generalize World.drewN _ nq = W at hX hB ⊢
            obtain ⟨x0, x1, x2, x3, x4, x5⟩ := hX
            go_wp2_with (go_at_call 75; refine (isNamed_any t _ htw).mono ?_; rintro e w1 ⟨rfl, b1⟩)
            go_ret
            exact ⟨ret_bool HF.out.symm, hB.trans (b1.mono hB.size)⟩
          · have HF : Hid (exprB m (.mk p t kids) = (kids.all (exprB r) && decide (t = T0))) := HKI.out (by omega) (by omega) (by rw [Int.toNat_natCast]; exact hkn) (by omega)
            have dp : ((p : Int) == 0) = false := by rw [beq_eq_false_iff_ne]; omega
            have hE := run_eqT t T0
            unfold T0 V0 noS at hE
            dsimp only at hE
            have HE : Hid (decide (t = T0) = decide (t = ⟨⟨#[]⟩, ⟨0, 0, ⟨#[]⟩⟩⟩)) := rfl
            clear BA HNO HLE HKI hkn hp0
            generalize kidsOf p = q at ct hkn'
            go_enter Tryz.func47, Tryz.ntmps47
            go_wp2_with fail
            go_quiet (fail)
            obtain ⟨hX, hB⟩ := HXB.out nq
            clear HXB ct
            generalize World.drewN _ nq = W at hX hB ⊢
            have hWlt : w.heap.size < W.heap.size := World.block_lt_of_cell? _ _ hX.c0
            have x0 := hX.c0
            have x5 := hX.c5
            simp only [Nat.zero_add] at x5
            have HX : Hid _ := hX
            clear hX
            go_wp2
            go_loopw [39] (fun i wr => ∃ k : Nat, k ≤ kids.length ∧ i = .int .i64 k ∧ Below W.heap.size W wr ∧ Hid ((kids.take k).all (exprB r) = true)) (fun i _ => kids.length - (intOf i).toNat)
            case atStart => exact ⟨0, Nat.zero_le _, rfl, Below.refl _ _, by simp [Hid]⟩
            case round =>
              obtain ⟨k, hk, rfl, bel, HS⟩ := hrel
              have belw : Below w.heap.size w wr := hB.trans (bel.mono hB.size)
              by_cases hlt : k < kids.length
              · have hlt' : (k : Int) < (kids.length : Int) := by omega
                obtain ⟨g, off, rfl, hg, hKS⟩ := HK.out (by omega)
                obtain ⟨a', c', hx, he⟩ := hKS k hlt
                obtain ⟨y0, y1, y2, y3, y4, y5⟩ := hx.below belw hg
                have he' := he.below belw
                have HN : Hid (exprB r (atE kids k) = false → exprB m (.mk p t kids) = false) := fun h => by rw [HF.out, allE_not hlt h]; rfl
                have HY : Hid (exprB r (atE kids k) = true → (kids.take (k + 1)).all (exprB r) = true) := fun h => by rw [allE_take hlt, HS.out, h]; rfl
                generalize atE kids k = x at y0 y1 y2 y3 y4 y5 he' HN HY
                have HEI : Hid _ := he'
                clear hKS hx he he' x0 x5
                have belA := (Below.refl wr.heap.size wr).alloc (Nat.le_refl _) (.cells #[.int .i8 x.op, .string x.t.v, .int .i8 x.t.a.k, .int .i64 x.t.a.n, .string x.t.a.s, .slice a' x.kids.length c'] 53)
                go_wp2_with fail
                refine (IH.out d x a' c' _ HR.out (hT.below (belw.trans (belA.mono belw.size))) (HEI.out.below belA)).mono ?_
                rintro ee w2 ⟨rfl, b2⟩
                have b2' := bel.trans ((belA.trans (b2.mono belA.size)).mono bel.size)
                cases ht : exprB r x
                · go_wp2
                  go_ret
                  exact ⟨ret_bool (HN.out ht).symm, hB.trans (b2'.mono hB.size)⟩
                · go_wp2
                  go_roundw
                  case rel => exact ⟨k + 1, by omega, by go_num, b2', HY.out ht⟩
                  case measure => simp [intOf]; omega
              · obtain rfl : k = kids.length := by omega
                obtain ⟨z0, z1, z2, z3, z4, z5⟩ := HX.out.below bel hWlt
                go_wp2
                go_ret
                have hs := HS.out
                rw [List.take_length] at hs
                exact ⟨ret_bool (by rw [HF.out, ← HE.out, hs]; rfl), belw⟩
        · have HF : Hid (exprB m (.mk p t kids) = false) := HNO.out (by rw [Int.toNat_natCast]; omega)
          have hkn' : ((kids.length : Int) != (kidsOf p : Int)) = true := by rw [bne_iff_ne]; omega
          clear BA HNO HLE HKI IH HK hkn
          generalize kidsOf p = q at ct hkn'
          go_enter Tryz.func47, Tryz.ntmps47
          go_wp2_with fail
          go_quiet (fail)
          go_wp2
          go_ret
          exact ⟨ret_bool HF.out.symm, below_drewN ((Below.refl _ _).alloc (Nat.le_refl _) _) _⟩
end Go.Proofs.YtgfnijhhhgjabaaGreatDoor
end
