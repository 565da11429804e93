import Derived.Test.YteabclfhmapabaaGreatDoorA26
import Derived.Deep.Upon
import Derived.OwnWalk
import Derived.Lib.Hide
import Derived.Test.YteabclfhmapabaaGreatDoorA5
import Derived.Laws.IdiomCopy
import Derived.Test.YteabclfhmapabaaGreatDoorA4
section
namespace Go.Proofs.YteabclfhmapabaaGreatDoor
open Go.RowKit Go.Maps
set_option linter.unusedVariables false
set_option linter.unusedSimpArgs false
attribute [local go_sem ↓] Go.wp_at_zero Go.wp_at_succ

/-- a pair that may be told: its variable is a name, and is not told yet -/
def stepF (acc : List P) (p : P) : List P := if p.v = noS ∨ p.v = blankS ∨ acc.any (fun q => decide (q.v = p.v)) = true then acc else acc ++ [p]
/-- the pairs that count: of each variable the first -/
def fstP (s : List P) : List P := s.foldl stepF []
theorem fstP_snoc (s : List P) (p : P) : fstP (s ++ [p]) = stepF (fstP s) p := by simp [fstP]
structure Okp (acc : List P) : Prop where
  nd : (acc.map P.v).Nodup
  nk : ∀ p ∈ acc, p.v ≠ noS ∧ p.v ≠ blankS
theorem stepF_ok {acc : List P} (h : Okp acc) (p : P) : Okp (stepF acc p) := by
  unfold stepF
  split
  · exact h
  · next hn =>
    simp only [not_or, Bool.not_eq_true] at hn
    obtain ⟨h1, h2, h3⟩ := hn
    refine ⟨?_, fun q hq => ?_⟩
    · rw [List.map_append, List.nodup_append]
      refine ⟨h.nd, by simp, fun a ha b hb => ?_⟩
      obtain ⟨q, hq, rfl⟩ := List.mem_map.1 ha
      simp at hb
      subst hb
      intro e
      have := List.any_eq_false.1 h3 q hq
      simp [e] at this
    · rcases List.mem_append.1 hq with hq | hq
      · exact h.nk q hq
      · rw [List.mem_singleton.1 hq]; exact ⟨h1, h2⟩
theorem fold_ok : ∀ (s acc : List P), Okp acc → Okp (s.foldl stepF acc)
  | [], acc, h => h
  | p :: r, acc, h => fold_ok r _ (stepF_ok h p)
theorem fstP_ok (s : List P) : Okp (fstP s) := fold_ok s [] ⟨List.nodup_nil, fun p hp => by cases hp⟩
theorem fold_find {n : ByteArray} (h1 : n ≠ noS) (h2 : n ≠ blankS) : ∀ (s acc : List P), (s.foldl stepF acc).find? (fun p => decide (p.v = n)) = (acc.find? (fun p => decide (p.v = n))).or (s.find? (fun p => decide (p.v = n)))
  | [], acc => by simp
  | p :: r, acc => by
    rw [List.foldl_cons, fold_find h1 h2 r (stepF acc p)]
    unfold stepF
    by_cases e : p.v = n
    · subst e
      cases ha : acc.find? (fun q => decide (q.v = p.v)) with
      | some q =>
        have : acc.any (fun q => decide (q.v = p.v)) = true := List.any_eq_true.2 ⟨q, List.mem_of_find?_eq_some ha, by simpa using List.find?_some ha⟩
        rw [if_pos (.inr (.inr this)), ha]
        rfl
      | none =>
        have : acc.any (fun q => decide (q.v = p.v)) = false := List.any_eq_false.2 (fun q hq => by simpa using List.find?_eq_none.1 ha q hq)
        rw [if_neg (fun h => by rcases h with h | h | h; exact h1 h; exact h2 h; rw [this] at h; cases h), List.find?_append, ha]
        simp
    · have e' : decide (p.v = n) = false := decide_eq_false e
      split
      · simp [List.find?_cons, e']
      · rw [List.find?_append]
        simp [List.find?_cons, e']
theorem res_fstP (s : List P) (t : T) : res (fstP s) t = putT s t := by
  unfold putT
  by_cases h : t.v = noS ∨ t.v = blankS
  · rw [if_pos h]
    unfold res
    have : (fstP s).find? (fun p => decide (p.v = t.v)) = none := List.find?_eq_none.2 (fun p hp => by
      have := (fstP_ok s).nk p hp
      simp only [decide_eq_true_eq]
      intro e
      rcases h with h | h
      · exact this.1 (e.trans h)
      · exact this.2 (e.trans h))
    rw [this]
  · simp only [not_or] at h
    rw [if_neg (fun q => q.elim h.1 h.2)]
    unfold res fstP
    rw [fold_find h.1 h.2 s []]
    simp
theorem fstP_mem {s : List P} : ∀ p ∈ fstP s, p ∈ s := by
  have key : ∀ (s acc : List P), ∀ p ∈ s.foldl stepF acc, p ∈ acc ∨ p ∈ s := by
    intro s
    induction s with
    | nil => intro acc p hp; exact .inl hp
    | cons x r ih =>
      intro acc p hp
      rw [List.foldl_cons] at hp
      rcases ih _ p hp with h | h
      · unfold stepF at h
        split at h
        · exact .inl h
        · rcases List.mem_append.1 h with h | h
          · exact .inl h
          · rw [List.mem_singleton.1 h]; exact .inr (by simp)
      · exact .inr (List.mem_cons_of_mem _ h)
  intro p hp
  rcases key s [] p hp with h | h
  · cases h
  · exact h
theorem lookP_yes {s : List P} {n : ByteArray} (h : s.any (fun q => decide (q.v = n)) = true) : ∃ q : P, lookP s n = .tuple #[.agg #[.string q.t.v, .int .i8 q.t.a.k, .int .i64 q.t.a.n, .string q.t.a.s], .bool true] := by
  unfold lookP
  cases hf : s.find? (fun p => decide (p.v = n)) with
  | some q => exact ⟨q, rfl⟩
  | none =>
    obtain ⟨q, hq, e⟩ := List.any_eq_true.1 h
    exact absurd e (List.find?_eq_none.1 hf q hq)
theorem run_makePl (u : World) : (Instr.makeMap 98 none).run Tryz.prog u = .ok (.map (some u.heap.size)) (u.alloc (.map #[] 0)) := by kernel_rfl
set_option maxHeartbeats 3200000 in
set_option maxRecDepth 100000 in
theorem placesOf_all (v : Value) (s : List P) (w : World) (hl : Lp w v s) (hlen : s.length ≤ 1048576) : Calls Tryz.prog 36 #[v] w fun e w' => e = .returned (.map (some w.heap.size)) ∧ MapT w' w.heap.size (fstP s) ∧ Below w.heap.size w w' := by
  obtain ⟨a, c, rfl, hc1, hc2, hat⟩ := hl.form
  have HAT := Lib.hid hat
  have HWF := Lib.hid hl.wf
  have HM0 := Lib.hid (MapT.made w)
  have HB0 := Lib.hid ((Below.refl w.heap.size w).alloc (Nat.le_refl _) (.map #[] 0))
  have hmm := run_makePl w
  clear hat hl
  go_enter Tryz.func36, Tryz.ntmps36
  go_wp2
  go_loopw [11] (fun i wr => ∃ k : Nat, k ≤ s.length ∧ i = .int .i64 k ∧ Hid (Below w.heap.size w wr ∧ MapT wr w.heap.size (fstP (s.take k)))) (fun i _ => s.length - (intOf i).toNat)
  case atStart => exact ⟨0, Nat.zero_le _, rfl, HB0.out, by rw [List.take_zero]; exact HM0.out⟩
  case round =>
    obtain ⟨k, hk, rfl, HI⟩ := hrel
    clear HM0 HB0
    by_cases hlt : k < s.length
    · have hlt' : (k : Int) < (s.length : Int) := by omega
      obtain ⟨g, off, rfl, hg, hP⟩ := HAT.out (by omega)
      have hgw : g < wr.heap.size := Nat.lt_of_lt_of_le hg HI.out.1.size
      have hpa := hP k hlt
      have hpw := HWF.out (atP s k) (by rw [atP_eq hlt]; exact List.getElem_mem _)
      have htk : fstP (s.take (k + 1)) = stepF (fstP (s.take k)) (atP s k) := by rw [← fstP_snoc, List.take_add_one, List.getElem?_eq_getElem hlt, atP_eq hlt]; rfl
      have HOK := Lib.hid (fstP_ok (s.take k))
      generalize fstP (s.take k) = acc at HI htk HOK
      generalize atP s k = p at hpa hpw htk
      obtain ⟨pv, tv, ak, an, sx⟩ := p
      have HPW := Lib.hid hpw
      have x0 : wr.cell? ⟨g, off + k * 5, none⟩ = some (.string pv) := by rw [HI.out.1.cell (p := ⟨g, off + k * 5, none⟩) hg]; exact hpa.c0
      have x1 : wr.cell? ⟨g, off + k * 5 + 1, none⟩ = some (.string tv) := by rw [HI.out.1.cell (p := ⟨g, off + k * 5 + 1, none⟩) hg]; exact hpa.c1
      have x2 : wr.cell? ⟨g, off + k * 5 + 2, none⟩ = some (.int .i8 ak) := by rw [HI.out.1.cell (p := ⟨g, off + k * 5 + 2, none⟩) hg]; exact hpa.c2
      have x3 : wr.cell? ⟨g, off + k * 5 + 3, none⟩ = some (.int .i64 an) := by rw [HI.out.1.cell (p := ⟨g, off + k * 5 + 3, none⟩) hg]; exact hpa.c3
      have x4 : wr.cell? ⟨g, off + k * 5 + 4, none⟩ = some (.string sx) := by rw [HI.out.1.cell (p := ⟨g, off + k * 5 + 4, none⟩) hg]; exact hpa.c4
      have hk0 : (0 : Int) ≤ (k : Int) := by omega
      have ha1 : Below wr.heap.size wr (wr.alloc (.cells #[.string pv, .string tv, .int .i8 ak, .int .i64 an, .string sx] 149)) := (Below.refl _ _).alloc (Nat.le_refl _) _
      have HR1 := Lib.hid (rl_new wr #[.string pv, .string tv, .int .i8 ak, .int .i64 an, .string sx] 149)
      have HM1 := Lib.hid (HI.out.2.below ha1)
      have b1 := HI.out.1.trans (ha1.mono HI.out.1.size)
      have HTK := Lib.hid htk
      clear HI hpa hpw htk ha1 hg hP
      go_upto_region 5 with fail
      generalize wr.alloc (.cells #[.string pv, .string tv, .int .i8 ak, .int .i64 an, .string sx] 149) = W1 at HR1 HM1 b1 ⊢
      clear x0 x1 x2 x3 x4
      have y0 := HR1.out.at (j := 0) rfl
      have hlk := HM1.out.look (n := pv) HOK.out.nd HPW.out.text
      by_cases hany : acc.any (fun q => decide (q.v = pv)) = true
      · obtain ⟨q, hq⟩ := lookP_yes hany
        rw [hq] at hlk
        have hst : fstP (s.take (k + 1)) = acc := by rw [HTK.out]; unfold stepF; rw [if_pos (.inr (.inr hany))]
        have ha2 : Below W1.heap.size W1 (W1.alloc (.cells #[.string q.t.v, .int .i8 q.t.a.k, .int .i64 q.t.a.n, .string q.t.a.s] 48)) := (Below.refl _ _).alloc (Nat.le_refl _) _
        have HN : Hid (Below w.heap.size w (W1.alloc (.cells #[.string q.t.v, .int .i8 q.t.a.k, .int .i64 q.t.a.n, .string q.t.a.s] 48)) ∧ MapT (W1.alloc (.cells #[.string q.t.v, .int .i8 q.t.a.k, .int .i64 q.t.a.n, .string q.t.a.s] 48)) w.heap.size (fstP (s.take (k + 1)))) := ⟨b1.trans (ha2.mono b1.size), by rw [hst]; exact HM1.out.below ha2⟩
        clear hst hq hany HTK HR1 HM1 b1 ha2
        generalize q.t.v = qv at hlk HN
        generalize q.t.a.k = qk at hlk HN
        generalize q.t.a.n = qn at hlk HN
        generalize q.t.a.s = qs at hlk HN
        go_wp2
        go_roundw
        case rel => exact ⟨k + 1, by omega, by go_num, HN⟩
        case measure => simp [intOf]; omega
      · have hfr : ∀ q ∈ acc, q.v ≠ pv := fun q hq e => hany (List.any_eq_true.2 ⟨q, hq, by simpa using e⟩)
        rw [lookP_no hfr] at hlk
        have HFR := Lib.hid hfr
        have ha2 : Below W1.heap.size W1 (W1.alloc (.cells #[.string ⟨#[]⟩, .int .i8 0, .int .i64 0, .string ⟨#[]⟩] 48)) := (Below.refl _ _).alloc (Nat.le_refl _) _
        have HR2 := Lib.hid (HR1.out.below ha2)
        have HM2 := Lib.hid (HM1.out.below ha2)
        have b2 := b1.trans (ha2.mono b1.size)
        have HAN := Lib.hid hany
        clear HR1 HM1 b1 ha2 hfr hany
        go_upto_region 6 with fail
        generalize W1.alloc (.cells #[.string ⟨#[]⟩, .int .i8 0, .int .i64 0, .string ⟨#[]⟩] 48) = W2 at HR2 HM2 b2 ⊢
        clear hlk y0
        have y0 := HR2.out.at (j := 0) rfl
        by_cases e0 : pv = noS
        · have he : pv.toList.isEmpty = true := by rw [e0, ByteArray.toList_eq]; rfl
          have HN : Hid (Below w.heap.size w W2 ∧ MapT W2 w.heap.size (fstP (s.take (k + 1)))) := ⟨b2, by rw [HTK.out]; unfold stepF; rw [if_pos (.inl e0)]; exact HM2.out⟩
          clear HR2 HM2 HTK HFR b2 HPW HAN e0
          go_wp2
          go_roundw
          case rel => exact ⟨k + 1, by omega, by go_num, HN⟩
          case measure => simp [intOf]; omega
        · have he := some_iff pv e0
          by_cases eb : pv = blankS
          · have hbk : (pv.toList == [95]) = true := by rw [eb, ByteArray.toList_eq]; rfl
            have HN : Hid (Below w.heap.size w W2 ∧ MapT W2 w.heap.size (fstP (s.take (k + 1)))) := ⟨b2, by rw [HTK.out]; unfold stepF; rw [if_pos (.inr (.inl eb))]; exact HM2.out⟩
            clear HR2 HM2 HTK HFR b2 HPW HAN e0 eb
            go_wp2
            go_roundw
            case rel => exact ⟨k + 1, by omega, by go_num, HN⟩
            case measure => simp [intOf]; omega
          · have hbk := blank_iff eb
            have hst : fstP (s.take (k + 1)) = acc ++ [⟨pv, tv, ak, an, sx⟩] := by rw [HTK.out]; unfold stepF; rw [if_neg (fun h => by rcases h with h | h | h; exact e0 h; exact eb h; exact HAN.out h)]
            have y1 := HR2.out.at (j := 1) rfl
            have y2 := HR2.out.at (j := 2) rfl
            have y3 := HR2.out.at (j := 3) rfl
            have y4 := HR2.out.at (j := 4) rfl
            obtain ⟨w3, hput, hm3, ht3⟩ := HM2.out.put (p := ⟨pv, tv, ak, an, sx⟩) HPW.out.text HFR.out
            have hput' : (Instr.mapUpdate 98 (.map (some w.heap.size)) (.string pv) (.agg #[.string tv, .int .i8 ak, .int .i64 an, .string sx])).run Tryz.prog W2 = .ok () w3 := hput
            have HN : Hid (Below w.heap.size w w3 ∧ MapT w3 w.heap.size (fstP (s.take (k + 1)))) := ⟨b2.grown ht3.grown b2.size (fun j hj => by cases hj; exact Nat.le_refl _), by rw [hst]; exact hm3⟩
            clear hput hm3 ht3 HR2 HM2 HTK HFR b2 HPW HAN e0 eb hst
            go_wp2
            go_roundw
            case rel => exact ⟨k + 1, by omega, by go_num, HN⟩
            case measure => simp [intOf]; omega
    · obtain rfl : k = s.length := by omega
      have HM := Lib.hid HI.out.2
      rw [List.take_length] at HM
      have HB := Lib.hid HI.out.1
      clear HI
      go_wp2
      go_ret
      exact ⟨rfl, HM.out, HB.out⟩
end Go.Proofs.YteabclfhmapabaaGreatDoor
end
section
namespace Go.Proofs.YteabclfhmapabaaGreatDoor
open Go.RowKit Go.Maps
set_option linter.unusedVariables false
set_option linter.unusedSimpArgs false
attribute [local go_sem ↓] Go.wp_at_zero Go.wp_at_succ

/-- a term is put down at a place: its four cells turn, nothing else that was there -/
structure Pt (w : World) (g o : Nat) (t : T) (w' : World) : Prop where
  os : w'.os = w.os
  tape : w'.tape = w.tape
  output : w'.output = w.output
  size : w.heap.size ≤ w'.heap.size
  blk : ∀ b, b < w.heap.size → b ≠ g → w'.heap[b]? = w.heap[b]?
  term : TAt w' g o t
  oth : ∀ j, (j < o ∨ o + 4 ≤ j) → w'.cell? ⟨g, j, none⟩ = w.cell? ⟨g, j, none⟩
  frz : ∀ j, w'.frozen? ⟨g, j, none⟩ = w.frozen? ⟨g, j, none⟩
theorem Pt.same {w w' : World} {g o : Nat} {t : T} (hb : Below w.heap.size w w') (ht : TAt w g o t) (hg : g < w.heap.size) : Pt w g o t w' :=
  ⟨hb.os, hb.tape, hb.output, hb.size, fun b h _ => hb.block b h, ht.below hb hg, fun j _ => hb.cell (p := ⟨g, j, none⟩) hg, fun j => hb.frozen (p := ⟨g, j, none⟩) hg⟩
theorem Pt.store {w w' : World} {g o : Nat} {u t0 : T} (hb : Below w.heap.size w w') (ht : TAt w g o t0) (hg : g < w.heap.size)
    (hfr : ∀ j, ((((w'.setCell ⟨g, o, none⟩ (.string u.v)).setCell ⟨g, o + 1, none⟩ (.int .i8 u.a.k)).setCell ⟨g, o + 2, none⟩ (.int .i64 u.a.n)).setCell ⟨g, o + 3, none⟩ (.string u.a.s)).frozen? ⟨g, j, none⟩ = w'.frozen? ⟨g, j, none⟩) :
    Pt w g o u ((((w'.setCell ⟨g, o, none⟩ (.string u.v)).setCell ⟨g, o + 1, none⟩ (.int .i8 u.a.k)).setCell ⟨g, o + 2, none⟩ (.int .i64 u.a.n)).setCell ⟨g, o + 3, none⟩ (.string u.a.s)) := by
  have h0 := ht.below hb hg
  obtain ⟨c0, c1, c2, c3⟩ := h0
  refine ⟨hb.os, hb.tape, hb.output, by simp only [World.size_setCell]; exact hb.size, fun b h1 h2 => ?_, ⟨?_, ?_, ?_, ?_⟩, fun j hj => ?_, fun j => ?_⟩
  · rw [heap_setCell_other _ _ _ _ (by exact h2), heap_setCell_other _ _ _ _ (by exact h2), heap_setCell_other _ _ _ _ (by exact h2), heap_setCell_other _ _ _ _ (by exact h2)]
    exact hb.block b h1
  · go_simp
  · go_simp
  · go_simp
  · go_simp
  · have e := World.cell?_setCells_out g [.string u.v, .int .i8 u.a.k, .int .i64 u.a.n, .string u.a.s] o w' ⟨g, j, none⟩ (fun _ _ => hj)
    have e2 : (w'.setCells g o [.string u.v, .int .i8 u.a.k, .int .i64 u.a.n, .string u.a.s]) = ((((w'.setCell ⟨g, o, none⟩ (.string u.v)).setCell ⟨g, o + 1, none⟩ (.int .i8 u.a.k)).setCell ⟨g, o + 2, none⟩ (.int .i64 u.a.n)).setCell ⟨g, o + 3, none⟩ (.string u.a.s)) := rfl
    rw [← e2, e]
    exact hb.cell (p := ⟨g, j, none⟩) hg
  · rw [hfr j]
    exact hb.frozen (p := ⟨g, j, none⟩) hg
set_option maxHeartbeats 1600000 in
set_option maxRecDepth 100000 in
theorem putAt_any {bm g o : Nat} {s : List P} {t : T} {w : World} (hm : MapT w bm s) (nd : (s.map P.v).Nodup) (ht : TAt w g o t) (hf : ∀ i, i < 4 → w.frozen? ⟨g, o + i, none⟩ = false) (hw : t.wf) :
    Calls Tryz.prog 37 #[.map (some bm), .pointer (some ⟨g, o, none⟩)] w fun e w' => (∃ u, e = .returned u) ∧ Pt w g o (res s t) w' := by
  have hg : g < w.heap.size := World.block_lt_of_cell? _ _ ht.c0
  have x0 := ht.c0
  have hlk := hm.look nd hw.text
  unfold lookP at hlk
  have hres : res s t = match s.find? (fun p => decide (p.v = t.v)) with | some p => p.t | none => t := rfl
  cases hfi : s.find? (fun p => decide (p.v = t.v)) with
  | none =>
    rw [hfi] at hlk hres
    simp only at hlk hres
    rw [hres]
    have HK : Hid (∀ ob : Obj, Pt w g o t (w.alloc ob)) := fun ob => Pt.same ((Below.refl _ _).alloc (Nat.le_refl _) ob) ht hg
    generalize t.v = tv at x0 hlk
    clear hres hfi hf hw nd hm
    go_enter Tryz.func37, Tryz.ntmps37
    go_wp2
    go_end0
    exact ⟨⟨_, rfl⟩, HK.out _⟩
  | some p =>
    rw [hfi] at hlk hres
    simp only at hlk hres
    rw [hres]
    obtain ⟨pv, tv, ak, an, sx⟩ := p
    have hb : Below w.heap.size w (w.alloc (.cells #[.string tv, .int .i8 ak, .int .i64 an, .string sx] 48)) := (Below.refl _ _).alloc (Nat.le_refl _) _
    have HR := Lib.hid (rl_new w #[.string tv, .int .i8 ak, .int .i64 an, .string sx] 48)
    have hq := ht.below hb hg
    have HF : Hid (∀ i, i < 4 → (w.alloc (.cells #[.string tv, .int .i8 ak, .int .i64 an, .string sx] 48)).frozen? ⟨g, o + i, none⟩ = false) := fun i hi => by rw [hb.frozen (p := ⟨g, o + i, none⟩) hg]; exact hf i hi
    have HP : Hid (∀ W', (∀ j, ((((W'.setCell ⟨g, o, none⟩ (.string tv)).setCell ⟨g, o + 1, none⟩ (.int .i8 ak)).setCell ⟨g, o + 2, none⟩ (.int .i64 an)).setCell ⟨g, o + 3, none⟩ (.string sx)).frozen? ⟨g, j, none⟩ = W'.frozen? ⟨g, j, none⟩) → Below w.heap.size w W' → Pt w g o ⟨tv, ak, an, sx⟩ ((((W'.setCell ⟨g, o, none⟩ (.string tv)).setCell ⟨g, o + 1, none⟩ (.int .i8 ak)).setCell ⟨g, o + 2, none⟩ (.int .i64 an)).setCell ⟨g, o + 3, none⟩ (.string sx))) := fun W' h1 h2 => Pt.store (u := ⟨tv, ak, an, sx⟩) h2 ht hg h1
    have HB := Lib.hid hb
    generalize hqv : t.v = qv at x0 hlk
    clear hres hfi hf hw nd hm hb
    unfold T.val at hlk
    simp only at hlk
    go_enter Tryz.func37, Tryz.ntmps37
    go_upto_region 1 with fail
    generalize w.alloc (.cells #[.string tv, .int .i8 ak, .int .i64 an, .string sx] 48) = W1 at HR HF HB hq ⊢
    clear x0 hlk
    obtain ⟨c0, c1, c2, c3⟩ := hq
    have f0 := HF.out 0 (by omega)
    have f1 := HF.out 1 (by omega)
    have f2 := HF.out 2 (by omega)
    have f3 := HF.out 3 (by omega)
    rw [Nat.add_zero] at f0
    have y0 := HR.out.at (j := 0) rfl
    have y1 := HR.out.at (j := 1) rfl
    have y2 := HR.out.at (j := 2) rfl
    have y3 := HR.out.at (j := 3) rfl
    clear HR hqv
    go_wp2
    go_end0
    exact ⟨⟨_, rfl⟩, HP.out _ (fun j => by simp) HB.out⟩
end Go.Proofs.YteabclfhmapabaaGreatDoor
end
section
namespace Go.Proofs.YteabclfhmapabaaGreatDoor
open Go.RowKit Go.Maps
set_option linter.unusedVariables false
set_option linter.unusedSimpArgs false
attribute [local go_sem ↓] Go.wp_at_zero Go.wp_at_succ

/-- only these blocks may have turned -/
structure Tch (E : Nat → Prop) (w w' : World) : Prop where
  os : w'.os = w.os
  tape : w'.tape = w.tape
  output : w'.output = w.output
  size : w.heap.size ≤ w'.heap.size
  block : ∀ g, g < w.heap.size → ¬ E g → w'.heap[g]? = w.heap[g]?
theorem Tch.refl (E : Nat → Prop) (w : World) : Tch E w w := ⟨rfl, rfl, rfl, Nat.le_refl _, fun _ _ _ => rfl⟩
theorem Tch.trans {E : Nat → Prop} {a b c : World} (h : Tch E a b) (k : Tch E b c) : Tch E a c :=
  ⟨k.os.trans h.os, k.tape.trans h.tape, k.output.trans h.output, Nat.le_trans h.size k.size, fun g hg he => (k.block g (Nat.lt_of_lt_of_le hg h.size) he).trans (h.block g hg he)⟩
theorem Tch.mono {E E' : Nat → Prop} {w w' : World} (h : Tch E w w') (he : ∀ g, E g → E' g) : Tch E' w w' := ⟨h.os, h.tape, h.output, h.size, fun g hg hn => h.block g hg (fun e => hn (he g e))⟩
theorem Pt.tch {w w' : World} {g o : Nat} {t : T} (h : Pt w g o t w') : Tch (fun b => b = g) w w' := ⟨h.os, h.tape, h.output, h.size, fun b hb hn => h.blk b hb hn⟩
theorem flat_mem {bls : List (List Nat)} {i x : Nat} (hi : i < bls.length) (hx : x ∈ bls.getD i []) : x ∈ bls.flatten := by
  rw [List.getD_eq_getElem?_getD, List.getElem?_eq_getElem hi] at hx
  exact List.mem_flatten.2 ⟨_, List.getElem_mem hi, hx⟩
theorem flat_disj {bls : List (List Nat)} (h : bls.flatten.Nodup) {i k x : Nat} (hi : i < bls.length) (hk : k < bls.length) (hik : i ≠ k) (hx : x ∈ bls.getD i []) : x ∉ bls.getD k [] := by
  intro hy
  rw [List.getD_eq_getElem?_getD, List.getElem?_eq_getElem hi] at hx
  rw [List.getD_eq_getElem?_getD, List.getElem?_eq_getElem hk] at hy
  have hp := (List.pairwise_flatten.1 h).2
  rw [List.pairwise_iff_getElem] at hp
  rcases Nat.lt_or_gt_of_ne hik with hl | hl
  · exact hp i k hi hk hl x hx x hy rfl
  · exact hp k i hk hi hl x hy x hx rfl
/-- an expression whose kids' rows lie in blocks of their own, no two in one -/
def EB (w : World) : Nat → E → Option Addr → Nat → List Nat → Prop
  | 0, _, _, _, _ => False
  | d + 1, e, a, c, bl => ((-128 ≤ e.op ∧ e.op ≤ 127) ∧ e.kids.length ≤ 281474976710656) ∧ e.t.wf ∧ e.kids.length ≤ c ∧ c ≤ maxLen ∧
    ((e.kids = [] ∧ bl = []) ∨ ∃ g bls, a = some ⟨g, 0, none⟩ ∧ g < w.heap.size ∧ bl = g :: List.flatten bls ∧ bls.length = e.kids.length ∧ bl.Nodup ∧ (∀ j, w.frozen? ⟨g, j, none⟩ = false) ∧
      ∀ i, i < e.kids.length → ∃ a' c', XAt w g (i * 6) (atE e.kids i).op (atE e.kids i).t (.slice a' (atE e.kids i).kids.length c') ∧ EB w d (atE e.kids i) a' c' (bls.getD i []))
theorem XAt.sameC {w w' : World} {g o : Nat} {op : Int} {t : T} {s : Value} (h : XAt w g o op t s) (e : ∀ j, o ≤ j → j < o + 6 → w'.cell? ⟨g, j, none⟩ = w.cell? ⟨g, j, none⟩) : XAt w' g o op t s :=
  ⟨(e _ (by omega) (by omega)).trans h.c0, (e _ (by omega) (by omega)).trans h.c1, (e _ (by omega) (by omega)).trans h.c2, (e _ (by omega) (by omega)).trans h.c3, (e _ (by omega) (by omega)).trans h.c4, (e _ (by omega) (by omega)).trans h.c5⟩
theorem cell_block {w w' : World} {g : Nat} (e : w'.heap[g]? = w.heap[g]?) (j : Nat) : w'.cell? ⟨g, j, none⟩ = w.cell? ⟨g, j, none⟩ := by unfold World.cell?; rw [e]
theorem frozen_block {w w' : World} {g : Nat} (e : w'.heap[g]? = w.heap[g]?) (j : Nat) : w'.frozen? ⟨g, j, none⟩ = w.frozen? ⟨g, j, none⟩ := by unfold World.frozen?; rw [e]
theorem EB.keep {w w' : World} (hs : w.heap.size ≤ w'.heap.size) : ∀ {d : Nat} {e : E} {a : Option Addr} {c : Nat} {bl : List Nat}, EB w d e a c bl → (∀ b ∈ bl, w'.heap[b]? = w.heap[b]?) → EB w' d e a c bl
  | 0, _, _, _, _, h, _ => h
  | d + 1, e, a, c, bl, h, hk => by
    obtain ⟨h1, h2, h3, h4, h5⟩ := h
    refine ⟨h1, h2, h3, h4, ?_⟩
    rcases h5 with h5 | ⟨g, bls, ha, hg, hbl, hl, hnd, hf, hx⟩
    · exact .inl h5
    · subst hbl
      have e1 := hk g (by simp)
      refine .inr ⟨g, bls, ha, Nat.lt_of_lt_of_le hg hs, rfl, hl, hnd, fun j => by rw [frozen_block e1]; exact hf j, fun i hi => ?_⟩
      obtain ⟨a', c', x1, x2⟩ := hx i hi
      exact ⟨a', c', x1.sameC (fun j _ _ => cell_block e1 j), x2.keep hs (fun b hb => hk b (List.mem_cons_of_mem _ (flat_mem (by omega) hb)))⟩
theorem EB.lt {w : World} : ∀ {d : Nat} {e : E} {a : Option Addr} {c : Nat} {bl : List Nat}, EB w d e a c bl → ∀ b ∈ bl, b < w.heap.size
  | 0, _, _, _, _, h => h.elim
  | d + 1, e, a, c, bl, h => by
    obtain ⟨h1, h2, h3, h4, h5⟩ := h
    rcases h5 with ⟨_, h5⟩ | ⟨g, bls, ha, hg, hbl, hl, hnd, hf, hx⟩
    · intro b hb; rw [h5] at hb; cases hb
    · subst hbl
      intro b hb
      rcases List.mem_cons.1 hb with rfl | hb
      · exact hg
      · obtain ⟨l, hl1, hl2⟩ := List.mem_flatten.1 hb
        obtain ⟨i, hi, rfl⟩ := List.mem_iff_getElem.1 hl1
        obtain ⟨a', c', _, x2⟩ := hx i (by omega)
        exact x2.lt b (by rw [List.getD_eq_getElem?_getD, List.getElem?_eq_getElem hi]; exact hl2)
theorem EB.eis {w : World} : ∀ {d : Nat} {e : E} {a : Option Addr} {c : Nat} {bl : List Nat}, EB w d e a c bl → EIs w d e a c
  | 0, _, _, _, _, h => h
  | d + 1, e, a, c, bl, h => by
    obtain ⟨h1, h2, h3, h4, h5⟩ := h
    refine ⟨h1, h2, h3, h4, fun h0 => ?_⟩
    rcases h5 with ⟨h5, _⟩ | ⟨g, bls, ha, hg, hbl, hl, hnd, hf, hx⟩
    · rw [h5] at h0; simp at h0
    · refine ⟨g, 0, ha, hg, fun i hi => ?_⟩
      obtain ⟨a', c', x1, x2⟩ := hx i hi
      exact ⟨a', c', by rw [Nat.zero_add]; exact x1, x2.eis⟩
/-- an expression with what takes its terms' places -/
def apD (f : T → T) : Nat → E → E
  | 0, e => e
  | d + 1, e => .mk e.op (f e.t) (e.kids.map (apD f d))
theorem apD_succ (f : T → T) (d : Nat) (e : E) : apD f (d + 1) e = .mk e.op (f e.t) (e.kids.map (apD f d)) := rfl
theorem apD_op (f : T → T) : ∀ (d : Nat) (e : E), (apD f d e).op = e.op
  | 0, e => rfl
  | d + 1, e => rfl
theorem apD_len (f : T → T) : ∀ (d : Nat) (e : E), (apD f d e).kids.length = e.kids.length
  | 0, e => rfl
  | d + 1, e => by rw [apD_succ]; show (e.kids.map (apD f d)).length = _; simp
theorem atE_map (f : E → E) {l : List E} {i : Nat} (h : i < l.length) : atE (l.map f) i = f (atE l i) := by
  rw [atE_eq (by simpa using h), atE_eq h, List.getElem_map]
def putF (bm : Nat) : Value := .func (.func 37) #[.map (some bm)] #[]
/-- what a walk over an expression at a place leaves -/
structure Wx (w : World) (g o : Nat) (d : Nat) (e : E) (a : Option Addr) (c : Nat) (bl : List Nat) (s : List P) (w' : World) : Prop where
  tch : Tch (fun b => b = g ∨ b ∈ bl) w w'
  xat : XAt w' g o e.op (res s e.t) (.slice a e.kids.length c)
  oth : ∀ j, (j < o + 1 ∨ o + 5 ≤ j) → w'.cell? ⟨g, j, none⟩ = w.cell? ⟨g, j, none⟩
  frz : ∀ j, w'.frozen? ⟨g, j, none⟩ = false
  eb : EB w' d (apD (res s) d e) a c bl
theorem XAt.tat {w : World} {g o : Nat} {op : Int} {t : T} {s : Value} (h : XAt w g o op t s) : TAt w g (o + 1) t := ⟨h.c1, h.c2, h.c3, h.c4⟩
theorem apD_t (f : T → T) {d : Nat} (e : E) (h : d ≠ 0) : (apD f d e).t = f e.t := by
  cases d with
  | zero => exact absurd rfl h
  | succ d => rfl
theorem EB.pos {w : World} {d : Nat} {e : E} {a : Option Addr} {c : Nat} {bl : List Nat} (h : EB w d e a c bl) : d ≠ 0 := fun e0 => by subst e0; exact h
/-- what the walk over the kids keeps -/
structure Wl (w : World) (g o d : Nat) (e : E) (c g' : Nat) (bls : List (List Nat)) (s : List P) (bm k : Nat) (wr : World) : Prop where
  tch : Tch (fun b => b = g ∨ b ∈ g' :: bls.flatten) w wr
  xat : XAt wr g o e.op (res s e.t) (.slice (some ⟨g', 0, none⟩) e.kids.length c)
  oth : ∀ j, (j < o + 1 ∨ o + 5 ≤ j) → wr.cell? ⟨g, j, none⟩ = w.cell? ⟨g, j, none⟩
  frz : ∀ j, wr.frozen? ⟨g, j, none⟩ = false
  map : MapT wr bm s
  gl : g' < wr.heap.size
  fz : ∀ j, wr.frozen? ⟨g', j, none⟩ = false
  done : ∀ i, i < e.kids.length → i < k → ∃ a' c', XAt wr g' (i * 6) (atE e.kids i).op (res s (atE e.kids i).t) (.slice a' (atE e.kids i).kids.length c') ∧ EB wr d (apD (res s) d (atE e.kids i)) a' c' (bls.getD i [])
  rest : ∀ i, i < e.kids.length → k ≤ i → ∃ a' c', XAt wr g' (i * 6) (atE e.kids i).op (atE e.kids i).t (.slice a' (atE e.kids i).kids.length c') ∧ EB wr d (atE e.kids i) a' c' (bls.getD i [])
theorem Wl.step {w : World} {g o d : Nat} {e : E} {c g' : Nat} {bls : List (List Nat)} {s : List P} {bm k : Nat} {wr w2 : World} {a' : Option Addr} {c' : Nat} (h : Wl w g o d e c g' bls s bm k wr) (hk : k < e.kids.length) (hl : bls.length = e.kids.length) (nd : (g' :: bls.flatten).Nodup) (hg : g ∉ g' :: bls.flatten) (hm : bm ∉ g' :: bls.flatten)
    (hx : Wx wr g' (k * 6) d (atE e.kids k) a' c' (bls.getD k []) s w2) : Wl w g o d e c g' bls s bm (k + 1) w2 := by
  have hgl : g < wr.heap.size := World.block_lt_of_cell? _ _ h.xat.c0
  have hsub : ∀ b, (b = g' ∨ b ∈ bls.getD k []) → b ∈ g' :: bls.flatten := fun b hb => by
    rcases hb with rfl | hb
    · simp
    · exact List.mem_cons_of_mem _ (flat_mem (by omega) hb)
  have eg : w2.heap[g]? = wr.heap[g]? := hx.tch.block g hgl (fun q => hg (hsub g q))
  have em : w2.heap[bm]? = wr.heap[bm]? := hx.tch.block bm h.map.lt (fun q => hm (hsub bm q))
  have hnd := List.nodup_cons.1 nd
  have hkb : ∀ i, i < e.kids.length → i ≠ k → ∀ b, b ∈ bls.getD i [] → b < wr.heap.size → w2.heap[b]? = wr.heap[b]? := fun i hi hn b hb hbl => hx.tch.block b hbl (fun q => by
    rcases q with q | q
    · exact hnd.1 (by rw [← q]; exact flat_mem (by omega) hb)
    · exact flat_disj hnd.2 (by omega) (by omega) hn hb q)
  refine ⟨h.tch.trans (hx.tch.mono (fun b hb => .inr (hsub b hb))), h.xat.sameC (fun j _ _ => cell_block eg j), fun j hj => (cell_block eg j).trans (h.oth j hj), fun j => (frozen_block eg j).trans (h.frz j), h.map.of_block em, Nat.lt_of_lt_of_le h.gl hx.tch.size, hx.frz, fun i hi hik => ?_, fun i hi hik => ?_⟩
  · by_cases e1 : i = k
    · subst e1
      exact ⟨a', c', hx.xat, hx.eb⟩
    · obtain ⟨a2, c2, y1, y2⟩ := h.done i hi (by omega)
      exact ⟨a2, c2, y1.sameC (fun j j1 j2 => hx.oth j (.inl (by omega))), y2.keep hx.tch.size (fun b hb => hkb i hi e1 b hb (y2.lt b hb))⟩
  · obtain ⟨a2, c2, y1, y2⟩ := h.rest i hi (by omega)
    exact ⟨a2, c2, y1.sameC (fun j j1 j2 => hx.oth j (.inr (by omega))), y2.keep hx.tch.size (fun b hb => hkb i hi (by omega) b hb (y2.lt b hb))⟩
set_option maxHeartbeats 3200000 in
set_option maxRecDepth 100000 in
theorem walkExprP {bm : Nat} {s : List P} (nd : (s.map P.v).Nodup) (hs : ∀ p ∈ s, p.wf) : ∀ (d : Nat) (w : World) (e : E) (a : Option Addr) (c g o : Nat) (bl : List Nat), MapT w bm s → XAt w g o e.op e.t (.slice a e.kids.length c) → (∀ j, w.frozen? ⟨g, j, none⟩ = false) → EB w d e a c bl → g ∉ bl → bm ∉ bl → bm ≠ g →
    Calls Tryz.prog 35 #[.iface 147 (.pointer (some ⟨g, o, none⟩)), putF bm] w fun e' w' => (∃ u, e' = .returned u) ∧ Wx w g o d e a c bl s w' := by
  intro d
  induction d with
  | zero => intro w e a c g o bl _ _ _ h; exact absurd h (fun h => h)
  | succ d ih =>
  intro w e a c g o bl hm hx hf hE hgb hmb hmg
  have hg : g < w.heap.size := World.block_lt_of_cell? _ _ hx.c0
  obtain ⟨⟨hop, hkl⟩, htw, hc1, hc2, hk⟩ := hE
  have HP : Hid _ := putAt_any (o := o + 1) hm nd hx.tat (fun i _ => hf _) htw
  have HIH : Hid _ := ih
  have HE0 := Lib.hid hk
  have HX0 := Lib.hid hx
  have HM0 := Lib.hid hm
  have HFZ := Lib.hid hf
  have HOP := Lib.hid hop
  have HTW := Lib.hid (res_wf hs htw)
  have HGB := Lib.hid (And.intro hgb (And.intro hmb hmg))
  have h1 := exRule (.pointer (some ⟨g, o, none⟩))
  have h2 := exLiteral (.pointer (some ⟨g, o, none⟩))
  have h3 := exAtom (.pointer (some ⟨g, o, none⟩))
  have h4 := exExpr (.pointer (some ⟨g, o, none⟩))
  clear ih hk hx hm hf hop htw hgb hmb hmg
  unfold putF
  go_enter Tryz.func35, Tryz.ntmps35
  go_wp2_with fail
  refine Calls.mono HP.out ?_
  rintro ee w1 ⟨⟨u, rfl⟩, hp⟩
  have hx1 : XAt w1 g o e.op (res s e.t) (.slice a e.kids.length c) := ⟨by rw [hp.oth _ (by omega)]; exact HX0.out.c0, hp.term.c0, hp.term.c1, hp.term.c2, hp.term.c3, by rw [hp.oth _ (by omega)]; exact HX0.out.c5⟩
  have HX1 := Lib.hid hx1
  have HPT := Lib.hid hp
  have c5 := hx1.c5
  clear h1 h2 h3 h4 hp hx1 HP
  rcases HE0.out with ⟨hk0, hbl⟩ | ⟨g', bls, ha, hg', hbl, hl, hnd, hf', hkx⟩
  · have HFIN : Hid (Wx w g o (d + 1) e a c bl s w1) := by
      refine ⟨HPT.out.tch.mono (fun b hb => .inl hb), HX1.out, fun j hj => HPT.out.oth j (by omega), fun j => (HPT.out.frz j).trans (HFZ.out j), ?_⟩
      rw [apD_succ, hk0]
      exact ⟨⟨HOP.out, by simp [E.kids]⟩, HTW.out, Nat.zero_le _, hc2, .inl ⟨rfl, hbl⟩⟩
    have hlen : e.kids.length = 0 := by rw [hk0]; rfl
    rw [hlen] at c5
    clear hk0 hbl hkl hc1
    go_wp2
    clear c5
    go_loopw [106] (fun i wr => i = .int .i64 0 ∧ wr = w1) (fun i _ => 0)
    case atStart => exact ⟨rfl, rfl⟩
    case round =>
      obtain ⟨rfl, rfl⟩ := hrel
      go_wp2
      go_end0
      exact ⟨⟨_, rfl⟩, HFIN.out⟩
  · subst hbl ha
    have hgg : g ≠ g' := fun q => HGB.out.1 (by rw [q]; simp)
    have hkb : ∀ b ∈ g' :: bls.flatten, b < w.heap.size → w1.heap[b]? = w.heap[b]? := fun b hb hbl => HPT.out.blk b hbl (fun q => HGB.out.1 (by rw [← q]; exact hb))
    have eg := hkb g' (by simp) hg'
    have HW0 : Hid (Wl w g o d e c g' bls s bm 0 w1) := by
      refine ⟨HPT.out.tch.mono (fun b hb => .inl hb), HX1.out, fun j hj => HPT.out.oth j (by omega), fun j => (HPT.out.frz j).trans (HFZ.out j), HM0.out.of_block (HPT.out.blk _ HM0.out.lt HGB.out.2.2), Nat.lt_of_lt_of_le hg' HPT.out.size, fun j => (frozen_block eg j).trans (hf' j), fun i _ h0 => absurd h0 (by omega), fun i hi _ => ?_⟩
      obtain ⟨a2, c2, y1, y2⟩ := hkx i hi
      exact ⟨a2, c2, y1.sameC (fun j _ _ => cell_block eg j), y2.keep HPT.out.size (fun b hb => hkb b (List.mem_cons_of_mem _ (flat_mem (by omega) hb)) (y2.lt b hb))⟩
    have HND := Lib.hid hnd
    clear hkb eg hkx hf' hnd
    go_wp2
    clear c5
    go_loopw [106] (fun i wr => ∃ k : Nat, k ≤ e.kids.length ∧ i = .int .i64 k ∧ Hid (Wl w g o d e c g' bls s bm k wr)) (fun i _ => e.kids.length - (intOf i).toNat)
    case atStart => exact ⟨0, Nat.zero_le _, rfl, HW0⟩
    case round =>
      clear HW0
      obtain ⟨k, hk, rfl, HL⟩ := hrel
      have c5 := HL.out.xat.c5
      by_cases hlt : k < e.kids.length
      · have hlt' : (k : Int) < (e.kids.length : Int) := by omega
        have hk0 : (0 : Int) ≤ (k : Int) := by omega
        obtain ⟨a', c', y1, y2⟩ := HL.out.rest k hlt (Nat.le_refl _)
        have hn2 := List.nodup_cons.1 HND.out
        have HI : Hid (Calls Tryz.prog 35 #[.iface 147 (.pointer (some ⟨g', k * 6, none⟩)), .func (.func 37) #[.map (some bm)] #[]] wr fun e' w' => (∃ u, e' = .returned u) ∧ Wx wr g' (k * 6) d (atE e.kids k) a' c' (bls.getD k []) s w') :=
          HIH.out wr (atE e.kids k) a' c' g' (k * 6) _ HL.out.map y1 HL.out.fz y2 (fun q => hn2.1 (flat_mem (by omega) q)) (fun q => HGB.out.2.1 (List.mem_cons_of_mem _ (flat_mem (by omega) q))) (fun q => HGB.out.2.1 (by rw [q]; simp))
        clear y1 y2 hn2
        go_wp2_with fail
        refine Calls.mono HI.out ?_
        rintro ee w2 ⟨⟨u2, rfl⟩, hw2⟩
        have HL2 := Lib.hid (HL.out.step hlt hl HND.out HGB.out.1 HGB.out.2.1 hw2)
        clear hw2 HI HL
        go_wp2
        go_roundw
        case rel => exact ⟨k + 1, by omega, by go_num, HL2⟩
        case measure => simp [intOf]; omega
      · obtain rfl : k = e.kids.length := by omega
        have HFIN : Hid (Wx w g o (d + 1) e (some ⟨g', 0, none⟩) c (g' :: bls.flatten) s wr) := by
          refine ⟨HL.out.tch, HL.out.xat, HL.out.oth, HL.out.frz, ?_⟩
          rw [apD_succ]
          refine ⟨⟨HOP.out, by show (e.kids.map (apD (res s) d)).length ≤ _; rw [List.length_map]; exact hkl⟩, HTW.out, by show (e.kids.map (apD (res s) d)).length ≤ _; rw [List.length_map]; exact hc1, hc2, .inr ⟨g', bls, rfl, HL.out.gl, rfl, by show _ = (e.kids.map (apD (res s) d)).length; rw [List.length_map]; exact hl, HND.out, HL.out.fz, fun i hi => ?_⟩⟩
          have hi' : i < e.kids.length := by have : i < (e.kids.map (apD (res s) d)).length := hi; rw [List.length_map] at this; exact this
          obtain ⟨a2, c2, y1, y2⟩ := HL.out.done i hi' hi'
          refine ⟨a2, c2, ?_⟩
          show XAt wr g' (i * 6) (atE (e.kids.map (apD (res s) d)) i).op (atE (e.kids.map (apD (res s) d)) i).t (.slice a2 (atE (e.kids.map (apD (res s) d)) i).kids.length c2) ∧ EB wr d (atE (e.kids.map (apD (res s) d)) i) a2 c2 (bls.getD i [])
          rw [atE_map _ hi', apD_op, apD_len, apD_t _ _ y2.pos]
          exact ⟨y1, y2⟩
        go_wp2
        go_end0
        exact ⟨⟨_, rfl⟩, HFIN.out⟩
end Go.Proofs.YteabclfhmapabaaGreatDoor
end
