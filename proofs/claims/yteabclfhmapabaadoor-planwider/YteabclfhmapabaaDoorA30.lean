import Derived.Test.YteabclfhmapabaaDoorA2
import Derived.Deep.MidRow
import Derived.Test.YteabclfhmapabaaDoorA3
import Derived.BigQuiet
import Derived.Lib.SmallJoins
import Derived.Test.YteabclfhmapabaaDoorA6
import Derived.Maps.OwnSet
import Derived.Maps.AppendAt
import Derived.Deep.OwnRows
import Derived.DeepKeys4
import Derived.Deep.Upon
import Derived.OwnWalk
import Derived.Lib.Hide
import Derived.Laws.IdiomCopy
section
namespace Go.Proofs.YteabclfhmapabaaDoor
open Go.RowKit Go.Maps
set_option linter.unusedVariables false
set_option linter.unusedSimpArgs false
attribute [local go_sem ↓] Go.wp_at_zero Go.wp_at_succ

/-- the cells of a term in block b, that may be written -/
def Own4 (w : World) (b : Nat) : Prop := (∃ y0 y1 y2 y3, w.cell? ⟨b, 0, none⟩ = some y0 ∧ w.cell? ⟨b, 1, none⟩ = some y1 ∧ w.cell? ⟨b, 2, none⟩ = some y2 ∧ w.cell? ⟨b, 3, none⟩ = some y3) ∧
  w.frozen? ⟨b, 0, none⟩ = false ∧ w.frozen? ⟨b, 1, none⟩ = false ∧ w.frozen? ⟨b, 2, none⟩ = false ∧ w.frozen? ⟨b, 3, none⟩ = false ∧ b < w.heap.size
theorem Own4.below {w w1 : World} {b : Nat} (h : Own4 w b) (hb : Below w.heap.size w w1) : Own4 w1 b := by
  obtain ⟨⟨y0, y1, y2, y3, c0, c1, c2, c3⟩, f0, f1, f2, f3, hl⟩ := h
  refine ⟨⟨y0, y1, y2, y3, ?_, ?_, ?_, ?_⟩, ?_, ?_, ?_, ?_, Nat.lt_of_lt_of_le hl hb.size⟩
  all_goals first | rw [hb.cell (by exact hl)]; assumption | rw [hb.frozen (by exact hl)]; assumption

theorem res_wf {s : List P} (hs : ∀ p ∈ s, p.wf) {t : T} (ht : t.wf) : (res s t).wf := by
  unfold res
  cases hf : s.find? (fun p => decide (p.v = t.v)) with
  | none => exact ht
  | some p => exact (hs p (List.mem_of_find?_eq_some hf)).term

end Go.Proofs.YteabclfhmapabaaDoor
end
section
namespace Go.Proofs.YteabclfhmapabaaDoor
open Go.RowKit Go.Maps
set_option linter.unusedVariables false
set_option linter.unusedSimpArgs false
attribute [local go_sem ↓] Go.wp_at_zero Go.wp_at_succ

end Go.Proofs.YteabclfhmapabaaDoor
end
section
namespace Go.Proofs.YteabclfhmapabaaDoor
open Go.RowKit Go.Maps Go.ChangeMaps
set_option linter.unusedVariables false
set_option linter.unusedSimpArgs false
attribute [local go_sem ↓] Go.wp_at_zero Go.wp_at_succ

def entP (p : P) : Value × Value := (.string p.v, p.t.val)
/-- block b is the map from these variables to these terms -/
def MapT (w : World) (b : Nat) (s : List P) : Prop :=
  ∃ es clock, w.heap[b]? = some (.map es clock) ∧ es.toList.map (fun e => (e.key, e.val)) = s.map entP ∧ ∀ p ∈ s, p.v.size ≤ maxLen
theorem MapT.lt {w : World} {b : Nat} {s : List P} (h : MapT w b s) : b < w.heap.size := by
  obtain ⟨es, c, hb, _⟩ := h
  exact (Array.getElem?_eq_some_iff.1 hb).1
theorem MapT.of_block {w w' : World} {b : Nat} {s : List P} (h : MapT w b s) (e : w'.heap[b]? = w.heap[b]?) : MapT w' b s := by
  obtain ⟨es, c, hb, r⟩ := h
  exact ⟨es, c, e.trans hb, r⟩
theorem MapT.below {w w' : World} {b : Nat} {s : List P} (h : MapT w b s) (hb : Below w.heap.size w w') : MapT w' b s := h.of_block (hb.block b h.lt)
theorem MapT.made (w : World) : MapT (w.alloc (.map #[] 0)) w.heap.size [] := ⟨#[], 0, heap_alloc_new w _, rfl, by simp⟩
theorem ments_at {es : Array MapEntry} {s : List P} (h : es.toList.map (fun e => (e.key, e.val)) = s.map entP) {j : Nat} {e : MapEntry} (hj : es.toList[j]? = some e) :
    ∃ p, s[j]? = some p ∧ e.key = .string p.v ∧ e.val = p.t.val := by
  have h1 := congrArg (fun l => l[j]?) h
  simp only [List.getElem?_map, hj, Option.map_some] at h1
  obtain ⟨p, hp, he⟩ := Option.map_eq_some_iff.1 h1.symm
  simp only [entP, Prod.mk.injEq] at he
  exact ⟨p, hp, he.1.symm, he.2.symm⟩
theorem ments_keys {es : Array MapEntry} {s : List P} (h : es.toList.map (fun e => (e.key, e.val)) = s.map entP) (hw : ∀ p ∈ s, p.v.size ≤ maxLen) : ∀ e ∈ es.toList, ∃ l, keyOf Tryd.prog 9 e.key = some l := by
  intro e he
  obtain ⟨j, hj⟩ := List.getElem?_of_mem he
  obtain ⟨p, hp, hk, _⟩ := ments_at h hj
  rw [hk]
  exact ⟨_, keyOf_s _ (hw p (List.mem_of_getElem? hp))⟩
theorem ments_no {es : Array MapEntry} {s : List P} (h : es.toList.map (fun e => (e.key, e.val)) = s.map entP) {n : ByteArray} (hn : ∀ e ∈ es.toList, e.key ≠ .string n) : ∀ p ∈ s, p.v ≠ n := by
  intro p hp e
  obtain ⟨j, hj⟩ := List.getElem?_of_mem hp
  have h1 := congrArg (fun l => l[j]?) h
  simp only [List.getElem?_map, hj, Option.map_some] at h1
  obtain ⟨x, hx, he⟩ := Option.map_eq_some_iff.1 h1
  simp only [entP, Prod.mk.injEq] at he
  exact hn x (List.mem_of_getElem? hx) (by rw [he.1, e])
theorem zeroTm (w : World) : (zeroValue 51).run Tryd.prog w = .ok (.agg #[.string ⟨#[]⟩, .int .i8 0, .int .i64 0, .string ⟨#[]⟩]) w := by kernel_rfl
/-- what the map has for a name -/
def lookP (s : List P) (n : ByteArray) : Value := match s.find? (fun p => decide (p.v = n)) with
  | some p => .tuple #[p.t.val, .bool true]
  | none => .tuple #[.agg #[.string ⟨#[]⟩, .int .i8 0, .int .i64 0, .string ⟨#[]⟩], .bool false]
theorem lookP_no {s : List P} {n : ByteArray} (h : ∀ p ∈ s, p.v ≠ n) : lookP s n = .tuple #[.agg #[.string ⟨#[]⟩, .int .i8 0, .int .i64 0, .string ⟨#[]⟩], .bool false] := by
  unfold lookP
  rw [List.find?_eq_none.2 (fun p hp => by simpa using h p hp)]
theorem MapT.look {w : World} {b : Nat} {s : List P} (h : MapT w b s) (nd : (s.map P.v).Nodup) {n : ByteArray} (hn : n.size ≤ maxLen) :
    (Instr.lookup 94 (.map (some b)) (.string n) true).run Tryd.prog w = .ok (lookP s n) w := by
  obtain ⟨es, c, hb, hes, hw⟩ := h
  have hl := keyOf_s n hn
  rcases keyedS.find w hl es.toList (ments_keys hes hw) with ⟨h1, h2⟩ | ⟨j, e, h1, h2, h3⟩
  · rw [lookP_no (ments_no hes h2)]
    simp [Instr.lookup, run_underlying Tryd.underlying94, MapKept.run_getObj_map hb, keyedS.check w _ hl, h1, Result.andThen, zeroTm]
  · obtain ⟨p, hp, hk, hval⟩ := ments_at hes h2
    have e : p.v = n := by
      have := hk.symm.trans h3
      injection this
    have hf : s.find? (fun p => decide (p.v = n)) = some p := by
      cases hf : s.find? (fun p => decide (p.v = n)) with
      | none => exact absurd e (by simpa using List.find?_eq_none.1 hf p (List.mem_of_getElem? hp))
      | some q =>
        have hq : q.v = n := by simpa using List.find?_some hf
        obtain ⟨i, hi⟩ := List.getElem?_of_mem (List.mem_of_find?_eq_some hf)
        have e1 : (s.map P.v)[i]? = some n := by rw [List.getElem?_map, hi, ← hq]; rfl
        have e2 : (s.map P.v)[j]? = some n := by rw [List.getElem?_map, hp, ← e]; rfl
        obtain ⟨i1, i2⟩ := List.getElem?_eq_some_iff.1 e1
        obtain ⟨j1, j2⟩ := List.getElem?_eq_some_iff.1 e2
        have nd' := List.pairwise_iff_getElem.1 nd
        have : i = j := by
          rcases Nat.lt_trichotomy i j with h | h | h
          · exact absurd (i2.trans j2.symm) (nd' i j i1 j1 h)
          · exact h
          · exact absurd (j2.trans i2.symm) (nd' j i j1 i1 h)
        rw [this, hp] at hi
        rw [Option.some.inj hi]
    unfold lookP
    rw [hf]
    simp [Instr.lookup, run_underlying Tryd.underlying94, MapKept.run_getObj_map hb, keyedS.check w _ hl, h1, hval, Result.andThen]
/-- 'm[n] = t' where n is not there -/
theorem MapT.put {w : World} {b : Nat} {s : List P} (h : MapT w b s) {p : P} (hs : p.v.size ≤ maxLen) (hn : ∀ q ∈ s, q.v ≠ p.v) :
    ∃ w', (Instr.mapUpdate 94 (.map (some b)) (.string p.v) p.t.val).run Tryd.prog w = .ok () w' ∧ MapT w' b (s ++ [p]) ∧ w.mapTurned w' b := by
  obtain ⟨es, c, hb, hes, hw⟩ := h
  have hl := keyOf_s p.v hs
  rcases keyedS.find w hl es.toList (ments_keys hes hw) with ⟨h1, h2⟩ | ⟨j, e, h1, h2, h3⟩
  · refine ⟨setBlock w b (.map (es.push ⟨.string p.v, p.t.val, c⟩) (c + 1)), by simp [Instr.mapUpdate, run_underlying Tryd.underlying94, MapKept.run_getObj_map hb, keyedS.check w false hl, h1, MapKept.run_setObj_map _ hb, Result.andThen, setBlock], ⟨_, _, heap_setBlock_same hb _, by simp [hes, entP], ?_⟩, ?_⟩
    · intro q hq
      rcases List.mem_append.1 hq with hq | hq
      · exact hw q hq
      · simp at hq
        subst hq
        exact hs
    · exact ⟨es, c, _, _, hb, rfl⟩
  · obtain ⟨q, hp, hk, hval⟩ := ments_at hes h2
    refine absurd ?_ (hn q (List.mem_of_getElem? hp))
    have := hk.symm.trans h3
    injection this
end Go.Proofs.YteabclfhmapabaaDoor
end
section
namespace Go.Proofs.YteabclfhmapabaaDoor
open Go.RowKit Go.Maps
set_option linter.unusedVariables false
set_option linter.unusedSimpArgs false
attribute [local go_sem ↓] Go.wp_at_zero Go.wp_at_succ

/-- a pair that may be told: its variable is a name, and is not told yet -/
def stepF (acc : List P) (p : P) : List P := if p.v = noS ∨ p.v = blankS ∨ acc.any (fun q => decide (q.v = p.v)) = true then acc else acc ++ [p]
/-- the pairs that count: of each variable the first -/
def fstP (s : List P) : List P := s.foldl stepF []
theorem fstP_snoc (s : List P) (p : P) : fstP (s ++ [p]) = stepF (fstP s) p := by simp [fstP]
structure Okp (acc : List P) : Prop where
  nd : (acc.map P.v).Nodup
  nk : ∀ p ∈ acc, p.v ≠ noS ∧ p.v ≠ blankS
theorem stepF_ok {acc : List P} (h : Okp acc) (p : P) : Okp (stepF acc p) := by
  unfold stepF
  split
  · exact h
  · next hn =>
    simp only [not_or, Bool.not_eq_true] at hn
    obtain ⟨h1, h2, h3⟩ := hn
    refine ⟨?_, fun q hq => ?_⟩
    · rw [List.map_append, List.nodup_append]
      refine ⟨h.nd, by simp, fun a ha b hb => ?_⟩
      obtain ⟨q, hq, rfl⟩ := List.mem_map.1 ha
      simp at hb
      subst hb
      intro e
      have := List.any_eq_false.1 h3 q hq
      simp [e] at this
    · rcases List.mem_append.1 hq with hq | hq
      · exact h.nk q hq
      · rw [List.mem_singleton.1 hq]; exact ⟨h1, h2⟩
theorem fold_ok : ∀ (s acc : List P), Okp acc → Okp (s.foldl stepF acc)
  | [], acc, h => h
  | p :: r, acc, h => fold_ok r _ (stepF_ok h p)
theorem fstP_ok (s : List P) : Okp (fstP s) := fold_ok s [] ⟨List.nodup_nil, fun p hp => by cases hp⟩
theorem fold_find {n : ByteArray} (h1 : n ≠ noS) (h2 : n ≠ blankS) : ∀ (s acc : List P), (s.foldl stepF acc).find? (fun p => decide (p.v = n)) = (acc.find? (fun p => decide (p.v = n))).or (s.find? (fun p => decide (p.v = n)))
  | [], acc => by simp
  | p :: r, acc => by
    rw [List.foldl_cons, fold_find h1 h2 r (stepF acc p)]
    unfold stepF
    by_cases e : p.v = n
    · subst e
      cases ha : acc.find? (fun q => decide (q.v = p.v)) with
      | some q =>
        have : acc.any (fun q => decide (q.v = p.v)) = true := List.any_eq_true.2 ⟨q, List.mem_of_find?_eq_some ha, by simpa using List.find?_some ha⟩
        rw [if_pos (.inr (.inr this)), ha]
        rfl
      | none =>
        have : acc.any (fun q => decide (q.v = p.v)) = false := List.any_eq_false.2 (fun q hq => by simpa using List.find?_eq_none.1 ha q hq)
        rw [if_neg (fun h => by rcases h with h | h | h; exact h1 h; exact h2 h; rw [this] at h; cases h), List.find?_append, ha]
        simp
    · have e' : decide (p.v = n) = false := decide_eq_false e
      split
      · simp [List.find?_cons, e']
      · rw [List.find?_append]
        simp [List.find?_cons, e']
theorem res_fstP (s : List P) (t : T) : res (fstP s) t = putT s t := by
  unfold putT
  by_cases h : t.v = noS ∨ t.v = blankS
  · rw [if_pos h]
    unfold res
    have : (fstP s).find? (fun p => decide (p.v = t.v)) = none := List.find?_eq_none.2 (fun p hp => by
      have := (fstP_ok s).nk p hp
      simp only [decide_eq_true_eq]
      intro e
      rcases h with h | h
      · exact this.1 (e.trans h)
      · exact this.2 (e.trans h))
    rw [this]
  · simp only [not_or] at h
    rw [if_neg (fun q => q.elim h.1 h.2)]
    unfold res fstP
    rw [fold_find h.1 h.2 s []]
    simp
theorem fstP_mem {s : List P} : ∀ p ∈ fstP s, p ∈ s := by
  have key : ∀ (s acc : List P), ∀ p ∈ s.foldl stepF acc, p ∈ acc ∨ p ∈ s := by
    intro s
    induction s with
    | nil => intro acc p hp; exact .inl hp
    | cons x r ih =>
      intro acc p hp
      rw [List.foldl_cons] at hp
      rcases ih _ p hp with h | h
      · unfold stepF at h
        split at h
        · exact .inl h
        · rcases List.mem_append.1 h with h | h
          · exact .inl h
          · rw [List.mem_singleton.1 h]; exact .inr (by simp)
      · exact .inr (List.mem_cons_of_mem _ h)
  intro p hp
  rcases key s [] p hp with h | h
  · cases h
  · exact h
theorem lookP_yes {s : List P} {n : ByteArray} (h : s.any (fun q => decide (q.v = n)) = true) : ∃ q : P, lookP s n = .tuple #[.agg #[.string q.t.v, .int .i8 q.t.a.k, .int .i64 q.t.a.n, .string q.t.a.s], .bool true] := by
  unfold lookP
  cases hf : s.find? (fun p => decide (p.v = n)) with
  | some q => exact ⟨q, rfl⟩
  | none =>
    obtain ⟨q, hq, e⟩ := List.any_eq_true.1 h
    exact absurd e (List.find?_eq_none.1 hf q hq)
theorem run_makePl (u : World) : (Instr.makeMap 94 none).run Tryd.prog u = .ok (.map (some u.heap.size)) (u.alloc (.map #[] 0)) := by kernel_rfl
set_option maxHeartbeats 3200000 in
set_option maxRecDepth 100000 in
theorem placesOf_all (v : Value) (s : List P) (w : World) (hl : Lp w v s) (hlen : s.length ≤ 1048576) : Calls Tryd.prog 30 #[v] w fun e w' => e = .returned (.map (some w.heap.size)) ∧ MapT w' w.heap.size (fstP s) ∧ Below w.heap.size w w' := by
  obtain ⟨a, c, rfl, hc1, hc2, hat⟩ := hl.form
  have HAT := Lib.hid hat
  have HWF := Lib.hid hl.wf
  have HM0 := Lib.hid (MapT.made w)
  have HB0 := Lib.hid ((Below.refl w.heap.size w).alloc (Nat.le_refl _) (.map #[] 0))
  have hmm := run_makePl w
  clear hat hl
  go_enter Tryd.func30, Tryd.ntmps30
  go_wp2
  go_loopw [11] (fun i wr => ∃ k : Nat, k ≤ s.length ∧ i = .int .i64 k ∧ Hid (Below w.heap.size w wr ∧ MapT wr w.heap.size (fstP (s.take k)))) (fun i _ => s.length - (intOf i).toNat)
  case atStart => exact ⟨0, Nat.zero_le _, rfl, HB0.out, by rw [List.take_zero]; exact HM0.out⟩
  case round =>
    obtain ⟨k, hk, rfl, HI⟩ := hrel
    clear HM0 HB0
    by_cases hlt : k < s.length
    · have hlt' : (k : Int) < (s.length : Int) := by omega
      obtain ⟨g, off, rfl, hg, hP⟩ := HAT.out (by omega)
      have hgw : g < wr.heap.size := Nat.lt_of_lt_of_le hg HI.out.1.size
      have hpa := hP k hlt
      have hpw := HWF.out (atP s k) (by rw [atP_eq hlt]; exact List.getElem_mem _)
      have htk : fstP (s.take (k + 1)) = stepF (fstP (s.take k)) (atP s k) := by rw [← fstP_snoc, List.take_add_one, List.getElem?_eq_getElem hlt, atP_eq hlt]; rfl
      have HOK := Lib.hid (fstP_ok (s.take k))
      generalize fstP (s.take k) = acc at HI htk HOK
      generalize atP s k = p at hpa hpw htk
      obtain ⟨pv, tv, ak, an, sx⟩ := p
      have HPW := Lib.hid hpw
      have x0 : wr.cell? ⟨g, off + k * 5, none⟩ = some (.string pv) := by rw [HI.out.1.cell (p := ⟨g, off + k * 5, none⟩) hg]; exact hpa.c0
      have x1 : wr.cell? ⟨g, off + k * 5 + 1, none⟩ = some (.string tv) := by rw [HI.out.1.cell (p := ⟨g, off + k * 5 + 1, none⟩) hg]; exact hpa.c1
      have x2 : wr.cell? ⟨g, off + k * 5 + 2, none⟩ = some (.int .i8 ak) := by rw [HI.out.1.cell (p := ⟨g, off + k * 5 + 2, none⟩) hg]; exact hpa.c2
      have x3 : wr.cell? ⟨g, off + k * 5 + 3, none⟩ = some (.int .i64 an) := by rw [HI.out.1.cell (p := ⟨g, off + k * 5 + 3, none⟩) hg]; exact hpa.c3
      have x4 : wr.cell? ⟨g, off + k * 5 + 4, none⟩ = some (.string sx) := by rw [HI.out.1.cell (p := ⟨g, off + k * 5 + 4, none⟩) hg]; exact hpa.c4
      have hk0 : (0 : Int) ≤ (k : Int) := by omega
      have ha1 : Below wr.heap.size wr (wr.alloc (.cells #[.string pv, .string tv, .int .i8 ak, .int .i64 an, .string sx] 125)) := (Below.refl _ _).alloc (Nat.le_refl _) _
      have HR1 := Lib.hid (rl_new wr #[.string pv, .string tv, .int .i8 ak, .int .i64 an, .string sx] 125)
      have HM1 := Lib.hid (HI.out.2.below ha1)
      have b1 := HI.out.1.trans (ha1.mono HI.out.1.size)
      have HTK := Lib.hid htk
      clear HI hpa hpw htk ha1 hg hP
      go_upto_region 5 with fail
      generalize wr.alloc (.cells #[.string pv, .string tv, .int .i8 ak, .int .i64 an, .string sx] 125) = W1 at HR1 HM1 b1 ⊢
      clear x0 x1 x2 x3 x4
      have y0 := HR1.out.at (j := 0) rfl
      have hlk := HM1.out.look (n := pv) HOK.out.nd HPW.out.text
      by_cases hany : acc.any (fun q => decide (q.v = pv)) = true
      · obtain ⟨q, hq⟩ := lookP_yes hany
        rw [hq] at hlk
        have hst : fstP (s.take (k + 1)) = acc := by rw [HTK.out]; unfold stepF; rw [if_pos (.inr (.inr hany))]
        have ha2 : Below W1.heap.size W1 (W1.alloc (.cells #[.string q.t.v, .int .i8 q.t.a.k, .int .i64 q.t.a.n, .string q.t.a.s] 51)) := (Below.refl _ _).alloc (Nat.le_refl _) _
        have HN : Hid (Below w.heap.size w (W1.alloc (.cells #[.string q.t.v, .int .i8 q.t.a.k, .int .i64 q.t.a.n, .string q.t.a.s] 51)) ∧ MapT (W1.alloc (.cells #[.string q.t.v, .int .i8 q.t.a.k, .int .i64 q.t.a.n, .string q.t.a.s] 51)) w.heap.size (fstP (s.take (k + 1)))) := ⟨b1.trans (ha2.mono b1.size), by rw [hst]; exact HM1.out.below ha2⟩
        clear hst hq hany HTK HR1 HM1 b1 ha2
        generalize q.t.v = qv at hlk HN
        generalize q.t.a.k = qk at hlk HN
        generalize q.t.a.n = qn at hlk HN
        generalize q.t.a.s = qs at hlk HN
        go_wp2
        go_roundw
        case rel => exact ⟨k + 1, by omega, by go_num, HN⟩
        case measure => simp [intOf]; omega
      · have hfr : ∀ q ∈ acc, q.v ≠ pv := fun q hq e => hany (List.any_eq_true.2 ⟨q, hq, by simpa using e⟩)
        rw [lookP_no hfr] at hlk
        have HFR := Lib.hid hfr
        have ha2 : Below W1.heap.size W1 (W1.alloc (.cells #[.string ⟨#[]⟩, .int .i8 0, .int .i64 0, .string ⟨#[]⟩] 51)) := (Below.refl _ _).alloc (Nat.le_refl _) _
        have HR2 := Lib.hid (HR1.out.below ha2)
        have HM2 := Lib.hid (HM1.out.below ha2)
        have b2 := b1.trans (ha2.mono b1.size)
        have HAN := Lib.hid hany
        clear HR1 HM1 b1 ha2 hfr hany
        go_upto_region 6 with fail
        generalize W1.alloc (.cells #[.string ⟨#[]⟩, .int .i8 0, .int .i64 0, .string ⟨#[]⟩] 51) = W2 at HR2 HM2 b2 ⊢
        clear hlk y0
        have y0 := HR2.out.at (j := 0) rfl
        by_cases e0 : pv = noS
        · have he : pv.toList.isEmpty = true := by rw [e0, ByteArray.toList_eq]; rfl
          have HN : Hid (Below w.heap.size w W2 ∧ MapT W2 w.heap.size (fstP (s.take (k + 1)))) := ⟨b2, by rw [HTK.out]; unfold stepF; rw [if_pos (.inl e0)]; exact HM2.out⟩
          clear HR2 HM2 HTK HFR b2 HPW HAN e0
          go_wp2
          go_roundw
          case rel => exact ⟨k + 1, by omega, by go_num, HN⟩
          case measure => simp [intOf]; omega
        · have he := some_iff pv e0
          by_cases eb : pv = blankS
          · have hbk : (pv.toList == [95]) = true := by rw [eb, ByteArray.toList_eq]; rfl
            have HN : Hid (Below w.heap.size w W2 ∧ MapT W2 w.heap.size (fstP (s.take (k + 1)))) := ⟨b2, by rw [HTK.out]; unfold stepF; rw [if_pos (.inr (.inl eb))]; exact HM2.out⟩
            clear HR2 HM2 HTK HFR b2 HPW HAN e0 eb
            go_wp2
            go_roundw
            case rel => exact ⟨k + 1, by omega, by go_num, HN⟩
            case measure => simp [intOf]; omega
          · have hbk := blank_iff eb
            have hst : fstP (s.take (k + 1)) = acc ++ [⟨pv, tv, ak, an, sx⟩] := by rw [HTK.out]; unfold stepF; rw [if_neg (fun h => by rcases h with h | h | h; exact e0 h; exact eb h; exact HAN.out h)]
            have y1 := HR2.out.at (j := 1) rfl
            have y2 := HR2.out.at (j := 2) rfl
            have y3 := HR2.out.at (j := 3) rfl
            have y4 := HR2.out.at (j := 4) rfl
            obtain ⟨w3, hput, hm3, ht3⟩ := HM2.out.put (p := ⟨pv, tv, ak, an, sx⟩) HPW.out.text HFR.out
            have hput' : (Instr.mapUpdate 94 (.map (some w.heap.size)) (.string pv) (.agg #[.string tv, .int .i8 ak, .int .i64 an, .string sx])).run Tryd.prog W2 = .ok () w3 := hput
            have HN : Hid (Below w.heap.size w w3 ∧ MapT w3 w.heap.size (fstP (s.take (k + 1)))) := ⟨b2.grown ht3.grown b2.size (fun j hj => by cases hj; exact Nat.le_refl _), by rw [hst]; exact hm3⟩
            clear hput hm3 ht3 HR2 HM2 HTK HFR b2 HPW HAN e0 eb hst
            go_wp2
            go_roundw
            case rel => exact ⟨k + 1, by omega, by go_num, HN⟩
            case measure => simp [intOf]; omega
    · obtain rfl : k = s.length := by omega
      have HM := Lib.hid HI.out.2
      rw [List.take_length] at HM
      have HB := Lib.hid HI.out.1
      clear HI
      go_wp2
      go_ret
      exact ⟨rfl, HM.out, HB.out⟩
end Go.Proofs.YteabclfhmapabaaDoor
end
section
namespace Go.Proofs.YteabclfhmapabaaDoor
open Go.RowKit Go.Maps
set_option linter.unusedVariables false
set_option linter.unusedSimpArgs false
attribute [local go_sem ↓] Go.wp_at_zero Go.wp_at_succ

/-- a term is put down at a place: its four cells turn, nothing else that was there -/
structure Pt (w : World) (g o : Nat) (t : T) (w' : World) : Prop where
  os : w'.os = w.os
  tape : w'.tape = w.tape
  output : w'.output = w.output
  size : w.heap.size ≤ w'.heap.size
  blk : ∀ b, b < w.heap.size → b ≠ g → w'.heap[b]? = w.heap[b]?
  term : TAt w' g o t
  oth : ∀ j, (j < o ∨ o + 4 ≤ j) → w'.cell? ⟨g, j, none⟩ = w.cell? ⟨g, j, none⟩
  frz : ∀ j, w'.frozen? ⟨g, j, none⟩ = w.frozen? ⟨g, j, none⟩
theorem Pt.same {w w' : World} {g o : Nat} {t : T} (hb : Below w.heap.size w w') (ht : TAt w g o t) (hg : g < w.heap.size) : Pt w g o t w' :=
  ⟨hb.os, hb.tape, hb.output, hb.size, fun b h _ => hb.block b h, ht.below hb hg, fun j _ => hb.cell (p := ⟨g, j, none⟩) hg, fun j => hb.frozen (p := ⟨g, j, none⟩) hg⟩
theorem Pt.store {w w' : World} {g o : Nat} {u t0 : T} (hb : Below w.heap.size w w') (ht : TAt w g o t0) (hg : g < w.heap.size)
    (hfr : ∀ j, ((((w'.setCell ⟨g, o, none⟩ (.string u.v)).setCell ⟨g, o + 1, none⟩ (.int .i8 u.a.k)).setCell ⟨g, o + 2, none⟩ (.int .i64 u.a.n)).setCell ⟨g, o + 3, none⟩ (.string u.a.s)).frozen? ⟨g, j, none⟩ = w'.frozen? ⟨g, j, none⟩) :
    Pt w g o u ((((w'.setCell ⟨g, o, none⟩ (.string u.v)).setCell ⟨g, o + 1, none⟩ (.int .i8 u.a.k)).setCell ⟨g, o + 2, none⟩ (.int .i64 u.a.n)).setCell ⟨g, o + 3, none⟩ (.string u.a.s)) := by
  have h0 := ht.below hb hg
  obtain ⟨c0, c1, c2, c3⟩ := h0
  refine ⟨hb.os, hb.tape, hb.output, by simp only [World.size_setCell]; exact hb.size, fun b h1 h2 => ?_, ⟨?_, ?_, ?_, ?_⟩, fun j hj => ?_, fun j => ?_⟩
  · rw [heap_setCell_other _ _ _ _ (by exact h2), heap_setCell_other _ _ _ _ (by exact h2), heap_setCell_other _ _ _ _ (by exact h2), heap_setCell_other _ _ _ _ (by exact h2)]
    exact hb.block b h1
  · go_simp
  · go_simp
  · go_simp
  · go_simp
  · have e := World.cell?_setCells_out g [.string u.v, .int .i8 u.a.k, .int .i64 u.a.n, .string u.a.s] o w' ⟨g, j, none⟩ (fun _ _ => hj)
    have e2 : (w'.setCells g o [.string u.v, .int .i8 u.a.k, .int .i64 u.a.n, .string u.a.s]) = ((((w'.setCell ⟨g, o, none⟩ (.string u.v)).setCell ⟨g, o + 1, none⟩ (.int .i8 u.a.k)).setCell ⟨g, o + 2, none⟩ (.int .i64 u.a.n)).setCell ⟨g, o + 3, none⟩ (.string u.a.s)) := rfl
    rw [← e2, e]
    exact hb.cell (p := ⟨g, j, none⟩) hg
  · rw [hfr j]
    exact hb.frozen (p := ⟨g, j, none⟩) hg
set_option maxHeartbeats 1600000 in
set_option maxRecDepth 100000 in
theorem putAt_any {bm g o : Nat} {s : List P} {t : T} {w : World} (hm : MapT w bm s) (nd : (s.map P.v).Nodup) (ht : TAt w g o t) (hf : ∀ i, i < 4 → w.frozen? ⟨g, o + i, none⟩ = false) (hw : t.wf) :
    Calls Tryd.prog 31 #[.map (some bm), .pointer (some ⟨g, o, none⟩)] w fun e w' => (∃ u, e = .returned u) ∧ Pt w g o (res s t) w' := by
  have hg : g < w.heap.size := World.block_lt_of_cell? _ _ ht.c0
  have x0 := ht.c0
  have hlk := hm.look nd hw.text
  unfold lookP at hlk
  have hres : res s t = match s.find? (fun p => decide (p.v = t.v)) with | some p => p.t | none => t := rfl
  cases hfi : s.find? (fun p => decide (p.v = t.v)) with
  | none =>
    rw [hfi] at hlk hres
    simp only at hlk hres
    rw [hres]
    have HK : Hid (∀ ob : Obj, Pt w g o t (w.alloc ob)) := fun ob => Pt.same ((Below.refl _ _).alloc (Nat.le_refl _) ob) ht hg
    generalize t.v = tv at x0 hlk
    clear hres hfi hf hw nd hm
    go_enter Tryd.func31, Tryd.ntmps31
    go_wp2
    go_end0
    exact ⟨⟨_, rfl⟩, HK.out _⟩
  | some p =>
    rw [hfi] at hlk hres
    simp only at hlk hres
    rw [hres]
    obtain ⟨pv, tv, ak, an, sx⟩ := p
    have hb : Below w.heap.size w (w.alloc (.cells #[.string tv, .int .i8 ak, .int .i64 an, .string sx] 51)) := (Below.refl _ _).alloc (Nat.le_refl _) _
    have HR := Lib.hid (rl_new w #[.string tv, .int .i8 ak, .int .i64 an, .string sx] 51)
    have hq := ht.below hb hg
    have HF : Hid (∀ i, i < 4 → (w.alloc (.cells #[.string tv, .int .i8 ak, .int .i64 an, .string sx] 51)).frozen? ⟨g, o + i, none⟩ = false) := fun i hi => by rw [hb.frozen (p := ⟨g, o + i, none⟩) hg]; exact hf i hi
    have HP : Hid (∀ W', (∀ j, ((((W'.setCell ⟨g, o, none⟩ (.string tv)).setCell ⟨g, o + 1, none⟩ (.int .i8 ak)).setCell ⟨g, o + 2, none⟩ (.int .i64 an)).setCell ⟨g, o + 3, none⟩ (.string sx)).frozen? ⟨g, j, none⟩ = W'.frozen? ⟨g, j, none⟩) → Below w.heap.size w W' → Pt w g o ⟨tv, ak, an, sx⟩ ((((W'.setCell ⟨g, o, none⟩ (.string tv)).setCell ⟨g, o + 1, none⟩ (.int .i8 ak)).setCell ⟨g, o + 2, none⟩ (.int .i64 an)).setCell ⟨g, o + 3, none⟩ (.string sx))) := fun W' h1 h2 => Pt.store (u := ⟨tv, ak, an, sx⟩) h2 ht hg h1
    have HB := Lib.hid hb
    generalize hqv : t.v = qv at x0 hlk
    clear hres hfi hf hw nd hm hb
    unfold T.val at hlk
    simp only at hlk
    go_enter Tryd.func31, Tryd.ntmps31
    go_upto_region 1 with fail
    generalize w.alloc (.cells #[.string tv, .int .i8 ak, .int .i64 an, .string sx] 51) = W1 at HR HF HB hq ⊢
    clear x0 hlk
    obtain ⟨c0, c1, c2, c3⟩ := hq
    have f0 := HF.out 0 (by omega)
    have f1 := HF.out 1 (by omega)
    have f2 := HF.out 2 (by omega)
    have f3 := HF.out 3 (by omega)
    rw [Nat.add_zero] at f0
    have y0 := HR.out.at (j := 0) rfl
    have y1 := HR.out.at (j := 1) rfl
    have y2 := HR.out.at (j := 2) rfl
    have y3 := HR.out.at (j := 3) rfl
    clear HR hqv
    go_wp2
    go_end0
    exact ⟨⟨_, rfl⟩, HP.out _ (fun j => by simp) HB.out⟩
end Go.Proofs.YteabclfhmapabaaDoor
end
