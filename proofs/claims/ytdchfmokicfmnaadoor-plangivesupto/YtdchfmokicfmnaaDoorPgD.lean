import Derived.Test.YtdchfmokicfmnaaDoorPgR
import Derived.Test.YtdchfmokicfmnaaDoorA29
import Derived.Test.YtdchfmokicfmnaaDoorA16
namespace Go.Proofs.YtdchfmokicfmnaaDoor
open Go.RowKit Go.Maps Go.Shelf
set_option linter.unusedVariables false
set_option linter.unusedSimpArgs false
attribute [local go_sem ↓] Go.wp_at_zero Go.wp_at_succ

theorem load_planP {u : World} {b : Nat} {t : TypeId} {x y z v : Value} (h : RL u b t [x, y, z, v]) : (loadVar 28 ⟨b, 0, none⟩).run Tryd.prog u = .ok (.agg #[x, y, z, v]) u :=
  run_loadVar_mid u b 0 28 [x, y, z, v] _ (RL.range h) Tryd.underlying28 rfl (by kernel_rfl)
theorem load_ruleP {u : World} {b : Nat} {t : TypeId} {x y z v : Value} (h : RL u b t [x, y, z, v]) : (loadVar 25 ⟨b, 0, none⟩).run Tryd.prog u = .ok (.agg #[x, y, z]) u :=
  load_ruP (cs := [x, y, z]) (fun j v hv => by
    have hj : j < 3 := (List.getElem?_eq_some_iff.1 hv).1
    have hj6 : j = 0 ∨ j = 1 ∨ j = 2 := by omega
    rcases hj6 with rfl | rfl | rfl <;> exact RL.at h hv) rfl
theorem load_litsQ {u : World} {a : Addr} {v : Value} (h : u.cell? a = some v) : (loadVar 23 a).run Tryd.prog u = .ok v u := by rw [loadVar.eq_1]; go_simp
theorem load_litX {u : World} {b : Nat} {t : TypeId} {cs : List Value} (h : RL u b t cs) (hl : cs.length = 16) : (loadVar 54 ⟨b, 0, none⟩).run Tryd.prog u = .ok (.agg cs.toArray) u := load_Lit (RL.range h) hl
theorem literalOwn_any (d : Nat) (x : Lit4) (p : LP) (w : World) (hL : LIs w d x p) (hn : (termsL d x).length ≤ 4398046511104) : Calls Tryd.prog 7 #[x.val p] w fun r w' => ∃ sv, r = .returned sv ∧ w'.ownsRow w.heap.size 9 1 sv (vsT [] (termsL d x)).length ((vsT [] (termsL d x)).flatMap strB) ∧ Below w.heap.size w w' := by
  have b0 := (Below.refl w.heap.size w).alloc (Nat.le_refl _) (.cells #[.int .i8 x.k, .string x.pr, .slice p.a x.ts.length p.c, .int .i8 x.rel, .int .i8 x.l.op, .string x.l.t.v, .int .i8 x.l.t.a.k, .int .i64 x.l.t.a.n, .string x.l.t.a.s, .slice p.la x.l.kids.length p.lc, .int .i8 x.r.op, .string x.r.t.v, .int .i8 x.r.t.a.k, .int .i64 x.r.t.a.n, .string x.r.t.a.s, .slice p.ra x.r.kids.length p.rc] 54)
  have HV : Hid _ := variablesLiteral_any w.heap.size d x p _ (by simp) (lat_rl (rl_new w #[.int .i8 x.k, .string x.pr, .slice p.a x.ts.length p.c, .int .i8 x.rel, .int .i8 x.l.op, .string x.l.t.v, .int .i8 x.l.t.a.k, .int .i64 x.l.t.a.n, .string x.l.t.a.s, .slice p.la x.l.kids.length p.lc, .int .i8 x.r.op, .string x.r.t.v, .int .i8 x.r.t.a.k, .int .i64 x.r.t.a.n, .string x.r.t.a.s, .slice p.ra x.r.kids.length p.rc] 54)) (hL.below b0) hn
  have HB : Hid (Below w.heap.size w _) := b0
  clear hL
  unfold Lit4.val
  go_enter Tryd.func7, Tryd.ntmps7
  go_wp2_with fail
  refine Calls.mono HV.out ?_
  rintro ee w1 ⟨sv, rfl, ho, b1⟩
  go_wp2
  go_ret
  exact ⟨_, rfl, own_base ho b0.size, b0.trans (b1.mono b0.size)⟩
/-- what a right step is, of the literal it takes -/
structure RdM (d : Nat) (l : List XL) (ss : List ByteArray) (left : Nat) (L : XL) (s : St) (k : Nat) : Prop where
  ki : s.i = (k : Int)
  st : s = stL (d + 1) ss l k
  kn : k < l.length
  at_ : L = atL l k
  giv : GivM (d + 1) ss L.x s
  tak : TakM (d + 1) l (ss ++ s.g) (clrN left k)
  len : s.g.length ≤ 1048576
  lt : clrN left k < left
  cols : L.x.ts.length ≤ 24
  vars : (termsL (d + 1) L.x).length ≤ 1048576 + 1048576 + 24
  mkd : (L.x.k = 3 ∧ s.m = 0 ∧ ((s.k = 5 ∧ s.g.length = 0) ∨ (s.k = 6 ∧ s.g.length = 1 ∧ L.x.rel = 1))) ∨ ((L.x.k = 1 ∨ L.x.k = 2) ∧ s.m = ((colM ss L.x.ts L.x.ts.length : Nat) : Int) ∧ MkOk L.x (colM ss L.x.ts L.x.ts.length) L.x.ts.length s.k)
  kd : L.x.k = 1 ∨ L.x.k = 2 ∨ L.x.k = 3
theorem litB_kd {x : Lit4} (h : litB x = true) : x.k = 1 ∨ x.k = 2 ∨ x.k = 3 := by
  unfold litB at h
  split at h
  · next h1 => rcases h1 with h1 | h1 <;> simp [h1]
  · split at h
    · next h3 => simp [h3]
    · cases h
theorem rdM_of {d : Nat} {l : List XL} {ss : List ByteArray} {left : Nat} {s : St} (hB : BdR (d + 1) l) (hx : l.all (fun y => litB y.x) = true) (hl : left < 2 ^ l.length) (hT : TakM (d + 1) l ss left) (h : okW (d + 1) l ss left s = true) : ∃ k, RdM d l ss left (atL l k) s k := by
  obtain ⟨k, e1, e2, e3, e4, e5⟩ := okW_out hl h
  have hbn := hB.bn
  have hlx : litB (atL l k).x = true := by
    rw [List.all_eq_true] at hx
    rw [atL_eq e2]
    exact hx _ (List.getElem_mem e2)
  have hg := stM_gives (d := d + 1) (ss := ss) (k := k) hlx e4
  have hk := litB_kd hlx
  refine ⟨k, e1, e5, e2, rfl, by rw [e5]; exact hg, by rw [e5]; exact takM_step hB.bn hx e2 e4 hT, ?_, clrN_lt (by omega) e3, hB.bc k e2, ?_, ?_, hk⟩
  · rw [e5]
    exact stM_glen _ _ _ _ (hB.bc k e2) (hB.bl k e2) (hB.br k e2)
  · have a1 := hB.bc k e2
    have a2 := hB.bl k e2
    have a3 := hB.br k e2
    unfold szD at a2 a3
    unfold termsL
    rw [List.length_append, List.length_append]
    omega
  · rw [e5]
    rcases hk with h1 | h1 | h1
    · exact .inr ⟨.inl h1, stM_kind (.inl h1) e4⟩
    · exact .inr ⟨.inr h1, stM_kind (.inr h1) e4⟩
    · exact .inl ⟨h1, cmp_kind hlx h1 e4⟩
theorem marked_all {w : World} {d k left : Nat} {l : List XL} {ss : List ByteArray} {L : XL} {s : St} (hR : RdM d l ss left L s k) {hv : Value} {a : Option Addr} {c : Nat} (hX : LIs w (d + 1) L.x L.p) (hl : Ls w hv ss.length (ss.flatMap strB)) :
    Calls Tryd.prog 9 #[L.x.val L.p, .agg #[.int .i8 s.k, .int .i64 s.i, .int .u32 s.m, .slice a s.g.length c], hv] w fun e w' => e = .returned (.bool true) ∧ Below w.heap.size w w' := by
  rcases hR.mkd with ⟨h1, h2, h3⟩ | ⟨h1, h2, h3⟩
  · rw [h2]
    exact marked_cmp h1 h3
  · rw [h2]
    exact marked_atom hX hl hR.cols h1 h3
theorem takM_start (d : Nat) (l : List XL) (ss : List ByteArray) : TakM d l ss (2 ^ l.length - 1) := by
  intro i hi hb
  rw [Nat.testBit_two_pow_sub_one, decide_eq_true hi] at hb
  cases hb
theorem takM_end {d : Nat} {l : List XL} {ss : List ByteArray} (h : TakM d l ss 0) : ∀ y ∈ l, ∀ n ∈ vsT [] (termsL d y.x), n ∈ ss := by
  intro y hy n hn
  obtain ⟨i, hi, e⟩ := List.getElem_of_mem hy
  refine h i hi (Nat.zero_testBit i) n ?_
  rw [atL_eq hi, e]
  exact hn
theorem inB_no {ss : List ByteArray} {s : ByteArray} (h : s ∉ ss) : inB ss s = false := Bool.eq_false_iff.2 (fun hh => h (inB_iff.1 hh))
theorem newL_out {ss g : List ByteArray} (h : NewL ss g) {i : Nat} (hi : i < g.length) : inB ss (atS g i) = false ∧ inB (g.take i) (atS g i) = false := by
  have h1 := newL_at h hi
  rw [List.mem_append] at h1
  exact ⟨inB_no (fun hh => h1 (.inl hh)), inB_no (fun hh => h1 (.inr hh))⟩
theorem atS_mem {l : List ByteArray} {i : Nat} (hi : i < l.length) : atS l i ∈ l := by
  unfold atS
  rw [List.getD, List.getElem?_eq_getElem hi]
  exact List.getElem_mem hi
theorem ls_take {w : World} {a : Option Addr} {c : Nat} {l : List ByteArray} (h : Ls w (.slice a l.length c) l.length (l.flatMap strB)) {k : Nat} (hk : k ≤ l.length) : Ls w (.slice a k c) (l.take k).length ((l.take k).flatMap strB) := by
  obtain ⟨h1, a', c', e, h2, h3, h4⟩ := h
  injection e with e1 e2 e3
  subst e1 e3
  have e5 : (l.take k).length = k := by rw [List.length_take]; omega
  rw [e5]
  refine ⟨Nat.le_trans hk h1, a, c, rfl, Nat.le_trans hk h2, h3, fun h0 => ?_⟩
  obtain ⟨g, off, e6, hg, hf⟩ := h4 (by omega)
  refine ⟨g, off, e6, hg, fun i hi => ?_⟩
  have e7 : l.flatMap strB = (l.take k).flatMap strB ++ (l.drop k).flatMap strB := by rw [← List.flatMap_append, List.take_append_drop]
  have hi' : i < (l.flatMap strB).length := by rw [e7, List.length_append]; omega
  have := hf i hi'
  rw [this]
  simp only [e7, List.getElem_append_left hi]
theorem rdM_go {d k left : Nat} {l : List XL} {ss l0 : List ByteArray} {left0 : Nat} {L : XL} {xs : List SX} {j : Nat} (hj : j < xs.length) (hR : RdM d l ss left L (atZ xs j).s k) (h : goR (d + 1) l l0 left0 ((xs.take j).map SX.s) = some (ss, left)) (hx : okW (d + 1) l ss left (atZ xs j).s = true) : goR (d + 1) l l0 left0 ((xs.take (j + 1)).map SX.s) = some (ss ++ (atZ xs j).s.g, clrN left k) := by
  have h1 := goR_goes hj h hx
  rw [hR.ki, Int.toNat_natCast, ← hR.st] at h1
  exact h1
/-- what a yes of Right tells -/
structure RgM (d : Nat) (r : R3) (l : List ByteArray) (ss : List St) : Prop where
  rb : ruleB (d + 1) r = true
  lim : ∃ fs, LimK (d + 1) l r fs ∧ fs.length = (vsT [] (termsR (d + 1) r)).length
  go : ∃ s2, goR (d + 1) r.bd l (2 ^ r.bd.length - 1) ss = some (s2, 0)
theorem rgM_of {d : Nat} {r : R3} {l : List ByteArray} {ss : List St} {e : Ending} (h : (e = .returned (.bool false) ∧ (ruleB (d + 1) r = false ∨ knB l l.length = false ∨ ∃ fs, LimK (d + 1) l r fs ∧ fs.length ≠ (vsT [] (termsR (d + 1) r)).length)) ∨
       (ruleB (d + 1) r = true ∧ knB l l.length = true ∧ ∃ fs, LimK (d + 1) l r fs ∧ fs.length = (vsT [] (termsR (d + 1) r)).length ∧ e = .returned (.bool (endR (goR (d + 1) r.bd l (2 ^ r.bd.length - 1) ss))))) : ∃ b, e = .returned (.bool b) ∧ (b = true → RgM d r l ss) := by
  rcases h with ⟨rfl, _⟩ | ⟨h1, _, fs, h3, h4, rfl⟩
  · exact ⟨false, rfl, fun h => by cases h⟩
  · refine ⟨_, rfl, fun h => ⟨h1, ⟨fs, h3, h4⟩, ?_⟩⟩
    generalize goR (d + 1) r.bd l (2 ^ r.bd.length - 1) ss = o at h ⊢
    rcases o with _ | ⟨s2, left⟩
    · cases h
    · exact ⟨s2, by rw [show left = 0 from of_decide_eq_true h]⟩
theorem litsB_of {d : Nat} {r : R3} (h : ruleB d r = true) : r.bd.all (fun y => litB y.x) = true := by
  unfold ruleB at h
  simp only [Bool.and_eq_true] at h
  exact h.2.2.2.2.1
/-- amid the walk over the steps -/
structure LpM (d : Nat) (r : R3) (l : List ByteArray) (xs : List SX) (j : Nat) (ss : List ByteArray) (left : Nat) : Prop where
  go : goR (d + 1) r.bd l (2 ^ r.bd.length - 1) ((xs.take j).map SX.s) = some (ss, left)
  lt : left < 2 ^ r.bd.length
  tak : TakM (d + 1) r.bd ss left
  sub : ∀ n ∈ l, n ∈ ss
  len : ss.length + 1048576 * left ≤ 68720525312
theorem LpM.start {d : Nat} {r : R3} {l : List ByteArray} (xs : List SX) (hB : BdR (d + 1) r.bd) (hl : l.length ≤ 1048576) : LpM d r l xs 0 l (2 ^ r.bd.length - 1) := by
  have h1 : (2 : Nat) ^ r.bd.length ≤ 65536 := Nat.le_trans (Nat.pow_le_pow_right (by omega) hB.bn) (by decide)
  have h2 : 1 ≤ (2 : Nat) ^ r.bd.length := Nat.one_le_two_pow
  exact ⟨rfl, by omega, takM_start _ _ _, fun n h => h, by omega⟩
theorem LpM.step {d : Nat} {r : R3} {l : List ByteArray} {xs : List SX} {j : Nat} {ss : List ByteArray} {left : Nat} (h : LpM d r l xs j ss left) (hB : BdR (d + 1) r.bd) (hx : r.bd.all (fun y => litB y.x) = true) (hG : RgM d r l (xs.map SX.s)) (hj : j < xs.length) : ∃ k, RdM d r.bd ss left (atL r.bd k) (atZ xs j).s k ∧ LpM d r l xs (j + 1) (ss ++ (atZ xs j).s.g) (clrN left k) := by
  obtain ⟨s2, hg⟩ := hG.go
  have hok := goR_prefix hg hj h.go
  obtain ⟨k, hk⟩ := rdM_of hB hx h.lt h.tak hok
  refine ⟨k, hk, rdM_go hj hk h.go hok, Nat.lt_of_le_of_lt (clrN_le _ _) h.lt, hk.tak, fun n hn => List.mem_append.2 (.inl (h.sub n hn)), ?_⟩
  have h1 := h.len
  have h2 := hk.len
  have h3 := hk.lt
  rw [List.length_append]
  omega
theorem LpM.end_ {d : Nat} {r : R3} {l : List ByteArray} {xs : List SX} {ss : List ByteArray} {left : Nat} (h : LpM d r l xs xs.length ss left) (hG : RgM d r l (xs.map SX.s)) : ∀ n ∈ vsT [] (termsR (d + 1) r), n ∈ ss := by
  obtain ⟨s2, hg⟩ := hG.go
  obtain ⟨fs, hf, he⟩ := hG.lim
  have h1 := h.go
  rw [List.take_length, hg] at h1
  injection h1 with h1
  injection h1 with h1 h2
  have h3 := h.tak
  rw [← h2] at h3
  exact lim_all hf he h.sub (takM_end h3)
theorem GivM.has {d : Nat} {ss : List ByteArray} {x : Lit4} {s : St} (h : GivM d ss x s) {m : Nat} (hm : m < (vsT [] (termsL d x)).length) : inB (ss ++ s.g) (atS (vsT [] (termsL d x)) m) = true := inB_iff.2 (h.all _ (atS_mem hm))
theorem GivM.has2 {d : Nat} {ss : List ByteArray} {x : Lit4} {s : St} (h : GivM d ss x s) {m : Nat} (hm : m < s.g.length) : inB (vsT [] (termsL d x)) (atS s.g m) = true := inB_iff.2 (h.own _ (atS_mem hm))
end Go.Proofs.YtdchfmokicfmnaaDoor
