import Derived.Test.YtgplipfebnigiaaGreatDoorG16
import Derived.Test.YtgplipfebnigiaaGreatDoorG17
import Derived.Deep.MidRow
import Derived.Deep.WholeRow
section
namespace Go.Proofs.YtgplipfebnigiaaGreatDoor
open Go.RowKit Go.Maps
set_option linter.unusedVariables false
set_option linter.unusedSimpArgs false
attribute [local go_sem ↓] Go.wp_at_zero Go.wp_at_succ

theorem EIs.len {w : World} {d : Nat} {e : E} {a : Option Addr} {c : Nat} (h : EIs w d e a c) : e.kids.length ≤ 281474976710656 := by
  cases d with
  | zero => exact h.elim
  | succ d => exact h.1.2
theorem termsL_wf {w : World} {d : Nat} {x : Lit4} {p : LP} (h : LIs w d x p) : ∀ t ∈ termsL d x, t.wf := by
  intro t ht
  unfold termsL at ht
  rcases List.mem_append.1 ht with h1 | h1
  · exact h.ts.wf t h1
  · rcases List.mem_append.1 h1 with h2 | h2
    · exact termsD_wf d _ _ _ h.l t h2
    · exact termsD_wf d _ _ _ h.r t h2
theorem tcells_take {ts : List T} {k : Nat} (h : k < ts.length) : (ts.take (k + 1)).flatMap T.cells = (ts.take k).flatMap T.cells ++ T.cells (atT ts k) := by
  rw [List.take_succ_eq_append_getElem h, List.flatMap_append, atT_eq h]
  simp
set_option maxHeartbeats 3200000 in
theorem literalTerms_any (d : Nat) (x : Lit4) (p : LP) (w : World) (hL : LIs w d x p) (hs : x.ts.length ≤ 1048576) (hl : szD d x.l ≤ 1048576) (hr : szD d x.r ≤ 1048576) :
    Calls Tryz.prog 81 #[.slice none 0 0, x.val p] w fun r w' => ∃ sv, r = .returned sv ∧ Ls w' sv (termsL d x).length ((termsL d x).flatMap T.cells) ∧ Below w.heap.size w w' := by
  obtain ⟨i0, hi0, hz0, hz1, hz2⟩ := info_parts infoTm
  have HB0 : Hid (Below w.heap.size w (w.alloc (.cells #[.int .i8 x.k, .string x.pr, .slice p.a x.ts.length p.c, .int .i8 x.rel, .int .i8 x.l.op, .string x.l.t.v, .int .i8 x.l.t.a.k, .int .i64 x.l.t.a.n, .string x.l.t.a.s, .slice p.la x.l.kids.length p.lc, .int .i8 x.r.op, .string x.r.t.v, .int .i8 x.r.t.a.k, .int .i64 x.r.t.a.n, .string x.r.t.a.s, .slice p.ra x.r.kids.length p.rc] 89))) := (Below.refl _ _).alloc (Nat.le_refl _) _
  have HRL : Hid (RL (w.alloc (.cells #[.int .i8 x.k, .string x.pr, .slice p.a x.ts.length p.c, .int .i8 x.rel, .int .i8 x.l.op, .string x.l.t.v, .int .i8 x.l.t.a.k, .int .i64 x.l.t.a.n, .string x.l.t.a.s, .slice p.la x.l.kids.length p.lc, .int .i8 x.r.op, .string x.r.t.v, .int .i8 x.r.t.a.k, .int .i64 x.r.t.a.n, .string x.r.t.a.s, .slice p.ra x.r.kids.length p.rc] 89)) w.heap.size 89 [.int .i8 x.k, .string x.pr, .slice p.a x.ts.length p.c, .int .i8 x.rel, .int .i8 x.l.op, .string x.l.t.v, .int .i8 x.l.t.a.k, .int .i64 x.l.t.a.n, .string x.l.t.a.s, .slice p.la x.l.kids.length p.lc, .int .i8 x.r.op, .string x.r.t.v, .int .i8 x.r.t.a.k, .int .i64 x.r.t.a.n, .string x.r.t.a.s, .slice p.ra x.r.kids.length p.rc]) := rl_new w #[.int .i8 x.k, .string x.pr, .slice p.a x.ts.length p.c, .int .i8 x.rel, .int .i8 x.l.op, .string x.l.t.v, .int .i8 x.l.t.a.k, .int .i64 x.l.t.a.n, .string x.l.t.a.s, .slice p.la x.l.kids.length p.lc, .int .i8 x.r.op, .string x.r.t.v, .int .i8 x.r.t.a.k, .int .i64 x.r.t.a.n, .string x.r.t.a.s, .slice p.ra x.r.kids.length p.rc] 89
  have HLI : Hid (LIs (w.alloc (.cells #[.int .i8 x.k, .string x.pr, .slice p.a x.ts.length p.c, .int .i8 x.rel, .int .i8 x.l.op, .string x.l.t.v, .int .i8 x.l.t.a.k, .int .i64 x.l.t.a.n, .string x.l.t.a.s, .slice p.la x.l.kids.length p.lc, .int .i8 x.r.op, .string x.r.t.v, .int .i8 x.r.t.a.k, .int .i64 x.r.t.a.n, .string x.r.t.a.s, .slice p.ra x.r.kids.length p.rc] 89)) d x p) := hL.below HB0.out
  have HTM : Hid (x.ts ++ (termsD d x.l ++ termsD d x.r) = termsL d x) := rfl
  obtain ⟨tm, htm⟩ : ∃ tm, termsL d x = tm := ⟨_, rfl⟩
  rw [htm] at HTM ⊢
  have HSZ : Hid (szD d x.l ≤ 1048576 ∧ szD d x.r ≤ 1048576) := ⟨hl, hr⟩
  clear hL hl hr htm
  unfold Lit4.val
  go_enter Tryz.func81, Tryz.ntmps81
  go_upto_region 1 with fail
  generalize w.alloc (.cells #[.int .i8 x.k, .string x.pr, .slice p.a x.ts.length p.c, .int .i8 x.rel, .int .i8 x.l.op, .string x.l.t.v, .int .i8 x.l.t.a.k, .int .i64 x.l.t.a.n, .string x.l.t.a.s, .slice p.la x.l.kids.length p.lc, .int .i8 x.r.op, .string x.r.t.v, .int .i8 x.r.t.a.k, .int .i64 x.r.t.a.n, .string x.r.t.a.s, .slice p.ra x.r.kids.length p.rc] 89) = W at HB0 HRL HLI ⊢
  obtain ⟨a1, c1, e1, hc1, hc2, hat⟩ := HLI.out.ts.form
  cases e1
  have HAT : Hid _ := hat
  have hbW : w.heap.size < W.heap.size := World.rowIs.lt HRL.out
  have HRu : Hid (∀ u, Below W.heap.size W u → RL u w.heap.size 89 [.int .i8 x.k, .string x.pr, .slice p.a x.ts.length p.c, .int .i8 x.rel, .int .i8 x.l.op, .string x.l.t.v, .int .i8 x.l.t.a.k, .int .i64 x.l.t.a.n, .string x.l.t.a.s, .slice p.la x.l.kids.length p.lc, .int .i8 x.r.op, .string x.r.t.v, .int .i8 x.r.t.a.k, .int .i64 x.r.t.a.n, .string x.r.t.a.s, .slice p.ra x.r.kids.length p.rc]) := fun u hu => RL.below HRL.out hu
  clear hat
  go_wp2
  go_loopw [0, 5] (fun lv i wr => ∃ (k : Nat) (a' : Option Addr) (c' : Nat), k ≤ x.ts.length ∧ i = .int .i64 k ∧ lv = .slice a' k c' ∧ Hid (wr.ownsRow W.heap.size 46 4 (.slice a' k c') k ((x.ts.take k).flatMap T.cells)) ∧ Below W.heap.size W wr) (fun _ i _ => x.ts.length - (intOf i).toNat)
  case atStart => exact ⟨0, none, 0, Nat.zero_le _, rfl, rfl, World.ownsRow_nil _ _ _ _, Below.refl _ _⟩
  case round =>
    obtain ⟨k, a', c', hk, rfl, rfl, HO, bel⟩ := hrel
    have hR := HRu.out wr bel
    by_cases hlt : k < x.ts.length
    · have hlt' : (k : Int) < (x.ts.length : Int) := by omega
      have hk0 : (0 : Int) ≤ (k : Int) := by omega
      obtain ⟨g, off, hpa, hg, hT⟩ := HAT.out (by omega)
      have y2 := hR.at (j := 2) rfl
      rw [hpa] at y2
      obtain ⟨x0, x1, x2, x3⟩ := (hT k hlt).below bel hg
      have HTK : Hid _ := tcells_take hlt
      generalize atT x.ts k = t at x0 x1 x2 x3 HTK
      have hzw := bel.size
      clear hT hpa hR
      go_wp2_with (at_builtin; refine wpList_append_own_at _ rfl _ _ 59 rfl W.heap.size 46 i0 _ 4 48 Tryz.underlying59 hi0 hz0 hz1 hz2 rfl (by decide) _ _ _ rfl (own_below HO.out ((Below.refl _ _).alloc (Nat.le_refl _) _)) ⟨_, 0, none⟩ 1 1 [.string t.v, .int .i8 t.a.k, .int .i64 t.a.n, .string t.a.s] rfl rfl (lit_news _ #[.string t.v, .int .i8 t.a.k, .int .i64 t.a.n, .string t.a.s] _) (by simp [Value.oneCell']) (by unfold maxLen; omega) (by omega) (by simp; omega) ?_; intro v' w2 hown' hgrow hnil hloc)
      obtain ⟨a2, c2, rfl, _⟩ := own_form hown'
      go_roundw
      case rel => exact ⟨k + 1, a2, c2, by omega, by go_num, rfl, by show World.ownsRow _ _ _ _ _ _ _; rw [HTK.out]; exact hown', (bel.alloc bel.size _).grown hgrow (by simp; omega) (fun j hj => (HO.out.lt j hj).1)⟩
      case measure => simp [intOf]; omega
    · obtain rfl : k = x.ts.length := by omega
      rw [List.take_length] at HO
      have y4 := hR.at (j := 4) rfl
      have y5 := hR.at (j := 5) rfl
      have y6 := hR.at (j := 6) rfl
      have y7 := hR.at (j := 7) rfl
      have y8 := hR.at (j := 8) rfl
      have y9 := hR.at (j := 9) rfl
      have y2 := hR.at (j := 2) rfl
      have hzw := bel.size
      have HX1 : Hid _ := exprTerms_any (w0 := W) d x.l p.la p.lc (.slice a' x.ts.length c') x.ts wr HLI.out.l bel hzw HO.out (by have := HSZ.out.1; omega)
      unfold E.val at HX1
      clear hR
      go_wp2_with fail
      refine Calls.mono HX1.out ?_
      rintro ee w1 ⟨sv1, rfl, ho1, hg1⟩
      have bel1 : Below W.heap.size W w1 := bel.grown hg1.gr hzw (fun j hj => (HO.out.lt j hj).1)
      have hm3 : x.ts ++ termsD d x.l ++ termsD d x.r = tm := by rw [List.append_assoc]; exact HTM.out
      have hm4 : (x.ts ++ termsD d x.l).length ≤ 3000000 := by have := HSZ.out.1; unfold szD at this; rw [List.length_append]; omega
      generalize x.ts ++ termsD d x.l = m1 at ho1 hm3 hm4
      have HM3 : Hid (m1 ++ termsD d x.r = tm) := hm3
      clear hm3
      have HO1 : Hid _ := ho1
      obtain ⟨b1, d1, rfl, _⟩ := own_form ho1
      have hR1 := HRu.out w1 bel1
      have z10 := hR1.at (j := 10) rfl
      have z11 := hR1.at (j := 11) rfl
      have z12 := hR1.at (j := 12) rfl
      have z13 := hR1.at (j := 13) rfl
      have z14 := hR1.at (j := 14) rfl
      have z15 := hR1.at (j := 15) rfl
      have hzw1 := bel1.size
      have HX2 : Hid _ := exprTerms_any (w0 := W) d x.r p.ra p.rc _ m1 w1 HLI.out.r bel1 hzw1 HO1.out (by have := HSZ.out; omega)
      unfold E.val at HX2
      clear hR1 HX1 hg1 ho1 y2 y4 y5 y6 y7 y8 y9
      go_wp2_with fail
      refine Calls.mono HX2.out ?_
      rintro ee w2 ⟨sv2, rfl, ho2, hg2⟩
      have bel2 : Below W.heap.size W w2 := bel1.grown hg2.gr hzw1 (fun j hj => (World.ownsRow.lt HO1.out j hj).1)
      clear z10 z11 z12 z13 z14 z15 HX2 hg2
      rw [HM3.out] at ho2
      go_wp2
      go_ret
      exact ⟨_, rfl, ls_own ho2, HB0.out.trans (bel2.mono HB0.out.size)⟩
end Go.Proofs.YtgplipfebnigiaaGreatDoor
end
section
namespace Go.Proofs.YtgplipfebnigiaaGreatDoor
open Go.RowKit Go.Maps
set_option linter.unusedVariables false
set_option linter.unusedSimpArgs false

/-- an argument of a head: its aggregate, its term -/
structure A5 where
  g : Int
  t : T
def A5.cells (x : A5) : List Value := [.int .i8 x.g, .string x.t.v, .int .i8 x.t.a.k, .int .i64 x.t.a.n, .string x.t.a.s]
structure A5.wf (x : A5) : Prop where
  gb : -128 ≤ x.g ∧ x.g ≤ 127
  t : x.t.wf
def A50 : A5 := ⟨0, T0⟩
def atA (l : List A5) (i : Nat) : A5 := l.getD i A50
theorem atA_eq {l : List A5} {i : Nat} (h : i < l.length) : atA l i = l[i] := by simp [atA, List.getD, List.getElem?_eq_getElem h]
def XL0 : XL := ⟨⟨0, noS, [], 0, E0, E0⟩, ⟨none, 0, none, 0, none, 0⟩⟩
def atL (l : List XL) (i : Nat) : XL := l.getD i XL0
theorem atL_eq {l : List XL} {i : Nat} (h : i < l.length) : atL l i = l[i] := by simp [atL, List.getD, List.getElem?_eq_getElem h]
theorem range_below {w w' : World} {g o : Nat} {cs : List Value} (h : w.rangeAt g o cs) (b : Below w.heap.size w w') (hg : g < w.heap.size) : w'.rangeAt g o cs := fun j v hv => by
  rw [b.cell (p := ⟨g, o + j, none⟩) hg]
  exact h j v hv
theorem range_block {w w' : World} {g o : Nat} {cs : List Value} (h : w.rangeAt g o cs) (e : w'.heap[g]? = w.heap[g]?) : w'.rangeAt g o cs := fun j v hv => by
  have : w'.cell? ⟨g, o + j, none⟩ = w.cell? ⟨g, o + j, none⟩ := by unfold World.cell?; rw [e]
  rw [this]
  exact h j v hv
/-- a list in memory: each element's cells -/
theorem ls_range {α : Type} {f : α → List Value} {k : Nat} (hk : ∀ x, (f x).length = k) (z : α) {w : World} {v : Value} {l : List α} (h : Ls w v l.length (l.flatMap f)) :
    ∃ a c, v = .slice a l.length c ∧ l.length ≤ c ∧ c ≤ maxLen ∧ (0 < l.length → ∃ g off, a = some ⟨g, off, none⟩ ∧ g < w.heap.size ∧ ∀ i, i < l.length → w.rangeAt g (off + i * k) (f (l.getD i z))) := by
  obtain ⟨hn, a, c, hv, h1, h2, hc⟩ := h
  refine ⟨a, c, hv, h1, h2, fun h0 => ?_⟩
  obtain ⟨g, off, ha, hg, hf⟩ := hc h0
  refine ⟨g, off, ha, hg, fun i hi j u hu => ?_⟩
  have hj : j < k := by rw [← hk (l.getD i z)]; exact (List.getElem?_eq_some_iff.1 hu).1
  have := hf.elem hk z hi hj hu
  rw [← Nat.add_assoc] at this
  exact this
theorem ls_of_range {α : Type} {f : α → List Value} {k : Nat} (hk0 : 0 < k) (hk : ∀ x, (f x).length = k) (z : α) {w : World} {g c : Nat} {l : List α} (hc1 : l.length ≤ c) (hc2 : c ≤ maxLen) (hg : g < w.heap.size) (h : ∀ i, i < l.length → w.rangeAt g (i * k) (f (l.getD i z))) :
    Ls w (.slice (some ⟨g, 0, none⟩) l.length c) l.length (l.flatMap f) := by
  refine ⟨Nat.le_trans hc1 hc2, _, c, rfl, hc1, hc2, fun _ => ⟨g, 0, rfl, hg, fun i hi => ?_⟩⟩
  have hl := flat_len f k hk l
  have hi2 : i / k < l.length := (Nat.div_lt_iff_lt_mul hk0).2 (by rw [← hl]; exact hi)
  have hm : i % k < k := Nat.mod_lt _ hk0
  have hx := flat_at f k hk z l (i / k) (i % k) hi2 hm
  have he : i / k * k + i % k = i := by rw [Nat.mul_comm]; exact Nat.div_add_mod i k
  rw [he, List.getElem?_eq_getElem hi] at hx
  have := h (i / k) hi2 (i % k) _ hx.symm
  rw [he] at this
  rw [Nat.zero_add]
  exact this
/-- a list of arguments, a list of literals, in memory -/
structure La (w : World) (v : Value) (l : List A5) : Prop where
  lies : Ls w v l.length (l.flatMap A5.cells)
  wf : ∀ t ∈ l, t.wf
structure Lb (w : World) (v : Value) (d : Nat) (l : List XL) : Prop where
  lies : Ls w v l.length (l.flatMap XL.cells)
  each : ∀ y ∈ l, LIs w d y.x y.p
theorem La.below {w w' : World} {v : Value} {l : List A5} (h : La w v l) (b : Below w.heap.size w w') : La w' v l := ⟨h.lies.below b, h.wf⟩
theorem Lb.below {w w' : World} {v : Value} {d : Nat} {l : List XL} (h : Lb w v d l) (b : Below w.heap.size w w') : Lb w' v d l := ⟨h.lies.below b, fun y hy => (h.each y hy).below b⟩
theorem La.form {w : World} {v : Value} {l : List A5} (h : La w v l) : ∃ a c, v = .slice a l.length c ∧ l.length ≤ c ∧ c ≤ maxLen ∧ (0 < l.length → ∃ g off, a = some ⟨g, off, none⟩ ∧ g < w.heap.size ∧ ∀ i, i < l.length → w.rangeAt g (off + i * 5) (atA l i).cells) := ls_range (f := A5.cells) (k := 5) (fun _ => rfl) A50 h.lies
theorem Lb.form {w : World} {v : Value} {d : Nat} {l : List XL} (h : Lb w v d l) : ∃ a c, v = .slice a l.length c ∧ l.length ≤ c ∧ c ≤ maxLen ∧ (0 < l.length → ∃ g off, a = some ⟨g, off, none⟩ ∧ g < w.heap.size ∧ ∀ i, i < l.length → w.rangeAt g (off + i * 16) (atL l i).cells) := ls_range (f := XL.cells) (k := 16) (fun _ => rfl) XL0 h.lies
theorem La.at_wf {w : World} {v : Value} {l : List A5} (h : La w v l) {i : Nat} (hi : i < l.length) : (atA l i).wf := by rw [atA_eq hi]; exact h.wf _ (List.getElem_mem hi)
theorem Lb.at_is {w : World} {v : Value} {d : Nat} {l : List XL} (h : Lb w v d l) {i : Nat} (hi : i < l.length) : LIs w d (atL l i).x (atL l i).p := by rw [atL_eq hi]; exact h.each _ (List.getElem_mem hi)
theorem lat_range {w : World} {g o : Nat} {y : XL} (h : w.rangeAt g o y.cells) : LAt w g o y.x y.p :=
  ⟨h 0 _ rfl, h 1 _ rfl, h 2 _ rfl, h 3 _ rfl, ⟨h 4 _ rfl, h 5 _ rfl, h 6 _ rfl, h 7 _ rfl, h 8 _ rfl, h 9 _ rfl⟩, ⟨h 10 _ rfl, h 11 _ rfl, h 12 _ rfl, h 13 _ rfl, h 14 _ rfl, h 15 _ rfl⟩⟩
theorem XL.val_eq (y : XL) : Value.agg y.cells.toArray = y.x.val y.p := rfl
/-- a rule, and where its lists lie -/
structure R3 where
  pr : ByteArray
  hd : List A5
  bd : List XL
structure RP where
  a : Option Addr
  c : Nat
  ba : Option Addr
  bc : Nat
def R3.cells (r : R3) (p : RP) : List Value := [.string r.pr, .slice p.a r.hd.length p.c, .slice p.ba r.bd.length p.bc]
def R3.val (r : R3) (p : RP) : Value := .agg #[.string r.pr, .slice p.a r.hd.length p.c, .slice p.ba r.bd.length p.bc]
structure RIs (w : World) (d : Nat) (r : R3) (p : RP) : Prop where
  pb : r.pr.size ≤ maxLen
  hl : r.hd.length ≤ 281474976710656
  bl : r.bd.length ≤ 281474976710656
  hd : La w (.slice p.a r.hd.length p.c) r.hd
  bd : Lb w (.slice p.ba r.bd.length p.bc) d r.bd
theorem RIs.below {w w' : World} {d : Nat} {r : R3} {p : RP} (h : RIs w d r p) (b : Below w.heap.size w w') : RIs w' d r p := ⟨h.pb, h.hl, h.bl, h.hd.below b, h.bd.below b⟩
/-- the terms of a rule, in their order -/
def termsR (d : Nat) (r : R3) : List T := r.hd.map A5.t ++ r.bd.flatMap (fun y => termsL d y.x)
/-- is it an argument, a rule as it may be? -/
def argB (x : A5) : Bool := if x.g = 0 then namedB x.t else if x.g = 1 then decide (x.t = T0) else if x.g = 2 ∨ x.g = 3 ∨ x.g = 4 then namedB x.t && !decide (x.t.v = noS) else false
def ruleB (d : Nat) (r : R3) : Bool := nameB r.pr && (decide (r.hd.length ≤ 24) && (decide (r.bd.length ≤ 16) && (r.hd.all argB && (r.bd.all (fun y => litB y.x) && decide ((vsT [] (termsR d r)).length ≤ 24)))))
theorem allA_not {f : A5 → Bool} {l : List A5} {k : Nat} (h : k < l.length) (hn : f (atA l k) = false) : l.all f = false := by
  rw [← Bool.not_eq_true]
  intro ha
  rw [List.all_eq_true] at ha
  rw [atA_eq h] at hn
  rw [ha _ (List.getElem_mem h)] at hn
  cases hn
theorem allA_take {f : A5 → Bool} {l : List A5} {k : Nat} (h : k < l.length) : (l.take (k + 1)).all f = ((l.take k).all f && f (atA l k)) := by
  have e : l.take (k + 1) = l.take k ++ [l[k]] := by rw [List.take_add_one, List.getElem?_eq_getElem h]; rfl
  rw [e, List.all_append, atA_eq h]
  simp
theorem allL_not {f : XL → Bool} {l : List XL} {k : Nat} (h : k < l.length) (hn : f (atL l k) = false) : l.all f = false := by
  rw [← Bool.not_eq_true]
  intro ha
  rw [List.all_eq_true] at ha
  rw [atL_eq h] at hn
  rw [ha _ (List.getElem_mem h)] at hn
  cases hn
theorem allL_take {f : XL → Bool} {l : List XL} {k : Nat} (h : k < l.length) : (l.take (k + 1)).all f = ((l.take k).all f && f (atL l k)) := by
  have e : l.take (k + 1) = l.take k ++ [l[k]] := by rw [List.take_add_one, List.getElem?_eq_getElem h]; rfl
  rw [e, List.all_append, atL_eq h]
  simp
/-- stores of several cells, one behind the other -/
theorem rowIs_setCells {b : Nat} {t : TypeId} {n : Nat} : ∀ (vs : List Value) (o : Nat) (w : World) (f : Nat → Value), w.rowIs b t n f → (w.setCells b o vs).rowIs b t n (fun j => if o ≤ j ∧ j < o + vs.length then vs.getD (j - o) .nilIface else f j)
  | [], o, w, f, h => by
    rw [World.setCells]
    refine World.rowIs.congr h fun j _ => ?_
    rw [if_neg (fun hh => Nat.not_lt.2 hh.1 (by simpa using hh.2))]
  | v :: r, o, w, f, h => by
    rw [World.setCells]
    refine (rowIs_setCells r (o + 1) _ _ (World.rowIs.set h o v)).congr fun j _ => ?_
    by_cases e : j = o
    · subst e
      rw [if_neg (by omega), if_pos rfl, if_pos ⟨Nat.le_refl _, by simp⟩]
      simp [List.getD]
    · by_cases h1 : o + 1 ≤ j ∧ j < o + 1 + r.length
      · rw [if_pos h1, if_pos ⟨by omega, by simp; omega⟩]
        obtain ⟨i, rfl⟩ : ∃ i, j = o + (i + 1) := ⟨j - o - 1, by omega⟩
        rw [show o + (i + 1) - (o + 1) = i by omega, show o + (i + 1) - o = i + 1 by omega]
        simp [List.getD]
      · rw [if_neg h1, if_neg e, if_neg (by simp; omega)]
theorem below_setCells {B : Nat} {w0 : World} {b : Nat} (hb : B ≤ b) : ∀ (vs : List Value) (o : Nat) (w : World), Below B w0 w → Below B w0 (w.setCells b o vs)
  | [], _, _, h => h
  | v :: r, o, w, h => by rw [World.setCells]; exact below_setCells hb r (o + 1) _ (h.setCell (p := ⟨b, o, none⟩) hb _)
theorem size_setCells {b : Nat} : ∀ (vs : List Value) (o : Nat) (w : World), (w.setCells b o vs).heap.size = w.heap.size
  | [], _, _ => rfl
  | v :: r, o, w => by rw [World.setCells, size_setCells r]; simp
theorem heap_setCells_other {b k : Nat} (hk : k ≠ b) : ∀ (vs : List Value) (o : Nat) (w : World), (w.setCells b o vs).heap[k]? = w.heap[k]?
  | [], _, _ => rfl
  | v :: r, o, w => by rw [World.setCells, heap_setCells_other hk r]; exact heap_setCell_other _ _ _ _ hk
theorem twL_setCells {lo d b : Nat} {x : Lit4} {p : LP} (hb : b < lo) : ∀ (vs : List Value) (o : Nat) (w : World), TwL w lo d x p → TwL (w.setCells b o vs) lo d x p
  | [], _, _, h => h
  | v :: r, o, w, h => by rw [World.setCells]; exact twL_setCells hb r (o + 1) _ ⟨h.ts.set hb, h.l.set hb, h.r.set hb⟩
theorem TwL.lower {w : World} {lo lo' d : Nat} (hl : lo' ≤ lo) {x : Lit4} {p : LP} (h : TwL w lo d x p) : TwL w lo' d x p := ⟨h.ts.lower hl, h.l.lower hl, h.r.lower hl⟩
/-- a row of elements of sz cells -/
def rowF (sz : Nat) (U : Nat → List Value) : Nat → Value := fun j => (U (j / sz)).getD (j % sz) .nilIface
theorem rowF_set {w : World} {b sz n k : Nat} {t : TypeId} {U : Nat → List Value} (hsz : 0 < sz) (h : w.rowIs b t n (rowF sz U)) (vs : List Value) (hv : vs.length = sz) : (w.setCells b (k * sz) vs).rowIs b t n (rowF sz (fun i => if i = k then vs else U i)) := by
  refine (rowIs_setCells vs (k * sz) w _ h).congr fun j _ => ?_
  have hdm := Nat.div_add_mod j sz
  have hm := Nat.mod_lt j hsz
  rw [Nat.mul_comm] at hdm
  by_cases e : j / sz = k
  · subst e
    rw [hv, if_pos ⟨by omega, by omega⟩]
    unfold rowF
    show _ = (if j / sz = j / sz then vs else U (j / sz)).getD (j % sz) _
    rw [if_pos rfl, show j - j / sz * sz = j % sz by omega]
  · rw [hv, if_neg]
    · unfold rowF
      show _ = (if j / sz = k then vs else U (j / sz)).getD (j % sz) _
      rw [if_neg e]
    · rintro ⟨h1, h2⟩
      apply e
      refine Nat.div_eq_of_lt_le (by rw [Nat.mul_comm] at h1 ⊢; first | exact h1 | (rw [Nat.mul_comm]; exact h1)) ?_
      rw [Nat.succ_mul]
      omega
theorem rowF_range {w : World} {b sz n m : Nat} {t : TypeId} {U : Nat → List Value} (h : w.rowIs b t n (rowF sz U)) (hn : n = m * sz) {i : Nat} (hi : i < m) (hu : (U i).length = sz) : w.rangeAt b (i * sz) (U i) := fun j v hv => by
  have hj : j < sz := by rw [← hu]; exact (List.getElem?_eq_some_iff.1 hv).1
  have hlt : i * sz + j < n := by
    rw [hn]
    calc i * sz + j < i * sz + sz := by omega
      _ = (i + 1) * sz := by rw [Nat.succ_mul]
      _ ≤ m * sz := Nat.mul_le_mul_right _ hi
  rw [World.rowIs.cell h hlt]
  have e1 : (i * sz + j) / sz = i := by rw [Nat.mul_comm, Nat.mul_add_div (by omega), Nat.div_eq_of_lt hj, Nat.add_zero]
  have e2 : (i * sz + j) % sz = j := by rw [Nat.mul_comm, Nat.mul_add_mod, Nat.mod_eq_of_lt hj]
  unfold rowF
  rw [e1, e2]
  simp [List.getD, hv]
theorem rowF_there {w : World} {b sz n m : Nat} {t : TypeId} {U : Nat → List Value} (h : w.rowIs b t n (rowF sz U)) (hn : n = m * sz) {i : Nat} (hi : i < m) : w.there b (i * sz) sz := fun j hj => by
  have hlt : i * sz + j < n := by
    rw [hn]
    calc i * sz + j < i * sz + sz := by omega
      _ = (i + 1) * sz := by rw [Nat.succ_mul]
      _ ≤ m * sz := Nat.mul_le_mul_right _ hi
  exact ⟨by rw [World.rowIs.cell h hlt]; rfl, World.rowIs.frozen h _⟩
theorem made_row (w : World) (z : Array Value) (t : TypeId) (n : Nat) (hz : 0 < z.size) : (w.alloc (.cells (madeCells z (n * z.size)) t)).rowIs w.heap.size t (n * z.size) (rowF z.size (fun _ => z.toList)) := by
  have h := World.rowIs_alloc w (madeCells z (n * z.size)) t (rowF z.size (fun _ => z.toList)) (fun i hi => by
    rw [size_madeCells] at hi
    have hm := Nat.mod_lt i hz
    simp [madeCells, hi, rowF, List.getD, hm])
  rwa [size_madeCells] at h
theorem oneCells_arg (x : A5) : (A5.cells x).toArray.all (·.oneCell') = true := by simp [A5.cells, Value.oneCell']
theorem oneCells_lit (y : XL) : (XL.cells y).toArray.all (·.oneCell') = true := by simp [XL.cells, Value.oneCell']
end Go.Proofs.YtgplipfebnigiaaGreatDoor
end
