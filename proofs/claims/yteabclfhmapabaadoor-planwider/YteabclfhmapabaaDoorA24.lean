import Derived.Test.YteabclfhmapabaaDoorPlSt
section
namespace Go.Proofs.YteabclfhmapabaaDoor
open Go.RowKit Go.Maps Go.ChangeMaps
set_option linter.unusedVariables false
set_option linter.unusedSimpArgs false
attribute [local go_sem ↓] Go.wp_at_zero Go.wp_at_succ

theorem bits_andNot32 (a b : Nat) (ha : a < 4294967296) (hb : b < 4294967296) : bits .andNot .u32 (a : Int) (b : Int) = ((a &&& (4294967295 - b) : Nat) : Int) := by
  have hx : a &&& (4294967295 - b) < 2 ^ 32 := Nat.and_lt_two_pow _ (by omega)
  have h1 : (BitVec.ofInt 32 (a : Int)).toNat = a := by
    rw [BitVec.ofInt_natCast, BitVec.toNat_ofNat]; exact Nat.mod_eq_of_lt (by omega)
  have h2 : (BitVec.ofInt 32 (b : Int)).toNat = b := by
    rw [BitVec.ofInt_natCast, BitVec.toNat_ofNat]; exact Nat.mod_eq_of_lt (by omega)
  show IntKind.u32.wrap ((BitVec.ofInt 32 (a : Int) &&& ~~~ BitVec.ofInt 32 (b : Int)).toNat : Int) = _
  rw [BitVec.toNat_and, BitVec.toNat_not, h1, h2, show (2 : Nat) ^ 32 - 1 - b = 4294967295 - b by omega]
  simp only [IntKind.wrap, IntKind.signed, IntKind.bits, Bool.false_and, Bool.false_eq_true, if_false]
  omega
/-- without one literal -/
def clrN (left k : Nat) : Nat := left &&& (4294967295 - 2 ^ k)
theorem clrN_le (left k : Nat) : clrN left k ≤ left := Nat.and_le_left
/-- all but two blocks is as it was -/
structure Px (t k : Nat) (w w' : World) : Prop where
  os : w'.os = w.os
  tape : w'.tape = w.tape
  output : w'.output = w.output
  size : w.heap.size ≤ w'.heap.size
  block : ∀ b, b < w.heap.size → b ≠ t → b ≠ k → w'.heap[b]? = w.heap[b]?
theorem Px.of_below {t k : Nat} {w w' : World} (h : Below w.heap.size w w') : Px t k w w' := ⟨h.os, h.tape, h.output, h.size, fun b hb _ _ => h.block b hb⟩
theorem Px.trans {t k : Nat} {a b c : World} (h : Px t k a b) (h2 : Px t k b c) : Px t k a c :=
  ⟨h2.os.trans h.os, h2.tape.trans h.tape, h2.output.trans h.output, Nat.le_trans h.size h2.size, fun i hi h1 h3 => (h2.block i (Nat.lt_of_lt_of_le hi h.size) h1 h3).trans (h.block i hi h1 h3)⟩
theorem Px.turned {t k : Nat} {w w' : World} (h : w.mapTurned w' k) : Px t k w w' := by
  obtain ⟨es, c, es', c', hb, rfl⟩ := h
  exact ⟨rfl, rfl, rfl, by simp [setBlock], fun b hb _ hne => by
    unfold setBlock
    exact Array.getElem?_setIfInBounds_ne (fun e => hne e.symm)⟩
theorem Px.setCell {t k : Nat} (w : World) (o : Nat) (v : Value) : Px t k w (w.setCell ⟨t, o, none⟩ v) :=
  ⟨rfl, rfl, rfl, by simp [World.setCell], fun b hb h1 _ => Below.heap_setCell _ _ _ _ h1⟩
theorem Px.drew {t k : Nat} {a w : World} (h : Px t k a w) : Px t k a w.drew := ⟨h.os, h.tape, h.output, h.size, h.block⟩
theorem Px.below {t k B : Nat} {w w' : World} (h : Px t k w w') (hB : B ≤ w.heap.size) (ht : B ≤ t) (hk : B ≤ k) : Below B w w' := ⟨h.os, h.tape, h.output, h.size, fun b hb => h.block b (Nat.lt_of_lt_of_le hb hB) (by omega) (by omega)⟩
/-- none of a list is known, and none stands there twice -/
def NewL (ss g : List ByteArray) : Prop := (∀ x ∈ g, x ∉ ss) ∧ g.Nodup
theorem newL_at {ss g : List ByteArray} (h : NewL ss g) {i : Nat} (hi : i < g.length) : atS g i ∉ ss ++ g.take i := by
  have e : atS g i = g[i] := by
    unfold atS
    rw [List.getD, List.getElem?_eq_getElem hi]
    rfl
  rw [e, List.mem_append]
  rintro (h1 | h1)
  · exact h.1 _ (List.getElem_mem hi) h1
  · obtain ⟨j, hj, e2⟩ := List.getElem_of_mem h1
    rw [List.length_take] at hj
    rw [List.getElem_take] at e2
    have := (List.pairwise_iff_getElem.1 h.2) j i (by omega) hi (by omega)
    exact this e2
theorem load_intP {u : World} {a : Addr} {v : Value} (h : u.cell? a = some v) : (loadVar 3 a).run Tryd.prog u = .ok v u := by rw [loadVar.eq_1]; go_simp
theorem load_ssP {u : World} {a : Addr} {v : Value} (h : u.cell? a = some v) : (loadVar 26 a).run Tryd.prog u = .ok v u := by rw [loadVar.eq_1]; go_simp
attribute [-go_sem] loadVar
set_option maxHeartbeats 3200000 in
set_option maxRecDepth 100000 in
theorem take_any {w : World} {B tb kb : Nat} {v : Value} {ss : List ByteArray} {left : Nat} (hT : TuIs w tb kb v ss left) (s : St) {a : Option Addr} {c k : Nat} (hk : s.i = (k : Int)) (hk16 : k < 16) (hl : left < 4294967296) (own : w.ownsRow B 9 1 (.slice a s.g.length c) s.g.length (s.g.flatMap strB)) (htb : tb < B) (hkb : kb < B) (hsz : ∀ i, i < s.g.length → (atS s.g i).size ≤ maxLen) (hnd : NewL ss s.g) (hn : s.g.length ≤ 1048576) :
    Calls Tryd.prog 20 #[.pointer (some ⟨tb, 0, none⟩), s.val a c] w fun e w' => (∃ u, e = .returned u) ∧ TuIs w' tb kb v (ss ++ s.g) (clrN left k) ∧ Px tb kb w w' := by
  obtain ⟨sk, si, sm, g⟩ := s
  simp only at hk own hsz hnd hn
  subst hk
  unfold St.val
  simp only
  have hA0 := belowA (w := w) (.cells #[.int .i8 sk, .int .i64 (k : Int), .int .u32 sm, .slice a g.length c] 40)
  have HRB := Lib.hid (rl_new w #[.int .i8 sk, .int .i64 (k : Int), .int .u32 sm, .slice a g.length c] 40)
  have HTL := Lib.hid hT.rl.lt
  have HTR := Lib.hid (RL.below hT.rl hA0)
  have HTS := Lib.hid (hT.set.of_block (hA0.block kb hT.set.lt))
  have HKL := Lib.hid hT.set.lt
  have HNE := Lib.hid hT.ne
  have HOW := Lib.hid (own_below own hA0)
  have HB0 := Lib.hid hA0
  have HSZ := Lib.hid hsz
  have HND := Lib.hid hnd
  have hp : (2 : Nat) ^ k < 4294967296 := Nat.lt_of_lt_of_le (Nat.pow_lt_pow_right (by decide) hk16) (by decide)
  have hpm := pow_mask k (by omega)
  have han := bits_andNot32 left (2 ^ k) hl hp
  rw [show left &&& (4294967295 - 2 ^ k) = clrN left k from rfl] at han
  have hk0 : (0 : Int) ≤ (k : Int) := by omega
  clear own hT hA0 hsz hnd hp
  go_enter Tryd.func20, Tryd.ntmps20
  go_upto_region 1 with fail
  obtain ⟨W, hW⟩ : ∃ W, W = w.alloc (.cells #[.int .i8 sk, .int .i64 (k : Int), .int .u32 sm, .slice a g.length c] 40) := ⟨_, rfl⟩
  rw [← hW] at HRB HTR HTS HOW HB0 ⊢
  clear hW
  have c2 := RL.at HTR.out (j := 2) rfl
  have f2 := World.rowIs.frozen HTR.out 2
  have l1 := load_litsK (RL.at (RL.below HTR.out (Below.refl _ _).drew) (j := 2) rfl)
  have l2 := load_intP (RL.at (RL.below HRB.out (Below.refl _ _).drew) (j := 1) rfl)
  refine region_onceP ?_
  apply Exists.intro
  apply Exists.intro
  refine ⟨?_, ?_⟩
  · go_region
    all_goals exact ⟨rfl, rfl, rfl⟩
  simp only [Exit.then]
  have HEX : bits .andNot .u32 (left : Int) ((2 : Int) ^ k) = (clrN left k : Int) := by
    rw [← han, Int.natCast_pow]
    rfl
  rw [HEX]
  clear c2 f2 l1 l2 HEX
  obtain ⟨U, hU⟩ : ∃ U, U = (W.setCell ⟨tb, 2, none⟩ (.int .u32 (clrN left k : Int))).drew := ⟨_, rfl⟩
  rw [← hU]
  have HPX : Hid (Px tb kb W U) := by
    show Px _ _ _ _
    rw [hU]
    exact (Px.setCell W 2 _).drew
  have HTU : Hid (TuIs U tb kb v ss (clrN left k)) := by
    show TuIs _ _ _ _ _ _
    rw [hU]
    exact ⟨RL.below (HTR.out.set 2 _) (Below.refl _ _).drew, (HTS.out.of_block (Below.heap_setCell _ _ _ _ (Ne.symm HNE.out))).of_block rfl, HNE.out⟩
  have HBX : Hid (RL U w.heap.size 40 [.int .i8 sk, .int .i64 (k : Int), .int .u32 sm, .slice a g.length c]) := by
    show RL _ _ _ _
    rw [hU]
    exact RL.below (World.rowIs.of_block HRB.out (Below.heap_setCell _ _ _ _ (by have := HTL.out; simp; omega))) (Below.refl _ _).drew
  have HOU : Hid (U.ownsRow B 9 1 (.slice a g.length c) g.length (g.flatMap strB)) := by
    show World.ownsRow _ _ _ _ _ _ _
    rw [hU]
    exact own_below (ownsRow_setCell_below HOW.out (a := ⟨tb, 2, none⟩) htb _) (Below.refl _ _).drew
  have hzU : W.heap.size = U.heap.size := by rw [hU]; simp [World.setCell]
  clear hU HTR HTS HRB HOW hpm han
  have l3 := load_ssP (RL.at HBX.out (j := 3) rfl)
  obtain ⟨a', c', hac, hc1, hc2, hat⟩ := ls_str (ls_own HOU.out)
  injection hac with e1 e2 e3
  subst e1 e3
  have HAT := Lib.hid hat
  clear hat e2
  go_at_K
  go_wp2
  go_loopw [5, 19] (fun nm i wr => ∃ j : Nat, j ≤ g.length ∧ i = .int .i64 j ∧ Hid (TuIs wr tb kb v (ss ++ g.take j) (clrN left k)) ∧ Hid (Px tb kb U wr)) (fun _ i _ => g.length - (intOf i).toNat)
  case atStart => exact ⟨0, Nat.zero_le _, rfl, by rw [List.take_zero, List.append_nil]; exact HTU, Px.of_below (Below.refl _ _)⟩
  case round =>
    obtain ⟨j, hj, rfl, HTW, HPW⟩ := hrel
    by_cases hlt : j < g.length
    · have hlt' : (j : Int) < (g.length : Int) := by omega
      have hj0 : (0 : Int) ≤ (j : Int) := by omega
      obtain ⟨g1, off, rfl, hg, hce⟩ := HAT.out (by omega)
      have hB := (HOU.out.lt g1 rfl).1
      have l1 := load_strP ((World.cell?_of_block (w := U) (a := ⟨g1, off + j, none⟩) (HPW.out.block g1 hg (by omega) (by omega))).trans (hce j hlt))
      have l2 := load_knP (RL.at HTW.out.rl (j := 1) rfl)
      have HLE := Lib.hid (kn_learn HTW.out.set (HSZ.out j hlt) (newL_at HND.out hlt))
      have HTK := Lib.hid (take_atS hlt)
      generalize atS g j = x at l1 HLE HTK
      clear hce hB hg
      go_wp2_with fail
      refine HLE.out.mono ?_
      rintro e w2 ⟨⟨y, rfl⟩, hset, hmt⟩
      have HT2 : Hid (TuIs w2 tb kb v (ss ++ g.take (j + 1)) (clrN left k)) := by
        refine ⟨World.rowIs.of_block HTW.out.rl ((Px.turned (t := kb) hmt).block tb HTW.out.rl.lt HNE.out HNE.out), ?_, HNE.out⟩
        rw [HTK.out, ← List.append_assoc]
        exact hset
      have HP2 : Hid (Px tb kb U w2) := HPW.out.trans (Px.turned hmt)
      clear HLE l1 l2 hset hmt HTW HPW
      go_wp2
      go_roundw
      case rel => exact ⟨j + 1, by omega, by go_num, HT2, HP2⟩
      case measure => simp [intOf]; omega
    · obtain rfl : j = g.length := by omega
      rw [List.take_length] at HTW
      go_wp2
      go_end0
      exact ⟨⟨_, rfl⟩, HTW.out, ((Px.of_below HB0.out).trans HPX.out).trans HPW.out⟩
end Go.Proofs.YteabclfhmapabaaDoor
end
section
namespace Go.Proofs.YteabclfhmapabaaDoor
open Go.RowKit Go.Maps Go.ChangeMaps
set_option linter.unusedVariables false
set_option linter.unusedSimpArgs false
attribute [local go_sem ↓] Go.wp_at_zero Go.wp_at_succ
attribute [-go_sem] loadVar

/-! steps that lie somewhere; what they come to -/
structure SX where
  s : St
  a : Option Addr
  c : Nat
def SX.cells (y : SX) : List Value := [.int .i8 y.s.k, .int .i64 y.s.i, .int .u32 y.s.m, .slice y.a y.s.g.length y.c]
def SX0 : SX := ⟨⟨0, 0, 0, []⟩, none, 0⟩
def atZ (l : List SX) (i : Nat) : SX := l.getD i SX0
theorem atZ_eq {l : List SX} {i : Nat} (h : i < l.length) : atZ l i = l[i] := by simp [atZ, List.getD, List.getElem?_eq_getElem h]
structure Lz (w : World) (v : Value) (l : List SX) : Prop where
  lies : Ls w v l.length (l.flatMap SX.cells)
  each : ∀ y ∈ l, Ls w (.slice y.a y.s.g.length y.c) y.s.g.length (y.s.g.flatMap strB)
theorem Lz.below {w w' : World} {v : Value} {l : List SX} (h : Lz w v l) (b : Below w.heap.size w w') : Lz w' v l := ⟨h.lies.below b, fun y hy => (h.each y hy).below b⟩
theorem Lz.form {w : World} {v : Value} {l : List SX} (h : Lz w v l) : ∃ a c, v = .slice a l.length c ∧ l.length ≤ c ∧ c ≤ maxLen ∧ (0 < l.length → ∃ g off, a = some ⟨g, off, none⟩ ∧ g < w.heap.size ∧ ∀ i, i < l.length → w.rangeAt g (off + i * 4) (atZ l i).cells) := ls_range (f := SX.cells) (k := 4) (fun _ => rfl) SX0 h.lies
theorem Lz.at_is {w : World} {v : Value} {l : List SX} (h : Lz w v l) {i : Nat} (hi : i < l.length) : Ls w (.slice (atZ l i).a (atZ l i).s.g.length (atZ l i).c) (atZ l i).s.g.length ((atZ l i).s.g.flatMap strB) := by rw [atZ_eq hi]; exact h.each _ (List.getElem_mem hi)

/-- the step of a literal of a body -/
def stL (d : Nat) (ss : List ByteArray) (l : List XL) (k : Nat) : St := stM d ss (atL l k).x k
/-- is this the step to be taken? -/
def okW (d : Nat) (l : List XL) (ss : List ByteArray) (left : Nat) (s : St) : Bool := hasB left s.i && (((stL d ss l s.i.toNat).k != 0) && sameSt s (stL d ss l s.i.toNat))
def goR (d : Nat) (l : List XL) : List ByteArray → Nat → List St → Option (List ByteArray × Nat)
  | ss, left, [] => some (ss, left)
  | ss, left, s :: rest => if okW d l ss left s = true then goR d l (ss ++ (stL d ss l s.i.toNat).g) (clrN left s.i.toNat) rest else none
theorem goR_snoc (d : Nat) (l : List XL) : ∀ (a : List St) (s : St) (ss : List ByteArray) (left : Nat), goR d l ss left (a ++ [s]) = match goR d l ss left a with
    | some (ss', left') => if okW d l ss' left' s = true then some (ss' ++ (stL d ss' l s.i.toNat).g, clrN left' s.i.toNat) else none
    | none => none
  | [], s, ss, left => by simp [goR]
  | x :: a, s, ss, left => by
    rw [List.cons_append, goR, goR]
    split
    · exact goR_snoc d l a s _ _
    · rfl
theorem goR_none (d : Nat) (l : List XL) : ∀ (a b : List St) (ss : List ByteArray) (left : Nat), goR d l ss left a = none → goR d l ss left (a ++ b) = none
  | [], b, ss, left, h => by simp [goR] at h
  | x :: a, b, ss, left, h => by
    rw [goR] at h
    rw [List.cons_append, goR]
    split
    · next hx =>
      rw [if_pos hx] at h
      exact goR_none d l a b _ _ h
    · rfl
theorem take_atZ {l : List SX} {k : Nat} (h : k < l.length) : (l.take (k + 1)).map SX.s = (l.take k).map SX.s ++ [(atZ l k).s] := by
  rw [List.take_add_one, List.getElem?_eq_getElem h, atZ_eq h, List.map_append]
  rfl
theorem goR_fails {d : Nat} {l : List XL} {ss ss' : List ByteArray} {left left' : Nat} {xs : List SX} {j : Nat} (hj : j < xs.length) (h : goR d l ss left ((xs.take j).map SX.s) = some (ss', left')) (hx : okW d l ss' left' (atZ xs j).s = false) : goR d l ss left (xs.map SX.s) = none := by
  have h1 : goR d l ss left ((xs.take (j + 1)).map SX.s) = none := by
    rw [take_atZ hj, goR_snoc, h]
    simp [hx]
  have e : xs.map SX.s = (xs.take (j + 1)).map SX.s ++ (xs.drop (j + 1)).map SX.s := by rw [← List.map_append, List.take_append_drop]
  rw [e]
  exact goR_none d l _ _ _ _ h1
theorem goR_goes {d : Nat} {l : List XL} {ss ss' : List ByteArray} {left left' : Nat} {xs : List SX} {j : Nat} (hj : j < xs.length) (h : goR d l ss left ((xs.take j).map SX.s) = some (ss', left')) (hx : okW d l ss' left' (atZ xs j).s = true) : goR d l ss left ((xs.take (j + 1)).map SX.s) = some (ss' ++ (stL d ss' l (atZ xs j).s.i.toNat).g, clrN left' (atZ xs j).s.i.toNat) := by
  rw [take_atZ hj, goR_snoc, h]
  simp [hx]
/-- what a step gives is not known, and not twice there -/
theorem lackL_new (ss : List ByteArray) {l : List ByteArray} (h : l.Nodup) : NewL ss (lackL ss l) := by
  refine ⟨fun x hx hs => ?_, ?_⟩
  · have := (List.mem_filter.1 hx).2
    rw [inB_iff.2 hs] at this
    cases this
  · exact List.Nodup.sublist List.filter_sublist h
theorem vsT_nodup : ∀ (ts : List T) (out : List ByteArray), out.Nodup → (vsT out ts).Nodup
  | [], out, h => h
  | t :: ts, out, h => by
    rw [vsT]
    split
    · exact vsT_nodup ts out h
    · next hc =>
      refine vsT_nodup ts _ ?_
      rw [List.nodup_append]
      refine ⟨h, by simp, fun a ha b hb => ?_⟩
      rintro rfl
      rw [List.mem_singleton] at hb
      subst hb
      exact hc (Or.inr (Or.inr (inB_iff.2 ha)))
theorem newL_nil (ss : List ByteArray) : NewL ss [] := ⟨fun x hx => absurd hx (by simp), List.nodup_nil⟩
theorem stM_new (d : Nat) (ss : List ByteArray) (x : Lit4) (k : Nat) : NewL ss (stM d ss x k).g := by
  unfold stM
  split
  · exact lackL_new ss (vsT_nodup _ _ List.nodup_nil)
  · split
    · exact newL_nil ss
    · show NewL ss (cmpM x _ _).2
      unfold cmpM
      split
      · exact newL_nil ss
      · split
        · exact newL_nil ss
        · split
          · exact lackL_new ss (vsT_nodup _ _ List.nodup_nil)
          · split
            · exact lackL_new ss (vsT_nodup _ _ List.nodup_nil)
            · exact newL_nil ss
theorem lackL_szAll {ss l : List ByteArray} (h : ∀ x ∈ l, x.size ≤ maxLen) : ∀ x ∈ lackL ss l, x.size ≤ maxLen := fun x hx => h x (List.mem_filter.1 hx).1
theorem vsT_szAll {ts : List T} (h : ∀ t ∈ ts, t.wf) : ∀ x ∈ vsT [] ts, x.size ≤ maxLen := by
  intro x hx
  rcases vsT_mem _ _ _ hx with h1 | ⟨t, ht, e⟩
  · simp at h1
  · rw [← e]
    exact (h t ht).text
theorem stM_sz {w : World} {d : Nat} {x : Lit4} {q : LP} (h : LIs w d x q) (ss : List ByteArray) (k : Nat) : ∀ y ∈ (stM d ss x k).g, y.size ≤ maxLen := by
  have hl := lackL_szAll (ss := ss) (vsT_szAll (termsD_wf _ _ _ _ h.l))
  have hr := lackL_szAll (ss := ss) (vsT_szAll (termsD_wf _ _ _ _ h.r))
  unfold stM
  split
  · exact lackL_szAll (vsT_szAll h.ts.wf)
  · split
    · intro y hy
      cases hy
    · show ∀ y ∈ (cmpM x _ _).2, _
      unfold cmpM
      split
      · intro y hy
        cases hy
      · split
        · intro y hy
          cases hy
        · split
          · exact hl
          · split
            · exact hr
            · intro y hy
              cases hy
theorem stM_glen (d : Nat) (ss : List ByteArray) (x : Lit4) (k : Nat) (h0 : x.ts.length ≤ 24) (h1 : szD d x.l ≤ 1048576) (h2 : szD d x.r ≤ 1048576) : (stM d ss x k).g.length ≤ 1048576 := by
  have a0 := vsT_len x.ts []
  have a1 := vsT_len (termsD d x.l) []
  have a2 := vsT_len (termsD d x.r) []
  have b0 := lackL_len ss (vsT [] x.ts)
  have b1 := lackL_len ss (vsT [] (termsD d x.l))
  have b2 := lackL_len ss (vsT [] (termsD d x.r))
  simp only [List.length_nil] at a0 a1 a2
  unfold szD at h1 h2
  unfold stM
  split
  · show (lackL ss (vsT [] x.ts)).length ≤ _
    omega
  · split
    · simp
    · show (cmpM x _ _).2.length ≤ _
      unfold cmpM
      split
      · simp
      · split
        · simp
        · split
          · show (lackL ss (vsT [] (termsD d x.l))).length ≤ _
            omega
          · split
            · show (lackL ss (vsT [] (termsD d x.r))).length ≤ _
              omega
            · simp
/-- step, of a literal of a body -/
theorem step_any {w : World} {tb kb d k : Nat} {v : Value} {ss : List ByteArray} {left : Nat} {l : List XL} (hT : TuIs w tb kb v ss left) (hL : Lb w v d l) (hk : k < l.length) (hn : l.length ≤ 16) (hc : (atL l k).x.ts.length ≤ 24) (hs1 : szD d (atL l k).x.l ≤ 1048576) (hs2 : szD d (atL l k).x.r ≤ 1048576) :
    Calls Tryd.prog 18 #[.pointer (some ⟨tb, 0, none⟩), .int .i64 (k : Int)] w fun e w' => Below w.heap.size w w' ∧ ∃ a c, e = .returned (.tuple #[(stL d ss l k).val a c, .bool ((stL d ss l k).k != 0)]) ∧ w'.ownsRow w.heap.size 9 1 (.slice a (stL d ss l k).g.length c) (stL d ss l k).g.length ((stL d ss l k).g.flatMap strB) := by
  obtain ⟨a, c, rfl, hc1, hc2, hat⟩ := hL.form
  obtain ⟨g, off, rfl, hg, hr⟩ := hat (by omega)
  exact step_x hT hg (hr k hk) (hL.at_is hk) hk hn hc hs1 hs2
end Go.Proofs.YteabclfhmapabaaDoor
end
section
namespace Go.Proofs.YteabclfhmapabaaDoor
open Go.RowKit Go.Maps Go.ChangeMaps
set_option linter.unusedVariables false
set_option linter.unusedSimpArgs false
attribute [local go_sem ↓] Go.wp_at_zero Go.wp_at_succ
attribute [-go_sem] loadVar

def endR : Option (List ByteArray × Nat) → Bool
  | some (_, left) => decide (left = 0)
  | none => false
/-- what a rule's literals are bounded by -/
structure BdR (d : Nat) (l : List XL) : Prop where
  bn : l.length ≤ 16
  bc : ∀ i, i < l.length → (atL l i).x.ts.length ≤ 24
  bl : ∀ i, i < l.length → szD d (atL l i).x.l ≤ 1048576
  br : ∀ i, i < l.length → szD d (atL l i).x.r ≤ 1048576
theorem litB_cols {x : Lit4} (h : litB x = true) : x.ts.length ≤ 24 := by
  unfold litB at h
  split at h
  · simp only [Bool.and_eq_true] at h
    have h1 := h.1
    unfold atomB at h1
    simp only [Bool.and_eq_true, decide_eq_true_eq] at h1
    omega
  · split at h
    · simp only [Bool.and_eq_true, decide_eq_true_eq] at h
      omega
    · cases h
theorem bdR_of {d : Nat} {r : R3} (h : ruleB d r = true) (hT : (termsR d r).length ≤ 1048576) : BdR d r.bd := by
  have hl : ∀ i, i < r.bd.length → (termsL d (atL r.bd i).x).length ≤ 1048576 := fun i hi => by
    have h1 := mem_flatX (fun y => termsL d y.x) r.bd (atL r.bd i) (by rw [atL_eq hi]; exact List.getElem_mem hi)
    unfold termsR at hT
    rw [List.length_append] at hT
    exact Nat.le_trans h1 (by omega)
  unfold ruleB at h
  simp only [Bool.and_eq_true, decide_eq_true_eq, List.all_eq_true] at h
  refine ⟨h.2.2.1, fun i hi => ?_, fun i hi => ?_, fun i hi => ?_⟩
  · rw [atL_eq hi]
    exact litB_cols (h.2.2.2.2.1 _ (List.getElem_mem hi))
  · have h1 := hl i hi
    unfold termsL at h1
    rw [List.length_append, List.length_append] at h1
    unfold szD
    omega
  · have h1 := hl i hi
    unfold termsL at h1
    rw [List.length_append, List.length_append] at h1
    unfold szD
    omega
theorem load_ruP {u : World} {g o : Nat} {cs : List Value} (h : u.rangeAt g o cs) (hl : cs.length = 3) : (loadVar 25 ⟨g, o, none⟩).run Tryd.prog u = .ok (.agg cs.toArray) u :=
  run_loadVar_mid u g o 25 cs _ h Tryd.underlying25 rfl (by rw [hl]; kernel_rfl)
theorem load_stR {u : World} {g o : Nat} {cs : List Value} (h : u.rangeAt g o cs) (hl : cs.length = 4) : (loadVar 40 ⟨g, o, none⟩).run Tryd.prog u = .ok (.agg cs.toArray) u :=
  run_loadVar_mid u g o 40 cs _ h Tryd.underlying40 rfl (by rw [hl]; kernel_rfl)
theorem load_stsP {u : World} {a : Addr} {v : Value} (h : u.cell? a = some v) : (loadVar 28 a).run Tryd.prog u = .ok v u := by rw [loadVar.eq_1]; go_simp
theorem stM_i (d : Nat) (ss : List ByteArray) (x : Lit4) (k : Nat) : (stM d ss x k).i = (k : Int) := by
  unfold stM
  split
  · rfl
  · split <;> rfl
theorem szAt {l : List ByteArray} (h : ∀ x ∈ l, x.size ≤ maxLen) : ∀ i, i < l.length → (atS l i).size ≤ maxLen := by
  intro i hi
  unfold atS
  rw [List.getD, List.getElem?_eq_getElem hi]
  exact h _ (List.getElem_mem hi)
set_option maxHeartbeats 6400000 in
set_option maxRecDepth 100000 in
theorem right_any (d : Nat) (r : R3) (p : RP) (xs : List SX) (w : World) (hKT : KT w) (hR : RIs w (d + 1) r p) (hs : smallR (d + 1) r) (hT : (termsR (d + 1) r).length ≤ 1048576) {sa : Option Addr} {sc : Nat} (hX : Lz w (.slice sa xs.length sc) xs) {v : Value} {l : List ByteArray} (hl : Ls w v l.length (l.flatMap strB)) (hsz : ∀ i, i < l.length → (atS l i).size ≤ maxLen) :
    Calls Tryd.prog 8 #[.agg #[.string r.pr, .slice p.a r.hd.length p.c, .slice p.ba r.bd.length p.bc, .slice sa xs.length sc], v] w fun e w' => Below w.heap.size w w' ∧
      ((e = .returned (.bool false) ∧ (ruleB (d + 1) r = false ∨ knB l l.length = false ∨ ∃ fs, LimK (d + 1) l r fs ∧ fs.length ≠ (vsT [] (termsR (d + 1) r)).length)) ∨
       (ruleB (d + 1) r = true ∧ knB l l.length = true ∧ ∃ fs, LimK (d + 1) l r fs ∧ fs.length = (vsT [] (termsR (d + 1) r)).length ∧ e = .returned (.bool (endR (goR (d + 1) r.bd l (2 ^ r.bd.length - 1) (xs.map SX.s)))))) := by
  have hA0 := belowA (w := w) (.cells #[.string r.pr, .slice p.a r.hd.length p.c, .slice p.ba r.bd.length p.bc, .slice sa xs.length sc] 30)
  have HR := Lib.hid (hR.below hA0)
  have HX := Lib.hid (hX.below hA0)
  have HB0 := Lib.hid hA0
  have HBD : Hid (ruleB (d + 1) r = true → BdR (d + 1) r.bd) := fun h => bdR_of h hT
  have HRL := Lib.hid (rl_new w #[.string r.pr, .slice p.a r.hd.length p.c, .slice p.ba r.bd.length p.bc, .slice sa xs.length sc] 30)
  have hld := load_ruP (u := w.alloc (.cells #[.string r.pr, .slice p.a r.hd.length p.c, .slice p.ba r.bd.length p.bc, .slice sa xs.length sc] 30)) (g := w.heap.size) (o := 0) (cs := [.string r.pr, .slice p.a r.hd.length p.c, .slice p.ba r.bd.length p.bc]) (fun j v hv => by
      have hj : j < 3 := (List.getElem?_eq_some_iff.1 hv).1
      have hj6 : j = 0 ∨ j = 1 ∨ j = 2 := by omega
      have hr := rl_new w #[.string r.pr, .slice p.a r.hd.length p.c, .slice p.ba r.bd.length p.bc, .slice sa xs.length sc] 30
      rcases hj6 with rfl | rfl | rfl <;> exact RL.at hr hv) rfl
  have HBG := Lib.hid (begin_any d r p _ (hKT.below hA0) (hR.below hA0) hs hT (hl.below hA0) hsz)
  unfold R3.val at HBG
  clear hKT hR hs hT hX hl hsz hA0
  go_enter Tryd.func8, Tryd.ntmps8
  go_wp2_with fail
  refine HBG.out.mono ?_
  obtain ⟨W, hW⟩ : ∃ W, W = w.alloc (.cells #[.string r.pr, .slice p.a r.hd.length p.c, .slice p.ba r.bd.length p.bc, .slice sa xs.length sc] 30) := ⟨_, rfl⟩
  rw [← hW] at HR HX HB0 HRL ⊢
  clear hW hld HBG
  rintro e w1 ⟨b1, hcase⟩
  rcases hcase with ⟨hr0, rfl⟩ | ⟨hr1, hk0, rfl⟩ | ⟨hr1, hk1, fs, hlk, ⟨hne, rfl⟩ | ⟨heq, tb, kb, rfl, htu, htb, hkb⟩⟩
  · have HF := Lib.hid (And.intro hr0 (HB0.out.trans (b1.mono HB0.out.size)))
    clear hr0 b1 HBD
    go_wp2
    go_ret
    exact ⟨HF.out.2, .inl ⟨rfl, .inl HF.out.1⟩⟩
  · have HF := Lib.hid (And.intro hk0 (HB0.out.trans (b1.mono HB0.out.size)))
    clear hr1 hk0 b1 HBD
    go_wp2
    go_ret
    exact ⟨HF.out.2, .inl ⟨rfl, .inr (.inl HF.out.1)⟩⟩
  · have HF := Lib.hid (And.intro (⟨fs, hlk, hne⟩ : ∃ fs, LimK (d + 1) l r fs ∧ fs.length ≠ (vsT [] (termsR (d + 1) r)).length) (HB0.out.trans (b1.mono HB0.out.size)))
    clear hr1 hk1 hlk hne b1 HBD
    go_wp2
    go_ret
    exact ⟨HF.out.2, .inl ⟨rfl, .inr (.inr HF.out.1)⟩⟩
  · have HY := Lib.hid (And.intro hr1 (And.intro hk1 (⟨fs, hlk, heq⟩ : ∃ fs, LimK (d + 1) l r fs ∧ fs.length = (vsT [] (termsR (d + 1) r)).length)))
    have HD := Lib.hid (HBD.out hr1)
    have HTU := Lib.hid htu
    have HB1 := Lib.hid b1
    have HTB := Lib.hid htb
    have HKB := Lib.hid hkb
    have ls := load_stsP (RL.at (RL.below HRL.out b1) (j := 3) rfl)
    have hnb := HD.out.bn
    clear hr1 hk1 hlk heq htu b1 htb hkb HBD
    obtain ⟨n, hn⟩ : ∃ n, n = r.bd.length := ⟨_, rfl⟩
    have HN := Lib.hid hn
    rw [← hn] at hnb HTU
    have hp2 : (2 : Nat) ^ n ≤ 65536 := Nat.le_trans (Nat.pow_le_pow_right (by omega) hnb) (by decide)
    have hp1 : 1 ≤ (2 : Nat) ^ n := Nat.one_le_two_pow
    have HPW : Hid ((2 : Nat) ^ n ≤ 65536) := hp2
    have HP0 : Hid (2 ^ n - 1 < (2 : Nat) ^ n) := by show _ < _; omega
    clear hp1 hp2 hn
    obtain ⟨a', c', hac, hc1, hc2, hat⟩ := HX.out.form
    injection hac with e1 e2 e3
    subst e1 e3
    have HAT := Lib.hid hat
    unfold maxLen at hc2
    clear hat e2
    have HLB : Hid (∀ u, Below W.heap.size W u → Lb u (.slice p.ba n p.bc) (d + 1) r.bd) := fun u hu => by
      rw [HN.out]
      exact HR.out.bd.below hu
    have HGO : Hid (goR (d + 1) r.bd l (2 ^ n - 1) ((xs.take 0).map SX.s) = some (l, 2 ^ n - 1)) := rfl
    go_wp2
    go_loopw [8, 9, 10, 23] (fun _ _ _ i wr => ∃ (j left : Nat) (ss : List ByteArray), j ≤ xs.length ∧ i = .int .i64 j ∧ Hid (goR (d + 1) r.bd l (2 ^ n - 1) ((xs.take j).map SX.s) = some (ss, left)) ∧ Hid (left < 2 ^ n) ∧ Hid (TuIs wr tb kb (.slice p.ba n p.bc) ss left) ∧ Hid (Below W.heap.size W wr)) (fun _ _ _ i _ => xs.length - (intOf i).toNat)
    case atStart => exact ⟨0, 2 ^ n - 1, l, Nat.zero_le _, rfl, HGO, HP0, HTU, HB1.out⟩
    case round =>
      obtain ⟨j, left, ss, hj, rfl, HG, HLT, HT, HB⟩ := hrel
      by_cases hlt : j < xs.length
      · have hlt' : (j : Int) < (xs.length : Int) := by omega
        have hj0 : (0 : Int) ≤ (j : Int) := by omega
        obtain ⟨g, off, rfl, hg, hr⟩ := HAT.out (by omega)
        have lst := load_stR (range_below (hr j hlt) HB.out hg) rfl
        have HLX := Lib.hid ((HX.out.at_is hlt).below HB.out)
        have HGF : Hid (okW (d + 1) r.bd ss left (atZ xs j).s = false → goR (d + 1) r.bd l (2 ^ n - 1) (xs.map SX.s) = none) := fun h => goR_fails hlt HG.out h
        have HGG : Hid (okW (d + 1) r.bd ss left (atZ xs j).s = true → goR (d + 1) r.bd l (2 ^ n - 1) ((xs.take (j + 1)).map SX.s) = some (ss ++ (stL (d + 1) ss r.bd (atZ xs j).s.i.toNat).g, clrN left (atZ xs j).s.i.toNat)) := fun h => goR_goes hlt HG.out h
        clear HG hr hg HGO
        generalize atZ xs j = y at lst HLX HGF HGG
        obtain ⟨⟨sk, si, sm, sg⟩, ya, yc⟩ := y
        unfold SX.cells at lst
        simp only at lst HLX HGF HGG
        have HBL : Hid (Below wr.heap.size wr (wr.alloc (.cells #[.int .i8 sk, .int .i64 si, .int .u32 sm, .slice ya sg.length yc] 40))) := belowA _
        have HRS := Lib.hid (rl_new wr #[.int .i8 sk, .int .i64 si, .int .u32 sm, .slice ya sg.length yc] 40)
        go_upto_region 7 with fail
        obtain ⟨U, hU⟩ : ∃ U, U = wr.alloc (.cells #[.int .i8 sk, .int .i64 si, .int .u32 sm, .slice ya sg.length yc] 40) := ⟨_, rfl⟩
        rw [← hU] at HBL HRS ⊢
        have HTU1 : Hid (TuIs U tb kb (.slice p.ba n p.bc) ss left) := ⟨RL.below HT.out.rl HBL.out, HT.out.set.of_block (HBL.out.block kb HT.out.set.lt), HT.out.ne⟩
        have HBU : Hid (Below W.heap.size W U) := HB.out.trans (HBL.out.mono HB.out.size)
        have HLU := Lib.hid (HLX.out.below HBL.out)
        have HTK : Hid (tb < wr.heap.size ∧ kb < wr.heap.size) := ⟨HT.out.rl.lt, HT.out.set.lt⟩
        clear hU lst HLX HT HB HBL
        have hl32 : left < 4294967296 := by have := HLT.out; have := HPW.out; omega
        have l1 := load_litsK (RL.at (RL.below HTU1.out.rl (Below.refl _ _).drew) (j := 2) rfl)
        have l2 := load_intP (RL.at (RL.below HRS.out (Below.refl _ _).drew) (j := 1) rfl)
        have hgf := Lib.hid (lits_has left hl32 si U.drew)
        refine region_onceP ?_
        apply Exists.intro
        apply Exists.intro
        refine ⟨?_, ?_⟩
        · refine wp_region_noPanic ?_
          go_region_with (go_at_call 17; refine (hgf.out).mono ?_; rintro ee w4 ⟨rfl, rfl⟩)
          all_goals exact NoPanic.normal ⟨rfl, rfl, rfl⟩
        simp (config := { maxSteps := 8000000 }) only [Act.put, List.getElem_toArray, List.getElem_cons_zero, List.getElem_cons_succ, List.setIfInBounds_toArray, List.set_cons_succ, List.set_cons_zero]
        simp only [Exit.then]
        clear l1 hgf
        go_at_K
        cases hh : hasB left si
        · have HF := Lib.hid (HGF.out (by unfold okW; rw [hh]; rfl))
          clear hh HGF HGG
          go_wp2
          go_ret
          exact ⟨HB0.out.trans (HBU.out.drew.mono HB0.out.size), .inr ⟨HY.out.1, HY.out.2.1, HY.out.2.2.elim fun fs h => ⟨fs, h.1, h.2, by rw [← HN.out, HF.out]; rfl⟩⟩⟩
        · obtain ⟨h0, hi⟩ := hasB_lt HLT.out hh
          obtain ⟨k, rfl⟩ : ∃ k : Nat, si = (k : Int) := ⟨si.toNat, by omega⟩
          rw [Int.toNat_natCast] at HGG hi
          have hkn : k < r.bd.length := by rw [← HN.out]; exact hi
          have HST := Lib.hid (step_any (w := U.drew) (d := d + 1) (k := k) ⟨RL.below HTU1.out.rl (Below.refl _ _).drew, HTU1.out.set.of_block rfl, HTU1.out.ne⟩ (HLB.out _ HBU.out.drew) hkn HD.out.bn (HD.out.bc k hkn) (HD.out.bl k hkn) (HD.out.br k hkn))
          have HNW := Lib.hid (stM_new (d + 1) ss (atL r.bd k).x k)
          have HZZ := Lib.hid (stM_sz ((HLB.out _ HBU.out).at_is hkn) ss k)
          have HGL := Lib.hid (stM_glen (d + 1) ss (atL r.bd k).x k (HD.out.bc k hkn) (HD.out.bl k hkn) (HD.out.br k hkn))
          have hti : (stL (d + 1) ss r.bd k).i = (k : Int) := stM_i _ _ _ _
          have HOK : Hid (okW (d + 1) r.bd ss left ⟨sk, (k : Int), sm, sg⟩ = (((stL (d + 1) ss r.bd k).k != 0) && sameSt ⟨sk, (k : Int), sm, sg⟩ (stL (d + 1) ss r.bd k))) := by
            show _ = _
            unfold okW
            rw [hh, Int.toNat_natCast, Bool.true_and]
          unfold stL at HST hti HOK HGG
          generalize stM (d + 1) ss (atL r.bd k).x k = t at HST HNW HZZ HGL hti HOK HGG
          obtain ⟨tk, ti, tm, tg⟩ := t
          simp only at HST HNW HZZ HGL hti HOK HGG
          subst hti
          unfold St.val at HST
          simp only at HST
          clear hh h0 hkn
          go_wp2_with fail
          refine HST.out.mono ?_
          rintro e w2 ⟨b2, a2, c2, rfl, hown⟩
          have HB2 : Hid (Below U.heap.size U w2) := (Below.refl _ _).drew.trans b2
          have HOW : Hid (w2.ownsRow U.heap.size 9 1 (.slice a2 tg.length c2) tg.length (tg.flatMap strB)) := hown
          have l8 := load_StP (RL.below (RL.below HRS.out HB2.out) (belowA (w := w2) (.cells #[.int .i8 tk, .int .i64 (k : Int), .int .u32 tm, .slice a2 tg.length c2] 40)))
          have HRT := Lib.hid (rl_new w2 #[.int .i8 tk, .int .i64 (k : Int), .int .u32 tm, .slice a2 tg.length c2] 40)
          have l9 := load_StP (rl_new w2 #[.int .i8 tk, .int .i64 (k : Int), .int .u32 tm, .slice a2 tg.length c2] 40)
          have HBV : Hid (Below w2.heap.size w2 (w2.alloc (.cells #[.int .i8 tk, .int .i64 (k : Int), .int .u32 tm, .slice a2 tg.length c2] 40))) := belowA _
          clear HST b2 hown l2
          cases hz : (tk != 0)
          · have HF := Lib.hid (HGF.out (by rw [HOK.out, hz]; rfl))
            clear HGF HGG HOK HRT
            go_wp2
            go_ret
            exact ⟨HB0.out.trans ((HBU.out.trans ((HB2.out.trans (HBV.out.mono HB2.out.size)).mono HBU.out.size)).mono HB0.out.size), .inr ⟨HY.out.1, HY.out.2.1, HY.out.2.2.elim fun fs h => ⟨fs, h.1, h.2, by rw [← HN.out, HF.out]; rfl⟩⟩⟩
          · rw [hz, Bool.true_and] at HOK
            have HSA := Lib.hid (same_any (w := w2.alloc (.cells #[.int .i8 tk, .int .i64 (k : Int), .int .u32 tm, .slice a2 tg.length c2] 40)) ⟨sk, (k : Int), sm, sg⟩ ⟨tk, (k : Int), tm, tg⟩ ya a2 yc c2 ((HLU.out.below HB2.out).below HBV.out) ((ls_own HOW.out).below HBV.out))
            unfold St.val at HSA
            simp only at HSA
            go_wp2_with fail
            refine HSA.out.mono ?_
            generalize w2.alloc (.cells #[.int .i8 tk, .int .i64 (k : Int), .int .u32 tm, .slice a2 tg.length c2] 40) = V at HRT HBV l8 l9 ⊢
            rintro e w3 ⟨rfl, b3⟩
            have HB3 : Hid (Below U.heap.size U w3) := (HB2.out.trans (HBV.out.mono HB2.out.size)).trans (b3.mono (Nat.le_trans HB2.out.size HBV.out.size))
            have HO3 := Lib.hid (own_below (own_below HOW.out HBV.out) b3)
            have l9' := load_StP (RL.below HRT.out b3)
            clear HSA l8 l9 b3 HRT
            cases hsm : sameSt ⟨sk, (k : Int), sm, sg⟩ ⟨tk, (k : Int), tm, tg⟩
            · have HF := Lib.hid (HGF.out (by rw [HOK.out, hsm]))
              clear HGF HGG HOK hsm
              go_wp2
              go_ret
              exact ⟨HB0.out.trans ((HBU.out.trans (HB3.out.mono HBU.out.size)).mono HB0.out.size), .inr ⟨HY.out.1, HY.out.2.1, HY.out.2.2.elim fun fs h => ⟨fs, h.1, h.2, by rw [← HN.out, HF.out]; rfl⟩⟩⟩
            · have HG2 := Lib.hid (HGG.out (by rw [HOK.out, hsm]))
              have HTA := Lib.hid (take_any (w := w3) (B := U.heap.size) ⟨RL.below HTU1.out.rl HB3.out, HTU1.out.set.of_block (HB3.out.block kb HTU1.out.set.lt), HTU1.out.ne⟩ ⟨tk, (k : Int), tm, tg⟩ (a := a2) (c := c2) (k := k) rfl (by omega) hl32 HO3.out HTU1.out.rl.lt HTU1.out.set.lt (szAt HZZ.out) HNW.out HGL.out)
              unfold St.val at HTA
              simp only at HTA
              clear HGF HGG HOK hsm
              go_wp2_with fail
              refine HTA.out.mono ?_
              rintro e w4 ⟨⟨y, rfl⟩, htu, hpx⟩
              have HT4 := Lib.hid htu
              have HB4 : Hid (Below W.heap.size W w4) := (HBU.out.trans (HB3.out.mono HBU.out.size)).trans (hpx.below (Nat.le_trans HBU.out.size HB3.out.size) HTB.out HKB.out)
              have HL4 : Hid (clrN left k < 2 ^ n) := Nat.lt_of_le_of_lt (clrN_le _ _) HLT.out
              clear HTA htu hpx l9'
              go_wp2
              go_roundw
              case rel => exact ⟨j + 1, clrN left k, ss ++ tg, by omega, by go_num, HG2, HL4, HT4, HB4⟩
              case measure => simp [intOf]; omega
      · obtain rfl : j = xs.length := by omega
        rw [List.take_length] at HG
        have ll := load_litsK (RL.at HT.out.rl (j := 2) rfl)
        have HE : Hid (endR (goR (d + 1) r.bd l (2 ^ r.bd.length - 1) (xs.map SX.s)) = ((left : Int) == 0)) := by
          show _ = _
          rw [← HN.out, HG.out]
          show decide (left = 0) = _
          cases left with
          | zero => rfl
          | succ m => 
            rw [decide_eq_false (by omega)]
            exact (beq_eq_false_iff_ne.2 (by omega)).symm
        clear HG
        go_wp2
        go_ret
        exact ⟨HB0.out.trans (HB.out.mono HB0.out.size), .inr ⟨HY.out.1, HY.out.2.1, HY.out.2.2.elim fun fs h => ⟨fs, h.1, h.2, by rw [HE.out]; rfl⟩⟩⟩
end Go.Proofs.YteabclfhmapabaaDoor
end
