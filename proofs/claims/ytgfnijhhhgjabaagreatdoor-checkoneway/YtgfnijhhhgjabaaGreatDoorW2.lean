import Derived.Test.YtgfnijhhhgjabaaGreatDoorW1
import Derived.Test.YtgfnijhhhgjabaaGreatDoorG13
section
namespace Go.Proofs.YtgfnijhhhgjabaaGreatDoor
open Go.RowKit Go.Maps
set_option linter.unusedVariables false
set_option linter.unusedSimpArgs false
attribute [local go_sem ↓] Go.wp_at_zero Go.wp_at_succ
attribute [-go_sem] loadVar storeVar

theorem load_kindF {u : World} {a : Addr} {k : Int} (h : u.cell? a = some (.int .i8 k)) : (loadVar 45 a).run Tryz.prog u = .ok (.int .i8 k) u := by rw [loadVar.eq_1]; go_simp
theorem load_relF {u : World} {a : Addr} {k : Int} (h : u.cell? a = some (.int .i8 k)) : (loadVar 49 a).run Tryz.prog u = .ok (.int .i8 k) u := by rw [loadVar.eq_1]; go_simp
theorem load_ExpF {u : World} {g o : Nat} {cs : List Value} (h : u.rangeAt g o cs) (hl : cs.length = 6) : (loadVar 53 ⟨g, o, none⟩).run Tryz.prog u = .ok (.agg cs.toArray) u :=
  run_loadVar_mid u g o _ cs _ h Tryz.underlying53 rfl (by rw [hl]; kernel_rfl)
/-- the fields of a literal that lies in a row -/
theorem lit_at {u : World} {g o : Nat} {y : XL} (h : u.rangeAt g o y.cells) :
    (loadVar 45 ⟨g, o, none⟩).run Tryz.prog u = .ok (.int .i8 y.x.k) u ∧ (loadVar 49 ⟨g, o + 3, none⟩).run Tryz.prog u = .ok (.int .i8 y.x.rel) u ∧ (loadVar 53 ⟨g, o + 4, none⟩).run Tryz.prog u = .ok (y.x.l.val y.p.la y.p.lc) u ∧ (loadVar 53 ⟨g, o + 10, none⟩).run Tryz.prog u = .ok (y.x.r.val y.p.ra y.p.rc) u := by
  refine ⟨load_kindF (h 0 _ rfl), load_relF (h 3 _ rfl), ?_, ?_⟩
  · refine load_ExpF (cs := [.int .i8 y.x.l.op, .string y.x.l.t.v, .int .i8 y.x.l.t.a.k, .int .i64 y.x.l.t.a.n, .string y.x.l.t.a.s, .slice y.p.la y.x.l.kids.length y.p.lc]) (fun j v hj => ?_) rfl
    match j, hj with
    | 0, hj => cases hj; exact h 4 _ rfl
    | 1, hj => cases hj; exact h 5 _ rfl
    | 2, hj => cases hj; exact h 6 _ rfl
    | 3, hj => cases hj; exact h 7 _ rfl
    | 4, hj => cases hj; exact h 8 _ rfl
    | 5, hj => cases hj; exact h 9 _ rfl
  · refine load_ExpF (cs := [.int .i8 y.x.r.op, .string y.x.r.t.v, .int .i8 y.x.r.t.a.k, .int .i64 y.x.r.t.a.n, .string y.x.r.t.a.s, .slice y.p.ra y.x.r.kids.length y.p.rc]) (fun j v hj => ?_) rfl
    match j, hj with
    | 0, hj => cases hj; exact h 10 _ rfl
    | 1, hj => cases hj; exact h 11 _ rfl
    | 2, hj => cases hj; exact h 12 _ rfl
    | 3, hj => cases hj; exact h 13 _ rfl
    | 4, hj => cases hj; exact h 14 _ rfl
    | 5, hj => cases hj; exact h 15 _ rfl
theorem hit_take {d : Nat} {l : List XL} {k : Nat} (h : k < l.length) (fs : List ByteArray) (v : ByteArray) : eqdB (eqL d (l.take (k + 1))) v fs = (eqdB (eqL d (l.take k)) v fs || eqdB (eqX d (atL l k)) v fs) := by
  unfold eqdB
  rw [eqL_take h, List.any_append]
theorem hit_yes {d : Nat} {l : List XL} {k : Nat} (h : k < l.length) {fs : List ByteArray} {v : ByteArray} (he : eqdB (eqX d (atL l k)) v fs = true) : eqdB (eqL d l) v fs = true := by
  obtain ⟨q, hq, hh⟩ := List.any_eq_true.1 he
  exact List.any_eq_true.2 ⟨q, eqL_mem.2 ⟨atL l k, by rw [atL_eq h]; exact List.getElem_mem h, hq⟩, hh⟩
theorem opt_case (o : Option ByteArray) (v : ByteArray) : o = none ∨ (∃ a, o = some a ∧ a ≠ v) ∨ o = some v := by
  cases o with
  | none => exact .inl rfl
  | some a =>
    by_cases h : a = v
    · exact .inr (.inr (by rw [h]))
    · exact .inr (.inl ⟨a, rfl, h⟩)
/-- one side's part -/
def hitS (fs : List ByteArray) (v : ByteArray) (o : Option ByteArray) (vs : List ByteArray) : Bool := decide (o = some v) && vs.all (inB fs)
theorem hit_eqX {d : Nat} {y : XL} (h : y.x.k = 3 ∧ y.x.rel = 1) (fs : List ByteArray) (v : ByteArray) : eqdB (eqX d y) v fs = (hitS fs v (sdE d y.x.l).lone (sdE d y.x.r).vars || hitS fs v (sdE d y.x.r).lone (sdE d y.x.l).vars) := by
  unfold eqdB eqX
  rw [if_pos h]
  simp [hitQ, hitS]
theorem hit_noX {d : Nat} {y : XL} (h : ¬ (y.x.k = 3 ∧ y.x.rel = 1)) (fs : List ByteArray) (v : ByteArray) : eqdB (eqX d y) v fs = false := by
  unfold eqdB eqX
  rw [if_neg h]
  rfl
end Go.Proofs.YtgfnijhhhgjabaaGreatDoor
end
section
namespace Go.Proofs.YtgfnijhhhgjabaaGreatDoor.EV
open Go.RowKit Go.Maps
set_option linter.unusedVariables false
set_option linter.unusedSimpArgs false
attribute [local go_sem ↓] Go.wp_at_zero Go.wp_at_succ
attribute [-go_sem] loadVar

theorem optV_opt (o : Option V) : optV o = .tuple #[.agg #[.int .i8 (o.getD V0).k, .int .i64 (o.getD V0).n, .string (o.getD V0).s], .bool o.isSome] := by
  cases o <;> rfl
theorem load_valB {u : World} {b : Nat} {k n : Int} {s : ByteArray} (h : RL u b 38 [.int .i8 k, .int .i64 n, .string s]) : (loadVar 38 ⟨b, 0, none⟩).run Tryz.prog u = .ok (.agg #[.int .i8 k, .int .i64 n, .string s]) u :=
  run_loadVar_mid _ _ 0 38 [.int .i8 k, .int .i64 n, .string s] _ (RL.range h) Tryz.underlying38 rfl (by kernel_rfl)
/-- what bound answers -/
def bn (l : List B) (n : ByteArray) : V := bndV l ⟨n, V0⟩
def bok (l : List B) (n : ByteArray) : Bool := bndOk l ⟨n, V0⟩
theorem bn_val {l : List B} {n : ByteArray} (h : ¬ n = noS) : valN l n = if bok l n = true then some (bn l n) else none := by
  unfold bok bn bndOk bndV valN
  rw [if_neg h, if_neg h]
  cases seek l n with
  | none => rfl
  | some x =>
    show (some x).filter okV = if okV x = true then some x else none
    rw [Option.filter_some]
set_option maxHeartbeats 1600000 in
theorem bound_any (n : ByteArray) (v : Value) (l : List B) (w : World) (hn : n.size ≤ maxLen) (hl : Lb w v l) : Calls Tryz.prog 11 #[v, .string n] w fun e w' => e = .returned (.tuple #[.agg #[.int .i8 (bn l n).k, .int .i64 (bn l n).n, .string (bn l n).s], .bool (bok l n)]) ∧ Below w.heap.size w w' := by
  have b0 := (Below.refl w.heap.size w).alloc (Nat.le_refl _) (.cells #[.int .i8 0, .int .i64 0, .string ⟨#[]⟩] 38)
  have HO0 : Hid (Own3 (w.alloc (.cells #[.int .i8 0, .int .i64 0, .string ⟨#[]⟩] 38)) w.heap.size) := by
    have := own3 (Below.refl _ (w.alloc (.cells #[.int .i8 0, .int .i64 0, .string ⟨#[]⟩] 38)))
    show Own3 _ _
    simpa using this
  have HC := Lib.hid (bound_full ⟨n, V0⟩ v l _ ⟨hn, V0.ok⟩ (hl.below b0))
  have HZ : Hid (w.heap.size < (w.alloc (.cells #[.int .i8 0, .int .i64 0, .string ⟨#[]⟩] 38)).heap.size) := by show _ < _; simp
  obtain ⟨va, vc, rfl, _, _, _⟩ := hl.form
  clear hl
  go_enter Tryz.func11, Tryz.ntmps11
  go_upto_region 1 with fail
  generalize w.alloc (.cells #[.int .i8 0, .int .i64 0, .string ⟨#[]⟩] 38) = W at b0 HO0 HC HZ ⊢
  have B0 := Lib.hid b0
  clear b0
  go_wp2_with fail
  refine HC.out.mono ?_
  rintro e w1 ⟨rfl, b1⟩
  have HO1 := Lib.hid (HO0.out.below b1)
  have B1 := Lib.hid (B0.out.trans (b1.mono B0.out.size))
  obtain ⟨⟨y0, y1, y2, o0, o1, o2⟩, f0, f1, f2, _⟩ := HO1.out
  clear HC b1 HO0 B0
  go_wp2
  exact bnd_done Tryz.results11 (b := w.heap.size) (bndOk l ⟨n, V0⟩) rfl HO1.out (Nat.le_refl _) B1.out rfl rfl rfl
/-- an equation holds -/
def eqX1 (d : Nat) (l : List B) (y : XL) : Bool := if y.x.k = 3 ∧ y.x.rel = 1 then (match evalV l d y.x.l, evalV l d y.x.r with
  | some a, some b => holdsV 1 a.k a.n a.s b.k b.n b.s
  | _, _ => false) else true
def eqB (d : Nat) (bd : List XL) (l : List B) : Bool := bd.all (eqX1 d l)
theorem holds_eq {a b : V} (h : holdsV 1 a.k a.n a.s b.k b.n b.s = true) : a = b := by
  unfold holdsV at h
  split at h
  · have h' : (cmpV a.k a.n a.s b.k b.n b.s == 0) = true := h
    obtain ⟨h1, h2, h3⟩ := AR.cmpV_zero (by simpa using h')
    cases a
    cases b
    simp only at h1 h2 h3
    subst h1 h2
    rw [toList_inj h3]
  · cases h
theorem eqB_all {d : Nat} {bd : List XL} {l : List B} (h : eqB d bd l = true) : EqA d bd l := by
  intro y hy he
  have := List.all_eq_true.1 h y hy
  unfold eqX1 at this
  rw [if_pos he] at this
  cases h1 : evalV l d y.x.l with
  | none => rw [h1] at this; cases this
  | some a =>
    cases h2 : evalV l d y.x.r with
    | none => rw [h1, h2] at this; cases this
    | some b =>
      rw [h1, h2] at this
      exact ⟨a, rfl, by rw [holds_eq this]⟩
theorem eqB_take {d : Nat} {bd : List XL} {l : List B} {k : Nat} (h : k < bd.length) : eqB d (bd.take (k + 1)) l = (eqB d (bd.take k) l && eqX1 d l (atL bd k)) := by
  unfold eqB
  rw [takeXL h, List.all_append]
  simp
theorem eqB_no {d : Nat} {bd : List XL} {l : List B} {k : Nat} (h : k < bd.length) (hx : eqX1 d l (atL bd k) = false) : eqB d bd l = false := by
  unfold eqB
  rw [List.all_eq_false]
  exact ⟨atL bd k, by rw [atL_eq h]; exact List.getElem_mem h, by rw [hx]; simp⟩
theorem evalV_wf {w : World} {l : List B} (hl : ∀ b ∈ l, b.wf) {d : Nat} {e : E} {a : Option Addr} {c : Nat} {x : V} (hE : EIs w d e a c) (h : evalV l d e = some x) : x.wf := by
  unfold evalV at h
  split at h
  · exact workV_wf hl d e a c x hE h
  · cases h
set_option maxHeartbeats 6400000 in
set_option maxRecDepth 100000 in
theorem equal_any (d : Nat) (bd : List XL) (la : Option Addr) (lc : Nat) (v : Value) (l : List B) (w : World) (hG : KT w ∧ AR.Tab w) (hL : _root_.Go.Proofs.YtgfnijhhhgjabaaGreatDoor.Lb w (.slice la bd.length lc) (d + 1) bd) (hl : Lb w v l) :
    Calls Tryz.prog 9 #[.slice la bd.length lc, v] w fun e w' => e = .returned (.bool (eqB (d + 1) bd l)) ∧ Below w.heap.size w w' := by
  obtain ⟨la', lc', hv, hc1, hc2, hat⟩ := hL.form
  injection hv with hv1 _ hv2
  subst hv1 hv2
  have hmax : bd.length ≤ maxLen := Nat.le_trans hc1 hc2
  unfold maxLen at hmax
  have HAT := Lib.hid hat
  have HLI : Hid (∀ i, i < bd.length → ∀ u, Below w.heap.size w u → LIs u (d + 1) (atL bd i).x (atL bd i).p) := fun i hi u hu => (hL.at_is hi).below hu
  have HBL : Hid (∀ u, Below w.heap.size w u → Lb u v l) := fun u hu => hl.below hu
  have HWF := Lib.hid hl.wf
  have HG : Hid (∀ u, Below w.heap.size w u → KT u ∧ AR.Tab u) := fun u hu => ⟨hG.1.below hu, hG.2.below hu⟩
  obtain ⟨va, vc, rfl, _, _, _⟩ := hl.form
  obtain ⟨R, hR⟩ : ∃ R, eqB (d + 1) bd l = R := ⟨_, rfl⟩
  rw [hR]
  have HR := Lib.hid hR
  clear hL hat hl hR hG
  go_enter Tryz.func9, Tryz.ntmps9
  go_wp2
  go_loopw [5] (fun i wr => ∃ k : Nat, k ≤ bd.length ∧ i = .int .i64 k ∧ Hid (eqB (d + 1) (bd.take k) l = true) ∧ Hid (Below w.heap.size w wr)) (fun i _ => bd.length - (intOf i).toNat)
  case atStart => exact ⟨0, Nat.zero_le _, rfl, rfl, Below.refl _ _⟩
  case round =>
    obtain ⟨k, hk, rfl, HA, HB⟩ := hrel
    obtain ⟨U, rfl⟩ : ∃ U, U = wr := ⟨_, rfl⟩
    by_cases hlt : k < bd.length
    · have hlt' : (k : Int) < (bd.length : Int) := by omega
      have hk0 : (0 : Int) ≤ (k : Int) := by omega
      obtain ⟨g, off, rfl, hg, hT⟩ := HAT.out (by omega)
      have HRG : Hid (∀ u, Below w.heap.size w u → u.rangeAt g (off + k * 16) (atL bd k).cells) := fun u hu => range_below (hT k hlt) hu hg
      have HNX : Hid (eqX1 (d + 1) l (atL bd k) = true → eqB (d + 1) (bd.take (k + 1)) l = true) := fun h => by rw [eqB_take hlt, HA.out, h]; rfl
      have HNO : Hid (eqX1 (d + 1) l (atL bd k) = false → R = false) := fun h => by rw [← HR.out]; exact eqB_no hlt h
      have HLK := Lib.hid (HLI.out k hlt)
      obtain ⟨y, hy⟩ : ∃ y, atL bd k = y := ⟨_, rfl⟩
      rw [hy] at HRG HNX HNO HLK
      obtain ⟨l0, l1, l2, l3⟩ := lit_at (HRG.out U HB.out)
      clear hT hy HA
      by_cases hq : y.x.k = 3 ∧ y.x.rel = 1
      · have HXD : Hid (eqX1 (d + 1) l y = (match evalV l (d + 1) y.x.l, evalV l (d + 1) y.x.r with
          | some a, some b => holdsV 1 a.k a.n a.s b.k b.n b.s
          | _, _ => false)) := if_pos hq
        rw [hq.1] at l0
        rw [hq.2] at l1
        clear hq
        have HC1 := Lib.hid (eval_any (d + 1) y.x.l y.p.la y.p.lc _ l U HWF.out (HG.out U HB.out).1 (HG.out U HB.out).2 (HLK.out U HB.out).l (HBL.out U HB.out))
        rw [optV_opt] at HC1
        have HW1 : Hid (∀ x, evalV l (d + 1) y.x.l = some x → x.wf) := fun x hx => evalV_wf HWF.out (HLK.out U HB.out).l hx
        have HW2 : Hid (∀ x, evalV l (d + 1) y.x.r = some x → x.wf) := fun x hx => evalV_wf HWF.out (HLK.out U HB.out).r hx
        go_wp2_with fail
        refine HC1.out.mono ?_
        rintro e w1 ⟨rfl, b1⟩
        generalize evalV l (d + 1) y.x.l = o1 at HXD HW1 ⊢
        obtain ⟨W1, hW1⟩ : ∃ W1, W1 = w1.alloc (.cells #[.int .i8 (o1.getD V0).k, .int .i64 (o1.getD V0).n, .string (o1.getD V0).s] 38) := ⟨_, rfl⟩
        have c1 : Below w1.heap.size w1 W1 := by rw [hW1]; exact belowA _
        have HR1 : Hid (RL W1 w1.heap.size 38 [.int .i8 (o1.getD V0).k, .int .i64 (o1.getD V0).n, .string (o1.getD V0).s]) := by
          have := rl_new w1 #[.int .i8 (o1.getD V0).k, .int .i64 (o1.getD V0).n, .string (o1.getD V0).s] 38
          rw [← hW1] at this
          exact this
        have HB1 : Hid (Below w.heap.size w W1) := HB.out.trans ((b1.trans (c1.mono b1.size)).mono HB.out.size)
        clear HC1 b1 c1 l0 l1 l2 l3 HB
        go_upto_region 6 with fail
        rw [← hW1]
        clear hW1
        obtain ⟨m0, m1, m2, m3⟩ := lit_at (HRG.out W1 HB1.out)
        have HC2 := Lib.hid (eval_any (d + 1) y.x.r y.p.ra y.p.rc _ l W1 HWF.out (HG.out W1 HB1.out).1 (HG.out W1 HB1.out).2 (HLK.out W1 HB1.out).r (HBL.out W1 HB1.out))
        rw [optV_opt] at HC2
        clear m0 m1 m2
        go_wp2_with fail
        refine HC2.out.mono ?_
        rintro e w2 ⟨rfl, b2⟩
        generalize evalV l (d + 1) y.x.r = o2 at HXD HW2 ⊢
        obtain ⟨W2, hW2⟩ : ∃ W2, W2 = w2.alloc (.cells #[.int .i8 (o2.getD V0).k, .int .i64 (o2.getD V0).n, .string (o2.getD V0).s] 38) := ⟨_, rfl⟩
        have c2 : Below w2.heap.size w2 W2 := by rw [hW2]; exact belowA _
        have HR2 : Hid (RL W2 w2.heap.size 38 [.int .i8 (o2.getD V0).k, .int .i64 (o2.getD V0).n, .string (o2.getD V0).s]) := by
          have := rl_new w2 #[.int .i8 (o2.getD V0).k, .int .i64 (o2.getD V0).n, .string (o2.getD V0).s] 38
          rw [← hW2] at this
          exact this
        have d2 := b2.trans (c2.mono b2.size)
        have HR12 := Lib.hid (RL.below HR1.out d2)
        have HB2 : Hid (Below w.heap.size w W2) := HB1.out.trans (d2.mono HB1.out.size)
        clear HC2 b2 c2 d2 m3 HB1 HR1
        go_upto_region 7 with fail
        rw [← hW2]
        clear hW2
        cases o1 with
        | none =>
          have hRf : R = false := HNO.out (by rw [HXD.out])
          subst hRf
          clear HXD HNX HNO
          go_wp2
          go_ret
          exact ⟨rfl, HB2.out⟩
        | some a1 =>
          cases o2 with
          | none =>
            have hRf : R = false := HNO.out (by rw [HXD.out])
            subst hRf
            clear HXD HNX HNO
            go_wp2
            go_ret
            exact ⟨rfl, HB2.out⟩
          | some a2 =>
            have ha1 := HW1.out a1 rfl
            have ha2 := HW2.out a2 rfl
            have HH := Lib.hid (vholds_any 1 a1.k a1.n a1.s a2.k a2.n a2.s W2 ha1.text ha2.text)
            have hl1 := load_valB HR12.out
            have hl2 := load_valB HR2.out
            have HXE : Hid (eqX1 (d + 1) l y = holdsV 1 a1.k a1.n a1.s a2.k a2.n a2.s) := HXD.out
            simp only [Option.getD_some, Option.isSome_some] at hl1 hl2 ⊢
            clear HXD ha1 ha2 HW1 HW2
            go_wp2_with fail
            refine HH.out.mono ?_
            rintro e w3 ⟨rfl, b3⟩
            have HB3 : Hid (Below w.heap.size w w3) := HB2.out.trans (b3.mono HB2.out.size)
            clear HH b3 HB2 hl1 hl2 HR12 HR2
            cases hbb : holdsV 1 a1.k a1.n a1.s a2.k a2.n a2.s
            · have hRf : R = false := HNO.out (by rw [HXE.out, hbb])
              subst hRf
              clear hbb HXE HNX HNO
              go_wp2
              go_ret
              exact ⟨rfl, HB3.out⟩
            · have HN2 := Lib.hid (HNX.out (by rw [HXE.out, hbb]))
              clear hbb HXE HNX HNO
              go_wp2
              go_roundw
              case rel => exact ⟨k + 1, by omega, by go_num, HN2, HB3⟩
              case measure => simp [intOf]; omega
      · have HN2 := Lib.hid (HNX.out (if_neg hq))
        by_cases h3 : y.x.k = 3
        · have h1 : y.x.rel ≠ 1 := fun e => hq ⟨h3, e⟩
          have e1 : (y.x.rel != 1) = true := by rw [bne_iff_ne]; exact h1
          rw [h3] at l0
          clear hq h3 h1
          go_wp2
          go_roundw
          case rel => exact ⟨k + 1, by omega, by go_num, HN2, HB⟩
          case measure => simp [intOf]; omega
        · have e1 : (y.x.k != 3) = true := by rw [bne_iff_ne]; exact h3
          clear hq h3
          go_wp2
          go_roundw
          case rel => exact ⟨k + 1, by omega, by go_num, HN2, HB⟩
          case measure => simp [intOf]; omega
    · obtain rfl : k = bd.length := by omega
      have hRt : R = true := by rw [← HR.out, ← HA.out, List.take_length]
      subst hRt
      go_wp2
      go_ret
      exact ⟨rfl, HB.out⟩
end Go.Proofs.YtgfnijhhhgjabaaGreatDoor.EV
end
