import Derived.Test.YteabclfhmapabaaDoorA13
import Derived.Test.YteabclfhmapabaaDoorA9
section
namespace Go.Proofs.YteabclfhmapabaaDoor
open Go.RowKit Go.Maps
set_option linter.unusedVariables false
set_option linter.unusedSimpArgs false
attribute [local go_sem ↓] Go.wp_at_zero Go.wp_at_succ

/-- what a finder and a side are behind side -/
def SiP (B bf bm : Nat) (vs : List Vb) (fs : List ByteArray) (sv : Value) (q : Sd) (w : World) (r : Ending) (w' : World) : Prop :=
  ∃ vs' l xs a c, r = .returned (.agg #[ptrO l, .slice a xs.length c]) ∧ Fd B bf bm vs' fs sv w' ∧ Tz (fun k => k = bm) w w' ∧ (∃ m, vs' = vs ++ m ∧ ∀ y ∈ m, w.heap.size ≤ y.b) ∧ Lq w' a c xs ∧ xs.map Vb.v = q.vars ∧ l.map Vb.v = q.lone ∧ (∀ x, l = some x → x ∈ vs') ∧ (∀ x ∈ xs, x ∈ vs') ∧ (∀ g off, a = some ⟨g, off, none⟩ → w.heap.size ≤ g ∧ g < w'.heap.size ∧ ∀ x ∈ vs', g ≠ x.b)
theorem SiS.fin {B bf bm : Nat} {vs : List Vb} {fs : List ByteArray} {sv : Value} {w : World} {ec : List Value} {Z : World} {vs' xs : List Vb} {a : Option Addr} {c : Nat} {u u' : World} (h : SiS B bf bm vs fs sv w ec Z vs' xs a c u)
    (hk : ∀ k, k ≠ w.heap.size + 1 → k ≠ w.heap.size + 2 → u'.heap[k]? = u.heap[k]?) (h1 : u'.os = u.os) (h2 : u'.tape = u.tape) (h3 : u'.output = u.output) (h4 : u'.heap.size = u.heap.size) {q : Sd} {l : Option Vb} (hv : xs.map Vb.v = q.vars) (hl : l.map Vb.v = q.lone) (hx : ∀ x, l = some x → x ∈ vs') :
    SiP B bf bm vs fs sv q w (.returned (.agg #[ptrO l, .slice a xs.length c])) u' := by
  have hz := h.zs
  have hbl := h.bl
  obtain ⟨m0, hv0, hm0⟩ := h.ext
  have hyb : ∀ y ∈ vs', y.b ≠ w.heap.size + 1 ∧ y.b ≠ w.heap.size + 2 := fun y hy => by
    have q2 : u.cell? ⟨y.b, 0, none⟩ = some (.string y.v) := (h.fd.each y hy).at (j := 0) rfl
    refine ⟨fun e => ?_, fun e => ?_⟩
    · have c1 := h.r4
      rw [← e] at c1
      have q1 : u.cell? ⟨y.b, 0, none⟩ = some (.pointer none) := c1.at (j := 0) rfl
      rw [q1] at q2
      cases q2
    · have c1 := h.r5
      rw [← e] at c1
      have q1 : u.cell? ⟨y.b, 0, none⟩ = some (.pointer none) := c1.at (j := 0) rfl
      rw [q1] at q2
      cases q2
  have hfp : ∀ k, FP bf bm vs' sv k → k ≠ w.heap.size + 1 ∧ k ≠ w.heap.size + 2 := by
    rintro k (rfl | rfl | e | ⟨y, hy, rfl⟩)
    · exact ⟨by omega, by omega⟩
    · exact ⟨by omega, by omega⟩
    · have := hbl.2.2 k e
      exact ⟨by omega, by omega⟩
    · exact hyb y hy
  have hown : u'.ownsRow Z.heap.size 143 1 (.slice a xs.length c) xs.length (xs.flatMap ptrL) := own_of_block h.own (fun g hg => hk g (by have := (h.own.lt g hg).1; omega) (by have := (h.own.lt g hg).1; omega))
  refine ⟨vs', l, xs, a, c, rfl, h.fd.keep (fun k hk' => hk k (hfp k hk').1 (hfp k hk').2), ⟨h1.trans h.tz.os, h2.trans h.tz.tape, h3.trans h.tz.output, by rw [h4]; exact h.tz.size, fun b hb he => (hk b (by omega) (by omega)).trans (h.tz.block b hb he)⟩, ⟨m0, hv0, fun y hy => by have := hm0 y hy; omega⟩, own_lq hown, hv, hl, hx, h.mem, fun g off e => ?_⟩
  subst e
  have hob : (Value.slice (some ⟨g, off, none⟩) xs.length c).ownBlock = some g := by
    obtain ⟨_, ⟨h2, _⟩ | ⟨g2, cap, cur, h2, _⟩⟩ := hown
    · cases h2
    · injection h2 with h2 _ _
      injection h2 with h2
      injection h2 with h2 _ _
      subst h2
      rfl
  have := hown.lt g hob
  exact ⟨by omega, by omega, h.ap g hob⟩
theorem heap_setTwo {u : World} {b4 b5 k : Nat} {v v' : Value} (h4 : k ≠ b4) (h5 : k ≠ b5) : ((u.setCell ⟨b4, 0, none⟩ v).setCell ⟨b4, 1, none⟩ v').heap[k]? = u.heap[k]? := by
  rw [heap_setCell_other _ _ _ _ (by show k ≠ b4; exact h4), heap_setCell_other _ _ _ _ (by show k ≠ b4; exact h4)]
set_option maxHeartbeats 6400000 in
set_option maxRecDepth 100000 in
theorem side_any {B bf bm : Nat} {vs : List Vb} {fs : List ByteArray} {sv : Value} {w : World} (h : Fd B bf bm vs fs sv w) (hB : B ≤ w.heap.size) (d : Nat) (e : E) (a : Option Addr) (c : Nat) (hE : EIs w (d + 1) e a c) (hs : szD (d + 1) e ≤ 1048576) (hnl : (vsT [] (termsD (d + 1) e)).length ≤ 1048576) (hnm : ∀ n ∈ vsT [] (termsD (d + 1) e), n.size ≤ maxLen) :
    Calls Tryd.prog 63 #[.pointer (some ⟨bf, 0, none⟩), e.val a c] w fun r w' => SiP B bf bm vs fs sv (sdE (d + 1) e) w r w' := by
  obtain ⟨i0, hi0, hz0, hz1, hz2⟩ := info_parts infoPVb
  -- the three boxes
  obtain ⟨W1, hW1⟩ : ∃ W1, W1 = w.alloc (.cells #[.int .i8 e.op, .string e.t.v, .int .i8 e.t.a.k, .int .i64 e.t.a.n, .string e.t.a.s, .slice a e.kids.length c] 54) := ⟨_, rfl⟩
  obtain ⟨W2, hW2⟩ : ∃ W2, W2 = W1.alloc (.cells #[.pointer none, .slice none 0 0] 152) := ⟨_, rfl⟩
  obtain ⟨W3, hW3⟩ : ∃ W3, W3 = W2.alloc (.cells #[.pointer none, .slice none 0 0] 152) := ⟨_, rfl⟩
  have z1 : W1.heap.size = w.heap.size + 1 := by rw [hW1]; simp
  have z2 : W2.heap.size = w.heap.size + 2 := by rw [hW2]; simp [z1]
  have z3 : W3.heap.size = w.heap.size + 3 := by rw [hW3]; simp [z2]
  have b1 : Below w.heap.size w W1 := by rw [hW1]; exact belowA _
  have b2 : Below W1.heap.size W1 W2 := by rw [hW2]; exact belowA _
  have b3 : Below W2.heap.size W2 W3 := by rw [hW3]; exact belowA _
  have r3 : RL W3 w.heap.size 54 [.int .i8 e.op, .string e.t.v, .int .i8 e.t.a.k, .int .i64 e.t.a.n, .string e.t.a.s, .slice a e.kids.length c] := by
    have := rl_new w #[.int .i8 e.op, .string e.t.v, .int .i8 e.t.a.k, .int .i64 e.t.a.n, .string e.t.a.s, .slice a e.kids.length c] 54
    rw [← hW1] at this
    exact (RL.below this b2).below b3
  have r4 : RL W3 (w.heap.size + 1) 152 [.pointer none, .slice none 0 0] := by
    have := rl_new W1 #[.pointer none, .slice none 0 0] 152
    rw [← hW2, z1] at this
    exact RL.below this b3
  have r5 : RL W3 (w.heap.size + 2) 152 [.pointer none, .slice none 0 0] := by
    have := rl_new W2 #[.pointer none, .slice none 0 0] 152
    rw [← hW3, z2] at this
    exact this
  have b13 : Below w.heap.size w W3 := b1.trans ((b2.trans (b3.mono b2.size)).mono b1.size)
  have HAX := Lib.hid (vexprVarsO_any (d + 1) e a c W3 (hE.below b13) hs)
  have HNM := Lib.hid hnm
  have HSD : Hid (∀ l : Option ByteArray, (if e.op = 0 ∧ e.kids.length = 0 then (vsT [] (termsD (d + 1) e)).head? else none) = l → sdE (d + 1) e = ⟨l, vsT [] (termsD (d + 1) e)⟩) := fun l hl => by unfold sdE; rw [hl]
  have HLF : Hid (e.kids.length = 0 → (vsT [] (termsD (d + 1) e)).length ≤ 1) := fun h0 => by rw [vsT_leaf h0]; split <;> simp
  generalize hns : vsT [] (termsD (d + 1) e) = ns at HAX HNM HSD HLF hnl
  generalize sdE (d + 1) e = q at HSD
  have HS0 : Hid (∀ Z, Below W3.heap.size W3 Z → SiS B bf bm vs fs sv w [.int .i8 e.op, .string e.t.v, .int .i8 e.t.a.k, .int .i64 e.t.a.n, .string e.t.a.s, .slice a e.kids.length c] Z vs [] none 0 Z) := fun Z hZ =>
    ⟨(h.below b13).below hZ, RL.below r3 hZ, RL.below r4 hZ, RL.below r5 hZ, World.ownsRow_nil _ _ _ _, Tz.of_below (b13.trans (hZ.mono b13.size)), ⟨[], by simp, fun y hy => (by cases hy)⟩, fun x hx => (by cases hx), fun _ _ _ => rfl, fun g hg => by simp [Value.ownBlock] at hg, ⟨by have := hZ.size; omega, Nat.le_refl _⟩, ⟨h.lt bf (.inl rfl), h.lt bm (.inr (.inl rfl)), fun g hg => h.lt g (.inr (.inr (.inl hg)))⟩⟩
  have s0 := r3.at (j := 0) rfl
  have s1 := r3.at (j := 1) rfl
  have s2 := r3.at (j := 2) rfl
  have s3 := r3.at (j := 3) rfl
  have s4 := r3.at (j := 4) rfl
  have s5 := r3.at (j := 5) rfl
  have HBB : Hid (∀ u : World, w.heap.size ≤ u.heap.size → B ≤ u.heap.size) := fun u hu => by omega
  have HZ3 := Lib.hid z3
  clear b1 b2 b3 r3 r4 r5 b13 h hE hs hnm hns z3
  unfold E.val at HAX ⊢
  go_enter Tryd.func63, Tryd.ntmps63
  go_upto_region 2 with fail
  rw [← hW1, ← hW2, ← hW3, show w.heap.size + 1 + 1 = w.heap.size + 2 from rfl]
  clear hW1 hW2 hW3 z1 z2 W1 W2
  go_wp2_with fail
  refine HAX.out.mono ?_
  rintro ee w2 ⟨sv2, rfl, hown2, b2⟩
  have HS := Lib.hid (HS0.out w2 b2)
  have HLN := ls_own hown2
  have HOB : Hid (∀ g, sv2.ownBlock = some g → w.heap.size + 3 ≤ g ∧ g < w2.heap.size) := fun g hg => by
    have := hown2.lt g hg
    have := HZ3.out
    omega
  obtain ⟨a2, c2, rfl, hnl0, hnl1, hnt⟩ := ls_str HLN
  have HNG : Hid (0 < ns.length → ∃ g off, a2 = some ⟨g, off, none⟩ ∧ w.heap.size + 3 ≤ g ∧ g < w2.heap.size ∧ ∀ i, i < ns.length → w2.cell? ⟨g, off + i, none⟩ = some (.string (atS ns i))) := fun h0 => by
    obtain ⟨g, off, ha, hg, hc⟩ := hnt h0
    subst ha
    have hob : (Value.slice (some ⟨g, off, none⟩) ns.length c2).ownBlock = some g := by
      have h1 := hown2
      obtain ⟨_, ⟨h2, _⟩ | ⟨g2, cap, cur, h2, _⟩⟩ := h1
      · cases h2
      · injection h2 with h2 _ _
        injection h2 with h2
        injection h2 with h2 _ _
        subst h2
        rfl
    exact ⟨g, off, rfl, (HOB.out g hob).1, hg, hc⟩
  clear hnt hnl0 hnl1 hown2 b2 HAX HLN HOB HS0 HZ3 s0 s1 s2 s3 s4 s5
  go_wp2
  go_loopw [11] (fun i wr => ∃ (k : Nat) (vs' xs : List Vb) (a' : Option Addr) (c' : Nat), k ≤ ns.length ∧ i = .int .i64 k ∧ Hid (xs.map Vb.v = ns.take k) ∧ Hid (SiS B bf bm vs fs sv w [.int .i8 e.op, .string e.t.v, .int .i8 e.t.a.k, .int .i64 e.t.a.n, .string e.t.a.s, .slice a e.kids.length c] w2 vs' xs a' c' wr)) (fun i _ => ns.length - (intOf i).toNat)
  case atStart => exact ⟨0, vs, [], none, 0, Nat.zero_le _, rfl, rfl, HS⟩
  case round =>
    clear HS
    obtain ⟨k, vs', xs, a', c', hk, rfl, HX, HS⟩ := hrel
    have hxl : xs.length = k := by
      have := congrArg List.length HX.out
      rw [List.length_map, List.length_take] at this
      omega
    by_cases hlt : k < ns.length
    · have hlt' : (k : Int) < (ns.length : Int) := by omega
      have hk0 : (0 : Int) ≤ (k : Int) := by omega
      obtain ⟨g2, off2, rfl, hgl, hgu, hcs⟩ := HNG.out (by omega)
      have x0 : wr.cell? ⟨g2, off2 + k, none⟩ = some (.string (atS ns k)) := by rw [World.cell?_of_block (w := w2) (HS.out.nm g2 hgl hgu)]; exact hcs k hlt
      have m1 := HS.out.r5.at (j := 1) rfl
      have HXN : Hid (∀ x : Vb, x.v = atS ns k → (xs ++ [x]).map Vb.v = ns.take (k + 1)) := fun x hx => by rw [takeS hlt, List.map_append, HX.out, List.map_cons, List.map_nil, hx]
      have HV : Hid (Calls Tryd.prog 61 #[.pointer (some ⟨bf, 0, none⟩), .string (atS ns k)] wr.drew fun r w' => ∃ vs'' x, r = .returned (.pointer (some ⟨x.b, 0, none⟩)) ∧ x ∈ vs'' ∧ x.v = atS ns k ∧ SiS B bf bm vs fs sv w [.int .i8 e.op, .string e.t.v, .int .i8 e.t.a.k, .int .i64 e.t.a.n, .string e.t.a.s, .slice a e.kids.length c] w2 vs'' xs a' c' w') := by
        have hD : Below wr.heap.size wr wr.drew := (Below.refl _ _).drew
        have hz : B ≤ wr.drew.heap.size := HBB.out _ (Nat.le_trans HS.out.tz.size hD.size)
        refine (variable_any (HS.out.fd.below hD) hz (atS ns k) (HNM.out _ (by rw [atS_eq hlt]; exact List.getElem_mem hlt))).mono ?_
        rintro r w' ⟨vs'', x, rfl, hx, hxv, ⟨m, hm, hm2⟩, hf, ht⟩
        exact ⟨vs'', x, rfl, hx, hxv, (HS.out.below hD).keep hf ⟨m, hm, fun y hy => (hm2 y hy).1⟩ ht⟩
      generalize atS ns k = nm at x0 HXN HV
      clear HX hcs
      subst hxl
      go_wp2_with fail
      go_region_law (first
        | (refine step_call rfl 61 Tryd.func61 (by kernel_rfl) (by kernel_rfl) #[.tmp 17, .tmp 18] _ rfl #[.pointer (some ⟨bf, 0, none⟩), .string nm] (by simp [Act.eval, Act.put]) HV.out ?_
           rintro ee w4 ⟨vs2, x, rfl, hx, hxv, hs4⟩
           refine ⟨_, rfl, ?_⟩
           have HXX := Lib.hid hx
           have HXV := Lib.hid (HXN.out x hxv)
           have n1 := hs4.r5.at (j := 1) rfl
           have n2 := (hs4.r5.below (belowA (w := w4) (.cells #[.pointer (some ⟨x.b, 0, none⟩)] 143))).at (j := 1) rfl
           have HSU := Lib.hid (hs4.below (belowA (w := w4) (.cells #[.pointer (some ⟨x.b, 0, none⟩)] 143)))
           have HC := Lib.hid (lit_news w4 #[.pointer (some ⟨x.b, 0, none⟩)] 143)
           clear hx hxv hs4)
        | (refine step_append_own rfl (.tmp 16) (.tmp 20) 150 rfl 143 i0 _ 1 8 Tryd.underlying150 hi0 hz0 hz1 hz2 rfl (by decide) w2.heap.size (.slice a' xs.length c') xs.length _ (by simp [Act.eval, Act.put]) HSU.out.own ⟨w4.heap.size, 0, none⟩ 1 1 [.pointer (some ⟨x.b, 0, none⟩)] (by simp [Act.eval, Act.put]) rfl HC.out (by simp [Value.oneCell']) (by unfold maxLen; omega) (by omega) HSU.out.zs.2 ?_
           intro v' w5 hown' hgrow hloc
           obtain ⟨a5, c5, rfl, h5, hst⟩ := HSU.out.step HXX.out hown' hgrow hloc
           have q1 := RL.at h5 (j := 1) rfl
           have f1 := World.rowIs.frozen h5 1
           have HST := Lib.hid hst
           clear hown' hgrow hloc hst h5))
      all_goals
        go_wp2
        go_roundw
        case rel => exact ⟨xs.length + 1, vs2, xs ++ [x], a5, c5, by omega, by go_num, HXV, HST⟩
        case measure => simp [intOf]; omega
    · obtain rfl : k = ns.length := by omega
      rw [List.take_length] at HX
      have p0 := HS.out.r3.at (j := 0) rfl
      have p5 := HS.out.r3.at (j := 5) rfl
      have m0 := HS.out.r5.at (j := 0) rfl
      have m1 := HS.out.r5.at (j := 1) rfl
      have n0 := HS.out.r4.at (j := 0) rfl
      have n1 := HS.out.r4.at (j := 1) rfl
      have fm := World.rowIs.frozen HS.out.r5 0
      have f0 := World.rowIs.frozen HS.out.r4 0
      have f1 := World.rowIs.frozen HS.out.r4 1
      by_cases hone : (e.op = 0 ∧ e.kids.length = 0) ∧ xs.length = 1
      · obtain ⟨x, rfl⟩ : ∃ x, xs = [x] := List.length_eq_one_iff.1 hone.2
        obtain ⟨_, _, hq3⟩ := own_lq HS.out.own
        obtain ⟨g, off, rfl, hg, hc⟩ := hq3 (by simp)
        have y0 : wr.cell? ⟨g, off, none⟩ = some (.pointer (some ⟨x.b, 0, none⟩)) := hc 0 (by simp)
        have e1 : (e.op == 0) = true := by rw [hone.1.1]; rfl
        have e2 : ((e.kids.length : Int) == 0) = true := by rw [hone.1.2]; rfl
        have HQ : Hid (q = ⟨some x.v, ns⟩) := HSD.out _ (by rw [if_pos hone.1, ← HX.out]; rfl)
        clear hc hq3 hone hxl hk hlt
        go_wp2
        have hd : RL (((wr.setCell ⟨w.heap.size + 2, 0, none⟩ (.pointer (some ⟨x.b, 0, none⟩))).setCell ⟨w.heap.size + 1, 0, none⟩ (.pointer (some ⟨x.b, 0, none⟩))).setCell ⟨w.heap.size + 1, 1, none⟩ (.slice (some ⟨g, off, none⟩) 1 c')) (w.heap.size + 1) 152 [.pointer (some ⟨x.b, 0, none⟩), .slice (some ⟨g, off, none⟩) 1 c'] := ((HS.out.r4.other (by omega) _).set 0 _).set 1 _
        refine bodyPost_ret (rl_results Tryd.results63 (v := .agg #[.pointer (some ⟨x.b, 0, none⟩), .slice (some ⟨g, off, none⟩) 1 c']) rfl (run_loadVar_mid _ _ 0 152 [.pointer (some ⟨x.b, 0, none⟩), .slice (some ⟨g, off, none⟩) 1 c'] _ (RL.range hd) Tryd.underlying152 rfl (by kernel_rfl))) rfl ?_
        rw [HQ.out]
        exact HS.out.fin (u' := ((wr.setCell ⟨w.heap.size + 2, 0, none⟩ (.pointer (some ⟨x.b, 0, none⟩))).setCell ⟨w.heap.size + 1, 0, none⟩ (.pointer (some ⟨x.b, 0, none⟩))).setCell ⟨w.heap.size + 1, 1, none⟩ (.slice (some ⟨g, off, none⟩) 1 c')) (l := some x) (fun k h4 h5 => by rw [heap_setTwo h4 h5]; exact heap_setCell_other _ _ _ _ (by show k ≠ w.heap.size + 2; exact h5)) rfl rfl rfl (by simp) HX.out rfl (fun y hy => by cases hy; exact HS.out.mem x (by simp))
      · have HQ : Hid (q = ⟨none, ns⟩) := HSD.out _ (by
          by_cases h1 : e.op = 0 ∧ e.kids.length = 0
          · have h2 := HLF.out h1.2
            have h3 : ns.length = 0 := by
              by_cases h4 : xs.length = 1
              · exact absurd ⟨h1, h4⟩ hone
              · omega
            rw [if_pos h1, List.length_eq_zero_iff.1 h3]
            rfl
          · rw [if_neg h1])
        have HD : Hid (RL ((wr.setCell ⟨w.heap.size + 1, 0, none⟩ (.pointer none)).setCell ⟨w.heap.size + 1, 1, none⟩ (.slice a' xs.length c')) (w.heap.size + 1) 152 [.pointer none, .slice a' xs.length c']) := (HS.out.r4.set 0 _).set 1 _
        have HFI : Hid (SiP B bf bm vs fs sv q w (.returned (.agg #[.pointer none, .slice a' xs.length c'])) ((wr.setCell ⟨w.heap.size + 1, 0, none⟩ (.pointer none)).setCell ⟨w.heap.size + 1, 1, none⟩ (.slice a' xs.length c'))) := by
          show SiP _ _ _ _ _ _ _ _ _ _
          rw [HQ.out]
          exact HS.out.fin (l := none) (fun k h4 h5 => heap_setTwo h4 h5) rfl rfl rfl (by simp) HX.out rfl (fun y hy => by cases hy)
        by_cases h1 : e.op = 0
        · have e1 : (e.op == 0) = true := by rw [h1]; rfl
          by_cases h2 : e.kids.length = 0
          · have e2 : ((e.kids.length : Int) == 0) = true := by rw [h2]; rfl
            have h3 : xs.length ≠ 1 := fun h3 => hone ⟨⟨h1, h2⟩, h3⟩
            have e3 : ((xs.length : Int) == 1) = false := by rw [beq_eq_false_iff_ne]; omega
            clear hone hxl hk hlt h1 h2 h3
            go_wp2
            exact bodyPost_ret (rl_results Tryd.results63 (v := .agg #[.pointer none, .slice a' xs.length c']) rfl (run_loadVar_mid _ _ 0 152 [.pointer none, .slice a' xs.length c'] _ (RL.range HD.out) Tryd.underlying152 rfl (by kernel_rfl))) rfl HFI.out
          · have e2 : ((e.kids.length : Int) == 0) = false := by rw [beq_eq_false_iff_ne]; omega
            clear hone hxl hk hlt h1 h2
            go_wp2
            exact bodyPost_ret (rl_results Tryd.results63 (v := .agg #[.pointer none, .slice a' xs.length c']) rfl (run_loadVar_mid _ _ 0 152 [.pointer none, .slice a' xs.length c'] _ (RL.range HD.out) Tryd.underlying152 rfl (by kernel_rfl))) rfl HFI.out
        · have e1 : (e.op == 0) = false := by rw [beq_eq_false_iff_ne]; exact h1
          clear hone hxl hk hlt h1
          go_wp2
          exact bodyPost_ret (rl_results Tryd.results63 (v := .agg #[.pointer none, .slice a' xs.length c']) rfl (run_loadVar_mid _ _ 0 152 [.pointer none, .slice a' xs.length c'] _ (RL.range HD.out) Tryd.underlying152 rfl (by kernel_rfl))) rfl HFI.out
end Go.Proofs.YteabclfhmapabaaDoor
end
section
namespace Go.Proofs.YteabclfhmapabaaDoor
open Go.RowKit Go.Maps
set_option linter.unusedVariables false
set_option linter.unusedSimpArgs false
attribute [local go_sem ↓] Go.wp_at_zero Go.wp_at_succ

/-- a pointer to a block -/
def ptrB (b : Nat) : List Value := [.pointer (some ⟨b, 0, none⟩)]
theorem infoPEq : (Tryd.prog.info? 149).map (fun i => (i.zero, i.size, i.bytes)) = some (some (.pointer none), 1, 8) := by kernel_rfl
/-- the list of what waits: pointers to these blocks -/
structure Wk (B bw : Nat) (ps : List Nat) (sv : Value) (w : World) : Prop where
  r : RL w bw 147 [sv]
  own : w.ownsRow B 149 1 sv ps.length (ps.flatMap ptrB)
  ap : ∀ g, sv.ownBlock = some g → g ≠ bw
/-- its blocks -/
def WP (bw : Nat) (sv : Value) (k : Nat) : Prop := k = bw ∨ sv.ownBlock = some k
theorem Wk.keep {B bw : Nat} {ps : List Nat} {sv : Value} {w w' : World} (h : Wk B bw ps sv w) (hk : ∀ k, WP bw sv k → w'.heap[k]? = w.heap[k]?) : Wk B bw ps sv w' :=
  ⟨World.rowIs.of_block h.r (hk _ (.inl rfl)), own_of_block h.own (fun g hg => hk _ (.inr hg)), h.ap⟩
theorem Wk.lt {B bw : Nat} {ps : List Nat} {sv : Value} {w : World} (h : Wk B bw ps sv w) : ∀ k, WP bw sv k → k < w.heap.size := by
  rintro k (rfl | e)
  · exact World.rowIs.lt h.r
  · exact (h.own.lt k e).2
/-- one more waits -/
theorem Wk.more {B bw b : Nat} {ps : List Nat} {sv sv' : Value} {w w3 Y : World} (h : Wk B bw ps sv w) (hY : Below w.heap.size w Y)
    (hown' : w3.ownsRow B 149 1 sv' (ps.length + 1) (ps.flatMap ptrB ++ [.pointer (some ⟨b, 0, none⟩)])) (hgrow : Y.grownBy w3 sv.ownBlock) (hloc : sv'.ownBlock = sv.ownBlock ∨ sv'.ownBlock = some Y.heap.size) :
    RL w3 bw 147 [sv] ∧ Wk B bw (ps ++ [b]) sv' (w3.setCell ⟨bw, 0, none⟩ sv') ∧ Tz (WP bw sv) w (w3.setCell ⟨bw, 0, none⟩ sv') ∧ (∀ g, sv'.ownBlock = some g → sv.ownBlock = some g ∨ w.heap.size ≤ g) := by
  have hlt := h.lt
  have hbw := hlt bw (.inl rfl)
  have hsz := hY.size
  have hz3 : w.heap.size ≤ w3.heap.size := Nat.le_trans hsz hgrow.size
  have k3 : ∀ k, k < w.heap.size → some k ≠ sv.ownBlock → w3.heap[k]? = w.heap[k]? := fun k hk hn => by
    rw [hgrow.block k (by omega) hn, hY.block k hk]
  have hnbw : some bw ≠ sv.ownBlock := fun e => (h.ap bw e.symm) rfl
  have hr : RL w3 bw 147 [sv] := World.rowIs.of_block h.r (k3 bw hbw hnbw)
  have hnew : ∀ g, sv'.ownBlock = some g → sv.ownBlock = some g ∨ w.heap.size ≤ g := fun g hg => by
    rcases hloc with e | e
    · exact .inl (by rw [← e]; exact hg)
    · rw [e] at hg
      have := Option.some.inj hg
      exact .inr (by omega)
  have hap : ∀ g, sv'.ownBlock = some g → g ≠ bw := fun g hg => by
    rcases hnew g hg with e | e
    · exact h.ap g e
    · omega
  have kf : ∀ k, k ≠ bw → (w3.setCell ⟨bw, 0, none⟩ sv').heap[k]? = w3.heap[k]? := fun k hk => heap_setCell_other _ _ _ _ (by show k ≠ bw; exact hk)
  refine ⟨hr, ⟨hr.set 0 sv', ?_, hap⟩, ?_, hnew⟩
  · have e1 : (ps ++ [b]).length = ps.length + 1 := by simp
    have e2 : (ps ++ [b]).flatMap ptrB = ps.flatMap ptrB ++ [.pointer (some ⟨b, 0, none⟩)] := by rw [List.flatMap_append]; rfl
    rw [e1, e2]
    exact own_of_block hown' (fun g hg => kf g (hap g hg))
  · refine ⟨hgrow.os.trans hY.os, hgrow.tape.trans hY.tape, hgrow.output.trans hY.output, by simp only [World.size_setCell]; omega, fun k hk he => ?_⟩
    rw [kf k (fun e => he (.inl e))]
    exact k3 k hk (fun e => he (.inr e.symm))
set_option maxHeartbeats 1600000 in
theorem add_any {B bw : Nat} {ps : List Nat} {sv : Value} {w : World} (h : Wk B bw ps sv w) (hB : B ≤ w.heap.size) (b : Nat) (hl : ps.length ≤ 1000000000) :
    Calls Tryd.prog 62 #[.pointer (some ⟨bw, 0, none⟩), .pointer (some ⟨b, 0, none⟩)] w fun e w' => (∃ u, e = .returned u) ∧ ∃ sv', Wk B bw (ps ++ [b]) sv' w' ∧ Tz (WP bw sv) w w' ∧ (∀ g, sv'.ownBlock = some g → sv.ownBlock = some g ∨ w.heap.size ≤ g) := by
  obtain ⟨i0, hi0, hz0, hz1, hz2⟩ := info_parts infoPEq
  have HH := Lib.hid h
  obtain ⟨sa, sc, rfl, _⟩ := own_form h.own
  have c0 := h.r.at (j := 0) rfl
  have BA := Lib.hid (belowA (w := w) (.cells #[.pointer (some ⟨b, 0, none⟩)] 149))
  clear h
  go_enter Tryd.func62, Tryd.ntmps62
  go_wp2_with (at_builtin; refine wpList_append_own_at _ rfl (.tmp 8) (.tmp 10) 145 rfl B 149 i0 _ 1 8 Tryd.underlying145 hi0 hz0 hz1 hz2 rfl (by decide) (.slice sa ps.length sc) ps.length (ps.flatMap ptrB) (by simp [Act.eval, Act.put]) (own_below HH.out.own BA.out) ⟨w.heap.size, 0, none⟩ 1 1 [.pointer (some ⟨b, 0, none⟩)] (by simp [Act.eval, Act.put]) rfl (lit_news w #[.pointer (some ⟨b, 0, none⟩)] _) (by simp [Value.oneCell']) (by unfold maxLen; omega) (by omega) (by simp; omega) ?_; intro v' w3 hown' hgrow hnil hloc; have HM := Lib.hid (HH.out.more BA.out hown' hgrow hloc); have q1 := HM.out.1.at (j := 0) rfl; have f1 := World.rowIs.frozen HM.out.1 0; obtain ⟨a6, c6, rfl, _⟩ := own_form hown'; clear hown' hgrow hnil hloc c0)
  go_end0
  exact ⟨⟨_, rfl⟩, _, HM.out.2.1, HM.out.2.2.1, HM.out.2.2.2⟩
end Go.Proofs.YteabclfhmapabaaDoor
end
section
namespace Go.Proofs.YteabclfhmapabaaDoor
open Go.RowKit Go.Maps
set_option linter.unusedVariables false
set_option linter.unusedSimpArgs false
attribute [local go_sem ↓] Go.wp_at_zero Go.wp_at_succ

/-- an equation's blocks -/
def EP (r : Er) (k : Nat) : Prop := k = r.be ∨ (∃ off, r.a0 = some ⟨k, off, none⟩) ∨ ∃ off, r.a1 = some ⟨k, off, none⟩
theorem EqIs.lt {bf bm : Nat} {vs : List Vb} {fs : List ByteArray} {sv : Value} {w : World} {r : Er} (h : EqIs bf bm vs fs sv w r) : ∀ k, EP r k → k < w.heap.size ∧ ¬ FP bf bm vs sv k := by
  rintro k (rfl | ⟨off, e⟩ | ⟨off, e⟩)
  · exact ⟨World.rowIs.lt h.row, h.nf⟩
  · exact ⟨(h.g0 k off e).2.2, (h.g0 k off e).1⟩
  · exact ⟨(h.g1 k off e).2.2, (h.g1 k off e).1⟩
/-- an equation stays while its blocks stay -/
theorem EqIs.keep2 {bf bm : Nat} {vs vs' : List Vb} {fs fs' : List ByteArray} {sv sv' : Value} {w w' : World} {r : Er} (h : EqIs bf bm vs fs sv w r) (hz : w.heap.size ≤ w'.heap.size) (hb : ∀ k, EP r k → w'.heap[k]? = w.heap[k]?) (hfs : ∀ n ∈ fs, n ∈ fs') (hvs : ∀ x ∈ vs, x ∈ vs') (hnf : ∀ k, EP r k → ¬ FP bf bm vs' sv' k) : EqIs bf bm vs' fs' sv' w' r := by
  have k0 : ∀ g off, r.a0 = some ⟨g, off, none⟩ → w'.heap[g]? = w.heap[g]? := fun g off e => hb g (.inr (.inl ⟨off, e⟩))
  have k1 : ∀ g off, r.a1 = some ⟨g, off, none⟩ → w'.heap[g]? = w.heap[g]? := fun g off e => hb g (.inr (.inr ⟨off, e⟩))
  refine ⟨World.rowIs.of_block h.row (hb _ (.inl rfl)), h.q0.keep hz k0, h.q1.keep hz k1, h.n0, h.n1, ?_, ?_, fun x e => hvs x (h.m0 x e), fun x e => hvs x (h.m1 x e), fun x e => hvs x (h.i0 x e), fun x e => hvs x (h.i1 x e), hnf _ (.inl rfl), fun g off e => ⟨hnf g (.inr (.inl ⟨off, e⟩)), (h.g0 g off e).2.1, Nat.lt_of_lt_of_le (h.g0 g off e).2.2 hz⟩, fun g off e => ⟨hnf g (.inr (.inr ⟨off, e⟩)), (h.g1 g off e).2.1, Nat.lt_of_lt_of_le (h.g1 g off e).2.2 hz⟩⟩
  · obtain ⟨ds, e, hd⟩ := h.v0
    exact ⟨ds, e, fun n hn => hfs n (hd n hn)⟩
  · obtain ⟨ds, e, hd⟩ := h.v1
    exact ⟨ds, e, fun n hn => hfs n (hd n hn)⟩
/-- equations that lie apart -/
structure Eqs (bf bm : Nat) (vs : List Vb) (fs : List ByteArray) (sv : Value) (w : World) (L : List Er) : Prop where
  is : ∀ r ∈ L, EqIs bf bm vs fs sv w r
  nd : (L.map Er.be).Nodup
  ap : ∀ r ∈ L, ∀ r' ∈ L, ∀ k, EP r k → k = r'.be → r.be = r'.be
theorem Eqs.keep {bf bm : Nat} {vs vs' : List Vb} {fs fs' : List ByteArray} {sv sv' : Value} {w w' : World} {L : List Er} (h : Eqs bf bm vs fs sv w L) (hz : w.heap.size ≤ w'.heap.size) (hb : ∀ r ∈ L, ∀ k, EP r k → w'.heap[k]? = w.heap[k]?) (hfs : ∀ n ∈ fs, n ∈ fs') (hvs : ∀ x ∈ vs, x ∈ vs') (hnf : ∀ k, k < w.heap.size → ¬ FP bf bm vs sv k → ¬ FP bf bm vs' sv' k) : Eqs bf bm vs' fs' sv' w' L :=
  ⟨fun r hr => (h.is r hr).keep2 hz (hb r hr) hfs hvs (fun k hk => hnf k ((h.is r hr).lt k hk).1 ((h.is r hr).lt k hk).2), h.nd, h.ap⟩
theorem Eqs.sub {bf bm : Nat} {vs : List Vb} {fs : List ByteArray} {sv : Value} {w : World} {L M : List Er} (h : Eqs bf bm vs fs sv w L) (hs : M.Sublist L) : Eqs bf bm vs fs sv w M :=
  ⟨fun r hr => h.is r (hs.subset hr), (hs.map _).nodup h.nd, fun r hr r' hr' => h.ap r (hs.subset hr) r' (hs.subset hr')⟩
/-- one of them is looked at -/
theorem Eqs.step {B bf bm : Nat} {vs : List Vb} {fs : List ByteArray} {sv : Value} {w w' : World} {ks rest : List Er} {r : Er} {o : Option ByteArray} (h : Eqs bf bm vs fs sv w (ks ++ r :: rest)) (hf : Fd B bf bm vs fs sv w) (hg : GvP B bf bm vs fs sv r o w w') :
    ∃ r' sv', r'.be = r.be ∧ r'.q = r.q ∧ (∀ k, EP r' k → EP r k) ∧ Fd B bf bm vs (fs ++ o.toList) sv' w' ∧ Eqs bf bm vs (fs ++ o.toList) sv' w' (ks ++ r' :: rest) ∧ Tz (fun k => FP bf bm vs sv k ∨ k = r.be) w w' ∧ (∀ g, sv'.ownBlock = some g → sv.ownBlock = some g ∨ w.heap.size ≤ g) := by
  obtain ⟨r', sv', h1, h2, h3, h4, h5, h6, h7⟩ := hg
  have hr : r ∈ ks ++ r :: rest := List.mem_append.2 (.inr List.mem_cons_self)
  have hep : ∀ k, EP r' k → EP r k := by
    rintro k (e | ⟨off, e⟩ | ⟨off, e⟩)
    · exact .inl (e.trans h1)
    · obtain ⟨o0, e0⟩ := (h3 k off).1 e
      exact .inr (.inl ⟨o0, e0⟩)
    · obtain ⟨o0, e0⟩ := (h3 k off).2 e
      exact .inr (.inr ⟨o0, e0⟩)
  have hnd := h.nd
  rw [List.map_append, List.map_cons, List.nodup_append, List.nodup_cons] at hnd
  have hne : ∀ x, x ∈ ks ∨ x ∈ rest → x.be ≠ r.be := by
    rintro x (hx | hx) e
    · exact hnd.2.2 _ (List.mem_map.2 ⟨x, hx, rfl⟩) _ List.mem_cons_self e
    · exact hnd.2.1.1 (List.mem_map.2 ⟨x, hx, e⟩)
  have hin : ∀ x, x ∈ ks ∨ x ∈ rest → x ∈ ks ++ r :: rest := by
    rintro x (hx | hx)
    · exact List.mem_append.2 (.inl hx)
    · exact List.mem_append.2 (.inr (List.mem_cons_of_mem _ hx))
  have hsp : ∀ x, x ∈ ks ++ r' :: rest → x = r' ∨ (x ∈ ks ∨ x ∈ rest) := by
    intro x hx
    rcases List.mem_append.1 hx with hx | hx
    · exact .inr (.inl hx)
    · rcases List.mem_cons.1 hx with hx | hx
      · exact .inl hx
      · exact .inr (.inr hx)
  refine ⟨r', sv', h1, h2.1, hep, h4, ⟨fun x hx => ?_, ?_, fun x hx y hy k hk e => ?_⟩, h6, h7⟩
  · rcases hsp x hx with rfl | hx
    · exact h5
    · have hxi := hin x hx
      refine (h.is x hxi).keep2 h6.size (fun k hk => ?_) (fun n hn => List.mem_append.2 (.inl hn)) (fun y hy => hy) (fun k hk => fp_new hf h7 k ((h.is x hxi).lt k hk).1 ((h.is x hxi).lt k hk).2)
      refine h6.block k ((h.is x hxi).lt k hk).1 ?_
      rintro (e | e)
      · exact ((h.is x hxi).lt k hk).2 e
      · exact hne x hx (h.ap x hxi r hr k hk e)
  · rw [List.map_append, List.map_cons, h1, ← List.map_cons, ← List.map_append]
    exact h.nd
  · rcases hsp x hx with ex | hx2
    · rcases hsp y hy with ey | hy2
      · rw [ex, ey]
      · rw [ex] at hk ⊢
        rw [h1]
        exact h.ap r hr y (hin y hy2) k (hep k hk) e
    · rcases hsp y hy with ey | hy2
      · rw [ey, h1] at e ⊢
        exact h.ap x (hin x hx2) r hr k hk e
      · exact h.ap x (hin x hx2) y (hin y hy2) k hk e
/-- the row of what waits, amid a round: what is kept ahead, what is still to come as it was -/
structure Rr (B g cap : Nat) (ps ks : List Nat) (w : World) (k : Nat) : Prop where
  lo : B ≤ g
  cp : ps.length ≤ cap ∧ cap ≤ maxLen
  le : ks.length ≤ k ∧ k ≤ ps.length
  blk : ∃ cur : Array Value, w.heap[g]? = some (.cells cur 149 (0, 0)) ∧ cur.size = cap ∧ cur.toList.take ks.length = ks.flatMap ptrB ∧ ∀ i, k ≤ i → i < ps.length → cur.toList[i]? = some (.pointer (some ⟨ps.getD i 0, 0, none⟩))
theorem Rr.of_block {B g cap : Nat} {ps ks : List Nat} {w w' : World} {k : Nat} (h : Rr B g cap ps ks w k) (e : w'.heap[g]? = w.heap[g]?) : Rr B g cap ps ks w' k := by
  obtain ⟨cur, hb, r⟩ := h.blk
  exact ⟨h.lo, h.cp, h.le, cur, e.trans hb, r⟩
theorem Rr.lt {B g cap : Nat} {ps ks : List Nat} {w : World} {k : Nat} (h : Rr B g cap ps ks w k) : g < w.heap.size := by
  obtain ⟨cur, hb, _⟩ := h.blk
  exact (Array.getElem?_eq_some_iff.1 hb).1
theorem Rr.cell {B g cap : Nat} {ps ks : List Nat} {w : World} {k : Nat} (h : Rr B g cap ps ks w k) (hk : k < ps.length) : w.cell? ⟨g, k, none⟩ = some (.pointer (some ⟨ps.getD k 0, 0, none⟩)) := by
  obtain ⟨cur, hb, _, _, hc⟩ := h.blk
  rw [cell_of_row w g k cur _ (0, 0) hb, ← hc k (Nat.le_refl _) hk]
  simp
theorem Rr.skip {B g cap : Nat} {ps ks : List Nat} {w : World} {k : Nat} (h : Rr B g cap ps ks w k) (hk : k < ps.length) : Rr B g cap ps ks w (k + 1) := by
  obtain ⟨cur, hb, h1, h2, hc⟩ := h.blk
  exact ⟨h.lo, h.cp, ⟨Nat.le_succ_of_le h.le.1, hk⟩, cur, hb, h1, h2, fun i hi => hc i (by omega)⟩
theorem ptrB_len : ∀ l : List Nat, (l.flatMap ptrB).length = l.length
  | [] => rfl
  | b :: l => by rw [List.flatMap_cons, List.length_append, ptrB_len l]; simp [ptrB]; omega
theorem ptrB_at : ∀ (ps : List Nat) (i : Nat), i < ps.length → (ps.flatMap ptrB)[i]? = some (.pointer (some ⟨ps.getD i 0, 0, none⟩))
  | [], i, hi => by simp at hi
  | p :: ps, 0, _ => by simp [List.flatMap_cons, ptrB]
  | p :: ps, i + 1, hi => by
    rw [List.flatMap_cons, show ptrB p ++ ps.flatMap ptrB = .pointer (some ⟨p, 0, none⟩) :: ps.flatMap ptrB from rfl, List.getElem?_cons_succ]
    simp only [List.length_cons] at hi
    exact ptrB_at ps i (by omega)
/-- one more is kept -/
theorem Rr.push {B g cap : Nat} {ps ks : List Nat} {w : World} {k b a : Nat} (h : Rr B g cap ps ks w k) (hk : k < ps.length) (ha : w.cell? ⟨a, 0, none⟩ = some (.pointer (some ⟨b, 0, none⟩)))
    (i0 : TypeInfo) (hi : Tryd.prog.info? 149 = some i0) (hs : i0.size = 1) (c : Nat) :
    ∃ w', (∀ ty, (Builtin.append_ #[145, 145] ty #[.slice (some ⟨g, 0, none⟩) ks.length cap, .slice (some ⟨a, 0, none⟩) 1 c]).run Tryd.prog w = .ok (.slice (some ⟨g, 0, none⟩) (ks.length + 1) cap) w') ∧ Rr B g cap ps (ks ++ [b]) w' (k + 1) ∧ Tz (fun j => j = g) w w' ∧ w'.heap.size = w.heap.size := by
  obtain ⟨cur, hb, h1, h2, hc⟩ := h.blk
  have hr := fun ty => run_append_room (P := Tryd.prog) w 145 ty 149 i0 Tryd.underlying145 hi g ks.length cap cur hb ⟨a, 0, none⟩ 1 c [.pointer (some ⟨b, 0, none⟩)] (by rw [hs]; rfl) (fun j u hj => by
    match j, hj with
    | 0, hj => simp at hj; subst hj; exact ha) (by simp [Value.oneCell']) (by have := h.le; have := h.cp; omega) (by rw [hs]; simp; have := h.le; have := h.cp; omega)
  refine ⟨_, hr, ⟨h.lo, h.cp, ⟨by simp; exact h.le.1, hk⟩, _, setRow_heap w g cur _ _ _ hb, ?_, ?_, fun i hi hl => ?_⟩, ⟨rfl, rfl, rfl, by simp [World.setRow], fun j _ hj => setRow_other w g j _ hj⟩, by simp [World.setRow]⟩
  · rw [hs]
    simp only [List.size_toArray, List.length_append, List.length_take, List.length_drop, Array.length_toList, List.length_cons, List.length_nil]
    have := h.le
    have := h.cp
    omega
  · rw [hs, Nat.mul_one, h2, List.flatMap_append]
    have : (ks ++ [b]).length = (ks.flatMap ptrB ++ [Value.pointer (some ⟨b, 0, none⟩)]).length := by rw [List.length_append, List.length_append, ptrB_len]; rfl
    rw [this]
    exact List.take_left
  · rw [hs, Nat.mul_one, h2]
    have hle := h.le
    have e1 : (ks.flatMap ptrB ++ [Value.pointer (some ⟨b, 0, none⟩)]).length = ks.length + 1 := by rw [List.length_append, ptrB_len]; rfl
    have e2 : [Value.pointer (some ⟨b, 0, none⟩)].length = 1 := rfl
    rw [List.getElem?_append_right (by rw [e1]; omega), e1, e2, List.getElem?_drop, show ks.length + 1 + (i - (ks.length + 1)) = i by omega]
    exact hc i (by omega) hl
/-- where it begins, and where it ends -/
theorem Rr.start {B g cap : Nat} {ps : List Nat} {w : World} (h : w.ownsRow B 149 1 (.slice (some ⟨g, 0, none⟩) ps.length cap) ps.length (ps.flatMap ptrB)) : Rr B g cap ps [] w 0 := by
  obtain ⟨hl, ⟨h1, _⟩ | ⟨g', cap', cur, h1, hb, hg, hn, hm, hs, ht⟩⟩ := h
  · cases h1
  · injection h1 with h1 _ h3
    injection h1 with h1
    injection h1 with h1 _ _
    subst h1 h3
    refine ⟨hb, ⟨hn, hm⟩, ⟨Nat.zero_le _, Nat.zero_le _⟩, cur, hg, by omega, rfl, fun i _ hi => ?_⟩
    rw [Nat.mul_one] at ht
    have e1 : (ps.flatMap ptrB)[i]? = some (.pointer (some ⟨ps.getD i 0, 0, none⟩)) := by
      exact ptrB_at ps i hi
    rw [← e1, ← ht, List.getElem?_take, if_pos hi]
theorem Rr.done {B g cap : Nat} {ps ks : List Nat} {w : World} {k : Nat} (h : Rr B g cap ps ks w k) : w.ownsRow B 149 1 (.slice (some ⟨g, 0, none⟩) ks.length cap) ks.length (ks.flatMap ptrB) := by
  obtain ⟨cur, hb, h1, h2, hc⟩ := h.blk
  have := h.le
  have := h.cp
  exact ⟨by rw [ptrB_len]; omega, .inr ⟨g, cap, cur, rfl, h.lo, hb, by omega, h.cp.2, by omega, by rw [Nat.mul_one]; exact h2⟩⟩
end Go.Proofs.YteabclfhmapabaaDoor
end
