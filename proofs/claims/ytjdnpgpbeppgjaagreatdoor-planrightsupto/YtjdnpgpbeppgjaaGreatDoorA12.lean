import Derived.Test.YtjdnpgpbeppgjaaGreatDoorA11
import Derived.Test.YtjdnpgpbeppgjaaGreatDoorA10
set_option linter.unusedSimpArgs false
set_option linter.unusedVariables false
set_option maxHeartbeats 6400000
set_option maxRecDepth 100000
namespace Go.Proofs.YtjdnpgpbeppgjaaGreatDoor
section
open Go.RowKit Go.Maps
attribute [local go_sem ↓] Go.wp_at_zero Go.wp_at_succ
def SiP (B bf bm : Nat) (vs : List Vb) (fs : List ByteArray) (sv : Value) (q : Sd) (w : World) (r : Ending) (w' : World) : Prop :=
  ∃ vs' l xs a c, r = .returned (.agg #[Z6 l, .slice a xs.length c]) ∧ Fd B bf bm vs' fs sv w' ∧ Tz (fun k => k = bm) w w' ∧ (∃ m, vs' = vs ++ m ∧ ∀ y ∈ m, w.heap.size ≤ y.b) ∧ Lq w' a c xs ∧ xs.map Vb.v = q.vars ∧ l.map Vb.v = q.lone ∧ (∀ x, l = some x → x ∈ vs') ∧ (∀ x ∈ xs, x ∈ vs') ∧ (∀ g off, a = some ⟨g, off, none⟩ → w.heap.size ≤ g ∧ g < w'.heap.size ∧ ∀ x ∈ vs', g ≠ x.b)
theorem SiS.fin {B bf bm : Nat} {vs : List Vb} {fs : List ByteArray} {sv : Value} {w : World} {ec : List Value} {Z : World} {vs' xs : List Vb} {a : Option Addr} {c : Nat} {u u' : World} (h : SiS B bf bm vs fs sv w ec Z vs' xs a c u)
    (hk : ∀ k, k ≠ w.heap.size + 1 → k ≠ w.heap.size + 2 → u'.heap[k]? = u.heap[k]?) (h1 : u'.os = u.os) (h2 : u'.tape = u.tape) (h3 : u'.output = u.output) (h4 : u'.heap.size = u.heap.size) {q : Sd} {l : Option Vb} (hv : xs.map Vb.v = q.vars) (hl : l.map Vb.v = q.lone) (hx : ∀ x, l = some x → x ∈ vs') :
    SiP B bf bm vs fs sv q w (.returned (.agg #[Z6 l, .slice a xs.length c])) u' := by
  have hz := h.zs
  have hbl := h.bl
  obtain ⟨m0, hv0, hm0⟩ := h.ext
  have hyb : ∀ y ∈ vs', y.b ≠ w.heap.size + 1 ∧ y.b ≠ w.heap.size + 2 := fun y hy => by
    have q2 : u.cell? ⟨y.b, 0, none⟩ = some (.string y.v) := (h.fd.each y hy).at (j := 0) rfl
    refine ⟨fun e => ?_, fun e => ?_⟩
    · have c1 := h.r4
      rw [← e] at c1
      have q1 : u.cell? ⟨y.b, 0, none⟩ = some (.pointer none) := c1.at (j := 0) rfl
      rw [q1] at q2
      cases q2
    · have c1 := h.r5
      rw [← e] at c1
      have q1 : u.cell? ⟨y.b, 0, none⟩ = some (.pointer none) := c1.at (j := 0) rfl
      rw [q1] at q2
      cases q2
  have hfp : ∀ k, FP bf bm vs' sv k → k ≠ w.heap.size + 1 ∧ k ≠ w.heap.size + 2 := by
    rintro k (rfl | rfl | e | ⟨y, hy, rfl⟩)
    · exact ⟨by omega, by omega⟩
    · exact ⟨by omega, by omega⟩
    · have := hbl.2.2 k e
      exact ⟨by omega, by omega⟩
    · exact hyb y hy
  have hown : u'.ownsRow Z.heap.size 393 1 (.slice a xs.length c) xs.length (xs.flatMap Zkf) := Zx h.own (fun g hg => hk g (by have := (h.own.lt g hg).1; omega) (by have := (h.own.lt g hg).1; omega))
  refine ⟨vs', l, xs, a, c, rfl, h.fd.keep (fun k hk' => hk k (hfp k hk').1 (hfp k hk').2), ⟨h1.trans h.tz.os, h2.trans h.tz.tape, h3.trans h.tz.output, by rw [h4]; exact h.tz.size, fun b hb he => (hk b (by omega) (by omega)).trans (h.tz.block b hb he)⟩, ⟨m0, hv0, fun y hy => by have := hm0 y hy; omega⟩, Znr hown, hv, hl, hx, h.mem, fun g off e => ?_⟩
  subst e
  have hob : (Value.slice (some ⟨g, off, none⟩) xs.length c).ownBlock = some g := by
    obtain ⟨_, ⟨h2, _⟩ | ⟨g2, cap, cur, h2, _⟩⟩ := hown
    · cases h2
    · injection h2 with h2 _ _
      injection h2 with h2
      injection h2 with h2 _ _
      subst h2
      rfl
  have := hown.lt g hob
  exact ⟨by omega, by omega, h.ap g hob⟩
theorem Ze1 {u : World} {b4 b5 k : Nat} {v v' : Value} (h4 : k ≠ b4) (h5 : k ≠ b5) : ((u.setCell ⟨b4, 0, none⟩ v).setCell ⟨b4, 1, none⟩ v').heap[k]? = u.heap[k]? := by
  rw [heap_setCell_other _ _ _ _ (by show k ≠ b4; exact h4), heap_setCell_other _ _ _ _ (by show k ≠ b4; exact h4)]
theorem ZiO {B bf bm : Nat} {vs : List Vb} {fs : List ByteArray} {sv : Value} {w : World} (h : Fd B bf bm vs fs sv w) (hB : B ≤ w.heap.size) (d : Nat) (e : E) (a : Option Addr) (c : Nat) (hE : EIs w (d + 1) e a c) (hs : szD (d + 1) e ≤ 1048576) (hnl : (vsT [] (Zg (d + 1) e)).length ≤ 1048576) (hnm : ∀ n ∈ vsT [] (Zg (d + 1) e), n.size ≤ maxLen) :
    Calls Tryz.prog 292 #[.pointer (some ⟨bf, 0, none⟩), e.val a c] w fun r w' => SiP B bf bm vs fs sv (sdE (d + 1) e) w r w' := by
  obtain ⟨i0, hi0, hz0, hz1, hz2⟩ := info_parts ZoM
  obtain ⟨W1, hW1⟩ : ∃ W1, W1 = w.alloc (.cells #[.int .i8 e.op, .string e.t.v, .int .i8 e.t.a.k, .int .i64 e.t.a.n, .string e.t.a.s, .slice a e.kids.length c] 103) := ⟨_, rfl⟩
  obtain ⟨W2, hW2⟩ : ∃ W2, W2 = W1.alloc (.cells #[.pointer none, .slice none 0 0] 402) := ⟨_, rfl⟩
  obtain ⟨W3, hW3⟩ : ∃ W3, W3 = W2.alloc (.cells #[.pointer none, .slice none 0 0] 402) := ⟨_, rfl⟩
  have z1 : W1.heap.size = w.heap.size + 1 := by rw [hW1]; simp
  have z2 : W2.heap.size = w.heap.size + 2 := by rw [hW2]; simp [z1]
  have z3 : W3.heap.size = w.heap.size + 3 := by rw [hW3]; simp [z2]
  have b1 : Below w.heap.size w W1 := by rw [hW1]; exact Zp _
  have b2 : Below W1.heap.size W1 W2 := by rw [hW2]; exact Zp _
  have b3 : Below W2.heap.size W2 W3 := by rw [hW3]; exact Zp _
  have r3 : RL W3 w.heap.size 103 [.int .i8 e.op, .string e.t.v, .int .i8 e.t.a.k, .int .i64 e.t.a.n, .string e.t.a.s, .slice a e.kids.length c] := by
    have := Zk w #[.int .i8 e.op, .string e.t.v, .int .i8 e.t.a.k, .int .i64 e.t.a.n, .string e.t.a.s, .slice a e.kids.length c] 103
    rw [← hW1] at this
    exact (RL.below this b2).below b3
  have r4 : RL W3 (w.heap.size + 1) 402 [.pointer none, .slice none 0 0] := by
    have := Zk W1 #[.pointer none, .slice none 0 0] 402
    rw [← hW2, z1] at this
    exact RL.below this b3
  have r5 : RL W3 (w.heap.size + 2) 402 [.pointer none, .slice none 0 0] := by
    have := Zk W2 #[.pointer none, .slice none 0 0] 402
    rw [← hW3, z2] at this
    exact this
  have b13 : Below w.heap.size w W3 := b1.trans ((b2.trans (b3.mono b2.size)).mono b1.size)
  have HAX := Lib.hid (ZfG (d + 1) e a c W3 (hE.below b13) hs)
  have HNM := Lib.hid hnm
  have HSD : Hid (∀ l : Option ByteArray, (if e.op = 0 ∧ e.kids.length = 0 then (vsT [] (Zg (d + 1) e)).head? else none) = l → sdE (d + 1) e = ⟨l, vsT [] (Zg (d + 1) e)⟩) := fun l hl => by unfold sdE; rw [hl]
  have HLF : Hid (e.kids.length = 0 → (vsT [] (Zg (d + 1) e)).length ≤ 1) := fun h0 => by rw [Zd5 h0]; split <;> simp
  generalize hns : vsT [] (Zg (d + 1) e) = ns at HAX HNM HSD HLF hnl
  generalize sdE (d + 1) e = q at HSD
  have HS0 : Hid (∀ Z, Below W3.heap.size W3 Z → SiS B bf bm vs fs sv w [.int .i8 e.op, .string e.t.v, .int .i8 e.t.a.k, .int .i64 e.t.a.n, .string e.t.a.s, .slice a e.kids.length c] Z vs [] none 0 Z) := fun Z hZ =>
    ⟨(h.below b13).below hZ, RL.below r3 hZ, RL.below r4 hZ, RL.below r5 hZ, World.ownsRow_nil _ _ _ _, Tz.of_below (b13.trans (hZ.mono b13.size)), ⟨[], by simp, fun y hy => (by cases hy)⟩, fun x hx => (by cases hx), fun _ _ _ => rfl, fun g hg => by simp [Value.ownBlock] at hg, ⟨by have := hZ.size; omega, Nat.le_refl _⟩, ⟨h.lt bf (.inl rfl), h.lt bm (.inr (.inl rfl)), fun g hg => h.lt g (.inr (.inr (.inl hg)))⟩⟩
  have s0 := r3.at (j := 0) rfl
  have s1 := r3.at (j := 1) rfl
  have s2 := r3.at (j := 2) rfl
  have s3 := r3.at (j := 3) rfl
  have s4 := r3.at (j := 4) rfl
  have s5 := r3.at (j := 5) rfl
  have HBB : Hid (∀ u : World, w.heap.size ≤ u.heap.size → B ≤ u.heap.size) := fun u hu => by omega
  have HZ3 := Lib.hid z3
  clear b1 b2 b3 r3 r4 r5 b13 h hE hs hnm hns z3
  unfold E.val at HAX ⊢
  go_enter Tryz.func292, Tryz.ntmps292
  go_upto_region 2 with fail
  rw [← hW1, ← hW2, ← hW3, show w.heap.size + 1 + 1 = w.heap.size + 2 from rfl]
  clear hW1 hW2 hW3 z1 z2 W1 W2
  go_wp2_with fail
  refine HAX.out.mono ?_
  rintro ee w2 ⟨sv2, rfl, hown2, b2⟩
  have HS := Lib.hid (HS0.out w2 b2)
  have HLN := ZY hown2
  have HOB : Hid (∀ g, sv2.ownBlock = some g → w.heap.size + 3 ≤ g ∧ g < w2.heap.size) := fun g hg => by
    have := hown2.lt g hg
    have := HZ3.out
    omega
  obtain ⟨a2, c2, rfl, hnl0, hnl1, hnt⟩ := Z3 HLN
  have HNG : Hid (0 < ns.length → ∃ g off, a2 = some ⟨g, off, none⟩ ∧ w.heap.size + 3 ≤ g ∧ g < w2.heap.size ∧ ∀ i, i < ns.length → w2.cell? ⟨g, off + i, none⟩ = some (.string (atS ns i))) := fun h0 => by
    obtain ⟨g, off, ha, hg, hc⟩ := hnt h0
    subst ha
    have hob : (Value.slice (some ⟨g, off, none⟩) ns.length c2).ownBlock = some g := by
      have h1 := hown2
      obtain ⟨_, ⟨h2, _⟩ | ⟨g2, cap, cur, h2, _⟩⟩ := h1
      · cases h2
      · injection h2 with h2 _ _
        injection h2 with h2
        injection h2 with h2 _ _
        subst h2
        rfl
    exact ⟨g, off, rfl, (HOB.out g hob).1, hg, hc⟩
  clear hnt hnl0 hnl1 hown2 b2 HAX HLN HOB HS0 HZ3 s0 s1 s2 s3 s4 s5
  go_wp2
  go_loopw [11] (fun i wr => ∃ (k : Nat) (vs' xs : List Vb) (a' : Option Addr) (c' : Nat), k ≤ ns.length ∧ i = .int .i64 k ∧ Hid (xs.map Vb.v = ns.take k) ∧ Hid (SiS B bf bm vs fs sv w [.int .i8 e.op, .string e.t.v, .int .i8 e.t.a.k, .int .i64 e.t.a.n, .string e.t.a.s, .slice a e.kids.length c] w2 vs' xs a' c' wr)) (fun i _ => ns.length - (intOf i).toNat)
  case atStart => exact ⟨0, vs, [], none, 0, Nat.zero_le _, rfl, rfl, HS⟩
  case round =>
    clear HS
    obtain ⟨k, vs', xs, a', c', hk, rfl, HX, HS⟩ := hrel
    have hxl : xs.length = k := by
      have := congrArg List.length HX.out
      rw [List.length_map, List.length_take] at this
      omega
    by_cases hlt : k < ns.length
    · have hlt' : (k : Int) < (ns.length : Int) := by omega
      have hk0 : (0 : Int) ≤ (k : Int) := by omega
      obtain ⟨g2, off2, rfl, hgl, hgu, hcs⟩ := HNG.out (by omega)
      have x0 : wr.cell? ⟨g2, off2 + k, none⟩ = some (.string (atS ns k)) := by rw [World.cell?_of_block (w := w2) (HS.out.nm g2 hgl hgu)]; exact hcs k hlt
      have m1 := HS.out.r5.at (j := 1) rfl
      have HXN : Hid (∀ x : Vb, x.v = atS ns k → (xs ++ [x]).map Vb.v = ns.take (k + 1)) := fun x hx => by rw [ZpF hlt, List.map_append, HX.out, List.map_cons, List.map_nil, hx]
      have HV : Hid (Calls Tryz.prog 290 #[.pointer (some ⟨bf, 0, none⟩), .string (atS ns k)] wr.drew fun r w' => ∃ vs'' x, r = .returned (.pointer (some ⟨x.b, 0, none⟩)) ∧ x ∈ vs'' ∧ x.v = atS ns k ∧ SiS B bf bm vs fs sv w [.int .i8 e.op, .string e.t.v, .int .i8 e.t.a.k, .int .i64 e.t.a.n, .string e.t.a.s, .slice a e.kids.length c] w2 vs'' xs a' c' w') := by
        have hD : Below wr.heap.size wr wr.drew := (Below.refl _ _).drew
        have hz : B ≤ wr.drew.heap.size := HBB.out _ (Nat.le_trans HS.out.tz.size hD.size)
        refine (Zd4 (HS.out.fd.below hD) hz (atS ns k) (HNM.out _ (by rw [Zgk hlt]; exact List.getElem_mem hlt))).mono ?_
        rintro r w' ⟨vs'', x, rfl, hx, hxv, ⟨m, hm, hm2⟩, hf, ht⟩
        exact ⟨vs'', x, rfl, hx, hxv, (HS.out.below hD).keep hf ⟨m, hm, fun y hy => (hm2 y hy).1⟩ ht⟩
      generalize atS ns k = nm at x0 HXN HV
      clear HX hcs
      subst hxl
      go_wp2_with fail
      go_region_law (first
        | (refine ZeC rfl 290 Tryz.func290 (by kernel_rfl) (by kernel_rfl) #[.tmp 17, .tmp 18] _ rfl #[.pointer (some ⟨bf, 0, none⟩), .string nm] (by simp [Act.eval, Act.put]) HV.out ?_
           rintro ee w4 ⟨vs2, x, rfl, hx, hxv, hs4⟩
           refine ⟨_, rfl, ?_⟩
           have HXX := Lib.hid hx
           have HXV := Lib.hid (HXN.out x hxv)
           have n1 := hs4.r5.at (j := 1) rfl
           have n2 := (hs4.r5.below (Zp (w := w4) (.cells #[.pointer (some ⟨x.b, 0, none⟩)] 393))).at (j := 1) rfl
           have HSU := Lib.hid (hs4.below (Zp (w := w4) (.cells #[.pointer (some ⟨x.b, 0, none⟩)] 393)))
           have HC := Lib.hid (ZR w4 #[.pointer (some ⟨x.b, 0, none⟩)] 393)
           clear hx hxv hs4)
        | (refine ZaN rfl (.tmp 16) (.tmp 20) 400 rfl 393 i0 _ 1 8 Tryz.underlying400 hi0 hz0 hz1 hz2 rfl (by decide) w2.heap.size (.slice a' xs.length c') xs.length _ (by simp [Act.eval, Act.put]) HSU.out.own ⟨w4.heap.size, 0, none⟩ 1 1 [.pointer (some ⟨x.b, 0, none⟩)] (by simp [Act.eval, Act.put]) rfl HC.out (by simp [Value.oneCell']) (by unfold maxLen; omega) (by omega) HSU.out.zs.2 ?_
           intro v' w5 hown' hgrow hloc
           obtain ⟨a5, c5, rfl, h5, hst⟩ := HSU.out.step HXX.out hown' hgrow hloc
           have q1 := RL.at h5 (j := 1) rfl
           have f1 := World.rowIs.frozen h5 1
           have HST := Lib.hid hst
           clear hown' hgrow hloc hst h5))
      all_goals
        go_wp2
        go_roundw
        case rel => exact ⟨xs.length + 1, vs2, xs ++ [x], a5, c5, by omega, by go_num, HXV, HST⟩
        case measure => simp [intOf]; omega
    · obtain rfl : k = ns.length := by omega
      rw [List.take_length] at HX
      have p0 := HS.out.r3.at (j := 0) rfl
      have p5 := HS.out.r3.at (j := 5) rfl
      have m0 := HS.out.r5.at (j := 0) rfl
      have m1 := HS.out.r5.at (j := 1) rfl
      have n0 := HS.out.r4.at (j := 0) rfl
      have n1 := HS.out.r4.at (j := 1) rfl
      have fm := World.rowIs.frozen HS.out.r5 0
      have f0 := World.rowIs.frozen HS.out.r4 0
      have f1 := World.rowIs.frozen HS.out.r4 1
      by_cases hone : (e.op = 0 ∧ e.kids.length = 0) ∧ xs.length = 1
      · obtain ⟨x, rfl⟩ : ∃ x, xs = [x] := List.length_eq_one_iff.1 hone.2
        obtain ⟨_, _, hq3⟩ := Znr HS.out.own
        obtain ⟨g, off, rfl, hg, hc⟩ := hq3 (by simp)
        have y0 : wr.cell? ⟨g, off, none⟩ = some (.pointer (some ⟨x.b, 0, none⟩)) := hc 0 (by simp)
        have e1 : (e.op == 0) = true := by rw [hone.1.1]; rfl
        have e2 : ((e.kids.length : Int) == 0) = true := by rw [hone.1.2]; rfl
        have HQ : Hid (q = ⟨some x.v, ns⟩) := HSD.out _ (by rw [if_pos hone.1, ← HX.out]; rfl)
        clear hc hq3 hone hxl hk hlt
        go_wp2
        have hd : RL (((wr.setCell ⟨w.heap.size + 2, 0, none⟩ (.pointer (some ⟨x.b, 0, none⟩))).setCell ⟨w.heap.size + 1, 0, none⟩ (.pointer (some ⟨x.b, 0, none⟩))).setCell ⟨w.heap.size + 1, 1, none⟩ (.slice (some ⟨g, off, none⟩) 1 c')) (w.heap.size + 1) 402 [.pointer (some ⟨x.b, 0, none⟩), .slice (some ⟨g, off, none⟩) 1 c'] := ((HS.out.r4.other (by omega) _).set 0 _).set 1 _
        refine bodyPost_ret (ZO Tryz.results292 (v := .agg #[.pointer (some ⟨x.b, 0, none⟩), .slice (some ⟨g, off, none⟩) 1 c']) rfl (run_loadVar_mid _ _ 0 402 [.pointer (some ⟨x.b, 0, none⟩), .slice (some ⟨g, off, none⟩) 1 c'] _ (RL.range hd) Tryz.underlying402 rfl (by kernel_rfl))) rfl ?_
        rw [HQ.out]
        exact HS.out.fin (u' := ((wr.setCell ⟨w.heap.size + 2, 0, none⟩ (.pointer (some ⟨x.b, 0, none⟩))).setCell ⟨w.heap.size + 1, 0, none⟩ (.pointer (some ⟨x.b, 0, none⟩))).setCell ⟨w.heap.size + 1, 1, none⟩ (.slice (some ⟨g, off, none⟩) 1 c')) (l := some x) (fun k h4 h5 => by rw [Ze1 h4 h5]; exact heap_setCell_other _ _ _ _ (by show k ≠ w.heap.size + 2; exact h5)) rfl rfl rfl (by simp) HX.out rfl (fun y hy => by cases hy; exact HS.out.mem x (by simp))
      · have HQ : Hid (q = ⟨none, ns⟩) := HSD.out _ (by
          by_cases h1 : e.op = 0 ∧ e.kids.length = 0
          · have h2 := HLF.out h1.2
            have h3 : ns.length = 0 := by
              by_cases h4 : xs.length = 1
              · exact absurd ⟨h1, h4⟩ hone
              · omega
            rw [if_pos h1, List.length_eq_zero_iff.1 h3]
            rfl
          · rw [if_neg h1])
        have HD : Hid (RL ((wr.setCell ⟨w.heap.size + 1, 0, none⟩ (.pointer none)).setCell ⟨w.heap.size + 1, 1, none⟩ (.slice a' xs.length c')) (w.heap.size + 1) 402 [.pointer none, .slice a' xs.length c']) := (HS.out.r4.set 0 _).set 1 _
        have HFI : Hid (SiP B bf bm vs fs sv q w (.returned (.agg #[.pointer none, .slice a' xs.length c'])) ((wr.setCell ⟨w.heap.size + 1, 0, none⟩ (.pointer none)).setCell ⟨w.heap.size + 1, 1, none⟩ (.slice a' xs.length c'))) := by
          show SiP _ _ _ _ _ _ _ _ _ _
          rw [HQ.out]
          exact HS.out.fin (l := none) (fun k h4 h5 => Ze1 h4 h5) rfl rfl rfl (by simp) HX.out rfl (fun y hy => by cases hy)
        by_cases h1 : e.op = 0
        · have e1 : (e.op == 0) = true := by rw [h1]; rfl
          by_cases h2 : e.kids.length = 0
          · have e2 : ((e.kids.length : Int) == 0) = true := by rw [h2]; rfl
            have h3 : xs.length ≠ 1 := fun h3 => hone ⟨⟨h1, h2⟩, h3⟩
            have e3 : ((xs.length : Int) == 1) = false := by rw [beq_eq_false_iff_ne]; omega
            clear hone hxl hk hlt h1 h2 h3
            go_wp2
            exact bodyPost_ret (ZO Tryz.results292 (v := .agg #[.pointer none, .slice a' xs.length c']) rfl (run_loadVar_mid _ _ 0 402 [.pointer none, .slice a' xs.length c'] _ (RL.range HD.out) Tryz.underlying402 rfl (by kernel_rfl))) rfl HFI.out
          · have e2 : ((e.kids.length : Int) == 0) = false := by rw [beq_eq_false_iff_ne]; omega
            clear hone hxl hk hlt h1 h2
            go_wp2
            exact bodyPost_ret (ZO Tryz.results292 (v := .agg #[.pointer none, .slice a' xs.length c']) rfl (run_loadVar_mid _ _ 0 402 [.pointer none, .slice a' xs.length c'] _ (RL.range HD.out) Tryz.underlying402 rfl (by kernel_rfl))) rfl HFI.out
        · have e1 : (e.op == 0) = false := by rw [beq_eq_false_iff_ne]; exact h1
          clear hone hxl hk hlt h1
          go_wp2
          exact bodyPost_ret (ZO Tryz.results292 (v := .agg #[.pointer none, .slice a' xs.length c']) rfl (run_loadVar_mid _ _ 0 402 [.pointer none, .slice a' xs.length c'] _ (RL.range HD.out) Tryz.underlying402 rfl (by kernel_rfl))) rfl HFI.out
def ZcX(b:Nat):List Value:=[.pointer (some ⟨b,0,none⟩)]
theorem Zk9:(Tryz.prog.info? 399).map (fun i=>(i.zero,i.size,i.bytes))=some (some (.pointer none),1,8):=by kernel_rfl
structure Wk (B bw:Nat) (ps:List Nat) (sv:Value) (w:World):Prop where
 r:RL w bw 397 [sv]
 own:w.ownsRow B 399 1 sv ps.length (ps.flatMap ZcX)
 ap:∀g,sv.ownBlock=some g→g≠bw
def WP(bw:Nat)(sv:Value)(k:Nat):Prop:=k=bw∨sv.ownBlock=some k
theorem Wk.keep{B bw:Nat}{ps:List Nat}{sv:Value}{w w':World}(h:Wk B bw ps sv w)(hk:∀k,WP bw sv k→w'.heap[k]?=w.heap[k]?):Wk B bw ps sv w':=
 ⟨World.rowIs.of_block h.r (hk _ (.inl rfl)),Zx h.own (fun g hg=>hk _ (.inr hg)),h.ap⟩
theorem Wk.lt{B bw:Nat}{ps:List Nat}{sv:Value}{w:World}(h:Wk B bw ps sv w):∀k,WP bw sv k→k<w.heap.size:=by
 rintro k (rfl | e)
 ·exact World.rowIs.lt h.r
 ·exact(h.own.lt k e).2
theorem Wk.more{B bw b:Nat}{ps:List Nat}{sv sv':Value}{w w3 Y:World}(h:Wk B bw ps sv w)(hY:Below w.heap.size w Y)
  (hown':w3.ownsRow B 399 1 sv' (ps.length+1) (ps.flatMap ZcX++[.pointer (some ⟨b,0,none⟩)])) (hgrow:Y.grownBy w3 sv.ownBlock) (hloc:sv'.ownBlock=sv.ownBlock∨sv'.ownBlock=some Y.heap.size) :
  RL w3 bw 397 [sv]∧Wk B bw (ps++[b]) sv' (w3.setCell ⟨bw,0,none⟩ sv')∧Tz (WP bw sv) w (w3.setCell ⟨bw,0,none⟩ sv')∧(∀g,sv'.ownBlock=some g→sv.ownBlock=some g∨w.heap.size≤g):=by
 have hlt:=h.lt;have hbw:=hlt bw (.inl rfl);have hsz:=hY.size;have hz3:w.heap.size≤w3.heap.size:=Nat.le_trans hsz hgrow.size
 have k3:∀k,k<w.heap.size→some k≠sv.ownBlock→w3.heap[k]?=w.heap[k]?:=fun k hk hn=>by
  rw[hgrow.block k (by omega) hn,hY.block k hk]
 have hnbw:some bw≠sv.ownBlock:=fun e=>(h.ap bw e.symm) rfl
 have hr:RL w3 bw 397 [sv]:=World.rowIs.of_block h.r (k3 bw hbw hnbw)
 have hnew:∀g,sv'.ownBlock=some g→sv.ownBlock=some g∨w.heap.size≤g:=fun g hg=>by
  rcases hloc with e | e
  ·exact .inl (by rw[←e];exact hg)
  ·rw[e]at hg;have:=Option.some.inj hg;exact .inr (by omega)
 have hap:∀g,sv'.ownBlock=some g→g≠bw:=fun g hg=>by
  rcases hnew g hg with e | e
  ·exact h.ap g e
  ·omega
 have kf:∀k,k≠bw→(w3.setCell ⟨bw,0,none⟩ sv').heap[k]?=w3.heap[k]?:=fun k hk=>heap_setCell_other _ _ _ _ (by show k≠bw;exact hk)
 refine⟨hr,⟨hr.set 0 sv',?_,hap⟩,?_,hnew⟩
 ·have e1:(ps++[b]).length=ps.length+1:=by simp
  have e2:(ps++[b]).flatMap ZcX=ps.flatMap ZcX++[.pointer (some ⟨b,0,none⟩)]:=by rw[List.flatMap_append];rfl
  rw[e1,e2];exact Zx hown' (fun g hg=>kf g (hap g hg))
 ·refine⟨hgrow.os.trans hY.os,hgrow.tape.trans hY.tape,hgrow.output.trans hY.output,by simp only[World.size_setCell];omega,fun k hk he=>?_⟩;rw[kf k (fun e=>he (.inl e))];exact k3 k hk (fun e=>he (.inr e.symm))
theorem ZoH{B bw:Nat}{ps:List Nat}{sv:Value}{w:World}(h:Wk B bw ps sv w)(hB:B≤w.heap.size)(b:Nat)(hl:ps.length≤1000000000) :
  Calls Tryz.prog 291 #[.pointer (some ⟨bw,0,none⟩),.pointer (some ⟨b,0,none⟩)] w fun e w'=>(∃u,e=.returned u)∧∃sv',Wk B bw (ps++[b]) sv' w'∧Tz (WP bw sv) w w'∧(∀g,sv'.ownBlock=some g→sv.ownBlock=some g∨w.heap.size≤g):=by
 obtain⟨i0,hi0,hz0,hz1,hz2⟩:=info_parts Zk9;have HH:=Lib.hid h;obtain⟨sa,sc,rfl,_⟩:=ZB h.own;have c0:=h.r.at (j:=0) rfl;have BA:=Lib.hid (Zp (w:=w) (.cells #[.pointer (some ⟨b,0,none⟩)] 399));clear h;go_enter Tryz.func291,Tryz.ntmps291;go_wp2_with (at_builtin;refine wpList_append_own_at _ rfl (.tmp 8) (.tmp 10) 395 rfl B 399 i0 _ 1 8 Tryz.underlying395 hi0 hz0 hz1 hz2 rfl (by decide) (.slice sa ps.length sc) ps.length (ps.flatMap ZcX) (by simp[Act.eval,Act.put]) (Zn HH.out.own BA.out) ⟨w.heap.size,0,none⟩ 1 1 [.pointer (some ⟨b,0,none⟩)] (by simp[Act.eval,Act.put]) rfl (ZR w #[.pointer (some ⟨b,0,none⟩)] _) (by simp[Value.oneCell']) (by unfold maxLen;omega) (by omega) (by simp;omega) ?_;intro v' w3 hown' hgrow hnil hloc;have HM:=Lib.hid (HH.out.more BA.out hown' hgrow hloc);have q1:=HM.out.1.at (j:=0) rfl;have f1:=World.rowIs.frozen HM.out.1 0;obtain⟨a6,c6,rfl,_⟩:=ZB hown';clear hown' hgrow hnil hloc c0)
 go_end0;exact⟨⟨_,rfl⟩,_,HM.out.2.1,HM.out.2.2.1,HM.out.2.2.2⟩
def EP(r:Er)(k:Nat):Prop:=k=r.be∨(∃off,r.a0=some ⟨k,off,none⟩)∨∃off,r.a1=some ⟨k,off,none⟩
theorem EqIs.lt{bf bm:Nat}{vs:List Vb}{fs:List ByteArray}{sv:Value}{w:World}{r:Er}(h:EqIs bf bm vs fs sv w r):∀k,EP r k→k<w.heap.size∧¬ FP bf bm vs sv k:=by
 rintro k (rfl | ⟨off,e⟩ | ⟨off,e⟩)
 ·exact⟨World.rowIs.lt h.row,h.nf⟩
 ·exact⟨(h.g0 k off e).2.2,(h.g0 k off e).1⟩
 ·exact⟨(h.g1 k off e).2.2,(h.g1 k off e).1⟩
theorem EqIs.keep2{bf bm:Nat}{vs vs':List Vb}{fs fs':List ByteArray}{sv sv':Value}{w w':World}{r:Er}(h:EqIs bf bm vs fs sv w r)(hz:w.heap.size≤w'.heap.size)(hb:∀k,EP r k→w'.heap[k]?=w.heap[k]?)(hfs:∀n∈fs,n∈fs')(hvs:∀x∈vs,x∈vs')(hnf:∀k,EP r k→¬ FP bf bm vs' sv' k):EqIs bf bm vs' fs' sv' w' r:=by
 have k0:∀g off,r.a0=some ⟨g,off,none⟩→w'.heap[g]?=w.heap[g]?:=fun g off e=>hb g (.inr (.inl ⟨off,e⟩))
 have k1:∀g off,r.a1=some ⟨g,off,none⟩→w'.heap[g]?=w.heap[g]?:=fun g off e=>hb g (.inr (.inr ⟨off,e⟩))
 refine⟨World.rowIs.of_block h.row (hb _ (.inl rfl)),h.q0.keep hz k0,h.q1.keep hz k1,h.n0,h.n1,?_,?_,fun x e=>hvs x (h.m0 x e),fun x e=>hvs x (h.m1 x e),fun x e=>hvs x (h.i0 x e),fun x e=>hvs x (h.i1 x e),hnf _ (.inl rfl),fun g off e=>⟨hnf g (.inr (.inl ⟨off,e⟩)),(h.g0 g off e).2.1,Nat.lt_of_lt_of_le (h.g0 g off e).2.2 hz⟩,fun g off e=>⟨hnf g (.inr (.inr ⟨off,e⟩)),(h.g1 g off e).2.1,Nat.lt_of_lt_of_le (h.g1 g off e).2.2 hz⟩⟩
 ·obtain⟨ds,e,hd⟩:=h.v0;exact⟨ds,e,fun n hn=>hfs n (hd n hn)⟩
 ·obtain⟨ds,e,hd⟩:=h.v1;exact⟨ds,e,fun n hn=>hfs n (hd n hn)⟩
structure Eqs (bf bm:Nat) (vs:List Vb) (fs:List ByteArray) (sv:Value) (w:World) (L:List Er):Prop where
 is:∀r∈L,EqIs bf bm vs fs sv w r
 nd:(L.map Er.be).Nodup
 ap:∀r∈L,∀r'∈L,∀k,EP r k→k=r'.be→r.be=r'.be
theorem Eqs.keep{bf bm:Nat}{vs vs':List Vb}{fs fs':List ByteArray}{sv sv':Value}{w w':World}{L:List Er}(h:Eqs bf bm vs fs sv w L)(hz:w.heap.size≤w'.heap.size)(hb:∀r∈L,∀k,EP r k→w'.heap[k]?=w.heap[k]?)(hfs:∀n∈fs,n∈fs')(hvs:∀x∈vs,x∈vs')(hnf:∀k,k<w.heap.size→¬ FP bf bm vs sv k→¬ FP bf bm vs' sv' k):Eqs bf bm vs' fs' sv' w' L:=
 ⟨fun r hr=>(h.is r hr).keep2 hz (hb r hr) hfs hvs (fun k hk=>hnf k ((h.is r hr).lt k hk).1 ((h.is r hr).lt k hk).2),h.nd,h.ap⟩
theorem Eqs.sub{bf bm:Nat}{vs:List Vb}{fs:List ByteArray}{sv:Value}{w:World}{L M:List Er}(h:Eqs bf bm vs fs sv w L)(hs:M.Sublist L):Eqs bf bm vs fs sv w M:=
 ⟨fun r hr=>h.is r (hs.subset hr),(hs.map _).nodup h.nd,fun r hr r' hr'=>h.ap r (hs.subset hr) r' (hs.subset hr')⟩
theorem Eqs.step{B bf bm:Nat}{vs:List Vb}{fs:List ByteArray}{sv:Value}{w w':World}{ks rest:List Er}{r:Er}{o:Option ByteArray}(h:Eqs bf bm vs fs sv w (ks++r::rest))(hf:Fd B bf bm vs fs sv w)(hg:GvP B bf bm vs fs sv r o w w') :
  ∃r' sv',r'.be=r.be∧r'.q=r.q∧(∀k,EP r' k→EP r k)∧Fd B bf bm vs (fs++o.toList) sv' w'∧Eqs bf bm vs (fs++o.toList) sv' w' (ks++r'::rest)∧Tz (fun k=>FP bf bm vs sv k∨k=r.be) w w'∧(∀g,sv'.ownBlock=some g→sv.ownBlock=some g∨w.heap.size≤g):=by
 obtain⟨r',sv',h1,h2,h3,h4,h5,h6,h7⟩:=hg;have hr:r∈ks++r::rest:=List.mem_append.2 (.inr List.mem_cons_self)
 have hep:∀k,EP r' k→EP r k:=by
  rintro k (e | ⟨off,e⟩ | ⟨off,e⟩)
  ·exact .inl (e.trans h1)
  ·obtain⟨o0,e0⟩:=(h3 k off).1 e;exact .inr (.inl ⟨o0,e0⟩)
  ·obtain⟨o0,e0⟩:=(h3 k off).2 e;exact .inr (.inr ⟨o0,e0⟩)
 have hnd:=h.nd;rw[List.map_append,List.map_cons,List.nodup_append,List.nodup_cons]at hnd
 have hne:∀x,x∈ks∨x∈rest→x.be≠r.be:=by
  rintro x (hx | hx) e
  ·exact hnd.2.2 _ (List.mem_map.2 ⟨x,hx,rfl⟩) _ List.mem_cons_self e
  ·exact hnd.2.1.1 (List.mem_map.2 ⟨x,hx,e⟩)
 have hin:∀x,x∈ks∨x∈rest→x∈ks++r::rest:=by
  rintro x (hx | hx)
  ·exact List.mem_append.2 (.inl hx)
  ·exact List.mem_append.2 (.inr (List.mem_cons_of_mem _ hx))
 have hsp:∀x,x∈ks++r'::rest→x=r'∨(x∈ks∨x∈rest):=by
  intro x hx;rcases List.mem_append.1 hx with hx | hx
  ·exact .inr (.inl hx)
  ·rcases List.mem_cons.1 hx with hx | hx
   ·exact .inl hx
   ·exact .inr (.inr hx)
 refine⟨r',sv',h1,h2.1,hep,h4,⟨fun x hx=>?_,?_,fun x hx y hy k hk e=>?_⟩,h6,h7⟩
 ·rcases hsp x hx with rfl | hx
  ·exact h5
  ·have hxi:=hin x hx;refine(h.is x hxi).keep2 h6.size (fun k hk=>?_) (fun n hn=>List.mem_append.2 (.inl hn)) (fun y hy=>hy) (fun k hk=>Zj9 hf h7 k ((h.is x hxi).lt k hk).1 ((h.is x hxi).lt k hk).2);refine h6.block k ((h.is x hxi).lt k hk).1 ?_;rintro(e | e)
   ·exact((h.is x hxi).lt k hk).2 e
   ·exact hne x hx (h.ap x hxi r hr k hk e)
 ·rw[List.map_append,List.map_cons,h1,←List.map_cons,←List.map_append];exact h.nd
 ·rcases hsp x hx with ex | hx2
  ·rcases hsp y hy with ey | hy2
   ·rw[ex,ey]
   ·rw[ex]at hk⊢;rw[h1];exact h.ap r hr y (hin y hy2) k (hep k hk) e
  ·rcases hsp y hy with ey | hy2
   ·rw[ey,h1]at e⊢;exact h.ap x (hin x hx2) r hr k hk e
   ·exact h.ap x (hin x hx2) y (hin y hy2) k hk e
structure Rr (B g cap:Nat) (ps ks:List Nat) (w:World) (k:Nat):Prop where
 lo:B≤g
 cp:ps.length≤cap∧cap≤maxLen
 le:ks.length≤k∧k≤ps.length
 blk:∃cur:Array Value,w.heap[g]?=some (.cells cur 399 (0,0))∧cur.size=cap∧cur.toList.take ks.length=ks.flatMap ZcX∧∀i,k≤i→i<ps.length→cur.toList[i]?=some (.pointer (some ⟨ps.getD i 0,0,none⟩))
theorem Rr.of_block{B g cap:Nat}{ps ks:List Nat}{w w':World}{k:Nat}(h:Rr B g cap ps ks w k)(e:w'.heap[g]?=w.heap[g]?):Rr B g cap ps ks w' k:=by
 obtain⟨cur,hb,r⟩:=h.blk;exact⟨h.lo,h.cp,h.le,cur,e.trans hb,r⟩
theorem Rr.lt{B g cap:Nat}{ps ks:List Nat}{w:World}{k:Nat}(h:Rr B g cap ps ks w k):g<w.heap.size:=by
 obtain⟨cur,hb,_⟩:=h.blk;exact(Array.getElem?_eq_some_iff.1 hb).1
theorem Rr.cell{B g cap:Nat}{ps ks:List Nat}{w:World}{k:Nat}(h:Rr B g cap ps ks w k)(hk:k<ps.length):w.cell? ⟨g,k,none⟩=some (.pointer (some ⟨ps.getD k 0,0,none⟩)):=by
 obtain⟨cur,hb,_,_,hc⟩:=h.blk;rw[cell_of_row w g k cur _ (0,0) hb,←hc k (Nat.le_refl _) hk];simp
theorem Rr.skip{B g cap:Nat}{ps ks:List Nat}{w:World}{k:Nat}(h:Rr B g cap ps ks w k)(hk:k<ps.length):Rr B g cap ps ks w (k+1):=by
 obtain⟨cur,hb,h1,h2,hc⟩:=h.blk;exact⟨h.lo,h.cp,⟨Nat.le_succ_of_le h.le.1,hk⟩,cur,hb,h1,h2,fun i hi=>hc i (by omega)⟩
theorem Zd6:∀l:List Nat,(l.flatMap ZcX).length=l.length
 | []=>rfl
 | b::l=>by rw[List.flatMap_cons,List.length_append,Zd6 l];simp[ZcX];omega
theorem Zle:∀(ps:List Nat) (i:Nat),i<ps.length→(ps.flatMap ZcX)[i]?=some (.pointer (some ⟨ps.getD i 0,0,none⟩))
 | [],i,hi=>by simp at hi
 | p::ps,0,_=>by simp[List.flatMap_cons,ZcX]
 | p::ps,i+1,hi=>by
  rw[List.flatMap_cons,show ZcX p++ps.flatMap ZcX=.pointer (some ⟨p,0,none⟩)::ps.flatMap ZcX from rfl,List.getElem?_cons_succ];simp only[List.length_cons]at hi;exact Zle ps i (by omega)
theorem Rr.push{B g cap:Nat}{ps ks:List Nat}{w:World}{k b a:Nat}(h:Rr B g cap ps ks w k)(hk:k<ps.length)(ha:w.cell? ⟨a,0,none⟩=some (.pointer (some ⟨b,0,none⟩)))
  (i0:TypeInfo) (hi:Tryz.prog.info? 399=some i0) (hs:i0.size=1) (c:Nat) :
  ∃w',(∀ty,(Builtin.append_ #[395,395] ty #[.slice (some ⟨g,0,none⟩) ks.length cap,.slice (some ⟨a,0,none⟩) 1 c]).run Tryz.prog w=.ok (.slice (some ⟨g,0,none⟩) (ks.length+1) cap) w')∧Rr B g cap ps (ks++[b]) w' (k+1)∧Tz (fun j=>j=g) w w'∧w'.heap.size=w.heap.size:=by
 obtain⟨cur,hb,h1,h2,hc⟩:=h.blk
 have hr:=fun ty=>run_append_room (P:=Tryz.prog) w 395 ty 399 i0 Tryz.underlying395 hi g ks.length cap cur hb ⟨a,0,none⟩ 1 c [.pointer (some ⟨b,0,none⟩)] (by rw[hs];rfl) (fun j u hj=>by
  match j,hj with
  | 0,hj=>simp at hj;subst hj;exact ha) (by simp[Value.oneCell']) (by have:=h.le;have:=h.cp;omega) (by rw[hs];simp;have:=h.le;have:=h.cp;omega)
 refine⟨_,hr,⟨h.lo,h.cp,⟨by simp;exact h.le.1,hk⟩,_,setRow_heap w g cur _ _ _ hb,?_,?_,fun i hi hl=>?_⟩,⟨rfl,rfl,rfl,by simp[World.setRow],fun j _ hj=>setRow_other w g j _ hj⟩,by simp[World.setRow]⟩
 ·rw[hs];simp only[List.size_toArray,List.length_append,List.length_take,List.length_drop,Array.length_toList,List.length_cons,List.length_nil];have:=h.le;have:=h.cp;omega
 ·rw[hs,Nat.mul_one,h2,List.flatMap_append];have:(ks++[b]).length=(ks.flatMap ZcX++[Value.pointer (some ⟨b,0,none⟩)]).length:=by rw[List.length_append,List.length_append,Zd6];rfl
  rw[this];exact List.take_left
 ·rw[hs,Nat.mul_one,h2];have hle:=h.le;have e1:(ks.flatMap ZcX++[Value.pointer (some ⟨b,0,none⟩)]).length=ks.length+1:=by rw[List.length_append,Zd6];rfl
  have e2:[Value.pointer (some ⟨b,0,none⟩)].length=1:=rfl;rw[List.getElem?_append_right (by rw[e1];omega),e1,e2,List.getElem?_drop,show ks.length+1+(i-(ks.length+1))=i by omega];exact hc i (by omega) hl
theorem Rr.start{B g cap:Nat}{ps:List Nat}{w:World}(h:w.ownsRow B 399 1 (.slice (some ⟨g,0,none⟩) ps.length cap) ps.length (ps.flatMap ZcX)):Rr B g cap ps [] w 0:=by
 obtain⟨hl,⟨h1,_⟩ | ⟨g',cap',cur,h1,hb,hg,hn,hm,hs,ht⟩⟩:=h
 ·cases h1
 ·injection h1 with h1 _ h3
  injection h1 with h1
  injection h1 with h1 _ _
  subst h1 h3;refine⟨hb,⟨hn,hm⟩,⟨Nat.zero_le _,Nat.zero_le _⟩,cur,hg,by omega,rfl,fun i _ hi=>?_⟩;rw[Nat.mul_one]at ht
  have e1:(ps.flatMap ZcX)[i]?=some (.pointer (some ⟨ps.getD i 0,0,none⟩)):=by
   exact Zle ps i hi
  rw[←e1,←ht,List.getElem?_take,if_pos hi]
theorem Rr.done{B g cap:Nat}{ps ks:List Nat}{w:World}{k:Nat}(h:Rr B g cap ps ks w k):w.ownsRow B 399 1 (.slice (some ⟨g,0,none⟩) ks.length cap) ks.length (ks.flatMap ZcX):=by
 obtain⟨cur,hb,h1,h2,hc⟩:=h.blk;have:=h.le;have:=h.cp;exact⟨by rw[Zd6];omega,.inr ⟨g,cap,cur,rfl,h.lo,hb,by omega,h.cp.2,by omega,by rw[Nat.mul_one];exact h2⟩⟩
end
section
open Go.RowKit Go.Maps
attribute [local go_sem ↓] Go.wp_at_zero Go.wp_at_succ
attribute [-go_sem] Builtin.append_
def Zh1(bf:Nat):Value:=.func (.func 294) #[.pointer (some ⟨bf,0,none⟩)] #[]
structure Rs (B bf bm bw g cap:Nat) (vs:List Vb) (w0:World) (fs0:List ByteArray) (sv0:Value) (L0:List Er) (k:Nat) (fs:List ByteArray) (sv:Value) (ks rest:List Er) (w:World):Prop where
 fd:Fd B bf bm vs fs sv w
 eq:Eqs bf bm vs fs sv w (ks++rest)
 rr:Rr B g cap (L0.map Er.be) (ks.map Er.be) w k
 rw:RL w bw 397 [.slice (some ⟨g,0,none⟩) L0.length cap]
 rs:rest.map Er.be=(L0.map Er.be).drop k
 pr:ZU (L0.map Er.q) fs0=((ZU (rest.map Er.q) fs).1,ks.map Er.q++(ZU (rest.map Er.q) fs).2)
 wa:∀j,j=bw∨j=g→¬ FP bf bm vs sv j∧∀r∈ks++rest,¬ EP r j
 ne:g≠bw
 tz:Tz (fun j=>FP bf bm vs sv0 j∨j=bw∨j=g∨∃r∈L0,j=r.be) w0 w
 nw:∀j,sv.ownBlock=some j→sv0.ownBlock=some j∨w0.heap.size≤j
 ln:fs.length+(ks.length+rest.length)=fs0.length+L0.length
 sb:∀r∈ks++rest,∃r0∈L0,r.be=r0.be
theorem ZeJ{α:Type}{l m:List α}{x:α}{k:Nat}(h:x::m=l.drop k):k<l.length∧l[k]?=some x∧m=l.drop (k+1):=by
 have hlt:k<l.length:=by
  have:=congrArg List.length h;rw[List.length_cons,List.length_drop]at this;omega
 rw[List.drop_eq_getElem_cons hlt]at h
 injection h with h1 h2
 exact⟨hlt,by rw[List.getElem?_eq_getElem hlt,h1],h2⟩
theorem Rs.next{B bf bm bw g cap:Nat}{vs:List Vb}{w0:World}{fs0:List ByteArray}{sv0:Value}{L0:List Er}{k:Nat}{fs:List ByteArray}{sv:Value}{ks rest:List Er}{w:World}(h:Rs B bf bm bw g cap vs w0 fs0 sv0 L0 k fs sv ks rest w)(hk:k<L0.length) :
  ∃r rest',rest=r::rest'∧w.cell? ⟨g,k,none⟩=some (.pointer (some ⟨r.be,0,none⟩))∧EqIs bf bm vs fs sv w r:=by
 have hl:k<(L0.map Er.be).length:=by simpa using hk
 cases rest with
 | nil=>
  have:=congrArg List.length h.rs;rw[List.length_drop]at this;simp at this;omega
 | cons r rest'=>
  obtain⟨_,h1,_⟩:=ZeJ (x:=r.be) (m:=rest'.map Er.be) (by rw[←h.rs];rfl);refine⟨r,rest',rfl,?_,h.eq.is r (List.mem_append.2 (.inr List.mem_cons_self))⟩;have:=h.rr.cell hl;rw[List.getD_eq_getElem?_getD,h1]at this;exact this
theorem Rs.solved{B bf bm bw g cap:Nat}{vs:List Vb}{w0:World}{fs0:List ByteArray}{sv0:Value}{L0:List Er}{k:Nat}{fs:List ByteArray}{sv:Value}{ks rest:List Er}{r:Er}{w w':World}(h:Rs B bf bm bw g cap vs w0 fs0 sv0 L0 k fs sv ks (r::rest) w)(hg:GvP B bf bm vs fs sv r (Zaf fs r.q) w w') :
  ∃r' sv',r'.be=r.be∧r'.q=r.q∧Fd B bf bm vs (fs++(Zaf fs r.q).toList) sv' w'∧Eqs bf bm vs (fs++(Zaf fs r.q).toList) sv' w' (ks++r'::rest)∧Rr B g cap (L0.map Er.be) (ks.map Er.be) w' k∧RL w' bw 397 [.slice (some ⟨g,0,none⟩) L0.length cap] ∧
   (∀j,j=bw∨j=g→¬ FP bf bm vs sv' j∧∀x∈ks++r'::rest,¬ EP x j)∧Tz (fun j=>FP bf bm vs sv0 j∨j=bw∨j=g∨∃r∈L0,j=r.be) w0 w'∧(∀j,sv'.ownBlock=some j→sv0.ownBlock=some j∨w0.heap.size≤j):=by
 obtain⟨r',sv',h1,h2,h3,h4,h5,h6,h7⟩:=h.eq.step h.fd hg;have hin:r∈ks++r::rest:=List.mem_append.2 (.inr List.mem_cons_self);have hbw:bw<w.heap.size:=World.rowIs.lt h.rw;have hgl:g<w.heap.size:=h.rr.lt
 have hkp:∀j,j=bw∨j=g→w'.heap[j]?=w.heap[j]?:=fun j hj=>by
  refine h6.block j (by rcases hj with rfl | rfl<;>assumption) ?_;rintro(e | e)
  ·exact(h.wa j hj).1 e
  ·exact(h.wa j hj).2 r hin (.inl e)
 refine⟨r',sv',h1,h2,h4,h5,h.rr.of_block (hkp g (.inr rfl)),World.rowIs.of_block h.rw (hkp bw (.inl rfl)),fun j hj=>⟨?_,fun x hx e=>?_⟩,h.tz.trans h6 ?_,fun j hj=>?_⟩
 ·exact Zj9 h.fd h7 j (by rcases hj with rfl | rfl<;>assumption) (h.wa j hj).1
 ·rcases List.mem_append.1 hx with hx | hx
  ·exact(h.wa j hj).2 x (List.mem_append.2 (.inl hx)) e
  ·rcases List.mem_cons.1 hx with rfl | hx
   ·exact(h.wa j hj).2 r hin (h3 j e)
   ·exact(h.wa j hj).2 x (List.mem_append.2 (.inr (List.mem_cons_of_mem _ hx))) e
 ·rintro b hb (e | e)
  ·rcases e with e | e | e | e
   ·exact .inl (.inl e)
   ·exact .inl (.inr (.inl e))
   ·rcases h.nw b e with k | k
    ·exact .inl (.inr (.inr (.inl k)))
    ·omega
   ·exact .inl (.inr (.inr (.inr e)))
  ·have:r.be∈(L0.map Er.be).drop k:=by rw[←h.rs];exact List.mem_cons_self
   obtain⟨r0,hr0,e0⟩:=List.mem_map.1 (List.mem_of_mem_drop this);exact .inr (.inr (.inr ⟨r0,hr0,by rw[e,e0]⟩))
 ·rcases h7 j hj with e | e
  ·exact h.nw j e
  ·exact .inr (Nat.le_trans h.tz.size e)
theorem Rs.gone{B bf bm bw g cap:Nat}{vs:List Vb}{w0:World}{fs0:List ByteArray}{sv0:Value}{L0:List Er}{k:Nat}{fs:List ByteArray}{sv:Value}{ks rest:List Er}{r:Er}{w w':World}{v:ByteArray}(h:Rs B bf bm bw g cap vs w0 fs0 sv0 L0 k fs sv ks (r::rest) w)(hv:Zaf fs r.q=some v)(hg:GvP B bf bm vs fs sv r (some v) w w') :
  ∃sv',Rs B bf bm bw g cap vs w0 fs0 sv0 L0 (k+1) (fs++[v]) sv' ks rest w':=by
 rw[←hv]at hg;obtain⟨r',sv',h1,h2,h3,h4,h5,h6,h7,h8,h9⟩:=h.solved hg;rw[hv]at h3 h4;obtain⟨hk,_,hd⟩:=ZeJ (x:=r.be) (m:=rest.map Er.be) (by rw[←h.rs];rfl);have hsub:(ks++rest).Sublist (ks++r'::rest):=(List.Sublist.refl ks).append (List.sublist_cons_self r' rest)
 refine⟨sv',h3,h4.sub hsub,h5.skip hk,h6,hd,?_,fun j hj=>⟨(h7 j hj).1,fun x hx=>(h7 j hj).2 x (hsub.subset hx)⟩,h.ne,h8,h9,?_,fun x hx=>h.sb x (by
  rcases List.mem_append.1 hx with hx | hx
  ·exact List.mem_append.2 (.inl hx)
  ·exact List.mem_append.2 (.inr (List.mem_cons_of_mem _ hx)))⟩
 ·have:=h.pr;rw[List.map_cons,ZU,hv]at this;exact this
 ·have:=h.ln;rw[List.length_cons]at this;rw[List.length_append,List.length_singleton];omega
theorem Rs.kept{B bf bm bw g cap:Nat}{vs:List Vb}{w0:World}{fs0:List ByteArray}{sv0:Value}{L0:List Er}{k:Nat}{fs:List ByteArray}{sv:Value}{ks rest:List Er}{r:Er}{w w':World}(h:Rs B bf bm bw g cap vs w0 fs0 sv0 L0 k fs sv ks (r::rest) w)(hv:Zaf fs r.q=none)(hg:GvP B bf bm vs fs sv r none w w')(hB:B≤w0.heap.size)
  (i0:TypeInfo) (hi:Tryz.prog.info? 399=some i0) (hs:i0.size=1) :
  ∃r' sv' w2,(Builtin.append_ #[395,395] 395 #[.slice (some ⟨g,0,none⟩) ks.length cap,.slice (some ⟨w'.heap.size,0,none⟩) 1 1]).run Tryz.prog (w'.alloc (.cells #[.pointer (some ⟨r.be,0,none⟩)] 399))=.ok (.slice (some ⟨g,0,none⟩) (ks.length+1) cap) w2∧Rs B bf bm bw g cap vs w0 fs0 sv0 L0 (k+1) fs sv' (ks++[r']) rest w2:=by
 rw[←hv]at hg;obtain⟨r',sv',h1,h2,h3,h4,h5,h6,h7,h8,h9⟩:=h.solved hg;rw[hv]at h3 h4;simp only[Option.toList_none,List.append_nil]at h3 h4;obtain⟨hk,_,hd⟩:=ZeJ (x:=r.be) (m:=rest.map Er.be) (by rw[←h.rs];rfl);have hA:=Zp (w:=w') (.cells #[.pointer (some ⟨r.be,0,none⟩)] 399);have hAs:(w'.alloc (.cells #[.pointer (some ⟨r.be,0,none⟩)] 399)).heap.size=w'.heap.size+1:=by simp
 obtain⟨w2,hrun,hrr,ht,hz⟩:=(h5.of_block (hA.block g h5.lt)).push hk (b:=r.be) (a:=w'.heap.size) (ZR w' #[.pointer (some ⟨r.be,0,none⟩)] 399 0 _ rfl) i0 hi hs 1;rw[List.length_map]at hrun;have hkp:∀j,j<w'.heap.size→j≠g→w2.heap[j]?=w'.heap[j]?:=fun j hj hne=>(ht.block j (by omega) hne).trans (hA.block j hj)
 have hfs:∀j,FP bf bm vs sv' j→w2.heap[j]?=w'.heap[j]?:=fun j hj=>hkp j (h3.lt j hj) (fun e=>(h7 g (.inr rfl)).1 (e▸hj))
 have hes:∀x∈ks++r'::rest,∀j,EP x j→w2.heap[j]?=w'.heap[j]?:=fun x hx j hj=>hkp j ((h4.is x hx).lt j hj).1 (fun e=>(h7 g (.inr rfl)).2 x hx (e▸hj))
 have hbw:bw<w'.heap.size:=World.rowIs.lt h6;have e1:ks++r'::rest=(ks++[r'])++rest:=by simp
 have hw2:w'.heap.size≤w2.heap.size:=by omega
 refine⟨r',sv',w2,hrun 395,h3.keep hfs,?_,?_,World.rowIs.of_block h6 (hkp bw hbw (Ne.symm h.ne)),hd,?_,fun j hj=>⟨(h7 j hj).1,fun x hx=>(h7 j hj).2 x (by rw[e1];exact hx)⟩,h.ne,?_,h9,?_,fun x hx=>?_⟩
 ·rw[←e1];exact h4.keep hw2 hes (fun n hn=>hn) (fun x hx=>hx) (fun j _ hj=>hj)
 ·rw[List.map_append,List.map_cons,List.map_nil,h1];exact hrr
 ·have:=h.pr;rw[List.map_cons,ZU,hv]at this;rw[this,List.map_append,List.map_cons,List.map_nil,h2,List.append_assoc];rfl
 ·refine h8.trans (ex':=fun j=>j=g) ⟨ht.os.trans hA.os,ht.tape.trans hA.tape,ht.output.trans hA.output,hw2,fun j hj hne=>hkp j hj hne⟩ (fun b _ e=>.inr (.inr (.inl e)))
 ·have:=h.ln;rw[List.length_cons]at this;rw[List.length_append,List.length_singleton];omega
 ·rw[←e1]at hx;rcases List.mem_append.1 hx with hx | hx
  ·exact h.sb x (List.mem_append.2 (.inl hx))
  ·rcases List.mem_cons.1 hx with rfl | hx
   ·rw[h1];exact h.sb r (List.mem_append.2 (.inr List.mem_cons_self))
   ·exact h.sb x (List.mem_append.2 (.inr (List.mem_cons_of_mem _ hx)))
def RnP(B bf bm bw:Nat)(vs:List Vb)(fs0:List ByteArray)(sv0 svw0:Value)(L0:List Er)(w0:World)(e:Ending)(w:World):Prop:=
 ∃sv svw L,e=.returned (.bool (decide (L.length<L0.length)))∧Fd B bf bm vs (ZU (L0.map Er.q) fs0).1 sv w∧Eqs bf bm vs (ZU (L0.map Er.q) fs0).1 sv w L∧L.map Er.q=(ZU (L0.map Er.q) fs0).2∧Wk B bw (L.map Er.be) svw w∧(∀j,WP bw svw j→¬ FP bf bm vs sv j∧∀r∈L,¬ EP r j) ∧
  Tz (fun j=>FP bf bm vs sv0 j∨WP bw svw0 j∨∃r∈L0,j=r.be) w0 w∧(∀j,sv.ownBlock=some j→sv0.ownBlock=some j∨w0.heap.size≤j)∧(ZU (L0.map Er.q) fs0).1.length+L.length=fs0.length+L0.length∧∀r∈L,∃r0∈L0,r.be=r0.be
theorem Rs.fin{B bf bm bw g cap:Nat}{vs:List Vb}{w0:World}{fs0:List ByteArray}{sv0:Value}{L0:List Er}{k:Nat}{fs:List ByteArray}{sv:Value}{ks rest:List Er}{w:World}(h:Rs B bf bm bw g cap vs w0 fs0 sv0 L0 k fs sv ks rest w)(hk:k=L0.length) :
  RnP B bf bm bw vs fs0 sv0 (.slice (some ⟨g,0,none⟩) L0.length cap) L0 w0 (.returned (.bool (decide (ks.length<L0.length)))) (w.setCell ⟨bw,0,none⟩ (.slice (some ⟨g,0,none⟩) ks.length cap)):=by
 have hr:rest=[]:=by
  have:=congrArg List.length h.rs;rw[List.length_drop,List.length_map,List.length_map]at this;exact List.length_eq_zero_iff.1 (by omega)
 subst hr
 have hpr:ZU (L0.map Er.q) fs0=(fs,ks.map Er.q):=by
  have:=h.pr;rw[List.map_nil,ZU,List.append_nil]at this;exact this
 have heq:=h.eq;rw[List.append_nil]at heq;have hwa:∀j,j=bw∨j=g→¬ FP bf bm vs sv j∧∀r∈ks,¬ EP r j:=fun j hj=>⟨(h.wa j hj).1,fun r hr=>(h.wa j hj).2 r (List.mem_append.2 (.inl hr))⟩
 have hkp:∀j,j≠bw→(w.setCell ⟨bw,0,none⟩ (.slice (some ⟨g,0,none⟩) ks.length cap)).heap[j]?=w.heap[j]?:=fun j hj=>heap_setCell_other _ _ _ _ (by show j≠bw;exact hj)
 have hz:(w.setCell ⟨bw,0,none⟩ (.slice (some ⟨g,0,none⟩) ks.length cap)).heap.size=w.heap.size:=by simp
 refine⟨sv,.slice (some ⟨g,0,none⟩) ks.length cap,ks,rfl,?_,?_,?_,⟨h.rw.set 0 _,?_,?_⟩,?_,?_,h.nw,?_,fun r hr=>h.sb r (List.mem_append.2 (.inl hr))⟩
 ·rw[hpr];exact h.fd.keep (fun j hj=>hkp j (fun e=>(hwa bw (.inl rfl)).1 (e▸hj)))
 ·rw[hpr];exact heq.keep (by omega) (fun r hr j hj=>hkp j (fun e=>(hwa bw (.inl rfl)).2 r hr (e▸hj))) (fun n hn=>hn) (fun x hx=>hx) (fun j _ hj=>hj)
 ·rw[hpr]
 ·have:=h.rr.done;rw[List.length_map]at this⊢
  exact Zx this (fun j hj=>hkp j (by
   have:g=j:=by simpa[Value.ownBlock]using hj
   rw[←this];exact h.ne))
 ·intro j hj;have:g=j:=by simpa[Value.ownBlock]using hj
  rw[←this];exact h.ne
 ·rintro j (e | e)
  ·exact hwa j (.inl e)
  ·exact hwa j (.inr (by simpa[Value.ownBlock]using e.symm))
 ·have ht:=h.tz;refine⟨ht.os,ht.tape,ht.output,by rw[hz];exact ht.size,fun j hj he=>?_⟩;rw[hkp j (fun e=>he (.inr (.inl (.inl e))))];refine ht.block j hj ?_;rintro(e | e | e | e)
  ·exact he (.inl e)
  ·exact he (.inr (.inl (.inl e)))
  ·exact he (.inr (.inl (.inr (by rw[e];rfl))))
  ·exact he (.inr (.inr e))
 ·rw[hpr];have:=h.ln;simp only[List.length_nil,Nat.add_zero]at this;exact this
theorem ZlZ{B bf bm bw:Nat}{vs:List Vb}{fs:List ByteArray}{sv svw:Value}{L:List Er}{w:World}(hf:Fd B bf bm vs fs sv w)(he:Eqs bf bm vs fs sv w L)(hw:Wk B bw (L.map Er.be) svw w)(ha:∀j,WP bw svw j→¬ FP bf bm vs sv j∧∀r∈L,¬ EP r j)(hB:B≤w.heap.size)(hl:fs.length+L.length≤1000000000) :
  Calls Tryz.prog 293 #[.pointer (some ⟨bw,0,none⟩),Zh1 bf] w fun e w'=>RnP B bf bm bw vs fs sv svw L w e w':=by
 obtain⟨i0,hi0,hz0,hz1,hz2⟩:=info_parts Zk9;have hml:(L.map Er.be).length=L.length:=List.length_map _;obtain⟨sa,sc,rfl,hsc⟩:=ZB hw.own;rw[hml]at hw ha hsc⊢;have c0:=hw.r.at (j:=0) rfl;have f0:=World.rowIs.frozen hw.r 0;rcases Nat.eq_zero_or_pos L.length with h0 | h0
 ·have hL:L=[]:=List.length_eq_zero_iff.1 h0;subst hL
  have HH:Hid (RnP B bf bm bw vs fs sv (.slice sa 0 sc) [] w (.returned (.bool false)) (w.setCell ⟨bw,0,none⟩ (.slice sa 0 sc))):=by
   have hkp:∀j,j≠bw→(w.setCell ⟨bw,0,none⟩ (.slice sa 0 sc)).heap[j]?=w.heap[j]?:=fun j hj=>heap_setCell_other _ _ _ _ (by show j≠bw;exact hj)
   refine⟨sv,.slice sa 0 sc,[],rfl,hf.keep (fun j hj=>hkp j (fun e=>(ha bw (.inl rfl)).1 (e▸hj))),⟨fun r hr=>(by cases hr),by simp,fun r hr=>(by cases hr)⟩,rfl,⟨hw.r.set 0 _,Zx hw.own (fun j hj=>hkp j (hw.ap j hj)),hw.ap⟩,fun j hj=>⟨(ha j hj).1,fun r hr=>(by cases hr)⟩,⟨rfl,rfl,rfl,by simp,fun j _ hj=>hkp j (fun e=>hj (.inr (.inl (.inl e))))⟩,fun j hj=>.inl hj,rfl,fun r hr=>(by cases hr)⟩
  simp only[List.length_nil]at c0 hsc⊢;clear hf he hw ha hml h0;unfold Zh1;go_enter Tryz.func293,Tryz.ntmps293;go_wp2;go_loopw [5,19] (fun v i wr=>v=.slice sa 0 sc∧i=.int .i64 0∧wr=w) (fun _ _ _=>0)
  case atStart=>exact⟨rfl,rfl,rfl⟩
  case round=>
   obtain⟨rfl,rfl,rfl⟩:=hrel;go_wp2;go_ret;exact HH.out
 ·obtain⟨g,rfl⟩:∃g,sa=some ⟨g,0,none⟩:=by
   obtain⟨_,⟨h1,_⟩ | ⟨g,cap,cur,h1,_⟩⟩:=hw.own
   ·injection h1 with _ h2 _
    omega
   ·injection h1 with h1 _ _
    exact⟨g,h1⟩
  have hwo:=hw.own
  have HS0:Hid (Rs B bf bm bw g sc vs w fs sv L 0 fs sv [] L w):=⟨hf,he,Rr.start (by rw[hml]at hwo⊢;exact hwo),hw.r,by simp,by simp,fun j hj=>ha j (by
   rcases hj with rfl | rfl
   ·exact .inl rfl
   ·exact .inr rfl),hw.ap g rfl,Tz.refl _ _,fun j hj=>.inl hj,by simp,fun r hr=>⟨r,hr,rfl⟩⟩
  have hLs:L.length≤1000000000:=by omega
  clear hf he hw ha hml hwo;unfold Zh1;go_enter Tryz.func293,Tryz.ntmps293;go_wp2;go_loopw [5,19] (fun v i wr=>∃(k:Nat) (fs':List ByteArray) (sv':Value) (ks rest:List Er),k≤L.length∧i=.int .i64 k∧v=.slice (some ⟨g,0,none⟩) ks.length sc∧Hid (Rs B bf bm bw g sc vs w fs sv L k fs' sv' ks rest wr)) (fun _ i _=>L.length-(intOf i).toNat)
  case atStart=>exact⟨0,fs,sv,[],L,Nat.zero_le _,rfl,rfl,HS0⟩
  case round=>
   clear HS0 c0 f0;obtain⟨k,fs',sv',ks,rest,hk,rfl,rfl,HS⟩:=hrel
   by_cases hlt:k<L.length
   ·have hlt':(k:Int)<(L.length:Int):=by omega
    have hk0:(0:Int)≤(k:Int):=by omega
    obtain⟨r,rest',rfl,x0,hr⟩:=HS.out.next hlt;have hlr:fs'.length≤1000000000:=by have:=HS.out.ln;omega
    have HC:=Lib.hid (Zl1 HS.out.fd (Nat.le_trans hB HS.out.tz.size) r hr hlr)
    cases hv:Zaf fs' r.q with
    | some v=>
     rw[hv]at HC;have HV:=Lib.hid hv;clear hv hr hlr;go_wp2_with fail;refine HC.out.mono ?_;rintro e w1 ⟨rfl,hg⟩;obtain⟨sv2,hs2⟩:=HS.out.gone HV.out hg;have HS2:=Lib.hid hs2;clear hs2 hg HC HS x0;go_wp2;go_roundw
     case rel=>exact⟨k+1,_,sv2,ks,rest',by omega,by go_num,rfl,HS2⟩
     case measure=>simp[intOf];omega
    | none=>
     rw[hv]at HC;have HV:=Lib.hid hv;clear hv hr hlr;go_wp2_with fail;refine HC.out.mono ?_;rintro e w1 ⟨rfl,hg⟩;obtain⟨r',sv2,w2,hrun,hs2⟩:=HS.out.kept HV.out hg hB i0 hi0 hz1;have HS2:=Lib.hid hs2;clear hs2 hg HC HS x0;go_wp2;go_roundw
     case rel=>exact⟨k+1,_,sv2,ks++[r'],rest',by omega,by go_num,by simp,HS2⟩
     case measure=>simp[intOf];omega
   ·obtain rfl:k=L.length:=by omega
    have q0:=HS.out.rw.at (j:=0) rfl;have q1:=World.rowIs.frozen HS.out.rw 0;have HF:=Lib.hid (HS.out.fin rfl);clear HS;go_wp2;go_ret
    first
     | exact HF.out
     | (have:=HF.out;simpa using this)
end
end Go.Proofs.YtjdnpgpbeppgjaaGreatDoor
