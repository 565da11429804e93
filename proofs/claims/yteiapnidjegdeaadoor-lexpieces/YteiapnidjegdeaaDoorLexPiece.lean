import Derived.Test.YteiapnidjegdeaaDoorLexAt
import Derived.Test.YteiapnidjegdeaaDoorLexAlike
import Derived.Test.YteiapnidjegdeaaDoorLexPieceM
namespace Go.Proofs.YteiapnidjegdeaaDoor
open Go.RowKit Go.Maps
set_option linter.unusedVariables false
set_option linter.unusedSimpArgs false
attribute [local go_sem ↓] Go.wp_at_zero Go.wp_at_succ

theorem end_neq (d : Int) (w : World) : (binOp .neq 36 (.agg #[.int .i8 8, .string ⟨#[]⟩, .int .i64 0, .int .i64 d]) (.agg #[.int .i8 8, .string ⟨#[]⟩, .int .i64 0, .int .i64 d])).run Tryd.prog w = .ok (.bool false) w := by
  have := tok_neq ⟨8, [], 0, d⟩ ⟨8, [], 0, d⟩ w
  rw [decide_eq_true rfl] at this
  exact this
theorem end_eql (d : Int) (w : World) : (binOp .eql 36 (.agg #[.int .i8 8, .string ⟨#[]⟩, .int .i64 0, .int .i64 d]) (.agg #[.int .i8 8, .string ⟨#[]⟩, .int .i64 0, .int .i64 d])).run Tryd.prog w = .ok (.bool true) w := by
  have := tok_eql ⟨8, [], 0, d⟩ ⟨8, [], 0, d⟩ w
  rw [decide_eq_true rfl] at this
  exact this
theorem wrap_ok {x : Int} (h0 : 0 ≤ x) (h1 : x < 9223372036854775808) : wrap64 x = x := by unfold wrap64; omega
theorem wrap_d {d : Int} (h0 : 0 ≤ d) (h1 : d ≤ 65536) : wrap64 d = d ∧ IntKind.i64.wrap d = d := ⟨wrap_ok h0 (by omega), wrap_small d h0 (by omega)⟩
theorem wrap_j {j n : Int} (h0 : 0 ≤ j) (h1 : j < n) (h2 : n ≤ 9223372036854775806) : wrap64 (j + 1) = j + 1 ∧ IntKind.i64.wrap (j + 1) = j + 1 := ⟨wrap_ok (by omega) (by omega), wrap_small _ (by omega) (by omega)⟩
theorem piece_keep {W w' w'' : World} {b g2 off2 g off j : Nat} {t : Tk} {d : Int} (h : ((g2 < w'.heap.size ∧ b < w'.heap.size) ∧ (Below W.heap.size W w' ∧ Gl w') ∧ (TL w' (some ⟨g2, off2, none⟩) [t.bare] ∧ TL w' (some ⟨g, off + j * 4, none⟩) [t]) ∧ w'.cell? ⟨b, 0, none⟩ = some (.int .i64 0) ∧ w'.cell? ⟨b, 1, none⟩ = some (.int .i64 0) ∧ w'.cell? ⟨g2, off2 + 3, none⟩ = some (.int .i64 0) ∧ w'.cell? ⟨g2, off2 + 4, none⟩ = some (.int .i8 8) ∧ w'.cell? ⟨g2, off2 + 4 + 1, none⟩ = some (.string ⟨#[]⟩) ∧ w'.cell? ⟨g2, off2 + 4 + 2, none⟩ = some (.int .i64 0) ∧ w'.cell? ⟨g2, off2 + 4 + 3, none⟩ = some (.int .i64 (d)))) (hb : Below w'.heap.size w' w'') :
    ((g2 < w''.heap.size ∧ b < w''.heap.size) ∧ (Below W.heap.size W w'' ∧ Gl w'') ∧ (TL w'' (some ⟨g2, off2, none⟩) [t.bare] ∧ TL w'' (some ⟨g, off + j * 4, none⟩) [t]) ∧ w''.cell? ⟨b, 0, none⟩ = some (.int .i64 0) ∧ w''.cell? ⟨b, 1, none⟩ = some (.int .i64 0) ∧ w''.cell? ⟨g2, off2 + 3, none⟩ = some (.int .i64 0) ∧ w''.cell? ⟨g2, off2 + 4, none⟩ = some (.int .i8 8) ∧ w''.cell? ⟨g2, off2 + 4 + 1, none⟩ = some (.string ⟨#[]⟩) ∧ w''.cell? ⟨g2, off2 + 4 + 2, none⟩ = some (.int .i64 0) ∧ w''.cell? ⟨g2, off2 + 4 + 3, none⟩ = some (.int .i64 (d))) := by
  obtain ⟨⟨h1, h2⟩, ⟨h3, h4⟩, ⟨h5, h6⟩, h7, h8, h9, h10, h11, h12, h13⟩ := h
  have hc : ∀ {b i : Nat} {u : Value}, w'.cell? ⟨b, i, none⟩ = some u → w''.cell? ⟨b, i, none⟩ = some u := fun {b i u} hu => by
    rw [hb.cell (p := ⟨b, i, none⟩) (World.block_lt_of_cell? _ _ hu)]; exact hu
  exact ⟨⟨Nat.lt_of_lt_of_le h1 hb.size, Nat.lt_of_lt_of_le h2 hb.size⟩, ⟨h3.trans (hb.mono h3.size), h4.below hb⟩, ⟨TL.below h5 hb, TL.below h6 hb⟩, hc h7, hc h8, hc h9, hc h10, hc h11, hc h12, hc h13⟩
theorem piece_alike {W w' : World} {b g2 off2 g off j : Nat} {t : Tk} {d : Int} {c c' : Nat} (h : ((g2 < w'.heap.size ∧ b < w'.heap.size) ∧ (Below W.heap.size W w' ∧ Gl w') ∧ (TL w' (some ⟨g2, off2, none⟩) [t.bare] ∧ TL w' (some ⟨g, off + j * 4, none⟩) [t]) ∧ w'.cell? ⟨b, 0, none⟩ = some (.int .i64 0) ∧ w'.cell? ⟨b, 1, none⟩ = some (.int .i64 0) ∧ w'.cell? ⟨g2, off2 + 3, none⟩ = some (.int .i64 0) ∧ w'.cell? ⟨g2, off2 + 4, none⟩ = some (.int .i8 8) ∧ w'.cell? ⟨g2, off2 + 4 + 1, none⟩ = some (.string ⟨#[]⟩) ∧ w'.cell? ⟨g2, off2 + 4 + 2, none⟩ = some (.int .i64 0) ∧ w'.cell? ⟨g2, off2 + 4 + 3, none⟩ = some (.int .i64 (d)))) :
    Calls Tryd.prog 27 #[.slice (some ⟨g2, off2, none⟩) 1 c, .slice (some ⟨g, off + j * 4, none⟩) 1 c'] w' fun e w'' => e = .returned (.bool true) ∧ ((g2 < w''.heap.size ∧ b < w''.heap.size) ∧ (Below W.heap.size W w'' ∧ Gl w'') ∧ (TL w'' (some ⟨g2, off2, none⟩) [t.bare] ∧ TL w'' (some ⟨g, off + j * 4, none⟩) [t]) ∧ w''.cell? ⟨b, 0, none⟩ = some (.int .i64 0) ∧ w''.cell? ⟨b, 1, none⟩ = some (.int .i64 0) ∧ w''.cell? ⟨g2, off2 + 3, none⟩ = some (.int .i64 0) ∧ w''.cell? ⟨g2, off2 + 4, none⟩ = some (.int .i8 8) ∧ w''.cell? ⟨g2, off2 + 4 + 1, none⟩ = some (.string ⟨#[]⟩) ∧ w''.cell? ⟨g2, off2 + 4 + 2, none⟩ = some (.int .i64 0) ∧ w''.cell? ⟨g2, off2 + 4 + 3, none⟩ = some (.int .i64 (d))) := by
  have ha := alike_any [t.bare] [t] w' (some ⟨g2, off2, none⟩) (some ⟨g, off + j * 4, none⟩) c c' (by simp [maxLen]) (by simp [maxLen]) h.2.2.1.1 h.2.2.1.2
  rw [show decide ([t.bare].map Tk.bare = [t].map Tk.bare) = true from decide_eq_true rfl] at ha
  refine ha.mono fun e w'' => ?_
  rintro ⟨rfl, hb⟩
  exact ⟨rfl, piece_keep h hb⟩

set_option maxHeartbeats 6400000 in
set_option maxRecDepth 100000 in
theorem LexPieces_any (s : ByteArray) (w : World) (hg : Gl w) (hs : s.size ≤ maxLen) : Calls Tryd.prog 8 #[.string s] w fun e w' => e = .returned (.bool true) ∧ Below w.heap.size w w' := by
  have HM : Hid (s.size ≤ maxLen) := hs
  unfold maxLen at hs
  cases hR : tokens s.data.toList with
  | bad e q =>
    have he0 := tokens_err hR
    have hK := Tokens_cap hR w hg HM.out
    have hfn := fun w => flt_neq e q 0 0 w
    rw [decide_eq_false (fun h => he0 h.1)] at hfn
    go_enter Tryd.func8, Tryd.ntmps8
    go_wp2_with fail
    refine hK.mono ?_
    rintro e' w1 ⟨a, c, rfl, htl, _, _, hb1⟩
    have hg1 := hg.below hb1
    unfold Res.flt
    have hgA : Gl (w1.alloc (.cells #[.int .i64 e, .int .i64 q] 25)) := hg1.alloc _
    have bA := hb1.alloc hb1.size (.cells #[.int .i64 e, .int .i64 q] 25)
    clear hK htl hb1 hg1 hg
    go_wp2_with (first
      | (go_at_call 13; refine (lives_any _ hgA).mono ?_; rintro e w4 ⟨rfl, hb4⟩; have b4 := bA.trans (hb4.mono bA.size))
      | fail)
    go_ret
    exact ⟨rfl, b4⟩
  | ok ts =>
    obtain ⟨hsz, hT⟩ := tokens_ok hR
    obtain ⟨⟨t0, g0, k0, g1, g2, g3⟩, gl, gp⟩ := toks_pieces _ _ 0 (Nat.le_refl _) hT
    simp only [Nat.zero_add] at g1 gl gp
    rw [len_toList] at g2 gl gp
    have hK := Tokens_cap hR w hg HM.out
    obtain ⟨n, hn⟩ : ∃ n, ts.length = n + 1 := ⟨ts.length - 1, by have := (List.getElem?_eq_some_iff.mp g0).1; omega⟩
    rw [hn, Nat.add_sub_cancel] at gl
    have htn : ts ≠ [] := fun e => by subst e; simp at hn
    have HP : Hid _ := gp
    have HL : Hid _ := gl
    have HG0 : Hid (ts[0]? = some t0 ∧ t0.a = (k0 : Int) ∧ k0 ≤ s.size ∧ ∀ b, toks (s.data.toList.take k0) b = .ok [endT (b + k0)]) := ⟨g0, g1, g2, g3⟩
    have hfn := fun w => flt_neq 0 0 0 0 w
    have htq := fun w => tok_neq (endT s.size) (endT s.size) w
    rw [decide_eq_true rfl] at htq
    simp only [endT] at htq
    clear hR hT gp gl g0 g1 g2 g3
    go_enter Tryd.func8, Tryd.ntmps8
    go_wp2_with fail
    refine hK.mono ?_
    rintro e' w1 ⟨a, c, rfl, htl, hcl, hcm, hb1⟩
    obtain ⟨g, off, rfl⟩ := TL_addr htl htn
    simp only [Res.ts] at htl hcl ⊢
    rw [hn] at hcl ⊢
    unfold Res.flt
    have hgA : Gl (w1.alloc (.cells #[.int .i64 0, .int .i64 0] 25)) := (hg.below hb1).alloc _
    have bA := hb1.alloc hb1.size (.cells #[.int .i64 0, .int .i64 0] 25)
    have htA : TL (w1.alloc (.cells #[.int .i64 0, .int .i64 0] 25)) (some ⟨g, off, none⟩) ts := TL.below htl ((Below.refl _ _).alloc (Nat.le_refl _) _)
    obtain ⟨_, _, ee, l0, l1, l2, l3⟩ := htA n _ HL.out
    simp at ee
    obtain ⟨rfl, rfl⟩ := ee
    simp only [endT] at l0 l1 l2 l3
    clear hK htl hb1 hg
    unfold maxLen at hcm
    have hnb : (n : Int) ≤ 9223372036854775806 := by omega
    have hn0 : ((n : Int) + 1 == 0) = false := by rw [beq_eq_false_iff_ne]; omega
    go_wp2_with fail
    generalize w1.alloc (.cells #[.int .i64 0, .int .i64 0] 25) = W at hgA bA htA ⊢
    clear l0 l1 l2 l3 htq
    have HT : Hid _ := htA
    have HGW : Hid _ := hgA
    have HB : Hid _ := bA
    clear htA hgA bA
    go_loopw [5, 6] (fun e i wr => ∃ (j p : Nat) (u : Tk), j ≤ n ∧ i = .int .i64 ((j : Int) - 1) ∧ e = .int .i64 p ∧ p ≤ s.size ∧ ts[j]? = some u ∧ u.a = (p : Int) ∧ Below W.heap.size W wr) (fun _ i _ => (intOf i + 1).toNat)
    case atStart => exact ⟨n, s.size, _, Nat.le_refl _, by go_num, rfl, Nat.le_refl _, HL.out, rfl, Below.refl _ _⟩
    case round =>
      obtain ⟨j, q, u, hj, rfl, rfl, hq, hu, hua, bel⟩ := hrel
      have hgr := HGW.out.below bel
      have htr := TL.below HT.out bel
      cases j with
      | zero =>
        obtain ⟨z0, z1, z2, z3⟩ := HG0.out
        obtain rfl : t0 = u := Option.some.inj (z0.symm.trans hu)
        obtain rfl : k0 = q := by omega
        have hjm : ((0 : Nat) : Int) - 1 = -1 := by omega
        have x2 := ext_size s (k := k0) z2
        obtain ⟨x, hx⟩ : ∃ x, s.extract 0 k0 = x := ⟨_, rfl⟩
        have hRx : tokens x.data.toList = .ok [endT k0] := by
          unfold tokens
          rw [len_toList, ← hx, x2, if_neg (by omega), ext_take, z3 0, Nat.zero_add]
        have hxm : x.size ≤ maxLen := by rw [← hx, x2]; unfold maxLen; omega
        have HK : Hid _ := Tokens_cap hRx _ hgr hxm
        have hks : (k0 : Int) ≤ (s.size : Int) := by omega
        have HGr : Hid _ := hgr
        have hfe := fun w => flt_eql2 0 0 0 0 w
        have hte := end_eql (k0 : Int)
        clear z0 z1 z3 x2 hRx hxm hu hua htr hgr
        rw [hjm]
        clear hjm
        go_wp2_with fail
        refine Calls.mono HK.out ?_
        rintro e' w2 ⟨a2, c2, rfl, htl2, hcl2, hcm2, hb2⟩
        obtain ⟨g2, off2, rfl⟩ := TL_addr htl2 (by simp [Res.ts])
        simp only [Res.ts] at htl2 hcl2 ⊢
        simp only [List.length_cons, List.length_nil, Nat.zero_add] at hcl2 ⊢
        unfold Res.flt
        have bel2 := bel.trans (hb2.mono bel.size)
        obtain ⟨_, _, ee, m0, m1, m2, m3⟩ := htl2 0 _ rfl
        simp at ee
        obtain ⟨rfl, rfl⟩ := ee
        have hg2l : g2 < w2.heap.size := World.block_lt_of_cell? _ _ m0
        simp only [endT, Nat.zero_mul, Nat.add_zero] at m0 m1 m2 m3
        have hgB : Gl (w2.alloc (.cells #[.int .i64 0, .int .i64 0] 25)) := (HGr.out.below hb2).alloc _
        have belB := (bel2.alloc bel2.size (.cells #[.int .i64 0, .int .i64 0] 25))
        have bF := HB.out.trans (belB.mono HB.out.size)
        clear htl2 hb2 bel2 HK belB
        go_wp2_with (first
          | (go_at_call 13; refine (lives_any _ hgB).mono ?_; rintro e w4 ⟨rfl, hb4⟩; have b4 := bF.trans (hb4.mono bF.size))
          | fail)
        go_ret
        exact ⟨rfl, b4⟩
      | succ j =>
        obtain ⟨t, ht⟩ : ∃ t, ts[j]? = some t := ⟨_, List.getElem?_eq_getElem (by omega)⟩
        obtain ⟨p, q', e1, e2, e3, e4, e5⟩ := HP.out j t u ht hu
        obtain rfl : q = q' := by omega
        obtain ⟨x1, x2⟩ := ext_mid s (p := p) (q := q) (by omega) hq
        obtain ⟨x, hx⟩ : ∃ x, s.extract p q = x := ⟨_, rfl⟩
        have hRx : tokens x.data.toList = .ok [t.bare, endT (q - p)] := by
          unfold tokens
          rw [len_toList, ← hx, x2, if_neg (by omega), x1]
          exact e5
        have hxm : x.size ≤ maxLen := by rw [← hx, x2]; unfold maxLen; omega
        have HK : Hid _ := Tokens_cap hRx _ hgr hxm
        obtain ⟨_, _, ee, r0, r1, r2, r3⟩ := htr j t ht
        simp at ee
        obtain ⟨rfl, rfl⟩ := ee
        rw [e1] at r3
        have hpq : (p : Int) < (q : Int) := by omega
        have hqs : (q : Int) ≤ (s.size : Int) := by omega
        have hp0 : (0 : Int) ≤ (p : Int) := by omega
        have hjn : (j : Int) < (n : Int) := by omega
        have hj1 : ((j + 1 : Nat) : Int) - 1 = (j : Int) := by omega
        have hj2 : (0 : Int) ≤ (j : Int) := by omega
        have HTr : Hid _ := htr
        have HGr : Hid _ := hgr
        have Ht : Hid _ := ht
        have HE : Hid _ := e1
        clear e2 e5 x1 x2 hRx hxm hu hua htr hgr ht e1
        rw [hj1]
        clear hj1
        go_wp2_with fail
        refine Calls.mono HK.out ?_
        rintro e' w2 ⟨a2, c2, rfl, htl2, hcl2, hcm2, hb2⟩
        obtain ⟨g2, off2, rfl⟩ := TL_addr htl2 (by simp [Res.ts])
        simp only [Res.ts] at htl2 hcl2 ⊢
        simp only [List.length_cons, List.length_nil, Nat.zero_add] at hcl2 ⊢
        unfold Res.flt
        have bel2 := bel.trans (hb2.mono bel.size)
        have htB := TL.below HTr.out hb2
        obtain ⟨_, _, ee, m0, m1, m2, m3⟩ := htl2 0 _ rfl
        simp at ee
        obtain ⟨rfl, rfl⟩ := ee
        obtain ⟨_, _, ee, n0, n1, n2, n3⟩ := htl2 1 _ rfl
        simp at ee
        obtain ⟨rfl, rfl⟩ := ee
        have hg2l : g2 < w2.heap.size := World.block_lt_of_cell? _ _ m0
        have hz : ((q - p : Nat) : Int) = (q : Int) - (p : Int) := by omega
        simp only [endT, hz, Nat.one_mul, Nat.zero_mul, Nat.add_zero] at n0 n1 n2 n3 m3
        have hm3 : w2.cell? ⟨g2, off2 + 3, none⟩ = some (.int .i64 0) := m3
        have hq6 : (q : Int) ≤ 65536 := by omega
        obtain ⟨d, hd⟩ : ∃ d : Int, (q : Int) - (p : Int) = d := ⟨_, rfl⟩
        have hd0 : 0 ≤ d := by omega
        have hd1 : d ≤ 65536 := by omega
        rw [hd] at n3
        have htq2 := end_neq d
        have hwr : IntKind.i64.wrap d = d := (wrap_d hd0 hd1).2
        have hwj : IntKind.i64.wrap ((j : Int) + 1) = (j : Int) + 1 := (wrap_j hj2 hjn hnb).2
        clear m3
        have hgB : Gl (w2.alloc (.cells #[.int .i64 0, .int .i64 0] 25)) := (HGr.out.below hb2).alloc _
        have belB := bel2.alloc bel2.size (.cells #[.int .i64 0, .int .i64 0] 25)
        have bAl : Below w2.heap.size w2 (w2.alloc (.cells #[.int .i64 0, .int .i64 0] 25)) := (Below.refl _ _).alloc (Nat.le_refl _) _
        have hS : ((g2 < (w2.alloc (.cells #[.int .i64 0, .int .i64 0] 25)).heap.size ∧ w2.heap.size < (w2.alloc (.cells #[.int .i64 0, .int .i64 0] 25)).heap.size) ∧ (Below W.heap.size W (w2.alloc (.cells #[.int .i64 0, .int .i64 0] 25)) ∧ Gl (w2.alloc (.cells #[.int .i64 0, .int .i64 0] 25))) ∧ (TL (w2.alloc (.cells #[.int .i64 0, .int .i64 0] 25)) (some ⟨g2, off2, none⟩) [t.bare] ∧ TL (w2.alloc (.cells #[.int .i64 0, .int .i64 0] 25)) (some ⟨g, off + j * 4, none⟩) [t]) ∧ (w2.alloc (.cells #[.int .i64 0, .int .i64 0] 25)).cell? ⟨w2.heap.size, 0, none⟩ = some (.int .i64 0) ∧ (w2.alloc (.cells #[.int .i64 0, .int .i64 0] 25)).cell? ⟨w2.heap.size, 1, none⟩ = some (.int .i64 0) ∧ (w2.alloc (.cells #[.int .i64 0, .int .i64 0] 25)).cell? ⟨g2, off2 + 3, none⟩ = some (.int .i64 0) ∧ (w2.alloc (.cells #[.int .i64 0, .int .i64 0] 25)).cell? ⟨g2, off2 + 4, none⟩ = some (.int .i8 8) ∧ (w2.alloc (.cells #[.int .i64 0, .int .i64 0] 25)).cell? ⟨g2, off2 + 4 + 1, none⟩ = some (.string ⟨#[]⟩) ∧ (w2.alloc (.cells #[.int .i64 0, .int .i64 0] 25)).cell? ⟨g2, off2 + 4 + 2, none⟩ = some (.int .i64 0) ∧ (w2.alloc (.cells #[.int .i64 0, .int .i64 0] 25)).cell? ⟨g2, off2 + 4 + 3, none⟩ = some (.int .i64 (d))) := by
          refine ⟨⟨by simp; omega, by simp⟩, ⟨belB, hgB⟩, ⟨TL.below (by simpa using TL_one htl2 (i := 0) rfl) bAl, TL.below (TL_one htB Ht.out) bAl⟩, ?_, ?_, ?_, ?_, ?_, ?_, ?_⟩ <;> go_simp
        have hjc : (j : Int) + 1 ≤ (c : Int) := by omega
        have hjj : (j : Int) ≤ (j : Int) + 1 := by omega
        have hjd : (j : Int) + 1 - (j : Int) = 1 := by omega
        have hjc2 : (0 : Int) ≤ (j : Int) + 1 := by omega
        have hjc3 : (j : Int) ≤ (c : Int) := by omega
        have hjne : ¬ c = j := by omega
        have hc2 : (1 : Int) ≤ (c2 : Int) := by omega
        have HS : Hid _ := hS
        clear hz bAl hb2 m0 m1 m2 htl2 htB bel2 r0 r1 r2 r3 HK belB hgB hS hm3 n0 n1 n2 n3
        go_wp2_with fail
        go_region_held3 (fun w' => ((g2 < w'.heap.size ∧ w2.heap.size < w'.heap.size) ∧ (Below W.heap.size W w' ∧ Gl w') ∧ (TL w' (some ⟨g2, off2, none⟩) [t.bare] ∧ TL w' (some ⟨g, off + j * 4, none⟩) [t]) ∧ w'.cell? ⟨w2.heap.size, 0, none⟩ = some (.int .i64 0) ∧ w'.cell? ⟨w2.heap.size, 1, none⟩ = some (.int .i64 0) ∧ w'.cell? ⟨g2, off2 + 3, none⟩ = some (.int .i64 0) ∧ w'.cell? ⟨g2, off2 + 4, none⟩ = some (.int .i8 8) ∧ w'.cell? ⟨g2, off2 + 4 + 1, none⟩ = some (.string ⟨#[]⟩) ∧ w'.cell? ⟨g2, off2 + 4 + 2, none⟩ = some (.int .i64 0) ∧ w'.cell? ⟨g2, off2 + 4 + 3, none⟩ = some (.int .i64 (d))))
          (first
            | assumption
            | exact HS.out
            | exact piece_keep HS.out ((Below.refl _ _).drew))
          (first
            | (go_at_call 27; refine (piece_alike (W := W) (b := w2.heap.size) (t := t) (d := d) (by assumption)).mono ?_; rintro e u' ⟨rfl, hu⟩))
        rename_i hSe
        go_wp2_with fail
        go_roundw
        case rel => exact ⟨j, p, t, by omega, by go_num, rfl, by omega, Ht.out, HE.out, hSe.2.1.1⟩
        case measure => simp [intOf]
end Go.Proofs.YteiapnidjegdeaaDoor
