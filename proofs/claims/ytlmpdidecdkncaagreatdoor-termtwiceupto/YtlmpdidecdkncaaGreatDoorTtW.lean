import Derived.Test.YtlmpdidecdkncaaGreatDoorTtM
import Derived.Test.YtlmpdidecdkncaaGreatDoorG29
import Derived.Test.YtlmpdidecdkncaaGreatDoorG32
import Derived.Test.YtlmpdidecdkncaaGreatDoorG26
import Derived.Deep.RegionHeld3
namespace Go.Proofs.YtlmpdidecdkncaaGreatDoor
open Go.RowKit Go.Maps
set_option linter.unusedVariables false
set_option linter.unusedSimpArgs false
attribute [local go_sem ↓] Go.wp_at_zero Go.wp_at_succ

/-- the boxes of the atom and of the rule -/
structure BxS (w : World) (bA bR : Nat) (pr : ByteArray) (v : Value) (q : ByteArray) (v1 v2 : Value) (u : World) : Prop where
  bel : Below w.heap.size w u
  a0 : u.cell? ⟨bA, 0, none⟩ = some (.string pr)
  a1 : u.cell? ⟨bA, 1, none⟩ = some v
  r0 : u.cell? ⟨bR, 0, none⟩ = some (.string q)
  r1 : u.cell? ⟨bR, 1, none⟩ = some v1
  r2 : u.cell? ⟨bR, 2, none⟩ = some v2
theorem BxS.next {w : World} {bA bR : Nat} {pr : ByteArray} {v : Value} {q : ByteArray} {v1 v2 : Value} {u u' : World} (h : BxS w bA bR pr v q v1 v2 u) (b : Below u.heap.size u u') : BxS w bA bR pr v q v1 v2 u' := by
  have hA : bA < u.heap.size := World.block_lt_of_cell? _ _ h.a0
  have hR : bR < u.heap.size := World.block_lt_of_cell? _ _ h.r0
  exact ⟨h.bel.trans (b.mono h.bel.size), by rw [b.cell (p := ⟨bA, 0, none⟩) hA]; exact h.a0, by rw [b.cell (p := ⟨bA, 1, none⟩) hA]; exact h.a1, by rw [b.cell (p := ⟨bR, 0, none⟩) hR]; exact h.r0, by rw [b.cell (p := ⟨bR, 1, none⟩) hR]; exact h.r1, by rw [b.cell (p := ⟨bR, 2, none⟩) hR]; exact h.r2⟩
theorem box_AR {w X : World} (hX : Below w.heap.size w X) {n : Nat} (hn : X.heap.size = n) (pr : ByteArray) (v : Value) (q : ByteArray) (v1 v2 : Value) : BxS w n (n + 1) pr v q v1 v2 ((X.alloc (.cells #[.string pr, v] 35)).alloc (.cells #[.string q, v1, v2] 25)).drew := by
  subst hn
  have b1 := belowA (w := X) (.cells #[.string pr, v] 35)
  have b2 := belowA (w := X.alloc (.cells #[.string pr, v] 35)) (.cells #[.string q, v1, v2] 25)
  have b3 : Below ((X.alloc (.cells #[.string pr, v] 35)).alloc (.cells #[.string q, v1, v2] 25)).heap.size _ ((X.alloc (.cells #[.string pr, v] 35)).alloc (.cells #[.string q, v1, v2] 25)).drew := (Below.refl _ _).drew
  have hA := ((rl_new X #[.string pr, v] 35).below b2).below b3
  have hR := (rl_new (X.alloc (.cells #[.string pr, v] 35)) #[.string q, v1, v2] 25).below b3
  rw [World.size_alloc] at hR
  have b12 := hX.trans (b1.mono hX.size)
  have b123 := b12.trans (b2.mono b12.size)
  exact ⟨b123.trans (b3.mono b123.size), hA.at (j := 0) rfl, hA.at (j := 1) rfl, hR.at (j := 0) rfl, hR.at (j := 1) rfl, hR.at (j := 2) rfl⟩
theorem box_RA {w X : World} (hX : Below w.heap.size w X) {n : Nat} (hn : X.heap.size = n) (pr : ByteArray) (v : Value) (q : ByteArray) (v1 v2 : Value) : BxS w (n + 1) n pr v q v1 v2 ((X.alloc (.cells #[.string q, v1, v2] 25)).alloc (.cells #[.string pr, v] 35)).drew := by
  subst hn
  have b1 := belowA (w := X) (.cells #[.string q, v1, v2] 25)
  have b2 := belowA (w := X.alloc (.cells #[.string q, v1, v2] 25)) (.cells #[.string pr, v] 35)
  have b3 : Below ((X.alloc (.cells #[.string q, v1, v2] 25)).alloc (.cells #[.string pr, v] 35)).heap.size _ ((X.alloc (.cells #[.string q, v1, v2] 25)).alloc (.cells #[.string pr, v] 35)).drew := (Below.refl _ _).drew
  have hR := ((rl_new X #[.string q, v1, v2] 25).below b2).below b3
  have hA := (rl_new (X.alloc (.cells #[.string q, v1, v2] 25)) #[.string pr, v] 35).below b3
  rw [World.size_alloc] at hA
  have b12 := hX.trans (b1.mono hX.size)
  have b123 := b12.trans (b2.mono b12.size)
  exact ⟨b123.trans (b3.mono b123.size), hA.at (j := 0) rfl, hA.at (j := 1) rfl, hR.at (j := 0) rfl, hR.at (j := 1) rfl, hR.at (j := 2) rfl⟩
/-- one term, written out as a list -/
theorem lt_one (w : World) (u : T) (hu : u.wf) : Lt (w.alloc (.cells #[.string u.v, .int .i8 u.a.k, .int .i64 u.a.n, .string u.a.s] 50)) (.slice (some ⟨w.heap.size, 0, none⟩) 1 1) [u] := by
  have h := rl_new w #[.string u.v, .int .i8 u.a.k, .int .i64 u.a.n, .string u.a.s] 50
  refine ⟨⟨by show 1 ≤ maxLen; decide, _, 1, rfl, Nat.le_refl _, by decide, fun _ => ⟨w.heap.size, 0, rfl, by simp, fun i hi => ?_⟩⟩, fun t ht => by rw [List.mem_singleton.1 ht]; exact hu⟩
  rw [Nat.zero_add]
  exact h.at (by rw [← List.getElem?_eq_getElem hi]; rfl)
theorem lp_one (w : World) (u : P) (hu : u.wf) : Lp (w.alloc (.cells #[.string u.v, .string u.t.v, .int .i8 u.t.a.k, .int .i64 u.t.a.n, .string u.t.a.s] 52)) (.slice (some ⟨w.heap.size, 0, none⟩) 1 1) [u] := by
  have h := rl_new w #[.string u.v, .string u.t.v, .int .i8 u.t.a.k, .int .i64 u.t.a.n, .string u.t.a.s] 52
  refine ⟨⟨by show 1 ≤ maxLen; decide, _, 1, rfl, Nat.le_refl _, by decide, fun _ => ⟨w.heap.size, 0, rfl, by simp, fun i hi => ?_⟩⟩, fun t ht => by rw [List.mem_singleton.1 ht]; exact hu⟩
  rw [Nat.zero_add]
  exact h.at (by rw [← List.getElem?_eq_getElem hi]; rfl)
theorem pcells_one (xs : List P) : ∀ u ∈ xs.flatMap P.cells, u.oneCell' = true := by
  intro u hu
  rw [List.mem_flatMap] at hu
  obtain ⟨t, _, ht⟩ := hu
  simp [P.cells] at ht
  rcases ht with rfl | rfl | rfl | rfl | rfl <;> rfl
theorem infoPrT : (Tryz.prog.info? 52).map (fun i => (i.zero, i.size, i.bytes)) = some (some (.agg #[.string ⟨#[]⟩, .string ⟨#[]⟩, .int .i8 0, .int .i64 0, .string ⟨#[]⟩]), 5, 64) := by kernel_rfl
theorem next_ofT {wc u v : World} (h : Below wc.heap.size wc u) (b : Below u.heap.size u v) : Below wc.heap.size wc v := h.trans (b.mono h.size)
set_option maxHeartbeats 200000000 in
set_option maxRecDepth 100000 in
theorem termTwice_walk (d : Nat) (r : R3) (p : RP) (o1 o2 o3 : Value) (pr : ByteArray) (va : Option Addr) (vc : Nat) (ts : List T) (o4 o5 : Value) (sa : Option Addr) (sc : Nat) (s : List P) (ta : Option Addr) (tc : Nat) (t : List P) (o6 o7 : Value) (w : World) (hG : LV.Tab w ∧ KT w) (hR : RIs w d r p) (hl : Lt w (.slice va ts.length vc) ts) (htl : ts.length ≤ 1048576) (hs : Lp w (.slice sa s.length sc) s) (ht : Lp w (.slice ta t.length tc) t) (hst : s.length + t.length ≤ 1048576) :
    Calls Tryz.prog 4 #[.agg #[.string r.pr, .slice p.a r.hd.length p.c, .slice p.ba r.bd.length p.bc, o1, o2, o3, .string pr, .slice va ts.length vc, o4, o5, .slice sa s.length sc, .slice ta t.length tc, o6, o7]] w fun e w' => e = .returned (.bool true) ∧ Below w.heap.size w w' := by
  have HG : Hid (∀ u, Below w.heap.size w u → LV.Tab u ∧ KT u) := fun u hu => ⟨hG.1.below hu, hG.2.below hu⟩
  have HX : Hid (∀ u, Below w.heap.size w u → RIs u d r p) := fun u hu => hR.below hu
  have HLS : Hid (∀ u, Below w.heap.size w u → Lp u (.slice sa s.length sc) s) := fun u hu => hs.below hu
  have HLT : Hid (∀ u, Below w.heap.size w u → Lp u (.slice ta t.length tc) t) := fun u hu => ht.below hu
  have HLA : Hid (∀ u, Below w.heap.size w u → Lt u (.slice va ts.length vc) ts) := fun u hu => hl.below hu
  have HWS : Hid (∀ q ∈ s, q.wf) := hs.wf
  have HWT : Hid (∀ q ∈ t, q.wf) := ht.wf
  have HST := Lib.hid hst
  obtain ⟨i0, hi0, hz0, hz1, hz2⟩ := info_parts infoPrT
  have HBX := Lib.hid (rl_new w #[.string r.pr, .slice p.a r.hd.length p.c, .slice p.ba r.bd.length p.bc, o1, o2, o3, .string pr, .slice va ts.length vc, o4, o5, .slice sa s.length sc, .slice ta t.length tc, o6, o7] 41)
  have HB0 : Hid (Below w.heap.size w (w.alloc (.cells #[.string r.pr, .slice p.a r.hd.length p.c, .slice p.ba r.bd.length p.bc, o1, o2, o3, .string pr, .slice va ts.length vc, o4, o5, .slice sa s.length sc, .slice ta t.length tc, o6, o7] 41))) := belowA _
  clear hG hR hl hs ht hst
  go_enter Tryz.func4, Tryz.ntmps4
  go_upto_region 1 with fail
  have hne1 : w.heap.size ≠ w.heap.size + 1 := by omega
  have hne2 : w.heap.size ≠ w.heap.size + 1 + 1 := by omega
  go_cut [3, 4, 5, 6] (fun s3 s4 s5 s6 wc => ∃ bA bR, s3 = .slice sa s.length sc ∧ s4 = .slice ta t.length tc ∧ s5 = .pointer (some ⟨bA, 0, none⟩) ∧ s6 = .pointer (some ⟨bR, 0, none⟩) ∧ Hid (BxS w bA bR pr (.slice va ts.length vc) r.pr (.slice p.a r.hd.length p.c) (.slice p.ba r.bd.length p.bc) wc))
  case first =>
    go_region
    all_goals
      go_wp2_with fail
      go_meet
      case rel =>
        first
          | exact ⟨w.heap.size + 1, w.heap.size + 1 + 1, rfl, rfl, rfl, rfl, box_AR (n := w.heap.size + 1) HB0.out (by simp) pr (.slice va ts.length vc) r.pr (.slice p.a r.hd.length p.c) (.slice p.ba r.bd.length p.bc)⟩
          | exact ⟨w.heap.size + 1 + 1, w.heap.size + 1, rfl, rfl, rfl, rfl, box_RA (n := w.heap.size + 1) HB0.out (by simp) pr (.slice va ts.length vc) r.pr (.slice p.a r.hd.length p.c) (.slice p.ba r.bd.length p.bc)⟩
  case rest =>
    obtain ⟨bA, bR, rfl, rfl, rfl, rfl, HBS⟩ := hcut
    clear HBX HB0 hne1 hne2
    as_aux_lemma =>
    have y0 := HBS.out.r0
    have y1 := HBS.out.r1
    have y2 := HBS.out.r2
    have HBY := Lib.hid (beyondRule_any d r p _ (HX.out _ HBS.out.bel))
    unfold R3.val at HBY
    go_wp2_with fail
    refine HBY.out.mono ?_
    rintro e w1 ⟨bb, rfl, b1, hsm⟩
    have HS1 := Lib.hid (HBS.out.next b1)
    have HSM := Lib.hid hsm
    clear hsm b1 HBY HBS y0 y1 y2
    cases bb
    · as_aux_lemma =>
      have hsm2 : smallR d r := HSM.out (by first | rfl | trivial)
      have HSL := Lib.hid hsm2
      clear hsm2 HSM
      go_wp2_with fail
      refine (LV.lives_any w1 (HG.out _ HS1.out.bel).1 (HG.out _ HS1.out.bel).2).mono ?_
      rintro e W2 ⟨rfl, b2⟩
      have HS2 := Lib.hid (HS1.out.next b2)
      clear b2 HS1
      have HT0 : Hid (TwS W2 [] [] none 0 none 0 W2) := ⟨Below.refl _ _, World.ownsRow_nil _ _ _ _, World.ownsRow_nil _ _ _ _, fun g hg => by cases hg⟩
      obtain ⟨ns, hns⟩ : ∃ ns, ns = vsT [] ts := ⟨_, rfl⟩
      have HNS := Lib.hid hns
      clear hns
      go_wp2
      go_loopw [7, 8, 9] (fun s7 s8 s9 wr => ∃ (k : Nat) (bs is : List P) (b1 : Option Addr) (c1 : Nat) (b2 : Option Addr) (c2 : Nat), k ≤ s.length ∧ s7 = .slice b1 bs.length c1 ∧ s8 = .slice b2 is.length c2 ∧ s9 = .int .i64 k ∧ Hid (bs = (s.take k).map (twP t)) ∧ Hid (is = idleP ns (s.take k)) ∧ Hid (TwS W2 bs is b1 c1 b2 c2 wr)) (fun _ _ s9 _ => s.length - (intOf s9).toNat)
      case atStart => exact ⟨0, [], [], none, 0, none, 0, Nat.zero_le _, rfl, rfl, rfl, rfl, rfl, HT0⟩
      case round =>
        clear HT0
        obtain ⟨k, bs, is, b1, c1, b2, c2, hk, rfl, rfl, rfl, HBE, HIE, HTS⟩ := hrel
        have HS3 := Lib.hid (HS2.out.next HTS.out.bel)
        by_cases hlt : k < s.length
        · have hlt' : (k : Int) < (s.length : Int) := by omega
          have hk0 : (0 : Int) ≤ (k : Int) := by omega
          have hbk : bs.length = k := by rw [HBE.out, List.length_map, List.length_take]; omega
          have hik : is.length ≤ k := by
            rw [HIE.out]
            exact Nat.le_trans (idle_len _ _) (by rw [List.length_take]; omega)
          have hkm : k ≤ 1048575 := by have := HST.out; omega
          obtain ⟨a', c', e', _, _, hP⟩ := (HLS.out _ HS3.out.bel).form
          cases e'
          obtain ⟨g, off, rfl, hg, hPA⟩ := hP (by omega)
          have HPK : Hid (∀ u, Below wr.heap.size wr u → PAt u g (off + k * 5) (atP s k)) := fun u hu => by
            obtain ⟨a2, c2, e2, _, _, hP2⟩ := (HLS.out _ (HS3.out.next hu).bel).form
            cases e2
            obtain ⟨g2, off2, e3, _, hPA2⟩ := hP2 (by omega)
            cases e3
            exact hPA2 k hlt
          obtain ⟨z0, z1, z2, z3, z4⟩ := hPA k hlt
          have hxw : (atP s k).wf := HWS.out _ (by rw [show atP s k = s[k] by simp [atP, List.getD, hlt]]; exact List.getElem_mem hlt)
          have HBN : Hid (bs ++ [twP t (atP s k)] = (s.take (k + 1)).map (twP t)) := by show _ = _; rw [twP_snoc _ _ _ hlt, HBE.out]
          have HIN : Hid (idleP ns (s.take (k + 1)) = is ++ (if inB ns (atP s k).v then [] else [atP s k])) := by show _ = _; rw [idle_snoc _ _ _ hlt, HIE.out]
          have HZ0 : Hid (∀ u, Below w.heap.size w u → u.cell? ⟨g, off + k * 5, none⟩ = some (.string (atP s k).v)) := fun u hu => by
            obtain ⟨a2, c2, e2, _, _, hP2⟩ := (HLS.out _ hu).form
            cases e2
            obtain ⟨g2, off2, e3, _, hPA2⟩ := hP2 (by omega)
            cases e3
            exact (hPA2 k hlt).c0
          have HZX : Hid (∀ u, Below w.heap.size w u → PAt u g (off + k * 5) (atP s k)) := fun u hu => by
            obtain ⟨a2, c2, e2, _, _, hP2⟩ := (HLS.out _ hu).form
            cases e2
            obtain ⟨g2, off2, e3, _, hPA2⟩ := hP2 (by omega)
            cases e3
            exact hPA2 k hlt
          generalize atP s k = x at HZ0 HZX HPK z0 z1 z2 z3 z4 hxw HBN HIN
          have HXW := Lib.hid hxw
          have hA := belowA (w := wr) (.cells #[.string x.t.v, .int .i8 x.t.a.k, .int .i64 x.t.a.n, .string x.t.a.s] 50)
          have HAP : Hid (Calls Tryz.prog 16 #[.slice ta t.length tc, .agg #[.string ⟨#[112]⟩, .slice (some ⟨wr.heap.size, 0, none⟩) 1 1]] (wr.alloc (.cells #[.string x.t.v, .int .i8 x.t.a.k, .int .i64 x.t.a.n, .string x.t.a.s] 50)) fun e w' => ∃ a c, e = .returned (.agg #[.string ⟨#[112]⟩, .slice a 1 c]) ∧ Lt w' (.slice a 1 c) [putT t x.t] ∧ Below wr.heap.size wr w') := by
            refine (apply_all _ t ⟨#[112]⟩ _ [x.t] _ (HLT.out _ (HS3.out.next hA).bel) (by have := HST.out; omega) (lt_one wr x.t hxw.term) (show 1 ≤ 1048576 by decide)).mono ?_
            rintro e w' ⟨a, c, h1, h2, h3⟩
            rw [putT_fun] at h2
            exact ⟨a, c, h1, h2, hA.trans (h3.mono hA.size)⟩
          clear hA hPA hP hxw HBE HIE
          go_wp2_with fail
          refine HAP.out.mono ?_
          rintro e w3 ⟨la, lc, rfl, hl3, b3⟩
          have hA4 := belowA (w := w3) (.cells #[.string ⟨#[112]⟩, .slice la 1 lc] 35)
          have HB4 : Hid (Below wr.heap.size wr (w3.alloc (.cells #[.string ⟨#[112]⟩, .slice la 1 lc] 35))) := b3.trans (hA4.mono b3.size)
          have HL4 := Lib.hid (hl3.below hA4)
          have HM4 := Lib.hid (rl_new w3 #[.string ⟨#[112]⟩, .slice la 1 lc] 35)
          clear hA4 b3 hl3 HAP z0 z1 z2 z3 z4
          go_upto_region 11 with fail
          generalize w3.alloc (.cells #[.string ⟨#[112]⟩, .slice la 1 lc] 35) = W4 at HB4 HL4 HM4 ⊢
          have m1 := HM4.out.at (j := 1) rfl
          go_upto_region 13 with fail
          obtain ⟨a9, c9, e9, _, _, hT9⟩ := HL4.out.form
          obtain ⟨e91, e92⟩ : la = a9 ∧ lc = c9 := by simpa using e9
          subst e91 e92
          obtain ⟨g2, off2, rfl, hg2, hTA⟩ := hT9 (show 0 < 1 by decide)
          obtain ⟨q0, q1, q2, q3⟩ := hTA 0 (show 0 < 1 by decide)
          rw [show off2 + 0 * 4 = off2 by omega] at q0 q1 q2 q3
          have t0 : W4.cell? ⟨g2, off2, none⟩ = some (.string (putT t x.t).v) := q0
          have t1 : W4.cell? ⟨g2, off2 + 1, none⟩ = some (.int .i8 (putT t x.t).a.k) := q1
          have t2 : W4.cell? ⟨g2, off2 + 2, none⟩ = some (.int .i64 (putT t x.t).a.n) := q2
          have t3 : W4.cell? ⟨g2, off2 + 3, none⟩ = some (.string (putT t x.t).a.s) := q3
          clear q0 q1 q2 q3
          have HBN : Hid (bs ++ [⟨x.v, putT t x.t⟩] = (s.take (k + 1)).map (twP t)) := HBN
          have htw : (putT t x.t).wf := putT_wf HWT.out HXW.out.term
          generalize putT t x.t = nt at t0 t1 t2 t3 HBN htw
          have z0 := (HPK.out _ HB4.out).c0
          have HU : Hid (TwS W2 bs is b1 c1 b2 c2 (W4.drew.alloc (.cells #[.string x.v, .string nt.v, .int .i8 nt.a.k, .int .i64 nt.a.n, .string nt.a.s] 52))) := ((HTS.out.keep HB4.out).keep (Below.refl _ _).drew).keep (belowA _)
          have HC : Hid (∀ (j : Nat) (u : Value), ([.string x.v, .string nt.v, .int .i8 nt.a.k, .int .i64 nt.a.n, .string nt.a.s] : List Value)[j]? = some u → (W4.drew.alloc (.cells #[.string x.v, .string nt.v, .int .i8 nt.a.k, .int .i64 nt.a.n, .string nt.a.s] 52)).cell? ((⟨W4.heap.size, 0, none⟩ : Addr).add j) = some u) := lit_news W4.drew #[.string x.v, .string nt.v, .int .i8 nt.a.k, .int .i64 nt.a.n, .string nt.a.s] _
          have HB5 : Hid (Below wr.heap.size wr (W4.drew.alloc (.cells #[.string x.v, .string nt.v, .int .i8 nt.a.k, .int .i64 nt.a.n, .string nt.a.s] 52))) := HB4.out.drew.alloc HB4.out.size _
          subst hbk
          clear HL4 HM4 hT9 e9 hTA hg2
          have HU2 : Hid (TwS W2 bs is b1 c1 b2 c2 ((W4.alloc (.cells #[.string x.v, .string nt.v, .int .i8 nt.a.k, .int .i64 nt.a.n, .string nt.a.s] 52)).drew)) := ((HTS.out.keep HB4.out).keep (belowA _)).keep (Below.refl _ _).drew
          have HC2 : Hid (∀ (j : Nat) (u : Value), ([.string x.v, .string nt.v, .int .i8 nt.a.k, .int .i64 nt.a.n, .string nt.a.s] : List Value)[j]? = some u → ((W4.alloc (.cells #[.string x.v, .string nt.v, .int .i8 nt.a.k, .int .i64 nt.a.n, .string nt.a.s] 52)).drew).cell? ((⟨W4.heap.size, 0, none⟩ : Addr).add j) = some u) := lit_news W4 #[.string x.v, .string nt.v, .int .i8 nt.a.k, .int .i64 nt.a.n, .string nt.a.s] _
          clear HTS HB4
          go_cut [7] from 29 to 76 (fun s7 wc => ∃ (a5 : Option Addr) (c5 : Nat), s7 = .slice a5 (bs.length + 1) c5 ∧ Hid (TwS W2 (bs ++ [⟨x.v, nt⟩]) is a5 c5 b2 c2 wc))
          case first =>
            go_region_law (
              refine step_append_own (w := (W4.alloc (.cells #[.string x.v, .string nt.v, .int .i8 nt.a.k, .int .i64 nt.a.n, .string nt.a.s] 52)).drew) rfl (.tmp 48) (.tmp 59) 36 rfl 52 i0 _ 5 64 Tryz.underlying36 hi0 hz0 hz1 hz2 rfl (by decide) W2.heap.size (.slice b1 bs.length c1) bs.length _ rfl HU2.out.o1 ⟨W4.heap.size, 0, none⟩ 1 1 [.string x.v, .string nt.v, .int .i8 nt.a.k, .int .i64 nt.a.n, .string nt.a.s] rfl rfl HC2.out (by simp [Value.oneCell']) (by unfold maxLen; omega) (by omega) HU2.out.bel.size ?_
              intro v' w5 hown' hgrow hloc
              obtain ⟨a5, c5, rfl, hT5⟩ := HU2.out.push1 [⟨x.v, nt⟩] (v' := v') hown' hgrow hloc
              have HT5 := Lib.hid hT5
              clear hown' hgrow hloc hT5)
            all_goals
              go_wp2_with fail
              go_meet
              case rel => exact ⟨a5, c5, rfl, HT5⟩
          case rest =>
            obtain ⟨a5, c5, rfl, HT5⟩ := hcut
            clear HU HU2 HC HC2 HB5 z0 m1 t0 t1 t2 t3 HPK HS3
            obtain ⟨W5, rfl⟩ : ∃ W5, W5 = wc := ⟨_, rfl⟩
            have HS5 := Lib.hid (HS2.out.next HT5.out.bel)
            have hst : ∀ u, Below W5.heap.size W5 u → (u.cell? ⟨g, off + bs.length * 5, none⟩ = some (.string x.v) ∧ u.cell? ⟨bA, 0, none⟩ = some (.string pr) ∧ u.cell? ⟨bA, 1, none⟩ = some (.slice va ts.length vc)) ∧ Below w.heap.size w u := fun u hu => by
              have hb := HS5.out.next hu
              exact ⟨⟨HZ0.out u hb.bel, hb.a0, hb.a1⟩, hb.bel⟩
            have HSC := Lib.hid hst
            have HAV : Hid (∀ u, Below W5.heap.size W5 u → Calls Tryz.prog 18 #[.agg #[.string pr, .slice va ts.length vc]] u fun e w' => ∃ sv, e = .returned sv ∧ Below u.heap.size u w' ∧ Calls Tryz.prog 17 #[.string x.v, sv] w' fun e w'' => e = .returned (.bool (inB ns x.v)) ∧ w'' = w') := fun u hu => by
              refine (atomVars_any pr _ ts u (by omega) (HLA.out _ (HSC.out u hu).2)).mono ?_
              rintro e w' ⟨sv, h1, h2, h3⟩
              refine ⟨sv, h1, h3, ?_⟩
              rw [HNS.out]
              exact in_any x.v sv (vsT [] ts) w' (ls_own h2)
            have hB0 : Below W5.heap.size W5 W5.drew := (Below.refl _ _).drew
            generalize inB ns x.v = ib at HAV HIN
            clear hst
            go_wp2_with fail
            go_region_held3 (fun u => (Below W5.heap.size W5 u) ∧ u.cell? ⟨g, off + bs.length * 5, none⟩ = some (.string x.v) ∧ u.cell? ⟨bA, 0, none⟩ = some (.string pr) ∧ u.cell? ⟨bA, 1, none⟩ = some (.slice va ts.length vc))
              (first
                | (with_reducible assumption)
                | (with_reducible exact ⟨hB0, (HSC.out _ hB0).1⟩)
                | (with_reducible exact ⟨(by assumption), (HSC.out _ (by assumption)).1⟩))
              (first
                | (go_at_call 18; (with_reducible refine Calls.mono (HAV.out _ hB0) ?_); rintro ee w6 ⟨sv6, rfl, b6, hin6⟩; have b6' : Below W5.heap.size W5 w6 := next_ofT hB0 b6; have HIC := Lib.hid hin6; clear hin6)
                | (go_at_call 17; (with_reducible refine Calls.mono HIC.out ?_); rintro ee w7 ⟨rfl, rfl⟩)
                | fail)
            have HS6 := Lib.hid (HS5.out.next b6')
            have HT6 := Lib.hid (HT5.out.keep b6')
            have hl1 : (bs ++ [(⟨x.v, nt⟩ : P)]).length = bs.length + 1 := by simp
            have HL1 := Lib.hid hl1
            clear hl1 HSC HAV hB0 b6 HIC HT5 HS5
            cases ib
            · have HIN2 : Hid (idleP ns (s.take (bs.length + 1)) = is ++ [x]) := HIN.out
              obtain ⟨z0, z1, z2, z3, z4⟩ := HZX.out _ HS6.out.bel
              have HU7 : Hid (TwS W2 (bs ++ [⟨x.v, nt⟩]) is a5 c5 b2 c2 (w7.alloc (.cells #[.string x.v, .string x.t.v, .int .i8 x.t.a.k, .int .i64 x.t.a.n, .string x.t.a.s] 52))) := HT6.out.keep (belowA _)
              have HLO := Lib.hid (lp_one w7 x HXW.out)
              clear HIN b6'
              go_wp2_with (at_builtin; refine wpList_appL rfl (.tmp 70) (.tmp 75) 36 52 rfl Tryz.underlying36 hi0 hz0 hz1 hz2 rfl (by decide) (b := W2.heap.size) (v := .slice b2 is.length c2) (n := is.length) (xs := is.flatMap P.cells) (a := some ⟨w7.heap.size, 0, none⟩) (c := 1) (m := 1) (ys := [x].flatMap P.cells) (by simp [Act.eval, Act.put]) HU7.out.o2 (by simp [Act.eval, Act.put]) HLO.out.lies rfl (pcells_one [x]) (by unfold maxLen; omega) (by omega) HU7.out.bel.size ?_; intro v8 w8 own8 hg8 hl8; obtain ⟨a8, c8, rfl, hT8⟩ := HU7.out.push2 [x] (v' := v8) own8 hg8 hl8; have HT8 := Lib.hid hT8; clear own8 hg8 hl8 hT8)
              go_roundw
              case rel => exact ⟨bs.length + 1, bs ++ [⟨x.v, nt⟩], is ++ [x], a5, c5, a8, c8, by omega, by rw [HL1.out], by rw [List.length_append]; rfl, by go_num, HBN, HIN2.out.symm, HT8⟩
              case measure => simp [intOf]; omega
            · have HIN2 : Hid (idleP ns (s.take (bs.length + 1)) = is) := by show _ = _; rw [HIN.out]; simp
              clear HIN
              go_wp2
              go_roundw
              case rel => exact ⟨bs.length + 1, bs ++ [⟨x.v, nt⟩], is, a5, c5, b2, c2, by omega, by rw [HL1.out], rfl, by go_num, HBN, HIN2.out.symm, HT6⟩
              case measure => simp [intOf]; omega
        · obtain rfl : k = s.length := by omega
          rw [List.take_length] at HBE HIE
          have hbk : bs.length = s.length := by rw [HBE.out, List.length_map]
          have hik : is.length ≤ s.length := by rw [HIE.out]; exact idle_len _ _
          have HTL := Lib.hid (HLT.out _ HS3.out.bel)
          have HWB : Hid (∀ q ∈ bothP s t, q.wf) := bothP_wf HWS.out HWT.out
          have HBO : Hid (bs ++ t = bothP s t) := by show _ = _; rw [HBE.out]; rfl
          have HWI : Hid (∀ q ∈ is, q.wf) := fun q hq => by rw [HIE.out] at hq; exact HWS.out q (List.mem_filter.1 hq).1
          have HID : Hid (ts.map (putT is) = ts) := by show _ = _; rw [HIE.out, HNS.out]; exact putT_idle s ts
          have HBK := Lib.hid hbk
          have hst2 : s.length + t.length ≤ 1048576 := HST.out
          have hbm : bs.length + t.length ≤ 1048576 := by omega
          have HIK := Lib.hid hik
          clear hbk HBE HIE hik
          go_wp2_with (at_builtin; refine wpList_appL rfl (.tmp 77) (.tmp 78) 36 52 rfl Tryz.underlying36 hi0 hz0 hz1 hz2 rfl (by decide) (b := W2.heap.size) (v := .slice b1 bs.length c1) (n := bs.length) (xs := bs.flatMap P.cells) (a := ta) (c := tc) (m := t.length) (ys := t.flatMap P.cells) (by simp [Act.eval, Act.put]) HTS.out.o1 (by simp [Act.eval, Act.put]) HTL.out.lies (flat_len P.cells 5 (fun _ => rfl) t) (pcells_one t) (by unfold maxLen; omega) (by omega) HTS.out.bel.size ?_; intro v8 w8 own8 hg8 hl8; obtain ⟨a8, c8, rfl, hT8⟩ := HTS.out.push1 t (v' := v8) own8 hg8 hl8; have HT8 := Lib.hid hT8; clear own8 hg8 hl8 hT8 HTS HTL)
          as_aux_lemma =>
          have hl8 : (bs ++ t).length = bs.length + t.length := by simp
          rw [← hl8]
          have HL8 := Lib.hid hl8
          have hb8 : (bs ++ t).length ≤ 1048576 := by rw [hl8]; exact hbm
          have hB8 : (bothP s t).length ≤ 1048576 := by rw [← HBO.out]; exact hb8
          clear hl8 hbm hb8
          rw [HBO.out] at HT8 ⊢
          have HS8 := Lib.hid (HS2.out.next HT8.out.bel)
          have HPB : Hid (∀ u, Below w8.heap.size w8 u → Lp u (.slice a8 (bothP s t).length c8) (bothP s t)) := fun u hu => (HT8.out.keep hu).lp1 HWB.out
          have HPI : Hid (∀ u, Below w8.heap.size w8 u → Lp u (.slice b2 is.length c2) is) := fun u hu => (HT8.out.keep hu).lp2 HWI.out
          have HBA : Hid (∀ u, Below w8.heap.size w8 u → Below w.heap.size w u) := fun u hu => (HS8.out.next hu).bel
          have hil : is.length ≤ 1048576 := by have := HIK.out; omega
          have hsl : s.length ≤ 1048576 := by omega
          have htl2 : t.length ≤ 1048576 := by omega
          have HK1 : Hid (∀ u, Below w8.heap.size w8 u → Calls Tryz.prog 16 #[.slice sa s.length sc, .agg #[.string pr, .slice va ts.length vc]] u fun e w' => ∃ a c, e = .returned (.agg #[.string pr, .slice a ts.length c]) ∧ Below u.heap.size u w' ∧ Calls Tryz.prog 16 #[.slice ta t.length tc, .agg #[.string pr, .slice a ts.length c]] w' fun e w'' => ∃ a c, e = .returned (.agg #[.string pr, .slice a ts.length c]) ∧ Below w'.heap.size w' w'' ∧ Lt w'' (.slice a ts.length c) (ts.map (putT (bothP s t)))) := fun u hu => by
            refine (apply_all _ s pr _ ts u (HLS.out _ (HBA.out u hu)) hsl (HLA.out _ (HBA.out u hu)) htl).mono ?_
            rintro e w' ⟨a, c, h1, h2, h3⟩
            refine ⟨a, c, h1, h3, ?_⟩
            have h4 := apply_all _ t pr _ (ts.map (res (fstP s))) w' (HLT.out _ (HBA.out _ (next_ofT hu h3))) htl2 h2 (by rw [List.length_map]; exact htl)
            rw [List.length_map] at h4
            refine h4.mono ?_
            rintro e w'' ⟨a2, c2, k1, k2, k3⟩
            refine ⟨a2, c2, k1, k3, ?_⟩
            rw [putT_fun, putT_fun, List.map_map] at k2
            rw [show ts.map (putT (bothP s t)) = ts.map (putT t ∘ putT s) from List.map_congr_left fun x _ => (putT_both s t x).symm]
            exact k2
          have HK2 : Hid (∀ u, Below w8.heap.size w8 u → Calls Tryz.prog 16 #[.slice a8 (bothP s t).length c8, .agg #[.string pr, .slice va ts.length vc]] u fun e w' => ∃ a c, e = .returned (.agg #[.string pr, .slice a ts.length c]) ∧ Below u.heap.size u w' ∧ Lt w' (.slice a ts.length c) (ts.map (putT (bothP s t)))) := fun u hu => by
            refine (apply_all _ (bothP s t) pr _ ts u (HPB.out u hu) hB8 (HLA.out _ (HBA.out u hu)) htl).mono ?_
            rintro e w' ⟨a, c, h1, h2, h3⟩
            rw [putT_fun] at h2
            exact ⟨a, c, h1, h3, h2⟩
          have HK3 : Hid (∀ u, Below w8.heap.size w8 u → Calls Tryz.prog 16 #[.slice b2 is.length c2, .agg #[.string pr, .slice va ts.length vc]] u fun e w' => ∃ a c, e = .returned (.agg #[.string pr, .slice a ts.length c]) ∧ Below u.heap.size u w' ∧ Lt w' (.slice a ts.length c) ts) := fun u hu => by
            refine (apply_all _ is pr _ ts u (HPI.out u hu) hil (HLA.out _ (HBA.out u hu)) htl).mono ?_
            rintro e w' ⟨a, c, h1, h2, h3⟩
            rw [putT_fun, HID.out] at h2
            exact ⟨a, c, h1, h3, h2⟩
          have HLO : Hid (∀ u, Below w8.heap.size w8 u → Lt u (.slice va ts.length vc) ts) := fun u hu => HLA.out _ (HBA.out u hu)
          have hcs : ∀ u, Below w8.heap.size w8 u → u.cell? ⟨bA, 0, none⟩ = some (.string pr) ∧ u.cell? ⟨bA, 1, none⟩ = some (.slice va ts.length vc) := fun u hu => ⟨(HS8.out.next hu).a0, (HS8.out.next hu).a1⟩
          have HCS := Lib.hid hcs
          have hB0 : Below w8.heap.size w8 w8.drew := (Below.refl _ _).drew
          generalize ts.map (putT (bothP s t)) = us at HK1 HK2
          clear hcs
          go_wp2_with fail
          go_region_held3 (fun u => (Below w8.heap.size w8 u) ∧ u.cell? ⟨bA, 0, none⟩ = some (.string pr) ∧ u.cell? ⟨bA, 1, none⟩ = some (.slice va ts.length vc))
            (first
              | (with_reducible assumption)
              | (with_reducible exact ⟨hB0, HCS.out _ hB0⟩)
              | (with_reducible exact ⟨(by assumption), HCS.out _ (by assumption)⟩))
            (first
              | (go_at_call 16; (with_reducible refine Calls.mono (HK1.out _ hB0) ?_); rintro ee w10 ⟨a10, c10, rfl, b10, hn10⟩; have b10' : Below w8.heap.size w8 w10 := next_ofT hB0 b10; have HN1 := Lib.hid hn10; clear hn10)
              | (go_at_call 16; (with_reducible refine Calls.mono HN1.out ?_); rintro ee w11 ⟨a11, c11, rfl, b11, hl11⟩; have b11' : Below w8.heap.size w8 w11 := next_ofT b10' b11; have HL11 := Lib.hid hl11; clear hl11)
              | (go_at_call 16; (with_reducible refine Calls.mono (HK2.out _ b11') ?_); rintro ee w12 ⟨a12, c12, rfl, b12, hl12⟩; have b12' : Below w8.heap.size w8 w12 := next_ofT b11' b12; have HSA := Lib.hid (sameAtom_same pr us _ _ w12 (HL11.out.below b12) hl12); clear hl12)
              | (go_at_call 19; (with_reducible refine Calls.mono HSA.out ?_); rintro ee w13 ⟨rfl, b13⟩; have b13' : Below w8.heap.size w8 w13 := next_ofT b12' b13)
              | (go_at_call 16; (with_reducible refine Calls.mono (HK3.out _ b13') ?_); rintro ee w14 ⟨a14, c14, rfl, b14, hl14⟩; have b14' : Below w8.heap.size w8 w14 := next_ofT b13' b14; have HSB := Lib.hid (sameAtom_same pr ts _ _ w14 hl14 (HLO.out _ b14')); clear hl14)
              | (go_at_call 19; (with_reducible refine Calls.mono HSB.out ?_); rintro ee w15 ⟨rfl, b15⟩; have b15' : Below w8.heap.size w8 w15 := next_ofT b14' b15)
              | fail)
          as_aux_lemma =>
          have HSF := Lib.hid (HS8.out.next b15')
          have HPF : Hid (∀ u, Below w15.heap.size w15 u → Lp u (.slice a8 (bothP s t).length c8) (bothP s t)) := fun u hu => HPB.out u (next_ofT b15' hu)
          clear b10 b10' b11 b11' b12 b12' b13 b13' b14 b14' b15 b15' HK1 HK2 HK3 HN1 HL11 HSA HSB HLO HCS hB0 HPB HPI HBA HS8 HT8 HID HWI HWB HBO HIK HL8 HBK HS2 HS3
          have y0 := HSF.out.r0
          have y1 := HSF.out.r1
          have y2 := HSF.out.r2
          have HR1 := Lib.hid (applyRule_any (.slice sa s.length sc) s d r p w15 (HG.out _ HSF.out.bel).2 (HX.out _ HSF.out.bel) HSL.out (HLS.out _ HSF.out.bel) hsl)
          obtain ⟨ok1, hok1⟩ : ∃ ok1, okR s d r = ok1 := ⟨_, rfl⟩
          rw [hok1] at HR1
          have HO1 := Lib.hid hok1
          unfold R3.val at HR1
          clear hok1
          go_wp2_with fail
          refine HR1.out.mono ?_
          rintro e w16 ⟨x, xp, rfl, b16, hlx, hix⟩
          have hA := belowA (w := w16) (.cells #[.string x.pr, .slice xp.a x.hd.length xp.c, .slice xp.ba x.bd.length xp.bc] 25)
          have HB17 : Hid (Below w15.heap.size w15 (w16.alloc (.cells #[.string x.pr, .slice xp.a x.hd.length xp.c, .slice xp.ba x.bd.length xp.bc] 25))) := b16.trans (hA.mono b16.size)
          have HXX := Lib.hid (rl_new w16 #[.string x.pr, .slice xp.a x.hd.length xp.c, .slice xp.ba x.bd.length xp.bc] 25)
          have HIX := Lib.hid (hix.below hA)
          have HLX := Lib.hid hlx
          clear hA b16 hlx hix HR1 y0 y1 y2
          go_upto_region 20 with fail
          generalize w16.alloc (.cells #[.string x.pr, .slice xp.a x.hd.length xp.c, .slice xp.ba x.bd.length xp.bc] 25) = W17 at HB17 HXX HIX ⊢
          have HS17 := Lib.hid (HSF.out.next HB17.out)
          cases ok1
          · have hno : x.pr = noS := res_none HO1.out HLX.out
            have q0 := HXX.out.at (j := 0) rfl
            rw [hno] at q0
            have q0 : W17.cell? ⟨w16.heap.size, 0, none⟩ = some (.string ⟨#[]⟩) := q0
            have hE : errB false = 40 := rfl
            rw [hE]
            clear hno
            go_wp2
            go_ret
            exact ⟨rfl, HS17.out.bel⟩
          · as_aux_lemma =>
            have hE : errB true = 0 := rfl
            rw [hE]
            have HTW := Lib.hid (twice_ok (t := t) HO1.out HLX.out)
            have HSX : Hid (smallR d x) := by
              refine HLX.out.small ?_
              unfold resR
              rw [HO1.out]
              exact apR_small _ HSL.out
            have q0 := HXX.out.at (j := 0) rfl
            have q1 := HXX.out.at (j := 1) rfl
            have q2 := HXX.out.at (j := 2) rfl
            have HR2 := Lib.hid (applyRule_any (.slice ta t.length tc) t d x xp W17 (HG.out _ HS17.out.bel).2 HIX.out HSX.out (HLT.out _ HS17.out.bel) htl2)
            rw [HTW.out.1] at HR2
            obtain ⟨ok2, hok2⟩ : ∃ ok2, okR (bothP s t) d r = ok2 := ⟨_, rfl⟩
            rw [hok2] at HR2
            have HO2 := Lib.hid hok2
            unfold R3.val at HR2
            clear hok2
            go_wp2_with fail
            refine HR2.out.mono ?_
            rintro e w18 ⟨y, yp, rfl, b18, hly, hiy⟩
            have hA := belowA (w := w18) (.cells #[.string y.pr, .slice yp.a y.hd.length yp.c, .slice yp.ba y.bd.length yp.bc] 25)
            have HB19 : Hid (Below W17.heap.size W17 (w18.alloc (.cells #[.string y.pr, .slice yp.a y.hd.length yp.c, .slice yp.ba y.bd.length yp.bc] 25))) := b18.trans (hA.mono b18.size)
            have HYX := Lib.hid (rl_new w18 #[.string y.pr, .slice yp.a y.hd.length yp.c, .slice yp.ba y.bd.length yp.bc] 25)
            have HIY := Lib.hid (hiy.below hA)
            have HLY := Lib.hid hly
            clear hA b18 hly hiy HR2 q0 q1 q2 HIX HXX
            go_upto_region 23 with fail
            generalize w18.alloc (.cells #[.string y.pr, .slice yp.a y.hd.length yp.c, .slice yp.ba y.bd.length yp.bc] 25) = W19 at HB19 HYX HIY ⊢
            have HS19 := Lib.hid (HS17.out.next HB19.out)
            have y0 := HS19.out.r0
            have y1 := HS19.out.r1
            have y2 := HS19.out.r2
            have HR3 := Lib.hid (applyRule_any (.slice a8 (bothP s t).length c8) (bothP s t) d r p W19 (HG.out _ HS19.out.bel).2 (HX.out _ HS19.out.bel) HSL.out (HPF.out _ (next_ofT HB17.out HB19.out)) hB8)
            rw [HO2.out] at HR3
            unfold R3.val at HR3
            go_wp2_with fail
            refine HR3.out.mono ?_
            rintro e w20 ⟨z, zp, rfl, b20, hlz, hiz⟩
            have hA := belowA (w := w20) (.cells #[.string z.pr, .slice zp.a z.hd.length zp.c, .slice zp.ba z.bd.length zp.bc] 25)
            have HB21 : Hid (Below W19.heap.size W19 (w20.alloc (.cells #[.string z.pr, .slice zp.a z.hd.length zp.c, .slice zp.ba z.bd.length zp.bc] 25))) := b20.trans (hA.mono b20.size)
            have HZX := Lib.hid (rl_new w20 #[.string z.pr, .slice zp.a z.hd.length zp.c, .slice zp.ba z.bd.length zp.bc] 25)
            have HIZ := Lib.hid (hiz.below hA)
            have HLZ := Lib.hid hlz
            clear hA b20 hlz hiz HR3 y0 y1 y2
            go_upto_region 24 with fail
            generalize w20.alloc (.cells #[.string z.pr, .slice zp.a z.hd.length zp.c, .slice zp.ba z.bd.length zp.bc] 25) = W21 at HB21 HZX HIZ ⊢
            have HS21 := Lib.hid (HS19.out.next HB21.out)
            have HIY2 := Lib.hid (HIY.out.below HB21.out)
            have HYX2 := Lib.hid (HYX.out.below HB21.out)
            have dec : Dec := ⟨Classical.propDecidable⟩
            have HSM : Hid (sameR dec y z = true) := sameR_t (by
              have h1 := HTW.out.2.trans HLY.out
              exact ⟨h1.pr.trans HLZ.out.pr.symm, h1.hd.trans HLZ.out.hd.symm, h1.map.trans HLZ.out.map.symm⟩)
            have u0 := HYX2.out.at (j := 0) rfl
            have u1 := HYX2.out.at (j := 1) rfl
            have u2 := HYX2.out.at (j := 2) rfl
            have v0 := HZX.out.at (j := 0) rfl
            have v1 := HZX.out.at (j := 1) rfl
            have v2 := HZX.out.at (j := 2) rfl
            have HSR := Lib.hid (sameRule_any (dec := dec) d y z yp zp W21 HIY2.out HIZ.out)
            rw [HSM.out] at HSR
            unfold R3.val at HSR
            cases ok2
            · have hE2 : errB false = 40 := rfl
              rw [hE2]
              go_wp2_with fail
              refine HSR.out.mono ?_
              rintro e w22 ⟨rfl, b22⟩
              have HSE := Lib.hid (HS21.out.next b22)
              clear b22 u0 u1 u2 v0 v1 v2
              go_wp2
              go_ret
              exact ⟨rfl, HSE.out.bel⟩
            · have hE2 : errB true = 0 := rfl
              have HRY : Hid (ruleB d y = true) := res_rule (t := t) (d := d) (x := x) (by rw [HTW.out.1, HO2.out]) HLY.out
              have HSY : Hid (smallR d y) := by
                refine HLY.out.small ?_
                unfold resR
                rw [HTW.out.1, HO2.out]
                exact apR_small _ HSX.out
              go_wp2_with fail
              refine HSR.out.mono ?_
              rintro e w22 ⟨rfl, b22⟩
              have HSE := Lib.hid (HS21.out.next b22)
              have k0 := (HYX2.out.below b22).at (j := 0) rfl
              have k1 := (HYX2.out.below b22).at (j := 1) rfl
              have k2 := (HYX2.out.below b22).at (j := 2) rfl
              have HCR := Lib.hid (rcheckRule_any d y yp w22 (HIY2.out.below b22) HSY.out)
              rw [HRY.out] at HCR
              unfold R3.val at HCR
              rw [hE2] at HCR
              clear b22 u0 u1 u2 v0 v1 v2
              go_wp2_with fail
              refine HCR.out.mono ?_
              rintro e w23 ⟨rfl, b23⟩
              have HSG := Lib.hid (HSE.out.next b23)
              clear b23 k0 k1 k2
              go_wp2
              go_ret
              exact ⟨rfl, HSG.out.bel⟩
    · go_wp2
      go_ret
      exact ⟨rfl, HS1.out.bel⟩
end Go.Proofs.YtlmpdidecdkncaaGreatDoor
