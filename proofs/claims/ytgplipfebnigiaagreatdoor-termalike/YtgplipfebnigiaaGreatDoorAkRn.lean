import Derived.Test.YtgplipfebnigiaaGreatDoorAkM
namespace Go.Proofs.YtgplipfebnigiaaGreatDoor
open Go.RowKit Go.Maps
set_option linter.unusedVariables false
set_option linter.unusedSimpArgs false
attribute [local go_sem ↓] Go.wp_at_zero Go.wp_at_succ

/-- by how much renamed turns -/
def rnC (b : Int) (n : Nat) : Nat := (b.tmod n + n).toNat
theorem rn_range (b : Int) {n : Nat} (h : 0 < n) : -(n : Int) < b.tmod n ∧ b.tmod n < n := by
  have h1 := Int.tmod_lt_of_pos b (b := (n : Int)) (by omega)
  have h2 := Int.lt_tmod_of_pos b (b := (n : Int)) (by omega)
  omega
theorem rn_mod (b : Int) {n k : Nat} (h : k < n) : ((k : Int) + b.tmod n + n).tmod n = (((k + rnC b n) % n : Nat) : Int) := by
  have hr := rn_range b (n := n) (by omega)
  have e : (k : Int) + b.tmod n + n = ((k + rnC b n : Nat) : Int) := by unfold rnC; omega
  rw [e, Int.tmod_eq_emod_of_nonneg (by omega)]
  exact (Int.natCast_emod _ _).symm
theorem rnP_cells (vs : List ByteArray) (c k : Nat) : (rnP vs c (k + 1)).flatMap P.cells = (rnP vs c k).flatMap P.cells ++ [.string (atS vs k), .string (atS vs ((k + c) % vs.length)), .int .i8 0, .int .i64 0, .string ⟨#[]⟩] := by
  rw [rnP_succ, List.flatMap_append]
  rfl
theorem rnP_wf {vs : List ByteArray} {c k : Nat} (hv : ∀ n ∈ vs, n.size ≤ maxLen) (hk : k ≤ vs.length) : ∀ p ∈ rnP vs c k, p.wf := by
  intro p hp
  unfold rnP at hp
  obtain ⟨i, hi, rfl⟩ := List.mem_map.1 hp
  have hi := List.mem_range.1 hi
  have hm : (i + c) % vs.length < vs.length := Nat.mod_lt _ (by omega)
  exact ⟨by show (atS vs i).size ≤ _; rw [atS_eq (by omega)]; exact hv _ (List.getElem_mem _), by show (atS vs _).size ≤ _; rw [atS_eq hm]; exact hv _ (List.getElem_mem _), V0.ok⟩
theorem avariable_any (s : ByteArray) (w : World) : Calls Tryz.prog 19 #[.string s] w fun e w' => e = .returned (.agg #[.string s, .int .i8 0, .int .i64 0, .string ⟨#[]⟩]) ∧ Below w.heap.size w w' := by
  go_enter Tryz.func19, Tryz.ntmps19
  go_wp2
  exact bodyPost_ret (v := .agg #[.string s, .int .i8 0, .int .i64 0, .string ⟨#[]⟩]) (by simp [results, Tryz.results19, go_sem]) rfl ⟨rfl, (Below.refl _ _).alloc (Nat.le_refl _) _⟩
set_option maxHeartbeats 3200000 in
set_option maxRecDepth 100000 in
theorem renamed_any (d : Nat) (r : R3) (p : RP) (b : Int) (vs : List ByteArray) (w : World) (hvs : vsT [] (termsR d r) = vs) (h24 : vs.length ≤ 24) (hR : RIs w d r p) (hs : smallR d r) :
    Calls Tryz.prog 17 #[r.val p, .int .i64 b] w fun e w' => ∃ sv, e = .returned sv ∧ Below w.heap.size w w' ∧ Lp w' sv (rnP vs (rnC b vs.length) vs.length) := by
  obtain ⟨i0, hi0, hz0, hz1, hz2⟩ := info_parts infoCnP
  have HSZ : Hid (∀ n ∈ vs, n.size ≤ maxLen) := by show ∀ n ∈ vs, _; rw [← hvs]; exact vsT_size hR
  have HB0 := Lib.hid (belowA (w := w) (.cells #[.string r.pr, .slice p.a r.hd.length p.c, .slice p.ba r.bd.length p.bc] 25))
  have HR0 := Lib.hid (rl_new w #[.string r.pr, .slice p.a r.hd.length p.c, .slice p.ba r.bd.length p.bc] 25)
  have HRV := Lib.hid (rruleVars_any d r p _ (hR.below HB0.out) hs.terms)
  rw [hvs] at HRV
  unfold R3.val at HRV ⊢
  clear hvs hR hs
  go_enter Tryz.func17, Tryz.ntmps17
  go_upto_region 1 with fail
  generalize w.alloc (.cells #[.string r.pr, .slice p.a r.hd.length p.c, .slice p.ba r.bd.length p.bc] 25) = W at HB0 HR0 HRV ⊢
  have y0 := HR0.out.at (j := 0) rfl
  have y1 := HR0.out.at (j := 1) rfl
  have y2 := HR0.out.at (j := 2) rfl
  go_wp2_with fail
  refine HRV.out.mono ?_
  rintro e w2 ⟨sv, rfl, hls, b2⟩
  obtain ⟨a0, c0, rfl, hc1, hc2, hat⟩ := ls_str hls
  have HAT := Lib.hid hat
  have HB2 := Lib.hid (HB0.out.trans (b2.mono HB0.out.size))
  clear hat hls hc1 hc2 b2 HRV HR0 HB0 y0 y1 y2
  go_wp2
  go_loopw [6, 7] (fun v i wr => ∃ (k : Nat) (a' : Option Addr) (c' : Nat), k ≤ vs.length ∧ i = .int .i64 k ∧ v = .slice a' k c' ∧ Hid (wr.ownsRow w2.heap.size 49 5 (.slice a' k c') k ((rnP vs (rnC b vs.length) k).flatMap P.cells)) ∧ Hid (Below w2.heap.size w2 wr)) (fun _ i _ => vs.length - (intOf i).toNat)
  case atStart => exact ⟨0, none, 0, Nat.zero_le _, rfl, rfl, World.ownsRow_nil _ _ _ _, Below.refl _ _⟩
  case round =>
    obtain ⟨k, a', c', hk, rfl, rfl, HO, HB⟩ := hrel
    by_cases hlt : k < vs.length
    · have hlt' : (k : Int) < (vs.length : Int) := by omega
      have hk0 : (0 : Int) ≤ (k : Int) := by omega
      have hr := rn_range b (n := vs.length) (by omega)
      have hmod := rn_mod b hlt
      have hm : (k + rnC b vs.length) % vs.length < vs.length := Nat.mod_lt _ (by omega)
      have HTK := Lib.hid (rnP_cells vs (rnC b vs.length) k)
      obtain ⟨g, off, rfl, hg, hT⟩ := HAT.out (by omega)
      have HX : Hid (∀ u, Below w2.heap.size w2 u → u.cell? ⟨g, off + k, none⟩ = some (.string (atS vs k))) := fun u hu => by rw [hu.cell (p := ⟨g, off + k, none⟩) hg]; exact hT k hlt
      have HX2 : Hid (∀ u, Below w2.heap.size w2 u → u.cell? ⟨g, off + (k + rnC b vs.length) % vs.length, none⟩ = some (.string (atS vs ((k + rnC b vs.length) % vs.length)))) := fun u hu => by rw [hu.cell (p := ⟨g, off + (k + rnC b vs.length) % vs.length, none⟩) hg]; exact hT _ hm
      generalize (k + rnC b vs.length) % vs.length = m at hmod hm HTK HX2
      have hkt : (k : Int).tmod (vs.length : Int) = (k : Int) := by rw [Int.tmod_eq_emod_of_nonneg (by omega), Int.emod_eq_of_lt (by omega) (by omega)]
      have hn0 : ¬ (vs.length : Int) = 0 := by omega
      obtain ⟨rr, hrr⟩ : ∃ rr, b.tmod (vs.length : Int) = rr := ⟨_, rfl⟩
      rw [hrr] at hr hmod
      have w1 : IntKind.i64.wrap ((k : Int) + rr) = (k : Int) + rr := by rw [IntKind.wrap_i64]; omega
      have w3 : IntKind.i64.wrap ((k : Int) + rr + (vs.length : Int)) = (k : Int) + rr + (vs.length : Int) := by rw [IntKind.wrap_i64]; omega
      have hm' : (m : Int) < (vs.length : Int) := by omega
      have hm0 : (0 : Int) ≤ (m : Int) := by omega
      have x0 := HX.out wr HB.out
      have z0 := HX2.out wr HB.out
      have HVR : Hid (∀ u, Calls Tryz.prog 19 #[.string (atS vs m)] u fun e w' => e = .returned (.agg #[.string (atS vs m), .int .i8 0, .int .i64 0, .string ⟨#[]⟩]) ∧ Below u.heap.size u w') := fun u => avariable_any _ u
      generalize atS vs k = nm at x0 HX HTK
      generalize atS vs m = C at z0 HX2 HTK HVR
      have HR := Lib.hid hr
      clear hT hr
      go_wp2_with fail
      go_quiet (fail)
      clear hkt hn0 hrr hmod w1 w3
      go_upto_region 7 with fail
      have HB7 := Lib.hid (below_drewN HB.out nq)
      have HO7 := Lib.hid (own_below HO.out (below_drewN (Below.refl wr.heap.size wr) nq))
      generalize wr.drewN nq = W7 at HB7 HO7 ⊢
      clear x0 z0 HO HB
      have x0 := HX.out W7 HB7.out
      have z0 := HX2.out W7 HB7.out
      go_region_law (first
        | (refine step_call rfl 19 Tryz.func19 (by kernel_rfl) (by kernel_rfl) #[.tmp 40] _ rfl #[.string C] (by simp [Act.eval, Act.put]) (HVR.out W7.drew) ?_
           rintro ee w3 ⟨rfl, b3⟩
           refine ⟨_, rfl, ?_⟩
           have hb3 : Below W7.heap.size W7 w3 := (Below.refl W7.heap.size W7).drew.trans b3
           have HB3 := Lib.hid (HB7.out.trans (hb3.mono HB7.out.size))
           have x3 := HX.out w3 HB3.out
           have HO3 := Lib.hid (own_below (own_below HO7.out hb3) (belowA (w := w3) (.cells #[.string nm, .string C, .int .i8 0, .int .i64 0, .string ⟨#[]⟩] 49)))
           have HC := Lib.hid (lit_news w3 #[.string nm, .string C, .int .i8 0, .int .i64 0, .string ⟨#[]⟩] 49)
           have HBA := Lib.hid (HB3.out.trans ((belowA (w := w3) (.cells #[.string nm, .string C, .int .i8 0, .int .i64 0, .string ⟨#[]⟩] 49)).mono HB3.out.size))
           clear hb3 b3)
        | (refine step_append_own rfl (.tmp 32) (.tmp 43) 37 rfl 49 i0 _ 5 64 Tryz.underlying37 hi0 hz0 hz1 hz2 rfl (by decide) w2.heap.size (.slice a' k c') k _ (by simp [Act.eval, Act.put]) HO3.out ⟨w3.heap.size, 0, none⟩ 1 1 [.string nm, .string C, .int .i8 0, .int .i64 0, .string ⟨#[]⟩] (by simp [Act.eval, Act.put]) rfl HC.out (by simp [Value.oneCell']) (by unfold maxLen; omega) (by omega) HBA.out.size ?_
           intro v' w4 hown' hgrow hloc
           obtain ⟨a2, c2, rfl, _⟩ := own_form hown'
           have HB4 : Hid (Below w2.heap.size w2 w4) := HBA.out.grown hgrow HBA.out.size (fun j hj => (HO3.out.lt j hj).1)
           have HO4 : Hid (w4.ownsRow w2.heap.size 49 5 (.slice a2 (k + 1) c2) (k + 1) ((rnP vs (rnC b vs.length) (k + 1)).flatMap P.cells)) := by
             show World.ownsRow _ _ _ _ _ _ _
             rw [HTK.out]
             exact hown'
           clear hown' hgrow hloc))
      all_goals
        go_wp2
        go_roundw
        case rel => exact ⟨k + 1, a2, c2, by omega, by go_num, rfl, HO4, HB4⟩
        case measure => simp [intOf]; omega
    · obtain rfl : k = vs.length := by omega
      have HLP : Hid (Lp wr (.slice a' vs.length c') (rnP vs (rnC b vs.length) vs.length)) := ⟨by rw [rnP_len]; exact ls_own HO.out, rnP_wf HSZ.out (Nat.le_refl _)⟩
      have HBF := Lib.hid (HB2.out.trans (HB.out.mono HB2.out.size))
      go_wp2
      go_ret
      exact ⟨_, rfl, HBF.out, HLP.out⟩
end Go.Proofs.YtgplipfebnigiaaGreatDoor
