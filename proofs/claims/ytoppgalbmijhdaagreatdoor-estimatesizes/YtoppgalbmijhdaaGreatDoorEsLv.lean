import Derived.Test.YtoppgalbmijhdaaGreatDoorEsSr
namespace Go.Proofs.YtoppgalbmijhdaaGreatDoor
open Go.RowKit Go.Maps Go.ChangeMaps
set_option linter.unusedVariables false
set_option linter.unusedSimpArgs false
attribute [local go_sem ↓] Go.wp_at_zero Go.wp_at_succ

/-! lives of pedigreelaw25 -/
theorem run_feq {a b : Nat} (h : (fD.order a b == some .eq) = true) (u : World) : (binOp .eql 57 (.float .f64 a) (.float .f64 b)).run Tryz.prog u = .ok (.bool true) u := by
  have h' : (FloatKind.f64.format.order a b == some .eq) = true := h
  simp [binOp, Op.floatCmp, h', go_sem]
def eS : ByteArray := ⟨#[101]⟩
def nV1 (n : Int) : V := ⟨1, n, noS⟩
def lk1 : Key := (eS, [nV1 1, nV1 2])
def lk2 : Key := (eS, [nV1 1, nV1 4])
theorem lk_told : Told [lk1, lk2] [lk1, lk2] := ⟨by
  refine List.pairwise_cons.2 ⟨fun k hk => ?_, List.pairwise_singleton _ _⟩
  rw [List.mem_singleton.1 hk]
  show ko lk1 lk2 < 0
  have : ko lk1 lk2 = -1 := by kernel_rfl
  omega, fun k => Iff.rfl⟩
theorem lk_takes : [lk1, lk2].filter (takesK eS 1) = [lk1, lk2] := by
  have h1 : takesK eS 1 lk1 = true := by kernel_rfl
  have h2 : takesK eS 1 lk2 = true := by kernel_rfl
  simp [h1, h2]
theorem lk_nums : [lk1, lk2].map (numAt 1) = [2, 4] := by decide
theorem lk_own : ownT eS [lk1, lk2] = [[nV1 1, nV1 2], [nV1 1, nV1 4]] := by decide
theorem lk_szs : Szs [lk1, lk2] [⟨eS, 2, [1, 2]⟩] := by
  refine ⟨List.pairwise_singleton _ _, fun p => ?_, fun z hz => ?_⟩
  · simp only [List.map_cons, List.map_nil, List.mem_singleton]
    constructor
    · rintro rfl
      exact ⟨_, List.mem_cons_self⟩
    · rintro ⟨t, ht⟩
      rcases List.mem_cons.1 ht with e | ht
      · exact congrArg Prod.fst e
      · exact congrArg Prod.fst (List.mem_singleton.1 ht)
  · rw [List.mem_singleton.1 hz]
    show SzOk (ownT eS [lk1, lk2]) 2 [1, 2]
    rw [lk_own]
    refine ⟨⟨[[nV1 1, nV1 2], [nV1 1, nV1 4]], by decide, fun x => Iff.rfl, rfl⟩, fun c => ?_, fun c d hd => ?_⟩
    · simp
    · match c, hd with
      | 0, hd =>
        obtain rfl : 1 = d := by simpa using hd
        exact ⟨[nV1 1], by decide, fun x => by simp [colAt], rfl⟩
      | 1, hd =>
        obtain rfl : 2 = d := by simpa using hd
        exact ⟨[nV1 2, nV1 4], by decide, fun x => by simp [colAt], rfl⟩
set_option maxHeartbeats 1600000 in
theorem num_any (n : Int) (w : World) : Calls Tryz.prog 23 #[.int .i64 n] w fun e w' => e = .returned (.agg #[.int .i8 1, .int .i64 n, .string ⟨#[]⟩]) ∧ Below w.heap.size w w' := by
  go_enter Tryz.func23, Tryz.ntmps23
  go_wp2
  exact bodyPost_ret (rl_results Tryz.results23 (v := .agg #[.int .i8 1, .int .i64 n, .string ⟨#[]⟩]) rfl (run_loadVar_mid _ _ 0 55 [.int .i8 1, .int .i64 n, .string ⟨#[]⟩] _ (rl_new w #[.int .i8 1, .int .i64 n, .string ⟨#[]⟩] 55).range Tryz.underlying55 rfl (by kernel_rfl))) rfl ⟨rfl, belowA _⟩
/-- a list laid by a call in one piece -/
theorem ls_rl {w : World} {g n : Nat} {t : TypeId} {xs : List Value} (h : RL w g t xs) (hn : n ≤ maxLen) : Ls w (.slice (some ⟨g, 0, none⟩) n n) n xs :=
  ⟨hn, _, n, rfl, Nat.le_refl _, hn, fun _ => ⟨g, 0, rfl, World.rowIs.lt h, fun i hi => h.range i _ (List.getElem?_eq_getElem hi)⟩⟩
theorem nV1_wf {n : Int} (h : (Lit.int .i64 n).wf = true) : (nV1 n).wf := ⟨by show (Lit.int .i8 1).wf = true; decide, h, by show noS.size ≤ maxLen; decide⟩
def lx (a b : Int) (g : Nat) : XF := ⟨eS, [nV1 a, nV1 b], some ⟨g, 0, none⟩, 2⟩
theorem lx_is {w : World} {a b : Int} {g : Nat} (h : RL w g 55 [.int .i8 1, .int .i64 a, .string ⟨#[]⟩, .int .i8 1, .int .i64 b, .string ⟨#[]⟩]) (ha : (Lit.int .i64 a).wf = true) (hb : (Lit.int .i64 b).wf = true) : FIs w (lx a b g) := by
  refine ⟨by show eS.size ≤ maxLen; decide, by show 2 ≤ _; omega, ⟨ls_rl (xs := [nV1 a, nV1 b].flatMap V.cells) (n := 2) h (by decide), fun v hv => ?_⟩⟩
  rcases List.mem_cons.1 hv with rfl | hv
  · exact nV1_wf ha
  · rw [List.mem_singleton.1 hv]
    exact nV1_wf hb
set_option maxHeartbeats 6400000 in
theorem lives25_any (w : World) : Calls Tryz.prog 11 #[] w fun e w' => e = .returned (.bool true) ∧ Below w.heap.size w w' := by
  go_enter Tryz.func11, Tryz.ntmps11
  go_wp2_with fail
  refine (num_any 1 _).mono ?_
  rintro e w1 ⟨rfl, b1⟩
  go_wp2_with fail
  refine (num_any 2 _).mono ?_
  rintro e w2 ⟨rfl, b2⟩
  have HR1 := Lib.hid (rl_new w2 #[.int .i8 1, .int .i64 1, .string ⟨#[]⟩, .int .i8 1, .int .i64 2, .string ⟨#[]⟩] 55)
  have HB2 := Lib.hid ((b1.trans (b2.mono b1.size)).trans ((belowA (w := w2) (.cells #[.int .i8 1, .int .i64 1, .string ⟨#[]⟩, .int .i8 1, .int .i64 2, .string ⟨#[]⟩] 55)).mono (b1.trans (b2.mono b1.size)).size))
  clear b1 b2
  go_wp2_with fail
  refine (num_any 1 _).mono ?_
  rintro e w3 ⟨rfl, b3⟩
  go_wp2_with fail
  refine (num_any 4 _).mono ?_
  rintro e w4 ⟨rfl, b4⟩
  have HR1 := Lib.hid ((HR1.out.below b3).below b4)
  have HB4 := Lib.hid ((HB2.out.trans (b3.mono HB2.out.size)).trans (b4.mono (HB2.out.trans (b3.mono HB2.out.size)).size))
  generalize w2.heap.size = g1 at HR1 ⊢
  have hA := belowA (w := w4) (.cells #[.int .i8 1, .int .i64 1, .string ⟨#[]⟩, .int .i8 1, .int .i64 4, .string ⟨#[]⟩] 55)
  have HR2 := Lib.hid (rl_new w4 #[.int .i8 1, .int .i64 1, .string ⟨#[]⟩, .int .i8 1, .int .i64 4, .string ⟨#[]⟩] 55)
  have HR3 := Lib.hid (rl_new (w4.alloc (.cells #[.int .i8 1, .int .i64 1, .string ⟨#[]⟩, .int .i8 1, .int .i64 4, .string ⟨#[]⟩] 55)) #[.string ⟨#[101]⟩, .slice (some ⟨g1, 0, none⟩) 2 2, .string ⟨#[101]⟩, .slice (some ⟨w4.heap.size, 0, none⟩) 2 2] 31)
  have hA3 := belowA (w := w4.alloc (.cells #[.int .i8 1, .int .i64 1, .string ⟨#[]⟩, .int .i8 1, .int .i64 4, .string ⟨#[]⟩] 55)) (.cells #[.string ⟨#[101]⟩, .slice (some ⟨g1, 0, none⟩) 2 2, .string ⟨#[101]⟩, .slice (some ⟨w4.heap.size, 0, none⟩) 2 2] 31)
  have hLf : Lf ((w4.alloc (.cells #[.int .i8 1, .int .i64 1, .string ⟨#[]⟩, .int .i8 1, .int .i64 4, .string ⟨#[]⟩] 55)).alloc (.cells #[.string ⟨#[101]⟩, .slice (some ⟨g1, 0, none⟩) 2 2, .string ⟨#[101]⟩, .slice (some ⟨w4.heap.size, 0, none⟩) 2 2] 31)) (.slice (some ⟨w4.heap.size + 1, 0, none⟩) 2 2) [lx 1 2 g1, lx 1 4 w4.heap.size] := by
    have h3 := HR3.out
    rw [World.size_alloc] at h3
    refine ⟨ls_rl (xs := [lx 1 2 g1, lx 1 4 w4.heap.size].flatMap XF.cells) (n := 2) h3 (by decide), fun i hi => ?_⟩
    match i, hi with
    | 0, _ => exact lx_is ((HR1.out.below hA).below hA3) (by decide) (by decide)
    | 1, _ => exact lx_is (HR2.out.below hA3) (by decide) (by decide)
  have HLF := Lib.hid hLf
  have HB5 := Lib.hid ((HB4.out.trans (hA.mono HB4.out.size)).trans (hA3.mono (HB4.out.trans (hA.mono HB4.out.size)).size))
  have hKS : [lx 1 2 g1, lx 1 4 w4.heap.size].map XF.key = [lk1, lk2] := rfl
  have HKS := Lib.hid hKS
  have hSM : ∀ y ∈ [lx 1 2 g1, lx 1 4 w4.heap.size], y.vs.length ≤ 1048576 := fun y hy => by
    rcases List.mem_cons.1 hy with rfl | hy
    · show 2 ≤ _; omega
    · rw [List.mem_singleton.1 hy]; show 2 ≤ _; omega
  have HSM := Lib.hid hSM
  clear hA hA3 hLf hKS hSM b3 b4 HR1 HR2 HR3 HB2 HB4
  have HSZ := Lib.hid (sizes_any _ _ _ HLF.out (by show 2 ≤ _; omega) HSM.out)
  go_wp2_with fail
  refine HSZ.out.mono ?_
  rintro e w6 ⟨sa, sc, zs, rfl, b6, hzg, hszs⟩
  rw [HKS.out] at hszs
  have hzs := hszs.eq lk_szs (fun k => Iff.rfl)
  obtain ⟨z, rfl⟩ : ∃ z, zs = [z] := List.length_eq_one_iff.1 (by have := congrArg List.length hzs; simpa using this)
  have hz : z.sz = ⟨eS, 2, [1, 2]⟩ := by simpa using hzs
  obtain ⟨zp, zn, zd, za, zc⟩ := z
  unfold ZS.sz at hz
  injection hz with e1 e2 e3
  simp only at e1 e2 e3
  subst e1 e2 e3
  have HZG := Lib.hid hzg
  have HSH := Lib.hid (share_any _ _ eS 1 w6 (HLF.out.below b6) (by show 2 ≤ _; omega) HSM.out)
  have HB6 := Lib.hid (HB5.out.trans (b6.mono HB5.out.size))
  clear hszs hzs hzg b6 HSZ
  go_wp2_with fail
  refine HSH.out.mono ?_
  rintro e w7 ⟨ks, rfl, ht, b7⟩
  rw [HKS.out, lk_takes] at ht
  obtain rfl := ht.eq lk_told
  rw [lk_nums]
  have hfm : FloatKind.f64.format.order (shM [2, 4]) 4613937818241073152 = some .eq := by
    have := two_four.1
    rw [beq_iff_eq] at this
    exact this
  have hfs : FloatKind.f64.format.order (shS [2, 4]) 4607182418800017408 = some .eq := by
    have := two_four.2
    rw [beq_iff_eq] at this
    exact this
  generalize shM [2, 4] = M at hfm ⊢
  generalize shS [2, 4] = T at hfs ⊢
  have HB7 := Lib.hid (HB6.out.trans (b7.mono HB6.out.size))
  have hoz := HZG.out.own
  have hod := (HZG.out.ds _ List.mem_cons_self).1
  obtain ⟨gz, rfl⟩ : ∃ gz, sa = some ⟨gz, 0, none⟩ := by
    rcases hoz.2 with ⟨_, h0⟩ | ⟨gz, cap, cur, e, _⟩
    · cases h0
    · cases e
      exact ⟨_, rfl⟩
  obtain ⟨gd, rfl⟩ : ∃ gd, za = some ⟨gd, 0, none⟩ := by
    rcases hod.2 with ⟨_, h0⟩ | ⟨gz, cap, cur, e, _⟩
    · cases h0
    · cases e
      exact ⟨_, rfl⟩
  have q0 := own_cellI hoz (i := 0) (u := .string ⟨#[101]⟩) rfl
  have q1 := own_cellI hoz (i := 1) (u := .int .i64 2) rfl
  have q2 := own_cellI hoz (i := 2) (u := .slice (some ⟨gd, 0, none⟩) 2 zc) rfl
  have r0 := own_cellI hod (i := 0) (u := .int .i64 1) rfl
  have r1 := own_cellI hod (i := 1) (u := .int .i64 2) rfl
  have c0 : w7.cell? ⟨gz, 0, none⟩ = some (.string ⟨#[101]⟩) := by rw [b7.cell (p := ⟨gz, 0, none⟩) q0.2.2.1]; exact q0.1
  have c1 : w7.cell? ⟨gz, 1, none⟩ = some (.int .i64 2) := by rw [b7.cell (p := ⟨gz, 1, none⟩) q0.2.2.1]; exact q1.1
  have c2 : w7.cell? ⟨gz, 2, none⟩ = some (.slice (some ⟨gd, 0, none⟩) 2 zc) := by rw [b7.cell (p := ⟨gz, 2, none⟩) q0.2.2.1]; exact q2.1
  have d0 : w7.cell? ⟨gd, 0, none⟩ = some (.int .i64 1) := by rw [b7.cell (p := ⟨gd, 0, none⟩) r0.2.2.1]; exact r0.1
  have d1 : w7.cell? ⟨gd, 1, none⟩ = some (.int .i64 2) := by rw [b7.cell (p := ⟨gd, 1, none⟩) r0.2.2.1]; exact r1.1
  clear q0 q1 q2 r0 r1 hoz hod HZG ht b7 HSH
  go_wp2
  go_ret
  exact ⟨rfl, HB7.out⟩
end Go.Proofs.YtoppgalbmijhdaaGreatDoor
