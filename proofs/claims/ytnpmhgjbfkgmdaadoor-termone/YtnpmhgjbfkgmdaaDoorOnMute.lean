import Derived.Test.YtnpmhgjbfkgmdaaDoorOnApply
import Derived.Test.YtnpmhgjbfkgmdaaDoorTmLives
import Derived.Deep.DeepCutAuto
namespace Go.Proofs.YtnpmhgjbfkgmdaaDoor
open Go.RowKit Go.Maps
set_option linter.unusedVariables false
set_option linter.unusedSimpArgs false
attribute [local go_sem ↓] Go.wp_at_zero Go.wp_at_succ

theorem nm_add (c : UInt8) (k : Nat) : nm c k ++ (⟨#[95]⟩ : ByteArray) = nm c (k + 1) := by
  apply toList_inj
  rw [ByteArray.toList_eq, ByteArray.toList_eq]
  show (nm c k ++ (⟨#[95]⟩ : ByteArray)).data.toList = _
  rw [ByteArray.data_append]
  simp [nm, List.replicate_succ']
/-- what mute keeps: its three boxed atoms, its result, what it builds, the row of it -/
structure Mst (w : World) (pr px py : ByteArray) (va vx vy : Value) (o : List T) (ao : Option Addr) (co : Nat) (u : World) : Prop where
  bel : Below w.heap.size w u
  sz : w.heap.size + 5 ≤ u.heap.size
  r0 : RL u w.heap.size 24 [.string pr, va]
  r1 : RL u (w.heap.size + 1) 24 [.string px, vx]
  r2 : RL u (w.heap.size + 2) 24 [.string py, vy]
  r3 : RL u (w.heap.size + 3) 24 [.string ⟨#[]⟩, .slice none 0 0]
  r4 : RL u (w.heap.size + 4) 24 [.string pr, .slice ao o.length co]
  own : u.ownsRow (w.heap.size + 5) 38 4 (.slice ao o.length co) o.length (o.flatMap T.cells)
theorem Mst.keep {w : World} {pr px py : ByteArray} {va vx vy : Value} {o : List T} {ao : Option Addr} {co : Nat} {u u' : World} (h : Mst w pr px py va vx vy o ao co u) (hb : Below u.heap.size u u') : Mst w pr px py va vx vy o ao co u' :=
  ⟨h.bel.trans (hb.mono h.bel.size), Nat.le_trans h.sz hb.size, h.r0.below hb, h.r1.below hb, h.r2.below hb, h.r3.below hb, h.r4.below hb, own_below h.own hb⟩
theorem rl_at {w : World} (n : Nat) (hn : w.heap.size = n) (c : Array Value) (t : TypeId) : RL (w.alloc (.cells c t)) n t c.toList := hn ▸ rl_new w c t
theorem mst_new (w : World) (pr px py : ByteArray) (va vx vy : Value) :
    Mst w pr px py va vx vy [] none 0 (((((w.alloc (.cells #[.string pr, va] 24)).alloc (.cells #[.string px, vx] 24)).alloc (.cells #[.string py, vy] 24)).alloc (.cells #[.string ⟨#[]⟩, .slice none 0 0] 24)).alloc (.cells #[.string pr, .slice none 0 0] 24)) := by
  have k : ∀ (u : World) (o : Obj), Below u.heap.size u (u.alloc o) := fun u o => (Below.refl _ _).alloc (Nat.le_refl _) o
  refine ⟨?_, by simp, ?_, ?_, ?_, ?_, ?_, World.ownsRow_nil _ _ _ _⟩
  · exact (((((Below.refl _ _).alloc (Nat.le_refl _) _).alloc (by simp) _).alloc (by simp; omega) _).alloc (by simp; omega) _).alloc (by simp; omega) _
  · exact ((((rl_new w #[.string pr, va] 24).below (k _ _)).below (k _ _)).below (k _ _)).below (k _ _)
  · exact (((rl_at (w.heap.size + 1) (by simp) #[.string px, vx] 24).below (k _ _)).below (k _ _)).below (k _ _)
  · exact ((rl_at (w.heap.size + 2) (by simp) #[.string py, vy] 24).below (k _ _)).below (k _ _)
  · exact (rl_at (w.heap.size + 3) (by simp) #[.string ⟨#[]⟩, .slice none 0 0] 24).below (k _ _)
  · exact rl_at (w.heap.size + 4) (by simp) #[.string pr, .slice none 0 0] 24
/-- a cell beyond what mute keeps -/
theorem Mst.far {w : World} {pr px py : ByteArray} {va vx vy : Value} {o : List T} {ao : Option Addr} {co : Nat} {u : World} (h : Mst w pr px py va vx vy o ao co u) {b : Nat} (hb : w.heap.size + 5 ≤ b) (hn : ∀ g, (Value.slice ao o.length co).ownBlock = some g → g ≠ b) (i : Nat) (x : Value) : Mst w pr px py va vx vy o ao co (u.setCell ⟨b, i, none⟩ x) :=
  ⟨h.bel.setCell (p := ⟨b, i, none⟩) (by show w.heap.size ≤ b; omega) _, by simp; exact h.sz, h.r0.other (by omega) _, h.r1.other (by omega) _, h.r2.other (by omega) _, h.r3.other (by omega) _, h.r4.other (by omega) _, own_of_block h.own (fun g hg => by rw [heap_setCell_other _ _ _ _ (by exact hn g hg)])⟩
/-- a term more -/
theorem Mst.fin {w : World} {pr px py : ByteArray} {va vx vy : Value} {o : List T} {ao : Option Addr} {co : Nat} {u u2 u3 : World} (h : Mst w pr px py va vx vy o ao co u) {t : T} {v' : Value}
    (hb : Below u.heap.size u u2) (hown : u3.ownsRow (w.heap.size + 5) 38 4 v' (o.length + 1) (o.flatMap T.cells ++ t.cells)) (hg : u2.grownBy u3 (Value.slice ao o.length co).ownBlock) :
    ∃ a2 c2, v' = .slice a2 (o.length + 1) c2 ∧ Mst w pr px py va vx vy (o ++ [t]) a2 c2 (u3.setCell ⟨w.heap.size + 4, 1, none⟩ v') ∧ u3.cell? ⟨w.heap.size + 4, 1, none⟩ = some (.slice ao o.length co) ∧ u3.frozen? ⟨w.heap.size + 4, 1, none⟩ = false := by
  have hk := h.keep hb
  obtain ⟨a2, c2, rfl, _⟩ := own_form hown
  have nb : ∀ g, g < w.heap.size + 5 → u3.heap[g]? = u2.heap[g]? := fun g hgl => hg.block g (by have := hk.sz; omega) (fun e => by have := (h.own.lt g e.symm).1; omega)
  have q : ∀ {b : Nat} {l : List Value}, b < w.heap.size + 5 → RL u2 b 24 l → RL u3 b 24 l := fun hbl hr => World.rowIs.of_block hr (nb _ hbl)
  have q4 := q (by omega) hk.r4
  have hbel : Below w.heap.size w u3 := hk.bel.grown hg hk.bel.size (fun j hj => by have := (h.own.lt j hj).1; omega)
  refine ⟨a2, c2, rfl, ⟨hbel.setCell (p := ⟨w.heap.size + 4, 1, none⟩) (by simp) _, ?_, (q (by omega) hk.r0).other (by omega) _, (q (by omega) hk.r1).other (by omega) _, (q (by omega) hk.r2).other (by omega) _, (q (by omega) hk.r3).other (by omega) _, ?_, ?_⟩, q4.at (j := 1) rfl, World.rowIs.frozen q4 1⟩
  · have := hk.sz
    have := hg.size
    simp
    omega
  · rw [List.length_append]
    exact q4.set 1 _
  · rw [List.length_append, List.flatMap_append]
    have e : [t].flatMap T.cells = t.cells := by simp
    rw [e]
    exact own_of_block hown (fun g hgg => by
      have := (hown.lt g hgg).1
      rw [heap_setCell_other _ _ _ _ (by show g ≠ w.heap.size + 4; omega)])
def strSz : Value → Nat
  | .string x => x.size
  | _ => 0
set_option maxHeartbeats 6400000 in
set_option maxRecDepth 100000 in
theorem mute_any (c : UInt8) (pr px py : ByteArray) (va vx vy : Value) (ts xs ys : List T) (w : World) (hc : 65 ≤ c.toNat ∧ c.toNat ≤ 90) (ha : Lt w va ts) (hx : Lt w vx xs) (hy : Lt w vy ys) (h1 : ts.length ≤ 24) (h2 : xs.length ≤ 24) (h3 : ys.length ≤ 24) :
    Calls Tryd.prog 7 #[.agg #[.string pr, va], .agg #[.string px, vx], .agg #[.string py, vy], .string (nm c 0)] w fun e w' => ∃ o a' c', e = .returned (.agg #[.string pr, .slice a' o.length c']) ∧ Lt w' (.slice a' o.length c') o ∧ Muted c (vsT [] xs ++ vsT [] ys) ts o ∧ Below w.heap.size w w' := by
  obtain ⟨i0, hi0, hz0, hz1, hz2⟩ := info_tm
  obtain ⟨aa, ca, rfl, _, _, hta⟩ := ha.form
  obtain ⟨ax, cx, rfl, _, _, _⟩ := hx.form
  obtain ⟨ay, cy, rfl, _, _, _⟩ := hy.form
  have HM0 := Lib.hid (mst_new w pr px py (.slice aa ts.length ca) (.slice ax xs.length cx) (.slice ay ys.length cy))
  have HTA := Lib.hid hta
  have HWA := Lib.hid ha.wf
  have HX := Lib.hid hx
  have HY := Lib.hid hy
  clear ha hx hy hta
  have hnm0 : (nm c 0).size ≤ maxLen := by rw [nm_size]; decide
  go_enter Tryd.func7, Tryd.ntmps7
  go_upto_region 3 with fail
  generalize ((((w.alloc (.cells #[.string pr, .slice aa ts.length ca] 24)).alloc (.cells #[.string px, .slice ax xs.length cx] 24)).alloc (.cells #[.string py, .slice ay ys.length cy] 24)).alloc (.cells #[.string ⟨#[]⟩, .slice none 0 0] 24)).alloc (.cells #[.string pr, .slice none 0 0] 24) = W at HM0 ⊢
  go_wp2
  go_loopw [10, 11] (fun n i wr => ∃ (k K : Nat) (o : List T) (ao : Option Addr) (co : Nat), k ≤ ts.length ∧ i = .int .i64 k ∧ n = .string (nm c K) ∧ Hid (Mst w pr px py (.slice aa ts.length ca) (.slice ax xs.length cx) (.slice ay ys.length cy) o ao co wr) ∧ Hid (Mu c (vsT [] xs ++ vsT [] ys) ts k K o) ∧ Hid (∀ t ∈ o, t.wf)) (fun _ i _ => ts.length - (intOf i).toNat)
  case atStart => exact ⟨0, 0, [], none, 0, Nat.zero_le _, rfl, rfl, HM0, mu_start _ _ _, by show ∀ t ∈ ([] : List T), _; simp⟩
  case round =>
    obtain ⟨k, K, o, ao, co, hk, rfl, rfl, HM, HU, HWO⟩ := hrel
    clear HM0
    have HOL := Lib.hid HU.out.len
    have x1 := HM.out.r0.at (j := 1) rfl
    by_cases hlt : k < ts.length
    · have hlt' : (k : Int) < (ts.length : Int) := by omega
      have hk0 : (0 : Int) ≤ (k : Int) := by omega
      obtain ⟨g, off, rfl, hg, hT⟩ := HTA.out (by omega)
      have t0 := hT k hlt
      have HTW := Lib.hid (HWA.out (atT ts k) (by rw [atT_eq hlt]; exact List.getElem_mem _))
      have hgu : g < wr.heap.size := Nat.lt_of_lt_of_le hg HM.out.bel.size
      have y0 : wr.cell? ⟨g, off + k * 4, none⟩ = some (.string (atT ts k).v) := by rw [HM.out.bel.cell (p := ⟨g, off + k * 4, none⟩) hg]; exact t0.c0
      have y1 : wr.cell? ⟨g, off + k * 4 + 1, none⟩ = some (.int .i8 (atT ts k).a.k) := by rw [HM.out.bel.cell (p := ⟨g, off + k * 4 + 1, none⟩) hg]; exact t0.c1
      have y2 : wr.cell? ⟨g, off + k * 4 + 2, none⟩ = some (.int .i64 (atT ts k).a.n) := by rw [HM.out.bel.cell (p := ⟨g, off + k * 4 + 2, none⟩) hg]; exact t0.c2
      have y3 : wr.cell? ⟨g, off + k * 4 + 3, none⟩ = some (.string (atT ts k).a.s) := by rw [HM.out.bel.cell (p := ⟨g, off + k * 4 + 3, none⟩) hg]; exact t0.c3
      have HPL := fun (h : (atT ts k).v ≠ blankS) => HU.out.plain h
      have HBL := fun (h : (atT ts k).v = blankS) {q : Nat} => HU.out.blank (k := q) h
      have hnum := HU.out.num
      generalize atT ts k = t at y0 y1 y2 y3 HTW HPL HBL
      obtain ⟨tv, ak, an, sx⟩ := t
      have ha1 : Below wr.heap.size wr (wr.alloc (.cells #[.string tv, .int .i8 ak, .int .i64 an, .string sx] 38)) := (Below.refl _ _).alloc (Nat.le_refl _) _
      have HM1 := Lib.hid (HM.out.keep ha1)
      have HR1 := Lib.hid (rl_new wr #[.string tv, .int .i8 ak, .int .i64 an, .string sx] 38)
      have HZT : Hid (w.heap.size + 5 ≤ wr.heap.size) := HM.out.sz
      have HNE : Hid (∀ g, (Value.slice ao o.length co).ownBlock = some g → g ≠ wr.heap.size) := fun g hg => Nat.ne_of_lt (HM.out.own.lt g hg).2
      have HNM := Lib.hid hnum
      have HPL' := Lib.hid HPL
      have HBL' : Hid (tv = blankS → ∀ q, K < q → nm c q ∉ vsT [] xs ++ vsT [] ys → q ≤ k + 1 + cn c (vsT [] xs ++ vsT [] ys) q → Mu c (vsT [] xs ++ vsT [] ys) ts (k + 1) q (o ++ [⟨nm c q, V0⟩])) := fun h q => HBL h
      clear HM ha1 t0 hT hg hnum HPL HBL
      go_upto_if 31 with fail
      generalize wr.alloc (.cells #[.string tv, .int .i8 ak, .int .i64 an, .string sx] 38) = W1 at HM1 HR1 ⊢
      generalize wr.heap.size = tb at HR1 HZT HNE hgu ⊢
      clear y0 y1 y2 y3 x1 hgu
      go_cut [10] (fun n wc => ∃ (q : Nat) (u : T), n = .string (nm c q) ∧ Hid (Mst w pr px py (.slice (some ⟨g, off, none⟩) ts.length ca) (.slice ax xs.length cx) (.slice ay ys.length cy) o ao co wc) ∧ Hid (Mu c (vsT [] xs ++ vsT [] ys) ts (k + 1) q (o ++ [u])) ∧ Hid u.wf ∧ Hid (RL wc tb 38 u.cells))
      case first =>
        by_cases eb : tv = blankS
        · have hb1 : (tv.toList == [95]) = true := by rw [eb, ByteArray.toList_eq]; rfl
          rw [hb1]
          have y0 := HR1.out.at (j := 0) rfl
          have hadd := nm_add c K
          have hKb : K ≤ 73 := by
            have e1 := vsT_len xs []
            have e2 := vsT_len ys []
            have e3 := cn_le c (vsT [] xs ++ vsT [] ys) (K + 1)
            rw [List.length_append] at e3
            simp only [List.length_nil] at e1 e2
            have := HNM.out
            omega
          have hsz : (nm c K).size = K + 1 := nm_size c K
          have HBQ := Lib.hid (HBL'.out eb)
          have HN1 : Hid (K + 1 ≤ k + 1 + cn c (vsT [] xs ++ vsT [] ys) (K + 1)) := by show _ ≤ _; have := HNM.out; omega
          clear HPL' HBL' HNM eb
          go_wp2
          go_loopw [10] (fun n wr => ∃ q : Nat, n = .string (nm c q) ∧ K < q ∧ q ≤ 200 ∧ Hid (q ≤ k + 1 + cn c (vsT [] xs ++ vsT [] ys) q) ∧ Hid (Mst w pr px py (.slice (some ⟨g, off, none⟩) ts.length ca) (.slice ax xs.length cx) (.slice ay ys.length cy) o ao co wr) ∧ Hid (RL wr tb 38 [.string tv, .int .i8 ak, .int .i64 an, .string sx])) (fun n _ => 200 - strSz n)
          case atStart => exact ⟨K + 1, rfl, by omega, by omega, HN1, HM1, HR1⟩
          case round =>
            obtain ⟨q, rfl, hKq, hq2, HQ, HMq, HRq⟩ := hrel
            clear HM1 HR1 HN1 hadd hsz y0
            have hq73 : q ≤ 73 := by
              have e1 := vsT_len xs []
              have e2 := vsT_len ys []
              have e3 := cn_le c (vsT [] xs ++ vsT [] ys) q
              rw [List.length_append] at e3
              simp only [List.length_nil] at e1 e2
              have := HQ.out
              omega
            have hadd := nm_add c q
            have hsz : (nm c q).size = q + 1 := nm_size c q
            have y0 := HMq.out.r1.at (j := 0) rfl
            have y1 := HMq.out.r1.at (j := 1) rfl
            go_wp2_with fail
            refine (atomVars_any px _ xs _ (by omega) (HX.out.below HMq.out.bel)).mono ?_
            rintro e w5 ⟨sv, rfl, ho5, b5⟩
            have HM5 := Lib.hid (HMq.out.keep b5)
            have HR5 := Lib.hid (HRq.out.below b5)
            have HL5 := Lib.hid (ls_own ho5)
            obtain ⟨a5, c5, rfl, _⟩ := own_form ho5
            clear HMq HRq ho5 b5 y0 y1
            go_wp2_with fail
            refine (in_any (nm c q) _ _ _ HL5.out).mono ?_
            rintro e w6 ⟨rfl, rfl⟩
            clear HL5
            cases hin : inB (vsT [] xs) (nm c q) with
            | true =>
              have HIN : Hid (inB (vsT [] xs ++ vsT [] ys) (nm c q) = true) := inB_iff.2 (List.mem_append.2 (.inl (inB_iff.1 hin)))
              clear hin
              have HQ1 : Hid (q + 1 ≤ k + 1 + cn c (vsT [] xs ++ vsT [] ys) (q + 1)) := by
                show _ ≤ _
                have := HQ.out
                rw [cn, if_pos HIN.out]
                omega
              go_wp2
              go_roundw
              case rel => exact ⟨q + 1, rfl, by omega, by omega, HQ1, HM5, HR5⟩
              case measure => simp [strSz, nm_size]; omega
            | false =>
              have y0 := HM5.out.r2.at (j := 0) rfl
              have y1 := HM5.out.r2.at (j := 1) rfl
              go_wp2_with fail
              refine (atomVars_any py _ ys _ (by omega) (HY.out.below HM5.out.bel)).mono ?_
              rintro e w7 ⟨sv, rfl, ho7, b7⟩
              have HM7 := Lib.hid (HM5.out.keep b7)
              have HR7 := Lib.hid (HR5.out.below b7)
              have HL7 := Lib.hid (ls_own ho7)
              obtain ⟨a7, c7, rfl, _⟩ := own_form ho7
              clear HM5 HR5 ho7 b7 y0 y1
              go_wp2_with fail
              refine (in_any (nm c q) _ _ _ HL7.out).mono ?_
              rintro e w8 ⟨rfl, rfl⟩
              clear HL7
              cases hin2 : inB (vsT [] ys) (nm c q) with
              | true =>
                have HIN : Hid (inB (vsT [] xs ++ vsT [] ys) (nm c q) = true) := inB_iff.2 (List.mem_append.2 (.inr (inB_iff.1 hin2)))
                clear hin hin2
                have HQ1 : Hid (q + 1 ≤ k + 1 + cn c (vsT [] xs ++ vsT [] ys) (q + 1)) := by
                  show _ ≤ _
                  have := HQ.out
                  rw [cn, if_pos HIN.out]
                  omega
                go_wp2
                go_roundw
                case rel => exact ⟨q + 1, rfl, by omega, by omega, HQ1, HM7, HR7⟩
                case measure => simp [strSz, nm_size]; omega
              | false =>
                have HFR : Hid (nm c q ∉ vsT [] xs ++ vsT [] ys) := fun h => by
                  rcases List.mem_append.1 h with h | h
                  · rw [inB_iff.2 h] at hin; cases hin
                  · rw [inB_iff.2 h] at hin2; cases hin2
                have HF := Lib.hid (HBQ.out q hKq HFR.out HQ.out)
                clear hin hin2 HFR
                go_wp2_with fail
                refine (variable_any (nm c q) _).mono ?_
                rintro e w9 ⟨rfl, b9⟩
                have HM9 := Lib.hid (HM7.out.keep b9)
                have HR9 := Lib.hid (HR7.out.below b9)
                have v0 := HR9.out.at (j := 0) rfl
                have v1 := HR9.out.at (j := 1) rfl
                have v2 := HR9.out.at (j := 2) rfl
                have v3 := HR9.out.at (j := 3) rfl
                have g0 := World.rowIs.frozen HR9.out 0
                have g1 := World.rowIs.frozen HR9.out 1
                have g2 := World.rowIs.frozen HR9.out 2
                have g3 := World.rowIs.frozen HR9.out 3
                clear HM7 HR7 b9
                go_wp2
                go_meet
                exact ⟨q, ⟨nm c q, V0⟩, rfl, Lib.hid ((((HM9.out.far HZT.out HNE.out _ _).far HZT.out HNE.out _ _).far HZT.out HNE.out _ _).far HZT.out HNE.out _ _), HF, ⟨by rw [nm_size]; unfold maxLen; omega, V0.ok⟩, Lib.hid ((((HR9.out.set 0 (.string (nm c q))).set 1 (.int .i8 0)).set 2 (.int .i64 0)).set 3 (.string ⟨#[]⟩))⟩
        · have hb1 := blank_not eb
          rw [hb1]
          have y0 := HR1.out.at (j := 0) rfl
          have HF := Lib.hid (HPL'.out eb)
          clear HPL' HBL' HNM eb
          go_wp2_with fail
          go_meet
          exact ⟨K, ⟨tv, ak, an, sx⟩, rfl, HM1, HF, HTW, HR1⟩
      case rest =>
        obtain ⟨q, u, rfl, HMc, HUc, HWu, HRc⟩ := hcut
        clear HM1 HR1 HNM HPL' HBL' HTW HU
        obtain ⟨uv, uk, un, us⟩ := u
        have y0 := HRc.out.at (j := 0) rfl
        have y1 := HRc.out.at (j := 1) rfl
        have y2 := HRc.out.at (j := 2) rfl
        have y3 := HRc.out.at (j := 3) rfl
        have z1 := HMc.out.r4.at (j := 1) rfl
        have HAL : Hid (Below wc.heap.size wc (wc.alloc (.cells #[.string uv, .int .i8 uk, .int .i64 un, .string us] 38))) := (Below.refl _ _).alloc (Nat.le_refl _) _
        have HOW := Lib.hid (own_below HMc.out.own HAL.out)
        have HSZ : Hid (w.heap.size + 5 ≤ (wc.alloc (.cells #[.string uv, .int .i8 uk, .int .i64 un, .string us] 38)).heap.size) := Nat.le_trans HMc.out.sz HAL.out.size
        have hob : o.length ≤ 24 := by have := HOL.out; omega
        go_wp2_with (at_builtin; refine wpList_append_own_at _ rfl _ _ 22 rfl (w.heap.size + 5) 38 i0 _ 4 48 Tryd.underlying22 hi0 hz0 hz1 hz2 rfl (by decide) _ _ _ rfl HOW.out ⟨_, 0, none⟩ 1 1 [.string uv, .int .i8 uk, .int .i64 un, .string us] rfl rfl (lit_news _ #[.string uv, .int .i8 uk, .int .i64 un, .string us] _) (by simp [Value.oneCell']) (by unfold maxLen; omega) (by omega) HSZ.out ?_; intro v' w2 hown' hgrow hnil hloc; obtain ⟨a2, c2, rfl, hfin, m4, f4⟩ := HMc.out.fin (t := ⟨uv, uk, un, us⟩) HAL.out hown' hgrow; clear hown' hgrow hnil hloc)
        go_roundw
        case rel => exact ⟨k + 1, q, o ++ [⟨uv, uk, un, us⟩], a2, c2, by omega, by go_num, rfl, Lib.hid hfin, HUc, by
          show ∀ t ∈ o ++ [(⟨uv, uk, un, us⟩ : T)], t.wf
          intro t ht
          rcases List.mem_append.1 ht with ht | ht
          · exact HWO.out t ht
          · rw [List.mem_singleton.1 ht]; exact HWu.out⟩
        case measure => simp [intOf]; omega
    · obtain rfl : k = ts.length := by omega
      have z0 := HM.out.r4.at (j := 0) rfl
      have z1 := HM.out.r4.at (j := 1) rfl
      have y0 := HM.out.r3.at (j := 0) rfl
      have y1 := HM.out.r3.at (j := 1) rfl
      have fy0 := World.rowIs.frozen HM.out.r3 0
      have fy1 := World.rowIs.frozen HM.out.r3 1
      have HMD : Hid (Muted c (vsT [] xs ++ vsT [] ys) ts o) := HU.out.done (by
        have e1 := vsT_len xs []
        have e2 := vsT_len ys []
        rw [List.length_append]
        simp only [List.length_nil] at e1 e2
        omega) h1
      go_wp2
      have hfin := ((HM.out.r3.set 0 (.string pr)).set 1 (.slice ao o.length co))
      refine bodyPost_ret (rl_results Tryd.results7 (v := .agg #[.string pr, .slice ao o.length co]) rfl (run_loadVar_mid _ _ 0 24 [.string pr, .slice ao o.length co] _ (RL.range hfin) Tryd.underlying24 rfl (by kernel_rfl))) rfl ⟨o, ao, co, rfl, ⟨?_, HWO.out⟩, HMD.out, ?_⟩
      · have hown := HM.out.own
        exact ls_own (own_of_block hown (fun g hg => by
          have := (hown.lt g hg).1
          rw [heap_setCell_other _ _ _ _ (by show g ≠ w.heap.size + 3; omega), heap_setCell_other _ _ _ _ (by show g ≠ w.heap.size + 3; omega)]))
      · exact (HM.out.bel.setCell (p := ⟨w.heap.size + 3, 0, none⟩) (by simp) _).setCell (p := ⟨w.heap.size + 3, 1, none⟩) (by simp) _
end Go.Proofs.YtnpmhgjbfkgmdaaDoor
