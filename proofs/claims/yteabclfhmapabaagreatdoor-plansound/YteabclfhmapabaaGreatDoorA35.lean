import Derived.Test.YteabclfhmapabaaGreatDoorPlMkR
import Derived.Test.YteabclfhmapabaaGreatDoorA31
import Derived.Deep.RegionHeld3
section
namespace Go.Proofs.YteabclfhmapabaaGreatDoor
open Go.RowKit Go.Maps Go.Shelf
set_option linter.unusedVariables false
set_option linter.unusedSimpArgs false
attribute [local go_sem ↓] Go.wp_at_zero Go.wp_at_succ
attribute [-go_sem] loadVar

theorem lp_nil (w : World) : Lp w (.slice none 0 0) [] := ⟨⟨Nat.zero_le _, none, 0, rfl, Nat.le_refl _, Nat.zero_le _, fun h => absurd h (by simp)⟩, fun t ht => by cases ht⟩
theorem load_PlP {u : World} {b : Nat} {t : TypeId} {cs : List Value} (h : RL u b t cs) (hl : cs.length = 4) : (loadVar 30 ⟨b, 0, none⟩).run Tryz.prog u = .ok (.agg cs.toArray) u :=
  run_loadVar_mid u b 0 30 cs _ (RL.range h) Tryz.underlying30 rfl (by rw [hl]; kernel_rfl)
def noPl : Value := .agg #[.string ⟨#[]⟩, .slice none 0 0, .slice none 0 0, .slice none 0 0]
/-- what Make answers where it makes a plan -/
def MadeP (d : Nat) (r : R3) (l : List ByteArray) (first : Int) (w' : World) (e : Ending) : Prop :=
  ∃ (r' : R3) (p' : RP) (xs : List SX) (a : Option Addr) (c : Nat), e = .returned (.tuple #[.agg #[.string r'.pr, .slice p'.a r'.hd.length p'.c, .slice p'.ba r'.bd.length p'.bc, .slice a xs.length c], .int .i64 0]) ∧ LikeR (resR [] d r) r' ∧ RIs w' d r' p' ∧ Gt d r.bd l (2 ^ r.bd.length - 1) (firstM d l r.bd (2 ^ r.bd.length - 1) first) (xs.map SX.s) ∧ Lz w' (.slice a xs.length c) xs
theorem own_pl4 {w : World} {B : Nat} {e : TypeId} {k : Nat} {v : Value} {n : Nat} {xs : List Value} (h : w.ownsRow B e k v n xs) {g : Nat} (hg : g < B) (pr : ByteArray) (ra : Option Addr) (rn rc : Nat) (ba : Option Addr) (bn bc : Nat) (aa : Option Addr) (nn cc : Nat) : (pl4 w g pr ra rn rc ba bn bc aa nn cc).ownsRow B e k v n xs :=
  own_of_block h (fun j hj => pl4_block _ _ _ _ _ _ _ _ _ _ _ _ (by have := (h.lt j hj).1; omega))
set_option maxRecDepth 100000 in
set_option maxHeartbeats 3200000 in
theorem make_any (d : Nat) (r : R3) (p : RP) (w : World) (hKT : KT w) (hDT : DT w) (hR : RIs w (d + 1) r p) (hs : smallR (d + 1) r) (hT : (termsR (d + 1) r).length ≤ 1048576) {v : Value} {l : List ByteArray} (hl : Ls w v l.length (l.flatMap strB)) (hsz : ∀ i, i < l.length → (atS l i).size ≤ maxLen) (first : Int) :
    Calls Tryz.prog 5 #[r.val p, v, .int .i64 first] w fun e w' => Below w.heap.size w w' ∧
      ((ruleB (d + 1) r = false ∧ e = .returned (.tuple #[noPl, .int .i64 40])) ∨
       (ruleB (d + 1) r = true ∧ knB l l.length = false ∧ e = .returned (.tuple #[noPl, .int .i64 1])) ∨
       (ruleB (d + 1) r = true ∧ knB l l.length = true ∧ ∃ fs, LimK (d + 1) l r fs ∧ ((fs.length ≠ (vsT [] (termsR (d + 1) r)).length ∧ e = .returned (.tuple #[noPl, .int .i64 73])) ∨
         (fs.length = (vsT [] (termsR (d + 1) r)).length ∧ ((first ≠ -1 ∧ isAtM r.bd (2 ^ r.bd.length - 1) first = false ∧ e = .returned (.tuple #[noPl, .int .i64 120])) ∨ ((first = -1 ∨ isAtM r.bd (2 ^ r.bd.length - 1) first = true) ∧ MadeP (d + 1) r l first w' e)))))) := by
  have hA1 := belowA (w := w) (.cells #[.string r.pr, .slice p.a r.hd.length p.c, .slice p.ba r.bd.length p.bc] 25)
  have hA2 : Below w.heap.size w ((w.alloc (.cells #[.string r.pr, .slice p.a r.hd.length p.c, .slice p.ba r.bd.length p.bc] 25)).alloc (.cells #[.string ⟨#[]⟩, .slice none 0 0, .slice none 0 0, .slice none 0 0] 30)) := hA1.trans ((belowA _).mono hA1.size)
  have HRL : Hid (RL ((w.alloc (.cells #[.string r.pr, .slice p.a r.hd.length p.c, .slice p.ba r.bd.length p.bc] 25)).alloc (.cells #[.string ⟨#[]⟩, .slice none 0 0, .slice none 0 0, .slice none 0 0] 30)) w.heap.size 25 [.string r.pr, .slice p.a r.hd.length p.c, .slice p.ba r.bd.length p.bc]) := RL.below (rl_new w #[.string r.pr, .slice p.a r.hd.length p.c, .slice p.ba r.bd.length p.bc] 25) (belowA _)
  have HPL : Hid (RL ((w.alloc (.cells #[.string r.pr, .slice p.a r.hd.length p.c, .slice p.ba r.bd.length p.bc] 25)).alloc (.cells #[.string ⟨#[]⟩, .slice none 0 0, .slice none 0 0, .slice none 0 0] 30)) (w.heap.size + 1) 30 [.string ⟨#[]⟩, .slice none 0 0, .slice none 0 0, .slice none 0 0]) := by
    have h1 := rl_new (w.alloc (.cells #[.string r.pr, .slice p.a r.hd.length p.c, .slice p.ba r.bd.length p.bc] 25)) #[.string ⟨#[]⟩, .slice none 0 0, .slice none 0 0, .slice none 0 0] 30
    rw [World.size_alloc] at h1
    exact h1
  have hld := load_ruP (g := w.heap.size) (o := 0) (cs := [.string r.pr, .slice p.a r.hd.length p.c, .slice p.ba r.bd.length p.bc]) (RL.range HRL.out) rfl
  have HBG := Lib.hid (begin_any d r p _ (hKT.below hA2) (hR.below hA2) hs hT (hl.below hA2) hsz)
  have HB2 := Lib.hid hA2
  have HKT := Lib.hid hKT
  have HDT := Lib.hid hDT
  have HR := Lib.hid hR
  have HSM := Lib.hid hs
  have HBD : Hid (ruleB (d + 1) r = true → BdR (d + 1) r.bd) := fun h => bdR_of h hT
  unfold R3.val at HBG
  clear hA1 hA2 hKT hDT hR hs hT hl hsz
  unfold R3.val
  go_enter Tryz.func5, Tryz.ntmps5
  go_wp2_with fail
  refine HBG.out.mono ?_
  obtain ⟨W, hW⟩ : ∃ W, W = (w.alloc (.cells #[.string r.pr, .slice p.a r.hd.length p.c, .slice p.ba r.bd.length p.bc] 25)).alloc (.cells #[.string ⟨#[]⟩, .slice none 0 0, .slice none 0 0, .slice none 0 0] 30) := ⟨_, rfl⟩
  have HZW : Hid (W.heap.size = w.heap.size + 2) := by show _ = _; rw [hW]; simp
  rw [← hW] at HRL HPL HB2 ⊢
  clear hW hld HBG
  rintro e w1 ⟨b1, hcase⟩
  have HB1 := Lib.hid b1
  have HPW := Lib.hid (RL.below HPL.out b1)
  have z0 := RL.at HPW.out (j := 0) rfl
  have z1 := RL.at HPW.out (j := 1) rfl
  have z2 := RL.at HPW.out (j := 2) rfl
  have z3 := RL.at HPW.out (j := 3) rfl
  have y0 := World.rowIs.frozen HPW.out 0
  have y1 := World.rowIs.frozen HPW.out 1
  have y2 := World.rowIs.frozen HPW.out 2
  have y3 := World.rowIs.frozen HPW.out 3
  have HWB : Hid (Below w.heap.size w w1) := HB2.out.trans (b1.mono HB2.out.size)
  have HNO : Hid (RL (pl4 w1 (w.heap.size + 1) ⟨#[]⟩ none 0 0 none 0 0 none 0 0) (w.heap.size + 1) 30 [.string ⟨#[]⟩, .slice none 0 0, .slice none 0 0, .slice none 0 0] ∧ Below w.heap.size w (pl4 w1 (w.heap.size + 1) ⟨#[]⟩ none 0 0 none 0 0 none 0 0)) := ⟨pl4_rl HPW.out _ _ _ _ _ _ _ _ _ _, pl4_below HWB.out (Nat.le_succ _) _ _ _ _ _ _ _ _ _ _⟩
  clear b1
  unfold pl4 at HNO
  rcases hcase with ⟨hr0, rfl⟩ | ⟨hr1, hk0, rfl⟩ | ⟨hr1, hk1, fs, hlk, ⟨hne, rfl⟩ | ⟨heq, tb, kb, rfl, htu, htb, hkb⟩⟩
  · have HF := Lib.hid hr0
    clear hr0 HBD
    go_wp2
    refine bodyPost_ret (rl_resPQ Tryz.results5 (v := noPl) (u := .int .i64 40) rfl rfl (load_PlP HNO.out.1 rfl)) rfl ?_
    exact ⟨HNO.out.2, .inl ⟨HF.out, rfl⟩⟩
  · have HF := Lib.hid (And.intro hr1 hk0)
    clear hr1 hk0 HBD
    go_wp2
    refine bodyPost_ret (rl_resPQ Tryz.results5 (v := noPl) (u := .int .i64 1) rfl rfl (load_PlP HNO.out.1 rfl)) rfl ?_
    exact ⟨HNO.out.2, .inr (.inl ⟨HF.out.1, HF.out.2, rfl⟩)⟩
  · have HF := Lib.hid (And.intro hr1 (And.intro hk1 (And.intro hlk hne)))
    clear hr1 hk1 hlk hne HBD
    go_wp2
    refine bodyPost_ret (rl_resPQ Tryz.results5 (v := noPl) (u := .int .i64 73) rfl rfl (load_PlP HNO.out.1 rfl)) rfl ?_
    exact ⟨HNO.out.2, .inr (.inr ⟨HF.out.1, HF.out.2.1, fs, HF.out.2.2.1, .inl ⟨HF.out.2.2.2, rfl⟩⟩)⟩
  · have HY := Lib.hid (And.intro hr1 (And.intro hk1 (And.intro hlk heq)))
    have HD := Lib.hid (HBD.out hr1)
    have HTU := Lib.hid htu
    have HTB : Hid (w.heap.size + 2 ≤ tb) := by have := HZW.out; show _ ≤ _; omega
    have HKB : Hid (w.heap.size + 2 ≤ kb) := by have := HZW.out; show _ ≤ _; omega
    have HLW : Hid ((2 : Nat) ^ r.bd.length - 1 < 2 ^ r.bd.length) := by
      have : 0 < (2 : Nat) ^ r.bd.length := Nat.two_pow_pos _
      show _ < _
      omega
    have hld2 := load_ruP (u := w1) (g := w.heap.size) (o := 0) (cs := [.string r.pr, .slice p.a r.hd.length p.c, .slice p.ba r.bd.length p.bc]) (RL.range (RL.below HRL.out HB1.out)) rfl
    have HAP := Lib.hid (applyRule_fr (.slice none 0 0) [] (d + 1) r p w1 (HKT.out.below HWB.out) (HR.out.below HWB.out) HSM.out (lp_nil w1) (Nat.zero_le _))
    unfold R3.val at HAP
    clear hr1 hk1 hlk heq htu htb hkb HBD
    by_cases hfi : first = -1
    · have dfi : (first != -1) = false := by rw [hfi]; rfl
      have HFI : Hid (first = -1 ∨ isAtM r.bd (2 ^ r.bd.length - 1) first = true) := .inl hfi
      have HFH : Hid (first = -1 ∨ hasB (2 ^ r.bd.length - 1) first = true) := .inl hfi
      clear hfi z0 z1 z2 z3 y0 y1 y2 y3
      go_wp2_with fail
      refine HAP.out.mono ?_
      rintro e w3 ⟨r', p', rfl, b3, hlike, hfr⟩
      have HLK := Lib.hid hlike
      have HFR := Lib.hid hfr
      have HB3 := Lib.hid b3
      have HPL3 := Lib.hid (RL.below HPW.out b3)
      have HA6 : Hid (Below w3.heap.size w3 (w3.alloc (.cells #[.string r'.pr, .slice p'.a r'.hd.length p'.c, .slice p'.ba r'.bd.length p'.bc] 25))) := belowA _
      have HRX := Lib.hid (rl_new w3 #[.string r'.pr, .slice p'.a r'.hd.length p'.c, .slice p'.ba r'.bd.length p'.bc] 25)
      clear HAP hlike hfr b3 hld2
      go_upto_region 7 with fail
      obtain ⟨V, hV⟩ : ∃ V, V = w3.alloc (.cells #[.string r'.pr, .slice p'.a r'.hd.length p'.c, .slice p'.ba r'.bd.length p'.bc] 25) := ⟨_, rfl⟩
      rw [← hV] at HA6 HRX ⊢
      have HZ3 : Hid (V.heap.size = w3.heap.size + 1) := by show _ = _; rw [hV]; simp
      clear hV
      have HBV : Hid (Below w1.heap.size w1 V) := HB3.out.trans (HA6.out.mono HB3.out.size)
      have HWV : Hid (Below w.heap.size w V) := HWB.out.trans (HBV.out.mono HWB.out.size)
      have HTV : Hid (TuIs V.drew tb kb (.slice p.ba r.bd.length p.bc) l (2 ^ r.bd.length - 1)) := ⟨RL.below (RL.below HTU.out.rl HBV.out) (Below.refl _ _).drew, (HTU.out.set.of_block (HBV.out.block kb HTU.out.set.lt)).of_block rfl, HTU.out.ne⟩
      have hpx : ∀ u, Px tb kb V.drew u → Below w.heap.size w u := fun u hu => HWV.out.trans (Px.below (w := V) ⟨hu.os, hu.tape, hu.output, hu.size, hu.block⟩ HWV.out.size (by have := HTB.out; omega) (by have := HKB.out; omega))
      have HGT := Lib.hid (goThrough_any (w := V.drew) (d := d + 1) HTV.out (fun u hu => (HR.out.below (hpx u hu)).bd) HD.out HLW.out (fun u hu => HDT.out.below (hpx u hu)) (fun x hx k ss => stM_sz (HR.out.bd.each x hx) ss k) first HFH.out)
      refine wp_region_noPanic ?_
      refine wp_region_held (S := fun u => RL u w3.heap.size 25 [.string r'.pr, .slice p'.a r'.hd.length p'.c, .slice p'.ba r'.bd.length p'.bc]) (by kernel_rfl) ?_
      refine pmk7 (w5 := V) (S := fun u => RL u w3.heap.size 25 [.string r'.pr, .slice p'.a r'.hd.length p'.c, .slice p'.ba r'.bd.length p'.bc]) (tb := tb) (b6 := w.heap.size + 1) (b10 := w3.heap.size) (first := first) (pr := r'.pr) (ra := p'.a) (rn := r'.hd.length) (rc := p'.c) (ba := p'.ba) (bn := r'.bd.length) (bc := p'.bc) (Pf := fun aa nn cc u => ∃ xs : List SX, nn = xs.length ∧ RL u (w.heap.size + 1) 30 [.string r'.pr, .slice p'.a r'.hd.length p'.c, .slice p'.ba r'.bd.length p'.bc, .slice aa xs.length cc] ∧ Below w.heap.size w u ∧ RIs u (d + 1) r' p' ∧ Gt (d + 1) r.bd l (2 ^ r.bd.length - 1) (firstM (d + 1) l r.bd (2 ^ r.bd.length - 1) first) (xs.map SX.s) ∧ Lz u (.slice aa xs.length cc) xs) rfl rfl rfl rfl rfl rfl rfl (by kernel_rfl) (by kernel_rfl) (by kernel_rfl) (by kernel_rfl) (by kernel_rfl) (by intros; assumption) (by simp) rfl rfl rfl rfl (RL.below HRX.out (Below.refl _ _).drew) (fun _ _ _ h => h) (fun u hu => load_ruP (RL.range hu) rfl) ?_ ?_
      · refine HGT.out.mono ?_
        rintro e u1 ⟨hpx1, xs, a, c, rfl, hgt, hown, hgiv⟩
        have h1 := HTB.out
        have h2 := HKB.out
        have h3 := HZ3.out
        have hw3 : w.heap.size + 2 ≤ w3.heap.size := Nat.le_trans (by have := HZW.out; have := HB1.out.size; omega) HB3.out.size
        have htl : tb < w3.heap.size := Nat.lt_of_lt_of_le HTU.out.rl.lt HB3.out.size
        have hkl : kb < w3.heap.size := Nat.lt_of_lt_of_le HTU.out.set.lt HB3.out.size
        have hV2 : V.drew.heap.size = V.heap.size := rfl
        have hrx : RL u1 w3.heap.size 25 [.string r'.pr, .slice p'.a r'.hd.length p'.c, .slice p'.ba r'.bd.length p'.bc] := World.rowIs.of_block (RL.below HRX.out (Below.refl _ _).drew) (hpx1.block _ (by omega) (by omega) (by omega))
        have hpl : RL u1 (w.heap.size + 1) 30 [.string ⟨#[]⟩, .slice none 0 0, .slice none 0 0, .slice none 0 0] := World.rowIs.of_block (RL.below (RL.below HPL3.out HA6.out) (Below.refl _ _).drew) (hpx1.block _ (by omega) (by omega) (by omega))
        have hne : w3.heap.size ≠ w.heap.size + 1 := by omega
        refine ⟨a, xs.length, c, rfl, hrx, ⟨_, _, _, _, hpl⟩, World.rowIs.of_block hrx (pl4_block _ _ _ _ _ _ _ _ _ _ _ _ hne), xs, rfl, pl4_rl hpl _ _ _ _ _ _ _ _ _ _, pl4_below (hpx u1 hpx1) (Nat.le_succ _) _ _ _ _ _ _ _ _ _ _, ?_, hgt, ?_⟩
        · refine HFR.out _ ?_ (fun k hk1 hk2 => ?_)
          · have h4 : (pl4 u1 (w.heap.size + 1) r'.pr p'.a r'.hd.length p'.c p'.ba r'.bd.length p'.bc a xs.length c).heap.size = u1.heap.size := by simp [pl4, World.setCell]
            have := hpx1.size
            omega
          · have hk3 : w1.heap.size ≤ k := hk1
            have ht1 : tb < w1.heap.size := HTU.out.rl.lt
            have ht2 : kb < w1.heap.size := HTU.out.set.lt
            have hk4 : w.heap.size + 1 < w1.heap.size := HPW.out.lt
            rw [pl4_block _ _ _ _ _ _ _ _ _ _ _ _ (by omega)]
            exact (hpx1.block k (by omega) (by omega) (by omega)).trans (HA6.out.block k hk2)
        · exact ⟨ls_own (own_pl4 hown (g := w.heap.size + 1) (by omega) _ _ _ _ _ _ _ _ _ _), fun y hy => ls_own (own_pl4 (hgiv y hy) (g := w.heap.size + 1) (by omega) _ _ _ _ _ _ _ _ _ _)⟩
      rintro wc aa nn cc ⟨xs, rfl, hrl, hbw, hri, hgt, hlz⟩
      refine NoPanic.normal ?_
      rename_i hK
      refine hK _ _ ?_
      simp (config := { maxSteps := 8000000 }) only [Act.put, List.getElem_toArray, List.getElem_cons_zero, List.getElem_cons_succ, List.setIfInBounds_toArray, List.set_cons_succ, List.set_cons_zero]
      have HRS := Lib.hid hrl
      have HFF := Lib.hid (And.intro hbw (And.intro hri (And.intro hgt hlz)))
      clear hK hrl hbw hri hgt hlz HGT hpx
      go_wp2
      refine bodyPost_ret (rl_resPQ Tryz.results5 (v := .agg #[.string r'.pr, .slice p'.a r'.hd.length p'.c, .slice p'.ba r'.bd.length p'.bc, .slice aa xs.length cc]) (u := .int .i64 0) rfl rfl (load_PlP HRS.out rfl)) rfl ?_
      exact ⟨HFF.out.1, .inr (.inr ⟨HY.out.1, HY.out.2.1, fs, HY.out.2.2.1, .inr ⟨HY.out.2.2.2, .inr ⟨HFI.out, r', p', xs, aa, cc, rfl, HLK.out, HFF.out.2.1, HFF.out.2.2.1, HFF.out.2.2.2⟩⟩⟩)⟩
    · have dfi : (first != -1) = true := by rw [bne_iff_ne]; exact hfi
      have HFN := Lib.hid hfi
      have HTA := Lib.hid (turnAtom_any HTU.out (HR.out.below HWB.out).bd HD.out.bn HLW.out first)
      clear hfi
      go_wp2_with fail
      refine HTA.out.mono ?_
      rintro e w1 ⟨rfl, rfl⟩
      cases ha : isAtM r.bd (2 ^ r.bd.length - 1) first
      · have HF := Lib.hid ha
        clear ha HTA HAP
        go_wp2
        refine bodyPost_ret (rl_resPQ Tryz.results5 (v := noPl) (u := .int .i64 120) rfl rfl (load_PlP HNO.out.1 rfl)) rfl ?_
        exact ⟨HNO.out.2, .inr (.inr ⟨HY.out.1, HY.out.2.1, fs, HY.out.2.2.1, .inr ⟨HY.out.2.2.2, .inl ⟨HFN.out, HF.out, rfl⟩⟩⟩)⟩
      · have HFI : Hid (first = -1 ∨ isAtM r.bd (2 ^ r.bd.length - 1) first = true) := .inr ha
        have HFH : Hid (first = -1 ∨ hasB (2 ^ r.bd.length - 1) first = true) := .inr (by
          unfold isAtM at ha
          simp only [Bool.and_eq_true] at ha
          exact ha.1)
        clear ha HTA z0 z1 z2 z3 y0 y1 y2 y3
        go_wp2_with fail
        refine HAP.out.mono ?_
        rintro e w3 ⟨r', p', rfl, b3, hlike, hfr⟩
        have HLK := Lib.hid hlike
        have HFR := Lib.hid hfr
        have HB3 := Lib.hid b3
        have HPL3 := Lib.hid (RL.below HPW.out b3)
        have HA6 : Hid (Below w3.heap.size w3 (w3.alloc (.cells #[.string r'.pr, .slice p'.a r'.hd.length p'.c, .slice p'.ba r'.bd.length p'.bc] 25))) := belowA _
        have HRX := Lib.hid (rl_new w3 #[.string r'.pr, .slice p'.a r'.hd.length p'.c, .slice p'.ba r'.bd.length p'.bc] 25)
        clear HAP hlike hfr b3 hld2
        go_upto_region 7 with fail
        obtain ⟨V, hV⟩ : ∃ V, V = w3.alloc (.cells #[.string r'.pr, .slice p'.a r'.hd.length p'.c, .slice p'.ba r'.bd.length p'.bc] 25) := ⟨_, rfl⟩
        rw [← hV] at HA6 HRX ⊢
        have HZ3 : Hid (V.heap.size = w3.heap.size + 1) := by show _ = _; rw [hV]; simp
        clear hV
        have HBV : Hid (Below w1.heap.size w1 V) := HB3.out.trans (HA6.out.mono HB3.out.size)
        have HWV : Hid (Below w.heap.size w V) := HWB.out.trans (HBV.out.mono HWB.out.size)
        have HTV : Hid (TuIs V.drew tb kb (.slice p.ba r.bd.length p.bc) l (2 ^ r.bd.length - 1)) := ⟨RL.below (RL.below HTU.out.rl HBV.out) (Below.refl _ _).drew, (HTU.out.set.of_block (HBV.out.block kb HTU.out.set.lt)).of_block rfl, HTU.out.ne⟩
        have hpx : ∀ u, Px tb kb V.drew u → Below w.heap.size w u := fun u hu => HWV.out.trans (Px.below (w := V) ⟨hu.os, hu.tape, hu.output, hu.size, hu.block⟩ HWV.out.size (by have := HTB.out; omega) (by have := HKB.out; omega))
        have HGT := Lib.hid (goThrough_any (w := V.drew) (d := d + 1) HTV.out (fun u hu => (HR.out.below (hpx u hu)).bd) HD.out HLW.out (fun u hu => HDT.out.below (hpx u hu)) (fun x hx k ss => stM_sz (HR.out.bd.each x hx) ss k) first HFH.out)
        refine wp_region_noPanic ?_
        refine wp_region_held (S := fun u => RL u w3.heap.size 25 [.string r'.pr, .slice p'.a r'.hd.length p'.c, .slice p'.ba r'.bd.length p'.bc]) (by kernel_rfl) ?_
        refine pmk7 (w5 := V) (S := fun u => RL u w3.heap.size 25 [.string r'.pr, .slice p'.a r'.hd.length p'.c, .slice p'.ba r'.bd.length p'.bc]) (tb := tb) (b6 := w.heap.size + 1) (b10 := w3.heap.size) (first := first) (pr := r'.pr) (ra := p'.a) (rn := r'.hd.length) (rc := p'.c) (ba := p'.ba) (bn := r'.bd.length) (bc := p'.bc) (Pf := fun aa nn cc u => ∃ xs : List SX, nn = xs.length ∧ RL u (w.heap.size + 1) 30 [.string r'.pr, .slice p'.a r'.hd.length p'.c, .slice p'.ba r'.bd.length p'.bc, .slice aa xs.length cc] ∧ Below w.heap.size w u ∧ RIs u (d + 1) r' p' ∧ Gt (d + 1) r.bd l (2 ^ r.bd.length - 1) (firstM (d + 1) l r.bd (2 ^ r.bd.length - 1) first) (xs.map SX.s) ∧ Lz u (.slice aa xs.length cc) xs) rfl rfl rfl rfl rfl rfl rfl (by kernel_rfl) (by kernel_rfl) (by kernel_rfl) (by kernel_rfl) (by kernel_rfl) (by intros; assumption) (by simp) rfl rfl rfl rfl (RL.below HRX.out (Below.refl _ _).drew) (fun _ _ _ h => h) (fun u hu => load_ruP (RL.range hu) rfl) ?_ ?_
        · refine HGT.out.mono ?_
          rintro e u1 ⟨hpx1, xs, a, c, rfl, hgt, hown, hgiv⟩
          have h1 := HTB.out
          have h2 := HKB.out
          have h3 := HZ3.out
          have hw3 : w.heap.size + 2 ≤ w3.heap.size := Nat.le_trans (by have := HZW.out; have := HB1.out.size; omega) HB3.out.size
          have htl : tb < w3.heap.size := Nat.lt_of_lt_of_le HTU.out.rl.lt HB3.out.size
          have hkl : kb < w3.heap.size := Nat.lt_of_lt_of_le HTU.out.set.lt HB3.out.size
          have hV2 : V.drew.heap.size = V.heap.size := rfl
          have hrx : RL u1 w3.heap.size 25 [.string r'.pr, .slice p'.a r'.hd.length p'.c, .slice p'.ba r'.bd.length p'.bc] := World.rowIs.of_block (RL.below HRX.out (Below.refl _ _).drew) (hpx1.block _ (by omega) (by omega) (by omega))
          have hpl : RL u1 (w.heap.size + 1) 30 [.string ⟨#[]⟩, .slice none 0 0, .slice none 0 0, .slice none 0 0] := World.rowIs.of_block (RL.below (RL.below HPL3.out HA6.out) (Below.refl _ _).drew) (hpx1.block _ (by omega) (by omega) (by omega))
          have hne : w3.heap.size ≠ w.heap.size + 1 := by omega
          refine ⟨a, xs.length, c, rfl, hrx, ⟨_, _, _, _, hpl⟩, World.rowIs.of_block hrx (pl4_block _ _ _ _ _ _ _ _ _ _ _ _ hne), xs, rfl, pl4_rl hpl _ _ _ _ _ _ _ _ _ _, pl4_below (hpx u1 hpx1) (Nat.le_succ _) _ _ _ _ _ _ _ _ _ _, ?_, hgt, ?_⟩
          · refine HFR.out _ ?_ (fun k hk1 hk2 => ?_)
            · have h4 : (pl4 u1 (w.heap.size + 1) r'.pr p'.a r'.hd.length p'.c p'.ba r'.bd.length p'.bc a xs.length c).heap.size = u1.heap.size := by simp [pl4, World.setCell]
              have := hpx1.size
              omega
            · have hk3 : w1.heap.size ≤ k := hk1
              have ht1 : tb < w1.heap.size := HTU.out.rl.lt
              have ht2 : kb < w1.heap.size := HTU.out.set.lt
              have hk4 : w.heap.size + 1 < w1.heap.size := HPW.out.lt
              rw [pl4_block _ _ _ _ _ _ _ _ _ _ _ _ (by omega)]
              exact (hpx1.block k (by omega) (by omega) (by omega)).trans (HA6.out.block k hk2)
          · exact ⟨ls_own (own_pl4 hown (g := w.heap.size + 1) (by omega) _ _ _ _ _ _ _ _ _ _), fun y hy => ls_own (own_pl4 (hgiv y hy) (g := w.heap.size + 1) (by omega) _ _ _ _ _ _ _ _ _ _)⟩
        rintro wc aa nn cc ⟨xs, rfl, hrl, hbw, hri, hgt, hlz⟩
        refine NoPanic.normal ?_
        rename_i hK
        refine hK _ _ ?_
        simp (config := { maxSteps := 8000000 }) only [Act.put, List.getElem_toArray, List.getElem_cons_zero, List.getElem_cons_succ, List.setIfInBounds_toArray, List.set_cons_succ, List.set_cons_zero]
        have HRS := Lib.hid hrl
        have HFF := Lib.hid (And.intro hbw (And.intro hri (And.intro hgt hlz)))
        clear hK hrl hbw hri hgt hlz HGT hpx
        go_wp2
        refine bodyPost_ret (rl_resPQ Tryz.results5 (v := .agg #[.string r'.pr, .slice p'.a r'.hd.length p'.c, .slice p'.ba r'.bd.length p'.bc, .slice aa xs.length cc]) (u := .int .i64 0) rfl rfl (load_PlP HRS.out rfl)) rfl ?_
        exact ⟨HFF.out.1, .inr (.inr ⟨HY.out.1, HY.out.2.1, fs, HY.out.2.2.1, .inr ⟨HY.out.2.2.2, .inr ⟨HFI.out, r', p', xs, aa, cc, rfl, HLK.out, HFF.out.2.1, HFF.out.2.2.1, HFF.out.2.2.2⟩⟩⟩)⟩
end Go.Proofs.YteabclfhmapabaaGreatDoor
end
section
namespace Go.Proofs.YteabclfhmapabaaGreatDoor.PU
/-- rules: the same name, the same columns, the same literals -/
structure RSame (r s : R3) : Prop where
  pr : r.pr = s.pr
  hd : r.hd = s.hd
  bd : r.bd.map XL.x = s.bd.map XL.x
end Go.Proofs.YteabclfhmapabaaGreatDoor.PU
end
section
namespace Go.Proofs.YteabclfhmapabaaGreatDoor
open Go.RowKit Go.Maps
set_option linter.unusedVariables false
set_option linter.unusedSimpArgs false
attribute [local go_sem ↓] Go.wp_at_zero Go.wp_at_succ

/-- a way to decide what holds (no instance) -/
structure Dec where
  d : ∀ p : Prop, Decidable p
/-- are two things the same? -/
def eqB (dec : Dec) {α : Type} (a b : α) : Bool := @decide (a = b) (dec.d _)
variable {dec : Dec}
theorem eqB_t {α : Type} {a b : α} (h : a = b) : eqB dec a b = true := by unfold eqB; exact @decide_eq_true _ (dec.d _) h
theorem eqB_f {α : Type} {a b : α} (h : ¬ a = b) : eqB dec a b = false := by unfold eqB; exact @decide_eq_false _ (dec.d _) h
theorem eqB_eq {α : Type} {a b : α} (h : eqB dec a b = true) : a = b := by unfold eqB at h; exact @of_decide_eq_true _ (dec.d _) h
theorem eqB_ne {α : Type} {a b : α} (h : eqB dec a b = false) : ¬ a = b := by unfold eqB at h; exact @of_decide_eq_false _ (dec.d _) h
theorem neqT {x y : T} (h : x = y) (w : World) : (binOp .neq 48 (.agg #[.string x.v, .int .i8 x.a.k, .int .i64 x.a.n, .string x.a.s]) (.agg #[.string y.v, .int .i8 y.a.k, .int .i64 y.a.n, .string y.a.s])).run Tryz.prog w = .ok (.bool false) w := by
  have := run_neqT x y w
  rw [decide_eq_true h] at this
  exact this
theorem neqTn {x y : T} (h : ¬ x = y) (w : World) : (binOp .neq 48 (.agg #[.string x.v, .int .i8 x.a.k, .int .i64 x.a.n, .string x.a.s]) (.agg #[.string y.v, .int .i8 y.a.k, .int .i64 y.a.n, .string y.a.s])).run Tryz.prog w = .ok (.bool true) w := by
  have := run_neqT x y w
  rw [decide_eq_false h] at this
  exact this
theorem neqA {x y : A5} (h : x = y) (w : World) : (binOp .neq 125 (.agg #[.int .i8 x.g, .string x.t.v, .int .i8 x.t.a.k, .int .i64 x.t.a.n, .string x.t.a.s]) (.agg #[.int .i8 y.g, .string y.t.v, .int .i8 y.t.a.k, .int .i64 y.t.a.n, .string y.t.a.s])).run Tryz.prog w = .ok (.bool false) w := by
  subst h
  go_simp
theorem neqAn {x y : A5} (h : ¬ x = y) (w : World) : (binOp .neq 125 (.agg #[.int .i8 x.g, .string x.t.v, .int .i8 x.t.a.k, .int .i64 x.t.a.n, .string x.t.a.s]) (.agg #[.int .i8 y.g, .string y.t.v, .int .i8 y.t.a.k, .int .i64 y.t.a.n, .string y.t.a.s])).run Tryz.prog w = .ok (.bool true) w := by
  obtain ⟨g1, v1, k1, n1, s1⟩ := x
  obtain ⟨g2, v2, k2, n2, s2⟩ := y
  dsimp only
  by_cases hg : g1 = g2
  · by_cases hv : v1.toList = v2.toList
    · by_cases hk : k1 = k2
      · by_cases hn : n1 = n2
        · by_cases hs : s1.toList = s2.toList
          · have e1 := toList_inj hs
            have e2 := toList_inj hv
            subst hg hk hn e1 e2
            exact absurd rfl h
          · clear h
            go_simp
        · clear h
          go_simp
      · clear h
        go_simp
    · clear h
      go_simp
  · clear h
    go_simp
set_option maxHeartbeats 3200000 in
theorem sameTerms_any (v v' : Value) (ts us : List T) (w : World) (h1 : Lt w v ts) (h2 : Lt w v' us) :
    Calls Tryz.prog 90 #[v, v'] w fun r w' => r = .returned (.bool (eqB dec ts us)) ∧ Below w.heap.size w w' := by
  obtain ⟨a, c, rfl, hc1, hc2, hk⟩ := h1.form
  obtain ⟨a', c', rfl, hc1', hc2', hk'⟩ := h2.form
  have hmax : ts.length ≤ maxLen := Nat.le_trans hc1 hc2
  have hmax2 : us.length ≤ maxLen := Nat.le_trans hc1' hc2'
  unfold maxLen at hmax hmax2
  have HK : Hid _ := hk
  have HK' : Hid _ := hk'
  obtain ⟨BB, hBB⟩ : ∃ BB, eqB dec ts us = BB := ⟨_, rfl⟩
  rw [hBB]
  have HBB : Hid (eqB dec ts us = BB) := hBB
  clear hk hk' h1 h2 hc2 hc2' hBB
  by_cases hlen : us.length = ts.length
  · rw [hlen] at HK' hc1' ⊢
    have HLen : Hid (us.length = ts.length) := hlen
    clear hmax2 hlen
    go_enter Tryz.func90, Tryz.ntmps90
    go_wp2
    go_loopw [5] (fun i wr => ∃ k : Nat, k ≤ ts.length ∧ i = .int .i64 k ∧ Below w.heap.size w wr ∧ Hid (∀ j, j < k → atT ts j = atT us j)) (fun i _ => ts.length - (intOf i).toNat)
    case atStart => exact ⟨0, Nat.zero_le _, rfl, Below.refl _ _, fun j hj => absurd hj (by omega)⟩
    case round =>
    obtain ⟨k, hk, rfl, bel, HS⟩ := hrel
    by_cases hlt : k < ts.length
    · have hlt' : (k : Int) < (ts.length : Int) := by omega
      obtain ⟨g, off, rfl, hg, hKS⟩ := HK.out (by omega)
      obtain ⟨g2, off2, rfl, hg2, hKS2⟩ := HK'.out (by omega)
      obtain ⟨y0, y1, y2, y3⟩ := (hKS k hlt).below bel hg
      obtain ⟨z0, z1, z2, z3⟩ := (hKS2 k (by omega)).below bel hg2
      generalize hx : atT ts k = x at y0 y1 y2 y3
      generalize hy : atT us k = y at z0 z1 z2 z3
      have HX : Hid (_ = x) := hx
      have HY : Hid (_ = y) := hy
      by_cases hxy : x = y
      · have HXY : Hid (x = y) := hxy
        have hQ : ∀ u, (binOp .neq 48 (.agg #[.string x.v, .int .i8 x.a.k, .int .i64 x.a.n, .string x.a.s]) (.agg #[.string y.v, .int .i8 y.a.k, .int .i64 y.a.n, .string y.a.s])).run Tryz.prog u = .ok (.bool false) u := fun u => neqT hxy u
        clear hKS hKS2 hx hy hxy
        go_wp2_with fail
        go_quiet (fail)
        go_wp2
        go_roundw
        case rel => exact ⟨k + 1, by omega, by go_num, below_drewN bel _, fun j hj => by
          by_cases e : j = k
          · rw [e, HX.out, HY.out, HXY.out]
          · exact HS.out j (by omega)⟩
        case measure => simp [intOf]; omega
      · have HXY : Hid (¬ x = y) := hxy
        have hQ : ∀ u, (binOp .neq 48 (.agg #[.string x.v, .int .i8 x.a.k, .int .i64 x.a.n, .string x.a.s]) (.agg #[.string y.v, .int .i8 y.a.k, .int .i64 y.a.n, .string y.a.s])).run Tryz.prog u = .ok (.bool true) u := fun u => neqTn hxy u
        clear hKS hKS2 hx hy hxy
        go_wp2_with fail
        go_quiet (fail)
        go_wp2
        go_ret
        refine ⟨?_, below_drewN bel _⟩
        rw [← HBB.out, eqB_f (fun e => HXY.out (by rw [← HX.out, ← HY.out, e]))]
        rfl
    · obtain rfl : k = ts.length := by omega
      go_wp2
      go_ret
      refine ⟨?_, bel⟩
      rw [← HBB.out, eqB_t (by
        refine List.ext_getElem HLen.out.symm fun i h1 h2 => ?_
        have := HS.out i h1
        rw [atT_eq h1, atT_eq h2] at this
        exact this)]
      rfl
  · have hneq : ((ts.length : Int) != (us.length : Int)) = true := by simp only [bne_iff_ne, ne_eq]; omega
    have HN : Hid (¬ us.length = ts.length) := hlen
    clear hlen
    go_enter Tryz.func90, Tryz.ntmps90
    go_wp2
    go_ret
    refine ⟨?_, Below.refl _ _⟩
    rw [← HBB.out, eqB_f (fun e => HN.out (by rw [e]))]
    rfl
set_option maxHeartbeats 3200000 in
theorem sameArgs_any (v v' : Value) (ts us : List A5) (w : World) (h1 : La w v ts) (h2 : La w v' us) :
    Calls Tryz.prog 27 #[v, v'] w fun r w' => r = .returned (.bool (eqB dec ts us)) ∧ Below w.heap.size w w' := by
  obtain ⟨a, c, rfl, hc1, hc2, hk⟩ := h1.form
  obtain ⟨a', c', rfl, hc1', hc2', hk'⟩ := h2.form
  have hmax : ts.length ≤ maxLen := Nat.le_trans hc1 hc2
  have hmax2 : us.length ≤ maxLen := Nat.le_trans hc1' hc2'
  unfold maxLen at hmax hmax2
  have HK : Hid _ := hk
  have HK' : Hid _ := hk'
  obtain ⟨BB, hBB⟩ : ∃ BB, eqB dec ts us = BB := ⟨_, rfl⟩
  rw [hBB]
  have HBB : Hid (eqB dec ts us = BB) := hBB
  clear hk hk' h1 h2 hc2 hc2' hBB
  by_cases hlen : us.length = ts.length
  · rw [hlen] at HK' hc1' ⊢
    have HLen : Hid (us.length = ts.length) := hlen
    clear hmax2 hlen
    go_enter Tryz.func27, Tryz.ntmps27
    go_wp2
    go_loopw [5] (fun i wr => ∃ k : Nat, k ≤ ts.length ∧ i = .int .i64 k ∧ Below w.heap.size w wr ∧ Hid (∀ j, j < k → atA ts j = atA us j)) (fun i _ => ts.length - (intOf i).toNat)
    case atStart => exact ⟨0, Nat.zero_le _, rfl, Below.refl _ _, fun j hj => absurd hj (by omega)⟩
    case round =>
    obtain ⟨k, hk, rfl, bel, HS⟩ := hrel
    by_cases hlt : k < ts.length
    · have hlt' : (k : Int) < (ts.length : Int) := by omega
      obtain ⟨g, off, rfl, hg, hKS⟩ := HK.out (by omega)
      obtain ⟨g2, off2, rfl, hg2, hKS2⟩ := HK'.out (by omega)
      have ry := range_below (hKS k hlt) bel hg
      have rz := range_below (hKS2 k (by omega)) bel hg2
      generalize hx : atA ts k = x at ry
      generalize hy : atA us k = y at rz
      have y0 : wr.cell? ⟨g, off + k * 5, none⟩ = some (.int .i8 x.g) := ry 0 _ rfl
      have y1 : wr.cell? ⟨g, off + k * 5 + 1, none⟩ = some (.string x.t.v) := ry 1 _ rfl
      have y2 : wr.cell? ⟨g, off + k * 5 + 2, none⟩ = some (.int .i8 x.t.a.k) := ry 2 _ rfl
      have y3 : wr.cell? ⟨g, off + k * 5 + 3, none⟩ = some (.int .i64 x.t.a.n) := ry 3 _ rfl
      have y4 : wr.cell? ⟨g, off + k * 5 + 4, none⟩ = some (.string x.t.a.s) := ry 4 _ rfl
      have z0 : wr.cell? ⟨g2, off2 + k * 5, none⟩ = some (.int .i8 y.g) := rz 0 _ rfl
      have z1 : wr.cell? ⟨g2, off2 + k * 5 + 1, none⟩ = some (.string y.t.v) := rz 1 _ rfl
      have z2 : wr.cell? ⟨g2, off2 + k * 5 + 2, none⟩ = some (.int .i8 y.t.a.k) := rz 2 _ rfl
      have z3 : wr.cell? ⟨g2, off2 + k * 5 + 3, none⟩ = some (.int .i64 y.t.a.n) := rz 3 _ rfl
      have z4 : wr.cell? ⟨g2, off2 + k * 5 + 4, none⟩ = some (.string y.t.a.s) := rz 4 _ rfl
      have HX : Hid (_ = x) := hx
      have HY : Hid (_ = y) := hy
      by_cases hxy : x = y
      · have HXY : Hid (x = y) := hxy
        have hQ : ∀ u, (binOp .neq 125 (.agg #[.int .i8 x.g, .string x.t.v, .int .i8 x.t.a.k, .int .i64 x.t.a.n, .string x.t.a.s]) (.agg #[.int .i8 y.g, .string y.t.v, .int .i8 y.t.a.k, .int .i64 y.t.a.n, .string y.t.a.s])).run Tryz.prog u = .ok (.bool false) u := fun u => neqA hxy u
        clear hKS hKS2 ry rz hx hy hxy
        go_wp2_with fail
        go_quiet (fail)
        go_wp2
        go_roundw
        case rel => exact ⟨k + 1, by omega, by go_num, below_drewN bel _, fun j hj => by
          by_cases e : j = k
          · rw [e, HX.out, HY.out, HXY.out]
          · exact HS.out j (by omega)⟩
        case measure => simp [intOf]; omega
      · have HXY : Hid (¬ x = y) := hxy
        have hQ : ∀ u, (binOp .neq 125 (.agg #[.int .i8 x.g, .string x.t.v, .int .i8 x.t.a.k, .int .i64 x.t.a.n, .string x.t.a.s]) (.agg #[.int .i8 y.g, .string y.t.v, .int .i8 y.t.a.k, .int .i64 y.t.a.n, .string y.t.a.s])).run Tryz.prog u = .ok (.bool true) u := fun u => neqAn hxy u
        clear hKS hKS2 ry rz hx hy hxy
        go_wp2_with fail
        go_quiet (fail)
        go_wp2
        go_ret
        refine ⟨?_, below_drewN bel _⟩
        rw [← HBB.out, eqB_f (fun e => HXY.out (by rw [← HX.out, ← HY.out, e]))]
        rfl
    · obtain rfl : k = ts.length := by omega
      go_wp2
      go_ret
      refine ⟨?_, bel⟩
      rw [← HBB.out, eqB_t (by
        refine List.ext_getElem HLen.out.symm fun i h1 h2 => ?_
        have := HS.out i h1
        rw [atA_eq h1, atA_eq h2] at this
        exact this)]
      rfl
  · have hneq : ((ts.length : Int) != (us.length : Int)) = true := by simp only [bne_iff_ne, ne_eq]; omega
    have HN : Hid (¬ us.length = ts.length) := hlen
    clear hlen
    go_enter Tryz.func27, Tryz.ntmps27
    go_wp2
    go_ret
    refine ⟨?_, Below.refl _ _⟩
    rw [← HBB.out, eqB_f (fun e => HN.out (by rw [e]))]
    rfl
set_option maxHeartbeats 1600000 in
theorem sameAtom_any (pr pr' : ByteArray) (ts us : List T) (v v' : Value) (w : World) (h1 : Lt w v ts) (h2 : Lt w v' us) :
    Calls Tryz.prog 76 #[.agg #[.string pr, v], .agg #[.string pr', v']] w fun r w' => r = .returned (.bool (eqB dec (pr, ts) (pr', us))) ∧ Below w.heap.size w w' := by
  obtain ⟨a, c, rfl, hc1, hc2, -⟩ := h1.form
  obtain ⟨a', c', rfl, hc1', hc2', -⟩ := h2.form
  have BA := (Below.refl w.heap.size w).alloc (Nat.le_refl _) (.cells #[.string pr, .slice a ts.length c] 41)
  have BB := BA.alloc BA.size (.cells #[.string pr', .slice a' us.length c'] 41)
  have HL : Hid _ := sameTerms_any (dec := dec) _ _ ts us _ (h1.below BB) (h2.below BB)
  have HB : Hid (Below w.heap.size w _) := BB
  obtain ⟨R, hR⟩ : ∃ R, eqB dec (pr, ts) (pr', us) = R := ⟨_, rfl⟩
  rw [hR]
  have HR : Hid (eqB dec (pr, ts) (pr', us) = R) := hR
  clear h1 h2 BA BB hR
  by_cases hp : pr = pr'
  · subst hp
    have e0 : (pr.toList == pr.toList) = true := by simp
    have HE : Hid (R = eqB dec ts us) := by
      show R = _
      rw [← HR.out]
      cases e : eqB dec ts us
      · exact eqB_f (fun q => eqB_ne e (by injection q))
      · rw [eqB_eq e]; exact eqB_t rfl
    rw [HE.out]
    generalize eqB dec ts us = Q at HL
    go_enter Tryz.func76, Tryz.ntmps76
    go_wp2_with (go_at_call 90; refine Calls.mono HL.out ?_; rintro ee w1 ⟨rfl, b1⟩)
    go_ret
    exact ⟨rfl, HB.out.trans (b1.mono HB.out.size)⟩
  · have e0 : (pr.toList == pr'.toList) = false := by
      rw [beq_eq_false_iff_ne]
      exact fun h => hp (toList_inj h)
    have HN : Hid (R = false) := by show R = _; rw [← HR.out]; exact eqB_f (fun q => hp (by injection q))
    clear hp HL
    go_enter Tryz.func76, Tryz.ntmps76
    go_wp2
    go_ret
    exact ⟨by rw [HN.out]; rfl, HB.out⟩
end Go.Proofs.YteabclfhmapabaaGreatDoor
end
